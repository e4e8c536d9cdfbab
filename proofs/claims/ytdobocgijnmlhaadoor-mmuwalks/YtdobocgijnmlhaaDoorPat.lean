/- Patches as an argument. -/
import Derived.Test.YtdobocgijnmlhaaDoorM6
import Derived.Deep.SlicePairs
import Derived.ChangeMaps5
namespace Go.Proofs.YtdobocgijnmlhaaDoor
open Go.ChangeShapes Go.WideShapes Go.ChangeAt Go.RowKit Go.Deep
open Go.Vx

theorem own : ownKnob Tryd.prog.godebug = none := by kernel_rfl
theorem laidOut : laidOutB Tryd.prog = true := by kernel_rfl
theorem cPatch : Tryd.prog.cellsOf 34 = 2 := by kernel_rfl
theorem cInt : Tryd.prog.cellsOf 3 = 1 := by kernel_rfl
theorem cStr : Tryd.prog.cellsOf 9 = 1 := by kernel_rfl
def numOf : Value → Int
  | .int _ n => n
  | _ => 0
def strOf : Value → List UInt8
  | .string s => s.data.toList
  | _ => []
theorem open_patches {H : Type} {enc : TypeId × Value → H} {W : World} {a0 : Option Addr} {len cap fuel : Nat} {x : DataW H × List MemPlace} (hf : DataW.trod enc Tryd.prog W 0 (fun _ => true) true fuel 25 (Value.slice a0 len cap).cells.toList = some x) :
    ∃ zs : List (Int × List UInt8), zs.length = len ∧ len ≤ cap ∧ cap ≤ maxLen ∧ PatAt W a0 zs ∧ ∀ z ∈ zs, (-9223372036854775808 ≤ z.1 ∧ z.1 ≤ 9223372036854775807) ∧ z.2.length ≤ maxLen := by
  rcases open_slice_pairs Tryd.underlying25 Tryd.underlying34 cPatch rfl rfl cInt cStr hf with ⟨hc, hx⟩ | ⟨a, len', cap', m, k, V0, V1, D0, D1, P0, P1, hc, _, hl, hm, hmm, hx, hall⟩
  · simp [Value.cells] at hc
    obtain ⟨rfl, rfl, rfl⟩ := hc
    exact ⟨[], rfl, Nat.le_refl _, by decide, Or.inl rfl, by simp⟩
  · simp [Value.cells] at hc
    obtain ⟨rfl, rfl, rfl⟩ := hc
    simp only [if_true] at hmm
    subst hmm
    have h0 : ∀ i, i < m → V0 i = .int .i64 (numOf (V0 i)) ∧ (-9223372036854775808 ≤ numOf (V0 i) ∧ numOf (V0 i) ≤ 9223372036854775807) := fun i hi => by
      obtain ⟨n, h1, _, hw⟩ := DataW.trod_int Tryd.underlying3 (hall i hi).2.2.1
      simp only [List.cons.injEq, and_true] at h1
      rw [h1]
      exact ⟨rfl, bounds_i64 hw⟩
    have h1 : ∀ i, i < m → V1 i = .string ⟨(strOf (V1 i)).toArray⟩ ∧ (strOf (V1 i)).length ≤ maxLen := fun i hi => by
      obtain ⟨s, h1, _, hw⟩ := DataW.trod_string Tryd.underlying9 (hall i hi).2.2.2
      simp only [List.cons.injEq, and_true] at h1
      rw [h1]
      exact ⟨by simp only [strOf, Array.toArray_toList], by show s.data.toList.length ≤ maxLen; rw [Array.length_toList]; exact hw⟩
    refine ⟨(List.range len).map fun i => (numOf (V0 i), strOf (V1 i)), by simp, hl, hm, ?_, ?_⟩
    · by_cases hz : len = 0
      · subst hz
        exact Or.inl rfl
      · right
        obtain ⟨ab, ao, sp⟩ := a
        have hspot : sp = none := by simpa [Addr.add] using World.cell?_spot (hall 0 (by omega)).1
        subst hspot
        refine ⟨ab, ao, rfl, fun j hj => ?_⟩
        have hj' : j < len := by simpa using hj
        have hh := hall j (by omega)
        rw [addr_add, addr_add, ← Nat.add_assoc] at hh
        simp only [List.getElem_map, List.getElem_range]
        rw [← (h0 j (by omega)).1, ← (h1 j (by omega)).1]
        exact ⟨hh.1, hh.2.1⟩
    · intro z hz
      simp only [List.mem_map, List.mem_range] at hz
      obtain ⟨i, hi, rfl⟩ := hz
      exact ⟨(h0 i (by omega)).2, (h1 i (by omega)).2⟩
end Go.Proofs.YtdobocgijnmlhaaDoor

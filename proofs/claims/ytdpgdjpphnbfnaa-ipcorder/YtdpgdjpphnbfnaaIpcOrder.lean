/- IpcOrder: acts as an argument; its row. -/
import Derived.Test.YtdpgdjpphnbfnaaIO4
import Derived.Test.YtdpgdjpphnbfnaaPC0
import Derived.Test.YtdpgdjpphnbfnaaRows
import Derived.ProofKit
import Derived.LaidMore
import Derived.OpenShut
import Derived.Stop.Joined
import Derived.SevenTiedAt
import Derived.Deep.Strs
namespace Go.Proofs.Ytdpgdjpphnbfnaa
open Go.ChangeShapes Go.WideShapes Go.ChangeAt Go.RowKit Go.Deep
open Go.Vx

theorem two_of2 {α : Type} : ∀ (l : List α), l.length = 2 → ∃ a b, l = [a, b]
  | [a, b], _ => ⟨a, b, rfl⟩
  | [], h => by simp at h
  | [_], h => by simp at h
  | _ :: _ :: _ :: _, h => by simp at h
theorem cAct : Try.prog.cellsOf 61 = 2 := by kernel_rfl
theorem open_acts {H : Type} {enc : TypeId × Value → H} {W : World} {a0 : Option Addr} {len cap fuel : Nat} {x : DataW H × List MemPlace} (hf : DataW.trod enc Try.prog W 0 (fun _ => true) true fuel 58 (Value.slice a0 len cap).cells.toList = some x) :
    ∃ zs : List (Int × Int), zs.length = len ∧ len ≤ cap ∧ cap ≤ maxLen ∧ AcAt W a0 zs ∧ ∀ z ∈ zs, I64 z.1 ∧ I64 z.2 := by
  rcases open_slice Try.underlying58 hf with ⟨hc, _⟩ | ⟨a, len', cap', m, n, D, Pl, hc, _, hl, hm, hmm, _, hx⟩
  · simp [Value.cells] at hc
    obtain ⟨rfl, rfl, rfl⟩ := hc
    exact ⟨[], rfl, Nat.le_refl _, by decide, Or.inl rfl, by simp⟩
  · simp [Value.cells] at hc
    obtain ⟨rfl, rfl, rfl⟩ := hc
    simp only [if_true] at hmm
    subst hmm
    have each : ∀ i, i < m → ∃ z : Int × Int, (I64 z.1 ∧ I64 z.2) ∧ W.cell? (a.add (i * 2)) = some (.int .i64 z.1) ∧ W.cell? (a.add (i * 2 + 1)) = some (.int .i64 z.2) := by
      intro i hi
      obtain ⟨cs', h1, h2⟩ := hx i hi
      rw [cAct] at h1
      obtain ⟨_, hlen, hcell⟩ := World.cells?_some h1
      obtain ⟨xs, k, hk, hxy, _, hxl, hfld⟩ := DataW.trod_struct Try.underlying61 h2
      obtain ⟨y0, y1, rfl⟩ := two_of2 xs hxl
      obtain ⟨v0, v1, rfl⟩ := two_of2 cs' hlen
      have g0 := hfld 0 _ rfl
      have g1 := hfld 1 _ rfl
      simp [cInt] at g0 g1
      obtain ⟨n0, q0, _, b0⟩ := DataW.trod_int Try.underlying3 g0
      obtain ⟨n1, q1, _, b1⟩ := DataW.trod_int Try.underlying3 g1
      simp only [List.cons.injEq, and_true] at q0 q1
      subst q0 q1
      have e0 := hcell 0 (by decide)
      have e1 := hcell 1 (by decide)
      rw [add_add] at e0 e1
      exact ⟨⟨n0, n1⟩, ⟨bounds_i64 b0, bounds_i64 b1⟩, by simpa using e0, by simpa using e1⟩
    haveI : Inhabited (Int × Int) := ⟨⟨0, 0⟩⟩
    obtain ⟨Z, hZ⟩ := choose_lt each
    refine ⟨(List.range len).map Z, by simp, hl, hm, ?_, ?_⟩
    · by_cases hz : len = 0
      · subst hz
        exact Or.inl rfl
      · right
        obtain ⟨ab, ao, sp⟩ := a
        have hspot : sp = none := by simpa [Addr.add] using World.cell?_spot (hZ 0 (by omega)).2.1
        subst hspot
        refine ⟨ab, ao, rfl, fun j hj => ?_⟩
        have hj' : j < len := by simpa using hj
        have hh := (hZ j (by omega)).2
        simp only [addr_add, ← Nat.add_assoc] at hh
        simp only [List.getElem_map, List.getElem_range]
        exact hh
    · intro z hz
      simp only [List.mem_map, List.mem_range] at hz
      obtain ⟨i, hi, rfl⟩ := hz
      exact (hZ i (by omega)).1
set_option maxRecDepth 100000 in
theorem ipcOrder_lifted (os : Os) (started : os.Started) (H : Type) (enc : TypeId × Value → H) :
    ReturnsInHanded {} Try.checked os 4 .any (Rows.ipcOrderSpec.pre6 enc Try.prog Try.f4 Rows.ipcOrderRow.domain false) (Rows.ipcOrderSpec.post enc Try.prog Try.f4 false true false false) := by
  refine returnsInHanded_of_change (C := Try.checked) own started (by kernel_rfl) Try.func4
    (ChangeSpec.witness6 (enc := enc) (C := Try.checked) false ⟨#[], #[.slice none 0 0], []⟩ 8 (by kernel_rfl) (by kernel_rfl) (by kernel_rfl) (by kernel_rfl)) ?_
  intro W base args ds gs before hval0 hW hcnd _
  have hval : ∀ (j : Nat) t v, Try.f4.params[j]? = some t → args[j]? = some v → Value.okWide Try.prog W .any base t v := hval0
  have hW' := hW
  obtain ⟨p, q, hA0, hV, rfl, hfz, hnd⟩ := hW
  have hA : DataW.TrodAll enc Try.prog W 0 (fun _ => true) true Try.f4.params.toList args.toList ds p := hA0
  rw [Try.params4] at hA hval
  obtain ⟨v0, d0, rfl, rfl, h0⟩ := trodAll_one hA
  obtain ⟨rfl, rfl⟩ := trodVars_none hV
  obtain ⟨a0, len, cap, rfl⟩ := okWide_slice Try.underlying58 (hval 0 58 v0 rfl rfl)
  clear hA0 hval0
  simp only [List.append_nil] at hW'
  have hlt : ∀ x ∈ p, x.block < W.heap.size := fun x hx => by simpa using hW'.lt x hx
  have hcall : Calls Try.prog 4 #[.slice a0 len cap] W fun e w' => e = .returned (.bool true) ∧ Below W.heap.size W w' := by
    obtain ⟨fuel, hf⟩ := h0
    obtain ⟨zs, hl, hlc, hcm, hp, hz⟩ := open_acts hf
    exact ipcOrder_call W a0 len cap zs hl hlc hcm hp hz
  refine hcall.mono fun e W' ⟨he, hb⟩ => ?_
  subst he
  exact ⟨_, rfl, _, _, _, [], _, [], hW', trodAll_mk1 (shut_bool Try.underlying4 _), trodAll_mk1 (Below.trod laidOut (by kernel_rfl) (of_decide_eq_true (by kernel_rfl)) h0 hb hlt), rfl, hb.frame _, fun h => by cases h⟩
/-- The statement. -/
theorem ipcOrder_holds : Rows.IpcOrderSaid :=
  OpenClaim.holds_of_wide 4 Try.f4 rfl rfl rfl rfl rfl rfl rfl ⟨rfl, rfl, rfl, rfl, rfl⟩ rfl rfl rfl rfl rfl (by kernel_rfl) Try.func4 (by kernel_rfl)
    (of_decide_eq_true (by kernel_rfl)) (by unfold Func.isWrapper; first | (rw [if_pos (by decide +kernel)]; kernel_rfl) | (rw [if_neg (by decide +kernel)]; exact ⟨rfl, rfl⟩))
    (fun os started H enc _ => ipcOrder_lifted os started H enc)
#print axioms ipcOrder_holds
end Go.Proofs.Ytdpgdjpphnbfnaa

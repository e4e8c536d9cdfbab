import Derived.Test.YtdpgdjpphnbfnaaCi1
import Derived.Deep.SlicePairs
import Derived.ChangeMaps5
import Derived.Test.YtdpgdjpphnbfnaaCi5
import Derived.ProofKit
import Derived.LaidMore
import Derived.OpenShut
import Derived.Stop.Joined
import Derived.SevenTiedAt
import Derived.Deep.Strs
/- Small facts of the program and of values. -/
namespace Go.Proofs.Ytdpgdjpphnbfnaa
open Go.ChangeShapes Go.WideShapes Go.ChangeAt Go.RowKit Go.Deep
open Go.Vx

theorem own : ownKnob Try.prog.godebug = none := by kernel_rfl
theorem laidOut : laidOutB Try.prog = true := by kernel_rfl
theorem cInt : Try.prog.cellsOf 3 = 1 := by kernel_rfl
theorem cStr : Try.prog.cellsOf 9 = 1 := by kernel_rfl
def numOf : Value → Int
  | .int _ n => n
  | _ => 0
def strOf : Value → List UInt8
  | .string s => s.data.toList
  | _ => []
end Go.Proofs.Ytdpgdjpphnbfnaa

/- A script as an argument. -/
namespace Go.Proofs.Ytdpgdjpphnbfnaa
open Go.ChangeShapes Go.WideShapes Go.ChangeAt Go.RowKit Go.Deep
open Go.Vx

structure Stp where
  k : Int
  a : Int
  b : Int
  c : Int
  d : Int
  s : List UInt8
def Stp.ok (z : Stp) : Prop := I64 z.k ∧ I64 z.a ∧ I64 z.b ∧ I64 z.c ∧ I64 z.d ∧ z.s.length ≤ 9223372036854775807
/-- A script, where it lies. -/
def ScAt (w : World) (pa : Option Addr) (zs : List Stp) : Prop :=
  zs = [] ∨ ∃ ab ao, pa = some ⟨ab, ao, none⟩ ∧ ∀ (j : Nat) (h : j < zs.length), w.cell? ⟨ab, ao + j * 6, none⟩ = some (.int .i64 (zs[j]).k) ∧ w.cell? ⟨ab, ao + j * 6 + 1, none⟩ = some (.int .i64 (zs[j]).a) ∧ w.cell? ⟨ab, ao + j * 6 + 2, none⟩ = some (.int .i64 (zs[j]).b) ∧ w.cell? ⟨ab, ao + j * 6 + 3, none⟩ = some (.int .i64 (zs[j]).c) ∧ w.cell? ⟨ab, ao + j * 6 + 4, none⟩ = some (.int .i64 (zs[j]).d) ∧ w.cell? ⟨ab, ao + j * 6 + 5, none⟩ = some (.string ⟨(zs[j]).s.toArray⟩)
theorem six_of {α : Type} : ∀ (l : List α), l.length = 6 → ∃ a b c d e f, l = [a, b, c, d, e, f]
  | [a, b, c, d, e, f], _ => ⟨a, b, c, d, e, f, rfl⟩
  | [], h => by simp at h
  | [_], h => by simp at h
  | [_, _], h => by simp at h
  | [_, _, _], h => by simp at h
  | [_, _, _, _], h => by simp at h
  | [_, _, _, _, _], h => by simp at h
  | _ :: _ :: _ :: _ :: _ :: _ :: _ :: _, h => by simp at h
theorem cOp : Try.prog.cellsOf 50 = 6 := by kernel_rfl
theorem open_ops {H : Type} {enc : TypeId × Value → H} {W : World} {a0 : Option Addr} {len cap fuel : Nat} {x : DataW H × List MemPlace} (hf : DataW.trod enc Try.prog W 0 (fun _ => true) true fuel 22 (Value.slice a0 len cap).cells.toList = some x) :
    ∃ zs : List Stp, zs.length = len ∧ len ≤ cap ∧ cap ≤ maxLen ∧ ScAt W a0 zs ∧ ∀ z ∈ zs, z.ok := by
  rcases open_slice Try.underlying22 hf with ⟨hc, _⟩ | ⟨a, len', cap', m, n, D, Pl, hc, _, hl, hm, hmm, _, hx⟩
  · simp [Value.cells] at hc
    obtain ⟨rfl, rfl, rfl⟩ := hc
    exact ⟨[], rfl, Nat.le_refl _, by decide, Or.inl rfl, by simp⟩
  · simp [Value.cells] at hc
    obtain ⟨rfl, rfl, rfl⟩ := hc
    simp only [if_true] at hmm
    subst hmm
    have each : ∀ i, i < m → ∃ z : Stp, z.ok ∧ W.cell? (a.add (i * 6)) = some (.int .i64 z.k) ∧ W.cell? (a.add (i * 6 + 1)) = some (.int .i64 z.a) ∧ W.cell? (a.add (i * 6 + 2)) = some (.int .i64 z.b) ∧ W.cell? (a.add (i * 6 + 3)) = some (.int .i64 z.c) ∧ W.cell? (a.add (i * 6 + 4)) = some (.int .i64 z.d) ∧ W.cell? (a.add (i * 6 + 5)) = some (.string ⟨z.s.toArray⟩) := by
      intro i hi
      obtain ⟨cs', h1, h2⟩ := hx i hi
      rw [cOp] at h1
      obtain ⟨_, hlen, hcell⟩ := World.cells?_some h1
      obtain ⟨xs, k, hk, hxy, _, hxl, hfld⟩ := DataW.trod_struct Try.underlying50 h2
      obtain ⟨y0, y1, y2, y3, y4, y5, rfl⟩ := six_of xs hxl
      obtain ⟨v0, v1, v2, v3, v4, v5, rfl⟩ := six_of cs' hlen
      have g0 := hfld 0 _ rfl
      have g1 := hfld 1 _ rfl
      have g2 := hfld 2 _ rfl
      have g3 := hfld 3 _ rfl
      have g4 := hfld 4 _ rfl
      have g5 := hfld 5 _ rfl
      simp [cInt, cStr] at g0 g1 g2 g3 g4 g5
      obtain ⟨n0, q0, _, b0⟩ := DataW.trod_int Try.underlying3 g0
      obtain ⟨n1, q1, _, b1⟩ := DataW.trod_int Try.underlying3 g1
      obtain ⟨n2, q2, _, b2⟩ := DataW.trod_int Try.underlying3 g2
      obtain ⟨n3, q3, _, b3⟩ := DataW.trod_int Try.underlying3 g3
      obtain ⟨n4, q4, _, b4⟩ := DataW.trod_int Try.underlying3 g4
      obtain ⟨t, q5, _, b5⟩ := DataW.trod_string Try.underlying9 g5
      simp only [List.cons.injEq, and_true] at q0 q1 q2 q3 q4 q5
      subst q0 q1 q2 q3 q4 q5
      have e0 := hcell 0 (by decide)
      have e1 := hcell 1 (by decide)
      have e2 := hcell 2 (by decide)
      have e3 := hcell 3 (by decide)
      have e4 := hcell 4 (by decide)
      have e5 := hcell 5 (by decide)
      rw [add_add] at e0 e1 e2 e3 e4 e5
      refine ⟨⟨n0, n1, n2, n3, n4, t.data.toList⟩, ⟨bounds_i64 b0, bounds_i64 b1, bounds_i64 b2, bounds_i64 b3, bounds_i64 b4, ?_⟩, by simpa using e0, by simpa using e1, by simpa using e2, by simpa using e3, by simpa using e4, ?_⟩
      · show t.data.toList.length ≤ 9223372036854775807
        rw [Array.length_toList]
        exact b5
      · rw [show (⟨t.data.toList.toArray⟩ : ByteArray) = t by simp only [Array.toArray_toList]]
        simpa using e5
    haveI : Inhabited Stp := ⟨⟨0, 0, 0, 0, 0, []⟩⟩
    obtain ⟨Z, hZ⟩ := choose_lt each
    refine ⟨(List.range len).map Z, by simp, hl, hm, ?_, ?_⟩
    · by_cases hz : len = 0
      · subst hz
        exact Or.inl rfl
      · right
        obtain ⟨ab, ao, sp⟩ := a
        have hspot : sp = none := by simpa [Addr.add] using World.cell?_spot (hZ 0 (by omega)).2.1
        subst hspot
        refine ⟨ab, ao, rfl, fun j hj => ?_⟩
        have hj' : j < len := by simpa using hj
        have hh := (hZ j (by omega)).2
        simp only [addr_add, ← Nat.add_assoc] at hh
        simp only [List.getElem_map, List.getElem_range]
        exact hh
    · intro z hz
      simp only [List.mem_map, List.mem_range] at hz
      obtain ⟨i, hi, rfl⟩ := hz
      exact (hZ i (by omega)).1
end Go.Proofs.Ytdpgdjpphnbfnaa

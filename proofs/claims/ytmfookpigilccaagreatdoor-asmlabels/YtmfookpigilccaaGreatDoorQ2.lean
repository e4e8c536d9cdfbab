/- Walks of package asm's reader: next, must, atLabel, opOf, isName. -/
import Derived.Test.YtmfookpigilccaaGreatDoorQ1
import Derived.Test.YtmfookpigilccaaGreatDoorW8
namespace Go.Proofs.YtmfookpigilccaaGreatDoor
open Go.ChangeShapes Go.WideShapes Go.ChangeAt Go.RowKit
open Go.Vx (tokB tokF spanN strV labB labN digitB Only nameB)

/-- A slice of strings that lies below block B. -/
def SlStr (w : World) (B : Nat) (v : Value) (ts : List (List UInt8)) : Prop :=
  ∃ p n c, v = .slice p n c ∧ n = ts.length ∧ n ≤ c ∧ (ts = [] ∨ ∃ g o, p = some ⟨g, o, none⟩ ∧ g < B ∧ ∀ (j : Nat) (h : j < ts.length), w.cell? ⟨g, o + j, none⟩ = some (strV ts[j]))
/-- A reader at block b, and the tokens that are left. -/
def RdAt (w : World) (b : Nat) (ts : List (List UInt8)) : Prop :=
  b < w.heap.size ∧ ∃ v, w.cell? ⟨b, 0, none⟩ = some v ∧ w.frozen? ⟨b, 0, none⟩ = false ∧ SlStr w b v ts
theorem SlStr.only {S : Nat → Prop} {w w' : World} {B : Nat} {v : Value} {ts : List (List UInt8)} (h : SlStr w B v ts) (ho : Only S w w') (hB : B ≤ w.heap.size) (hS : ∀ k, k < B → ¬ S k) : SlStr w' B v ts := by
  obtain ⟨p, n, c, hv, hn, hc, h1⟩ := h
  refine ⟨p, n, c, hv, hn, hc, ?_⟩
  rcases h1 with h1 | ⟨g, o, hp, hg, hj⟩
  · exact Or.inl h1
  · refine Or.inr ⟨g, o, hp, hg, fun j hjl => ?_⟩
    rw [ho.cell (p := ⟨g, o + j, none⟩) (by show g < _; omega) (hS g hg)]
    exact hj j hjl
theorem RdAt.only {S : Nat → Prop} {w w' : World} {b : Nat} {ts : List (List UInt8)} (h : RdAt w b ts) (ho : Only S w w') (hS : ∀ k, k ≤ b → ¬ S k) : RdAt w' b ts := by
  obtain ⟨hb, v, hc, hf, hs⟩ := h
  refine ⟨Nat.lt_of_lt_of_le hb ho.size, v, ?_, ?_, hs.only ho (by omega) (fun k hk => hS k (by omega))⟩
  · rw [ho.cell (p := ⟨b, 0, none⟩) hb (hS b (Nat.le_refl _))]; exact hc
  · rw [ho.frozen (p := ⟨b, 0, none⟩) hb (hS b (Nat.le_refl _))]; exact hf
theorem RdAt.set {w : World} {b : Nat} {v v' : Value} {ts : List (List UInt8)} (hb : b < w.heap.size) (hc : w.cell? ⟨b, 0, none⟩ = some v) (hf : w.frozen? ⟨b, 0, none⟩ = false) (hs : SlStr w b v' ts) :
    RdAt (w.setCell ⟨b, 0, none⟩ v') b ts ∧ Only (fun k => k = b) w (w.setCell ⟨b, 0, none⟩ v') := by
  have ho : Only (fun k => k = b) w (w.setCell ⟨b, 0, none⟩ v') := Only.setCell (S := fun k => k = b) (Only.refl _ w) (p := ⟨b, 0, none⟩) (Or.inl rfl) v'
  refine ⟨⟨Nat.lt_of_lt_of_le hb ho.size, v', ?_, ?_, hs.only ho (by omega) (fun k hk => by omega)⟩, ho⟩
  · exact World.cell?_setCell_same _ _ _ (by rw [hc])
  · simp [go_sem]; exact hf

theorem sz9 (w : World) : (sizeOf 9).run Tryz.prog w = .ok 1 w := by kernel_rfl
set_option maxRecDepth 100000 in
set_option maxHeartbeats 1000000 in
theorem next_some (b : Nat) (t : List UInt8) (ts : List (List UInt8)) (hl : ts.length ≤ 30000) (w : World) (h : RdAt w b (t :: ts)) :
    Calls Tryz.prog 57 #[.pointer (some ⟨b, 0, none⟩)] w fun e w' => e = .returned (strV t) ∧ RdAt w' b ts ∧ Only (fun k => k = b) w w' := by
  obtain ⟨hb, v, hc, hf, p, n, c, rfl, hn, hnc, h1⟩ := h
  rcases h1 with h1 | ⟨g, o, rfl, hg, hj⟩
  · cases h1
  have hc0 : w.cell? ⟨g, o, none⟩ = some (strV t) := hj 0 (by simp)
  have HN : Hid (n = ts.length + 1) := by show n = _; simpa using hn
  have hne : ((n : Int) == 0) = false := by rw [beq_eq_false_iff_ne]; have := HN.out; omega
  have h1n : (1 : Int) ≤ (n : Int) := by have := HN.out; omega
  have hlt : 0 ≤ (0 : Int) ∧ (0 : Int) < (n : Int) := by have := HN.out; omega
  obtain ⟨p', hp'⟩ : ∃ p' : Option Addr, (if c = 1 then some ⟨g, o, none⟩ else some ⟨g, o + 1, none⟩) = p' := ⟨_, rfl⟩
  obtain ⟨n', hn'⟩ : ∃ n' : Nat, n - 1 = n' := ⟨_, rfl⟩
  obtain ⟨c', hc'⟩ : ∃ c' : Nat, c - 1 = c' := ⟨_, rfl⟩
  have hsl : ∀ wv : World, (Instr.slice 37 (.slice (some ⟨g, o, none⟩) n c) (some (.int .i64 1)) none none).run Tryz.prog wv = .ok (.slice p' n' c') wv := by
    intro wv
    have e1 : Tryz.prog.elem 37 = 9 := by kernel_rfl
    rw [run_slice_l (P := Tryz.prog) (t := 37) (w := wv) (a := some ⟨g, o, none⟩) (len := n) (cap := c) (by rw [e1]; exact Tryz.underlying37) .i64 1 (by decide) h1n]
    rw [e1, sz9, ← hp', ← hn', ← hc']
    rfl
  have HV : Hid ((if c = 1 then some ⟨g, o, none⟩ else some ⟨g, o + 1, none⟩) = p' ∧ n - 1 = n' ∧ c - 1 = c') := ⟨hp', hn', hc'⟩
  have HS : Hid (∀ j (h : j < ts.length), w.cell? ⟨g, o + 1 + j, none⟩ = some (strV ts[j])) := by
    intro j hj'
    have := hj (j + 1) (by simpa using hj')
    rw [show o + 1 + j = o + (j + 1) by omega]
    simpa using this
  have HC : Hid (w.cell? ⟨b, 0, none⟩ = some (.slice (some ⟨g, o, none⟩) n c)) := hc
  have HF : Hid (w.frozen? ⟨b, 0, none⟩ = false) := hf
  clear hj hn hp' hn' hc'
  go_enter Tryz.func57, Tryz.ntmps57
  go_wp2
  go_ret
  have hn := HN.out
  obtain ⟨hp', hn', hc'⟩ := HV.out
  refine ⟨rfl, RdAt.set hb HC.out HF.out ⟨_, _, _, rfl, by omega, by omega, ?_⟩⟩
  rw [← hp']
  by_cases he : ts = []
  · exact Or.inl he
  · have : 0 < ts.length := List.length_pos_iff.2 he
    rw [if_neg (by omega)]
    exact Or.inr ⟨g, o + 1, rfl, hg, HS.out⟩
theorem next_none (b : Nat) (w : World) (h : RdAt w b []) :
    Calls Tryz.prog 57 #[.pointer (some ⟨b, 0, none⟩)] w fun e w' => e = .returned (strV []) ∧ w' = w := by
  obtain ⟨hb, v, hc, hf, p, n, c, rfl, hn, hnc, h1⟩ := h
  have hn0 : n = 0 := by simpa using hn
  subst hn0
  clear hn
  go_enter Tryz.func57, Tryz.ntmps57
  go_wp2
  go_ret
  exact ⟨rfl, rfl⟩
/-- A mark that must stand here, and stands here. -/
theorem must_ok (b : Nat) (t : List UInt8) (ts : List (List UInt8)) (hl : ts.length ≤ 30000) (w : World) (h : RdAt w b (t :: ts)) :
    Calls Tryz.prog 59 #[.pointer (some ⟨b, 0, none⟩), strV t] w fun e w' => e = .returned (.tuple #[]) ∧ RdAt w' b ts ∧ Only (fun k => k = b) w w' := by
  have HR : Hid (RdAt w b (t :: ts)) := h
  clear h
  go_enter Tryz.func59, Tryz.ntmps59
  go_wp2_with fail
  refine (next_some b t ts hl _ HR.out).mono ?_
  rintro e w1 ⟨rfl, hr, ho⟩
  have HR1 : Hid (RdAt w1 b ts ∧ Only (fun k => k = b) w w1) := ⟨hr, ho⟩
  clear hr ho
  unfold strV
  have hqt : (t != t) = false := by simp
  go_wp2
  first | go_end0 | refine bodyPost_ret (results_none rfl _ _ _) rfl ?_
  exact ⟨rfl, HR1.out⟩
end Go.Proofs.YtmfookpigilccaaGreatDoor

import Derived.Test.YtbmchgjilkoplaaDoorCk23
import Derived.Test.YtbmchgjilkoplaaDoorCk24
/- Chapter 7, the program's store: Size, there, full, empty. -/
namespace Go.Proofs.YtbmchgjilkoplaaDoor
open Go.ChangeShapes Go.WideShapes Go.ChangeAt Go.RowKit
open Go.Vx
set_option linter.unusedVariables false
variable {U : Nat → Prop} {w : World} {xb mb : Nat} {D : DataW Value} {G : Int → Nat} {bs : List (Int × Int)} {Q : Sl → Pl}

theorem lookV_some {n k : Int} (h : sizeF bs k = some n) : lookV G bs k = .slice (some ⟨G k, 0, none⟩) n.toNat n.toNat := by unfold lookV; rw [h]
theorem lookV_none {k : Int} (h : sizeF bs k = none) : lookV G bs k = .slice none 0 0 := by unfold lookV; rw [h]
theorem xsize_ok (h : XsAt U w xb mb D G bs Q) (k : Int) (hk : I64 k) : Calls Tryd.prog 12 #[.pointer (some ⟨xb, 0, none⟩), .int .i64 k] w fun e w' => e = .returned (.tuple #[.int .i64 (sizeR bs k).1, .int .i64 (sizeR bs k).2]) ∧ w' = w := by
  have hl := (h.look k hk).2
  have c0 := h.c0
  cases hs : sizeF bs k with
  | none =>
    have HE : Hid (sizeR bs k = (0, 6)) := by show sizeR bs k = _; unfold sizeR; rw [hs]
    rw [lookV_none hs, hs] at hl
    have hl2 : (Instr.lookup 77 (.map (some mb)) (.int .i64 k) true).run Tryd.prog w = .ok (.tuple #[.slice none 0 0, .bool false]) w := hl
    clear hl hs
    go_enter Tryd.func12, Tryd.ntmps12
    go_wp2_with fail
    all_goals
      go_ret2
      exact ⟨by rw [HE.out]; try rfl, rfl⟩
  | some n =>
    have hn := h.bn k n hs
    have HE : Hid (sizeR bs k = (n, 0)) := by show sizeR bs k = _; unfold sizeR; rw [hs]
    rw [lookV_some hs, hs] at hl
    have hl2 : (Instr.lookup 77 (.map (some mb)) (.int .i64 k) true).run Tryd.prog w = .ok (.tuple #[.slice (some ⟨G k, 0, none⟩) n.toNat n.toNat, .bool true]) w := hl
    have e1 : ((n.toNat : Nat) : Int) = n := by omega
    clear hl hs
    go_enter Tryd.func12, Tryd.ntmps12
    go_wp2_with fail
    all_goals
      go_ret2
      exact ⟨by rw [HE.out]; first | rfl | rw [e1] | simp [e1], rfl⟩
theorem there_at (h : XsAt U w xb mb D G bs Q) (b : Int) (hb : I64 b) (k : Nat) (n : Int) (hn : sizeF bs b = some n) (hk : (k : Int) < n) :
    Calls Tryd.prog 72 #[.pointer (some ⟨xb, 0, none⟩), .agg #[.int .i64 b, .int .i64 (k : Int)]] w fun e w' => e = .returned (.tuple #[.pointer (some ⟨G b, k * 10, none⟩), .int .i64 0]) ∧ Only (fun _ => False) w w' := by
  obtain ⟨w1, hw1⟩ : ∃ w1, w1 = w.alloc (.cells #[.int .i64 b, .int .i64 (k : Int)] 62) := ⟨_, rfl⟩
  have ho : Only (fun _ => False) w w1 := by rw [hw1]; exact (Only.refl _ w).alloc _
  have h1 := h.quiet ho
  have hbn := h.bn b n hn
  obtain ⟨N, hN⟩ : ∃ N : Nat, n = (N : Int) := ⟨n.toNat, by omega⟩
  subst hN
  have c0 := h1.c0
  have hl : ∀ j, (Instr.lookup 77 (.map (some mb)) (.int .i64 b) false).run Tryd.prog (w1.drewN j) = .ok (.slice (some ⟨G b, 0, none⟩) N N) (w1.drewN j) := fun j => by
    have := ((h1.quiet ((Only.refl _ w1).drewN j)).look b hb).1
    rw [lookV_some hn] at this
    exact this
  have hsl : w1.heap[w.heap.size]? = some (.cells #[.int .i64 b, .int .i64 (k : Int)] 62 (0, 0)) := by rw [hw1]; exact heap_alloc_last _ _
  have k0 : w1.cell? ⟨w.heap.size, 0, none⟩ = some (.int .i64 b) := (cell_of_row _ _ 0 _ _ (0, 0) hsl).trans rfl
  have k1 : w1.cell? ⟨w.heap.size, 1, none⟩ = some (.int .i64 (k : Int)) := (cell_of_row _ _ 1 _ _ (0, 0) hsl).trans rfl
  have HO := Vx.hid ho
  have g1 : ¬ (k : Int) < 0 := by omega
  have g2 : ¬ (N : Int) ≤ (k : Int) := by omega
  have hidx : 0 ≤ (k : Int) ∧ (k : Int) < (N : Int) := by omega
  clear h h1 hsl ho hn hbn
  go_enter Tryd.func72, Tryd.ntmps72
  go_wp2_with fail
  rw [← hw1]
  obtain ⟨sb, hsb⟩ : ∃ sb, sb = w.heap.size := ⟨_, rfl⟩
  rw [← hsb] at k0 k1 ⊢
  clear hw1 hsb
  go_quiet (fail)
  go_wp2_with fail
  all_goals
    go_ret2
    exact ⟨by simp, HO.out.trans (by repeat' (first | exact Only.refl _ _ | refine Only.drewN ?_ _ | refine Only.drew ?_))⟩
theorem there_none (h : XsAt U w xb mb D G bs Q) (b i : Int) (hb : I64 b) (hn : sizeF bs b = none) (hi : 0 ≤ i) :
    Calls Tryd.prog 72 #[.pointer (some ⟨xb, 0, none⟩), .agg #[.int .i64 b, .int .i64 i]] w fun e w' => e = .returned (.tuple #[.pointer none, .int .i64 9]) ∧ Only (fun _ => False) w w' := by
  obtain ⟨w1, hw1⟩ : ∃ w1, w1 = w.alloc (.cells #[.int .i64 b, .int .i64 i] 62) := ⟨_, rfl⟩
  have ho : Only (fun _ => False) w w1 := by rw [hw1]; exact (Only.refl _ w).alloc _
  have h1 := h.quiet ho
  have hlv := lookV_none (G := G) hn
  have g1 : ¬ i < 0 := by omega
  have g2 : (0 : Int) ≤ i := hi
  have c0 := h1.c0
  have hl : ∀ j, (Instr.lookup 77 (.map (some mb)) (.int .i64 b) false).run Tryd.prog (w1.drewN j) = .ok (.slice none 0 0) (w1.drewN j) := fun j => by
    have := ((h1.quiet ((Only.refl _ w1).drewN j)).look b hb).1
    rw [hlv] at this
    exact this
  have hsl : w1.heap[w.heap.size]? = some (.cells #[.int .i64 b, .int .i64 i] 62 (0, 0)) := by rw [hw1]; exact heap_alloc_last _ _
  have k0 : w1.cell? ⟨w.heap.size, 0, none⟩ = some (.int .i64 b) := (cell_of_row _ _ 0 _ _ (0, 0) hsl).trans rfl
  have k1 : w1.cell? ⟨w.heap.size, 1, none⟩ = some (.int .i64 i) := (cell_of_row _ _ 1 _ _ (0, 0) hsl).trans rfl
  have HO := Vx.hid ho
  clear h h1 hsl ho hlv
  go_enter Tryd.func72, Tryd.ntmps72
  go_wp2_with fail
  rw [← hw1]
  obtain ⟨sb, hsb⟩ : ∃ sb, sb = w.heap.size := ⟨_, rfl⟩
  rw [← hsb] at k0 k1 ⊢
  clear hw1 hsb
  go_quiet (fail)
  go_wp2_with fail
  all_goals
    go_ret2
    exact ⟨rfl, HO.out.trans (by repeat' (first | exact Only.refl _ _ | refine Only.drewN ?_ _ | refine Only.drew ?_))⟩
theorem there_neg (h : XsAt U w xb mb D G bs Q) (b i : Int) (hb : I64 b) (hi : i < 0) :
    Calls Tryd.prog 72 #[.pointer (some ⟨xb, 0, none⟩), .agg #[.int .i64 b, .int .i64 i]] w fun e w' => e = .returned (.tuple #[.pointer none, .int .i64 9]) ∧ Only (fun _ => False) w w' := by
  obtain ⟨w1, hw1⟩ : ∃ w1, w1 = w.alloc (.cells #[.int .i64 b, .int .i64 i] 62) := ⟨_, rfl⟩
  have ho : Only (fun _ => False) w w1 := by rw [hw1]; exact (Only.refl _ w).alloc _
  have h1 := h.quiet ho
  have hlv : lookV G bs b = lookV G bs b := rfl
  have c0 := h1.c0
  have hl : ∀ j, (Instr.lookup 77 (.map (some mb)) (.int .i64 b) false).run Tryd.prog (w1.drewN j) = .ok (lookV G bs b) (w1.drewN j) := fun j => by
    have := ((h1.quiet ((Only.refl _ w1).drewN j)).look b hb).1
    rw [hlv] at this
    exact this
  have hsl : w1.heap[w.heap.size]? = some (.cells #[.int .i64 b, .int .i64 i] 62 (0, 0)) := by rw [hw1]; exact heap_alloc_last _ _
  have k0 : w1.cell? ⟨w.heap.size, 0, none⟩ = some (.int .i64 b) := (cell_of_row _ _ 0 _ _ (0, 0) hsl).trans rfl
  have k1 : w1.cell? ⟨w.heap.size, 1, none⟩ = some (.int .i64 i) := (cell_of_row _ _ 1 _ _ (0, 0) hsl).trans rfl
  have HO := Vx.hid ho
  clear h h1 hsl ho hlv
  go_enter Tryd.func72, Tryd.ntmps72
  go_wp2_with fail
  rw [← hw1]
  obtain ⟨sb, hsb⟩ : ∃ sb, sb = w.heap.size := ⟨_, rfl⟩
  rw [← hsb] at k0 k1 ⊢
  clear hw1 hsb
  go_quiet (fail)
  go_wp2_with fail
  all_goals
    go_ret2
    exact ⟨rfl, HO.out.trans (by repeat' (first | exact Only.refl _ _ | refine Only.drewN ?_ _ | refine Only.drew ?_))⟩
theorem there_far (h : XsAt U w xb mb D G bs Q) (b i : Int) (hb : I64 b) (n : Int) (hn : sizeF bs b = some n) (hi : n ≤ i) :
    Calls Tryd.prog 72 #[.pointer (some ⟨xb, 0, none⟩), .agg #[.int .i64 b, .int .i64 i]] w fun e w' => e = .returned (.tuple #[.pointer none, .int .i64 9]) ∧ Only (fun _ => False) w w' := by
  obtain ⟨w1, hw1⟩ : ∃ w1, w1 = w.alloc (.cells #[.int .i64 b, .int .i64 i] 62) := ⟨_, rfl⟩
  have ho : Only (fun _ => False) w w1 := by rw [hw1]; exact (Only.refl _ w).alloc _
  have h1 := h.quiet ho
  have hlv := lookV_some (G := G) hn
  have hbn := h.bn b n hn
  have g1 : ¬ i < 0 := by omega
  have g2 : ((n.toNat : Nat) : Int) ≤ i := by omega
  have c0 := h1.c0
  have hl : ∀ j, (Instr.lookup 77 (.map (some mb)) (.int .i64 b) false).run Tryd.prog (w1.drewN j) = .ok (.slice (some ⟨G b, 0, none⟩) n.toNat n.toNat) (w1.drewN j) := fun j => by
    have := ((h1.quiet ((Only.refl _ w1).drewN j)).look b hb).1
    rw [hlv] at this
    exact this
  have hsl : w1.heap[w.heap.size]? = some (.cells #[.int .i64 b, .int .i64 i] 62 (0, 0)) := by rw [hw1]; exact heap_alloc_last _ _
  have k0 : w1.cell? ⟨w.heap.size, 0, none⟩ = some (.int .i64 b) := (cell_of_row _ _ 0 _ _ (0, 0) hsl).trans rfl
  have k1 : w1.cell? ⟨w.heap.size, 1, none⟩ = some (.int .i64 i) := (cell_of_row _ _ 1 _ _ (0, 0) hsl).trans rfl
  have HO := Vx.hid ho
  clear h h1 hsl ho hlv
  go_enter Tryd.func72, Tryd.ntmps72
  go_wp2_with fail
  rw [← hw1]
  obtain ⟨sb, hsb⟩ : ∃ sb, sb = w.heap.size := ⟨_, rfl⟩
  rw [← hsb] at k0 k1 ⊢
  clear hw1 hsb
  go_quiet (fail)
  go_wp2_with fail
  all_goals
    go_ret2
    exact ⟨rfl, HO.out.trans (by repeat' (first | exact Only.refl _ _ | refine Only.drewN ?_ _ | refine Only.drew ?_))⟩
/-- A slot that is not there. -/
def OutF (bs : List (Int × Int)) (s : Sl) : Prop := ∀ n, sizeF bs s.1 = some n → s.2 < 0 ∨ n ≤ s.2
theorem there_out (h : XsAt U w xb mb D G bs Q) (s : Sl) (hb : I64 s.1) (ho : OutF bs s) :
    Calls Tryd.prog 72 #[.pointer (some ⟨xb, 0, none⟩), .agg #[.int .i64 s.1, .int .i64 s.2]] w fun e w' => e = .returned (.tuple #[.pointer none, .int .i64 9]) ∧ Only (fun _ => False) w w' := by
  by_cases hi : s.2 < 0
  · exact there_neg h s.1 s.2 hb hi
  · cases hn : sizeF bs s.1 with
    | none => exact there_none h s.1 s.2 hb hn (by omega)
    | some n => exact there_far h s.1 s.2 hb n hn (by rcases ho n hn with h1 | h1; exact absurd h1 hi; exact h1)
/-- Is a slot there, and where. -/
theorem in_or_out (bs : List (Int × Int)) (s : Sl) : (∃ (k : Nat) (n : Int), s.2 = (k : Int) ∧ sizeF bs s.1 = some n ∧ (k : Int) < n) ∨ OutF bs s := by
  cases hn : sizeF bs s.1 with
  | none => exact Or.inr fun n h => by rw [hn] at h; cases h
  | some n =>
    by_cases hi : s.2 < 0 ∨ n ≤ s.2
    · exact Or.inr fun m h => by rw [hn] at h; injection h with h; subst h; exact hi
    · exact Or.inl ⟨s.2.toNat, n, by omega, rfl, by omega⟩
end Go.Proofs.YtbmchgjilkoplaaDoor

/- Chapter 9, the program's scheduler: what only reads. -/
import Derived.Test.YtgncabcnefhkiaaSX1
namespace Go.Proofs.Ytgncabcnefhkiaa
open Go.ChangeShapes Go.WideShapes Go.ChangeAt Go.RowKit
open Go.Vx
set_option linter.unusedVariables false
variable {U V S : Nat → Prop} {w w2 : World} {xb mb : Nat} {D : DataW Value} {G : Int → Nat} {vt : Value} {vq : List Value} {ts : List (Int × Int)} {t : Nat} {lf : Int} {es : List Et} {Q : Nat → List Int} {ck : Nat}

def ltB (k : Int) : Bool := decide (0 ≤ k ∧ k ≤ 7)
theorem isDom_ok (k : Int) (w : World) : Calls Try.prog 23 #[.int .i64 k] w fun e w' => e = .returned (.bool (ltB k)) ∧ w' = w := by
  by_cases h1 : 0 ≤ k
  · by_cases h2 : k < 8
    · have HT : Hid (ltB k = true) := decide_eq_true ⟨h1, by omega⟩
      rw [HT.out]
      go_enter Try.func23, Try.ntmps23
      go_wp2_with fail
      all_goals
        go_ret
        exact ⟨by first | rfl | simp_all, rfl⟩
    · have HT : Hid (ltB k = false) := decide_eq_false (fun h => h2 (by omega))
      rw [HT.out]
      go_enter Try.func23, Try.ntmps23
      go_wp2_with fail
      all_goals
        go_ret
        exact ⟨by first | rfl | simp_all, rfl⟩
  · have HT : Hid (ltB k = false) := decide_eq_false (fun h => h1 h.1)
    rw [HT.out]
    go_enter Try.func23, Try.ntmps23
    go_wp2_with fail
    all_goals
      go_ret
      exact ⟨by first | rfl | simp_all, rfl⟩
theorem isPrio_ok (k : Int) (w : World) : Calls Try.prog 24 #[.int .i64 k] w fun e w' => e = .returned (.bool (ltB k)) ∧ w' = w := by
  by_cases h1 : 0 ≤ k
  · by_cases h2 : k < 8
    · have HT : Hid (ltB k = true) := decide_eq_true ⟨h1, by omega⟩
      rw [HT.out]
      go_enter Try.func24, Try.ntmps24
      go_wp2_with fail
      all_goals
        go_ret
        exact ⟨by first | rfl | simp_all, rfl⟩
    · have HT : Hid (ltB k = false) := decide_eq_false (fun h => h2 (by omega))
      rw [HT.out]
      go_enter Try.func24, Try.ntmps24
      go_wp2_with fail
      all_goals
        go_ret
        exact ⟨by first | rfl | simp_all, rfl⟩
  · have HT : Hid (ltB k = false) := decide_eq_false (fun h => h1 h.1)
    rw [HT.out]
    go_enter Try.func24, Try.ntmps24
    go_wp2_with fail
    all_goals
      go_ret
      exact ⟨by first | rfl | simp_all, rfl⟩
/-- What find tells. -/
def fdV (G : Int → Nat) (es : List Et) (n : Int) (b : Bool) : Value := match fnF es n with
  | none => .tuple #[.pointer none, .int .i64 6]
  | some i => if decide ((es.getD i .df).came ≠ 0) = b then .tuple #[.pointer (some ⟨G n, 0, none⟩), .int .i64 0] else .tuple #[.pointer none, .int .i64 16]
theorem xfind_ok (h : XsAt U w xb mb D G vt vq ts t lf es Q) (n : Int) (hn : I64 n) (b : Bool) : Calls Try.prog 25 #[.pointer (some ⟨xb, 0, none⟩), .int .i64 n, .bool b] w fun e w' => e = .returned (fdV G es n b) ∧ w' = w := by
  have c3 := h.c3
  have hk := h.look n hn
  cases hi : fnF es n with
  | none =>
    have hv : rnV G es n = .pointer none := by unfold rnV; rw [hi]
    have HV : Hid (fdV G es n b = .tuple #[.pointer none, .int .i64 6]) := by unfold fdV; rw [hi]; exact rfl
    rw [HV.out]
    rw [hv] at hk
    clear h hi hv hn
    go_enter Try.func25, Try.ntmps25
    go_wp2_with fail
    all_goals
      go_ret2
      exact ⟨rfl, rfl⟩
  | some i =>
    obtain ⟨hl, he, r5, hv⟩ := h.r5 hi
    rw [hv] at hk
    have b3 := r5.c3
    by_cases hb : decide (es[i].came ≠ 0) = b
    · have HV : Hid (fdV G es n b = .tuple #[.pointer (some ⟨G n, 0, none⟩), .int .i64 0]) := by unfold fdV; rw [hi]; dsimp only; rw [getD_et hl, if_pos hb]; exact rfl
      rw [HV.out]
      rw [hb] at b3
      have hbb : (b != b) = false := by simp
      generalize G n = g at b3 hk ⊢
      clear h hi hv hn r5 hb he hl
      go_enter Try.func25, Try.ntmps25
      go_wp2_with fail
      all_goals
        go_ret2
        exact ⟨rfl, rfl⟩
    · have HV : Hid (fdV G es n b = .tuple #[.pointer none, .int .i64 16]) := by unfold fdV; rw [hi]; dsimp only; rw [getD_et hl, if_neg hb]; exact rfl
      rw [HV.out]
      have hb2 : decide (es[i].came ≠ 0) = !b := by
        cases h1 : decide (es[i].came ≠ 0) <;> cases b <;> simp_all
      rw [hb2] at b3
      have hbb : ((!b) != b) = true := by cases b <;> rfl
      generalize G n = g at b3 hk ⊢
      clear h hi hv hn r5 hb he hl hb2
      cases b with
      | true =>
        go_enter Try.func25, Try.ntmps25
        go_wp2_with fail
        all_goals
          go_ret2
          exact ⟨rfl, rfl⟩
      | false =>
        go_enter Try.func25, Try.ntmps25
        go_wp2_with fail
        all_goals
          go_ret2
          exact ⟨rfl, rfl⟩
theorem xturn_ok (h : XsAt U w xb mb D G vt vq ts t lf es Q) : Calls Try.prog 37 #[.pointer (some ⟨xb, 0, none⟩)] w fun e w' => e = .returned (.tuple #[.int .i64 (t : Int), .int .i64 lf]) ∧ Only (fun _ => False) w w' := by
  have c1 := h.c1
  have c2 := h.c2
  clear h
  go_enter Try.func37, Try.ntmps37
  go_wp2_with fail
  go_quiet (fail)
  go_wp2_with fail
  refine bodyPost_ret (v := .tuple #[.int .i64 (t : Int), .int .i64 lf]) ?_ rfl ⟨rfl, (Only.refl _ _).drewN _⟩
  simp [results, Try.results37, go_sem]
theorem xlook_ok (h : XsAt U w xb mb D G vt vq ts t lf es Q) (n : Int) (hn : I64 n) : Calls Try.prog 43 #[.pointer (some ⟨xb, 0, none⟩), .int .i64 n] w fun e w' => e = .returned (.tuple #[.int .i64 (lookQ es n).1, .int .i64 (lookQ es n).2.1, .int .i64 (lookQ es n).2.2.1, .int .i64 (lookQ es n).2.2.2]) ∧ Only (fun _ => False) w w' := by
  have c3 := h.c3
  have hk := h.look n hn
  cases hi : fnF es n with
  | none =>
    have hv : rnV G es n = .pointer none := by unfold rnV; rw [hi]
    have e1 : lookQ es n = (0, 0, 0, 6) := by unfold lookQ; rw [hi]
    rw [e1]
    rw [hv] at hk
    clear h hi hv hn e1
    go_enter Try.func43, Try.ntmps43
    go_wp2_with fail
    refine bodyPost_ret (v := .tuple #[.int .i64 0, .int .i64 0, .int .i64 0, .int .i64 6]) ?_ rfl ⟨rfl, Only.refl _ _⟩
    simp [results, Try.results43, go_sem]
  | some i =>
    obtain ⟨hl, he, r5, hv⟩ := h.r5 hi
    rw [hv] at hk
    have e1 : lookQ es n = (es[i].dom, es[i].prio, es[i].left, 0) := by unfold lookQ; rw [hi]; dsimp only; rw [getD_et hl]
    rw [e1]
    have b1 := r5.c1
    have b2 := r5.c2
    have b4 := r5.c4
    generalize es[i] = x at b1 b2 b4 ⊢
    obtain ⟨x0, x1, x2, x3, x4⟩ := x
    dsimp only at b1 b2 b4 ⊢
    generalize G n = g at b1 b2 b4 hk ⊢
    clear h hi hv hn r5 he hl e1
    go_enter Try.func43, Try.ntmps43
    go_wp2_with fail
    go_quiet (fail)
    go_wp2_with fail
    refine bodyPost_ret (v := .tuple #[.int .i64 x1, .int .i64 x2, .int .i64 x3, .int .i64 0]) ?_ rfl ⟨rfl, (Only.refl _ _).drewN _⟩
    simp [results, Try.results43, go_sem]
/-- Where a runner's queue lies. -/
theorem queueOf_ok (w : World) (g d p : Nat) (hd : d < 8) (hp : p < 8) (b1 : w.cell? ⟨g, 1, none⟩ = some (.int .i64 (d : Int))) (b2 : w.cell? ⟨g, 2, none⟩ = some (.int .i64 (p : Int))) : Calls Try.prog 51 #[.pointer (some ⟨xb, 0, none⟩), .pointer (some ⟨g, 0, none⟩)] w fun e w' => e = .returned (.pointer (some ⟨xb, 4 + (d * 8 + p), none⟩)) ∧ Only (fun _ => False) w w' := by
  have i1 : 0 ≤ (d : Int) ∧ (d : Int) < 8 := by omega
  have i2 : 0 ≤ (p : Int) ∧ (p : Int) < 8 := by omega
  go_enter Try.func51, Try.ntmps51
  go_wp2_with fail
  go_quiet (fail)
  go_wp2_with fail
  all_goals
    go_ret
    refine ⟨?_, (Only.refl _ _).drewN _⟩
    first | rfl | (simp [Nat.add_assoc])
end Go.Proofs.Ytgncabcnefhkiaa

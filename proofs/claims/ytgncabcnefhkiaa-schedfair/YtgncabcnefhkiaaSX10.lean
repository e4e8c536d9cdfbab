/- Chapter 9, the program's scheduler: Ready, Yield, Block (made by gen_sx10.py). -/
import Derived.Test.YtgncabcnefhkiaaSX9
namespace Go.Proofs.Ytgncabcnefhkiaa
open Go.ChangeShapes Go.WideShapes Go.ChangeAt Go.RowKit
open Go.Vx
set_option linter.unusedVariables false
variable {U V S : Nat → Prop} {w w2 w3 : World} {xb mb n : Nat} {D D2 : DataW Value} {G : Int → Nat} {vt : Value} {vq : List Value} {ts : List (Int × Int)} {t : Nat} {lf : Int} {es es2 : List Et} {Q : Nat → List Int} {ck : Nat}

theorem XgAt.find (h : XgAt U w xb G ts t lf es ck) (n : Int) (hn : I64 n) (b : Bool) : Calls Try.prog 25 #[.pointer (some ⟨xb, 0, none⟩), .int .i64 n, .bool b] w fun e w' => e = .returned (fdV G es n b) ∧ w' = w := by
  obtain ⟨hw, hts, mb, D, vt, vq, Q, hq, hx⟩ := h
  exact xfind_ok hx n hn b
set_option maxHeartbeats 1000000 in
theorem xready_ok (h : XgAt U w xb G ts t lf es ck) (n : Int) (hn : I64 n) : Calls Try.prog 11 #[.pointer (some ⟨xb, 0, none⟩), .int .i64 n] w fun e w' => e = .returned (.int .i64 (readyE es n)) ∧ XgAt U w' xb G ts t lf (if readyE es n = 0 then lastL es ck n else es) (if readyE es n = 0 then ck + 1 else ck) ∧ Only (fun k => ¬ U k) w w' := by
  have HF := Vx.hid (h.find n hn false)
  have HH := Vx.hid h
  cases hi : fnF es n with
  | none =>
    have e1 : readyE es n = 6 := by unfold readyE; rw [hi]
    have e2 : fdV G es n false = .tuple #[.pointer none, .int .i64 6] := by unfold fdV; rw [hi]
    rw [e2] at HF
    simp only [e1, if_neg (show ¬ (6 : Int) = 0 by decide)]
    clear h hi e1 e2 hn
    go_enter Try.func11, Try.ntmps11
    go_wp2_with fail
    refine HF.out.mono ?_
    rintro e w' ⟨rfl, h⟩
    have h3 := h.symm; clear h; subst h3
    go_wp2_with fail
    all_goals
      go_ret
      exact ⟨rfl, HH.out, Only.refl _ _⟩
  | some i =>
    obtain ⟨hl, hE⟩ := fnF_at hi
    have hko := h.1.ok _ (List.getElem_mem hl)
    by_cases hc : es[i].came ≠ 0
    · have e1 : readyE es n = 16 := by unfold readyE; rw [hi]; dsimp only; rw [getD_et hl]; exact if_pos (by omega)
      have e2 : fdV G es n false = .tuple #[.pointer none, .int .i64 16] := by unfold fdV; rw [hi]; dsimp only; rw [getD_et hl]; exact if_neg (by simp [hc])
      rw [e2] at HF
      simp only [e1, if_neg (show ¬ (16 : Int) = 0 by decide)]
      clear h hi e1 e2 hn hE hko hc hl
      go_enter Try.func11, Try.ntmps11
      go_wp2_with fail
      refine HF.out.mono ?_
      rintro e w' ⟨rfl, h⟩
      have h3 := h.symm; clear h; subst h3
      go_wp2_with fail
      all_goals
        go_ret
        exact ⟨rfl, HH.out, Only.refl _ _⟩
    · have e1 : readyE es n = 0 := by unfold readyE; rw [hi]; dsimp only; rw [getD_et hl]; exact if_neg (by omega)
      have e2 : fdV G es n false = .tuple #[.pointer (some ⟨G n, 0, none⟩), .int .i64 0] := by unfold fdV; rw [hi]; dsimp only; rw [getD_et hl]; exact if_pos (by simp; omega)
      have e3 : lastL es ck n = es.set i (lastE ck (es.getD i .df)) := by unfold lastL; rw [hi]
      rw [e2] at HF
      simp only [e1, if_true, e3]
      have HJ := Vx.hid (xjoin_ok h hi (by rw [getD_et hl]; omega))
      clear h hi e1 e2 e3 hn hE hko hc hl
      generalize G n = g at HF HJ ⊢
      go_enter Try.func11, Try.ntmps11
      go_wp2_with fail
      refine HF.out.mono ?_
      rintro e w' ⟨rfl, h⟩
      have h3 := h.symm; clear h; subst h3
      go_wp2_with fail
      refine HJ.out.mono ?_
      rintro e w3 ⟨⟨x, rfl⟩, hr, ho⟩
      go_wp2_with fail
      all_goals
        go_ret
        exact ⟨rfl, hr, ho⟩
set_option maxHeartbeats 1000000 in
theorem xyield_ok (h : XgAt U w xb G ts t lf es ck) (n : Int) (hn : I64 n) : Calls Try.prog 17 #[.pointer (some ⟨xb, 0, none⟩), .int .i64 n] w fun e w' => e = .returned (.int .i64 (yieldE es n)) ∧ XgAt U w' xb G ts t lf (if yieldE es n = 0 then lastL es ck n else es) (if yieldE es n = 0 then ck + 1 else ck) ∧ Only (fun k => ¬ U k) w w' := by
  have HF := Vx.hid (h.find n hn true)
  have HH := Vx.hid h
  cases hi : fnF es n with
  | none =>
    have e1 : yieldE es n = 6 := by unfold yieldE; rw [hi]
    have e2 : fdV G es n true = .tuple #[.pointer none, .int .i64 6] := by unfold fdV; rw [hi]
    rw [e2] at HF
    simp only [e1, if_neg (show ¬ (6 : Int) = 0 by decide)]
    clear h hi e1 e2 hn
    go_enter Try.func17, Try.ntmps17
    go_wp2_with fail
    refine HF.out.mono ?_
    rintro e w' ⟨rfl, h⟩
    have h3 := h.symm; clear h; subst h3
    go_wp2_with fail
    all_goals
      go_ret
      exact ⟨rfl, HH.out, Only.refl _ _⟩
  | some i =>
    obtain ⟨hl, hE⟩ := fnF_at hi
    have hko := h.1.ok _ (List.getElem_mem hl)
    by_cases hc : es[i].came = 0
    · have e1 : yieldE es n = 16 := by unfold yieldE; rw [hi]; dsimp only; rw [getD_et hl]; exact if_pos hc
      have e2 : fdV G es n true = .tuple #[.pointer none, .int .i64 16] := by unfold fdV; rw [hi]; dsimp only; rw [getD_et hl]; exact if_neg (by simp [hc])
      rw [e2] at HF
      simp only [e1, if_neg (show ¬ (16 : Int) = 0 by decide)]
      clear h hi e1 e2 hn hE hko hc hl
      go_enter Try.func17, Try.ntmps17
      go_wp2_with fail
      refine HF.out.mono ?_
      rintro e w' ⟨rfl, h⟩
      have h3 := h.symm; clear h; subst h3
      go_wp2_with fail
      all_goals
        go_ret
        exact ⟨rfl, HH.out, Only.refl _ _⟩
    · have e1 : yieldE es n = 0 := by unfold yieldE; rw [hi]; dsimp only; rw [getD_et hl]; exact if_neg hc
      have e2 : fdV G es n true = .tuple #[.pointer (some ⟨G n, 0, none⟩), .int .i64 0] := by unfold fdV; rw [hi]; dsimp only; rw [getD_et hl]; exact if_pos (by simp; exact hc)
      have e3 : lastL es ck n = es.set i (lastE ck (es.getD i .df)) := by unfold lastL; rw [hi]
      rw [e2] at HF
      simp only [e1, if_true, e3]
      have HJ := Vx.hid (xrejoin_ok h hi)
      clear h hi e1 e2 e3 hn hE hko hc hl
      generalize G n = g at HF HJ ⊢
      go_enter Try.func17, Try.ntmps17
      go_wp2_with fail
      refine HF.out.mono ?_
      rintro e w' ⟨rfl, h⟩
      have h3 := h.symm; clear h; subst h3
      go_wp2_with fail
      refine HJ.out.mono ?_
      rintro e w3 ⟨⟨x, rfl⟩, hr, ho⟩
      go_wp2_with fail
      all_goals
        go_ret
        exact ⟨rfl, hr, ho⟩
set_option maxHeartbeats 1000000 in
theorem xblock_ok (h : XgAt U w xb G ts t lf es ck) (n : Int) (hn : I64 n) : Calls Try.prog 16 #[.pointer (some ⟨xb, 0, none⟩), .int .i64 n] w fun e w' => e = .returned (.int .i64 (yieldE es n)) ∧ XgAt U w' xb G ts t lf (if yieldE es n = 0 then blockL es n else es) ck ∧ Only (fun k => ¬ U k) w w' := by
  have HF := Vx.hid (h.find n hn true)
  have HH := Vx.hid h
  cases hi : fnF es n with
  | none =>
    have e1 : yieldE es n = 6 := by unfold yieldE; rw [hi]
    have e2 : fdV G es n true = .tuple #[.pointer none, .int .i64 6] := by unfold fdV; rw [hi]
    rw [e2] at HF
    simp only [e1, if_neg (show ¬ (6 : Int) = 0 by decide)]
    clear h hi e1 e2 hn
    go_enter Try.func16, Try.ntmps16
    go_wp2_with fail
    refine HF.out.mono ?_
    rintro e w' ⟨rfl, h⟩
    have h3 := h.symm; clear h; subst h3
    go_wp2_with fail
    all_goals
      go_ret
      exact ⟨rfl, HH.out, Only.refl _ _⟩
  | some i =>
    obtain ⟨hl, hE⟩ := fnF_at hi
    have hko := h.1.ok _ (List.getElem_mem hl)
    by_cases hc : es[i].came = 0
    · have e1 : yieldE es n = 16 := by unfold yieldE; rw [hi]; dsimp only; rw [getD_et hl]; exact if_pos hc
      have e2 : fdV G es n true = .tuple #[.pointer none, .int .i64 16] := by unfold fdV; rw [hi]; dsimp only; rw [getD_et hl]; exact if_neg (by simp [hc])
      rw [e2] at HF
      simp only [e1, if_neg (show ¬ (16 : Int) = 0 by decide)]
      clear h hi e1 e2 hn hE hko hc hl
      go_enter Try.func16, Try.ntmps16
      go_wp2_with fail
      refine HF.out.mono ?_
      rintro e w' ⟨rfl, h⟩
      have h3 := h.symm; clear h; subst h3
      go_wp2_with fail
      all_goals
        go_ret
        exact ⟨rfl, HH.out, Only.refl _ _⟩
    · have e1 : yieldE es n = 0 := by unfold yieldE; rw [hi]; dsimp only; rw [getD_et hl]; exact if_neg hc
      have e2 : fdV G es n true = .tuple #[.pointer (some ⟨G n, 0, none⟩), .int .i64 0] := by unfold fdV; rw [hi]; dsimp only; rw [getD_et hl]; exact if_pos (by simp; exact hc)
      have e3 : blockL es n = es.set i (offE (es.getD i .df)) := by unfold blockL; rw [hi]; rfl
      rw [e2] at HF
      simp only [e1, if_true, e3]
      have HJ := Vx.hid (xleave_ok h hi)
      clear h hi e1 e2 e3 hn hE hko hc hl
      generalize G n = g at HF HJ ⊢
      go_enter Try.func16, Try.ntmps16
      go_wp2_with fail
      refine HF.out.mono ?_
      rintro e w' ⟨rfl, h⟩
      have h3 := h.symm; clear h; subst h3
      go_wp2_with fail
      refine HJ.out.mono ?_
      rintro e w3 ⟨⟨x, rfl⟩, hr, ho⟩
      go_wp2_with fail
      all_goals
        go_ret
        exact ⟨rfl, hr, ho⟩
end Go.Proofs.Ytgncabcnefhkiaa

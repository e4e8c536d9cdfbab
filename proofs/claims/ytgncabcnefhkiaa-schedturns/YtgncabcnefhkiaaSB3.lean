/- Chapter 9, the document's scheduler: Ready, Yield, Block, Look. -/
import Derived.Test.YtgncabcnefhkiaaSB2
namespace Go.Proofs.Ytgncabcnefhkiaa
open Go.ChangeShapes Go.WideShapes Go.ChangeAt Go.RowKit
open Go.Vx
set_option linter.unusedVariables false
variable {U V S : Nat → Prop} {w w2 w3 : World} {sb : Nat} {vt vl : Value} {ts : List (Int × Int)} {t : Nat} {lf : Int} {es : List Et} {ck : Nat}

theorem fnF_at {n : Int} {i : Nat} (h : fnF es n = some i) : ∃ hi : i < es.length, es[i].num = n := by
  obtain ⟨hl, hp⟩ := idxF_get h
  have e : i - 0 = i := Nat.sub_zero i
  simp only [e] at hl hp
  exact ⟨hl, of_decide_eq_true hp⟩
def readyE (es : List Et) (n : Int) : Int := match fnF es n with | none => 6 | some i => if 0 < (es.getD i .df).came then 16 else 0
def yieldE (es : List Et) (n : Int) : Int := match fnF es n with | none => 6 | some i => if (es.getD i .df).came = 0 then 16 else 0
def lastL (es : List Et) (ck : Nat) (n : Int) : List Et := match fnF es n with | none => es | some i => es.set i (lastE ck (es.getD i .df))
def blockL (es : List Et) (n : Int) : List Et := match fnF es n with | none => es | some i => es.set i { es.getD i .df with left := 0, came := 0 }
theorem getD_et {k : Nat} (hk : k < es.length) : es.getD k .df = es[k] := by simp [List.getD_eq_getElem?_getD, hk]
set_option maxHeartbeats 1000000 in
theorem sready_ok (h : SdAt U w sb vt vl ts t lf es ck) (hck : ck < 1000000000000) (n : Int) : Calls Try.prog 31 #[.pointer (some ⟨sb, 0, none⟩), .int .i64 n] w fun e w' => e = .returned (.int .i64 (readyE es n)) ∧ SdX U w' sb ts t lf (if readyE es n = 0 then lastL es ck n else es) (if readyE es n = 0 then ck + 1 else ck) ∧ Only (fun k => ¬ U k) w w' := by
  have HFN := Vx.hid (find_ok h n)
  have HH := Vx.hid h
  cases hi : fnF es n with
  | none =>
    have e1 : readyE es n = 6 := by unfold readyE; rw [hi]
    rw [hi] at HFN
    rw [e1]
    clear h hi e1
    go_enter Try.func31, Try.ntmps31
    go_wp2_with fail
    refine HFN.out.mono ?_
    rintro e w' ⟨rfl, h⟩
    have h3 := h.symm; clear h; subst h3
    go_wp2_with fail
    all_goals
      go_ret
      exact ⟨rfl, ⟨_, _, HH.out⟩, Only.refl _ _⟩
  | some i =>
    obtain ⟨hl, hE⟩ := fnF_at hi
    rw [hi] at HFN
    have HLA := Vx.hid (slast_ok h i hl hck)
    obtain ⟨g, c, rfl⟩ := h.formL (by omega)
    have c3 := h.c3
    obtain ⟨N, hN⟩ : ∃ N, N = es.length := ⟨_, rfl⟩
    rw [← hN] at c3
    have hidx : 0 ≤ (i : Int) ∧ (i : Int) < (N : Int) := by omega
    have hneg : ¬ (i : Int) < 0 := by omega
    have b4 := (h.e5 i hl).c4
    have e1 : readyE es n = if 0 < es[i].came then 16 else 0 := by unfold readyE; rw [hi]; dsimp only; rw [getD_et hl]
    have e2 : lastL es ck n = es.set i (lastE ck es[i]) := by unfold lastL; rw [hi]; dsimp only; rw [getD_et hl]
    rw [e1, e2]
    generalize es.set i (lastE ck es[i]) = es9 at HLA ⊢
    generalize es[i].came = c0 at b4 ⊢
    have HFN2 : Hid (Calls Try.prog 53 #[.pointer (some ⟨sb, 0, none⟩), .int .i64 n] w fun e w' => e = .returned (.int .i64 (i : Int)) ∧ w' = w) := HFN.out
    clear h hi e1 e2 hE hl hck hN HFN
    by_cases hc : 0 < c0
    · rw [if_pos hc, if_neg (by decide), if_neg (by decide)]
      go_enter Try.func31, Try.ntmps31
      go_wp2_with fail
      refine HFN2.out.mono ?_
      rintro e w' ⟨rfl, h⟩
      have h3 := h.symm; clear h; subst h3
      go_wp2_with fail
      all_goals
        go_ret
        exact ⟨rfl, ⟨_, _, HH.out⟩, Only.refl _ _⟩
    · rw [if_neg hc, if_pos rfl, if_pos rfl]
      go_enter Try.func31, Try.ntmps31
      go_wp2_with fail
      refine HFN2.out.mono ?_
      rintro e w' ⟨rfl, h⟩
      have h3 := h.symm; clear h; subst h3
      go_wp2_with fail
      refine HLA.out.mono ?_
      rintro e w3 ⟨⟨v, rfl⟩, hx, ho⟩
      have HF := Vx.hid (⟨hx, ho⟩ : _ ∧ _)
      clear hx ho b4 c3
      go_wp2_with fail
      all_goals
        go_ret
        exact ⟨rfl, HF.out.1, HF.out.2⟩
set_option maxHeartbeats 1000000 in
theorem syield_ok (h : SdAt U w sb vt vl ts t lf es ck) (hck : ck < 1000000000000) (n : Int) : Calls Try.prog 33 #[.pointer (some ⟨sb, 0, none⟩), .int .i64 n] w fun e w' => e = .returned (.int .i64 (yieldE es n)) ∧ SdX U w' sb ts t lf (if yieldE es n = 0 then lastL es ck n else es) (if yieldE es n = 0 then ck + 1 else ck) ∧ Only (fun k => ¬ U k) w w' := by
  have HFN := Vx.hid (find_ok h n)
  have HH := Vx.hid h
  cases hi : fnF es n with
  | none =>
    have e1 : yieldE es n = 6 := by unfold yieldE; rw [hi]
    rw [hi] at HFN
    rw [e1]
    clear h hi e1
    go_enter Try.func33, Try.ntmps33
    go_wp2_with fail
    refine HFN.out.mono ?_
    rintro e w' ⟨rfl, h⟩
    have h3 := h.symm; clear h; subst h3
    go_wp2_with fail
    all_goals
      go_ret
      exact ⟨rfl, ⟨_, _, HH.out⟩, Only.refl _ _⟩
  | some i =>
    obtain ⟨hl, hE⟩ := fnF_at hi
    rw [hi] at HFN
    have HLA := Vx.hid (slast_ok h i hl hck)
    obtain ⟨g, c, rfl⟩ := h.formL (by omega)
    have c3 := h.c3
    obtain ⟨N, hN⟩ : ∃ N, N = es.length := ⟨_, rfl⟩
    rw [← hN] at c3
    have hidx : 0 ≤ (i : Int) ∧ (i : Int) < (N : Int) := by omega
    have hneg : ¬ (i : Int) < 0 := by omega
    have b4 := (h.e5 i hl).c4
    have e1 : yieldE es n = if es[i].came = 0 then 16 else 0 := by unfold yieldE; rw [hi]; dsimp only; rw [getD_et hl]
    have e2 : lastL es ck n = es.set i (lastE ck es[i]) := by unfold lastL; rw [hi]; dsimp only; rw [getD_et hl]
    rw [e1, e2]
    generalize es.set i (lastE ck es[i]) = es9 at HLA ⊢
    generalize es[i].came = c0 at b4 ⊢
    have HFN2 : Hid (Calls Try.prog 53 #[.pointer (some ⟨sb, 0, none⟩), .int .i64 n] w fun e w' => e = .returned (.int .i64 (i : Int)) ∧ w' = w) := HFN.out
    clear h hi e1 e2 hE hl hck hN HFN
    by_cases hc : c0 = 0
    · rw [if_pos hc, if_neg (by decide), if_neg (by decide)]
      subst hc
      go_enter Try.func33, Try.ntmps33
      go_wp2_with fail
      refine HFN2.out.mono ?_
      rintro e w' ⟨rfl, h⟩
      have h3 := h.symm; clear h; subst h3
      go_wp2_with fail
      all_goals
        go_ret
        exact ⟨rfl, ⟨_, _, HH.out⟩, Only.refl _ _⟩
    · rw [if_neg hc, if_pos rfl, if_pos rfl]
      have hc2 : (c0 == 0) = false := beq_eq_false_iff_ne.2 hc
      go_enter Try.func33, Try.ntmps33
      go_wp2_with fail
      refine HFN2.out.mono ?_
      rintro e w' ⟨rfl, h⟩
      have h3 := h.symm; clear h; subst h3
      go_wp2_with fail
      refine HLA.out.mono ?_
      rintro e w3 ⟨⟨v, rfl⟩, hx, ho⟩
      have HF := Vx.hid (⟨hx, ho⟩ : _ ∧ _)
      clear hx ho b4 c3
      go_wp2_with fail
      all_goals
        go_ret
        exact ⟨rfl, HF.out.1, HF.out.2⟩
end Go.Proofs.Ytgncabcnefhkiaa

import Derived.Test.YtgncabcnefhkiaaCs8
/- Chapter 9, the document's scheduler: Block, Prio, Look. -/
namespace Go.Proofs.Ytgncabcnefhkiaa
open Go.ChangeShapes Go.WideShapes Go.ChangeAt Go.RowKit
open Go.Vx
set_option linter.unusedVariables false
variable {U V S : Nat → Prop} {w w2 w3 : World} {sb : Nat} {vt vl : Value} {ts : List (Int × Int)} {t : Nat} {lf : Int} {es : List Et} {ck : Nat}

/-- What find tells. -/
theorem find_none (h : SdAt U w sb vt vl ts t lf es ck) {n : Int} (hi : fnF es n = none) : Calls Try.prog 53 #[.pointer (some ⟨sb, 0, none⟩), .int .i64 n] w fun e w' => e = .returned (.int .i64 (-1)) ∧ w' = w := by
  have := find_ok h n
  rw [hi] at this
  exact this
theorem find_some (h : SdAt U w sb vt vl ts t lf es ck) {n : Int} {i : Nat} (hi : fnF es n = some i) : Calls Try.prog 53 #[.pointer (some ⟨sb, 0, none⟩), .int .i64 n] w fun e w' => e = .returned (.int .i64 (i : Int)) ∧ w' = w := by
  have := find_ok h n
  rw [hi] at this
  exact this
set_option maxHeartbeats 1000000 in
theorem sblock_ok (h : SdAt U w sb vt vl ts t lf es ck) (n : Int) : Calls Try.prog 32 #[.pointer (some ⟨sb, 0, none⟩), .int .i64 n] w fun e w' => e = .returned (.int .i64 (yieldE es n)) ∧ SdX U w' sb ts t lf (if yieldE es n = 0 then blockL es n else es) ck ∧ Only (fun k => ¬ U k) w w' := by
  have HH := Vx.hid h
  cases hi : fnF es n with
  | none =>
    have HFN := Vx.hid (find_none h hi)
    have e1 : yieldE es n = 6 := by unfold yieldE; rw [hi]
    rw [e1]
    clear h hi e1
    go_enter Try.func32, Try.ntmps32
    go_wp2_with fail
    refine HFN.out.mono ?_
    rintro e w' ⟨rfl, h⟩
    have h3 := h.symm; clear h; subst h3
    go_wp2_with fail
    all_goals
      go_ret
      exact ⟨rfl, ⟨_, _, HH.out⟩, Only.refl _ _⟩
  | some i =>
    obtain ⟨hl, hE⟩ := fnF_at hi
    have HFN := Vx.hid (find_some h hi)
    obtain ⟨g, c, rfl⟩ := h.formL (by omega)
    obtain ⟨N, hN⟩ : ∃ N, N = es.length := ⟨_, rfl⟩
    rw [← hN] at h HH
    have c3 := h.c3
    have hidx : 0 ≤ (i : Int) ∧ (i : Int) < (N : Int) := by omega
    have hneg : ¬ (i : Int) < 0 := by omega
    have b4 := (h.e5 i hl).c4
    have f4 := h.l.fz (i * 5 + 4)
    have e1 : yieldE es n = if es[i].came = 0 then 16 else 0 := by unfold yieldE; rw [hi]; dsimp only; rw [getD_et hl]
    have e2 : blockL es n = es.set i { es[i] with left := 0, came := 0 } := by unfold blockL; rw [hi]; dsimp only; rw [getD_et hl]
    obtain ⟨h1, o1⟩ := h.putE hN i hl 4 (by decide) 0 { es[i] with came := 0 } rfl
    obtain ⟨w1, hw1⟩ : ∃ w1, w1 = w.setCell ⟨g, i * 5 + 4, none⟩ (.int .i64 0) := ⟨_, rfl⟩
    rw [← hw1] at h1 o1
    have hl2 : i < (es.set i { es[i] with came := 0 }).length := by rw [List.length_set]; exact hl
    have hN2 : N = (es.set i { es[i] with came := 0 }).length := by rw [List.length_set]; exact hN
    have d3 := h1.c3
    obtain ⟨x3, q3⟩ : ∃ x, w1.cell? ⟨g, i * 5 + 3, none⟩ = some x := ⟨_, (h1.e5 i hl2).c3⟩
    have z3 := h1.l.fz (i * 5 + 3)
    obtain ⟨h2, o2⟩ := h1.putE hN2 i hl2 3 (by decide) 0 { es[i] with left := 0, came := 0 } (by rw [List.getElem_set_self]; rfl)
    rw [List.set_set] at h2
    rw [e1, e2]
    have HF : Hid (SdX U (w1.setCell ⟨g, i * 5 + 3, none⟩ (.int .i64 0)) sb ts t lf (es.set i { es[i] with left := 0, came := 0 }) ck ∧ Only (fun k => ¬ U k) w (w1.setCell ⟨g, i * 5 + 3, none⟩ (.int .i64 0))) := ⟨⟨_, _, h2⟩, o1.trans o2⟩
    generalize es.set i { es[i] with left := 0, came := 0 } = es9 at HF ⊢
    generalize es[i].came = c0 at b4 ⊢
    clear h h1 h2 o1 o2 hi e1 e2 hE hl hl2 hN hN2
    by_cases hc : c0 = 0
    · rw [if_pos hc, if_neg (by decide)]
      subst hc
      clear hw1 d3 q3 z3 HF
      go_enter Try.func32, Try.ntmps32
      go_wp2_with fail
      refine HFN.out.mono ?_
      rintro e w' ⟨rfl, h⟩
      have h3 := h.symm; clear h; subst h3
      go_wp2_with fail
      all_goals
        go_ret
        exact ⟨rfl, ⟨_, _, HH.out⟩, Only.refl _ _⟩
    · rw [if_neg hc, if_pos rfl]
      have hc2 : (c0 == 0) = false := beq_eq_false_iff_ne.2 hc
      go_enter Try.func32, Try.ntmps32
      go_wp2_with fail
      refine HFN.out.mono ?_
      rintro e w' ⟨rfl, h⟩
      have h3 := h.symm; clear h; subst h3
      go_upto_region 7 with fail
      rw [← hw1]
      clear hw1 c3 b4 f4
      go_wp2_with fail
      all_goals
        go_ret
        exact ⟨rfl, HF.out.1, HF.out.2⟩
def prioE (es : List Et) (n p : Int) : Int := match fnF es n with | none => 6 | some _ => if p < 0 ∨ 7 < p then 1 else 0
def prioL (es : List Et) (ck : Nat) (n p : Int) : List Et := match fnF es n with | none => es | some i => es.set i (if 0 < (es.getD i .df).came then lastE ck { es.getD i .df with prio := p } else { es.getD i .df with prio := p })
def prioC (es : List Et) (ck : Nat) (n : Int) : Nat := match fnF es n with | none => ck | some i => if 0 < (es.getD i .df).came then ck + 1 else ck
set_option maxHeartbeats 1000000 in
theorem sprio_ok (h : SdAt U w sb vt vl ts t lf es ck) (hck : ck < 1000000000000) (n p : Int) : Calls Try.prog 34 #[.pointer (some ⟨sb, 0, none⟩), .int .i64 n, .int .i64 p] w fun e w' => e = .returned (.int .i64 (prioE es n p)) ∧ SdX U w' sb ts t lf (if prioE es n p = 0 then prioL es ck n p else es) (if prioE es n p = 0 then prioC es ck n else ck) ∧ Only (fun k => ¬ U k) w w' := by
  have HH := Vx.hid h
  cases hi : fnF es n with
  | none =>
    have HFN := Vx.hid (find_none h hi)
    have e1 : prioE es n p = 6 := by unfold prioE; rw [hi]
    rw [e1]
    clear h hi e1
    go_enter Try.func34, Try.ntmps34
    go_wp2_with fail
    refine HFN.out.mono ?_
    rintro e w' ⟨rfl, h⟩
    have h3 := h.symm; clear h; subst h3
    go_wp2_with fail
    all_goals
      go_ret
      exact ⟨rfl, ⟨_, _, HH.out⟩, Only.refl _ _⟩
  | some i =>
    obtain ⟨hl, hE⟩ := fnF_at hi
    have HFN := Vx.hid (find_some h hi)
    have hneg : ¬ (i : Int) < 0 := by omega
    by_cases p0 : p < 0
    · have e1 : prioE es n p = 1 := by unfold prioE; rw [hi]; dsimp only; rw [if_pos (Or.inl p0)]
      rw [e1]
      clear h hi e1 hE hl
      go_enter Try.func34, Try.ntmps34
      go_wp2_with fail
      refine HFN.out.mono ?_
      rintro e w' ⟨rfl, h⟩
      have h3 := h.symm; clear h; subst h3
      go_wp2_with fail
      all_goals
        go_ret
        exact ⟨rfl, ⟨_, _, HH.out⟩, Only.refl _ _⟩
    · by_cases p7 : 7 < p
      · have e1 : prioE es n p = 1 := by unfold prioE; rw [hi]; dsimp only; rw [if_pos (Or.inr p7)]
        rw [e1]
        clear h hi e1 hE hl
        go_enter Try.func34, Try.ntmps34
        go_wp2_with fail
        refine HFN.out.mono ?_
        rintro e w' ⟨rfl, h⟩
        have h3 := h.symm; clear h; subst h3
        go_wp2_with fail
        all_goals
          go_ret
          exact ⟨rfl, ⟨_, _, HH.out⟩, Only.refl _ _⟩
      · have e1 : prioE es n p = 0 := by unfold prioE; rw [hi]; dsimp only; rw [if_neg (by omega)]
        have e2 : prioL es ck n p = es.set i (if 0 < es[i].came then lastE ck { es[i] with prio := p } else { es[i] with prio := p }) := by unfold prioL; rw [hi]; dsimp only; rw [getD_et hl]
        have e3 : prioC es ck n = if 0 < es[i].came then ck + 1 else ck := by unfold prioC; rw [hi]; dsimp only; rw [getD_et hl]
        rw [e1, if_pos rfl, if_pos rfl, e2, e3]
        obtain ⟨g, c, rfl⟩ := h.formL (by omega)
        obtain ⟨N, hN⟩ : ∃ N, N = es.length := ⟨_, rfl⟩
        rw [← hN] at h
        have c3 := h.c3
        have hidx : 0 ≤ (i : Int) ∧ (i : Int) < (N : Int) := by omega
        have b2 := (h.e5 i hl).c2
        have f2 := h.l.fz (i * 5 + 2)
        obtain ⟨h1, o1⟩ := h.putE hN i hl 2 (by decide) p { es[i] with prio := p } rfl
        obtain ⟨w1, hw1⟩ : ∃ w1, w1 = w.setCell ⟨g, i * 5 + 2, none⟩ (.int .i64 p) := ⟨_, rfl⟩
        rw [← hw1] at h1 o1
        have hl2 : i < (es.set i { es[i] with prio := p }).length := by rw [List.length_set]; exact hl
        have d3 := h1.c3
        have q4 := (h1.e5 i hl2).c4
        rw [List.getElem_set_self] at q4
        have hla := slast_ok h1 i hl2 hck
        rw [List.getElem_set_self, List.set_set] at hla
        have HLA := Vx.hid hla
        have HF : Hid (SdX U w1 sb ts t lf (es.set i { es[i] with prio := p }) ck ∧ Only (fun k => ¬ U k) w w1) := ⟨⟨_, _, h1⟩, o1⟩
        have HO := Vx.hid o1
        dsimp only at q4
        generalize es[i].prio = pr at b2
        clear h h1 o1 hi e1 e2 e3 hE hl2 hN HH hla hck
        by_cases hc : 0 < es[i].came
        · rw [if_pos hc, if_pos hc]
          generalize es.set i (lastE ck { es[i] with prio := p }) = es8 at HLA ⊢
          generalize es[i].came = c0 at q4 hc
          clear HF hl
          go_enter Try.func34, Try.ntmps34
          go_wp2_with fail
          refine HFN.out.mono ?_
          rintro e w' ⟨rfl, h⟩
          have h3 := h.symm; clear h; subst h3
          go_upto_region 7 with fail
          rw [← hw1]
          clear hw1 c3 b2 f2
          go_wp2_with fail
          refine HLA.out.mono ?_
          rintro e w3 ⟨⟨v, rfl⟩, hx, ho⟩
          have HF := Vx.hid (⟨hx, ho⟩ : _ ∧ _)
          have HO1 : Hid (Only (fun k => ¬ U k) w w1) := HO.out
          clear hx ho q4 d3
          go_wp2_with fail
          all_goals
            go_ret
            exact ⟨rfl, HF.out.1, HO1.out.trans HF.out.2⟩
        · rw [if_neg hc, if_neg hc]
          generalize es.set i { es[i] with prio := p } = es8 at HF ⊢
          generalize es[i].came = c0 at q4 hc
          clear HLA
          go_enter Try.func34, Try.ntmps34
          go_wp2_with fail
          refine HFN.out.mono ?_
          rintro e w' ⟨rfl, h⟩
          have h3 := h.symm; clear h; subst h3
          go_upto_region 7 with fail
          rw [← hw1]
          clear hw1 c3 b2 f2
          go_wp2_with fail
          all_goals
            go_ret
            exact ⟨rfl, HF.out.1, HF.out.2⟩
def lookQ (es : List Et) (n : Int) : Int × Int × Int × Int := match fnF es n with | none => (0, 0, 0, 6) | some i => ((es.getD i .df).dom, (es.getD i .df).prio, (es.getD i .df).left, 0)
set_option maxHeartbeats 1000000 in
theorem slook_ok (h : SdAt U w sb vt vl ts t lf es ck) (n : Int) : Calls Try.prog 44 #[.pointer (some ⟨sb, 0, none⟩), .int .i64 n] w fun e w' => e = .returned (.tuple #[.int .i64 (lookQ es n).1, .int .i64 (lookQ es n).2.1, .int .i64 (lookQ es n).2.2.1, .int .i64 (lookQ es n).2.2.2]) ∧ Only (fun _ => False) w w' := by
  cases hi : fnF es n with
  | none =>
    have HFN := Vx.hid (find_none h hi)
    have e1 : lookQ es n = (0, 0, 0, 6) := by unfold lookQ; rw [hi]
    rw [e1]
    clear h hi e1
    go_enter Try.func44, Try.ntmps44
    go_wp2_with fail
    refine HFN.out.mono ?_
    rintro e w' ⟨rfl, h⟩
    have h3 := h.symm; clear h; subst h3
    go_wp2_with fail
    refine bodyPost_ret (v := .tuple #[.int .i64 0, .int .i64 0, .int .i64 0, .int .i64 6]) ?_ rfl ⟨rfl, Only.refl _ _⟩
    simp [results, Try.results44, go_sem]
  | some i =>
    obtain ⟨hl, hE⟩ := fnF_at hi
    have HFN := Vx.hid (find_some h hi)
    have e1 : lookQ es n = (es[i].dom, es[i].prio, es[i].left, 0) := by unfold lookQ; rw [hi]; dsimp only; rw [getD_et hl]
    rw [e1]
    obtain ⟨g, c, rfl⟩ := h.formL (by omega)
    obtain ⟨N, hN⟩ : ∃ N, N = es.length := ⟨_, rfl⟩
    rw [← hN] at h
    have c3 := h.c3
    have hidx : 0 ≤ (i : Int) ∧ (i : Int) < (N : Int) := by omega
    have hneg : ¬ (i : Int) < 0 := by omega
    have b1 := (h.e5 i hl).c1
    have b2 := (h.e5 i hl).c2
    have b3 := (h.e5 i hl).c3
    generalize es[i] = x at b1 b2 b3 ⊢
    obtain ⟨x0, x1, x2, x3, x4⟩ := x
    dsimp only at b1 b2 b3 ⊢
    clear h hi e1 hE hl hN
    go_enter Try.func44, Try.ntmps44
    go_wp2_with fail
    refine HFN.out.mono ?_
    rintro e w' ⟨rfl, h⟩
    have h3 := h.symm; clear h; subst h3
    go_wp2_with fail
    go_quiet (fail)
    go_wp2_with fail
    refine bodyPost_ret (v := .tuple #[.int .i64 x1, .int .i64 x2, .int .i64 x3, .int .i64 0]) ?_ rfl ⟨rfl, (Only.refl _ _).drewN _⟩
    simp [results, Try.results44, go_sem]
end Go.Proofs.Ytgncabcnefhkiaa

import Derived.Test.YtgncabcnefhkiaaCs28
/- Chapter 9, the program's scheduler: Prio, Remove. -/
namespace Go.Proofs.Ytgncabcnefhkiaa
open Go.ChangeShapes Go.WideShapes Go.ChangeAt Go.RowKit
open Go.Vx
set_option linter.unusedVariables false
variable {U V S : Nat → Prop} {w w2 w3 : World} {xb mb n : Nat} {D D2 : DataW Value} {G : Int → Nat} {vt : Value} {vq : List Value} {ts : List (Int × Int)} {t : Nat} {lf : Int} {es es2 : List Et} {Q : Nat → List Int} {ck : Nat}

/-- Another priority. -/
def prE (e : Et) (p : Int) : Et := { e with prio := p }
/-- A look into the map, and what lies behind it. -/
theorem XgAt.look (h : XgAt U w xb G ts t lf es ck) (n : Int) (hn : I64 n) : ∃ mb, w.cell? ⟨xb, 3, none⟩ = some (.map (some mb)) ∧ (Instr.lookup 64 (.map (some mb)) (.int .i64 n) false).run Try.prog w = .ok (rnV G es n) w := by
  obtain ⟨hw, hts, mb, D, vt, vq, Q, hq, hx⟩ := h
  exact ⟨mb, hx.c3, hx.look n hn⟩
theorem XgAt.r5 (h : XgAt U w xb G ts t lf es ck) {n : Int} {i : Nat} (hi : fnF es n = some i) : ∃ hl : i < es.length, es[i].num = n ∧ R5 w (G n) es[i] ∧ rnV G es n = .pointer (some ⟨G n, 0, none⟩) := by
  obtain ⟨hw, hts, mb, D, vt, vq, Q, hq, hx⟩ := h
  exact hx.r5 hi
/-- One that is in no queue has another priority. -/
theorem XgAt.prio (h : XgAt U w xb G ts t lf es ck) {n p : Int} {i : Nat} (hi : fnF es n = some i) (h0 : (es.getD i .df).came = 0) (hp : 0 ≤ p ∧ p ≤ 7) : XgAt U (w.setCell ⟨G n, 2, none⟩ (.int .i64 p)) xb G ts t lf (es.set i (prE (es.getD i .df) p)) ck ∧ Only (fun k => ¬ U k) w (w.setCell ⟨G n, 2, none⟩ (.int .i64 p)) := by
  obtain ⟨hw, hts, mb, D, vt, vq, Q, hq, hx⟩ := h
  obtain ⟨hl, hE⟩ := fnF_at hi
  rw [getD_et hl] at h0 ⊢
  have hko := hw.ok _ (List.getElem_mem hl)
  obtain ⟨k1, o1⟩ := hx.putR hw.nd hl (prE es[i] p) rfl 2 (.int .i64 p) rfl
  rw [hE] at k1 o1
  exact ⟨⟨hw.off hl _ rfl rfl hp (hko.2.2.2.2.2.2.2.2.2 h0) h0, hts, _, _, _, _, _, fun j hj => NQ.idle hl _ h0 h0 (hq j hj), k1⟩, o1⟩
theorem prio_set (es : List Et) (ck : Nat) {n p : Int} {i : Nat} (hi : fnF es n = some i) (hl : i < es.length) (hw : SWf es ck) : ((es.getD i .df).came ≠ 0 → prioL es ck n p = ((es.set i (offE (es.getD i .df))).set i (prE (offE (es.getD i .df)) p)).set i (lastE ck (prE (offE (es.getD i .df)) p)) ∧ prioC es ck n = ck + 1) ∧ ((es.getD i .df).came = 0 → prioL es ck n p = (es.set i (offE (es.getD i .df))).set i (prE (offE (es.getD i .df)) p) ∧ prioC es ck n = ck) := by
  have hko := hw.ok _ (List.getElem_mem hl)
  rw [getD_et hl]
  unfold prioL prioC
  rw [hi]
  dsimp only
  rw [getD_et hl]
  constructor
  · intro h
    rw [if_pos (by omega), if_pos (by omega), List.set_set, List.set_set]
    exact ⟨rfl, rfl⟩
  · intro h
    rw [if_neg (by omega), if_neg (by omega), List.set_set]
    refine ⟨?_, rfl⟩
    have h1 : es[i].left = 0 := hko.2.2.2.2.2.2.2.2.2 h
    have : offE es[i] = es[i] := by
      unfold offE
      generalize es[i] = e at h h1
      obtain ⟨a, b, c, d, e⟩ := e
      simp only at h h1
      rw [h, h1]
    rw [this]
    rfl
set_option maxRecDepth 100000 in
set_option maxHeartbeats 2000000 in
theorem xprio_ok (h : XgAt U w xb G ts t lf es ck) (n p : Int) (hn : I64 n) : Calls Try.prog 18 #[.pointer (some ⟨xb, 0, none⟩), .int .i64 n, .int .i64 p] w fun e w' => e = .returned (.int .i64 (prioE es n p)) ∧ XgAt U w' xb G ts t lf (if prioE es n p = 0 then prioL es ck n p else es) (if prioE es n p = 0 then prioC es ck n else ck) ∧ Only (fun k => ¬ U k) w w' := by
  have HH := Vx.hid h
  obtain ⟨mb, c3, hk⟩ := h.look n hn
  cases hi : fnF es n with
  | none =>
    have hv : rnV G es n = .pointer none := by unfold rnV; rw [hi]
    have e1 : prioE es n p = 6 := by unfold prioE; rw [hi]
    simp only [e1, if_neg (show ¬ (6 : Int) = 0 by decide)]
    rw [hv] at hk
    clear h hi hv hn e1
    go_enter Try.func18, Try.ntmps18
    go_wp2_with fail
    all_goals
      go_ret
      exact ⟨rfl, HH.out, Only.refl _ _⟩
  | some i =>
    obtain ⟨hl, hE, r5, hv⟩ := h.r5 hi
    rw [hv] at hk
    have HP := Vx.hid (isPrio_ok p)
    cases hb : ltB p with
    | false =>
      have e1 : prioE es n p = 1 := by
        unfold prioE; rw [hi]; dsimp only
        have := of_decide_eq_false hb
        exact if_pos (by omega)
      simp only [e1, if_neg (show ¬ (1 : Int) = 0 by decide)]
      rw [hb] at HP
      generalize G n = g at hk
      clear h hi hv hn e1 hE r5 hl hb
      go_enter Try.func18, Try.ntmps18
      go_wp2_with fail
      refine (HP.out _).mono ?_
      rintro e w' ⟨rfl, h⟩
      have h3 := h.symm; clear h; subst h3
      go_wp2_with fail
      all_goals
        go_ret
        exact ⟨rfl, HH.out, Only.refl _ _⟩
    | true =>
      have hp07 := of_decide_eq_true hb
      have e1 : prioE es n p = 0 := by
        unfold prioE; rw [hi]; dsimp only
        exact if_neg (by omega)
      simp only [e1, if_true]
      rw [hb] at HP
      have HL := Vx.hid (xleave_ok h hi)
      obtain ⟨hs1, hs2⟩ := prio_set es ck (p := p) hi hl h.1
      have a3 := r5.c3
      have hi2 : fnF (es.set i (offE (es.getD i .df))) n = some i := by
        rw [getD_et hl, fnF_set hl (offE es[i]) rfl]; exact hi
      have hl2 : i < (es.set i (offE (es.getD i .df))).length := by rw [List.length_set]; exact hl
      have e5 : (es.set i (offE (es.getD i .df))).getD i .df = offE (es.getD i .df) := by rw [getD_et hl2, List.getElem_set_self]
      have hl3 : i < ((es.set i (offE (es.getD i .df))).set i (prE (offE (es.getD i .df)) p)).length := by rw [List.length_set]; exact hl2
      have e6 : ((es.set i (offE (es.getD i .df))).set i (prE (offE (es.getD i .df)) p)).getD i .df = prE (offE (es.getD i .df)) p := by rw [getD_et hl3, List.getElem_set_self]
      have hi3 : fnF ((es.set i (offE (es.getD i .df))).set i (prE (offE (es.getD i .df)) p)) n = some i := by
        rw [fnF_set hl2 (prE (offE (es.getD i .df)) p) (by rw [List.getElem_set_self]; rfl)]; exact hi2
      have HS : Hid (∀ wx, XgAt U wx xb G ts t lf (es.set i (offE (es.getD i .df))) ck → (∃ y, wx.cell? ⟨G n, 2, none⟩ = some y) ∧ wx.frozen? ⟨G n, 2, none⟩ = false ∧ XgAt U (wx.setCell ⟨G n, 2, none⟩ (.int .i64 p)) xb G ts t lf ((es.set i (offE (es.getD i .df))).set i (prE (offE (es.getD i .df)) p)) ck ∧ Only (fun k => ¬ U k) wx (wx.setCell ⟨G n, 2, none⟩ (.int .i64 p))) := by
        intro wx hx
        obtain ⟨_, _, s5, _⟩ := hx.r5 hi2
        have := hx.prio hi2 (p := p) (by rw [e5]; rfl) hp07
        rw [e5] at this
        exact ⟨⟨_, s5.c2⟩, s5.fz 2, this⟩
      have HJ : Hid (∀ wx, XgAt U wx xb G ts t lf ((es.set i (offE (es.getD i .df))).set i (prE (offE (es.getD i .df)) p)) ck → Calls Try.prog 26 #[.pointer (some ⟨xb, 0, none⟩), .pointer (some ⟨G n, 0, none⟩)] wx fun e w' => (∃ x, e = .returned x) ∧ XgAt U w' xb G ts t lf (((es.set i (offE (es.getD i .df))).set i (prE (offE (es.getD i .df)) p)).set i (lastE ck (prE (offE (es.getD i .df)) p))) (ck + 1) ∧ Only (fun k => ¬ U k) wx w') := by
        intro wx hx
        have := xjoin_ok hx hi3 (by rw [e6]; rfl)
        rw [e6] at this
        exact this
      have hge : es.getD i .df = es[i] := getD_et hl
      rw [← hge] at a3
      clear hi2 hi3 hl2 hl3 e5 e6 h
      by_cases hc : (es.getD i .df).came = 0
      · obtain ⟨e7, e8⟩ := hs2 hc
        rw [e7, e8]
        have hcd : decide ((es.getD i .df).came ≠ 0) = false := decide_eq_false (fun h => h hc)
        rw [hcd] at a3
        generalize G n = g at hk HL HS HJ a3 ⊢
        clear hs1 hs2 e7 e8 hi hv hn e1 hE r5 hb hp07 hc hcd hge
        clear hl
        go_enter Try.func18, Try.ntmps18
        go_wp2_with fail
        refine (HP.out _).mono ?_
        rintro e w' ⟨rfl, h⟩
        have h3 := h.symm; clear h; subst h3
        go_wp2_with fail
        refine HL.out.mono ?_
        rintro e wx ⟨⟨x, rfl⟩, hr, ho⟩
        obtain ⟨⟨y, q2⟩, f2, hr2, ho2⟩ := HS.out _ hr
        have HF := Vx.hid (⟨hr2, ho.trans ho2⟩ : _ ∧ _)
        clear hr ho hr2 ho2
        go_wp2_with fail
        all_goals
          go_ret
          exact ⟨rfl, HF.out.1, HF.out.2⟩
      · obtain ⟨e7, e8⟩ := hs1 hc
        rw [e7, e8]
        have hcd : decide ((es.getD i .df).came ≠ 0) = true := decide_eq_true hc
        rw [hcd] at a3
        generalize G n = g at hk HL HS HJ a3 ⊢
        clear hs1 hs2 e7 e8 hi hv hn e1 hE r5 hb hp07 hc hcd hge
        clear hl
        go_enter Try.func18, Try.ntmps18
        go_wp2_with fail
        refine (HP.out _).mono ?_
        rintro e w' ⟨rfl, h⟩
        have h3 := h.symm; clear h; subst h3
        go_wp2_with fail
        refine HL.out.mono ?_
        rintro e wx ⟨⟨x, rfl⟩, hr, ho⟩
        obtain ⟨⟨y, q2⟩, f2, hr2, ho2⟩ := HS.out _ hr
        have HO := Vx.hid (ho.trans ho2)
        have HR := Vx.hid hr2
        clear hr ho hr2 ho2
        go_wp2_with fail
        refine (HJ.out _ HR.out).mono ?_
        rintro e wy ⟨⟨x2, rfl⟩, hr3, ho3⟩
        have HF := Vx.hid (⟨hr3, HO.out.trans ho3⟩ : _ ∧ _)
        clear hr3 ho3
        go_wp2_with fail
        all_goals
          go_ret
          exact ⟨rfl, HF.out.1, HF.out.2⟩
set_option maxHeartbeats 2000000 in
theorem xrem_ok (h : XgAt U w xb G ts t lf es ck) (n : Int) (hn : I64 n) : Calls Try.prog 29 #[.pointer (some ⟨xb, 0, none⟩), .int .i64 n] w fun e w' => e = .returned (.int .i64 (remSE es n)) ∧ XgAt U w' xb G ts t lf (remSL es n) ck ∧ Only (fun k => ¬ U k) w w' := by
  have HH := Vx.hid h
  obtain ⟨mb, c3, hk⟩ := h.look n hn
  cases hi : fnF es n with
  | none =>
    have hv : rnV G es n = .pointer none := by unfold rnV; rw [hi]
    have e1 : remSE es n = 6 := by unfold remSE; rw [hi]
    have e2 : remSL es n = es := by unfold remSL; rw [hi]
    rw [e1, e2]
    rw [hv] at hk
    clear h hi hv hn e1 e2
    go_enter Try.func29, Try.ntmps29
    go_wp2_with fail
    all_goals
      go_ret
      exact ⟨rfl, HH.out, Only.refl _ _⟩
  | some i =>
    obtain ⟨hl, hE, r5, hv⟩ := h.r5 hi
    rw [hv] at hk
    have e1 : remSE es n = 0 := by unfold remSE; rw [hi]
    have e2 : remSL es n = es.take i ++ es.drop (i + 1) := by unfold remSL; rw [hi]
    have HWR := Vx.hid (h.1.rem n)
    rw [e2] at HWR
    rw [e1, e2]
    have HL := Vx.hid (xleave_ok h hi)
    have hi2 : fnF (es.set i (offE (es.getD i .df))) n = some i := by
      rw [getD_et hl, fnF_set hl (offE es[i]) rfl]; exact hi
    have hl2 : i < (es.set i (offE (es.getD i .df))).length := by rw [List.length_set]; exact hl
    have e3 : (es.set i (offE (es.getD i .df))).take i ++ (es.set i (offE (es.getD i .df))).drop (i + 1) = es.take i ++ es.drop (i + 1) := by
      rw [List.take_set, List.drop_set_of_lt (by omega), List.set_eq_of_length_le (by rw [List.length_take]; omega)]
    have HD : Hid (∀ wx, XgAt U wx xb G ts t lf (es.set i (offE (es.getD i .df))) ck → ∃ mb wy, wx.cell? ⟨xb, 3, none⟩ = some (.map (some mb)) ∧ (∀ ty, (Builtin.delete_ #[64, 3] ty #[.map (some mb), .int .i64 n]).run Try.prog wx = .ok (.tuple #[]) wy) ∧ XgAt U wy xb G ts t lf (es.take i ++ es.drop (i + 1)) ck ∧ Only (fun k => ¬ U k) wx wy) := by
      intro wx hx
      obtain ⟨hw, hts, mb, D, vt, vq, Q, hq, hx⟩ := hx
      obtain ⟨w4, hrun, hm4, ht4⟩ := hx.m.drop (t := 64) (e := 76) mi_keyed Try.underlying64 (mi_key hn) 0
      obtain ⟨hf1, hf2⟩ := hx.gone hw.nd hi2 hm4 ht4.grown
      rw [e3] at hf1
      refine ⟨mb, w4, hx.c3, fun ty => ?_, ⟨HWR.out, hts, _, _, _, _, _, fun j hj => ?_, hf1⟩, hf2⟩
      · exact hrun
      · have := NQ.rem hl2 (by rw [List.getElem_set_self]; rfl) (hq j hj)
        rw [e3] at this
        exact this
    generalize G n = g at hk HL ⊢
    clear h hi hv hn e1 e2 e3 hE r5 hi2 hl2 hl HWR
    go_enter Try.func29, Try.ntmps29
    go_wp2_with fail
    refine HL.out.mono ?_
    rintro e wx ⟨⟨x, rfl⟩, hr, ho⟩
    obtain ⟨mb2, wy, d3, hrun, hr2, ho2⟩ := HD.out _ hr
    have HF := Vx.hid (⟨hr2, ho.trans ho2⟩ : _ ∧ _)
    clear hr ho hr2 ho2 c3 hk
    go_wp2_with fail
    all_goals
      go_ret
      exact ⟨rfl, HF.out.1, HF.out.2⟩
end Go.Proofs.Ytgncabcnefhkiaa

/- Chapter 9, the program's scheduler: takeTick, Next. -/
import Derived.Test.YtgncabcnefhkiaaSX7
namespace Go.Proofs.Ytgncabcnefhkiaa
open Go.ChangeShapes Go.WideShapes Go.ChangeAt Go.RowKit
open Go.Vx
set_option linter.unusedVariables false
variable {U V S : Nat → Prop} {w w2 : World} {xb mb : Nat} {D : DataW Value} {G : Int → Nat} {vt : Value} {vq : List Value} {ts : List (Int × Int)} {t : Nat} {lf : Int} {es : List Et} {Q : Nat → List Int} {ck : Nat}

theorem TsOk.next (h : TsOk ts t lf) : TsOk ts (turnT ts t lf) (turnL ts t lf) := by
  have hx : (t + 1) % ts.length < ts.length := Nat.mod_lt _ (by have := h.n1; omega)
  have hm : ts.getD ((t + 1) % ts.length) (0, 0) ∈ ts := by simp [List.getD_eq_getElem?_getD, hx]
  have h1 := of_decide_eq_true (h.ok _ hm)
  have a := h.l0
  have b := h.l1
  refine ⟨h.n1, h.n2, h.ok, ?_, ?_, ?_⟩
  · unfold turnT
    split
    · exact hx
    · exact h.tl
  · unfold turnL
    split <;> omega
  · unfold turnL
    split <;> omega
set_option maxRecDepth 100000 in
set_option maxHeartbeats 4000000 in
theorem xtick_ok (h : XgAt U w xb G ts t lf es ck) : Calls Try.prog 46 #[.pointer (some ⟨xb, 0, none⟩)] w fun e w' => (∃ x, e = .returned x) ∧ XgAt U w' xb G ts (turnT ts t lf) (turnL ts t lf) es ck ∧ Only (fun k => ¬ U k) w w' := by
  obtain ⟨hw, hts, mb, D, vt, vq, Q, hq, h⟩ := h
  have hts2 := hts.next
  obtain ⟨t1, ht1⟩ : ∃ t1, t1 = turnT ts t lf := ⟨_, rfl⟩
  obtain ⟨l1, hl1⟩ : ∃ l1, l1 = turnL ts t lf := ⟨_, rfl⟩
  rw [← ht1, ← hl1] at hts2 ⊢
  obtain ⟨g, c, rfl⟩ := h.formT hts.n1
  obtain ⟨T, hTT⟩ : ∃ T, T = ts.length := ⟨_, rfl⟩
  rw [← hTT] at h
  have hT1 := hts.n1
  have hT2 := hts.n2
  have htl := hts.tl
  have hlf := hts.l0
  have hlf2 := hts.l1
  have hl0 := hts2.l0
  have hl9 := hts2.l1
  have c2 := h.c2
  have f2 := h.fz 2
  by_cases hz : lf = 0
  · subst hz
    have e1 : t1 = (t + 1) % T := by rw [ht1, hTT]; exact if_pos rfl
    have ht1l : t1 < T := by rw [e1]; exact Nat.mod_lt _ (by omega)
    have e2 : l1 = (ts.getD t1 (0, 0)).2 - 1 := by rw [hl1, e1, hTT]; unfold turnL; rw [if_pos rfl]
    have hwt : IntKind.i64.wrap ((t : Int) + 1) = (t : Int) + 1 := by rw [IntKind.wrap_i64]; omega
    have htm : ((t : Int) + 1).tmod (T : Int) = (t1 : Int) := by rw [Int.tmod_eq_emod_of_nonneg (by omega), e1, Int.natCast_emod]; rfl
    have hwt1 : IntKind.i64.wrap (t1 : Int) = (t1 : Int) := by rw [IntKind.wrap_i64]; omega
    have hT0 : ((T : Int) == 0) = false := by rw [beq_eq_false_iff_ne]; omega
    have hT0' : ¬ (T : Int) = 0 := by omega
    have hT1' : ((T : Int) == -1) = false := by rw [beq_eq_false_iff_ne]; omega
    have c0 := h.c0
    have c1 := h.c1
    have f1 := h.fz 1
    have hidx : 0 ≤ (t1 : Int) ∧ (t1 : Int) < (T : Int) := by omega
    obtain ⟨k1, o1⟩ := h.putT t1
    have k1' := k1.quiet ((Only.refl (fun _ => False) _).drew)
    obtain ⟨w1, hw1⟩ : ∃ w1, w1 = (w.setCell ⟨xb, 1, none⟩ (.int .i64 (t1 : Int))).drew := ⟨_, rfl⟩
    have o1' : Only (fun k => ¬ U k) w w1 := by rw [hw1]; exact o1.trans (((Only.refl (fun _ => False) _).drew).mono (fun _ _ h => h.elim))
    rw [← hw1] at k1'
    have p0 := k1'.c0
    have p1 := k1'.c1
    have p2 := k1'.c2
    have pf := k1'.fz 2
    obtain ⟨u0, u1⟩ := k1'.turn t1 (by omega)
    obtain ⟨tk, htk⟩ : ∃ tk, tk = (ts.getD t1 (0, 0)).2 := ⟨_, rfl⟩
    rw [← htk] at u1 e2
    obtain ⟨k2, o2⟩ := k1'.putF tk
    have k2' := k2.quiet ((Only.refl (fun _ => False) _).drew)
    obtain ⟨w2, hw2⟩ : ∃ w2, w2 = (w1.setCell ⟨xb, 2, none⟩ (.int .i64 tk)).drew := ⟨_, rfl⟩
    have o2' : Only (fun k => ¬ U k) w1 w2 := by rw [hw2]; exact o2.trans (((Only.refl (fun _ => False) _).drew).mono (fun _ _ h => h.elim))
    rw [← hw2] at k2'
    have r2 := k2'.c2
    have rf := k2'.fz 2
    obtain ⟨k3, o3⟩ := k2'.putF (tk - 1)
    have hwk : IntKind.i64.wrap (tk - 1) = tk - 1 := by rw [IntKind.wrap_i64]; omega
    have HF : Hid (XgAt U (w2.setCell ⟨xb, 2, none⟩ (.int .i64 (tk - 1))) xb G ts t1 l1 es ck ∧ Only (fun k => ¬ U k) w (w2.setCell ⟨xb, 2, none⟩ (.int .i64 (tk - 1)))) := ⟨⟨hw, hts2, _, _, _, _, _, hq, by rw [e2]; exact k3⟩, (o1'.trans o2').trans o3⟩
    generalize (ts.getD t1 (0, 0)).1 = tdm at u0
    clear h e1 e2 k1 k1' k2 k2' k3 o1 o1' o2 o2' o3 ht1 hl1 hTT hts hts2 hq hw htk hT1 hT2 htl hlf hlf2 hl0 hl9
    go_enter Try.func46, Try.ntmps46
    go_wp2_with fail
    go_region
    all_goals
      rw [← hw1]
      clear hw1 c0 c1 c2 f1 f2
      go_wp2_with fail
      go_region
      all_goals
        rw [← hw2]
        clear hw2 p0 p1 p2 pf u0 u1
        go_wp2_with fail
        go_end0
        exact ⟨⟨_, rfl⟩, HF.out.1, HF.out.2⟩
  · have e1 : t1 = t := by rw [ht1]; exact if_neg hz
    have e2 : l1 = lf - 1 := by rw [hl1]; unfold turnL; rw [if_neg hz]
    have hz2 : (lf == 0) = false := beq_eq_false_iff_ne.2 hz
    obtain ⟨k3, o3⟩ := h.putF (lf - 1)
    have hwk : IntKind.i64.wrap (lf - 1) = lf - 1 := by rw [IntKind.wrap_i64]; omega
    have HF : Hid (XgAt U (w.setCell ⟨xb, 2, none⟩ (.int .i64 (lf - 1))) xb G ts t1 l1 es ck ∧ Only (fun k => ¬ U k) w (w.setCell ⟨xb, 2, none⟩ (.int .i64 (lf - 1)))) := ⟨⟨hw, hts2, _, _, _, _, _, hq, by rw [e2, e1]; exact k3⟩, o3⟩
    clear h e1 e2 k3 o3 ht1 hl1 hTT hts hts2 hq hw hT1 hT2 htl hlf hlf2 hl0 hl9
    go_enter Try.func46, Try.ntmps46
    go_wp2_with fail
    all_goals
      go_end0
      exact ⟨⟨_, rfl⟩, HF.out.1, HF.out.2⟩
/-- A runner has one fewer left. -/
theorem XgAt.less (h : XgAt U w xb G ts t lf es ck) {d : Int} {j : Nat} (hb : bestF es d = some j) (hl0 : (es.getD j .df).left ≠ 0) : ∃ x, x = (es.getD j .df).left ∧ IntKind.i64.wrap (x - 1) = x - 1 ∧ w.cell? ⟨G (es.getD j .df).num, 4, none⟩ = some (.int .i64 x) ∧ w.frozen? ⟨G (es.getD j .df).num, 4, none⟩ = false ∧
    XgAt U (w.setCell ⟨G (es.getD j .df).num, 4, none⟩ (.int .i64 (x - 1))) xb G ts t lf (es.set j (lessE (es.getD j .df))) ck ∧ Only (fun k => ¬ U k) w (w.setCell ⟨G (es.getD j .df).num, 4, none⟩ (.int .i64 (x - 1))) ∧ (w.setCell ⟨G (es.getD j .df).num, 4, none⟩ (.int .i64 (x - 1))).cell? ⟨G (es.getD j .df).num, 0, none⟩ = some (.int .i64 (es.getD j .df).num) := by
  obtain ⟨hj, h1, h2⟩ := best_some hb
  rw [getD_et hj] at hl0 ⊢
  obtain ⟨hw, hts, mb, D, vt, vq, Q, hq, h⟩ := h
  have hko := hw.ok _ (List.getElem_mem hj)
  have r5 := r5_of (h.rn _ (List.getElem_mem hj))
  obtain ⟨k1, o1⟩ := h.putR hw.nd hj (lessE es[j]) rfl 4 (.int .i64 (es[j].left - 1)) rfl
  have hjl : j < (es.set j (lessE es[j])).length := by rw [List.length_set]; exact hj
  have s5 := r5_of (k1.rn _ (List.getElem_mem hjl))
  rw [List.getElem_set_self] at s5
  refine ⟨_, rfl, by rw [IntKind.wrap_i64]; omega, r5.c4, r5.fz 4, ⟨hw.less hj h1.2 (by omega) (fun e he hi9 => h2 e he ⟨hi9.1.trans h1.1, hi9.2⟩), hts, _, _, _, _, _, fun k hk => ?_, k1⟩, o1, s5.c0⟩
  exact NQ.same hw.nd hj (lessE es[j]) rfl rfl rfl rfl (hq k hk)
set_option maxRecDepth 100000 in
set_option maxHeartbeats 4000000 in
theorem xnext_ok (h : XgAt U w xb G ts t lf es ck) : Calls Try.prog 14 #[.pointer (some ⟨xb, 0, none⟩)] w fun e w' => e = .returned (.int .i64 (nextI es ck (turnD ts t lf)).2.2) ∧ XgAt U w' xb G ts (turnT ts t lf) (turnL ts t lf) (nextI es ck (turnD ts t lf)).1 (nextI es ck (turnD ts t lf)).2.1 ∧ Only (fun k => ¬ U k) w w' := by
  have hw := h.1
  have H1 := Vx.hid (xtick_ok h)
  clear h
  unfold turnD
  obtain ⟨t1, ht1⟩ : ∃ t1, t1 = turnT ts t lf := ⟨_, rfl⟩
  obtain ⟨l1, hl1⟩ : ∃ l1, l1 = turnL ts t lf := ⟨_, rfl⟩
  rw [← ht1, ← hl1] at H1 ⊢
  clear ht1 hl1
  obtain ⟨d, hd⟩ : ∃ d, d = (ts.getD t1 (0, 0)).1 := ⟨_, rfl⟩
  rw [← hd]
  have HD := Vx.hid hd
  clear hd
  cases hb : bestF es d with
  | none =>
    have e1 : nextI es ck d = (es, ck, -1) := by unfold nextI; rw [hb]
    have HV : Hid (fsV G es d = .pointer none) := by unfold fsV; rw [hb]; exact rfl
    rw [e1]
    clear e1 hb hw
    go_enter Try.func14, Try.ntmps14
    go_wp2_with fail
    refine H1.out.mono ?_
    rintro e wx ⟨⟨x, rfl⟩, hx, ho⟩
    have HF := Vx.hid (xfirst_ok hx)
    have HX := Vx.hid hx
    have HO := Vx.hid ho
    clear hx ho
    rw [← HD.out, HV.out] at HF
    go_wp2_with fail
    refine HF.out.mono ?_
    rintro e wy ⟨rfl, ho2⟩
    go_wp2_with fail
    all_goals
      go_ret
      exact ⟨rfl, HX.out.quiet ho2, HO.out.trans (ho2.mono (fun _ _ h => h.elim))⟩
  | some i =>
    obtain ⟨hi, h1, h2⟩ := best_some hb
    have hnum : fnF es (es.getD i .df).num = some i := by rw [getD_et hi]; exact fnF_num hw.nd hi
    have HV : Hid (fsV G es d = .pointer (some ⟨G (es.getD i .df).num, 0, none⟩)) := by unfold fsV; rw [hb]; exact rfl
    by_cases hl : (es.getD i .df).left = 0
    · obtain ⟨_, j, hb2, hj, hj5⟩ := best_last hw hb
      rw [getD_et hi] at hnum HV hl
      have e1 : nextI es ck d = ((es.set i (lastE ck es[i])).set j (lessE ((es.set i (lastE ck es[i])).getD j .df)), ck + 1, ((es.set i (lastE ck es[i])).getD j .df).num) := by
        unfold nextI
        rw [hb]
        dsimp only
        rw [getD_et hi, if_pos hl, hb2]
      rw [e1]
      have HV2 : Hid (fsV G (es.set i (lastE ck es[i])) d = .pointer (some ⟨G ((es.set i (lastE ck es[i])).getD j .df).num, 0, none⟩)) := by unfold fsV; rw [hb2]; exact rfl
      have HB2 := Vx.hid hb2
      have HL5 : Hid (((es.set i (lastE ck es[i])).getD j .df).left ≠ 0) := by
        show _ ≠ _
        have e5 : (es.set i (lastE ck es[i])).getD j .df = (es.set i (lastE ck es[i]))[j] := getD_et hj
        rw [e5, hj5]; decide
      have HN := Vx.hid hnum
      have HG : Hid (es.getD i .df = es[i]) := getD_et hi
      have HLE := Vx.hid hl
      have HI : Hid (∃ k : i < es.length, True) := ⟨hi, trivial⟩
      have HR : Hid (∀ wx, XgAt U wx xb G ts t1 l1 es ck → wx.cell? ⟨G es[i].num, 4, none⟩ = some (.int .i64 0)) := by
        intro wx hx
        obtain ⟨_, _, mb, D, vt, vq, Q, hq, hx⟩ := hx
        have := (r5_of (hx.rn _ (List.getElem_mem hi))).c4
        rw [hl] at this
        exact this
      generalize hE : es[i] = E at HV HV2 HB2 HL5 HN HG HLE HR ⊢
      clear hE e1 hb hb2 hj5 hj hl hnum h1 h2 hw hi HI
      go_enter Try.func14, Try.ntmps14
      go_wp2_with fail
      refine H1.out.mono ?_
      rintro e wx ⟨⟨x, rfl⟩, hx, ho⟩
      have HF := Vx.hid (xfirst_ok hx)
      have HX := Vx.hid hx
      have HO := Vx.hid ho
      clear hx ho
      rw [← HD.out, HV.out] at HF
      go_wp2_with fail
      refine HF.out.mono ?_
      rintro e wy ⟨rfl, ho2⟩
      have hx2 := HX.out.quiet ho2
      have HO2 := Vx.hid (HO.out.trans (ho2.mono (fun _ _ h => h.elim)))
      have b4 := HR.out wy hx2
      have HJ := Vx.hid (xrejoin_ok hx2 HN.out)
      rw [HG.out] at HJ
      clear hx2 HX HO HF ho2
      go_wp2_with fail
      refine HJ.out.mono ?_
      rintro e wz ⟨⟨x2, rfl⟩, hx3, ho3⟩
      have HF2 := Vx.hid (xfirst_ok hx3)
      rw [← HD.out, HV2.out] at HF2
      have HX3 := Vx.hid hx3
      have HO3 := Vx.hid (HO2.out.trans ho3)
      clear hx3 ho3 b4
      go_wp2_with fail
      refine HF2.out.mono ?_
      rintro e wu ⟨rfl, ho4⟩
      have hx4 := HX3.out.quiet ho4
      have HO4 := Vx.hid (HO3.out.trans (ho4.mono (fun _ _ h => h.elim)))
      obtain ⟨x4, hx9, hwr, b4, f4, hxx, hoo, b0⟩ := hx4.less HB2.out HL5.out
      have HXX := Vx.hid hxx
      have HOO := Vx.hid hoo
      generalize G ((es.set i (lastE ck E)).getD j .df).num = g at b4 f4 b0 HXX HOO ⊢
      clear hx4 ho4 hxx hoo HX3 HO3 HF2 hx9
      go_wp2_with fail
      all_goals
        go_ret
        exact ⟨rfl, HXX.out, HO4.out.trans HOO.out⟩
    · have e1 : nextI es ck d = (es.set i (lessE (es.getD i .df)), ck, (es.getD i .df).num) := by
        unfold nextI
        rw [hb]
        dsimp only
        rw [if_neg hl]
      rw [e1]
      have HB := Vx.hid hb
      have HL := Vx.hid hl
      clear e1 hb hl hnum h1 h2 hw hi
      go_enter Try.func14, Try.ntmps14
      go_wp2_with fail
      refine H1.out.mono ?_
      rintro e wx ⟨⟨x, rfl⟩, hx, ho⟩
      have HF := Vx.hid (xfirst_ok hx)
      have HX := Vx.hid hx
      have HO := Vx.hid ho
      clear hx ho
      rw [← HD.out, HV.out] at HF
      go_wp2_with fail
      refine HF.out.mono ?_
      rintro e wy ⟨rfl, ho2⟩
      have hx2 := HX.out.quiet ho2
      have HO2 := Vx.hid (HO.out.trans (ho2.mono (fun _ _ h => h.elim)))
      obtain ⟨x4, hx9, hwr, b4, f4, hxx, hoo, b0⟩ := hx2.less HB.out HL.out
      have hne : ¬ x4 = 0 := by rw [hx9]; exact HL.out
      have hne2 : (x4 == 0) = false := beq_eq_false_iff_ne.2 hne
      have HXX := Vx.hid hxx
      have HOO := Vx.hid hoo
      generalize G (es.getD i .df).num = g at b4 f4 b0 HXX HOO ⊢
      clear hx2 ho2 hxx hoo HX HO HF hx9
      go_wp2_with fail
      all_goals
        go_ret
        exact ⟨rfl, HXX.out, HO2.out.trans HOO.out⟩
end Go.Proofs.Ytgncabcnefhkiaa

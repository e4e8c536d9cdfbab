import Derived.Test.YtdpgdjpphnbfnaaCi33
/- Chapter 10, the document's bus: Hear. -/
namespace Go.Proofs.Ytdpgdjpphnbfnaa
open Go.ChangeShapes Go.WideShapes Go.ChangeAt Go.RowKit
open Go.Vx
set_option linter.unusedVariables false
variable {U V S : Nat → Prop} {w w2 w3 : World} {rb : Nat} {vp vw : Value} {s : Bs}

set_option maxRecDepth 100000 in
set_option maxHeartbeats 4000000 in
theorem rhear_false (h : RbAt U w rb vp vw s) (hl9 : s.ws.length < 1000000) (n t : Int) : Calls Try.prog 30 #[.pointer (some ⟨rb, 0, none⟩), .int .i64 n, .int .i64 t, .bool false] w fun e w' => e = .returned (ocV (hearR s n t false)) ∧ RbX U w' rb (hearS s n t false) ∧ Only (fun k => ¬ U k) w w' := by
  obtain ⟨w1, hw1⟩ : ∃ w1, w1 = w.alloc (.cells #[.int .i64 0, .int .i64 0, .int .u32 0, .int .u32 0, .int .u32 0, .int .u32 0, .int .u32 0, .int .u32 0, .bool false, .bool false, .bool false] 37) := ⟨_, rfl⟩
  obtain ⟨rc, hrc⟩ : ∃ rc, rc = w.heap.size := ⟨_, rfl⟩
  have ho1 : Only (fun _ => False) w w1 := by rw [hw1]; exact (Only.refl _ w).alloc _
  have hz1 : w1.heap[rc]? = some (.cells oc0A 37 (0, 0)) := by rw [hw1, hrc]; exact heap_alloc_last w _
  have hrl : w.heap.size ≤ rc := by omega
  have hrh := lt_of_some hz1
  have h1 := h.lift ho1
  have HH := Vx.hid h1
  have HZ : Hid (∀ w3, Only (fun k => ¬ Up U w w1 k) w1 w3 → Z11 w3 rc) := fun w3 h3 => z11_of (up_keep h3 hz1 hrl)
  have HFC : Hid (∀ s2 w3 w7, RbX (Up U w w1) w3 rb s2 → Only (fun k => ¬ Up U w w1 k) w1 w3 → Only (fun k => k = rc) w3 w7 → RbX U w7 rb s2 ∧ Only (fun k => ¬ U k) w w7) := fun s2 w3 w7 a1 a2 a3 => up_out (rb_steps rb s2) a1 ho1 a2 hrl hrh a3
  have HFQ : Hid (∀ w3 w7, Only (fun _ => False) w1 w3 → Only (fun k => k = rc) w3 w7 → RbX U w7 rb s ∧ Only (fun k => ¬ U k) w w7) := fun w3 w7 a1 a2 => HFC.out s w3 w7 ⟨_, _, HH.out.quiet a1⟩ (a1.mono (fun _ _ h => h.elim)) a2
  have HRF : Hid (∀ wv e, Calls Try.prog 44 #[.int .i64 e] wv fun x w' => x = .returned (.agg #[.int .i64 e, .int .i64 (-1), .int .u32 0, .int .u32 0, .int .u32 0, .int .u32 0, .int .u32 0, .int .u32 0, .bool false, .bool false, .bool false]) ∧ Only (fun _ => False) wv w') := fun wv e => refused_ok wv e
  clear ho1 hz1 hrl hrh h
  have HM := Vx.hid (may_ok h1 n true t)
  by_cases hme : mayE s n true t = 0
  · obtain ⟨i, hi⟩ : ∃ i, pF s.ps n = some i := by
      cases hi : pF s.ps n with
      | some i => exact ⟨i, rfl⟩
      | none => unfold mayE at hme; rw [hi] at hme; have h6 : (6 : Int) = 0 := hme; omega
    have HP := Vx.hid (place_some h1 hi)
    obtain ⟨hl, g, cp, hvp, hg, hp, hnn⟩ := h1.place hi
    clear hnn
    have c0 := h1.c0
    rw [hvp] at c0
    have b2 := hg.c2
    obtain ⟨M, hM⟩ : ∃ M, M = s.ps.length := ⟨_, rfl⟩
    rw [← hM] at c0 hvp
    have hidx : 0 ≤ (i : Int) ∧ (i : Int) < (M : Int) := by omega
    have HRS0 : Hid (hearR s n t false = if s.ps[i].word ≠ 0 then oBdg (-1) s.ps[i].word else oErr 17) := by
      show _ = _
      unfold hearR
      rw [if_neg (fun h => h hme), hi]
      dsimp only
      rw [hp]
      rfl
    have HSS0 : Hid (hearS s n t false = if s.ps[i].word ≠ 0 then setW s i 0 else s) := by
      show _ = _
      unfold hearS
      rw [if_neg (fun h => h hme), hi]
      dsimp only
      rw [hp]
      rfl
    rw [hme] at HM
    clear hme hg hp hi
    by_cases hw : s.ps[i].word = 0
    · have HRS : Hid (hearR s n t false = oErr 17) := by show _ = _; rw [HRS0.out, if_neg (fun h => h hw)]
      have HSS : Hid (hearS s n t false = s) := by show _ = _; rw [HSS0.out, if_neg (fun h => h hw)]
      rw [hw] at b2
      clear HRS0 HSS0 hw hvp hM hl
      clear h1 hl9
      go_enter Try.func30, Try.ntmps30
      go_upto_region 1 with fail
      rw [← hw1, ← hrc]
      clear hw1 hrc
      go_wp2_with fail
      refine HM.out.mono ?_
      rintro e w' ⟨rfl, h⟩
      have h3 := h.symm; clear h; subst h3
      go_wp2_with fail
      refine HP.out.mono ?_
      rintro e w' ⟨rfl, h⟩
      have h3 := h.symm; clear h; subst h3
      go_wp2_with fail
      refine (HRF.out _ _).mono ?_
      rintro e w3 ⟨rfl, hq⟩
      have HQ := Vx.hid hq
      obtain ⟨z0, z1, z2, z3, z4, z5, z6, z7, z8, z9, z10, zf, zl⟩ := HZ.out w3 (hq.mono (fun _ _ h => h.elim))
      clear hq
      go_wp2_with fail
      refine bodyPost_ret (v := ocV (oErr 17)) ?_ rfl ⟨by rw [HRS.out], ?_⟩
      · simp [results, Try.results30, go_sem, ocV, oErr, ms0, z0, z1, z2, z3, z4, z5, z6, z7, z8, z9, z10]
      · rw [HSS.out]; exact HFQ.out _ _ HQ.out (only_set11 _ _ _ _ _ _ _ _ _ _ _ _ _)
    · have HRS : Hid (hearR s n t false = oBdg (-1) s.ps[i].word) := by show _ = _; rw [HRS0.out, if_pos hw]
      have HSS : Hid (hearS s n t false = setW s i 0) := by show _ = _; rw [HSS0.out, if_pos hw]
      have hw2 : (s.ps[i].word != 0) = true := by simpa using hw
      have hw3 : (s.ps[i].word == 0) = false := by simpa using hw
      subst hvp
      have z2 := h1.p.fz (i * 3 + 2)
      obtain ⟨hP, hO⟩ := h1.putW hM i hl 0
      clear HRS0 HSS0
      generalize s.ps[i].word = wd at b2 HRS hw hw2 hw3
      obtain ⟨w3, hw9⟩ : ∃ w3, w3 = w1.setCell ⟨g, i * 3 + 2, none⟩ (.int .u32 0) := ⟨_, rfl⟩
      rw [← hw9] at hP hO
      have HR : Hid (RbX (Up U w w1) w3 rb (setW s i 0) ∧ Only (fun k => ¬ Up U w w1 k) w1 w3) := ⟨⟨_, _, hP⟩, hO⟩
      obtain ⟨y0, y1, y2, y3, y4, y5, y6, y7, y8, y9, y10, zf, zl⟩ := HZ.out w3 hO
      clear h1 hM hl hP hO hl9
      go_enter Try.func30, Try.ntmps30
      go_upto_region 1 with fail
      rw [← hw1, ← hrc]
      clear hw1 hrc
      go_wp2_with fail
      refine HM.out.mono ?_
      rintro e w' ⟨rfl, h⟩
      have h3 := h.symm; clear h; subst h3
      go_wp2_with fail
      refine HP.out.mono ?_
      rintro e w' ⟨rfl, h⟩
      have h3 := h.symm; clear h; subst h3
      go_upto_region 8 with fail
      rw [← hw9]
      clear hw9
      go_wp2_with fail
      refine bodyPost_ret (v := ocV (oBdg (-1) wd)) ?_ rfl ⟨by rw [HRS.out], ?_⟩
      · simp [results, Try.results30, go_sem, ocV, oBdg, msB, y0, y1, y2, y3, y4, y5, y6, y7, y8, y9, y10]
      · rw [HSS.out]; exact HFC.out _ _ _ HR.out.1 HR.out.2 (only_set11 _ _ _ _ _ _ _ _ _ _ _ _ _)
  · have HRS : Hid (hearR s n t false = oErr (mayE s n true t)) := if_pos hme
    have HSS : Hid (hearS s n t false = s) := if_pos hme
    generalize mayE s n true t = me at HM HRS hme
    have hm2 : (me != 0) = true := by simpa using hme
    have hm3 : (me == 0) = false := by simpa using hme
    clear h1
    go_enter Try.func30, Try.ntmps30
    go_upto_region 1 with fail
    rw [← hw1, ← hrc]
    clear hw1 hrc
    go_wp2_with fail
    refine HM.out.mono ?_
    rintro e w' ⟨rfl, h⟩
    have h3 := h.symm; clear h; subst h3
    go_wp2_with fail
    refine (HRF.out _ _).mono ?_
    rintro e w3 ⟨rfl, hq⟩
    have HQ := Vx.hid hq
    obtain ⟨z0, z1, z2, z3, z4, z5, z6, z7, z8, z9, z10, zf, zl⟩ := HZ.out w3 (hq.mono (fun _ _ h => h.elim))
    clear hq
    go_wp2_with fail
    refine bodyPost_ret (v := ocV (oErr me)) ?_ rfl ⟨by rw [HRS.out], ?_⟩
    · simp [results, Try.results30, go_sem, ocV, oErr, ms0, z0, z1, z2, z3, z4, z5, z6, z7, z8, z9, z10]
    · rw [HSS.out]; exact HFQ.out _ _ HQ.out (only_set11 _ _ _ _ _ _ _ _ _ _ _ _ _)
set_option maxRecDepth 100000 in
set_option maxHeartbeats 4000000 in
theorem rhear_true (h : RbAt U w rb vp vw s) (hl9 : s.ws.length < 1000000) (n t : Int) : Calls Try.prog 30 #[.pointer (some ⟨rb, 0, none⟩), .int .i64 n, .int .i64 t, .bool true] w fun e w' => e = .returned (ocV (hearR s n t true)) ∧ RbX U w' rb (hearS s n t true) ∧ Only (fun k => ¬ U k) w w' := by
  obtain ⟨w1, hw1⟩ : ∃ w1, w1 = w.alloc (.cells #[.int .i64 0, .int .i64 0, .int .u32 0, .int .u32 0, .int .u32 0, .int .u32 0, .int .u32 0, .int .u32 0, .bool false, .bool false, .bool false] 37) := ⟨_, rfl⟩
  obtain ⟨rc, hrc⟩ : ∃ rc, rc = w.heap.size := ⟨_, rfl⟩
  have ho1 : Only (fun _ => False) w w1 := by rw [hw1]; exact (Only.refl _ w).alloc _
  have hz1 : w1.heap[rc]? = some (.cells oc0A 37 (0, 0)) := by rw [hw1, hrc]; exact heap_alloc_last w _
  have hrl : w.heap.size ≤ rc := by omega
  have hrh := lt_of_some hz1
  have h1 := h.lift ho1
  have HH := Vx.hid h1
  have HZ : Hid (∀ w3, Only (fun k => ¬ Up U w w1 k) w1 w3 → Z11 w3 rc) := fun w3 h3 => z11_of (up_keep h3 hz1 hrl)
  have HFC : Hid (∀ s2 w3 w7, RbX (Up U w w1) w3 rb s2 → Only (fun k => ¬ Up U w w1 k) w1 w3 → Only (fun k => k = rc) w3 w7 → RbX U w7 rb s2 ∧ Only (fun k => ¬ U k) w w7) := fun s2 w3 w7 a1 a2 a3 => up_out (rb_steps rb s2) a1 ho1 a2 hrl hrh a3
  have HFQ : Hid (∀ w3 w7, Only (fun _ => False) w1 w3 → Only (fun k => k = rc) w3 w7 → RbX U w7 rb s ∧ Only (fun k => ¬ U k) w w7) := fun w3 w7 a1 a2 => HFC.out s w3 w7 ⟨_, _, HH.out.quiet a1⟩ (a1.mono (fun _ _ h => h.elim)) a2
  have HRF : Hid (∀ wv e, Calls Try.prog 44 #[.int .i64 e] wv fun x w' => x = .returned (.agg #[.int .i64 e, .int .i64 (-1), .int .u32 0, .int .u32 0, .int .u32 0, .int .u32 0, .int .u32 0, .int .u32 0, .bool false, .bool false, .bool false]) ∧ Only (fun _ => False) wv w') := fun wv e => refused_ok wv e
  clear ho1 hz1 hrl hrh h
  have HM := Vx.hid (may_ok h1 n true t)
  by_cases hme : mayE s n true t = 0
  · obtain ⟨i, hi⟩ : ∃ i, pF s.ps n = some i := by
      cases hi : pF s.ps n with
      | some i => exact ⟨i, rfl⟩
      | none => unfold mayE at hme; rw [hi] at hme; have h6 : (6 : Int) = 0 := hme; omega
    have HP := Vx.hid (place_some h1 hi)
    obtain ⟨hl, g, cp, hvp, hg, hp, hnn⟩ := h1.place hi
    clear hnn
    have c0 := h1.c0
    rw [hvp] at c0
    have b2 := hg.c2
    obtain ⟨M, hM⟩ : ∃ M, M = s.ps.length := ⟨_, rfl⟩
    rw [← hM] at c0 hvp
    have hidx : 0 ≤ (i : Int) ∧ (i : Int) < (M : Int) := by omega
    have HRS0 : Hid (hearR s n t true = if s.ps[i].word ≠ 0 then oBdg (-1) s.ps[i].word else oWt) := by
      show _ = _
      unfold hearR
      rw [if_neg (fun h => h hme), hi]
      dsimp only
      rw [hp]
      rfl
    have HSS0 : Hid (hearS s n t true = if s.ps[i].word ≠ 0 then setW s i 0 else ⟨s.ps, s.ws ++ [⟨n, t, 6, ms0⟩]⟩) := by
      show _ = _
      unfold hearS
      rw [if_neg (fun h => h hme), hi]
      dsimp only
      rw [hp]
      rfl
    rw [hme] at HM
    clear hme hg hp hi
    by_cases hw : s.ps[i].word = 0
    · have HRS : Hid (hearR s n t true = oWt) := by show _ = _; rw [HRS0.out, if_neg (fun h => h hw)]
      have HSS : Hid (hearS s n t true = ⟨s.ps, s.ws ++ [⟨n, t, 6, ms0⟩]⟩) := by show _ = _; rw [HSS0.out, if_neg (fun h => h hw)]
      rw [hw] at b2
      clear HRS0 HSS0 hw hvp hM hl
      obtain ⟨pq0, c, hv, _⟩ := h1.l.form
      have c1 := h1.c1
      rw [hv] at c1
      obtain ⟨N, hN⟩ : ∃ N, N = s.ws.length := ⟨_, rfl⟩
      rw [← hN] at c1 hv
      have HVV := Vx.hid hv
      clear hv hN
      have HL1 : Hid (s.ws.length + 1 ≤ 10000000) := by show _ ≤ _; omega
      have HL2 : Hid ((s.ws ++ [(⟨n, t, 6, ms0⟩ : Wt)]).length ≤ 1000000) := by show _ ≤ _; rw [List.length_append, List.length_singleton]; omega
      have HOD : Hid (OwnL wtL w1 0 110 (.slice pq0 N c) s.ws) := by have := h1.l; rw [HVV.out] at this; exact this
      have HST : Hid (∀ v' w5, OwnL wtL w5 0 110 v' (s.ws ++ [⟨n, t, 6, ms0⟩]) → Only (fun k => (.slice pq0 N c : Value).ownBlock = some k) w1 w5 → (v'.ownBlock = (.slice pq0 N c : Value).ownBlock ∨ ∃ g, v'.ownBlock = some g ∧ w1.heap.size ≤ g ∧ Only (fun _ => False) w1 w5) → (∃ p m c, v' = .slice p m c) ∧ (∃ x, w5.cell? ⟨rb, 1, none⟩ = some x) ∧ w5.frozen? ⟨rb, 1, none⟩ = false ∧ Hid (RbX (Up U w w1) (w5.setCell ⟨rb, 1, none⟩ v') rb ⟨s.ps, s.ws ++ [⟨n, t, 6, ms0⟩]⟩ ∧ Only (fun k => ¬ Up U w w1 k) w1 (w5.setCell ⟨rb, 1, none⟩ v'))) := fun v' w5 a1 a2 a3 => by
        rw [← HVV.out] at a2 a3
        obtain ⟨q1, q2, q3, q4⟩ := HH.out.setL a1 a2 (lies_of a3) HL2.out
        obtain ⟨p, c, hv, _⟩ := a1.form
        exact ⟨⟨p, _, c, hv⟩, q1, q2, q3, q4⟩
      have hrbl : rb < w1.heap.size := lt_of_some h1.r
      clear h1 hl9
      go_enter Try.func30, Try.ntmps30
      go_upto_region 1 with fail
      rw [← hw1, ← hrc]
      clear hw1 hrc
      go_wp2_with fail
      refine HM.out.mono ?_
      rintro e w' ⟨rfl, h⟩
      have h3 := h.symm; clear h; subst h3
      go_wp2_with fail
      refine HP.out.mono ?_
      rintro e w' ⟨rfl, h⟩
      have h3 := h.symm; clear h; subst h3
      go_upto_region 12 with (at_builtin; refine wpList_append_one wtK _ rfl _ _ rfl 0 (.slice pq0 N c) _ rfl HOD.out ⟨n, t, 6, ms0⟩ _ _ rfl rfl rfl HL1.out (Nat.zero_le _) ?_; intro v' w5 hv1 hv2 hv3; obtain ⟨⟨pq, mq, cq, rfl⟩, ⟨qx, hq1⟩, hq2, HQ5⟩ := HST.out v' w5 hv1 hv2 hv3; clear hv1 hv2 hv3)
      obtain ⟨w6, hw6⟩ : ∃ w6, w6 = w5.setCell ⟨rb, 1, none⟩ (.slice pq mq cq) := ⟨_, rfl⟩
      rw [← hw6] at HQ5 ⊢
      obtain ⟨z0, z1, z2, z3, z4, z5, z6, z7, z8, z9, z10, zf, zl⟩ := HZ.out w6 HQ5.out.2
      clear hw6 hq1 hq2
      go_wp2_with fail
      refine bodyPost_ret (v := ocV (oWt)) ?_ rfl ⟨by rw [HRS.out], ?_⟩
      · simp [results, Try.results30, go_sem, ocV, oWt, ms0, z0, z1, z2, z3, z4, z5, z6, z7, z8, z9, z10]
      · rw [HSS.out]; exact HFC.out _ _ _ HQ5.out.1 HQ5.out.2 (only_set11 _ _ _ _ _ _ _ _ _ _ _ _ _)
    · have HRS : Hid (hearR s n t true = oBdg (-1) s.ps[i].word) := by show _ = _; rw [HRS0.out, if_pos hw]
      have HSS : Hid (hearS s n t true = setW s i 0) := by show _ = _; rw [HSS0.out, if_pos hw]
      have hw2 : (s.ps[i].word != 0) = true := by simpa using hw
      have hw3 : (s.ps[i].word == 0) = false := by simpa using hw
      subst hvp
      have z2 := h1.p.fz (i * 3 + 2)
      obtain ⟨hP, hO⟩ := h1.putW hM i hl 0
      clear HRS0 HSS0
      generalize s.ps[i].word = wd at b2 HRS hw hw2 hw3
      obtain ⟨w3, hw9⟩ : ∃ w3, w3 = w1.setCell ⟨g, i * 3 + 2, none⟩ (.int .u32 0) := ⟨_, rfl⟩
      rw [← hw9] at hP hO
      have HR : Hid (RbX (Up U w w1) w3 rb (setW s i 0) ∧ Only (fun k => ¬ Up U w w1 k) w1 w3) := ⟨⟨_, _, hP⟩, hO⟩
      obtain ⟨y0, y1, y2, y3, y4, y5, y6, y7, y8, y9, y10, zf, zl⟩ := HZ.out w3 hO
      clear h1 hM hl hP hO hl9
      go_enter Try.func30, Try.ntmps30
      go_upto_region 1 with fail
      rw [← hw1, ← hrc]
      clear hw1 hrc
      go_wp2_with fail
      refine HM.out.mono ?_
      rintro e w' ⟨rfl, h⟩
      have h3 := h.symm; clear h; subst h3
      go_wp2_with fail
      refine HP.out.mono ?_
      rintro e w' ⟨rfl, h⟩
      have h3 := h.symm; clear h; subst h3
      go_upto_region 8 with fail
      rw [← hw9]
      clear hw9
      go_wp2_with fail
      refine bodyPost_ret (v := ocV (oBdg (-1) wd)) ?_ rfl ⟨by rw [HRS.out], ?_⟩
      · simp [results, Try.results30, go_sem, ocV, oBdg, msB, y0, y1, y2, y3, y4, y5, y6, y7, y8, y9, y10]
      · rw [HSS.out]; exact HFC.out _ _ _ HR.out.1 HR.out.2 (only_set11 _ _ _ _ _ _ _ _ _ _ _ _ _)
  · have HRS : Hid (hearR s n t true = oErr (mayE s n true t)) := if_pos hme
    have HSS : Hid (hearS s n t true = s) := if_pos hme
    generalize mayE s n true t = me at HM HRS hme
    have hm2 : (me != 0) = true := by simpa using hme
    have hm3 : (me == 0) = false := by simpa using hme
    clear h1
    go_enter Try.func30, Try.ntmps30
    go_upto_region 1 with fail
    rw [← hw1, ← hrc]
    clear hw1 hrc
    go_wp2_with fail
    refine HM.out.mono ?_
    rintro e w' ⟨rfl, h⟩
    have h3 := h.symm; clear h; subst h3
    go_wp2_with fail
    refine (HRF.out _ _).mono ?_
    rintro e w3 ⟨rfl, hq⟩
    have HQ := Vx.hid hq
    obtain ⟨z0, z1, z2, z3, z4, z5, z6, z7, z8, z9, z10, zf, zl⟩ := HZ.out w3 (hq.mono (fun _ _ h => h.elim))
    clear hq
    go_wp2_with fail
    refine bodyPost_ret (v := ocV (oErr me)) ?_ rfl ⟨by rw [HRS.out], ?_⟩
    · simp [results, Try.results30, go_sem, ocV, oErr, ms0, z0, z1, z2, z3, z4, z5, z6, z7, z8, z9, z10]
    · rw [HSS.out]; exact HFQ.out _ _ HQ.out (only_set11 _ _ _ _ _ _ _ _ _ _ _ _ _)
theorem rhear_ok (h : RbAt U w rb vp vw s) (hl9 : s.ws.length < 1000000) (n t : Int) (b : Bool) : Calls Try.prog 30 #[.pointer (some ⟨rb, 0, none⟩), .int .i64 n, .int .i64 t, .bool b] w fun e w' => e = .returned (ocV (hearR s n t b)) ∧ RbX U w' rb (hearS s n t b) ∧ Only (fun k => ¬ U k) w w' := by
  cases b with
  | false => exact rhear_false h hl9 n t
  | true => exact rhear_true h hl9 n t
end Go.Proofs.Ytdpgdjpphnbfnaa

import Derived.Test.YtdpgdjpphnbfnaaCi31
/- Chapter 10, the document's bus: Get. -/
namespace Go.Proofs.Ytdpgdjpphnbfnaa
open Go.ChangeShapes Go.WideShapes Go.ChangeAt Go.RowKit
open Go.Vx
set_option linter.unusedVariables false
variable {U V S : Nat → Prop} {w w2 w3 : World} {rb : Nat} {vp vw : Value} {s : Bs}

set_option maxRecDepth 100000 in
set_option maxHeartbeats 4000000 in
theorem rget_true (h : RbAt U w rb vp vw s) (hl9 : s.ws.length < 1000000) (n t : Int) : Calls Try.prog 27 #[.pointer (some ⟨rb, 0, none⟩), .int .i64 n, .int .i64 t, .bool true] w fun e w' => e = .returned (ocV (getR s n t true)) ∧ RbX U w' rb (getS s n t true) ∧ Only (fun k => ¬ U k) w w' := by
  obtain ⟨w1, hw1⟩ : ∃ w1, w1 = w.alloc (.cells #[.int .i64 0, .int .i64 0, .int .u32 0, .int .u32 0, .int .u32 0, .int .u32 0, .int .u32 0, .int .u32 0, .bool false, .bool false, .bool false] 37) := ⟨_, rfl⟩
  obtain ⟨rc, hrc⟩ : ∃ rc, rc = w.heap.size := ⟨_, rfl⟩
  have ho1 : Only (fun _ => False) w w1 := by rw [hw1]; exact (Only.refl _ w).alloc _
  have hz1 : w1.heap[rc]? = some (.cells oc0A 37 (0, 0)) := by rw [hw1, hrc]; exact heap_alloc_last w _
  have hrl : w.heap.size ≤ rc := by omega
  have hrh := lt_of_some hz1
  have h1 := h.lift ho1
  have HH := Vx.hid h1
  have HZ : Hid (∀ w3, Only (fun k => ¬ Up U w w1 k) w1 w3 → Z11 w3 rc) := fun w3 h3 => z11_of (up_keep h3 hz1 hrl)
  have HFC : Hid (∀ s2 w3 w7, RbX (Up U w w1) w3 rb s2 → Only (fun k => ¬ Up U w w1 k) w1 w3 → Only (fun k => k = rc) w3 w7 → RbX U w7 rb s2 ∧ Only (fun k => ¬ U k) w w7) := fun s2 w3 w7 a1 a2 a3 => up_out (rb_steps rb s2) a1 ho1 a2 hrl hrh a3
  have HFQ : Hid (∀ w3 w7, Only (fun _ => False) w1 w3 → Only (fun k => k = rc) w3 w7 → RbX U w7 rb s ∧ Only (fun k => ¬ U k) w w7) := fun w3 w7 a1 a2 => HFC.out s w3 w7 ⟨_, _, HH.out.quiet a1⟩ (a1.mono (fun _ _ h => h.elim)) a2
  have HRF : Hid (∀ wv e, Calls Try.prog 44 #[.int .i64 e] wv fun x w' => x = .returned (.agg #[.int .i64 e, .int .i64 (-1), .int .u32 0, .int .u32 0, .int .u32 0, .int .u32 0, .int .u32 0, .int .u32 0, .bool false, .bool false, .bool false]) ∧ Only (fun _ => False) wv w') := fun wv e => refused_ok wv e
  clear ho1 hz1 hrl hrh h
  have HM := Vx.hid (may_ok h1 n false t)
  by_cases hme : mayE s n false t = 0
  · have HRS : Hid (getR s n t true = match sendsF s n with | some i => oMet (wAt s i).thr (wAt s i).how (wAt s i).m | none => oWt) := by
      show _ = _
      unfold getR
      rw [if_neg (fun h => h hme)]
      rfl
    have HSS : Hid (getS s n t true = match sendsF s n with | some i => ⟨s.ps, cuI s.ws i⟩ | none => ⟨s.ps, s.ws ++ [⟨n, t, 4, ms0⟩]⟩) := by
      show _ = _
      unfold getS
      rw [if_neg (fun h => h hme)]
      rfl
    rw [hme] at HM
    clear hme
    cases hf : aF s.ws n with
    | none =>
      have HFI := Vx.hid (first_none h1 hf)
      have hg : sendsF s n = none := by unfold sendsF; rw [hf]
      rw [hg] at HRS HSS
      clear hg hf
      obtain ⟨pq0, c, hv, _⟩ := h1.l.form
      have c1 := h1.c1
      rw [hv] at c1
      obtain ⟨N, hN⟩ : ∃ N, N = s.ws.length := ⟨_, rfl⟩
      rw [← hN] at c1 hv
      have HVV := Vx.hid hv
      clear hv hN
      have HL1 : Hid (s.ws.length + 1 ≤ 10000000) := by show _ ≤ _; omega
      have HL2 : Hid ((s.ws ++ [(⟨n, t, 4, ms0⟩ : Wt)]).length ≤ 1000000) := by show _ ≤ _; rw [List.length_append, List.length_singleton]; omega
      have HOD : Hid (OwnL wtL w1 0 110 (.slice pq0 N c) s.ws) := by have := h1.l; rw [HVV.out] at this; exact this
      have HST : Hid (∀ v' w5, OwnL wtL w5 0 110 v' (s.ws ++ [⟨n, t, 4, ms0⟩]) → Only (fun k => (.slice pq0 N c : Value).ownBlock = some k) w1 w5 → (v'.ownBlock = (.slice pq0 N c : Value).ownBlock ∨ ∃ g, v'.ownBlock = some g ∧ w1.heap.size ≤ g ∧ Only (fun _ => False) w1 w5) → (∃ p m c, v' = .slice p m c) ∧ (∃ x, w5.cell? ⟨rb, 1, none⟩ = some x) ∧ w5.frozen? ⟨rb, 1, none⟩ = false ∧ Hid (RbX (Up U w w1) (w5.setCell ⟨rb, 1, none⟩ v') rb ⟨s.ps, s.ws ++ [⟨n, t, 4, ms0⟩]⟩ ∧ Only (fun k => ¬ Up U w w1 k) w1 (w5.setCell ⟨rb, 1, none⟩ v'))) := fun v' w5 a1 a2 a3 => by
        rw [← HVV.out] at a2 a3
        obtain ⟨q1, q2, q3, q4⟩ := HH.out.setL a1 a2 (lies_of a3) HL2.out
        obtain ⟨p, c, hv, _⟩ := a1.form
        exact ⟨⟨p, _, c, hv⟩, q1, q2, q3, q4⟩
      have hrbl : rb < w1.heap.size := lt_of_some h1.r
      clear h1 hl9
      go_enter Try.func27, Try.ntmps27
      go_upto_region 1 with fail
      rw [← hw1, ← hrc]
      clear hw1 hrc
      go_wp2_with fail
      refine HM.out.mono ?_
      rintro e w' ⟨rfl, h⟩
      have h3 := h.symm; clear h; subst h3
      go_wp2_with fail
      refine HFI.out.mono ?_
      rintro e w' ⟨rfl, h⟩
      have h3 := h.symm; clear h; subst h3
      go_upto_region 11 with (at_builtin; refine wpList_append_one wtK _ rfl _ _ rfl 0 (.slice pq0 N c) _ rfl HOD.out ⟨n, t, 4, ms0⟩ _ _ rfl rfl rfl HL1.out (Nat.zero_le _) ?_; intro v' w5 hv1 hv2 hv3; obtain ⟨⟨pq, mq, cq, rfl⟩, ⟨qx, hq1⟩, hq2, HQ5⟩ := HST.out v' w5 hv1 hv2 hv3; clear hv1 hv2 hv3)
      obtain ⟨w6, hw6⟩ : ∃ w6, w6 = w5.setCell ⟨rb, 1, none⟩ (.slice pq mq cq) := ⟨_, rfl⟩
      rw [← hw6] at HQ5 ⊢
      obtain ⟨z0, z1, z2, z3, z4, z5, z6, z7, z8, z9, z10, zf, zl⟩ := HZ.out w6 HQ5.out.2
      clear hw6 hq1 hq2
      go_wp2_with fail
      refine bodyPost_ret (v := ocV (oWt)) ?_ rfl ⟨by rw [HRS.out], ?_⟩
      · simp [results, Try.results27, go_sem, ocV, oWt, ms0, z0, z1, z2, z3, z4, z5, z6, z7, z8, z9, z10]
      · rw [HSS.out]; exact HFC.out _ _ _ HQ5.out.1 HQ5.out.2 (only_set11 _ _ _ _ _ _ _ _ _ _ _ _ _)
    | some i =>
      have HFI := Vx.hid (first_some h1 hf)
      obtain ⟨hil, hat⟩ := aF_at hf
      clear hat
      obtain ⟨g, c, hv, hW, hwa⟩ := h1.waiter hil
      have c1 := h1.c1
      rw [hv] at c1
      have b2 := hW.c2
      obtain ⟨N, hN⟩ : ∃ N, N = s.ws.length := ⟨_, rfl⟩
      rw [← hN] at c1 hv
      have hidx : 0 ≤ (i : Int) ∧ (i : Int) < (N : Int) := by omega
      have hge : 0 ≤ (i : Int) := by omega
      by_cases hh : s.ws[i].how = 4
      · have hg : sendsF s n = none := by unfold sendsF; rw [hf]; dsimp only; rw [hwa, if_pos hh]
        rw [hg] at HRS HSS
        rw [hh] at b2
        clear hg hf hwa hW hh hil
        have HVV := Vx.hid hv
        clear hv hN
        have HL1 : Hid (s.ws.length + 1 ≤ 10000000) := by show _ ≤ _; omega
        have HL2 : Hid ((s.ws ++ [(⟨n, t, 4, ms0⟩ : Wt)]).length ≤ 1000000) := by show _ ≤ _; rw [List.length_append, List.length_singleton]; omega
        have HOD : Hid (OwnL wtL w1 0 110 (.slice (some ⟨g, 0, none⟩) N c) s.ws) := by have := h1.l; rw [HVV.out] at this; exact this
        have HST : Hid (∀ v' w5, OwnL wtL w5 0 110 v' (s.ws ++ [⟨n, t, 4, ms0⟩]) → Only (fun k => (.slice (some ⟨g, 0, none⟩) N c : Value).ownBlock = some k) w1 w5 → (v'.ownBlock = (.slice (some ⟨g, 0, none⟩) N c : Value).ownBlock ∨ ∃ g, v'.ownBlock = some g ∧ w1.heap.size ≤ g ∧ Only (fun _ => False) w1 w5) → (∃ p m c, v' = .slice p m c) ∧ (∃ x, w5.cell? ⟨rb, 1, none⟩ = some x) ∧ w5.frozen? ⟨rb, 1, none⟩ = false ∧ Hid (RbX (Up U w w1) (w5.setCell ⟨rb, 1, none⟩ v') rb ⟨s.ps, s.ws ++ [⟨n, t, 4, ms0⟩]⟩ ∧ Only (fun k => ¬ Up U w w1 k) w1 (w5.setCell ⟨rb, 1, none⟩ v'))) := fun v' w5 a1 a2 a3 => by
          rw [← HVV.out] at a2 a3
          obtain ⟨q1, q2, q3, q4⟩ := HH.out.setL a1 a2 (lies_of a3) HL2.out
          obtain ⟨p, c, hv, _⟩ := a1.form
          exact ⟨⟨p, _, c, hv⟩, q1, q2, q3, q4⟩
        have hrbl : rb < w1.heap.size := lt_of_some h1.r
        clear h1 hl9
        go_enter Try.func27, Try.ntmps27
        go_upto_region 1 with fail
        rw [← hw1, ← hrc]
        clear hw1 hrc
        go_wp2_with fail
        refine HM.out.mono ?_
        rintro e w' ⟨rfl, h⟩
        have h3 := h.symm; clear h; subst h3
        go_wp2_with fail
        refine HFI.out.mono ?_
        rintro e w' ⟨rfl, h⟩
        have h3 := h.symm; clear h; subst h3
        go_upto_region 11 with (at_builtin; refine wpList_append_one wtK _ rfl _ _ rfl 0 (.slice (some ⟨g, 0, none⟩) N c) _ rfl HOD.out ⟨n, t, 4, ms0⟩ _ _ rfl rfl rfl HL1.out (Nat.zero_le _) ?_; intro v' w5 hv1 hv2 hv3; obtain ⟨⟨pq, mq, cq, rfl⟩, ⟨qx, hq1⟩, hq2, HQ5⟩ := HST.out v' w5 hv1 hv2 hv3; clear hv1 hv2 hv3)
        obtain ⟨w6, hw6⟩ : ∃ w6, w6 = w5.setCell ⟨rb, 1, none⟩ (.slice pq mq cq) := ⟨_, rfl⟩
        rw [← hw6] at HQ5 ⊢
        obtain ⟨z0, z1, z2, z3, z4, z5, z6, z7, z8, z9, z10, zf, zl⟩ := HZ.out w6 HQ5.out.2
        clear hw6 hq1 hq2
        go_wp2_with fail
        refine bodyPost_ret (v := ocV (oWt)) ?_ rfl ⟨by rw [HRS.out], ?_⟩
        · simp [results, Try.results27, go_sem, ocV, oWt, ms0, z0, z1, z2, z3, z4, z5, z6, z7, z8, z9, z10]
        · rw [HSS.out]; exact HFC.out _ _ _ HQ5.out.1 HQ5.out.2 (only_set11 _ _ _ _ _ _ _ _ _ _ _ _ _)
      · have hg : sendsF s n = some i := by unfold sendsF; rw [hf]; dsimp only; rw [hwa, if_neg hh]
        have hh2 : (s.ws[i].how != 4) = true := by simpa using hh
        have hh4 : (s.ws[i].how == 4) = false := by simpa using hh
        rw [hg] at HRS HSS
        have HDR := Vx.hid (drop_ok h1 i hil)
        rw [hwa] at HDR
        rw [← hwa] at b2 hh hh2 hh4 HDR
        dsimp only at HRS HSS
        clear hg hf hW hv hN
        generalize wAt s i = x at b2 hh hh2 hh4 HDR HRS hwa
        clear hwa hil h1
        obtain ⟨ya, yt, yh, ⟨y0, y1, y2, y3, y4, y5⟩⟩ := x
        unfold wtV at HDR
        dsimp only at HDR HRS b2 hh hh2 hh4
        by_cases h3 : yh = 3
        · subst h3
          go_enter Try.func27, Try.ntmps27
          go_upto_region 1 with fail
          rw [← hw1, ← hrc]
          clear hw1 hrc
          go_wp2_with fail
          refine HM.out.mono ?_
          rintro e w' ⟨rfl, h⟩
          have h3 := h.symm; clear h; subst h3
          go_wp2_with fail
          refine HFI.out.mono ?_
          rintro e w' ⟨rfl, h⟩
          have h3 := h.symm; clear h; subst h3
          go_wp2_with fail
          refine HDR.out.mono ?_
          rintro e w3 ⟨rfl, hr, ho⟩
          have HR := Vx.hid (⟨hr, ho⟩ : _ ∧ _)
          obtain ⟨z0, z1, z2, z3, z4, z5, z6, z7, z8, z9, z10, zf, zl⟩ := HZ.out w3 ho
          clear hr ho c1 b2
          go_wp2_with fail
          refine bodyPost_ret (v := ocV (oMet yt 3 ⟨y0, y1, y2, y3, y4, y5⟩)) ?_ rfl ⟨by rw [HRS.out], ?_⟩
          · simp [results, Try.results27, go_sem, ocV, oMet, zl, z0, z1, z2, z3, z4, z5, z6, z7, z8, z9, z10]
          · rw [HSS.out]; exact HFC.out _ _ _ HR.out.1 HR.out.2 (Only.alloc (only_set11 _ _ _ _ _ _ _ _ _ _ _ _ _) _)
        · by_cases h7 : yh = 7
          · subst h7
            go_enter Try.func27, Try.ntmps27
            go_upto_region 1 with fail
            rw [← hw1, ← hrc]
            clear hw1 hrc
            go_wp2_with fail
            refine HM.out.mono ?_
            rintro e w' ⟨rfl, h⟩
            have h3 := h.symm; clear h; subst h3
            go_wp2_with fail
            refine HFI.out.mono ?_
            rintro e w' ⟨rfl, h⟩
            have h3 := h.symm; clear h; subst h3
            go_wp2_with fail
            refine HDR.out.mono ?_
            rintro e w3 ⟨rfl, hr, ho⟩
            have HR := Vx.hid (⟨hr, ho⟩ : _ ∧ _)
            obtain ⟨z0, z1, z2, z3, z4, z5, z6, z7, z8, z9, z10, zf, zl⟩ := HZ.out w3 ho
            clear hr ho c1 b2
            go_wp2_with fail
            refine bodyPost_ret (v := ocV (oMet yt 7 ⟨y0, y1, y2, y3, y4, y5⟩)) ?_ rfl ⟨by rw [HRS.out], ?_⟩
            · simp [results, Try.results27, go_sem, ocV, oMet, zl, z0, z1, z2, z3, z4, z5, z6, z7, z8, z9, z10]
            · rw [HSS.out]; exact HFC.out _ _ _ HR.out.1 HR.out.2 (Only.alloc (only_set11 _ _ _ _ _ _ _ _ _ _ _ _ _) _)
          · have hh3 : (yh == 3) = false := by simpa using h3
            have hh7 : (yh == 7) = false := by simpa using h7
            have e3 : decide (yh = 3 ∨ yh = 7) = false := by simp [h3, h7]
            have e7 : decide (yh = 7) = false := by simp [h7]
            go_enter Try.func27, Try.ntmps27
            go_upto_region 1 with fail
            rw [← hw1, ← hrc]
            clear hw1 hrc
            go_wp2_with fail
            refine HM.out.mono ?_
            rintro e w' ⟨rfl, h⟩
            have h3 := h.symm; clear h; subst h3
            go_wp2_with fail
            refine HFI.out.mono ?_
            rintro e w' ⟨rfl, h⟩
            have h3 := h.symm; clear h; subst h3
            go_wp2_with fail
            refine HDR.out.mono ?_
            rintro e w3 ⟨rfl, hr, ho⟩
            have HR := Vx.hid (⟨hr, ho⟩ : _ ∧ _)
            obtain ⟨z0, z1, z2, z3, z4, z5, z6, z7, z8, z9, z10, zf, zl⟩ := HZ.out w3 ho
            clear hr ho c1 b2
            go_wp2_with fail
            refine bodyPost_ret (v := ocV (oMet yt yh ⟨y0, y1, y2, y3, y4, y5⟩)) ?_ rfl ⟨by rw [HRS.out], ?_⟩
            · simp [results, Try.results27, go_sem, ocV, oMet, zl, e3, e7, z0, z1, z2, z3, z4, z5, z6, z7, z8, z9, z10]
            · rw [HSS.out]; exact HFC.out _ _ _ HR.out.1 HR.out.2 (Only.alloc (only_set11 _ _ _ _ _ _ _ _ _ _ _ _ _) _)
  · have HRS : Hid (getR s n t true = oErr (mayE s n false t)) := if_pos hme
    have HSS : Hid (getS s n t true = s) := if_pos hme
    generalize mayE s n false t = me at HM HRS hme
    have hm2 : (me != 0) = true := by simpa using hme
    have hm3 : (me == 0) = false := by simpa using hme
    clear h1
    go_enter Try.func27, Try.ntmps27
    go_upto_region 1 with fail
    rw [← hw1, ← hrc]
    clear hw1 hrc
    go_wp2_with fail
    refine HM.out.mono ?_
    rintro e w' ⟨rfl, h⟩
    have h3 := h.symm; clear h; subst h3
    go_wp2_with fail
    refine (HRF.out _ _).mono ?_
    rintro e w3 ⟨rfl, hq⟩
    have HQ := Vx.hid hq
    obtain ⟨z0, z1, z2, z3, z4, z5, z6, z7, z8, z9, z10, zf, zl⟩ := HZ.out w3 (hq.mono (fun _ _ h => h.elim))
    clear hq
    go_wp2_with fail
    refine bodyPost_ret (v := ocV (oErr me)) ?_ rfl ⟨by rw [HRS.out], ?_⟩
    · simp [results, Try.results27, go_sem, ocV, oErr, ms0, z0, z1, z2, z3, z4, z5, z6, z7, z8, z9, z10]
    · rw [HSS.out]; exact HFQ.out _ _ HQ.out (only_set11 _ _ _ _ _ _ _ _ _ _ _ _ _)
theorem rget_ok (h : RbAt U w rb vp vw s) (hl9 : s.ws.length < 1000000) (n t : Int) (b : Bool) : Calls Try.prog 27 #[.pointer (some ⟨rb, 0, none⟩), .int .i64 n, .int .i64 t, .bool b] w fun e w' => e = .returned (ocV (getR s n t b)) ∧ RbX U w' rb (getS s n t b) ∧ Only (fun k => ¬ U k) w w' := by
  cases b with
  | false => exact rget_false h hl9 n t
  | true => exact rget_true h hl9 n t
end Go.Proofs.Ytdpgdjpphnbfnaa

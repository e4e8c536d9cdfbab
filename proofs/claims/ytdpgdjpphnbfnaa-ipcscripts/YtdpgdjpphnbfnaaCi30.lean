import Derived.Test.YtdpgdjpphnbfnaaCi27
import Derived.Test.YtdpgdjpphnbfnaaCi28
import Derived.Test.YtdpgdjpphnbfnaaCi29
/- Chapter 10, the document's bus: Send. -/
namespace Go.Proofs.Ytdpgdjpphnbfnaa
open Go.ChangeShapes Go.WideShapes Go.ChangeAt Go.RowKit
open Go.Vx
set_option linter.unusedVariables false
variable {U V S : Nat → Prop} {w w2 w3 : World} {rb : Nat} {vp vw : Value} {s : Bs}

set_option maxRecDepth 100000 in
set_option maxHeartbeats 4000000 in
theorem rsend_7 (h : RbAt U w rb vp vw s) (hl9 : s.ws.length < 1000000) (n t : Int) (m : Ms) : Calls Try.prog 26 #[.pointer (some ⟨rb, 0, none⟩), .int .i64 n, .int .i64 t, .int .i64 7, msV m] w fun e w' => e = .returned (ocV (sendR s n t 7 m)) ∧ RbX U w' rb (sendS s n t 7 m) ∧ Only (fun k => ¬ U k) w w' := by
  obtain ⟨m0, m1, m2, m3, m4, m5⟩ := m
  rw [show msV ⟨m0, m1, m2, m3, m4, m5⟩ = .agg #[.int .u32 m0, .int .u32 m1, .int .u32 m2, .int .u32 m3, .int .u32 m4, .int .u32 m5] from rfl]
  obtain ⟨w1, hw1⟩ : ∃ w1, w1 = (w.alloc (.cells #[.int .u32 m0, .int .u32 m1, .int .u32 m2, .int .u32 m3, .int .u32 m4, .int .u32 m5] 35)).alloc (.cells #[.int .i64 0, .int .i64 0, .int .u32 0, .int .u32 0, .int .u32 0, .int .u32 0, .int .u32 0, .int .u32 0, .bool false, .bool false, .bool false] 37) := ⟨_, rfl⟩
  obtain ⟨rc, hrc⟩ : ∃ rc, rc = w.heap.size + 1 := ⟨_, rfl⟩
  obtain ⟨mb, hmb⟩ : ∃ mb, mb = w.heap.size := ⟨_, rfl⟩
  have ho1 : Only (fun _ => False) w w1 := by rw [hw1]; exact ((Only.refl _ w).alloc _).alloc _
  have hz1 : w1.heap[rc]? = some (.cells oc0A 37 (0, 0)) := by
    rw [hw1, hrc]
    have := heap_alloc_last (w.alloc (.cells #[.int .u32 m0, .int .u32 m1, .int .u32 m2, .int .u32 m3, .int .u32 m4, .int .u32 m5] 35)) (.cells #[.int .i64 0, .int .i64 0, .int .u32 0, .int .u32 0, .int .u32 0, .int .u32 0, .int .u32 0, .int .u32 0, .bool false, .bool false, .bool false] 37)
    rw [show (w.alloc (.cells #[.int .u32 m0, .int .u32 m1, .int .u32 m2, .int .u32 m3, .int .u32 m4, .int .u32 m5] 35)).heap.size = w.heap.size + 1 by simp] at this
    exact this
  have hm1 : w1.heap[mb]? = some (.cells #[.int .u32 m0, .int .u32 m1, .int .u32 m2, .int .u32 m3, .int .u32 m4, .int .u32 m5] 35 (0, 0)) := by
    have h9 : Only (fun _ => False) (w.alloc (.cells #[.int .u32 m0, .int .u32 m1, .int .u32 m2, .int .u32 m3, .int .u32 m4, .int .u32 m5] 35)) w1 := by rw [hw1]; exact (Only.refl _ _).alloc _
    rw [hmb]
    exact Only.keep h9 (heap_alloc_last w _) (fun h => h)
  have hml : w.heap.size ≤ mb := by omega
  have hrl : w.heap.size ≤ rc := by omega
  have hrh := lt_of_some hz1
  have h1 := h.lift ho1
  have HH := Vx.hid h1
  have HZ : Hid (∀ w3, Only (fun k => ¬ Up U w w1 k) w1 w3 → Z11 w3 rc) := fun w3 h3 => z11_of (up_keep h3 hz1 hrl)
  have HFC : Hid (∀ s2 w3 w7, RbX (Up U w w1) w3 rb s2 → Only (fun k => ¬ Up U w w1 k) w1 w3 → Only (fun k => k = rc) w3 w7 → RbX U w7 rb s2 ∧ Only (fun k => ¬ U k) w w7) := fun s2 w3 w7 a1 a2 a3 => up_out (rb_steps rb s2) a1 ho1 a2 hrl hrh a3
  have HFQ : Hid (∀ w3 w7, Only (fun _ => False) w1 w3 → Only (fun k => k = rc) w3 w7 → RbX U w7 rb s ∧ Only (fun k => ¬ U k) w w7) := fun w3 w7 a1 a2 => HFC.out s w3 w7 ⟨_, _, HH.out.quiet a1⟩ (a1.mono (fun _ _ h => h.elim)) a2
  have HRF : Hid (∀ wv e, Calls Try.prog 44 #[.int .i64 e] wv fun x w' => x = .returned (.agg #[.int .i64 e, .int .i64 (-1), .int .u32 0, .int .u32 0, .int .u32 0, .int .u32 0, .int .u32 0, .int .u32 0, .bool false, .bool false, .bool false]) ∧ Only (fun _ => False) wv w') := fun wv e => refused_ok wv e
  have HMC : Hid (∀ w3, Only (fun k => ¬ Up U w w1 k) w1 w3 → w3.cell? ⟨mb, 0, none⟩ = some (.int .u32 m0) ∧ w3.cell? ⟨mb, 1, none⟩ = some (.int .u32 m1) ∧ w3.cell? ⟨mb, 2, none⟩ = some (.int .u32 m2) ∧ w3.cell? ⟨mb, 3, none⟩ = some (.int .u32 m3) ∧ w3.cell? ⟨mb, 4, none⟩ = some (.int .u32 m4) ∧ w3.cell? ⟨mb, 5, none⟩ = some (.int .u32 m5) ∧ mb < w3.heap.size) := fun w3 h3 => by
    have h4 := up_keep h3 hm1 hml
    exact ⟨(cell_of_row _ _ 0 _ _ (0, 0) h4).trans rfl, (cell_of_row _ _ 1 _ _ (0, 0) h4).trans rfl, (cell_of_row _ _ 2 _ _ (0, 0) h4).trans rfl, (cell_of_row _ _ 3 _ _ (0, 0) h4).trans rfl, (cell_of_row _ _ 4 _ _ (0, 0) h4).trans rfl, (cell_of_row _ _ 5 _ _ (0, 0) h4).trans rfl, lt_of_some h4⟩
  clear hm1 hml
  clear ho1 hz1 hrl hrh h
  have HM := Vx.hid (may_ok h1 n false t)
  by_cases hme : mayE s n false t = 0
  · have HRS : Hid (sendR s n t 7 ⟨m0, m1, m2, m3, m4, m5⟩ = match getsF s n with | some i => oMet (wAt s i).thr 7 ⟨m0, m1, m2, m3, m4, m5⟩ | none => oWt) := by
      show _ = _
      unfold sendR
      rw [if_neg (show ¬ hwB 7 = false by decide), if_neg (fun h => h hme)]
      rfl
    have HSS : Hid (sendS s n t 7 ⟨m0, m1, m2, m3, m4, m5⟩ = match getsF s n with | some i => ⟨s.ps, cuI s.ws i⟩ | none => ⟨s.ps, s.ws ++ [⟨n, t, 7, ⟨m0, m1, m2, m3, m4, m5⟩⟩]⟩) := by
      show _ = _
      unfold sendS
      rw [if_neg (show ¬ hwB 7 = false by decide), if_neg (fun h => h hme)]
      rfl
    rw [hme] at HM
    clear hme
    cases hf : aF s.ws n with
    | none =>
      have HFI := Vx.hid (first_none h1 hf)
      have hg : getsF s n = none := by unfold getsF; rw [hf]
      rw [hg] at HRS HSS
      clear hg hf
      obtain ⟨pq0, c, hv, _⟩ := h1.l.form
      have c1 := h1.c1
      rw [hv] at c1
      obtain ⟨N, hN⟩ : ∃ N, N = s.ws.length := ⟨_, rfl⟩
      rw [← hN] at c1 hv
      have HVV := Vx.hid hv
      clear hv hN
      obtain ⟨wd, hwd⟩ : ∃ wd, wd = (w1.alloc (.cells #[.int .i64 n, .int .i64 t, .int .i64 7, .int .u32 m0, .int .u32 m1, .int .u32 m2, .int .u32 m3, .int .u32 m4, .int .u32 m5] 110)).drew := ⟨_, rfl⟩
      have hond : Only (fun _ => False) w1 wd := by rw [hwd]; exact ((Only.refl _ w1).alloc _).drew
      have HYD : Hid (∀ j u, (wtL.cf ⟨n, t, 7, ⟨m0, m1, m2, m3, m4, m5⟩⟩)[j]? = some u → wd.cell? ⟨w1.heap.size, j, none⟩ = some u) := fun j u hj => by
        have hl : wd.heap[w1.heap.size]? = some (.cells #[.int .i64 n, .int .i64 t, .int .i64 7, .int .u32 m0, .int .u32 m1, .int .u32 m2, .int .u32 m3, .int .u32 m4, .int .u32 m5] 110 (0, 0)) := by rw [hwd]; exact heap_alloc_last w1 _
        rw [cell_of_row _ _ j _ _ (0, 0) hl]
        have hj2 : (wtC ⟨n, t, 7, ⟨m0, m1, m2, m3, m4, m5⟩⟩)[j]? = some u := hj
        simpa [wtC] using hj2
      have HL1 : Hid (s.ws.length + 1 ≤ 10000000) := by show _ ≤ _; omega
      have HL2 : Hid ((s.ws ++ [(⟨n, t, 7, ⟨m0, m1, m2, m3, m4, m5⟩⟩ : Wt)]).length ≤ 1000000) := by show _ ≤ _; rw [List.length_append, List.length_singleton]; omega
      have HOD : Hid (OwnL wtL wd 0 110 (.slice pq0 N c) s.ws) := by have := (h1.quiet hond).l; rw [HVV.out] at this; exact this
      have HST : Hid (∀ v' w5, OwnL wtL w5 0 110 v' (s.ws ++ [⟨n, t, 7, ⟨m0, m1, m2, m3, m4, m5⟩⟩]) → Only (fun k => (.slice pq0 N c : Value).ownBlock = some k) wd w5 → (v'.ownBlock = (.slice pq0 N c : Value).ownBlock ∨ ∃ g, v'.ownBlock = some g ∧ wd.heap.size ≤ g ∧ Only (fun _ => False) wd w5) → (∃ p m c, v' = .slice p m c) ∧ (∃ x, w5.cell? ⟨rb, 1, none⟩ = some x) ∧ w5.frozen? ⟨rb, 1, none⟩ = false ∧ Hid (RbX (Up U w w1) (w5.setCell ⟨rb, 1, none⟩ v') rb ⟨s.ps, s.ws ++ [⟨n, t, 7, ⟨m0, m1, m2, m3, m4, m5⟩⟩]⟩ ∧ Only (fun k => ¬ Up U w w1 k) w1 (w5.setCell ⟨rb, 1, none⟩ v'))) := fun v' w5 a1 a2 a3 => by
        rw [← HVV.out] at a2 a3
        obtain ⟨q1, q2, q3, q4⟩ := HH.out.setL a1 ((hond.mono (fun _ _ h => h.elim)).trans a2) (fun k hk => (lies_of a3 k hk).imp (fun h => h) (fun h => Nat.le_trans hond.size h)) HL2.out
        obtain ⟨p, c, hv, _⟩ := a1.form
        exact ⟨⟨p, _, c, hv⟩, q1, q2, q3, q4⟩
      have hrbl : rb < w1.heap.size := lt_of_some h1.r
      obtain ⟨q0, q1, q2, q3, q4, q5, ql⟩ := HMC.out w1 (Only.refl _ _)
      clear hond h1 hl9
      go_enter Try.func26, Try.ntmps26
      go_upto_region 1 with fail
      rw [← hw1, ← hrc, ← hmb]
      clear hw1 hrc hmb
      go_wp2_with fail
      refine HM.out.mono ?_
      rintro e w' ⟨rfl, h⟩
      have h3 := h.symm; clear h; subst h3
      go_wp2_with fail
      refine HFI.out.mono ?_
      rintro e w' ⟨rfl, h⟩
      have h3 := h.symm; clear h; subst h3
      go_upto_region 12 with fail
      go_region_law (refine Vx.step_append_one wtK rfl (.tmp 75) (.tmp 81) rfl 0 (.slice pq0 N c) s.ws (by simp [Act.eval]) (by rw [← hwd]; exact HOD.out) ⟨n, t, 7, ⟨m0, m1, m2, m3, m4, m5⟩⟩ w1.heap.size 1 1 (by simp [Act.eval]) (by rw [← hwd]; exact HYD.out) HL1.out (Nat.zero_le _) ?_; intro v' w5 hv1 hv2 hv3; rw [← hwd] at hv2 hv3; obtain ⟨⟨pq, mq, cq, rfl⟩, ⟨qx, hq1⟩, hq2, HQ5⟩ := HST.out v' w5 hv1 hv2 hv3; clear hv1 hv2 hv3)
      all_goals
        obtain ⟨w6, hw6⟩ : ∃ w6, w6 = w5.setCell ⟨rb, 1, none⟩ (.slice pq mq cq) := ⟨_, rfl⟩
        rw [← hw6] at HQ5 ⊢
        obtain ⟨z0, z1, z2, z3, z4, z5, z6, z7, z8, z9, z10, zf, zl⟩ := HZ.out w6 HQ5.out.2
        clear hw6
        go_wp2_with fail
        refine bodyPost_ret (v := ocV (oWt)) ?_ rfl ⟨by rw [HRS.out], ?_⟩
        · simp [results, Try.results26, go_sem, ocV, oWt, ms0, z0, z1, z2, z3, z4, z5, z6, z7, z8, z9, z10]
        · rw [HSS.out]; exact HFC.out _ _ _ HQ5.out.1 HQ5.out.2 (only_set11 _ _ _ _ _ _ _ _ _ _ _ _ _)
    | some i =>
      have HFI := Vx.hid (first_some h1 hf)
      obtain ⟨hil, hat⟩ := aF_at hf
      clear hat
      obtain ⟨g, c, hv, hW, hwa⟩ := h1.waiter hil
      have c1 := h1.c1
      rw [hv] at c1
      have b2 := hW.c2
      obtain ⟨N, hN⟩ : ∃ N, N = s.ws.length := ⟨_, rfl⟩
      rw [← hN] at c1
      have hidx : 0 ≤ (i : Int) ∧ (i : Int) < (N : Int) := by omega
      have hge : 0 ≤ (i : Int) := by omega
      by_cases hh : s.ws[i].how = 4
      · have hg : getsF s n = some i := by unfold getsF; rw [hf]; dsimp only; rw [hwa, if_pos hh]
        rw [hg] at HRS HSS
        rw [hh] at b2
        have HDR := Vx.hid (drop_ok h1 i hil)
        obtain ⟨⟨ya, yt, yh, ⟨y0, y1, y2, y3, y4, y5⟩⟩, hx⟩ : ∃ x, x = wAt s i := ⟨_, rfl⟩
        dsimp only at HRS HSS
        rw [← hx] at HDR HRS
        unfold wtV at HDR
        dsimp only at HDR HRS
        clear hg hf hwa hW hx hh hv hN hil h1
        go_enter Try.func26, Try.ntmps26
        go_upto_region 1 with fail
        rw [← hw1, ← hrc, ← hmb]
        clear hw1 hrc hmb
        go_wp2_with fail
        refine HM.out.mono ?_
        rintro e w' ⟨rfl, h⟩
        have h3 := h.symm; clear h; subst h3
        go_wp2_with fail
        refine HFI.out.mono ?_
        rintro e w' ⟨rfl, h⟩
        have h3 := h.symm; clear h; subst h3
        go_wp2_with fail
        refine HDR.out.mono ?_
        rintro e w3 ⟨rfl, hr, ho⟩
        have HR := Vx.hid (⟨hr, ho⟩ : _ ∧ _)
        obtain ⟨z0, z1, z2, z3, z4, z5, z6, z7, z8, z9, z10, zf, zl⟩ := HZ.out w3 ho
        obtain ⟨q0, q1, q2, q3, q4, q5, ql⟩ := HMC.out w3 ho
        clear hr ho c1 b2
        go_wp2_with fail
        refine bodyPost_ret (v := ocV (oMet yt 7 ⟨m0, m1, m2, m3, m4, m5⟩)) ?_ rfl ⟨by rw [HRS.out], ?_⟩
        · simp [results, Try.results26, go_sem, ocV, oMet, zl, z0, z1, z2, z3, z4, z5, z6, z7, z8, z9, z10]
        · rw [HSS.out]; exact HFC.out _ _ _ HR.out.1 HR.out.2 (Only.alloc (only_set11 _ _ _ _ _ _ _ _ _ _ _ _ _) _)
      · have hg : getsF s n = none := by unfold getsF; rw [hf]; dsimp only; rw [hwa, if_neg hh]
        have hh2 : (s.ws[i].how == 4) = false := beq_eq_false_iff_ne.2 hh
        rw [hg] at HRS HSS
        generalize s.ws[i].how = yh at b2 hh hh2
        rw [← hN] at hv
        have HVV := Vx.hid hv
        clear hg hf hwa hW hv hN hil
        obtain ⟨wd, hwd⟩ : ∃ wd, wd = (w1.alloc (.cells #[.int .i64 n, .int .i64 t, .int .i64 7, .int .u32 m0, .int .u32 m1, .int .u32 m2, .int .u32 m3, .int .u32 m4, .int .u32 m5] 110)).drew := ⟨_, rfl⟩
        have hond : Only (fun _ => False) w1 wd := by rw [hwd]; exact ((Only.refl _ w1).alloc _).drew
        have HYD : Hid (∀ j u, (wtL.cf ⟨n, t, 7, ⟨m0, m1, m2, m3, m4, m5⟩⟩)[j]? = some u → wd.cell? ⟨w1.heap.size, j, none⟩ = some u) := fun j u hj => by
          have hl : wd.heap[w1.heap.size]? = some (.cells #[.int .i64 n, .int .i64 t, .int .i64 7, .int .u32 m0, .int .u32 m1, .int .u32 m2, .int .u32 m3, .int .u32 m4, .int .u32 m5] 110 (0, 0)) := by rw [hwd]; exact heap_alloc_last w1 _
          rw [cell_of_row _ _ j _ _ (0, 0) hl]
          have hj2 : (wtC ⟨n, t, 7, ⟨m0, m1, m2, m3, m4, m5⟩⟩)[j]? = some u := hj
          simpa [wtC] using hj2
        have HL1 : Hid (s.ws.length + 1 ≤ 10000000) := by show _ ≤ _; omega
        have HL2 : Hid ((s.ws ++ [(⟨n, t, 7, ⟨m0, m1, m2, m3, m4, m5⟩⟩ : Wt)]).length ≤ 1000000) := by show _ ≤ _; rw [List.length_append, List.length_singleton]; omega
        have HOD : Hid (OwnL wtL wd 0 110 (.slice (some ⟨g, 0, none⟩) N c) s.ws) := by have := (h1.quiet hond).l; rw [HVV.out] at this; exact this
        have HST : Hid (∀ v' w5, OwnL wtL w5 0 110 v' (s.ws ++ [⟨n, t, 7, ⟨m0, m1, m2, m3, m4, m5⟩⟩]) → Only (fun k => (.slice (some ⟨g, 0, none⟩) N c : Value).ownBlock = some k) wd w5 → (v'.ownBlock = (.slice (some ⟨g, 0, none⟩) N c : Value).ownBlock ∨ ∃ g, v'.ownBlock = some g ∧ wd.heap.size ≤ g ∧ Only (fun _ => False) wd w5) → (∃ p m c, v' = .slice p m c) ∧ (∃ x, w5.cell? ⟨rb, 1, none⟩ = some x) ∧ w5.frozen? ⟨rb, 1, none⟩ = false ∧ Hid (RbX (Up U w w1) (w5.setCell ⟨rb, 1, none⟩ v') rb ⟨s.ps, s.ws ++ [⟨n, t, 7, ⟨m0, m1, m2, m3, m4, m5⟩⟩]⟩ ∧ Only (fun k => ¬ Up U w w1 k) w1 (w5.setCell ⟨rb, 1, none⟩ v'))) := fun v' w5 a1 a2 a3 => by
          rw [← HVV.out] at a2 a3
          obtain ⟨q1, q2, q3, q4⟩ := HH.out.setL a1 ((hond.mono (fun _ _ h => h.elim)).trans a2) (fun k hk => (lies_of a3 k hk).imp (fun h => h) (fun h => Nat.le_trans hond.size h)) HL2.out
          obtain ⟨p, c, hv, _⟩ := a1.form
          exact ⟨⟨p, _, c, hv⟩, q1, q2, q3, q4⟩
        have hrbl : rb < w1.heap.size := lt_of_some h1.r
        obtain ⟨q0, q1, q2, q3, q4, q5, ql⟩ := HMC.out w1 (Only.refl _ _)
        clear hond h1 hl9
        go_enter Try.func26, Try.ntmps26
        go_upto_region 1 with fail
        rw [← hw1, ← hrc, ← hmb]
        clear hw1 hrc hmb
        go_wp2_with fail
        refine HM.out.mono ?_
        rintro e w' ⟨rfl, h⟩
        have h3 := h.symm; clear h; subst h3
        go_wp2_with fail
        refine HFI.out.mono ?_
        rintro e w' ⟨rfl, h⟩
        have h3 := h.symm; clear h; subst h3
        go_upto_region 12 with fail
        go_region_law (refine Vx.step_append_one wtK rfl (.tmp 75) (.tmp 81) rfl 0 (.slice (some ⟨g, 0, none⟩) N c) s.ws (by simp [Act.eval]) (by rw [← hwd]; exact HOD.out) ⟨n, t, 7, ⟨m0, m1, m2, m3, m4, m5⟩⟩ w1.heap.size 1 1 (by simp [Act.eval]) (by rw [← hwd]; exact HYD.out) HL1.out (Nat.zero_le _) ?_; intro v' w5 hv1 hv2 hv3; rw [← hwd] at hv2 hv3; obtain ⟨⟨pq, mq, cq, rfl⟩, ⟨qx, hq1⟩, hq2, HQ5⟩ := HST.out v' w5 hv1 hv2 hv3; clear hv1 hv2 hv3)
        all_goals
          obtain ⟨w6, hw6⟩ : ∃ w6, w6 = w5.setCell ⟨rb, 1, none⟩ (.slice pq mq cq) := ⟨_, rfl⟩
          rw [← hw6] at HQ5 ⊢
          obtain ⟨z0, z1, z2, z3, z4, z5, z6, z7, z8, z9, z10, zf, zl⟩ := HZ.out w6 HQ5.out.2
          clear hw6
          go_wp2_with fail
          refine bodyPost_ret (v := ocV (oWt)) ?_ rfl ⟨by rw [HRS.out], ?_⟩
          · simp [results, Try.results26, go_sem, ocV, oWt, ms0, z0, z1, z2, z3, z4, z5, z6, z7, z8, z9, z10]
          · rw [HSS.out]; exact HFC.out _ _ _ HQ5.out.1 HQ5.out.2 (only_set11 _ _ _ _ _ _ _ _ _ _ _ _ _)
  · have HRS : Hid (sendR s n t 7 ⟨m0, m1, m2, m3, m4, m5⟩ = oErr (mayE s n false t)) := by
      show _ = _
      unfold sendR
      rw [if_neg (show ¬ hwB 7 = false by decide), if_pos hme]
    have HSS : Hid (sendS s n t 7 ⟨m0, m1, m2, m3, m4, m5⟩ = s) := by
      show _ = _
      unfold sendS
      rw [if_neg (show ¬ hwB 7 = false by decide), if_pos hme]
    generalize mayE s n false t = me at HM HRS hme
    have hm2 : (me != 0) = true := by simpa using hme
    have hm3 : (me == 0) = false := by simpa using hme
    clear h1
    go_enter Try.func26, Try.ntmps26
    go_upto_region 1 with fail
    rw [← hw1, ← hrc, ← hmb]
    clear hw1 hrc hmb
    go_wp2_with fail
    refine HM.out.mono ?_
    rintro e w' ⟨rfl, h⟩
    have h3 := h.symm; clear h; subst h3
    go_wp2_with fail
    refine (HRF.out _ _).mono ?_
    rintro e w3 ⟨rfl, hq⟩
    have HQ := Vx.hid hq
    obtain ⟨z0, z1, z2, z3, z4, z5, z6, z7, z8, z9, z10, zf, zl⟩ := HZ.out w3 (hq.mono (fun _ _ h => h.elim))
    clear hq
    go_wp2_with fail
    refine bodyPost_ret (v := ocV (oErr me)) ?_ rfl ⟨by rw [HRS.out], ?_⟩
    · simp [results, Try.results26, go_sem, ocV, oErr, ms0, z0, z1, z2, z3, z4, z5, z6, z7, z8, z9, z10]
    · rw [HSS.out]; exact HFQ.out _ _ HQ.out (only_set11 _ _ _ _ _ _ _ _ _ _ _ _ _)
theorem rsend_ok (h : RbAt U w rb vp vw s) (hl9 : s.ws.length < 1000000) (n t k : Int) (m : Ms) : Calls Try.prog 26 #[.pointer (some ⟨rb, 0, none⟩), .int .i64 n, .int .i64 t, .int .i64 k, msV m] w fun e w' => e = .returned (ocV (sendR s n t k m)) ∧ RbX U w' rb (sendS s n t k m) ∧ Only (fun k => ¬ U k) w w' := by
  cases hk : hwB k with
  | false => exact rsend_bad h n t k m hk
  | true =>
    rcases of_decide_eq_true hk with rfl | rfl | rfl | rfl
    · exact rsend_1 h hl9 n t m
    · exact rsend_2 h hl9 n t m
    · exact rsend_3 h hl9 n t m
    · exact rsend_7 h hl9 n t m
end Go.Proofs.Ytdpgdjpphnbfnaa

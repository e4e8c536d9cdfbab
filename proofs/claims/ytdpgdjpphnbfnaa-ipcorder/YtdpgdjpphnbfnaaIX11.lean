/- Chapter 10, the program's bus: Send. -/
import Derived.Test.YtdpgdjpphnbfnaaIX8
import Derived.Test.YtdpgdjpphnbfnaaIX9
import Derived.Test.YtdpgdjpphnbfnaaIX10
namespace Go.Proofs.Ytdpgdjpphnbfnaa
open Go.ChangeShapes Go.WideShapes Go.ChangeAt Go.RowKit
open Go.Vx
set_option linter.unusedVariables false
variable {U V S : Nat → Prop} {w w2 w3 w4 : World} {xb mp mw : Nat} {DP DW DP2 DW2 : DataW Value} {GP GW GP2 GW2 : Int → Nat} {Q : Int → Value} {s : Bs}

set_option maxRecDepth 100000 in
set_option maxHeartbeats 4000000 in
theorem xsend_7 (h : XbX U w xb s) (hl9 : s.ws.length < 1000000) (n t : Int) (hn : I64 n) (it : I64 t) (m : Ms) : Calls Try.prog 15 #[.pointer (some ⟨xb, 0, none⟩), .int .i64 n, .int .i64 t, .int .i64 7, msV m] w fun e w' => e = .returned (ocV (sendR s n t 7 m)) ∧ XbX U w' xb (sendS s n t 7 m) ∧ Only (fun k => ¬ U k) w w' := by
  obtain ⟨m0, m1, m2, m3, m4, m5⟩ := m
  rw [show msV ⟨m0, m1, m2, m3, m4, m5⟩ = .agg #[.int .u32 m0, .int .u32 m1, .int .u32 m2, .int .u32 m3, .int .u32 m4, .int .u32 m5] from rfl]
  obtain ⟨hb, mp, mw, DP, DW, GP, GW, Q, h⟩ := h
  obtain ⟨w1, hw1⟩ : ∃ w1, w1 = (w.alloc (.cells #[.int .u32 m0, .int .u32 m1, .int .u32 m2, .int .u32 m3, .int .u32 m4, .int .u32 m5] 35)).alloc (.cells #[.int .i64 0, .int .i64 0, .int .u32 0, .int .u32 0, .int .u32 0, .int .u32 0, .int .u32 0, .int .u32 0, .bool false, .bool false, .bool false] 37) := ⟨_, rfl⟩
  obtain ⟨rc, hrc⟩ : ∃ rc, rc = w.heap.size + 1 := ⟨_, rfl⟩
  obtain ⟨mb, hmb⟩ : ∃ mb, mb = w.heap.size := ⟨_, rfl⟩
  have ho1 : Only (fun _ => False) w w1 := by rw [hw1]; exact ((Only.refl _ w).alloc _).alloc _
  have hz1 : w1.heap[rc]? = some (.cells oc0A 37 (0, 0)) := by
    rw [hw1, hrc]
    have := heap_alloc_last (w.alloc (.cells #[.int .u32 m0, .int .u32 m1, .int .u32 m2, .int .u32 m3, .int .u32 m4, .int .u32 m5] 35)) (.cells #[.int .i64 0, .int .i64 0, .int .u32 0, .int .u32 0, .int .u32 0, .int .u32 0, .int .u32 0, .int .u32 0, .bool false, .bool false, .bool false] 37)
    rw [show (w.alloc (.cells #[.int .u32 m0, .int .u32 m1, .int .u32 m2, .int .u32 m3, .int .u32 m4, .int .u32 m5] 35)).heap.size = w.heap.size + 1 by simp] at this
    exact this
  have hm1 : w1.heap[mb]? = some (.cells #[.int .u32 m0, .int .u32 m1, .int .u32 m2, .int .u32 m3, .int .u32 m4, .int .u32 m5] 35 (0, 0)) := by
    have h9 : Only (fun _ => False) (w.alloc (.cells #[.int .u32 m0, .int .u32 m1, .int .u32 m2, .int .u32 m3, .int .u32 m4, .int .u32 m5] 35)) w1 := by rw [hw1]; exact (Only.refl _ _).alloc _
    rw [hmb]
    exact Only.keep h9 (heap_alloc_last w _) (fun h => h)
  have hml : w.heap.size ≤ mb := by omega
  have hrl : w.heap.size ≤ rc := by omega
  have hrh := lt_of_some hz1
  have h1 : XbAt (Up U w w1) w1 xb mp mw DP DW GP GW Q s := h.step ho1 (fun _ _ h => h.elim) (fun _ h => h)
  have hgu1 : ¬ Up U w w1 w1.heap.size := by
    rintro (h9 | h9)
    · have := h.low _ h9
      have := ho1.size
      omega
    · omega
  have HX : Hid (XbX (Up U w w1) w1 xb s) := ⟨hb, _, _, _, _, _, _, _, h1⟩
  have HZ : Hid (∀ w3, Only (fun k => ¬ Up U w w1 k) w1 w3 → Z11 w3 rc) := fun w3 h3 => z11_of (up_keep h3 hz1 hrl)
  have HFC : Hid (∀ s2 w3 w7, XbX (Up U w w1) w3 xb s2 → Only (fun k => ¬ Up U w w1 k) w1 w3 → Only (fun k => k = rc) w3 w7 → XbX U w7 xb s2 ∧ Only (fun k => ¬ U k) w w7) := fun s2 w3 w7 a1 a2 a3 => up_out (xb_steps xb s2) a1 ho1 a2 hrl hrh a3
  have HFQ : Hid (∀ w3 w7, Only (fun _ => False) w1 w3 → Only (fun k => k = rc) w3 w7 → XbX U w7 xb s ∧ Only (fun k => ¬ U k) w w7) := fun w3 w7 a1 a2 => HFC.out s w3 w7 (HX.out.quiet a1) (a1.mono (fun _ _ h => h.elim)) a2
  have HRF : Hid (∀ wv e, Calls Try.prog 18 #[.int .i64 e] wv fun x w' => x = .returned (.agg #[.int .i64 e, .int .i64 (-1), .int .u32 0, .int .u32 0, .int .u32 0, .int .u32 0, .int .u32 0, .int .u32 0, .bool false, .bool false, .bool false]) ∧ Only (fun _ => False) wv w') := fun wv e => xrefused_ok wv e
  have HMC : Hid (∀ w3, Only (fun k => ¬ Up U w w1 k) w1 w3 → w3.cell? ⟨mb, 0, none⟩ = some (.int .u32 m0) ∧ w3.cell? ⟨mb, 1, none⟩ = some (.int .u32 m1) ∧ w3.cell? ⟨mb, 2, none⟩ = some (.int .u32 m2) ∧ w3.cell? ⟨mb, 3, none⟩ = some (.int .u32 m3) ∧ w3.cell? ⟨mb, 4, none⟩ = some (.int .u32 m4) ∧ w3.cell? ⟨mb, 5, none⟩ = some (.int .u32 m5) ∧ mb < w3.heap.size) := fun w3 h3 => by
    have h4 := up_keep h3 hm1 hml
    exact ⟨(cell_of_row _ _ 0 _ _ (0, 0) h4).trans rfl, (cell_of_row _ _ 1 _ _ (0, 0) h4).trans rfl, (cell_of_row _ _ 2 _ _ (0, 0) h4).trans rfl, (cell_of_row _ _ 3 _ _ (0, 0) h4).trans rfl, (cell_of_row _ _ 4 _ _ (0, 0) h4).trans rfl, (cell_of_row _ _ 5 _ _ (0, 0) h4).trans rfl, lt_of_some h4⟩
  clear hm1 hml
  clear ho1 hz1 hrl hrh h
  have HSE : Hid (Calls Try.prog 38 #[.int .i64 7] w1 fun x w' => x = .returned (.bool true) ∧ w' = w1) := sends_ok w1 7
  have HC := Vx.hid (bcome_ok h1 n hn false t it)
  by_cases hme : mayE s n false t = 0
  · have HRS : Hid (sendR s n t 7 ⟨m0, m1, m2, m3, m4, m5⟩ = match getsF s n with | some i => oMet (wAt s i).thr 7 ⟨m0, m1, m2, m3, m4, m5⟩ | none => oWt) := by
      show _ = _
      unfold sendR
      rw [if_neg (show ¬ hwB 7 = false by decide), if_neg (fun h => h hme)]
      rfl
    have HSS : Hid (sendS s n t 7 ⟨m0, m1, m2, m3, m4, m5⟩ = match getsF s n with | some i => ⟨s.ps, cuI s.ws i⟩ | none => ⟨s.ps, s.ws ++ [⟨n, t, 7, ⟨m0, m1, m2, m3, m4, m5⟩⟩]⟩) := by
      show _ = _
      unfold sendS
      rw [if_neg (show ¬ hwB 7 = false by decide), if_neg (fun h => h hme)]
      rfl
    obtain ⟨i0, hpi, hpb0⟩ : ∃ i0, pF s.ps n = some i0 ∧ (pAt s i0).bell = false := by
      cases hi : pF s.ps n with
      | none => unfold mayE at hme; rw [hi] at hme; have h6 : (6 : Int) = 0 := hme; omega
      | some i0 =>
        refine ⟨i0, rfl, ?_⟩
        unfold mayE at hme
        rw [hi] at hme
        dsimp only at hme
        by_cases h9 : (pAt s i0).bell = false
        · exact h9
        · rw [if_pos h9] at hme; omega
    have hpb := hpb0
    clear hpb0
    have htn : tF s.ws t = none := by
      cases ht : tF s.ws t with
      | none => rfl
      | some j =>
        unfold mayE at hme
        rw [hpi] at hme
        dsimp only at hme
        rw [if_neg (fun h9 => h9 hpb), ht] at hme
        have h6 : (16 : Int) = 0 := hme
        omega
    have hcv : comeV GP s n false t = .tuple #[.pointer (some ⟨GP n, 0, none⟩), .int .i64 0] := by unfold comeV; rw [if_pos hme]
    rw [hcv] at HC
    clear hcv hme
    obtain ⟨hpl, hp1, hp2, hp3, hpL, hp5⟩ := h1.place hpi
    have hqu := h1.queue hpi hpl
    cases hf : aF s.ws n with
    | none =>
      have hln := lineL_none hf
      rw [hln] at hqu
      have HFI := Vx.hid (ifirst_nil hqu)
      have hg : getsF s n = none := by unfold getsF; rw [hf]
      rw [hg] at HRS HSS
      clear hg hf
      obtain ⟨w2, hw2⟩ : ∃ w2, w2 = w1.alloc (.cells #[.int .i64 t, .int .i64 n, .int .i64 7, .int .u32 m0, .int .u32 m1, .int .u32 m2, .int .u32 m3, .int .u32 m4, .int .u32 m5] 84) := ⟨_, rfl⟩
      obtain ⟨gb, hgb⟩ : ∃ gb, gb = w1.heap.size := ⟨_, rfl⟩
      have ho2 : Only (fun _ => False) w1 w2 := by rw [hw2]; exact (Only.refl _ w1).alloc _
      have hg2 : wtP w2 gb ⟨n, t, 7, ⟨m0, m1, m2, m3, m4, m5⟩⟩ := by rw [hw2, hgb]; exact heap_alloc_last w1 _
      have HW : Hid (Calls Try.prog 41 #[.pointer (some ⟨xb, 0, none⟩), .pointer (some ⟨gb, 0, none⟩), .bool true] w2 fun e w' => e = .returned (.agg #[.int .i64 0, .int .i64 (-1), .int .u32 0, .int .u32 0, .int .u32 0, .int .u32 0, .int .u32 0, .int .u32 0, .bool true, .bool false, .bool false]) ∧ XbX (Up U w w1) w' xb ⟨s.ps, s.ws ++ [⟨n, t, 7, ⟨m0, m1, m2, m3, m4, m5⟩⟩]⟩ ∧ Only (fun k => ¬ Up U w w1 k) w1 w') := (bwait_ok (h1.quiet ho2) hb hpi hn htn it (fun _ => by decide) hg2 (by rw [hgb]; exact hgu1) (fun x hx e => by have := lt_of_some (h1.wb x hx); omega) hl9).mono (fun _ _ h => ⟨h.1, h.2.1, (ho2.mono (fun _ _ h => h.elim)).trans h.2.2⟩)
      clear hg2
      clear ho2
      generalize GP n = gp at HC HFI
      clear h1 hln hpi hpb htn hp1 hp2 hp3 hpL hp5 hqu hn it hb hgu1 hl9 HX
      clear hpl
      go_enter Try.func15, Try.ntmps15
      go_upto_region 1 with fail
      rw [← hw1, ← hrc, ← hmb]
      clear hw1 hrc hmb
      go_wp2_with fail
      refine HSE.out.mono ?_
      rintro e w' ⟨rfl, h⟩
      have h3 := h.symm; clear h; subst h3
      go_wp2_with fail
      refine HC.out.mono ?_
      rintro e w' ⟨rfl, h⟩
      have h3 := h.symm; clear h; subst h3
      go_wp2_with fail
      refine HFI.out.mono ?_
      rintro e w' ⟨rfl, h⟩
      have h3 := h.symm; clear h; subst h3
      obtain ⟨q0, q1, q2, q3, q4, q5, ql⟩ := HMC.out w1 (Only.refl _ _)
      go_wp2_with fail
      rw [← hw2, ← hgb]
      clear hw2 hgb
      go_wp2_with fail
      refine HW.out.mono ?_
      rintro e w3 ⟨rfl, hr, ho⟩
      have HR := Vx.hid (⟨hr, ho⟩ : _ ∧ _)
      obtain ⟨z0, z1, z2, z3, z4, z5, z6, z7, z8, z9, z10, zf, zl⟩ := HZ.out w3 ho
      clear hr ho
      go_wp2_with fail
      refine bodyPost_ret (v := ocV (oWt)) ?_ rfl ⟨by rw [HRS.out], ?_⟩
      · simp [results, Try.results15, go_sem, ocV, oWt, ms0, z0, z1, z2, z3, z4, z5, z6, z7, z8, z9, z10]
      · rw [HSS.out]; exact HFC.out _ _ _ HR.out.1 HR.out.2 (only_set11 _ _ _ _ _ _ _ _ _ _ _ _ _)
    | some j =>
      obtain ⟨hjl, r, hln, hat⟩ := lineL_some hf
      rw [hln] at hqu
      have HFI := Vx.hid (ifirst_cons hqu)
      have hjt := tF_at_idx hb.nt hjl
      obtain ⟨hx1, hx2, hwa, hx4, hV, hx6⟩ := h1.waiter hjt
      have b2 := hV.c2
      by_cases hh : s.ws[j].how = 4
      · have hg : getsF s n = some j := by unfold getsF; rw [hf]; dsimp only; rw [hwa, if_pos hh]
        rw [hg] at HRS HSS
        rw [hh] at b2
        have HLV := Vx.hid (bleave_ok h1 hb hjt)
        dsimp only at HRS HSS
        rw [hwa] at HRS HLV
        have HMT : Hid (∀ wv, Calls Try.prog 40 #[.int .i64 s.ws[j].thr, .int .i64 7, .agg #[.int .u32 m0, .int .u32 m1, .int .u32 m2, .int .u32 m3, .int .u32 m4, .int .u32 m5]] wv fun x w' => x = .returned (.agg #[.int .i64 0, .int .i64 s.ws[j].thr, .int .u32 m0, .int .u32 m1, .int .u32 m2, .int .u32 m3, .int .u32 m4, .int .u32 m5, .bool false, .bool (asB 7), .bool (decide ((7 : Int) = 7))]) ∧ Only (fun _ => False) wv w') := fun wv => xmet_ok wv _ _ _ _ _ _ _ _
        generalize GP n = gp at HC HFI
        generalize GW s.ws[j].thr = gw at HFI HLV b2
        generalize s.ws[j] = x at HRS HLV HMT
        clear hg hf hwa hx1 hx2 hx4 hV hx6 hjt hln hat h1 hh hpi hpb htn hp1 hp2 hp3 hpL hp5 hqu hn it hb hgu1 hl9 HX
        clear hpl hjl
        obtain ⟨ya, yt, yh, ⟨y0, y1, y2, y3, y4, y5⟩⟩ := x
        dsimp only at HLV HRS HMT
        go_enter Try.func15, Try.ntmps15
        go_upto_region 1 with fail
        rw [← hw1, ← hrc, ← hmb]
        clear hw1 hrc hmb
        go_wp2_with fail
        refine HSE.out.mono ?_
        rintro e w' ⟨rfl, h⟩
        have h3 := h.symm; clear h; subst h3
        go_wp2_with fail
        refine HC.out.mono ?_
        rintro e w' ⟨rfl, h⟩
        have h3 := h.symm; clear h; subst h3
        go_wp2_with fail
        refine HFI.out.mono ?_
        rintro e w' ⟨rfl, h⟩
        have h3 := h.symm; clear h; subst h3
        go_wp2_with fail
        refine HLV.out.mono ?_
        rintro e w3 ⟨⟨x, rfl⟩, hr, ho, hwt⟩
        have hwd := v9_of (Only.keep ((Only.refl (fun _ => False) w3).drew) hwt (fun h => h))
        have v0 := hwd.c0
        dsimp only at v0
        have ho' : Only (fun k => ¬ Up U w w1 k) w1 w3.drew := ho.trans ((Only.refl _ w3).drew)
        obtain ⟨q0, q1, q2, q3, q4, q5, ql⟩ := HMC.out w3.drew ho'
        have HEN : Hid (∀ w5, Only (fun _ => False) w3.drew w5 → Z11 w5 rc ∧ XbX (Up U w w1) w5 xb ⟨s.ps, cuI s.ws j⟩ ∧ Only (fun k => ¬ Up U w w1 k) w1 w5) := fun w5 h5 => by
          have h6 : Only (fun k => ¬ Up U w w1 k) w1 w5 := ho'.trans (h5.mono (fun _ _ h => h.elim))
          exact ⟨HZ.out w5 h6, (hr.quiet ((Only.refl (fun _ => False) w3).drew)).quiet h5, h6⟩
        clear hr ho hwt hwd ho' b2
        go_wp2_with fail
        go_region_with (go_at_call 40; refine (HMT.out _).mono ?_; rintro e w5 ⟨rfl, hq⟩; obtain ⟨⟨z0, z1, z2, z3, z4, z5, z6, z7, z8, z9, z10, zf, zl⟩, hR⟩ := HEN.out w5 hq; have HR := Vx.hid hR; clear hq hR)
        all_goals
          go_wp2_with fail
          refine bodyPost_ret (v := ocV (oMet yt 7 ⟨m0, m1, m2, m3, m4, m5⟩)) ?_ rfl ⟨by rw [HRS.out], ?_⟩
          · simp [results, Try.results15, go_sem, ocV, oMet, asB, z0, z1, z2, z3, z4, z5, z6, z7, z8, z9, z10]
          · rw [HSS.out]; exact HFC.out _ _ _ HR.out.1 HR.out.2 (only_set11 _ _ _ _ _ _ _ _ _ _ _ _ _)
      · have hg : getsF s n = none := by unfold getsF; rw [hf]; dsimp only; rw [hwa, if_neg hh]
        have hh2 : (s.ws[j].how == 4) = false := beq_eq_false_iff_ne.2 hh
        rw [hg] at HRS HSS
        obtain ⟨w2, hw2⟩ : ∃ w2, w2 = w1.alloc (.cells #[.int .i64 t, .int .i64 n, .int .i64 7, .int .u32 m0, .int .u32 m1, .int .u32 m2, .int .u32 m3, .int .u32 m4, .int .u32 m5] 84) := ⟨_, rfl⟩
        obtain ⟨gb, hgb⟩ : ∃ gb, gb = w1.heap.size := ⟨_, rfl⟩
        have ho2 : Only (fun _ => False) w1 w2 := by rw [hw2]; exact (Only.refl _ w1).alloc _
        have hg2 : wtP w2 gb ⟨n, t, 7, ⟨m0, m1, m2, m3, m4, m5⟩⟩ := by rw [hw2, hgb]; exact heap_alloc_last w1 _
        have HW : Hid (Calls Try.prog 41 #[.pointer (some ⟨xb, 0, none⟩), .pointer (some ⟨gb, 0, none⟩), .bool true] w2 fun e w' => e = .returned (.agg #[.int .i64 0, .int .i64 (-1), .int .u32 0, .int .u32 0, .int .u32 0, .int .u32 0, .int .u32 0, .int .u32 0, .bool true, .bool false, .bool false]) ∧ XbX (Up U w w1) w' xb ⟨s.ps, s.ws ++ [⟨n, t, 7, ⟨m0, m1, m2, m3, m4, m5⟩⟩]⟩ ∧ Only (fun k => ¬ Up U w w1 k) w1 w') := (bwait_ok (h1.quiet ho2) hb hpi hn htn it (fun _ => by decide) hg2 (by rw [hgb]; exact hgu1) (fun x hx e => by have := lt_of_some (h1.wb x hx); omega) hl9).mono (fun _ _ h => ⟨h.1, h.2.1, (ho2.mono (fun _ _ h => h.elim)).trans h.2.2⟩)
        clear hg2
        clear ho2
        generalize GP n = gp at HC HFI
        generalize GW s.ws[j].thr = gw at HFI b2
        generalize s.ws[j].how = yh at b2 hh hh2
        clear hg hf hwa hx1 hx2 hx4 hV hx6 hjt hln hat h1 hpi hpb htn hp1 hp2 hp3 hpL hp5 hqu hn it hb hgu1 hl9 HX
        clear hpl hjl
        go_enter Try.func15, Try.ntmps15
        go_upto_region 1 with fail
        rw [← hw1, ← hrc, ← hmb]
        clear hw1 hrc hmb
        go_wp2_with fail
        refine HSE.out.mono ?_
        rintro e w' ⟨rfl, h⟩
        have h3 := h.symm; clear h; subst h3
        go_wp2_with fail
        refine HC.out.mono ?_
        rintro e w' ⟨rfl, h⟩
        have h3 := h.symm; clear h; subst h3
        go_wp2_with fail
        refine HFI.out.mono ?_
        rintro e w' ⟨rfl, h⟩
        have h3 := h.symm; clear h; subst h3
        obtain ⟨q0, q1, q2, q3, q4, q5, ql⟩ := HMC.out w1 (Only.refl _ _)
        go_wp2_with fail
        rw [← hw2, ← hgb]
        clear hw2 hgb
        go_wp2_with fail
        refine HW.out.mono ?_
        rintro e w3 ⟨rfl, hr, ho⟩
        have HR := Vx.hid (⟨hr, ho⟩ : _ ∧ _)
        obtain ⟨z0, z1, z2, z3, z4, z5, z6, z7, z8, z9, z10, zf, zl⟩ := HZ.out w3 ho
        clear hr ho
        go_wp2_with fail
        refine bodyPost_ret (v := ocV (oWt)) ?_ rfl ⟨by rw [HRS.out], ?_⟩
        · simp [results, Try.results15, go_sem, ocV, oWt, ms0, z0, z1, z2, z3, z4, z5, z6, z7, z8, z9, z10]
        · rw [HSS.out]; exact HFC.out _ _ _ HR.out.1 HR.out.2 (only_set11 _ _ _ _ _ _ _ _ _ _ _ _ _)
  · have HRS : Hid (sendR s n t 7 ⟨m0, m1, m2, m3, m4, m5⟩ = oErr (mayE s n false t)) := by
      show _ = _
      unfold sendR
      rw [if_neg (show ¬ hwB 7 = false by decide), if_pos hme]
    have HSS : Hid (sendS s n t 7 ⟨m0, m1, m2, m3, m4, m5⟩ = s) := by
      show _ = _
      unfold sendS
      rw [if_neg (show ¬ hwB 7 = false by decide), if_pos hme]
    have hcv : comeV GP s n false t = .tuple #[.pointer none, .int .i64 (mayE s n false t)] := by unfold comeV; rw [if_neg hme]
    rw [hcv] at HC
    generalize mayE s n false t = me at HC HRS hme
    have hm2 : (me != 0) = true := by simpa using hme
    have hm3 : (me == 0) = false := by simpa using hme
    clear h1 hcv hb hn it hgu1 HX
    go_enter Try.func15, Try.ntmps15
    go_upto_region 1 with fail
    rw [← hw1, ← hrc, ← hmb]
    clear hw1 hrc hmb
    go_wp2_with fail
    refine HSE.out.mono ?_
    rintro e w' ⟨rfl, h⟩
    have h3 := h.symm; clear h; subst h3
    go_wp2_with fail
    refine HC.out.mono ?_
    rintro e w' ⟨rfl, h⟩
    have h3 := h.symm; clear h; subst h3
    go_wp2_with fail
    refine (HRF.out _ _).mono ?_
    rintro e w3 ⟨rfl, hq⟩
    have HQ := Vx.hid hq
    obtain ⟨z0, z1, z2, z3, z4, z5, z6, z7, z8, z9, z10, zf, zl⟩ := HZ.out w3 (hq.mono (fun _ _ h => h.elim))
    clear hq
    go_wp2_with fail
    refine bodyPost_ret (v := ocV (oErr me)) ?_ rfl ⟨by rw [HRS.out], ?_⟩
    · simp [results, Try.results15, go_sem, ocV, oErr, ms0, z0, z1, z2, z3, z4, z5, z6, z7, z8, z9, z10]
    · rw [HSS.out]; exact HFQ.out _ _ HQ.out (only_set11 _ _ _ _ _ _ _ _ _ _ _ _ _)
theorem xsend_ok (h : XbX U w xb s) (hl9 : s.ws.length < 1000000) (n t k : Int) (hn : I64 n) (it : I64 t) (m : Ms) : Calls Try.prog 15 #[.pointer (some ⟨xb, 0, none⟩), .int .i64 n, .int .i64 t, .int .i64 k, msV m] w fun e w' => e = .returned (ocV (sendR s n t k m)) ∧ XbX U w' xb (sendS s n t k m) ∧ Only (fun k => ¬ U k) w w' := by
  cases hk : hwB k with
  | false => exact xsend_bad h n t k m hk
  | true =>
    rcases of_decide_eq_true hk with rfl | rfl | rfl | rfl
    · exact xsend_1 h hl9 n t hn it m
    · exact xsend_2 h hl9 n t hn it m
    · exact xsend_3 h hl9 n t hn it m
    · exact xsend_7 h hl9 n t hn it m
end Go.Proofs.Ytdpgdjpphnbfnaa

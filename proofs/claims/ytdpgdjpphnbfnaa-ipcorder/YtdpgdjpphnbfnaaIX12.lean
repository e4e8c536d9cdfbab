/- Chapter 10, the program's bus: Get. -/
import Derived.Test.YtdpgdjpphnbfnaaIX6
import Derived.Test.YtdpgdjpphnbfnaaIX7
namespace Go.Proofs.Ytdpgdjpphnbfnaa
open Go.ChangeShapes Go.WideShapes Go.ChangeAt Go.RowKit
open Go.Vx
set_option linter.unusedVariables false
variable {U V S : Nat → Prop} {w w2 w3 w4 : World} {xb mp mw : Nat} {DP DW DP2 DW2 : DataW Value} {GP GW GP2 GW2 : Int → Nat} {Q : Int → Value} {s : Bs}

set_option maxRecDepth 100000 in
set_option maxHeartbeats 4000000 in
theorem xget_false (h : XbX U w xb s) (hl9 : s.ws.length < 1000000) (n t : Int) (hn : I64 n) (it : I64 t) : Calls Try.prog 16 #[.pointer (some ⟨xb, 0, none⟩), .int .i64 n, .int .i64 t, .bool false] w fun e w' => e = .returned (ocV (getR s n t false)) ∧ XbX U w' xb (getS s n t false) ∧ Only (fun k => ¬ U k) w w' := by
  obtain ⟨hb, mp, mw, DP, DW, GP, GW, Q, h⟩ := h
  obtain ⟨w1, hw1⟩ : ∃ w1, w1 = w.alloc (.cells #[.int .i64 0, .int .i64 0, .int .u32 0, .int .u32 0, .int .u32 0, .int .u32 0, .int .u32 0, .int .u32 0, .bool false, .bool false, .bool false] 37) := ⟨_, rfl⟩
  obtain ⟨rc, hrc⟩ : ∃ rc, rc = w.heap.size := ⟨_, rfl⟩
  have ho1 : Only (fun _ => False) w w1 := by rw [hw1]; exact (Only.refl _ w).alloc _
  have hz1 : w1.heap[rc]? = some (.cells oc0A 37 (0, 0)) := by rw [hw1, hrc]; exact heap_alloc_last w _
  have hrl : w.heap.size ≤ rc := by omega
  have hrh := lt_of_some hz1
  have h1 : XbAt (Up U w w1) w1 xb mp mw DP DW GP GW Q s := h.step ho1 (fun _ _ h => h.elim) (fun _ h => h)
  have hgu1 : ¬ Up U w w1 w1.heap.size := by
    rintro (h9 | h9)
    · have := h.low _ h9
      have := ho1.size
      omega
    · omega
  have HX : Hid (XbX (Up U w w1) w1 xb s) := ⟨hb, _, _, _, _, _, _, _, h1⟩
  have HZ : Hid (∀ w3, Only (fun k => ¬ Up U w w1 k) w1 w3 → Z11 w3 rc) := fun w3 h3 => z11_of (up_keep h3 hz1 hrl)
  have HFC : Hid (∀ s2 w3 w7, XbX (Up U w w1) w3 xb s2 → Only (fun k => ¬ Up U w w1 k) w1 w3 → Only (fun k => k = rc) w3 w7 → XbX U w7 xb s2 ∧ Only (fun k => ¬ U k) w w7) := fun s2 w3 w7 a1 a2 a3 => up_out (xb_steps xb s2) a1 ho1 a2 hrl hrh a3
  have HFQ : Hid (∀ w3 w7, Only (fun _ => False) w1 w3 → Only (fun k => k = rc) w3 w7 → XbX U w7 xb s ∧ Only (fun k => ¬ U k) w w7) := fun w3 w7 a1 a2 => HFC.out s w3 w7 (HX.out.quiet a1) (a1.mono (fun _ _ h => h.elim)) a2
  have HRF : Hid (∀ wv e, Calls Try.prog 18 #[.int .i64 e] wv fun x w' => x = .returned (.agg #[.int .i64 e, .int .i64 (-1), .int .u32 0, .int .u32 0, .int .u32 0, .int .u32 0, .int .u32 0, .int .u32 0, .bool false, .bool false, .bool false]) ∧ Only (fun _ => False) wv w') := fun wv e => xrefused_ok wv e
  clear ho1 hz1 hrl hrh h
  have HC := Vx.hid (bcome_ok h1 n hn false t it)
  by_cases hme : mayE s n false t = 0
  · have HRS : Hid (getR s n t false = match sendsF s n with | some i => oMet (wAt s i).thr (wAt s i).how (wAt s i).m | none => oErr 17) := by
      show _ = _
      unfold getR
      rw [if_neg (fun h => h hme)]
      rfl
    have HSS : Hid (getS s n t false = match sendsF s n with | some i => ⟨s.ps, cuI s.ws i⟩ | none => s) := by
      show _ = _
      unfold getS
      rw [if_neg (fun h => h hme)]
      rfl
    obtain ⟨i0, hpi, hpb0⟩ : ∃ i0, pF s.ps n = some i0 ∧ (pAt s i0).bell = false := by
      cases hi : pF s.ps n with
      | none => unfold mayE at hme; rw [hi] at hme; have h6 : (6 : Int) = 0 := hme; omega
      | some i0 =>
        refine ⟨i0, rfl, ?_⟩
        unfold mayE at hme
        rw [hi] at hme
        dsimp only at hme
        by_cases h9 : (pAt s i0).bell = false
        · exact h9
        · rw [if_pos h9] at hme; omega
    have hpb := hpb0
    clear hpb0
    have htn : tF s.ws t = none := by
      cases ht : tF s.ws t with
      | none => rfl
      | some j =>
        unfold mayE at hme
        rw [hpi] at hme
        dsimp only at hme
        rw [if_neg (fun h9 => h9 hpb), ht] at hme
        have h6 : (16 : Int) = 0 := hme
        omega
    have hcv : comeV GP s n false t = .tuple #[.pointer (some ⟨GP n, 0, none⟩), .int .i64 0] := by unfold comeV; rw [if_pos hme]
    rw [hcv] at HC
    clear hcv hme
    obtain ⟨hpl, hp1, hp2, hp3, hpL, hp5⟩ := h1.place hpi
    have hqu := h1.queue hpi hpl
    cases hf : aF s.ws n with
    | none =>
      have hln := lineL_none hf
      rw [hln] at hqu
      have HFI := Vx.hid (ifirst_nil hqu)
      have hg : sendsF s n = none := by unfold sendsF; rw [hf]
      rw [hg] at HRS HSS
      clear hg hf
      obtain ⟨w2, hw2⟩ : ∃ w2, w2 = w1.alloc (.cells #[.int .i64 t, .int .i64 n, .int .i64 4, .int .u32 0, .int .u32 0, .int .u32 0, .int .u32 0, .int .u32 0, .int .u32 0] 84) := ⟨_, rfl⟩
      obtain ⟨gb, hgb⟩ : ∃ gb, gb = w1.heap.size := ⟨_, rfl⟩
      have ho2 : Only (fun _ => False) w1 w2 := by rw [hw2]; exact (Only.refl _ w1).alloc _
      have HW : Hid (Calls Try.prog 41 #[.pointer (some ⟨xb, 0, none⟩), .pointer (some ⟨gb, 0, none⟩), .bool false] w2 fun e w' => e = .returned (.agg #[.int .i64 17, .int .i64 (-1), .int .u32 0, .int .u32 0, .int .u32 0, .int .u32 0, .int .u32 0, .int .u32 0, .bool false, .bool false, .bool false]) ∧ Only (fun _ => False) w1 w') := (bwait_no w2 xb gb).mono (fun _ _ h => ⟨h.1, ho2.trans h.2⟩)
      clear ho2
      generalize GP n = gp at HC HFI
      clear h1 hln hpi hpb htn hp1 hp2 hp3 hpL hp5 hqu hn it hb hgu1 hl9 HX
      clear hpl
      go_enter Try.func16, Try.ntmps16
      go_upto_region 1 with fail
      rw [← hw1, ← hrc]
      clear hw1 hrc
      go_wp2_with fail
      refine HC.out.mono ?_
      rintro e w' ⟨rfl, h⟩
      have h3 := h.symm; clear h; subst h3
      go_wp2_with fail
      refine HFI.out.mono ?_
      rintro e w' ⟨rfl, h⟩
      have h3 := h.symm; clear h; subst h3
      go_wp2_with fail
      rw [← hw2, ← hgb]
      clear hw2 hgb
      go_wp2_with fail
      refine HW.out.mono ?_
      rintro e w3 ⟨rfl, hq⟩
      have HQ := Vx.hid hq
      obtain ⟨z0, z1, z2, z3, z4, z5, z6, z7, z8, z9, z10, zf, zl⟩ := HZ.out w3 (hq.mono (fun _ _ h => h.elim))
      clear hq
      go_wp2_with fail
      refine bodyPost_ret (v := ocV (oErr 17)) ?_ rfl ⟨by rw [HRS.out], ?_⟩
      · simp [results, Try.results16, go_sem, ocV, oErr, ms0, z0, z1, z2, z3, z4, z5, z6, z7, z8, z9, z10]
      · rw [HSS.out]; exact HFQ.out _ _ HQ.out (only_set11 _ _ _ _ _ _ _ _ _ _ _ _ _)
    | some j =>
      obtain ⟨hjl, r, hln, hat⟩ := lineL_some hf
      rw [hln] at hqu
      have HFI := Vx.hid (ifirst_cons hqu)
      have hjt := tF_at_idx hb.nt hjl
      obtain ⟨hx1, hx2, hwa, hx4, hV, hx6⟩ := h1.waiter hjt
      have b2 := hV.c2
      have hhow : s.ws[j].how = 2 ∨ s.ws[j].how = 3 ∨ s.ws[j].how = 4 ∨ s.ws[j].how = 7 := by
        obtain ⟨p, hpp, hpn, hph⟩ := hb.at' _ (List.getElem_mem hjl)
        refine hph ?_
        have := map_inj hb.np hpp hp5 (hpn.trans (hat.trans hp1.symm))
        rw [this, ← hp2]
        exact hpb
      have HSN := Vx.hid (sends_ok w1 s.ws[j].how)
      by_cases hh : s.ws[j].how = 4
      · have hg : sendsF s n = none := by unfold sendsF; rw [hf]; dsimp only; rw [hwa, if_pos hh]
        rw [hg] at HRS HSS
        rw [hh] at b2 HSN
        have HSN2 : Hid (Calls Try.prog 38 #[.int .i64 4] w1 fun x w' => x = .returned (.bool false) ∧ w' = w1) := HSN.out
        obtain ⟨w2, hw2⟩ : ∃ w2, w2 = w1.alloc (.cells #[.int .i64 t, .int .i64 n, .int .i64 4, .int .u32 0, .int .u32 0, .int .u32 0, .int .u32 0, .int .u32 0, .int .u32 0] 84) := ⟨_, rfl⟩
        obtain ⟨gb, hgb⟩ : ∃ gb, gb = w1.heap.size := ⟨_, rfl⟩
        have ho2 : Only (fun _ => False) w1 w2 := by rw [hw2]; exact (Only.refl _ w1).alloc _
        have HW : Hid (Calls Try.prog 41 #[.pointer (some ⟨xb, 0, none⟩), .pointer (some ⟨gb, 0, none⟩), .bool false] w2 fun e w' => e = .returned (.agg #[.int .i64 17, .int .i64 (-1), .int .u32 0, .int .u32 0, .int .u32 0, .int .u32 0, .int .u32 0, .int .u32 0, .bool false, .bool false, .bool false]) ∧ Only (fun _ => False) w1 w') := (bwait_no w2 xb gb).mono (fun _ _ h => ⟨h.1, ho2.trans h.2⟩)
        clear ho2
        generalize GP n = gp at HC HFI
        generalize GW s.ws[j].thr = gw at HFI b2
        clear hg hf hwa hx1 hx2 hx4 hV hx6 hjt hln hat h1 hh hhow hpi hpb htn hp1 hp2 hp3 hpL hp5 hqu hn it hb hgu1 hl9 HX
        clear hpl HSN hjl
        go_enter Try.func16, Try.ntmps16
        go_upto_region 1 with fail
        rw [← hw1, ← hrc]
        clear hw1 hrc
        go_wp2_with fail
        refine HC.out.mono ?_
        rintro e w' ⟨rfl, h⟩
        have h3 := h.symm; clear h; subst h3
        go_wp2_with fail
        refine HFI.out.mono ?_
        rintro e w' ⟨rfl, h⟩
        have h3 := h.symm; clear h; subst h3
        go_wp2_with fail
        refine HSN2.out.mono ?_
        rintro e w' ⟨rfl, h⟩
        have h3 := h.symm; clear h; subst h3
        go_wp2_with fail
        rw [← hw2, ← hgb]
        clear hw2 hgb
        go_wp2_with fail
        refine HW.out.mono ?_
        rintro e w3 ⟨rfl, hq⟩
        have HQ := Vx.hid hq
        obtain ⟨z0, z1, z2, z3, z4, z5, z6, z7, z8, z9, z10, zf, zl⟩ := HZ.out w3 (hq.mono (fun _ _ h => h.elim))
        clear hq
        go_wp2_with fail
        refine bodyPost_ret (v := ocV (oErr 17)) ?_ rfl ⟨by rw [HRS.out], ?_⟩
        · simp [results, Try.results16, go_sem, ocV, oErr, ms0, z0, z1, z2, z3, z4, z5, z6, z7, z8, z9, z10]
        · rw [HSS.out]; exact HFQ.out _ _ HQ.out (only_set11 _ _ _ _ _ _ _ _ _ _ _ _ _)
      · have hg : sendsF s n = some j := by unfold sendsF; rw [hf]; dsimp only; rw [hwa, if_neg hh]
        have hsn : snB s.ws[j].how = true := decide_eq_true (by omega)
        rw [hsn] at HSN
        rw [hg] at HRS HSS
        have HLV := Vx.hid (bleave_ok h1 hb hjt)
        dsimp only at HRS HSS
        rw [hwa] at HRS HLV
        have HMT : Hid (∀ wv, Calls Try.prog 40 #[.int .i64 s.ws[j].thr, .int .i64 s.ws[j].how, .agg #[.int .u32 s.ws[j].m.lab, .int .u32 s.ws[j].m.w0, .int .u32 s.ws[j].m.w1, .int .u32 s.ws[j].m.w2, .int .u32 s.ws[j].m.w3, .int .u32 s.ws[j].m.bdg]] wv fun x w' => x = .returned (.agg #[.int .i64 0, .int .i64 s.ws[j].thr, .int .u32 s.ws[j].m.lab, .int .u32 s.ws[j].m.w0, .int .u32 s.ws[j].m.w1, .int .u32 s.ws[j].m.w2, .int .u32 s.ws[j].m.w3, .int .u32 s.ws[j].m.bdg, .bool false, .bool (asB s.ws[j].how), .bool (decide (s.ws[j].how = 7))]) ∧ Only (fun _ => False) wv w') := fun wv => xmet_ok wv _ _ _ _ _ _ _ _
        generalize GP n = gp at HC HFI
        generalize GW s.ws[j].thr = gw at HFI HLV b2
        generalize s.ws[j] = x at HRS HLV HMT b2 HSN
        clear hg hf hwa hx1 hx2 hx4 hV hx6 hjt hln hat h1 hh hhow hsn hpi hpb htn hp1 hp2 hp3 hpL hp5 hqu hn it hb hgu1 hl9 HX
        clear hpl hjl
        obtain ⟨ya, yt, yh, ⟨y0, y1, y2, y3, y4, y5⟩⟩ := x
        dsimp only at HLV HRS HMT b2 HSN
        have HRS2 : Hid (getR s n t false = ⟨0, yt, ⟨y0, y1, y2, y3, y4, y5⟩, false, asB yh, decide (yh = 7)⟩) := HRS.out
        generalize asB yh = ab at HMT HRS2
        generalize decide (yh = 7) = fb at HMT HRS2
        go_enter Try.func16, Try.ntmps16
        go_upto_region 1 with fail
        rw [← hw1, ← hrc]
        clear hw1 hrc
        go_wp2_with fail
        refine HC.out.mono ?_
        rintro e w' ⟨rfl, h⟩
        have h3 := h.symm; clear h; subst h3
        go_wp2_with fail
        refine HFI.out.mono ?_
        rintro e w' ⟨rfl, h⟩
        have h3 := h.symm; clear h; subst h3
        go_wp2_with fail
        refine HSN.out.mono ?_
        rintro e w' ⟨rfl, h⟩
        have h3 := h.symm; clear h; subst h3
        go_wp2_with fail
        refine HLV.out.mono ?_
        rintro e w3 ⟨⟨x, rfl⟩, hr, ho, hwt⟩
        obtain ⟨v0, v1, v2, v3, v4, v5, v6, v7, v8, vf⟩ := v9_of (Only.keep ((Only.refl (fun _ => False) w3).drew) hwt (fun h => h))
        dsimp only at v0 v2 v3 v4 v5 v6 v7 v8
        have ho' : Only (fun k => ¬ Up U w w1 k) w1 w3.drew := ho.trans ((Only.refl _ w3).drew)
        have HEN : Hid (∀ w5, Only (fun _ => False) w3.drew w5 → Z11 w5 rc ∧ XbX (Up U w w1) w5 xb ⟨s.ps, cuI s.ws j⟩ ∧ Only (fun k => ¬ Up U w w1 k) w1 w5) := fun w5 h5 => by
          have h6 : Only (fun k => ¬ Up U w w1 k) w1 w5 := ho'.trans (h5.mono (fun _ _ h => h.elim))
          exact ⟨HZ.out w5 h6, (hr.quiet ((Only.refl (fun _ => False) w3).drew)).quiet h5, h6⟩
        clear hr ho hwt v1 vf ho' b2
        go_wp2_with fail
        go_region_with (go_at_call 40; refine (HMT.out _).mono ?_; rintro e w5 ⟨rfl, hq⟩; obtain ⟨⟨z0, z1, z2, z3, z4, z5, z6, z7, z8, z9, z10, zf, zl⟩, hR⟩ := HEN.out w5 hq; have HR := Vx.hid hR; clear hq hR)
        all_goals
          go_wp2_with fail
          refine bodyPost_ret (v := ocV (⟨0, yt, ⟨y0, y1, y2, y3, y4, y5⟩, false, ab, fb⟩)) ?_ rfl ⟨by rw [HRS2.out], ?_⟩
          · simp [results, Try.results16, go_sem, ocV, z0, z1, z2, z3, z4, z5, z6, z7, z8, z9, z10]
          · rw [HSS.out]; exact HFC.out _ _ _ HR.out.1 HR.out.2 (only_set11 _ _ _ _ _ _ _ _ _ _ _ _ _)
  · have HRS : Hid (getR s n t false = oErr (mayE s n false t)) := if_pos hme
    have HSS : Hid (getS s n t false = s) := if_pos hme
    have hcv : comeV GP s n false t = .tuple #[.pointer none, .int .i64 (mayE s n false t)] := by unfold comeV; rw [if_neg hme]
    rw [hcv] at HC
    generalize mayE s n false t = me at HC HRS hme
    have hm2 : (me != 0) = true := by simpa using hme
    have hm3 : (me == 0) = false := by simpa using hme
    clear h1 hcv hb hn it hgu1 HX
    go_enter Try.func16, Try.ntmps16
    go_upto_region 1 with fail
    rw [← hw1, ← hrc]
    clear hw1 hrc
    go_wp2_with fail
    refine HC.out.mono ?_
    rintro e w' ⟨rfl, h⟩
    have h3 := h.symm; clear h; subst h3
    go_wp2_with fail
    refine (HRF.out _ _).mono ?_
    rintro e w3 ⟨rfl, hq⟩
    have HQ := Vx.hid hq
    obtain ⟨z0, z1, z2, z3, z4, z5, z6, z7, z8, z9, z10, zf, zl⟩ := HZ.out w3 (hq.mono (fun _ _ h => h.elim))
    clear hq
    go_wp2_with fail
    refine bodyPost_ret (v := ocV (oErr me)) ?_ rfl ⟨by rw [HRS.out], ?_⟩
    · simp [results, Try.results16, go_sem, ocV, oErr, ms0, z0, z1, z2, z3, z4, z5, z6, z7, z8, z9, z10]
    · rw [HSS.out]; exact HFQ.out _ _ HQ.out (only_set11 _ _ _ _ _ _ _ _ _ _ _ _ _)
end Go.Proofs.Ytdpgdjpphnbfnaa

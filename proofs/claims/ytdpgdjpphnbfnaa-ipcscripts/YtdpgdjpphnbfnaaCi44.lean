import Derived.Test.YtdpgdjpphnbfnaaCi36
import Derived.Test.YtdpgdjpphnbfnaaCi19
/- Chapter 10, the program's bus: Hear. -/
namespace Go.Proofs.Ytdpgdjpphnbfnaa
open Go.ChangeShapes Go.WideShapes Go.ChangeAt Go.RowKit
open Go.Vx
set_option linter.unusedVariables false
variable {U V S : Nat → Prop} {w w2 w3 w4 : World} {xb mp mw : Nat} {DP DW DP2 DW2 : DataW Value} {GP GW GP2 GW2 : Int → Nat} {Q : Int → Value} {s : Bs}

set_option maxRecDepth 100000 in
set_option maxHeartbeats 4000000 in
theorem xhear_false (h : XbX U w xb s) (hl9 : s.ws.length < 1000000) (n t : Int) (hn : I64 n) (it : I64 t) : Calls Try.prog 29 #[.pointer (some ⟨xb, 0, none⟩), .int .i64 n, .int .i64 t, .bool false] w fun e w' => e = .returned (ocV (hearR s n t false)) ∧ XbX U w' xb (hearS s n t false) ∧ Only (fun k => ¬ U k) w w' := by
  obtain ⟨hb, mp, mw, DP, DW, GP, GW, Q, h⟩ := h
  obtain ⟨w1, hw1⟩ : ∃ w1, w1 = w.alloc (.cells #[.int .i64 0, .int .i64 0, .int .u32 0, .int .u32 0, .int .u32 0, .int .u32 0, .int .u32 0, .int .u32 0, .bool false, .bool false, .bool false] 37) := ⟨_, rfl⟩
  obtain ⟨rc, hrc⟩ : ∃ rc, rc = w.heap.size := ⟨_, rfl⟩
  have ho1 : Only (fun _ => False) w w1 := by rw [hw1]; exact (Only.refl _ w).alloc _
  have hz1 : w1.heap[rc]? = some (.cells oc0A 37 (0, 0)) := by rw [hw1, hrc]; exact heap_alloc_last w _
  have hrl : w.heap.size ≤ rc := by omega
  have hrh := lt_of_some hz1
  have h1 : XbAt (Up U w w1) w1 xb mp mw DP DW GP GW Q s := h.step ho1 (fun _ _ h => h.elim) (fun _ h => h)
  have hgu1 : ¬ Up U w w1 w1.heap.size := by
    rintro (h9 | h9)
    · have := h.low _ h9
      have := ho1.size
      omega
    · omega
  have HX : Hid (XbX (Up U w w1) w1 xb s) := ⟨hb, _, _, _, _, _, _, _, h1⟩
  have HZ : Hid (∀ w3, Only (fun k => ¬ Up U w w1 k) w1 w3 → Z11 w3 rc) := fun w3 h3 => z11_of (up_keep h3 hz1 hrl)
  have HFC : Hid (∀ s2 w3 w7, XbX (Up U w w1) w3 xb s2 → Only (fun k => ¬ Up U w w1 k) w1 w3 → Only (fun k => k = rc) w3 w7 → XbX U w7 xb s2 ∧ Only (fun k => ¬ U k) w w7) := fun s2 w3 w7 a1 a2 a3 => up_out (xb_steps xb s2) a1 ho1 a2 hrl hrh a3
  have HFQ : Hid (∀ w3 w7, Only (fun _ => False) w1 w3 → Only (fun k => k = rc) w3 w7 → XbX U w7 xb s ∧ Only (fun k => ¬ U k) w w7) := fun w3 w7 a1 a2 => HFC.out s w3 w7 (HX.out.quiet a1) (a1.mono (fun _ _ h => h.elim)) a2
  have HRF : Hid (∀ wv e, Calls Try.prog 18 #[.int .i64 e] wv fun x w' => x = .returned (.agg #[.int .i64 e, .int .i64 (-1), .int .u32 0, .int .u32 0, .int .u32 0, .int .u32 0, .int .u32 0, .int .u32 0, .bool false, .bool false, .bool false]) ∧ Only (fun _ => False) wv w') := fun wv e => xrefused_ok wv e
  clear ho1 hz1 hrl hrh h
  have HC := Vx.hid (bcome_ok h1 n hn true t it)
  by_cases hme : mayE s n true t = 0
  · have HRS0 : Hid (hearR s n t false = match pF s.ps n with | none => oErr 6 | some k => if (pAt s k).word ≠ 0 then oBdg (-1) (pAt s k).word else oErr 17) := by
      show _ = _
      unfold hearR
      rw [if_neg (fun h => h hme)]
      rfl
    have HSS0 : Hid (hearS s n t false = match pF s.ps n with | none => s | some k => if (pAt s k).word ≠ 0 then setW s k 0 else s) := by
      show _ = _
      unfold hearS
      rw [if_neg (fun h => h hme)]
      rfl
    obtain ⟨i0, hpi, hpb0⟩ : ∃ i0, pF s.ps n = some i0 ∧ (pAt s i0).bell = true := by
      cases hi : pF s.ps n with
      | none => unfold mayE at hme; rw [hi] at hme; have h6 : (6 : Int) = 0 := hme; omega
      | some i0 =>
        refine ⟨i0, rfl, ?_⟩
        unfold mayE at hme
        rw [hi] at hme
        dsimp only at hme
        by_cases h9 : (pAt s i0).bell = true
        · exact h9
        · rw [if_pos h9] at hme; omega
    have hpb := hpb0
    clear hpb0
    have htn : tF s.ws t = none := by
      cases ht : tF s.ws t with
      | none => rfl
      | some j =>
        unfold mayE at hme
        rw [hpi] at hme
        dsimp only at hme
        rw [if_neg (fun h9 => h9 hpb), ht] at hme
        have h6 : (16 : Int) = 0 := hme
        omega
    have hcv : comeV GP s n true t = .tuple #[.pointer (some ⟨GP n, 0, none⟩), .int .i64 0] := by unfold comeV; rw [if_pos hme]
    rw [hcv] at HC
    clear hcv hme
    obtain ⟨hpl, hp1, hp2, hp3, hpL, hp5⟩ := h1.place hpi
    have hqu := h1.queue hpi hpl
    rw [hpi] at HRS0 HSS0
    dsimp only at HRS0 HSS0
    rw [hp2] at HRS0 HSS0
    have b1 := hpL.c1
    by_cases hw : s.ps[i0].word = 0
    · have HRS : Hid (hearR s n t false = oErr 17) := by show _ = _; rw [HRS0.out, if_neg (fun h => h hw)]
      have HSS : Hid (hearS s n t false = s) := by show _ = _; rw [HSS0.out, if_neg (fun h => h hw)]
      rw [hw] at b1
      obtain ⟨w2, hw2⟩ : ∃ w2, w2 = w1.alloc (.cells #[.int .i64 t, .int .i64 n, .int .i64 6, .int .u32 0, .int .u32 0, .int .u32 0, .int .u32 0, .int .u32 0, .int .u32 0] 84) := ⟨_, rfl⟩
      obtain ⟨gb, hgb⟩ : ∃ gb, gb = w1.heap.size := ⟨_, rfl⟩
      have ho2 : Only (fun _ => False) w1 w2 := by rw [hw2]; exact (Only.refl _ w1).alloc _
      have HW : Hid (Calls Try.prog 41 #[.pointer (some ⟨xb, 0, none⟩), .pointer (some ⟨gb, 0, none⟩), .bool false] w2 fun e w' => e = .returned (.agg #[.int .i64 17, .int .i64 (-1), .int .u32 0, .int .u32 0, .int .u32 0, .int .u32 0, .int .u32 0, .int .u32 0, .bool false, .bool false, .bool false]) ∧ Only (fun _ => False) w1 w') := (bwait_no w2 xb gb).mono (fun _ _ h => ⟨h.1, ho2.trans h.2⟩)
      clear ho2
      generalize GP n = gp at HC b1
      clear HRS0 HSS0 hw h1 hpi hpb htn hp1 hp2 hp3 hpL hp5 hqu hn it hb hgu1 hl9 HX
      clear hpl
      go_enter Try.func29, Try.ntmps29
      go_upto_region 1 with fail
      rw [← hw1, ← hrc]
      clear hw1 hrc
      go_wp2_with fail
      refine HC.out.mono ?_
      rintro e w' ⟨rfl, h⟩
      have h3 := h.symm; clear h; subst h3
      go_wp2_with fail
      rw [← hw2, ← hgb]
      clear hw2 hgb
      go_wp2_with fail
      refine HW.out.mono ?_
      rintro e w3 ⟨rfl, hq⟩
      have HQ := Vx.hid hq
      obtain ⟨z0, z1, z2, z3, z4, z5, z6, z7, z8, z9, z10, zf, zl⟩ := HZ.out w3 (hq.mono (fun _ _ h => h.elim))
      clear hq
      go_wp2_with fail
      refine bodyPost_ret (v := ocV (oErr 17)) ?_ rfl ⟨by rw [HRS.out], ?_⟩
      · simp [results, Try.results29, go_sem, ocV, oErr, ms0, z0, z1, z2, z3, z4, z5, z6, z7, z8, z9, z10]
      · rw [HSS.out]; exact HFQ.out _ _ HQ.out (only_set11 _ _ _ _ _ _ _ _ _ _ _ _ _)
    · have HRS : Hid (hearR s n t false = oBdg (-1) s.ps[i0].word) := by show _ = _; rw [HRS0.out, if_pos hw]
      have HSS : Hid (hearS s n t false = setW s i0 0) := by show _ = _; rw [HSS0.out, if_pos hw]
      have hw2 : (s.ps[i0].word != 0) = true := by simpa using hw
      have hw3 : (s.ps[i0].word == 0) = false := by simpa using hw
      have z2 := hpL.fz 1
      have HHD := Vx.hid (fun wv => xheard_ok wv (-1) s.ps[i0].word)
      obtain ⟨hP, hO⟩ := h1.putW hb hpi 0
      have hbw := hb.put hpl 0
      clear HRS0 HSS0
      generalize s.ps[i0].word = wd at b1 HRS hw hw2 hw3 HHD
      generalize hgg : GP n = gp at HC b1 z2 hP hO
      obtain ⟨w3, hw9⟩ : ∃ w3, w3 = w1.setCell ⟨gp, 1, none⟩ (.int .u32 0) := ⟨_, rfl⟩
      rw [← hw9] at hP hO
      have HEN : Hid (∀ w5, Only (fun _ => False) w3 w5 → Z11 w5 rc ∧ XbX (Up U w w1) w5 xb (setW s i0 0) ∧ Only (fun k => ¬ Up U w w1 k) w1 w5) := fun w5 h5 => by
        have h6 : Only (fun k => ¬ Up U w w1 k) w1 w5 := hO.trans (h5.mono (fun _ _ h => h.elim))
        exact ⟨HZ.out w5 h6, ⟨hbw, _, _, _, _, _, _, _, hP.quiet h5⟩, h6⟩
      clear h1 hP hO hbw hgg hpi hpb htn hp1 hp2 hp3 hpL hp5 hqu hn it hb hgu1 hl9 HX
      clear hpl
      go_enter Try.func29, Try.ntmps29
      go_upto_region 1 with fail
      rw [← hw1, ← hrc]
      clear hw1 hrc
      go_wp2_with fail
      refine HC.out.mono ?_
      rintro e w' ⟨rfl, h⟩
      have h3 := h.symm; clear h; subst h3
      go_upto_region 7 with fail
      rw [← hw9]
      clear hw9
      go_wp2_with fail
      refine (HHD.out _).mono ?_
      rintro e w5 ⟨rfl, hq⟩
      obtain ⟨⟨z0, z1, z2, z3, z4, z5, z6, z7, z8, z9, z10, zf, zl⟩, hR⟩ := HEN.out w5 hq
      have HR := Vx.hid hR
      clear hq hR
      go_wp2_with fail
      refine bodyPost_ret (v := ocV (oBdg (-1) wd)) ?_ rfl ⟨by rw [HRS.out], ?_⟩
      · simp [results, Try.results29, go_sem, ocV, oBdg, msB, z0, z1, z2, z3, z4, z5, z6, z7, z8, z9, z10]
      · rw [HSS.out]; exact HFC.out _ _ _ HR.out.1 HR.out.2 (only_set11 _ _ _ _ _ _ _ _ _ _ _ _ _)
  · have HRS : Hid (hearR s n t false = oErr (mayE s n true t)) := if_pos hme
    have HSS : Hid (hearS s n t false = s) := if_pos hme
    have hcv : comeV GP s n true t = .tuple #[.pointer none, .int .i64 (mayE s n true t)] := by unfold comeV; rw [if_neg hme]
    rw [hcv] at HC
    generalize mayE s n true t = me at HC HRS hme
    have hm2 : (me != 0) = true := by simpa using hme
    have hm3 : (me == 0) = false := by simpa using hme
    clear h1 hcv hb hn it hgu1 HX
    go_enter Try.func29, Try.ntmps29
    go_upto_region 1 with fail
    rw [← hw1, ← hrc]
    clear hw1 hrc
    go_wp2_with fail
    refine HC.out.mono ?_
    rintro e w' ⟨rfl, h⟩
    have h3 := h.symm; clear h; subst h3
    go_wp2_with fail
    refine (HRF.out _ _).mono ?_
    rintro e w3 ⟨rfl, hq⟩
    have HQ := Vx.hid hq
    obtain ⟨z0, z1, z2, z3, z4, z5, z6, z7, z8, z9, z10, zf, zl⟩ := HZ.out w3 (hq.mono (fun _ _ h => h.elim))
    clear hq
    go_wp2_with fail
    refine bodyPost_ret (v := ocV (oErr me)) ?_ rfl ⟨by rw [HRS.out], ?_⟩
    · simp [results, Try.results29, go_sem, ocV, oErr, ms0, z0, z1, z2, z3, z4, z5, z6, z7, z8, z9, z10]
    · rw [HSS.out]; exact HFQ.out _ _ HQ.out (only_set11 _ _ _ _ _ _ _ _ _ _ _ _ _)
set_option maxRecDepth 100000 in
set_option maxHeartbeats 4000000 in
theorem xhear_true (h : XbX U w xb s) (hl9 : s.ws.length < 1000000) (n t : Int) (hn : I64 n) (it : I64 t) : Calls Try.prog 29 #[.pointer (some ⟨xb, 0, none⟩), .int .i64 n, .int .i64 t, .bool true] w fun e w' => e = .returned (ocV (hearR s n t true)) ∧ XbX U w' xb (hearS s n t true) ∧ Only (fun k => ¬ U k) w w' := by
  obtain ⟨hb, mp, mw, DP, DW, GP, GW, Q, h⟩ := h
  obtain ⟨w1, hw1⟩ : ∃ w1, w1 = w.alloc (.cells #[.int .i64 0, .int .i64 0, .int .u32 0, .int .u32 0, .int .u32 0, .int .u32 0, .int .u32 0, .int .u32 0, .bool false, .bool false, .bool false] 37) := ⟨_, rfl⟩
  obtain ⟨rc, hrc⟩ : ∃ rc, rc = w.heap.size := ⟨_, rfl⟩
  have ho1 : Only (fun _ => False) w w1 := by rw [hw1]; exact (Only.refl _ w).alloc _
  have hz1 : w1.heap[rc]? = some (.cells oc0A 37 (0, 0)) := by rw [hw1, hrc]; exact heap_alloc_last w _
  have hrl : w.heap.size ≤ rc := by omega
  have hrh := lt_of_some hz1
  have h1 : XbAt (Up U w w1) w1 xb mp mw DP DW GP GW Q s := h.step ho1 (fun _ _ h => h.elim) (fun _ h => h)
  have hgu1 : ¬ Up U w w1 w1.heap.size := by
    rintro (h9 | h9)
    · have := h.low _ h9
      have := ho1.size
      omega
    · omega
  have HX : Hid (XbX (Up U w w1) w1 xb s) := ⟨hb, _, _, _, _, _, _, _, h1⟩
  have HZ : Hid (∀ w3, Only (fun k => ¬ Up U w w1 k) w1 w3 → Z11 w3 rc) := fun w3 h3 => z11_of (up_keep h3 hz1 hrl)
  have HFC : Hid (∀ s2 w3 w7, XbX (Up U w w1) w3 xb s2 → Only (fun k => ¬ Up U w w1 k) w1 w3 → Only (fun k => k = rc) w3 w7 → XbX U w7 xb s2 ∧ Only (fun k => ¬ U k) w w7) := fun s2 w3 w7 a1 a2 a3 => up_out (xb_steps xb s2) a1 ho1 a2 hrl hrh a3
  have HFQ : Hid (∀ w3 w7, Only (fun _ => False) w1 w3 → Only (fun k => k = rc) w3 w7 → XbX U w7 xb s ∧ Only (fun k => ¬ U k) w w7) := fun w3 w7 a1 a2 => HFC.out s w3 w7 (HX.out.quiet a1) (a1.mono (fun _ _ h => h.elim)) a2
  have HRF : Hid (∀ wv e, Calls Try.prog 18 #[.int .i64 e] wv fun x w' => x = .returned (.agg #[.int .i64 e, .int .i64 (-1), .int .u32 0, .int .u32 0, .int .u32 0, .int .u32 0, .int .u32 0, .int .u32 0, .bool false, .bool false, .bool false]) ∧ Only (fun _ => False) wv w') := fun wv e => xrefused_ok wv e
  clear ho1 hz1 hrl hrh h
  have HC := Vx.hid (bcome_ok h1 n hn true t it)
  by_cases hme : mayE s n true t = 0
  · have HRS0 : Hid (hearR s n t true = match pF s.ps n with | none => oErr 6 | some k => if (pAt s k).word ≠ 0 then oBdg (-1) (pAt s k).word else oWt) := by
      show _ = _
      unfold hearR
      rw [if_neg (fun h => h hme)]
      rfl
    have HSS0 : Hid (hearS s n t true = match pF s.ps n with | none => s | some k => if (pAt s k).word ≠ 0 then setW s k 0 else ⟨s.ps, s.ws ++ [⟨n, t, 6, ms0⟩]⟩) := by
      show _ = _
      unfold hearS
      rw [if_neg (fun h => h hme)]
      rfl
    obtain ⟨i0, hpi, hpb0⟩ : ∃ i0, pF s.ps n = some i0 ∧ (pAt s i0).bell = true := by
      cases hi : pF s.ps n with
      | none => unfold mayE at hme; rw [hi] at hme; have h6 : (6 : Int) = 0 := hme; omega
      | some i0 =>
        refine ⟨i0, rfl, ?_⟩
        unfold mayE at hme
        rw [hi] at hme
        dsimp only at hme
        by_cases h9 : (pAt s i0).bell = true
        · exact h9
        · rw [if_pos h9] at hme; omega
    have hpb := hpb0
    clear hpb0
    have htn : tF s.ws t = none := by
      cases ht : tF s.ws t with
      | none => rfl
      | some j =>
        unfold mayE at hme
        rw [hpi] at hme
        dsimp only at hme
        rw [if_neg (fun h9 => h9 hpb), ht] at hme
        have h6 : (16 : Int) = 0 := hme
        omega
    have hcv : comeV GP s n true t = .tuple #[.pointer (some ⟨GP n, 0, none⟩), .int .i64 0] := by unfold comeV; rw [if_pos hme]
    rw [hcv] at HC
    clear hcv hme
    obtain ⟨hpl, hp1, hp2, hp3, hpL, hp5⟩ := h1.place hpi
    have hqu := h1.queue hpi hpl
    rw [hpi] at HRS0 HSS0
    dsimp only at HRS0 HSS0
    rw [hp2] at HRS0 HSS0
    have b1 := hpL.c1
    by_cases hw : s.ps[i0].word = 0
    · have HRS : Hid (hearR s n t true = oWt) := by show _ = _; rw [HRS0.out, if_neg (fun h => h hw)]
      have HSS : Hid (hearS s n t true = ⟨s.ps, s.ws ++ [⟨n, t, 6, ms0⟩]⟩) := by show _ = _; rw [HSS0.out, if_neg (fun h => h hw)]
      rw [hw] at b1
      obtain ⟨w2, hw2⟩ : ∃ w2, w2 = w1.alloc (.cells #[.int .i64 t, .int .i64 n, .int .i64 6, .int .u32 0, .int .u32 0, .int .u32 0, .int .u32 0, .int .u32 0, .int .u32 0] 84) := ⟨_, rfl⟩
      obtain ⟨gb, hgb⟩ : ∃ gb, gb = w1.heap.size := ⟨_, rfl⟩
      have ho2 : Only (fun _ => False) w1 w2 := by rw [hw2]; exact (Only.refl _ w1).alloc _
      have hg2 : wtP w2 gb ⟨n, t, 6, ⟨0, 0, 0, 0, 0, 0⟩⟩ := by rw [hw2, hgb]; exact heap_alloc_last w1 _
      have HW : Hid (Calls Try.prog 41 #[.pointer (some ⟨xb, 0, none⟩), .pointer (some ⟨gb, 0, none⟩), .bool true] w2 fun e w' => e = .returned (.agg #[.int .i64 0, .int .i64 (-1), .int .u32 0, .int .u32 0, .int .u32 0, .int .u32 0, .int .u32 0, .int .u32 0, .bool true, .bool false, .bool false]) ∧ XbX (Up U w w1) w' xb ⟨s.ps, s.ws ++ [⟨n, t, 6, ⟨0, 0, 0, 0, 0, 0⟩⟩]⟩ ∧ Only (fun k => ¬ Up U w w1 k) w1 w') := (bwait_ok (h1.quiet ho2) hb hpi hn htn it (fun h9 => by rw [hpb] at h9; cases h9) hg2 (by rw [hgb]; exact hgu1) (fun x hx e => by have := lt_of_some (h1.wb x hx); omega) hl9).mono (fun _ _ h => ⟨h.1, h.2.1, (ho2.mono (fun _ _ h => h.elim)).trans h.2.2⟩)
      clear hg2
      clear ho2
      generalize GP n = gp at HC b1
      clear HRS0 HSS0 hw h1 hpi hpb htn hp1 hp2 hp3 hpL hp5 hqu hn it hb hgu1 hl9 HX
      clear hpl
      go_enter Try.func29, Try.ntmps29
      go_upto_region 1 with fail
      rw [← hw1, ← hrc]
      clear hw1 hrc
      go_wp2_with fail
      refine HC.out.mono ?_
      rintro e w' ⟨rfl, h⟩
      have h3 := h.symm; clear h; subst h3
      go_wp2_with fail
      rw [← hw2, ← hgb]
      clear hw2 hgb
      go_wp2_with fail
      refine HW.out.mono ?_
      rintro e w3 ⟨rfl, hr, ho⟩
      have HR := Vx.hid (⟨hr, ho⟩ : _ ∧ _)
      obtain ⟨z0, z1, z2, z3, z4, z5, z6, z7, z8, z9, z10, zf, zl⟩ := HZ.out w3 ho
      clear hr ho
      go_wp2_with fail
      refine bodyPost_ret (v := ocV (oWt)) ?_ rfl ⟨by rw [HRS.out], ?_⟩
      · simp [results, Try.results29, go_sem, ocV, oWt, ms0, z0, z1, z2, z3, z4, z5, z6, z7, z8, z9, z10]
      · rw [HSS.out]; exact HFC.out _ _ _ HR.out.1 HR.out.2 (only_set11 _ _ _ _ _ _ _ _ _ _ _ _ _)
    · have HRS : Hid (hearR s n t true = oBdg (-1) s.ps[i0].word) := by show _ = _; rw [HRS0.out, if_pos hw]
      have HSS : Hid (hearS s n t true = setW s i0 0) := by show _ = _; rw [HSS0.out, if_pos hw]
      have hw2 : (s.ps[i0].word != 0) = true := by simpa using hw
      have hw3 : (s.ps[i0].word == 0) = false := by simpa using hw
      have z2 := hpL.fz 1
      have HHD := Vx.hid (fun wv => xheard_ok wv (-1) s.ps[i0].word)
      obtain ⟨hP, hO⟩ := h1.putW hb hpi 0
      have hbw := hb.put hpl 0
      clear HRS0 HSS0
      generalize s.ps[i0].word = wd at b1 HRS hw hw2 hw3 HHD
      generalize hgg : GP n = gp at HC b1 z2 hP hO
      obtain ⟨w3, hw9⟩ : ∃ w3, w3 = w1.setCell ⟨gp, 1, none⟩ (.int .u32 0) := ⟨_, rfl⟩
      rw [← hw9] at hP hO
      have HEN : Hid (∀ w5, Only (fun _ => False) w3 w5 → Z11 w5 rc ∧ XbX (Up U w w1) w5 xb (setW s i0 0) ∧ Only (fun k => ¬ Up U w w1 k) w1 w5) := fun w5 h5 => by
        have h6 : Only (fun k => ¬ Up U w w1 k) w1 w5 := hO.trans (h5.mono (fun _ _ h => h.elim))
        exact ⟨HZ.out w5 h6, ⟨hbw, _, _, _, _, _, _, _, hP.quiet h5⟩, h6⟩
      clear h1 hP hO hbw hgg hpi hpb htn hp1 hp2 hp3 hpL hp5 hqu hn it hb hgu1 hl9 HX
      clear hpl
      go_enter Try.func29, Try.ntmps29
      go_upto_region 1 with fail
      rw [← hw1, ← hrc]
      clear hw1 hrc
      go_wp2_with fail
      refine HC.out.mono ?_
      rintro e w' ⟨rfl, h⟩
      have h3 := h.symm; clear h; subst h3
      go_upto_region 7 with fail
      rw [← hw9]
      clear hw9
      go_wp2_with fail
      refine (HHD.out _).mono ?_
      rintro e w5 ⟨rfl, hq⟩
      obtain ⟨⟨z0, z1, z2, z3, z4, z5, z6, z7, z8, z9, z10, zf, zl⟩, hR⟩ := HEN.out w5 hq
      have HR := Vx.hid hR
      clear hq hR
      go_wp2_with fail
      refine bodyPost_ret (v := ocV (oBdg (-1) wd)) ?_ rfl ⟨by rw [HRS.out], ?_⟩
      · simp [results, Try.results29, go_sem, ocV, oBdg, msB, z0, z1, z2, z3, z4, z5, z6, z7, z8, z9, z10]
      · rw [HSS.out]; exact HFC.out _ _ _ HR.out.1 HR.out.2 (only_set11 _ _ _ _ _ _ _ _ _ _ _ _ _)
  · have HRS : Hid (hearR s n t true = oErr (mayE s n true t)) := if_pos hme
    have HSS : Hid (hearS s n t true = s) := if_pos hme
    have hcv : comeV GP s n true t = .tuple #[.pointer none, .int .i64 (mayE s n true t)] := by unfold comeV; rw [if_neg hme]
    rw [hcv] at HC
    generalize mayE s n true t = me at HC HRS hme
    have hm2 : (me != 0) = true := by simpa using hme
    have hm3 : (me == 0) = false := by simpa using hme
    clear h1 hcv hb hn it hgu1 HX
    go_enter Try.func29, Try.ntmps29
    go_upto_region 1 with fail
    rw [← hw1, ← hrc]
    clear hw1 hrc
    go_wp2_with fail
    refine HC.out.mono ?_
    rintro e w' ⟨rfl, h⟩
    have h3 := h.symm; clear h; subst h3
    go_wp2_with fail
    refine (HRF.out _ _).mono ?_
    rintro e w3 ⟨rfl, hq⟩
    have HQ := Vx.hid hq
    obtain ⟨z0, z1, z2, z3, z4, z5, z6, z7, z8, z9, z10, zf, zl⟩ := HZ.out w3 (hq.mono (fun _ _ h => h.elim))
    clear hq
    go_wp2_with fail
    refine bodyPost_ret (v := ocV (oErr me)) ?_ rfl ⟨by rw [HRS.out], ?_⟩
    · simp [results, Try.results29, go_sem, ocV, oErr, ms0, z0, z1, z2, z3, z4, z5, z6, z7, z8, z9, z10]
    · rw [HSS.out]; exact HFQ.out _ _ HQ.out (only_set11 _ _ _ _ _ _ _ _ _ _ _ _ _)
theorem xhear_ok (h : XbX U w xb s) (hl9 : s.ws.length < 1000000) (n t : Int) (hn : I64 n) (it : I64 t) (b : Bool) : Calls Try.prog 29 #[.pointer (some ⟨xb, 0, none⟩), .int .i64 n, .int .i64 t, .bool b] w fun e w' => e = .returned (ocV (hearR s n t b)) ∧ XbX U w' xb (hearS s n t b) ∧ Only (fun k => ¬ U k) w w' := by
  cases b with
  | false => exact xhear_false h hl9 n t hn it
  | true => exact xhear_true h hl9 n t hn it
end Go.Proofs.Ytdpgdjpphnbfnaa

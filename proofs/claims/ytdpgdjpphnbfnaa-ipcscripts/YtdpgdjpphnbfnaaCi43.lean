import Derived.Test.YtdpgdjpphnbfnaaCi36
import Derived.Test.YtdpgdjpphnbfnaaCi19
/- Chapter 10, the program's bus: Ring. -/
namespace Go.Proofs.Ytdpgdjpphnbfnaa
open Go.ChangeShapes Go.WideShapes Go.ChangeAt Go.RowKit
open Go.Vx
set_option linter.unusedVariables false
variable {U V S : Nat → Prop} {w w2 w3 w4 : World} {xb mp mw : Nat} {DP DW DP2 DW2 : DataW Value} {GP GW GP2 GW2 : Int → Nat} {Q : Int → Value} {s : Bs}

set_option maxRecDepth 100000 in
set_option maxHeartbeats 4000000 in
theorem xring_ok (h : XbX U w xb s) (n b : Int) (hn : I64 n) : Calls Try.prog 7 #[.pointer (some ⟨xb, 0, none⟩), .int .i64 n, .int .u32 b] w fun e w' => e = .returned (ocV (ringR s n b)) ∧ XbX U w' xb (ringS s n b) ∧ Only (fun k => ¬ U k) w w' := by
  obtain ⟨hb, mp, mw, DP, DW, GP, GW, Q, h⟩ := h
  obtain ⟨w1, hw1⟩ : ∃ w1, w1 = w.alloc (.cells #[.int .i64 0, .int .i64 0, .int .u32 0, .int .u32 0, .int .u32 0, .int .u32 0, .int .u32 0, .int .u32 0, .bool false, .bool false, .bool false] 37) := ⟨_, rfl⟩
  obtain ⟨rc, hrc⟩ : ∃ rc, rc = w.heap.size := ⟨_, rfl⟩
  have ho1 : Only (fun _ => False) w w1 := by rw [hw1]; exact (Only.refl _ w).alloc _
  have hz1 : w1.heap[rc]? = some (.cells oc0A 37 (0, 0)) := by rw [hw1, hrc]; exact heap_alloc_last w _
  have hrl : w.heap.size ≤ rc := by omega
  have hrh := lt_of_some hz1
  have h1 : XbAt (Up U w w1) w1 xb mp mw DP DW GP GW Q s := h.step ho1 (fun _ _ h => h.elim) (fun _ h => h)
  have hgu1 : ¬ Up U w w1 w1.heap.size := by
    rintro (h9 | h9)
    · have := h.low _ h9
      have := ho1.size
      omega
    · omega
  have HX : Hid (XbX (Up U w w1) w1 xb s) := ⟨hb, _, _, _, _, _, _, _, h1⟩
  have HZ : Hid (∀ w3, Only (fun k => ¬ Up U w w1 k) w1 w3 → Z11 w3 rc) := fun w3 h3 => z11_of (up_keep h3 hz1 hrl)
  have HFC : Hid (∀ s2 w3 w7, XbX (Up U w w1) w3 xb s2 → Only (fun k => ¬ Up U w w1 k) w1 w3 → Only (fun k => k = rc) w3 w7 → XbX U w7 xb s2 ∧ Only (fun k => ¬ U k) w w7) := fun s2 w3 w7 a1 a2 a3 => up_out (xb_steps xb s2) a1 ho1 a2 hrl hrh a3
  have HFQ : Hid (∀ w3 w7, Only (fun _ => False) w1 w3 → Only (fun k => k = rc) w3 w7 → XbX U w7 xb s ∧ Only (fun k => ¬ U k) w w7) := fun w3 w7 a1 a2 => HFC.out s w3 w7 (HX.out.quiet a1) (a1.mono (fun _ _ h => h.elim)) a2
  have HRF : Hid (∀ wv e, Calls Try.prog 18 #[.int .i64 e] wv fun x w' => x = .returned (.agg #[.int .i64 e, .int .i64 (-1), .int .u32 0, .int .u32 0, .int .u32 0, .int .u32 0, .int .u32 0, .int .u32 0, .bool false, .bool false, .bool false]) ∧ Only (fun _ => False) wv w') := fun wv e => xrefused_ok wv e
  clear ho1 hz1 hrl hrh h
  have HF := Vx.hid (bfind_ok h1 n hn true)
  rcases bfind_or GP s n true with hf0 | hf0
  · have hbe : bellF s n = none := by
      unfold findV at hf0
      unfold bellF
      cases hi : pF s.ps n with
      | none => rfl
      | some i =>
        rw [hi] at hf0
        dsimp only at hf0 ⊢
        by_cases h9 : (pAt s i).bell = true
        · rw [if_pos h9] at hf0; cases hf0
        · rw [if_neg h9]
    have HRS : Hid (ringR s n b = oErr 6) := by show _ = _; unfold ringR; rw [hbe]
    have HSS : Hid (ringS s n b = s) := by show _ = _; unfold ringS; rw [hbe]
    rw [hf0] at HF
    clear h1 hf0 hbe hb hn hgu1 HX
    go_enter Try.func7, Try.ntmps7
    go_upto_region 1 with fail
    rw [← hw1, ← hrc]
    clear hw1 hrc
    go_wp2_with fail
    refine HF.out.mono ?_
    rintro e w' ⟨rfl, h⟩
    have h3 := h.symm; clear h; subst h3
    go_wp2_with fail
    refine (HRF.out _ _).mono ?_
    rintro e w3 ⟨rfl, hq⟩
    have HQ := Vx.hid hq
    obtain ⟨z0, z1, z2, z3, z4, z5, z6, z7, z8, z9, z10, zf, zl⟩ := HZ.out w3 (hq.mono (fun _ _ h => h.elim))
    clear hq
    go_wp2_with fail
    refine bodyPost_ret (v := ocV (oErr 6)) ?_ rfl ⟨by rw [HRS.out], ?_⟩
    · simp [results, Try.results7, go_sem, ocV, oErr, ms0, z0, z1, z2, z3, z4, z5, z6, z7, z8, z9, z10]
    · rw [HSS.out]; exact HFQ.out _ _ HQ.out (only_set11 _ _ _ _ _ _ _ _ _ _ _ _ _)
  · obtain ⟨⟨i, hpi, hbl⟩, _⟩ := bfind_yes hf0 0
    obtain ⟨hpl, hp1, hp2, hp3, hpL, hp5⟩ := h1.place hpi
    have hqu := h1.queue hpi hpl
    have hbe := bell_some hpi hbl
    rw [hf0] at HF
    cases hf : aF s.ws n with
    | some j =>
      obtain ⟨hjl, r, hln, hat⟩ := lineL_some hf
      rw [hln] at hqu
      have HFI := Vx.hid (ifirst_cons hqu)
      have hjt := tF_at_idx hb.nt hjl
      obtain ⟨hx1, hx2, hwa, hx4, hV, hx6⟩ := h1.waiter hjt
      have b2 := hV.c2
      have HRS : Hid (ringR s n b = oBdg (wAt s j).thr b) := by show _ = _; unfold ringR; rw [hbe]; dsimp only; rw [hf]
      have HSS : Hid (ringS s n b = ⟨s.ps, cuI s.ws j⟩) := by show _ = _; unfold ringS; rw [hbe]; dsimp only; rw [hf]
      have HLV := Vx.hid (bleave_ok h1 hb hjt)
      rw [hwa] at HRS HLV
      have HHD := Vx.hid (fun wv => xheard_ok wv s.ws[j].thr b)
      generalize GP n = gp at HF HFI
      generalize GW s.ws[j].thr = gw at HFI HLV
      generalize s.ws[j] = x at HRS HLV HHD
      clear h1 hf0 hbe hb hn hgu1 HX hpi hbl hp1 hp2 hp3 hpL hp5 hqu hf hwa hx1 hx2 hx4 hV hx6 hjt hln hat b2
      clear hpl hjl
      obtain ⟨ya, yt, yh, ⟨y0, y1, y2, y3, y4, y5⟩⟩ := x
      dsimp only at HLV HRS HHD
      go_enter Try.func7, Try.ntmps7
      go_upto_region 1 with fail
      rw [← hw1, ← hrc]
      clear hw1 hrc
      go_wp2_with fail
      refine HF.out.mono ?_
      rintro e w' ⟨rfl, h⟩
      have h3 := h.symm; clear h; subst h3
      go_wp2_with fail
      refine HFI.out.mono ?_
      rintro e w' ⟨rfl, h⟩
      have h3 := h.symm; clear h; subst h3
      go_wp2_with fail
      refine HLV.out.mono ?_
      rintro e w3 ⟨⟨x, rfl⟩, hr, ho, hwt⟩
      obtain ⟨v0, v1, v2, v3, v4, v5, v6, v7, v8, vf⟩ := v9_of hwt
      dsimp only at v0
      have HEN : Hid (∀ w5, Only (fun _ => False) w3 w5 → Z11 w5 rc ∧ XbX (Up U w w1) w5 xb ⟨s.ps, cuI s.ws j⟩ ∧ Only (fun k => ¬ Up U w w1 k) w1 w5) := fun w5 h5 => by
        have h6 : Only (fun k => ¬ Up U w w1 k) w1 w5 := ho.trans (h5.mono (fun _ _ h => h.elim))
        exact ⟨HZ.out w5 h6, hr.quiet h5, h6⟩
      clear hr ho hwt v1 v2 v3 v4 v5 v6 v7 v8 vf
      go_wp2_with fail
      refine (HHD.out _).mono ?_
      rintro e w5 ⟨rfl, hq⟩
      obtain ⟨⟨z0, z1, z2, z3, z4, z5, z6, z7, z8, z9, z10, zf, zl⟩, hR⟩ := HEN.out w5 hq
      have HR := Vx.hid hR
      clear hq hR
      go_wp2_with fail
      refine bodyPost_ret (v := ocV (oBdg yt b)) ?_ rfl ⟨by rw [HRS.out], ?_⟩
      · simp [results, Try.results7, go_sem, ocV, oBdg, msB, z0, z1, z2, z3, z4, z5, z6, z7, z8, z9, z10]
      · rw [HSS.out]; exact HFC.out _ _ _ HR.out.1 HR.out.2 (only_set11 _ _ _ _ _ _ _ _ _ _ _ _ _)
    | none =>
      have hln := lineL_none hf
      rw [hln] at hqu
      have HFI := Vx.hid (ifirst_nil hqu)
      have HRS : Hid (ringR s n b = ⟨0, -1, ms0, false, false, false⟩) := by show _ = _; unfold ringR; rw [hbe]; dsimp only; rw [hf]
      have HSS : Hid (ringS s n b = setW s i (orW s.ps[i].word b)) := by show _ = _; unfold ringS; rw [hbe]; dsimp only; rw [hf]; dsimp only; rw [hp2]
      have b1 := hpL.c1
      have z2 := hpL.fz 1
      obtain ⟨hP, hO⟩ := h1.putW hb hpi (orW s.ps[i].word b)
      have hbw := hb.put hpl (orW s.ps[i].word b)
      generalize s.ps[i].word = wd at b1 HSS hP hO hbw
      generalize hgg : GP n = gp at HF HFI b1 z2 hP hO
      obtain ⟨w3, hw3⟩ : ∃ w3, w3 = w1.setCell ⟨gp, 1, none⟩ (.int .u32 (orW wd b)) := ⟨_, rfl⟩
      rw [← hw3] at hP hO
      have HR : Hid (XbX (Up U w w1) w3 xb (setW s i (orW wd b)) ∧ Only (fun k => ¬ Up U w w1 k) w1 w3) := ⟨⟨hbw, _, _, _, _, _, _, _, hP⟩, hO⟩
      obtain ⟨y0, y1, y2, y3, y4, y5, y6, y7, y8, y9, y10, zf, zl⟩ := HZ.out w3 hO
      rw [show orW wd b = bits .or .u32 wd b from rfl] at hw3
      have HSS2 : Hid (ringS s n b = setW s i (orW wd b)) := HSS.out
      clear h1 hf0 hbe hb hn hgu1 HX hpi hbl hp1 hp2 hp3 hpL hp5 hqu hf hln hP hO hbw HSS hgg
      clear hpl
      go_enter Try.func7, Try.ntmps7
      go_upto_region 1 with fail
      rw [← hw1, ← hrc]
      clear hw1 hrc
      go_wp2_with fail
      refine HF.out.mono ?_
      rintro e w' ⟨rfl, h⟩
      have h3 := h.symm; clear h; subst h3
      go_wp2_with fail
      refine HFI.out.mono ?_
      rintro e w' ⟨rfl, h⟩
      have h3 := h.symm; clear h; subst h3
      go_upto_region 9 with fail
      rw [← hw3]
      clear hw3
      go_wp2_with fail
      refine bodyPost_ret (v := ocV (⟨0, -1, ms0, false, false, false⟩)) ?_ rfl ⟨by rw [HRS.out], ?_⟩
      · simp [results, Try.results7, go_sem, ocV, ms0, y0, y1, y2, y3, y4, y5, y6, y7, y8, y9, y10]
      · rw [HSS2.out]; exact HFC.out _ _ _ HR.out.1 HR.out.2 (only_set11 _ _ _ _ _ _ _ _ _ _ _ _ _)
end Go.Proofs.Ytdpgdjpphnbfnaa

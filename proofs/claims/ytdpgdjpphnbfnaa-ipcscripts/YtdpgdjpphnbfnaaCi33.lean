import Derived.Test.YtdpgdjpphnbfnaaCi13
/- Chapter 10, the document's bus: Ring. -/
namespace Go.Proofs.Ytdpgdjpphnbfnaa
open Go.ChangeShapes Go.WideShapes Go.ChangeAt Go.RowKit
open Go.Vx
set_option linter.unusedVariables false
variable {U V S : Nat → Prop} {w w2 w3 : World} {rb : Nat} {vp vw : Value} {s : Bs}

theorem own_pc {base g m c : Nat} {T : TypeId} {xs : List Pc} (h : OwnL pcL w base T (.slice (some ⟨g, 0, none⟩) m c) xs) (hm : m = xs.length) (k : Nat) (hk : k < xs.length) (y : Int) :
    OwnL pcL (w.setCell ⟨g, k * 3 + 2, none⟩ (.int .u32 y)) base T (.slice (some ⟨g, 0, none⟩) m c) (xs.set k { xs[k] with word := y }) ∧ Only (fun b => b = g) w (w.setCell ⟨g, k * 3 + 2, none⟩ (.int .u32 y)) := by
  subst hm
  have h0 := (World.ownsRow.stored h (k * 3 + 2) (.int .u32 y)).1
  refine ⟨?_, Only.setCell (S := fun b => b = g) (Only.refl _ w) (Or.inl rfl) _⟩
  have hs : pcL.sz = 3 := rfl
  have hlen : (fl pcL xs).length = xs.length * 3 := length_fl pcL xs
  have hz : (fl pcL xs).set (k * 3 + 2) (.int .u32 y) = fl pcL (xs.set k { xs[k] with word := y }) := by
    refine fl_set pcL xs k _ hk _ (by simp) (fun i hi => ?_) (fun i hi => ?_)
    · have hi' : i < 3 := hi
      have h1 := get_fl pcL xs k i hk hi
      rw [hs] at h1 ⊢
      rw [List.getElem?_set]
      rcases (by omega : i = 0 ∨ i = 1 ∨ i = 2) with rfl | rfl | rfl
      · rw [if_neg (by omega), h1]; rfl
      · rw [if_neg (by omega), h1]; rfl
      · rw [if_pos rfl, if_pos (by rw [hlen]; omega)]; rfl
    · rw [hs] at hi
      rw [List.getElem?_set, if_neg (by omega)]
  rw [hz] at h0
  show World.ownsRow _ _ _ _ _ (xs.set k { xs[k] with word := y }).length _
  rw [List.length_set]
  exact h0
/-- A bell's word put anew. -/
theorem RbAt.putW {g m c : Nat} (h : RbAt U w rb (.slice (some ⟨g, 0, none⟩) m c) vw s) (hm : m = s.ps.length) (k : Nat) (hk : k < s.ps.length) (y : Int) :
    RbAt U (w.setCell ⟨g, k * 3 + 2, none⟩ (.int .u32 y)) rb (.slice (some ⟨g, 0, none⟩) m c) vw (setW s k y) ∧ Only (fun k => ¬ U k) w (w.setCell ⟨g, k * 3 + 2, none⟩ (.int .u32 y)) := by
  obtain ⟨h1, ho⟩ := own_pc h.p hm k hk y
  obtain ⟨cur, hc⟩ := own_tag h.p (k := g) rfl
  have hug : ¬ U g := h.up g rfl
  have e : (setW s k y).ps = s.ps.set k { s.ps[k] with word := y } := by unfold setW pAt; dsimp only; rw [getD_d hk]
  refine ⟨⟨Only.keep ho h.r (fun e => tag_ne hc h.r (by decide) e.symm), by rw [e]; exact h1, h.l.kept ho (fun j hj e => ?_), h.ur, h.up, h.ul, fun k hu => Nat.lt_of_lt_of_le (h.low k hu) ho.size, by rw [e, List.length_set]; exact h.np, h.nl⟩, ho.mono (fun j _ hj => by subst hj; exact hug)⟩
  obtain ⟨cur2, hc2⟩ := own_tag h.l hj
  exact tag_ne hc hc2 (by decide) e.symm
set_option maxRecDepth 100000 in
set_option maxHeartbeats 4000000 in
theorem rring_ok (h : RbAt U w rb vp vw s) (n b : Int) : Calls Try.prog 28 #[.pointer (some ⟨rb, 0, none⟩), .int .i64 n, .int .u32 b] w fun e w' => e = .returned (ocV (ringR s n b)) ∧ RbX U w' rb (ringS s n b) ∧ Only (fun k => ¬ U k) w w' := by
  obtain ⟨w1, hw1⟩ : ∃ w1, w1 = w.alloc (.cells #[.int .i64 0, .int .i64 0, .int .u32 0, .int .u32 0, .int .u32 0, .int .u32 0, .int .u32 0, .int .u32 0, .bool false, .bool false, .bool false] 37) := ⟨_, rfl⟩
  obtain ⟨rc, hrc⟩ : ∃ rc, rc = w.heap.size := ⟨_, rfl⟩
  have ho1 : Only (fun _ => False) w w1 := by rw [hw1]; exact (Only.refl _ w).alloc _
  have hz1 : w1.heap[rc]? = some (.cells oc0A 37 (0, 0)) := by rw [hw1, hrc]; exact heap_alloc_last w _
  have hrl : w.heap.size ≤ rc := by omega
  have hrh := lt_of_some hz1
  have h1 := h.lift ho1
  have HH := Vx.hid h1
  have HZ : Hid (∀ w3, Only (fun k => ¬ Up U w w1 k) w1 w3 → Z11 w3 rc) := fun w3 h3 => z11_of (up_keep h3 hz1 hrl)
  have HFC : Hid (∀ s2 w3 w7, RbX (Up U w w1) w3 rb s2 → Only (fun k => ¬ Up U w w1 k) w1 w3 → Only (fun k => k = rc) w3 w7 → RbX U w7 rb s2 ∧ Only (fun k => ¬ U k) w w7) := fun s2 w3 w7 a1 a2 a3 => up_out (rb_steps rb s2) a1 ho1 a2 hrl hrh a3
  have HFQ : Hid (∀ w3 w7, Only (fun _ => False) w1 w3 → Only (fun k => k = rc) w3 w7 → RbX U w7 rb s ∧ Only (fun k => ¬ U k) w w7) := fun w3 w7 a1 a2 => HFC.out s w3 w7 ⟨_, _, HH.out.quiet a1⟩ (a1.mono (fun _ _ h => h.elim)) a2
  have HRF : Hid (∀ wv e, Calls Try.prog 44 #[.int .i64 e] wv fun x w' => x = .returned (.agg #[.int .i64 e, .int .i64 (-1), .int .u32 0, .int .u32 0, .int .u32 0, .int .u32 0, .int .u32 0, .int .u32 0, .bool false, .bool false, .bool false]) ∧ Only (fun _ => False) wv w') := fun wv e => refused_ok wv e
  clear ho1 hz1 hrl hrh h
  cases hi : pF s.ps n with
  | none =>
    have HP := Vx.hid (place_none h1 hi)
    have HRS : Hid (ringR s n b = oErr 6) := by show _ = _; unfold ringR; rw [bell_none hi]
    have HSS : Hid (ringS s n b = s) := by show _ = _; unfold ringS; rw [bell_none hi]
    clear h1 hi
    go_enter Try.func28, Try.ntmps28
    go_upto_region 1 with fail
    rw [← hw1, ← hrc]
    clear hw1 hrc
    go_wp2_with fail
    refine HP.out.mono ?_
    rintro e w' ⟨rfl, h⟩
    have h3 := h.symm; clear h; subst h3
    go_wp2_with fail
    refine (HRF.out _ _).mono ?_
    rintro e w3 ⟨rfl, hq⟩
    have HQ := Vx.hid hq
    obtain ⟨z0, z1, z2, z3, z4, z5, z6, z7, z8, z9, z10, zf, zl⟩ := HZ.out w3 (hq.mono (fun _ _ h => h.elim))
    clear hq
    go_wp2_with fail
    refine bodyPost_ret (v := ocV (oErr 6)) ?_ rfl ⟨by rw [HRS.out], ?_⟩
    · simp [results, Try.results28, go_sem, ocV, oErr, ms0, z0, z1, z2, z3, z4, z5, z6, z7, z8, z9, z10]
    · rw [HSS.out]; exact HFQ.out _ _ HQ.out (only_set11 _ _ _ _ _ _ _ _ _ _ _ _ _)
  | some i =>
    have HP := Vx.hid (place_some h1 hi)
    obtain ⟨hl, g, c, hv, hg, hp, hnn⟩ := h1.place hi
    have c0 := h1.c0
    rw [hv] at c0
    have b1 := hg.c1
    obtain ⟨N, hN⟩ : ∃ N, N = s.ps.length := ⟨_, rfl⟩
    rw [← hN] at c0 hv
    have hidx : 0 ≤ (i : Int) ∧ (i : Int) < (N : Int) := by omega
    have hneg : ¬ (i : Int) < 0 := by omega
    clear hnn
    cases hb : s.ps[i].bell with
    | false =>
      have hbe := bell_end hi (by rw [hp]; exact hb)
      have HRS : Hid (ringR s n b = oErr 6) := by show _ = _; unfold ringR; rw [hbe]
      have HSS : Hid (ringS s n b = s) := by show _ = _; unfold ringS; rw [hbe]
      rw [hb] at b1
      clear h1 hi hv hg hp hN hb hbe hl
      go_enter Try.func28, Try.ntmps28
      go_upto_region 1 with fail
      rw [← hw1, ← hrc]
      clear hw1 hrc
      go_wp2_with fail
      refine HP.out.mono ?_
      rintro e w' ⟨rfl, h⟩
      have h3 := h.symm; clear h; subst h3
      go_wp2_with fail
      refine (HRF.out _ _).mono ?_
      rintro e w3 ⟨rfl, hq⟩
      have HQ := Vx.hid hq
      obtain ⟨z0, z1, z2, z3, z4, z5, z6, z7, z8, z9, z10, zf, zl⟩ := HZ.out w3 (hq.mono (fun _ _ h => h.elim))
      clear hq
      go_wp2_with fail
      refine bodyPost_ret (v := ocV (oErr 6)) ?_ rfl ⟨by rw [HRS.out], ?_⟩
      · simp [results, Try.results28, go_sem, ocV, oErr, ms0, z0, z1, z2, z3, z4, z5, z6, z7, z8, z9, z10]
      · rw [HSS.out]; exact HFQ.out _ _ HQ.out (only_set11 _ _ _ _ _ _ _ _ _ _ _ _ _)
    | true =>
      have hbe := bell_some hi (by rw [hp]; exact hb)
      rw [hb] at b1
      cases hf : aF s.ws n with
      | some j =>
        have HFI := Vx.hid (first_some h1 hf)
        obtain ⟨hil, hat⟩ := aF_at hf
        have HDR := Vx.hid (drop_ok h1 j hil)
        have HRS : Hid (ringR s n b = oBdg (wAt s j).thr b) := by show _ = _; unfold ringR; rw [hbe]; dsimp only; rw [hf]
        have HSS : Hid (ringS s n b = ⟨s.ps, cuI s.ws j⟩) := by show _ = _; unfold ringS; rw [hbe]; dsimp only; rw [hf]
        have hge : 0 ≤ (j : Int) := by omega
        generalize wAt s j = x at HDR HRS
        obtain ⟨ya, yt, yh, ⟨y0, y1, y2, y3, y4, y5⟩⟩ := x
        unfold wtV at HDR
        dsimp only at HDR HRS
        clear h1 hi hv hg hp hN hb hbe hl hf hat hil
        go_enter Try.func28, Try.ntmps28
        go_upto_region 1 with fail
        rw [← hw1, ← hrc]
        clear hw1 hrc
        go_wp2_with fail
        refine HP.out.mono ?_
        rintro e w' ⟨rfl, h⟩
        have h3 := h.symm; clear h; subst h3
        go_wp2_with fail
        refine HFI.out.mono ?_
        rintro e w' ⟨rfl, h⟩
        have h3 := h.symm; clear h; subst h3
        go_wp2_with fail
        refine HDR.out.mono ?_
        rintro e w3 ⟨rfl, hr, ho⟩
        have HR := Vx.hid (⟨hr, ho⟩ : _ ∧ _)
        obtain ⟨z0, z1, z2, z3, z4, z5, z6, z7, z8, z9, z10, zf, zl⟩ := HZ.out w3 ho
        clear hr ho c0 b1
        go_wp2_with fail
        refine bodyPost_ret (v := ocV (oBdg yt b)) ?_ rfl ⟨by rw [HRS.out], ?_⟩
        · simp [results, Try.results28, go_sem, ocV, oBdg, msB, zl, z0, z1, z2, z3, z4, z5, z6, z7, z8, z9, z10]
        · rw [HSS.out]; exact HFC.out _ _ _ HR.out.1 HR.out.2 (Only.alloc (only_set11 _ _ _ _ _ _ _ _ _ _ _ _ _) _)
      | none =>
        have HFI := Vx.hid (first_none h1 hf)
        have HRS : Hid (ringR s n b = ⟨0, -1, ms0, false, false, false⟩) := by show _ = _; unfold ringR; rw [hbe]; dsimp only; rw [hf]
        have HSS : Hid (ringS s n b = setW s i (orW s.ps[i].word b)) := by show _ = _; unfold ringS; rw [hbe]; dsimp only; rw [hf]; dsimp only; rw [hp]
        have b2 := hg.c2
        subst hv
        have z2 := h1.p.fz (i * 3 + 2)
        obtain ⟨hP, hO⟩ := h1.putW hN i hl (orW s.ps[i].word b)
        generalize s.ps[i].word = wd at b2 HSS hP hO
        obtain ⟨w3, hw3⟩ : ∃ w3, w3 = (w1.setCell ⟨g, i * 3 + 2, none⟩ (.int .u32 (orW wd b))).drew := ⟨_, rfl⟩
        have ho3 : Only (fun k => ¬ Up U w w1 k) w1 w3 := by rw [hw3]; exact hO.drew
        have HR : Hid (RbX (Up U w w1) w3 rb (setW s i (orW wd b)) ∧ Only (fun k => ¬ Up U w w1 k) w1 w3) := ⟨⟨_, _, by rw [hw3]; exact hP.quiet ((Only.refl _ _).drew)⟩, ho3⟩
        obtain ⟨y0, y1, y2, y3, y4, y5, y6, y7, y8, y9, y10, zf, zl⟩ := HZ.out w3 ho3
        rw [show orW wd b = bits .or .u32 wd b from rfl] at hw3
        have HSS2 : Hid (ringS s n b = setW s i (orW wd b)) := HSS.out
        clear h1 hi hg hp hN hb hbe hl hf hP hO ho3 HSS
        go_enter Try.func28, Try.ntmps28
        go_upto_region 1 with fail
        rw [← hw1, ← hrc]
        clear hw1 hrc
        go_wp2_with fail
        refine HP.out.mono ?_
        rintro e w' ⟨rfl, h⟩
        have h3 := h.symm; clear h; subst h3
        go_wp2_with fail
        refine HFI.out.mono ?_
        rintro e w' ⟨rfl, h⟩
        have h3 := h.symm; clear h; subst h3
        go_upto_region 8 with fail
        go_region
        all_goals
          rw [← hw3]
          clear hw3
          go_wp2_with fail
          refine bodyPost_ret (v := ocV (⟨0, -1, ms0, false, false, false⟩)) ?_ rfl ⟨by rw [HRS.out], ?_⟩
          · simp [results, Try.results28, go_sem, ocV, ms0, y0, y1, y2, y3, y4, y5, y6, y7, y8, y9, y10]
          · rw [HSS2.out]; exact HFC.out _ _ _ HR.out.1 HR.out.2 (only_set11 _ _ _ _ _ _ _ _ _ _ _ _ _)
end Go.Proofs.Ytdpgdjpphnbfnaa

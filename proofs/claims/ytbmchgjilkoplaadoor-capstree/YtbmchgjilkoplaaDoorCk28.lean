import Derived.Test.YtbmchgjilkoplaaDoorCk27
/- Chapter 7, the program's store: a place put anew; Set, Put. -/
namespace Go.Proofs.YtbmchgjilkoplaaDoor
open Go.ChangeShapes Go.WideShapes Go.ChangeAt Go.RowKit
open Go.Vx
set_option linter.unusedVariables false
variable {U : Nat → Prop} {w : World} {xb mb : Nat} {D : DataW Value} {G : Int → Nat} {bs : List (Int × Int)} {es : List En} {Q : Sl → Pl}

theorem map_ne {w : World} {j k : Nat} {c : Array Value} {t : TypeId} {fr : Nat × Nat} {n : Nat} {E : DataW Value} (h : w.heap[j]? = some (.cells c t fr)) (h2 : w.ownsMap Tryd.prog 3 RH k n E) : j ≠ k := by
  obtain ⟨es, clock, hb, _⟩ := h2
  rintro rfl
  rw [h] at hb
  cases hb
theorem XsAt.sep (h : XsAt U w xb mb D G bs Q) {b : Int} (hb : (sizeF bs b).isSome = true) : G b ≠ 0 ∧ G b ≠ xb ∧ G b ≠ mb ∧ ∀ c, (sizeF bs c).isSome = true → c ≠ b → G c ≠ G b := by
  obtain ⟨n, hn⟩ := Option.isSome_iff_exists.1 hb
  obtain ⟨cur, hc⟩ := own_tag (h.bl b n hn) (k := G b) rfl
  exact ⟨tag_ne hc h.ns (by decide), tag_ne hc h.x (by decide), map_ne hc h.m, fun c hc2 hne e => hne (h.gi c b hc2 hb e)⟩
/-- One place put anew. -/
theorem XsAt.put {w3 : World} (h : XsAt U w xb mb D G bs Q) {b n : Int} (hn : sizeF bs b = some n) (k : Nat) (p : Pl) (hw : OwnL plL w3 0 105 (.slice (some ⟨G b, 0, none⟩) n.toNat n.toNat) ((rowQ Q b n.toNat).set k p)) (ho : Only (fun j => j = G b) w w3) : XsAt U w3 xb mb D G bs (setQ Q (b, (k : Int)) p) ∧ Only (fun j => ¬ U j) w w3 := by
  have hb : (sizeF bs b).isSome = true := by rw [hn]; rfl
  obtain ⟨g0, g1, g2, g3⟩ := h.sep hb
  have hm : w3.ownsMap Tryd.prog 3 RH mb bs.length D := by
    have hml := h.m.lt
    obtain ⟨e, clock, hb, F, hs, hD⟩ := h.m
    exact ⟨e, clock, (ho.block mb hml (fun e => g2 e.symm)).trans hb, F, hs, hD⟩
  refine ⟨⟨by rw [ho.block _ (lt_of_some h.ns) (fun e => g0 e.symm)]; exact h.ns, by rw [ho.block xb (lt_of_some h.x) (fun e => g1 e.symm)]; exact h.x, hm, h.hs, h.ha, fun c m hm => ?_, h.gi, h.un, h.ux, h.um, h.ug, fun j hj => Nat.lt_of_lt_of_le (h.low j hj) ho.size, h.bn, h.nd, h.ib, h.nb⟩, ho.mono (fun j _ hj => by subst hj; exact h.ug b hb)⟩
  by_cases hc : c = b
  · subst hc
    rw [hn] at hm
    injection hm with hm
    subst hm
    rw [rowQ_setQ]
    exact hw
  · rw [rowQ_other Q b c _ _ p hc]
    refine (h.bl c m hm).kept ho (fun j hj => ?_)
    have : G c = j := by simpa [Value.ownBlock] using hj
    rw [← this]
    exact g3 c (by rw [hm]; rfl) hc
theorem XsAt.same {Q2 : Sl → Pl} (h : XsAt U w xb mb D G bs Q) (hq : ∀ s, Q s = Q2 s) : XsAt U w xb mb D G bs Q2 := by
  have : Q = Q2 := funext hq
  rw [← this]; exact h
theorem bl_fz (h : XsAt U w xb mb D G bs Q) {b n : Int} (hn : sizeF bs b = some n) : ∀ j, w.frozen? ⟨G b, j, none⟩ = false := fun j => (h.bl b n hn).fz j
set_option maxHeartbeats 1000000 in
theorem xset_ok (hc : XcAt U w xb bs es) (s : Sl) (hb : I64 s.1) (cp : Cp) (hg : GuOk cp) : Calls Tryd.prog 32 #[.pointer (some ⟨xb, 0, none⟩), .agg #[.int .i64 s.1, .int .i64 s.2], .agg #[.int .i64 cp.kind, .int .i64 cp.num, .int .i64 cp.rights, .int .u32 cp.badge, .int .u32 cp.guard, .int .i64 cp.gbits, .int .i64 cp.root, .int .u32 cp.va]] w fun e w' => e = .returned (.int .i64 (setE bs es s cp)) ∧ XcAt U w' xb bs (setL bs es s cp) ∧ Only (fun k => ¬ U k) w w' := by
  obtain ⟨mb, D, G, h, hf, hx, hl⟩ := hc
  have HO : Hid (∀ o p, Only (fun _ => False) w ((w.alloc o).alloc p)) := fun o p => ((Only.refl _ w).alloc _).alloc _
  have HX := Vx.hid h
  rcases h.full hf hx s hb with ⟨k, n, i, hk, hn, hlt, hfi, hkd, hcall⟩ | ⟨er, hfi, her, hcall⟩
  · obtain ⟨hi, hE, hp⟩ := plF_full hf hfi
    have HS := Vx.hid (plF_set hf hfi (c := cp) hg)
    have HW := Vx.hid (⟨hf.set s cp hg, hx.set s cp⟩ : _ ∧ _)
    have HLn : Hid ((setL bs es s cp).length = es.length) := by
      show (setL bs es s cp).length = es.length
      unfold setL; rw [hfi]; dsimp only
      split
      · simp
      · rfl
    have HL := Vx.hid hl
    have HE : Hid (setE bs es s cp = if sameO (plF es s).1 cp = true then 0 else 12) := by show setE bs es s cp = _; unfold setE; rw [hfi, hp]; dsimp only; rw [getD_at es i hi]
    have HN0 : Hid (sameO (plF es s).1 cp = false → setL bs es s cp = es) := by
      intro h0
      unfold setL; rw [hfi]; dsimp only
      rw [hp] at h0
      rw [getD_at es i hi, h0]; rfl
    have HS2 : Hid (sameO (plF es s).1 cp = true → ∀ t, plF (setL bs es s cp) t = setQ (plF es) s (cp, (plF es s).2) t) := by
      intro h0 t
      refine HS.out ?_ t
      rw [getD_at es i hi]
      rw [hp] at h0
      exact h0
    have HP : Hid (∀ w2, Only (fun _ => False) w w2 → P10 w2 (G s.1) k (plF es s)) := fun w2 ho => by
      have := (h.quiet ho).p10 hn k hlt
      rw [← hk] at this
      exact this
    have HNN := Vx.hid (⟨hn, hlt⟩ : _ ∧ _)
    have HC := Vx.hid hcall
    have HWX := Vx.hid (⟨hf, hx⟩ : _ ∧ _)
    obtain ⟨s1, s2⟩ := s
    dsimp only at hk
    subst hk
    clear h hf hx hl hn hlt hfi hkd hcall hE hp hi hb HS hg
    obtain ⟨d0, d1, d2, d3, d4, d5, d6, d7⟩ := cp
    dsimp only at HC ⊢
    go_enter Tryd.func32, Tryd.ntmps32
    go_wp2_with fail
    refine (HC.out _ (HO.out _ _)).mono ?_
    rintro e w2 ⟨rfl, hq⟩
    have hO2 := (HO.out (.cells #[.int .i64 s1, .int .i64 (k : Int)] 62) (.cells #[.int .i64 d0, .int .i64 d1, .int .i64 d2, .int .u32 d3, .int .u32 d4, .int .i64 d5, .int .i64 d6, .int .u32 d7] 66)).trans hq
    have hz := new_second hq
    have HO2 := Vx.hid hO2
    obtain ⟨⟨z0, z1, z2, z3, z4, z5, z6, z7⟩, zf⟩ := cap_cells hz
    obtain ⟨k0, k1, k2, k3, k4, k5, k6, k7, _, _⟩ := HP.out w2 hO2
    have H2 := Vx.hid (HX.out.quiet hO2)
    have HB := Vx.hid (H2.out.bl s1 n HNN.out.1)
    have gf := bl_fz H2.out HNN.out.1
    obtain ⟨rc, hrc⟩ : ∃ rc, rc = w.heap.size + 1 := ⟨_, rfl⟩
    rw [← hrc] at z0 z1 z2 z3 z4 z5 z6 z7 zf hz ⊢
    have HZ := Vx.hid hz
    clear hq hO2 HO hrc HC HP HX hz
    generalize hcp : (plF es (s1, (k : Int))).1 = cq at k0 k1 k2 k3 k4 k5 k6 k7 HE HN0 HS2
    obtain ⟨f0, f1, f2, f3, f4, f5, f6, f7⟩ := cq
    dsimp only at k0 k1 k2 k3 k4 k5 k6 k7
    by_cases h0 : d0 = f0
    · subst h0
      by_cases h1 : d1 = f1
      · subst h1
        have HSO : Hid (sameO ⟨d0, d1, f2, f3, f4, f5, f6, f7⟩ ⟨d0, d1, d2, d3, d4, d5, d6, d7⟩ = true) := decide_eq_true ⟨rfl, rfl⟩
        go_wp2_with fail
        go_quiet (fail)
        go_wp2_with fail
        go_ret
        have H3 := H2.out.quiet ((Only.refl _ w2).drewN nq)
        have hkl : k < (rowQ (plF es) s1 n.toNat).length := by rw [rowQ_len]; have := HNN.out.2; omega
        obtain ⟨hw, ho⟩ := pl_cap (H3.bl s1 n HNN.out.1) (rowQ_len _ _ _).symm k hkl ⟨d0, d1, d2, d3, d4, d5, d6, d7⟩
        rw [rowQ_at] at hw
        obtain ⟨h4, h5⟩ := H3.put HNN.out.1 k _ hw ho
        exact ⟨by rw [HE.out, HSO.out]; rfl, ⟨mb, D, G, h4.same (fun t => (HS2.out HSO.out t).symm), HW.out.1, HW.out.2, by rw [HLn.out]; exact HL.out⟩, (HO2.out.mono (fun _ _ h => h.elim)).trans (((Only.refl _ w2).drewN nq).trans h5)⟩
      · have HSO : Hid (sameO ⟨d0, f1, f2, f3, f4, f5, f6, f7⟩ ⟨d0, d1, d2, d3, d4, d5, d6, d7⟩ = false) := decide_eq_false (fun h => h1 h.2.symm)
        have h2 : (d1 == f1) = false := beq_eq_false_iff_ne.2 h1
        go_wp2_with fail
        go_quiet (fail)
        go_wp2_with fail
        all_goals
          go_ret
          exact ⟨by rw [HE.out, HSO.out]; rfl, by rw [HN0.out HSO.out]; exact ⟨mb, D, G, H2.out.quiet (by repeat' (first | exact Only.refl _ _ | refine Only.drewN ?_ _ | refine Only.drew ?_)), HWX.out.1, HWX.out.2, HL.out⟩, (HO2.out.mono (fun _ _ h => h.elim)).trans (by repeat' (first | exact Only.refl _ _ | refine Only.drewN ?_ _ | refine Only.drew ?_))⟩
    · have HSO : Hid (sameO ⟨f0, f1, f2, f3, f4, f5, f6, f7⟩ ⟨d0, d1, d2, d3, d4, d5, d6, d7⟩ = false) := decide_eq_false (fun h => h0 h.1.symm)
      have h2 : (d0 == f0) = false := beq_eq_false_iff_ne.2 h0
      go_wp2_with fail
      go_quiet (fail)
      go_wp2_with fail
      all_goals
        go_ret
        exact ⟨by rw [HE.out, HSO.out]; rfl, by rw [HN0.out HSO.out]; exact ⟨mb, D, G, H2.out.quiet (by repeat' (first | exact Only.refl _ _ | refine Only.drewN ?_ _ | refine Only.drew ?_)), HWX.out.1, HWX.out.2, HL.out⟩, (HO2.out.mono (fun _ _ h => h.elim)).trans (by repeat' (first | exact Only.refl _ _ | refine Only.drewN ?_ _ | refine Only.drew ?_))⟩
  · have HE : Hid (setE bs es s cp = er) := by show setE bs es s cp = _; unfold setE; rw [hfi]
    have HR : Hid (∀ w2, Only (fun _ => False) w w2 → XcAt U w2 xb bs (setL bs es s cp)) := fun w2 h2 => by
      have : setL bs es s cp = es := by unfold setL; rw [hfi]
      rw [this]
      exact ⟨mb, D, G, h.quiet h2, hf, hx, hl⟩
    have her2 : (er == 0) = false := beq_eq_false_iff_ne.2 her
    have her3 : (er != 0) = true := by simp [bne, her2]
    have HC := Vx.hid hcall
    obtain ⟨s1, s2⟩ := s
    clear h hf hx hl hfi hcall hb her HX hg
    obtain ⟨d0, d1, d2, d3, d4, d5, d6, d7⟩ := cp
    dsimp only at HC ⊢
    go_enter Tryd.func32, Tryd.ntmps32
    go_wp2_with fail
    refine (HC.out _ (HO.out _ _)).mono ?_
    rintro e w2 ⟨rfl, hq⟩
    have HO2 := Vx.hid ((HO.out (.cells #[.int .i64 s1, .int .i64 s2] 62) (.cells #[.int .i64 d0, .int .i64 d1, .int .i64 d2, .int .u32 d3, .int .u32 d4, .int .i64 d5, .int .i64 d6, .int .u32 d7] 66)).trans hq)
    clear hq HO HC
    go_wp2_with fail
    all_goals
      go_ret
      exact ⟨by rw [HE.out]; try rfl, HR.out _ HO2.out, HO2.out.mono (fun _ _ h => h.elim)⟩
end Go.Proofs.YtbmchgjilkoplaaDoor

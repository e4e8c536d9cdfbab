import Derived.Test.YtbmchgjilkoplaaDoorCk28
/- Chapter 7, the program's store: Put. -/
namespace Go.Proofs.YtbmchgjilkoplaaDoor
open Go.ChangeShapes Go.WideShapes Go.ChangeAt Go.RowKit
open Go.Vx
set_option linter.unusedVariables false
variable {U : Nat → Prop} {w : World} {xb mb : Nat} {D : DataW Value} {G : Int → Nat} {bs : List (Int × Int)} {es : List En} {Q : Sl → Pl}

theorem new_three {w w2 : World} {a b c : Obj} (h : Only (fun _ => False) (((w.alloc a).alloc b).alloc c) w2) : w2.heap[w.heap.size]? = some a ∧ w2.heap[w.heap.size + 1]? = some b ∧ w2.heap[w.heap.size + 1 + 1]? = some c := by
  have h3 : (((w.alloc a).alloc b).alloc c).heap[w.heap.size + 1 + 1]? = some c := by
    have := heap_alloc_last ((w.alloc a).alloc b) c
    simpa using this
  have h2 : (((w.alloc a).alloc b).alloc c).heap[w.heap.size + 1]? = some b := by
    have h1 := heap_alloc_last (w.alloc a) b
    rw [RowKit.Below.heap_alloc _ _ _ (by simp)]
    simpa using h1
  have h1 : (((w.alloc a).alloc b).alloc c).heap[w.heap.size]? = some a := by
    rw [RowKit.Below.heap_alloc _ _ _ (by simp; omega), RowKit.Below.heap_alloc _ _ _ (by simp)]
    exact heap_alloc_last w a
  exact ⟨(h.block _ (lt_of_some h1) (fun h => h)).trans h1, (h.block _ (lt_of_some h2) (fun h => h)).trans h2, (h.block _ (lt_of_some h3) (fun h => h)).trans h3⟩
theorem put_free {a f : Sl} {c : Cp} (hk : ¬ (c.kind < 1 ∨ 10 < c.kind)) (he : freeF bs es a ≠ 0) : putE bs es a c f = freeF bs es a := by unfold putE; rw [if_neg hk, if_neg he]
theorem put_none {a f : Sl} {c : Cp} (hk : ¬ (c.kind < 1 ∨ 10 < c.kind)) (he : freeF bs es a = 0) (hf : f.1 = -1) : putE bs es a c f = 0 := by unfold putE; rw [if_neg hk, if_pos he, if_pos hf]
theorem put_from {a f : Sl} {c : Cp} (hk : ¬ (c.kind < 1 ∨ 10 < c.kind)) (he : freeF bs es a = 0) (hf : f.1 ≠ -1) : putE bs es a c f = fullE (fullF bs es f) := by unfold putE; rw [if_neg hk, if_pos he, if_neg hf]
theorem put_keep {a f : Sl} {c : Cp} (h : putE bs es a c f ≠ 0) : putL bs es a c f = es := by unfold putL; rw [if_neg h]
theorem ins_len (es : List En) (x : En) : (insF es x).length = es.length + 1 := insK_len es x _
theorem put_len (a f : Sl) (c : Cp) : (putL bs es a c f).length ≤ es.length + 1 := by
  unfold putL
  split
  · rw [ins_len]; exact Nat.le_refl _
  · omega
set_option maxHeartbeats 2000000 in
theorem xput_ok (hc : XcAt U w xb bs es) (a : Sl) (c : Cp) (f : Sl) (ha : I64 a.1) (hfi : I64 f.1) (hnm : I64 c.num) (hg : GuOk c) (hlen : es.length < 1000000) : Calls Tryd.prog 28 #[.pointer (some ⟨xb, 0, none⟩), .agg #[.int .i64 a.1, .int .i64 a.2], .agg #[.int .i64 c.kind, .int .i64 c.num, .int .i64 c.rights, .int .u32 c.badge, .int .u32 c.guard, .int .i64 c.gbits, .int .i64 c.root, .int .u32 c.va], .agg #[.int .i64 f.1, .int .i64 f.2]] w fun e w' => e = .returned (.int .i64 (putE bs es a c f)) ∧ XcAt U w' xb bs (putL bs es a c f) ∧ Only (fun k => ¬ U k) w w' := by
  obtain ⟨mb, D, G, h, hf, hx, hl⟩ := hc
  have HO : Hid (∀ o p q, Only (fun _ => False) w (((w.alloc o).alloc p).alloc q)) := fun o p q => (((Only.refl _ w).alloc _).alloc _).alloc _
  have HX := Vx.hid h
  have HR : Hid (putE bs es a c f ≠ 0 → ∀ w2, Only (fun _ => False) w w2 → XcAt U w2 xb bs (putL bs es a c f)) := fun hp w2 h2 => by
    rw [put_keep hp]
    exact ⟨mb, D, G, h.quiet h2, hf, hx, hl⟩
  by_cases hk : c.kind < 1 ∨ 10 < c.kind
  · have HE : Hid (putE bs es a c f = 12) := by show putE bs es a c f = 12; unfold putE; rw [if_pos hk]
    clear h hf hx hl HX hfi ha hnm hg hlen
    obtain ⟨a1, a2⟩ := a
    obtain ⟨f1, f2⟩ := f
    obtain ⟨d0, d1, d2, d3, d4, d5, d6, d7⟩ := c
    dsimp only at hk ⊢
    by_cases h1 : d0 < 1
    · clear hk
      go_enter Tryd.func28, Tryd.ntmps28
      go_wp2_with fail
      all_goals
        go_ret
        exact ⟨by rw [HE.out]; try rfl, HR.out (by rw [HE.out]; decide) _ (HO.out _ _ _), (HO.out _ _ _).mono (fun _ _ h => h.elim)⟩
    · have h2 : 10 < d0 := by omega
      clear hk
      go_enter Tryd.func28, Tryd.ntmps28
      go_wp2_with fail
      all_goals
        go_ret
        exact ⟨by rw [HE.out]; try rfl, HR.out (by rw [HE.out]; decide) _ (HO.out _ _ _), (HO.out _ _ _).mono (fun _ _ h => h.elim)⟩
  · rcases h.empty hf hx a ha with ⟨k, n, hka, hn, hlt, hfr, hkd, hcall⟩ | ⟨er, hfr, her, hcall⟩
    · have hkf : ∀ f2 : Sl, plF es a = zeroPl := fun _ => plF_none (free_none hfr).2
      have HN := Vx.hid (⟨hn, hlt⟩ : _ ∧ _)
      have k1 : ¬ c.kind < 1 := by omega
      have k2 : ¬ 10 < c.kind := by omega
      have HFIN : Hid (putE bs es a c f = 0 → ∀ w3 w4, XsAt U w3 xb mb D G bs (plF es) → Only (fun j => ¬ U j) w w3 → OwnL plL w4 0 105 (.slice (some ⟨G a.1, 0, none⟩) n.toNat n.toNat) ((rowQ (plF es) a.1 n.toNat).set k (c, fromN f)) → Only (fun j => j = G a.1) w3 w4 → XcAt U w4 xb bs (putL bs es a c f) ∧ Only (fun j => ¬ U j) w w4) := fun hp w3 w4 hX hO hw ho => by
        obtain ⟨h4, h5⟩ := hX.put hn k (c, fromN f) hw ho
        refine ⟨⟨mb, D, G, h4.same (fun t => ?_), hf.put a c f hg, hx.put a c f hnm, Nat.le_trans (put_len a f c) hlen⟩, hO.trans h5⟩
        rw [plF_put hf hx hg hp]
        unfold setQ
        have : (a.1, (k : Int)) = a := Prod.ext rfl hka.symm
        rw [this]
      by_cases hm : f.1 = -1
      · have HE : Hid (putE bs es a c f = 0) := put_none hk hfr hm
        have HFR : Hid (fromN f = (-1, -1)) := by show fromN f = _; unfold fromN; rw [if_pos hm]
        have HC := Vx.hid hcall
        clear h hf hx hl hfi ha hnm hg hlen HR hfr hcall hk hkf hkd hn hlt
        obtain ⟨a1, a2⟩ := a
        obtain ⟨f1, f2⟩ := f
        dsimp only at hm hka
        subst hm
        subst hka
        obtain ⟨d0, d1, d2, d3, d4, d5, d6, d7⟩ := c
        dsimp only at k1 k2 HC HN HFIN ⊢
        go_enter Tryd.func28, Tryd.ntmps28
        go_wp2_with fail
        refine (HC.out _ (HO.out _ _ _)).mono ?_
        rintro e w2 ⟨rfl, hq⟩
        have hO2 := (HO.out (.cells #[.int .i64 a1, .int .i64 (k : Int)] 62) (.cells #[.int .i64 d0, .int .i64 d1, .int .i64 d2, .int .u32 d3, .int .u32 d4, .int .i64 d5, .int .i64 d6, .int .u32 d7] 66) (.cells #[.int .i64 (-1), .int .i64 f2] 62)).trans hq
        obtain ⟨_, hz, hy⟩ := new_three hq
        have H2 := Vx.hid (HX.out.quiet hO2)
        obtain ⟨⟨z0, z1, z2, z3, z4, z5, z6, z7⟩, zf⟩ := cap_cells hz
        obtain ⟨⟨y0, y1⟩, yf⟩ := slot_cells hy
        obtain ⟨⟨n0, n1⟩, _⟩ := slot_cells H2.out.ns
        obtain ⟨q0, q1, q2, q3, q4, q5, q6, q7, q8, q9⟩ := H2.out.p10 HN.out.1 k HN.out.2
        have gf := bl_fz H2.out HN.out.1
        have hne1 : G a1 ≠ w.heap.size + 1 + 1 := by
          have := HX.out.glt (k := a1) (by rw [HN.out.1]; rfl)
          omega
        have hne2 : w.heap.size + 1 ≠ w.heap.size + 1 + 1 := by omega
        have hne3 : w.heap.size + 1 + 1 ≠ w.heap.size + 1 := by omega
        obtain ⟨rc, hrc⟩ : ∃ rc, rc = w.heap.size + 1 := ⟨_, rfl⟩
        obtain ⟨rf, hrf⟩ : ∃ rf, rf = w.heap.size + 1 + 1 := ⟨_, rfl⟩
        have HRL : Hid (w.heap.size ≤ rf) := by show w.heap.size ≤ rf; omega
        have HO2 := Vx.hid hO2
        rw [← hrf, ← hrc] at hne2 hne3
        rw [← hrf] at hne1 y0 y1 yf hy
        rw [← hrc] at z0 z1 z2 z3 z4 z5 z6 z7 zf
        rw [← hrf, ← hrc]
        have hne4 : rf ≠ G a1 := fun e => hne1 e.symm
        have hne5 : 0 ≠ rf := by
          have := lt_of_some HX.out.ns
          have := HRL.out
          omega
        have hne6 : rf ≠ 0 := fun e => hne5 e.symm
        clear hq hz hy hO2 HO hrc hrf HC
        go_wp2_with fail
        have hkl : k < (rowQ (plF es) a1 n.toNat).length := by rw [rowQ_len]; have := HN.out.2; omega
        have ho3 : Only (fun _ => False) w ((w2.setCell ⟨rf, 0, none⟩ (.int .i64 (-1))).setCell ⟨rf, 1, none⟩ (.int .i64 (-1))) := Only.beyond HO2.out (only_set2 w2 rf _ _) (fun j hj => by subst hj; exact HRL.out)
        have H3 := HX.out.quiet ho3
        obtain ⟨hw, ho⟩ := pl_all (H3.bl a1 n HN.out.1) (rowQ_len _ _ _).symm k hkl ((⟨d0, d1, d2, d3, d4, d5, d6, d7⟩, (-1, -1)) : Pl)
        rw [HFR.out] at HFIN
        go_ret
        exact ⟨by rw [HE.out]; try rfl, HFIN.out HE.out _ _ H3 (ho3.mono (fun _ _ h => h.elim)) hw ho⟩
      · have HFR : Hid (fromN f = f) := by show fromN f = _; unfold fromN; rw [if_neg hm]
        have hm2 : (f.1 == -1) = false := beq_eq_false_iff_ne.2 hm
        have HC := Vx.hid hcall
        rcases h.full hf hx f hfi with ⟨kf, nf, i, hkf2, _, _, hff, _, hcall2⟩ | ⟨er, hff, her, hcall2⟩
        · have HE : Hid (putE bs es a c f = 0) := by show putE bs es a c f = 0; rw [put_from hk hfr hm, hff]; rfl
          rw [← hkf2] at hcall2
          have HC2 := Vx.hid hcall2
          clear h hf hx hl hfi ha hnm hg hlen HR hfr hcall hk hkf hkd hn hlt hm hff hkf2 hcall2
          obtain ⟨a1, a2⟩ := a
          obtain ⟨f1, f2⟩ := f
          dsimp only at hka hm2
          subst hka
          obtain ⟨d0, d1, d2, d3, d4, d5, d6, d7⟩ := c
          dsimp only at k1 k2 HC HC2 HN HFIN ⊢
          go_enter Tryd.func28, Tryd.ntmps28
          go_wp2_with fail
          refine (HC.out _ (HO.out _ _ _)).mono ?_
          rintro e w2 ⟨rfl, hq⟩
          have hO2 := (HO.out (.cells #[.int .i64 a1, .int .i64 (k : Int)] 62) (.cells #[.int .i64 d0, .int .i64 d1, .int .i64 d2, .int .u32 d3, .int .u32 d4, .int .i64 d5, .int .i64 d6, .int .u32 d7] 66) (.cells #[.int .i64 f1, .int .i64 f2] 62)).trans hq
          obtain ⟨_, hz, hy⟩ := new_three hq
          obtain ⟨⟨y0, y1⟩, yf⟩ := slot_cells hy
          obtain ⟨rc, hrc⟩ : ∃ rc, rc = w.heap.size + 1 := ⟨_, rfl⟩
          obtain ⟨rf, hrf⟩ : ∃ rf, rf = w.heap.size + 1 + 1 := ⟨_, rfl⟩
          have HO2 := Vx.hid hO2
          rw [← hrf] at y0 y1 yf hy
          rw [← hrc] at hz
          rw [← hrf, ← hrc]
          have HZY := Vx.hid (⟨hz, hy⟩ : _ ∧ _)
          clear hq hO2 HO hrc hrf HC hz hy
          go_wp2_with fail
          refine (HC2.out _ HO2.out).mono ?_
          rintro e w3 ⟨rfl, hq⟩
          have hO3 := HO2.out.trans hq
          have hz : w3.heap[rc]? = _ := (hq.block rc (lt_of_some HZY.out.1) (fun h => h)).trans HZY.out.1
          have hy : w3.heap[rf]? = _ := (hq.block rf (lt_of_some HZY.out.2) (fun h => h)).trans HZY.out.2
          clear y0 y1 yf
          obtain ⟨⟨z0, z1, z2, z3, z4, z5, z6, z7⟩, zf⟩ := cap_cells hz
          obtain ⟨⟨y0, y1⟩, yf⟩ := slot_cells hy
          have H3 := Vx.hid (HX.out.quiet hO3)
          have HO3 := Vx.hid hO3
          obtain ⟨q0, q1, q2, q3, q4, q5, q6, q7, q8, q9⟩ := H3.out.p10 HN.out.1 k HN.out.2
          have gf := bl_fz H3.out HN.out.1
          clear hq hO3 HC2 hz hy HZY HO2
          go_wp2_with fail
          have hkl : k < (rowQ (plF es) a1 n.toNat).length := by rw [rowQ_len]; have := HN.out.2; omega
          obtain ⟨hw, ho⟩ := pl_all (H3.out.bl a1 n HN.out.1) (rowQ_len _ _ _).symm k hkl ((⟨d0, d1, d2, d3, d4, d5, d6, d7⟩, (f1, f2)) : Pl)
          rw [HFR.out] at HFIN
          go_ret
          exact ⟨by rw [HE.out]; try rfl, HFIN.out HE.out _ _ H3.out (HO3.out.mono (fun _ _ h => h.elim)) hw ho⟩
        · have HE : Hid (putE bs es a c f = er) := by show putE bs es a c f = er; rw [put_from hk hfr hm, hff]; rfl
          have her2 : (er == 0) = false := beq_eq_false_iff_ne.2 her
          have her3 : (er != 0) = true := by simp [bne, her2]
          have HR2 : Hid (∀ w2, Only (fun _ => False) w w2 → XcAt U w2 xb bs (putL bs es a c f)) := HR.out (by rw [HE.out]; exact her)
          have HC2 := Vx.hid hcall2
          clear h hf hx hl hfi ha hnm hg hlen HR hfr hcall hk hkf hkd hn hlt hm hff hcall2 her HFIN
          obtain ⟨a1, a2⟩ := a
          obtain ⟨f1, f2⟩ := f
          dsimp only at hka hm2
          subst hka
          obtain ⟨d0, d1, d2, d3, d4, d5, d6, d7⟩ := c
          dsimp only at k1 k2 HC HC2 HN ⊢
          go_enter Tryd.func28, Tryd.ntmps28
          go_wp2_with fail
          refine (HC.out _ (HO.out _ _ _)).mono ?_
          rintro e w2 ⟨rfl, hq⟩
          have hO2 := (HO.out (.cells #[.int .i64 a1, .int .i64 (k : Int)] 62) (.cells #[.int .i64 d0, .int .i64 d1, .int .i64 d2, .int .u32 d3, .int .u32 d4, .int .i64 d5, .int .i64 d6, .int .u32 d7] 66) (.cells #[.int .i64 f1, .int .i64 f2] 62)).trans hq
          obtain ⟨_, _, hy⟩ := new_three hq
          obtain ⟨⟨y0, y1⟩, yf⟩ := slot_cells hy
          have HO2 := Vx.hid hO2
          clear hq hO2 HO HC hy
          go_wp2_with fail
          refine (HC2.out _ HO2.out).mono ?_
          rintro e w3 ⟨rfl, hq⟩
          have HO3 := Vx.hid (HO2.out.trans hq)
          clear hq HC2 HO2 y0 y1 yf
          go_wp2_with fail
          all_goals
            go_ret
            exact ⟨by rw [HE.out]; try rfl, HR2.out _ HO3.out, HO3.out.mono (fun _ _ h => h.elim)⟩
    · have HE : Hid (putE bs es a c f = er) := by show putE bs es a c f = er; rw [put_free hk (by rw [hfr]; exact her), hfr]
      have her2 : (er == 0) = false := beq_eq_false_iff_ne.2 her
      have her3 : (er != 0) = true := by simp [bne, her2]
      have HR2 : Hid (∀ w2, Only (fun _ => False) w w2 → XcAt U w2 xb bs (putL bs es a c f)) := HR.out (by rw [HE.out]; exact her)
      have HC := Vx.hid hcall
      have k1 : ¬ c.kind < 1 := by omega
      have k2 : ¬ 10 < c.kind := by omega
      clear h hf hx hl HX hfi ha hnm hg hlen HR hfr her hcall hk
      obtain ⟨a1, a2⟩ := a
      obtain ⟨f1, f2⟩ := f
      obtain ⟨d0, d1, d2, d3, d4, d5, d6, d7⟩ := c
      dsimp only at k1 k2 HC ⊢
      go_enter Tryd.func28, Tryd.ntmps28
      go_wp2_with fail
      refine (HC.out _ (HO.out _ _ _)).mono ?_
      rintro e w2 ⟨rfl, hq⟩
      have HO2 := Vx.hid ((HO.out (.cells #[.int .i64 a1, .int .i64 a2] 62) (.cells #[.int .i64 d0, .int .i64 d1, .int .i64 d2, .int .u32 d3, .int .u32 d4, .int .i64 d5, .int .i64 d6, .int .u32 d7] 66) (.cells #[.int .i64 f1, .int .i64 f2] 62)).trans hq)
      clear hq HO HC
      go_wp2_with fail
      all_goals
        go_ret
        exact ⟨by rw [HE.out]; try rfl, HR2.out _ HO2.out, HO2.out.mono (fun _ _ h => h.elim)⟩
end Go.Proofs.YtbmchgjilkoplaaDoor

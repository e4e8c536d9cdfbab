import Derived.Test.YtbmchgjilkoplaaDoorCk35
/- Chapter 7, the program's store: Move. -/
namespace Go.Proofs.YtbmchgjilkoplaaDoor
open Go.ChangeShapes Go.WideShapes Go.ChangeAt Go.RowKit
open Go.Vx
set_option linter.unusedVariables false
variable {U : Nat → Prop} {w : World} {xb mb : Nat} {D : DataW Value} {G : Int → Nat} {bs : List (Int × Int)} {es : List En} {Q : Sl → Pl}

theorem move_len (s t : Sl) : (moveL bs es s t).length ≤ es.length := by
  unfold moveL
  cases hf : fullF bs es s with
  | error e => exact Nat.le_refl _
  | ok i =>
    dsimp only
    obtain ⟨hi, _⟩ := full_at hf
    split
    · rw [ins_len]
      unfold cutL
      rw [List.length_map, List.length_eraseIdx_of_lt hi]
      omega
    · exact Nat.le_refl _
set_option maxRecDepth 100000 in
set_option maxHeartbeats 4000000 in
theorem xmove_ok (hc : XcAt U w xb bs es) (a t : Sl) (ha : I64 a.1) (ht : I64 t.1) : Calls Tryd.prog 35 #[.pointer (some ⟨xb, 0, none⟩), .agg #[.int .i64 a.1, .int .i64 a.2], .agg #[.int .i64 t.1, .int .i64 t.2]] w fun e w' => e = .returned (.int .i64 (moveE bs es a t)) ∧ XcAt U w' xb bs (moveL bs es a t) ∧ Only (fun k => ¬ U k) w w' := by
  obtain ⟨mb, D, G, h, hf, hx, hl⟩ := hc
  have HO : Hid (∀ o p, Only (fun _ => False) w ((w.alloc o).alloc p)) := fun o p => ((Only.refl _ w).alloc _).alloc _
  rcases h.full hf hx a ha with ⟨ka, na, i, hka, hna, hlta, hfi, hkda, hcalla⟩ | ⟨er, hfi, her, hcall⟩
  · rcases h.empty hf hx t ht with ⟨kt, nt, hkt, hnt, hltt, hfr, hkdt, hcallt⟩ | ⟨er, hfr, her, hcallt⟩
    · have HE : Hid (moveE bs es a t = 0) := by show moveE bs es a t = 0; unfold moveE; rw [hfi]; exact hfr
      have hakey : (a.1, (ka : Int)) = a := Prod.ext rfl hka.symm
      have htkey : (t.1, (kt : Int)) = t := Prod.ext rfl hkt.symm
      have hat : a ≠ t := fun e => hkda (by rw [e]; exact hkdt)
      have HFIN : Hid (∀ w5, XsAt U w5 xb mb D G bs (fun s2 => relF a t (setQ (setQ (plF es) (t.1, (kt : Int)) (plF es a)) (a.1, (ka : Int)) zeroPl s2)) → XcAt U w5 xb bs (moveL bs es a t)) := fun w5 h5 => by
        refine ⟨mb, D, G, h5.same (fun s2 => ?_), hf.move a t, hx.move a t, Nat.le_trans (move_len a t) hl⟩
        rw [plF_move hf hx hfi hfr, hakey, htkey]
        unfold setQ
        by_cases h9 : s2 = t
        · rw [if_neg (fun e => hat (by rw [← e, h9])), if_pos h9, if_pos h9]
        · by_cases h8 : s2 = a
          · rw [if_pos h8, if_neg h9, if_pos h8]
          · rw [if_neg h8, if_neg h9, if_neg h9, if_neg h8]
      have HPA : Hid (∀ w2, Only (fun _ => False) w w2 → P10 w2 (G a.1) ka (plF es a)) := fun w2 ho => by
        have := (h.quiet ho).p10 hna ka hlta
        rw [← hka] at this
        exact this
      have HPT : Hid (∀ w2, Only (fun _ => False) w w2 → P10 w2 (G t.1) kt (plF es t)) := fun w2 ho => by
        have := (h.quiet ho).p10 hnt kt hltt
        rw [← hkt] at this
        exact this
      have HX := Vx.hid h
      have HNN := Vx.hid (⟨hna, hlta, hnt, hltt⟩ : _ ∧ _ ∧ _ ∧ _)
      have HREL : Hid (∀ V w3 a1 t1 Q1, XsAt V w3 xb mb D G bs Q1 → Calls Tryd.prog 55 #[.pointer (some ⟨xb, 0, none⟩), .agg #[.int .i64 (a1 : Sl).1, .int .i64 a1.2], .agg #[.int .i64 (t1 : Sl).1, .int .i64 t1.2]] w3 fun e w' => (∃ v, e = .returned v) ∧ XsAt V w' xb mb D G bs (fun s2 => relF a1 t1 (Q1 s2)) ∧ Only (fun k => ¬ V k) w3 w') := fun V w3 a1 t1 Q1 h3 => relink_ok h3 a1 t1
      have HCA := Vx.hid hcalla
      have HCT := Vx.hid hcallt
      have HNE : Hid (a.1 ≠ t.1 → G a.1 ≠ G t.1) := fun h1 => (h.sep (b := t.1) (by rw [hnt]; rfl)).2.2.2 a.1 (by rw [hna]; rfl) h1
      obtain ⟨a1, a2⟩ := a
      obtain ⟨t1, t2⟩ := t
      dsimp only at hka hkt
      subst hka
      subst hkt
      have HKK : Hid (a1 = t1 → ka ≠ kt) := fun h1 h2 => hat (by rw [h1, h2])
      clear h hf hx hl hna hlta hfi hkda hcalla hnt hltt hfr hkdt hcallt ha ht hakey htkey hat
      dsimp only at HCA HCT HPA HPT HNN HNE HFIN ⊢
      go_enter Tryd.func35, Tryd.ntmps35
      go_wp2_with fail
      refine (HCA.out _ (HO.out _ _)).mono ?_
      rintro e w2 ⟨rfl, hq⟩
      have hO2 := (HO.out (.cells #[.int .i64 a1, .int .i64 (ka : Int)] 62) (.cells #[.int .i64 t1, .int .i64 (kt : Int)] 62)).trans hq
      have hz := new_second hq
      have hy : w2.heap[w.heap.size]? = some (.cells #[.int .i64 a1, .int .i64 (ka : Int)] 62 (0, 0)) := by
        have h1 : ((w.alloc (.cells #[.int .i64 a1, .int .i64 (ka : Int)] 62)).alloc (.cells #[.int .i64 t1, .int .i64 (kt : Int)] 62)).heap[w.heap.size]? = some (.cells #[.int .i64 a1, .int .i64 (ka : Int)] 62 (0, 0)) := by
          rw [RowKit.Below.heap_alloc _ _ _ (by simp)]
          exact heap_alloc_last w _
        exact Only.keep hq h1 (fun h => h)
      obtain ⟨⟨z0, z1⟩, zf⟩ := slot_cells hz
      have HO2 := Vx.hid hO2
      have HZY := Vx.hid (⟨hz, hy⟩ : _ ∧ _)
      clear hq hz hy hO2 HO HCA
      go_wp2_with fail
      refine (HCT.out _ HO2.out).mono ?_
      rintro e w3 ⟨rfl, hq⟩
      have hO3 := HO2.out.trans hq
      have hz := Only.keep hq HZY.out.1 (fun h => h)
      have hy := Only.keep hq HZY.out.2 (fun h => h)
      obtain ⟨p0, p1, p2, p3, p4, p5, p6, p7, p8, p9⟩ := HPA.out w3 hO3
      obtain ⟨q0, q1, q2, q3, q4, q5, q6, q7, q8, q9⟩ := HPT.out w3 hO3
      have HX3 := Vx.hid (HX.out.more hO3)
      have ga := bl_fz HX3.out HNN.out.1
      have gt := bl_fz HX3.out HNN.out.2.2.1
      generalize hpa : plF es (a1, (ka : Int)) = pa at p0 p1 p2 p3 p4 p5 p6 p7 p8 p9 HFIN
      obtain ⟨⟨d0, d1, d2, d3, d4, d5, d6, d7⟩, ⟨f0, f1⟩⟩ := pa
      dsimp only at p0 p1 p2 p3 p4 p5 p6 p7 p8 p9
      obtain ⟨ab, hab⟩ : ∃ ab, ab = w.heap.size := ⟨_, rfl⟩
      obtain ⟨tb, htb⟩ : ∃ tb, tb = w.heap.size + 1 := ⟨_, rfl⟩
      have HNB : Hid (w.heap.size ≤ ab ∧ ab < w3.heap.size ∧ w.heap.size ≤ tb ∧ tb < w3.heap.size) := by
        have h1 := lt_of_some hz
        have h2 := lt_of_some hy
        exact ⟨by omega, by omega, by omega, by omega⟩
      rw [← htb] at hz
      rw [← hab] at hy
      rw [← htb, ← hab]
      have HB3 := Vx.hid (⟨hy, hz⟩ : _ ∧ _)
      have HO3 := Vx.hid hO3
      clear hq hO3 HCT HZY z0 z1 zf hz hy hab htb HPA HPT hpa HO2
      have HMID : Hid (∀ w4, w4 = ((((((((((((((((((((w3.setCell ⟨G t1, kt * 10, none⟩ (.int .i64 d0)).setCell ⟨G t1, kt * 10 + 1, none⟩ (.int .i64 d1)).setCell ⟨G t1, kt * 10 + 2, none⟩ (.int .i64 d2)).setCell ⟨G t1, kt * 10 + 3, none⟩ (.int .u32 d3)).setCell ⟨G t1, kt * 10 + 4, none⟩ (.int .u32 d4)).setCell ⟨G t1, kt * 10 + 5, none⟩ (.int .i64 d5)).setCell ⟨G t1, kt * 10 + 6, none⟩ (.int .i64 d6)).setCell ⟨G t1, kt * 10 + 7, none⟩ (.int .u32 d7)).setCell ⟨G t1, kt * 10 + 8, none⟩ (.int .i64 f0)).setCell ⟨G t1, kt * 10 + 9, none⟩ (.int .i64 f1)).setCell ⟨G a1, ka * 10, none⟩ (.int .i64 0)).setCell ⟨G a1, ka * 10 + 1, none⟩ (.int .i64 0)).setCell ⟨G a1, ka * 10 + 2, none⟩ (.int .i64 0)).setCell ⟨G a1, ka * 10 + 3, none⟩ (.int .u32 0)).setCell ⟨G a1, ka * 10 + 4, none⟩ (.int .u32 0)).setCell ⟨G a1, ka * 10 + 5, none⟩ (.int .i64 0)).setCell ⟨G a1, ka * 10 + 6, none⟩ (.int .i64 0)).setCell ⟨G a1, ka * 10 + 7, none⟩ (.int .u32 0)).setCell ⟨G a1, ka * 10 + 8, none⟩ (.int .i64 0)).setCell ⟨G a1, ka * 10 + 9, none⟩ (.int .i64 0)) → XsAt (fun k => U k ∨ (w.heap.size ≤ k ∧ k < w3.heap.size)) w4 xb mb D G bs (setQ (setQ (plF es) (t1, (kt : Int)) (⟨d0, d1, d2, d3, d4, d5, d6, d7⟩, (f0, f1))) (a1, (ka : Int)) zeroPl) ∧ Only (fun k => ¬ U k) w w4 ∧ w4.heap[ab]? = some (.cells #[.int .i64 a1, .int .i64 (ka : Int)] 62 (0, 0)) ∧ w4.heap[tb]? = some (.cells #[.int .i64 t1, .int .i64 (kt : Int)] 62 (0, 0))) := fun w4 hw4 => by
        have hkt : kt < (rowQ (plF es) t1 nt.toNat).length := by rw [rowQ_len]; have := HNN.out.2.2.2; omega
        obtain ⟨hw1, ho1⟩ := pl_all (HX3.out.bl t1 nt HNN.out.2.2.1) (rowQ_len _ _ _).symm kt hkt ((⟨d0, d1, d2, d3, d4, d5, d6, d7⟩, (f0, f1)) : Pl)
        obtain ⟨hX1, hO1⟩ := HX3.out.put HNN.out.2.2.1 kt _ hw1 ho1
        have hka : ka < (rowQ (setQ (plF es) (t1, (kt : Int)) (⟨d0, d1, d2, d3, d4, d5, d6, d7⟩, (f0, f1))) a1 na.toNat).length := by rw [rowQ_len]; have := HNN.out.2.1; omega
        obtain ⟨hw2, ho2⟩ := pl_zero (hX1.bl a1 na HNN.out.1) (rowQ_len _ _ _).symm ka hka
        obtain ⟨hX2, hO2⟩ := hX1.put HNN.out.1 ka _ hw2 ho2
        rw [hw4]
        have h7 := hO1.trans hO2
        refine ⟨hX2, (HO3.out.mono (fun _ _ h => h.elim)).trans (h7.mono (fun k _ h1 h2 => h1 (Or.inl h2))), ?_, ?_⟩
        · exact Only.keep h7 HB3.out.1 (fun e => e (Or.inr ⟨HNB.out.1, HNB.out.2.1⟩))
        · exact Only.keep h7 HB3.out.2 (fun e => e (Or.inr ⟨HNB.out.2.2.1, HNB.out.2.2.2⟩))
      have hcase : (a1 = t1 ∧ ka ≠ kt) ∨ G a1 ≠ G t1 := by
        by_cases h1 : a1 = t1
        · exact Or.inl ⟨h1, HKK.out h1⟩
        · exact Or.inr (HNE.out h1)
      rcases hcase with ⟨rfl, hkk⟩ | hne
      · go_upto_region 8 with fail
        obtain ⟨w4, hw4⟩ : ∃ w4, w4 = ((((((((((((((((((((w3.setCell ⟨G a1, kt * 10, none⟩ (.int .i64 d0)).setCell ⟨G a1, kt * 10 + 1, none⟩ (.int .i64 d1)).setCell ⟨G a1, kt * 10 + 2, none⟩ (.int .i64 d2)).setCell ⟨G a1, kt * 10 + 3, none⟩ (.int .u32 d3)).setCell ⟨G a1, kt * 10 + 4, none⟩ (.int .u32 d4)).setCell ⟨G a1, kt * 10 + 5, none⟩ (.int .i64 d5)).setCell ⟨G a1, kt * 10 + 6, none⟩ (.int .i64 d6)).setCell ⟨G a1, kt * 10 + 7, none⟩ (.int .u32 d7)).setCell ⟨G a1, kt * 10 + 8, none⟩ (.int .i64 f0)).setCell ⟨G a1, kt * 10 + 9, none⟩ (.int .i64 f1)).setCell ⟨G a1, ka * 10, none⟩ (.int .i64 0)).setCell ⟨G a1, ka * 10 + 1, none⟩ (.int .i64 0)).setCell ⟨G a1, ka * 10 + 2, none⟩ (.int .i64 0)).setCell ⟨G a1, ka * 10 + 3, none⟩ (.int .u32 0)).setCell ⟨G a1, ka * 10 + 4, none⟩ (.int .u32 0)).setCell ⟨G a1, ka * 10 + 5, none⟩ (.int .i64 0)).setCell ⟨G a1, ka * 10 + 6, none⟩ (.int .i64 0)).setCell ⟨G a1, ka * 10 + 7, none⟩ (.int .u32 0)).setCell ⟨G a1, ka * 10 + 8, none⟩ (.int .i64 0)).setCell ⟨G a1, ka * 10 + 9, none⟩ (.int .i64 0)) := ⟨_, rfl⟩
        rw [← hw4]
        obtain ⟨hX4, hO4, hy4, hz4⟩ := HMID.out w4 hw4
        obtain ⟨⟨y0, y1⟩, _⟩ := slot_cells hy4
        obtain ⟨⟨z0, z1⟩, _⟩ := slot_cells hz4
        have HX4 := Vx.hid hX4
        have HO4 := Vx.hid hO4
        clear hw4 HMID hX4 hO4 hy4 hz4 p0 p1 p2 p3 p4 p5 p6 p7 p8 p9 q0 q1 q2 q3 q4 q5 q6 q7 q8 q9 ga gt
        go_wp2_with fail
        refine (HREL.out _ _ (a1, (ka : Int)) (a1, (kt : Int)) _ HX4.out).mono ?_
        rintro e w5 ⟨⟨v, rfl⟩, hX5, hO5⟩
        have HX5 := Vx.hid (hX5.less (U := U) (fun k hk => Or.inl hk))
        have HO5 := Vx.hid (HO4.out.trans (hO5.mono (fun k hk h1 h2 => h1 (Or.inl h2))))
        clear hX5 hO5 HX4 HO4 y0 y1 z0 z1 HREL
        go_wp2_with fail
        all_goals
          go_ret
          exact ⟨by rw [HE.out]; try rfl, HFIN.out _ HX5.out, HO5.out⟩
      · have hne2 : G t1 ≠ G a1 := fun e => hne e.symm
        go_upto_region 8 with fail
        obtain ⟨w4, hw4⟩ : ∃ w4, w4 = ((((((((((((((((((((w3.setCell ⟨G t1, kt * 10, none⟩ (.int .i64 d0)).setCell ⟨G t1, kt * 10 + 1, none⟩ (.int .i64 d1)).setCell ⟨G t1, kt * 10 + 2, none⟩ (.int .i64 d2)).setCell ⟨G t1, kt * 10 + 3, none⟩ (.int .u32 d3)).setCell ⟨G t1, kt * 10 + 4, none⟩ (.int .u32 d4)).setCell ⟨G t1, kt * 10 + 5, none⟩ (.int .i64 d5)).setCell ⟨G t1, kt * 10 + 6, none⟩ (.int .i64 d6)).setCell ⟨G t1, kt * 10 + 7, none⟩ (.int .u32 d7)).setCell ⟨G t1, kt * 10 + 8, none⟩ (.int .i64 f0)).setCell ⟨G t1, kt * 10 + 9, none⟩ (.int .i64 f1)).setCell ⟨G a1, ka * 10, none⟩ (.int .i64 0)).setCell ⟨G a1, ka * 10 + 1, none⟩ (.int .i64 0)).setCell ⟨G a1, ka * 10 + 2, none⟩ (.int .i64 0)).setCell ⟨G a1, ka * 10 + 3, none⟩ (.int .u32 0)).setCell ⟨G a1, ka * 10 + 4, none⟩ (.int .u32 0)).setCell ⟨G a1, ka * 10 + 5, none⟩ (.int .i64 0)).setCell ⟨G a1, ka * 10 + 6, none⟩ (.int .i64 0)).setCell ⟨G a1, ka * 10 + 7, none⟩ (.int .u32 0)).setCell ⟨G a1, ka * 10 + 8, none⟩ (.int .i64 0)).setCell ⟨G a1, ka * 10 + 9, none⟩ (.int .i64 0)) := ⟨_, rfl⟩
        rw [← hw4]
        obtain ⟨hX4, hO4, hy4, hz4⟩ := HMID.out w4 hw4
        obtain ⟨⟨y0, y1⟩, _⟩ := slot_cells hy4
        obtain ⟨⟨z0, z1⟩, _⟩ := slot_cells hz4
        have HX4 := Vx.hid hX4
        have HO4 := Vx.hid hO4
        clear hw4 HMID hX4 hO4 hy4 hz4 p0 p1 p2 p3 p4 p5 p6 p7 p8 p9 q0 q1 q2 q3 q4 q5 q6 q7 q8 q9 ga gt
        go_wp2_with fail
        refine (HREL.out _ _ (a1, (ka : Int)) (t1, (kt : Int)) _ HX4.out).mono ?_
        rintro e w5 ⟨⟨v, rfl⟩, hX5, hO5⟩
        have HX5 := Vx.hid (hX5.less (U := U) (fun k hk => Or.inl hk))
        have HO5 := Vx.hid (HO4.out.trans (hO5.mono (fun k hk h1 h2 => h1 (Or.inl h2))))
        clear hX5 hO5 HX4 HO4 y0 y1 z0 z1 HREL
        go_wp2_with fail
        all_goals
          go_ret
          exact ⟨by rw [HE.out]; try rfl, HFIN.out _ HX5.out, HO5.out⟩
    · have HE : Hid (moveE bs es a t = er) := by show moveE bs es a t = er; unfold moveE; rw [hfi]; exact hfr
      have her2 : (er == 0) = false := beq_eq_false_iff_ne.2 her
      have her3 : (er != 0) = true := by simp [bne, her2]
      have HR : Hid (∀ w2, Only (fun _ => False) w w2 → XcAt U w2 xb bs (moveL bs es a t)) := fun w2 h2 => by
        have : moveL bs es a t = es := by unfold moveL; rw [hfi]; dsimp only; rw [if_neg (by rw [hfr]; exact her)]
        rw [this]
        exact ⟨mb, D, G, h.quiet h2, hf, hx, hl⟩
      have HCA := Vx.hid hcalla
      have HCT := Vx.hid hcallt
      obtain ⟨a1, a2⟩ := a
      obtain ⟨t1, t2⟩ := t
      dsimp only at hka
      subst hka
      clear h hf hx hl hna hlta hfi hkda hcalla hfr her hcallt ha ht
      dsimp only at HCA HCT ⊢
      go_enter Tryd.func35, Tryd.ntmps35
      go_wp2_with fail
      refine (HCA.out _ (HO.out _ _)).mono ?_
      rintro e w2 ⟨rfl, hq⟩
      have hO2 := (HO.out (.cells #[.int .i64 a1, .int .i64 (ka : Int)] 62) (.cells #[.int .i64 t1, .int .i64 t2] 62)).trans hq
      have hz := new_second hq
      obtain ⟨⟨z0, z1⟩, zf⟩ := slot_cells hz
      have HO2 := Vx.hid hO2
      clear hq hz hO2 HO HCA
      go_wp2_with fail
      refine (HCT.out _ HO2.out).mono ?_
      rintro e w3 ⟨rfl, hq⟩
      have HO3 := Vx.hid (HO2.out.trans hq)
      clear hq HCT HO2 z0 z1 zf
      go_wp2_with fail
      all_goals
        go_ret
        exact ⟨by rw [HE.out]; try rfl, HR.out _ HO3.out, HO3.out.mono (fun _ _ h => h.elim)⟩
  · have HE : Hid (moveE bs es a t = er) := by show moveE bs es a t = er; unfold moveE; rw [hfi]
    have her2 : (er == 0) = false := beq_eq_false_iff_ne.2 her
    have her3 : (er != 0) = true := by simp [bne, her2]
    have HR : Hid (∀ w2, Only (fun _ => False) w w2 → XcAt U w2 xb bs (moveL bs es a t)) := fun w2 h2 => by
      have : moveL bs es a t = es := by unfold moveL; rw [hfi]
      rw [this]
      exact ⟨mb, D, G, h.quiet h2, hf, hx, hl⟩
    have HC := Vx.hid hcall
    obtain ⟨a1, a2⟩ := a
    obtain ⟨t1, t2⟩ := t
    clear h hf hx hl hfi hcall her ha ht
    dsimp only at HC ⊢
    go_enter Tryd.func35, Tryd.ntmps35
    go_wp2_with fail
    refine (HC.out _ (HO.out _ _)).mono ?_
    rintro e w2 ⟨rfl, hq⟩
    have HO2 := Vx.hid ((HO.out (.cells #[.int .i64 a1, .int .i64 a2] 62) (.cells #[.int .i64 t1, .int .i64 t2] 62)).trans hq)
    clear hq HO HC
    go_wp2_with fail
    all_goals
      go_ret
      exact ⟨by rw [HE.out]; try rfl, HR.out _ HO2.out, HO2.out.mono (fun _ _ h => h.elim)⟩
end Go.Proofs.YtbmchgjilkoplaaDoor

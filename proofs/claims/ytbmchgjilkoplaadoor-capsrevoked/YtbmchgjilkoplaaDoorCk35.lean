import Derived.Test.YtbmchgjilkoplaaDoorCk34
import Derived.Test.YtbmchgjilkoplaaDoorCk7
/- Chapter 7, the program's store: Take. -/
namespace Go.Proofs.YtbmchgjilkoplaaDoor
open Go.ChangeShapes Go.WideShapes Go.ChangeAt Go.RowKit
open Go.Vx
set_option linter.unusedVariables false
variable {U : Nat → Prop} {w : World} {xb mb : Nat} {D : DataW Value} {G : Int → Nat} {bs : List (Int × Int)} {es : List En} {Q : Sl → Pl}

theorem XsAt.less {V : Nat → Prop} (h : XsAt V w xb mb D G bs Q) (hu : ∀ k, U k → V k) : XsAt U w xb mb D G bs Q :=
  ⟨h.ns, h.x, h.m, h.hs, h.ha, h.bl, h.gi, fun h1 => h.un (hu _ h1), fun h1 => h.ux (hu _ h1), fun h1 => h.um (hu _ h1), fun k hk h1 => h.ug k hk (hu _ h1), fun k hk => h.low k (hu k hk), h.bn, h.nd, h.ib, h.nb⟩
set_option maxRecDepth 100000 in
set_option maxHeartbeats 2000000 in
theorem xtake_ok (hc : XcAt U w xb bs es) (s : Sl) (hb : I64 s.1) : Calls Tryd.prog 22 #[.pointer (some ⟨xb, 0, none⟩), .agg #[.int .i64 s.1, .int .i64 s.2]] w fun e w' => e = .returned (.tuple #[cpV (takeR bs es s).1, .int .i64 (takeR bs es s).2]) ∧ XcAt U w' xb bs (takeL bs es s) ∧ Only (fun k => ¬ U k) w w' := by
  have HC0 := Vx.hid hc
  obtain ⟨mb, D, G, h, hf, hx, hl⟩ := hc
  have HO : Hid (∀ o p, Only (fun _ => False) w ((w.alloc o).alloc p)) := fun o p => ((Only.refl _ w).alloc _).alloc _
  rcases h.full hf hx s hb with ⟨k, n, i, hk, hn, hlt, hfi, hkd, hcall⟩ | ⟨er, hfi, her, hcall⟩
  · obtain ⟨hi, hE, hp⟩ := plF_full hf hfi
    have HG : Hid (takeR bs es s = ((plF es s).1, 0)) := by show getF bs es s = _; unfold getF; rw [hfi, hp]; dsimp only; rw [getD_at es i hi]
    have HP : Hid (∀ w2, Only (fun _ => False) w w2 → P10 w2 (G s.1) k (plF es s)) := fun w2 ho => by
      have := (h.quiet ho).p10 hn k hlt
      rw [← hk] at this
      exact this
    have HX := Vx.hid h
    have HNN := Vx.hid (⟨hn, hlt⟩ : _ ∧ _)
    have hskey : (s.1, (k : Int)) = s := Prod.ext rfl hk.symm
    have HFIN : Hid (∀ w5, XsAt U w5 xb mb D G bs (fun s2 => relF s (plF es s).2 (setQ (plF es) (s.1, (k : Int)) zeroPl s2)) → XcAt U w5 xb bs (takeL bs es s)) := fun w5 h5 => by
      refine ⟨mb, D, G, h5.same (fun s2 => ?_), hf.take s, hx.take s, ?_⟩
      · rw [plF_take hf hx hfi, hskey]
        unfold setQ
        by_cases h9 : s2 = s
        · rw [if_pos h9, if_pos h9]
          unfold relF
          rw [if_neg (fun h => h.1 rfl)]
        · rw [if_neg h9, if_neg h9]
      · unfold takeL; rw [hfi]; dsimp only
        exact Nat.le_trans (cutL_len es i _) hl
    have HC := Vx.hid hcall
    have HREL : Hid (∀ V w3 a t, XsAt V w3 xb mb D G bs (setQ (plF es) (s.1, (k : Int)) zeroPl) → Calls Tryd.prog 55 #[.pointer (some ⟨xb, 0, none⟩), .agg #[.int .i64 (a : Sl).1, .int .i64 a.2], .agg #[.int .i64 (t : Sl).1, .int .i64 t.2]] w3 fun e w' => (∃ v, e = .returned v) ∧ XsAt V w' xb mb D G bs (fun s2 => relF a t (setQ (plF es) (s.1, (k : Int)) zeroPl s2)) ∧ Only (fun k => ¬ V k) w3 w') := fun V w3 a t h3 => relink_ok h3 a t
    obtain ⟨s1, s2⟩ := s
    dsimp only at hk
    subst hk
    clear h hf hx hl hn hlt hfi hkd hcall hE hp hi hb HC0 hskey
    dsimp only at HC HP HNN HREL HFIN ⊢
    go_enter Tryd.func22, Tryd.ntmps22
    go_wp2_with fail
    refine (HC.out _ (HO.out _ _)).mono ?_
    rintro e w2 ⟨rfl, hq⟩
    have hO2 := (HO.out (.cells #[.int .i64 s1, .int .i64 (k : Int)] 62) (.cells #[.int .i64 0, .int .i64 0, .int .i64 0, .int .u32 0, .int .u32 0, .int .i64 0, .int .i64 0, .int .u32 0] 66)).trans hq
    have hz := new_second hq
    have hy : w2.heap[w.heap.size]? = some (.cells #[.int .i64 s1, .int .i64 (k : Int)] 62 (0, 0)) := by
      have h1 : ((w.alloc (.cells #[.int .i64 s1, .int .i64 (k : Int)] 62)).alloc (.cells #[.int .i64 0, .int .i64 0, .int .i64 0, .int .u32 0, .int .u32 0, .int .i64 0, .int .i64 0, .int .u32 0] 66)).heap[w.heap.size]? = some (.cells #[.int .i64 s1, .int .i64 (k : Int)] 62 (0, 0)) := by
        rw [RowKit.Below.heap_alloc _ _ _ (by simp)]
        exact heap_alloc_last w _
      exact Only.keep hq h1 (fun h => h)
    obtain ⟨k0, k1, k2, k3, k4, k5, k6, k7, k8, k9⟩ := HP.out w2 hO2
    have hsz2 : w.heap.size + 2 ≤ w2.heap.size := by have := hq.size; simp at this; omega
    generalize hpl : plF es (s1, (k : Int)) = pp at k0 k1 k2 k3 k4 k5 k6 k7 k8 k9 HG HFIN HP
    obtain ⟨⟨d0, d1, d2, d3, d4, d5, d6, d7⟩, ⟨f0, f1⟩⟩ := pp
    dsimp only at k0 k1 k2 k3 k4 k5 k6 k7 k8 k9
    have HO2 := Vx.hid hO2
    have HZY := Vx.hid (⟨hz, hy, hsz2⟩ : _ ∧ _ ∧ _)
    have HPL := Vx.hid hpl
    clear hq hz hy hO2 HO HC hpl hsz2
    go_upto_region 5 with fail
    obtain ⟨wA, hwA⟩ : ∃ wA, wA = w2.alloc (.cells #[.int .i64 d0, .int .i64 d1, .int .i64 d2, .int .u32 d3, .int .u32 d4, .int .i64 d5, .int .i64 d6, .int .u32 d7, .int .i64 f0, .int .i64 f1] 105) := ⟨_, rfl⟩
    rw [← hwA]
    have hOA : Only (fun _ => False) w2 wA := by rw [hwA]; exact (Only.refl _ w2).alloc _
    have hOwA := HO2.out.trans hOA
    have htk : wA.heap[w2.heap.size]? = some (.cells #[.int .i64 d0, .int .i64 d1, .int .i64 d2, .int .u32 d3, .int .u32 d4, .int .i64 d5, .int .i64 d6, .int .u32 d7, .int .i64 f0, .int .i64 f1] 105 (0, 0)) := by rw [hwA]; exact heap_alloc_last w2 _
    have hzA := Only.keep hOA HZY.out.1 (fun h => h)
    have hyA := Only.keep hOA HZY.out.2.1 (fun h => h)
    have HXA := Vx.hid (HX.out.more hOwA)
    obtain ⟨tk, htk2⟩ : ∃ tk, tk = w2.heap.size := ⟨_, rfl⟩
    obtain ⟨rc, hrc⟩ : ∃ rc, rc = w.heap.size + 1 := ⟨_, rfl⟩
    obtain ⟨ab, hab⟩ : ∃ ab, ab = w.heap.size := ⟨_, rfl⟩
    have HNB : Hid (w.heap.size ≤ tk ∧ tk < wA.heap.size ∧ w.heap.size ≤ rc ∧ rc < wA.heap.size ∧ w.heap.size ≤ ab ∧ ab < wA.heap.size) := by
      have h1 := HZY.out.2.2
      have h2 := lt_of_some htk
      exact ⟨by omega, by omega, by omega, by omega, by omega, by omega⟩
    rw [← htk2] at htk
    rw [← hrc] at hzA
    rw [← hab] at hyA
    rw [← htk2, ← hrc, ← hab]
    have HBL := Vx.hid (⟨htk, hzA, hyA⟩ : _ ∧ _ ∧ _)
    obtain ⟨q0, q1, q2, q3, q4, q5, q6, q7, q8, q9⟩ := HP.out wA hOwA
    have gf := bl_fz HXA.out HNN.out.1
    have HOA := Vx.hid hOwA
    clear hwA hOA hOwA htk hzA hyA htk2 hrc hab k0 k1 k2 k3 k4 k5 k6 k7 k8 k9 HZY HO2 HP
    go_upto_region 6 with fail
    obtain ⟨w3, hw3⟩ : ∃ w3, w3 = ((((((((((wA.setCell ⟨G s1, k * 10, none⟩ (.int .i64 0)).setCell ⟨G s1, k * 10 + 1, none⟩ (.int .i64 0)).setCell ⟨G s1, k * 10 + 2, none⟩ (.int .i64 0)).setCell ⟨G s1, k * 10 + 3, none⟩ (.int .u32 0)).setCell ⟨G s1, k * 10 + 4, none⟩ (.int .u32 0)).setCell ⟨G s1, k * 10 + 5, none⟩ (.int .i64 0)).setCell ⟨G s1, k * 10 + 6, none⟩ (.int .i64 0)).setCell ⟨G s1, k * 10 + 7, none⟩ (.int .u32 0)).setCell ⟨G s1, k * 10 + 8, none⟩ (.int .i64 0)).setCell ⟨G s1, k * 10 + 9, none⟩ (.int .i64 0)) := ⟨_, rfl⟩
    rw [← hw3]
    have hkl : k < (rowQ (plF es) s1 n.toNat).length := by rw [rowQ_len]; have := HNN.out.2; omega
    obtain ⟨hwz, hoz⟩ := pl_zero (HXA.out.bl s1 n HNN.out.1) (rowQ_len _ _ _).symm k hkl
    rw [← hw3] at hwz hoz
    obtain ⟨hX3, hO3⟩ := HXA.out.put HNN.out.1 k zeroPl hwz hoz
    have hgs := HX.out.glt (k := s1) (by rw [HNN.out.1]; rfl)
    have htk := Only.keep hoz HBL.out.1 (fun e => by have := HNB.out; omega)
    have hzA := Only.keep hoz HBL.out.2.1 (fun e => by have := HNB.out; omega)
    have hyA := Only.keep hoz HBL.out.2.2 (fun e => by have := HNB.out; omega)
    obtain ⟨⟨y0, y1⟩, yf⟩ := slot_cells hyA
    obtain ⟨⟨t0, t1, t2, t3, t4, t5, t6, t7, t8, t9⟩, tf⟩ := place_cells htk
    have HX3 := Vx.hid hX3
    have HO3 := Vx.hid hO3
    have HB3 := Vx.hid (⟨htk, hzA⟩ : _ ∧ _)
    clear hw3 hwz hoz hX3 hO3 hkl htk hzA hyA q0 q1 q2 q3 q4 q5 q6 q7 q8 q9 gf HBL HXA t0 t1 t2 t3 t4 t5 t6 t7 hgs
    go_wp2_with fail
    refine (HREL.out _ _ (s1, (k : Int)) (f0, f1) HX3.out).mono ?_
    rintro e w4 ⟨⟨v, rfl⟩, hX4, hO4⟩
    have htk := Only.keep hO4 HB3.out.1 (fun e => e (Or.inr ⟨HNB.out.1, HNB.out.2.1⟩))
    have hzA := Only.keep hO4 HB3.out.2 (fun e => e (Or.inr ⟨HNB.out.2.2.1, HNB.out.2.2.2.1⟩))
    obtain ⟨⟨t0, t1, t2, t3, t4, t5, t6, t7, t8, t9⟩, tf⟩ := place_cells htk
    obtain ⟨⟨z0, z1, z2, z3, z4, z5, z6, z7⟩, zf⟩ := cap_cells hzA
    have HX4 := Vx.hid (hX4.less (U := U) (fun k hk => Or.inl hk))
    have HX4V := Vx.hid hX4
    have HO4 : Hid (Only (fun k => ¬ U k) w w4) := ((HOA.out.mono (fun _ _ h => h.elim)).trans (HO3.out.mono (fun k hk h1 h2 => h1 (Or.inl h2)))).trans (hO4.mono (fun k hk h1 h2 => h1 (Or.inl h2)))
    clear hX4 hO4 htk hzA y0 y1 yf HREL HX3 HO3 HB3 HOA HX
    go_wp2_with fail
    have HRC := HNB.out.2.2.1
    have hO5 := only_set8 w4 rc (.int .i64 d0) (.int .i64 d1) (.int .i64 d2) (.int .u32 d3) (.int .u32 d4) (.int .i64 d5) (.int .i64 d6) (.int .u32 d7)
    have hV : (fun k => U k ∨ (w.heap.size ≤ k ∧ k < wA.heap.size)) rc := Or.inr ⟨HNB.out.2.2.1, HNB.out.2.2.2.1⟩
    have hX5 := HX4V.out.aside (V := U) hO5 (fun e => HX4V.out.un (by rw [e]; exact hV)) (fun e => HX4V.out.ux (by rw [e]; exact hV)) (fun e => HX4V.out.um (by rw [e]; exact hV)) (fun k2 hk2 e => HX4V.out.ug k2 hk2 (by rw [e]; exact hV)) HX4.out.un HX4.out.ux HX4.out.um HX4.out.ug (fun k hk => Nat.lt_of_lt_of_le (HX4.out.low k hk) hO5.size)
    refine bodyPost_ret (v := .tuple #[cpV ⟨d0, d1, d2, d3, d4, d5, d6, d7⟩, .int .i64 0]) ?_ rfl ⟨by rw [HG.out], HFIN.out _ hX5, HO4.out.newer hO5 HRC⟩
    simp [results, Tryd.results22, go_sem, cpV, z0, z1, z2, z3, z4, z5, z6, z7]
  · have HG : Hid (takeR bs es s = (zeroCp, er)) := by show getF bs es s = _; unfold getF; rw [hfi]
    have her2 : (er == 0) = false := beq_eq_false_iff_ne.2 her
    have her3 : (er != 0) = true := by simp [bne, her2]
    have HC := Vx.hid hcall
    have HR : Hid (∀ w2, Only (fun _ => False) w w2 → XcAt U w2 xb bs (takeL bs es s)) := fun w2 h2 => by
      have : takeL bs es s = es := by unfold takeL; rw [hfi]
      rw [this]
      exact ⟨mb, D, G, h.quiet h2, hf, hx, hl⟩
    obtain ⟨s1, s2⟩ := s
    clear h hf hx hl hfi hcall hb her HC0
    dsimp only at HC ⊢
    go_enter Tryd.func22, Tryd.ntmps22
    go_wp2_with fail
    refine (HC.out _ (HO.out _ _)).mono ?_
    rintro e w2 ⟨rfl, hq⟩
    have hO2 := (HO.out (.cells #[.int .i64 s1, .int .i64 s2] 62) (.cells #[.int .i64 0, .int .i64 0, .int .i64 0, .int .u32 0, .int .u32 0, .int .i64 0, .int .i64 0, .int .u32 0] 66)).trans hq
    have hz := new_second hq
    have hrl : w.heap.size ≤ w.heap.size + 1 := by omega
    have HO2 := Vx.hid (⟨hO2, hrl⟩ : _ ∧ _)
    obtain ⟨⟨z0, z1, z2, z3, z4, z5, z6, z7⟩, zf⟩ := cap_cells hz
    obtain ⟨rc, hrc⟩ : ∃ rc, rc = w.heap.size + 1 := ⟨_, rfl⟩
    rw [← hrc] at z0 z1 z2 z3 z4 z5 z6 z7 zf HO2 ⊢
    clear hq hz hO2 HO hrc hrl HC
    go_wp2_with fail
    have hO5 : Only (fun _ => False) w ((((((((w2.setCell ⟨rc, 0, none⟩ (.int .i64 0)).setCell ⟨rc, 1, none⟩ (.int .i64 0)).setCell ⟨rc, 2, none⟩ (.int .i64 0)).setCell ⟨rc, 3, none⟩ (.int .u32 0)).setCell ⟨rc, 4, none⟩ (.int .u32 0)).setCell ⟨rc, 5, none⟩ (.int .i64 0)).setCell ⟨rc, 6, none⟩ (.int .i64 0)).setCell ⟨rc, 7, none⟩ (.int .u32 0)) := Only.beyond HO2.out.1 (only_set8 w2 rc _ _ _ _ _ _ _ _) (fun j hj => by subst hj; exact HO2.out.2)
    refine bodyPost_ret (v := .tuple #[cpV zeroCp, .int .i64 er]) ?_ rfl ⟨by rw [HG.out], HR.out _ hO5, hO5.mono (fun _ _ h => h.elim)⟩
    simp [results, Tryd.results22, go_sem, cpV, zeroCp, z0, z1, z2, z3, z4, z5, z6, z7]
end Go.Proofs.YtbmchgjilkoplaaDoor

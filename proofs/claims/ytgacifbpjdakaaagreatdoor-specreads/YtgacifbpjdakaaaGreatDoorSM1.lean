/- SpecReads' law: sameTold of two that tell the same (gen_sm1.py). -/
import Derived.Test.YtgacifbpjdakaaaGreatDoorSM0
import Derived.Test.YtgacifbpjdakaaaGreatDoorRL
import Derived.Deep.CutBlock
import Derived.Deep.QuietTactic
import Derived.BigQuiet
namespace Go.Proofs.YtgacifbpjdakaaaGreatDoor
open Go.ChangeShapes Go.WideShapes Go.ChangeAt Go.RowKit
open Go.Vx
set_option linter.unusedVariables false
set_option linter.unusedSimpArgs false
variable {w w2 : World} {qb xb B C : Nat} {vt vo vc vm vh vi ut uo uc um uh ui : Value} {T : Tx}
/-- Two specs that tell the same. -/
structure SmI (w : World) (qb xb B C : Nat) (vt vo vc vm vh vi ut uo uc um uh ui : Value) (T : Tx) : Prop where
  hq : qb < w.heap.size
  hx : xb < w.heap.size
  qt : w.cell? ⟨qb, 1, none⟩ = some vt
  xt : w.cell? ⟨xb, 2, none⟩ = some ut
  lt : OwnL slL w B 76 vt T.tn
  kt : OwnL slL w C 76 ut T.tn
  nt : T.tn.length ≤ 1000
  qo : w.cell? ⟨qb, 3, none⟩ = some vo
  xo : w.cell? ⟨xb, 4, none⟩ = some uo
  lo : OwnL obL w B 58 vo T.ob
  ko : OwnL obL w C 58 uo T.ob
  no : T.ob.length ≤ 1000
  qc : w.cell? ⟨qb, 5, none⟩ = some vc
  xc : w.cell? ⟨xb, 6, none⟩ = some uc
  lc : OwnL enL w B 84 vc T.cp
  kc : OwnL enL w C 84 uc T.cp
  nc : T.cp.length ≤ 1000
  qm : w.cell? ⟨qb, 6, none⟩ = some vm
  xm : w.cell? ⟨xb, 7, none⟩ = some um
  lm : OwnL mqL w B 86 vm T.mp
  km : OwnL mqL w C 86 um T.mp
  nm : T.mp.length ≤ 1000
  qh : w.cell? ⟨qb, 7, none⟩ = some vh
  xh : w.cell? ⟨xb, 8, none⟩ = some uh
  lh : OwnL thL w B 91 vh T.th
  kh : OwnL thL w C 91 uh T.th
  nh : T.th.length ≤ 1000
  qi : w.cell? ⟨qb, 8, none⟩ = some vi
  xi : w.cell? ⟨xb, 9, none⟩ = some ui
  li : OwnL irL w B 93 vi T.ir
  ki : OwnL irL w C 93 ui T.ir
  ni : T.ir.length ≤ 1000
theorem SmI.quiet (h : SmI w qb xb B C vt vo vc vm vh vi ut uo uc um uh ui T) (ho : Only (fun _ => False) w w2) : SmI w2 qb xb B C vt vo vc vm vh vi ut uo uc um uh ui T := ⟨Nat.lt_of_lt_of_le h.hq ho.size, Nat.lt_of_lt_of_le h.hx ho.size, (ho.cell (p := ⟨qb, 1, none⟩) h.hq (fun h => h)).trans h.qt, (ho.cell (p := ⟨xb, 2, none⟩) h.hx (fun h => h)).trans h.xt, h.lt.kept ho (fun _ _ h => h), h.kt.kept ho (fun _ _ h => h), h.nt, (ho.cell (p := ⟨qb, 3, none⟩) h.hq (fun h => h)).trans h.qo, (ho.cell (p := ⟨xb, 4, none⟩) h.hx (fun h => h)).trans h.xo, h.lo.kept ho (fun _ _ h => h), h.ko.kept ho (fun _ _ h => h), h.no, (ho.cell (p := ⟨qb, 5, none⟩) h.hq (fun h => h)).trans h.qc, (ho.cell (p := ⟨xb, 6, none⟩) h.hx (fun h => h)).trans h.xc, h.lc.kept ho (fun _ _ h => h), h.kc.kept ho (fun _ _ h => h), h.nc, (ho.cell (p := ⟨qb, 6, none⟩) h.hq (fun h => h)).trans h.qm, (ho.cell (p := ⟨xb, 7, none⟩) h.hx (fun h => h)).trans h.xm, h.lm.kept ho (fun _ _ h => h), h.km.kept ho (fun _ _ h => h), h.nm, (ho.cell (p := ⟨qb, 7, none⟩) h.hq (fun h => h)).trans h.qh, (ho.cell (p := ⟨xb, 8, none⟩) h.hx (fun h => h)).trans h.xh, h.lh.kept ho (fun _ _ h => h), h.kh.kept ho (fun _ _ h => h), h.nh, (ho.cell (p := ⟨qb, 8, none⟩) h.hq (fun h => h)).trans h.qi, (ho.cell (p := ⟨xb, 9, none⟩) h.hx (fun h => h)).trans h.xi, h.li.kept ho (fun _ _ h => h), h.ki.kept ho (fun _ _ h => h), h.ni⟩
set_option maxRecDepth 100000 in
set_option maxHeartbeats 8000000 in
theorem same_ok (h : SmI w qb xb B C vt vo vc vm vh vi ut uo uc um uh ui T) : Calls Tryz.prog 9 #[.pointer (some ⟨qb, 0, none⟩), .pointer (some ⟨xb, 1, none⟩)] w fun e w' => e = .returned (.bool true) ∧ Hid (Only (fun _ => False) w w') := by
  have HI := Vx.hid h
  obtain ⟨pt, ct, hvt, hzt⟩ := h.lt.form
  obtain ⟨st, yt, hut, hyt⟩ := h.kt.form
  clear hzt hyt
  obtain ⟨nt, hnt⟩ : ∃ n, n = T.tn.length := ⟨_, rfl⟩
  rw [← hnt] at hvt hut
  subst hvt
  subst hut
  have HNt := Vx.hid hnt
  have hwt : nt ≤ 1000 := by rw [hnt]; exact h.nt
  clear hnt
  obtain ⟨po, co, hvo, hzo⟩ := h.lo.form
  obtain ⟨so, yo, huo, hyo⟩ := h.ko.form
  clear hzo hyo
  obtain ⟨no, hno⟩ : ∃ n, n = T.ob.length := ⟨_, rfl⟩
  rw [← hno] at hvo huo
  subst hvo
  subst huo
  have HNo := Vx.hid hno
  have hwo : no ≤ 1000 := by rw [hno]; exact h.no
  clear hno
  obtain ⟨pc, cc, hvc, hzc⟩ := h.lc.form
  obtain ⟨sc, yc, huc, hyc⟩ := h.kc.form
  clear hzc hyc
  obtain ⟨nc, hnc⟩ : ∃ n, n = T.cp.length := ⟨_, rfl⟩
  rw [← hnc] at hvc huc
  subst hvc
  subst huc
  have HNc := Vx.hid hnc
  have hwc : nc ≤ 1000 := by rw [hnc]; exact h.nc
  clear hnc
  obtain ⟨pm, cm, hvm, hzm⟩ := h.lm.form
  obtain ⟨sm, ym, hum, hym⟩ := h.km.form
  clear hzm hym
  obtain ⟨nm, hnm⟩ : ∃ n, n = T.mp.length := ⟨_, rfl⟩
  rw [← hnm] at hvm hum
  subst hvm
  subst hum
  have HNm := Vx.hid hnm
  have hwm : nm ≤ 1000 := by rw [hnm]; exact h.nm
  clear hnm
  obtain ⟨ph, ch, hvh, hzh⟩ := h.lh.form
  obtain ⟨sh, yh, huh, hyh⟩ := h.kh.form
  clear hzh hyh
  obtain ⟨nh, hnh⟩ : ∃ n, n = T.th.length := ⟨_, rfl⟩
  rw [← hnh] at hvh huh
  subst hvh
  subst huh
  have HNh := Vx.hid hnh
  have hwh : nh ≤ 1000 := by rw [hnh]; exact h.nh
  clear hnh
  obtain ⟨pi, ci, hvi, hzi⟩ := h.li.form
  obtain ⟨si, yi, hui, hyi⟩ := h.ki.form
  clear hzi hyi
  obtain ⟨ni, hni⟩ : ∃ n, n = T.ir.length := ⟨_, rfl⟩
  rw [← hni] at hvi hui
  subst hvi
  subst hui
  have HNi := Vx.hid hni
  have hwi : ni ≤ 1000 := by rw [hni]; exact h.ni
  clear hni
  have HS : Hid (∀ wv, Only (fun _ => False) w wv → wv.cell? ⟨qb, 1, none⟩ = some (.slice pt nt ct) ∧ wv.cell? ⟨xb, 2, none⟩ = some (.slice st nt yt) ∧ wv.cell? ⟨qb, 3, none⟩ = some (.slice po no co) ∧ wv.cell? ⟨xb, 4, none⟩ = some (.slice so no yo) ∧ wv.cell? ⟨qb, 5, none⟩ = some (.slice pc nc cc) ∧ wv.cell? ⟨xb, 6, none⟩ = some (.slice sc nc yc) ∧ wv.cell? ⟨qb, 6, none⟩ = some (.slice pm nm cm) ∧ wv.cell? ⟨xb, 7, none⟩ = some (.slice sm nm ym) ∧ wv.cell? ⟨qb, 7, none⟩ = some (.slice ph nh ch) ∧ wv.cell? ⟨xb, 8, none⟩ = some (.slice sh nh yh) ∧ wv.cell? ⟨qb, 8, none⟩ = some (.slice pi ni ci) ∧ wv.cell? ⟨xb, 9, none⟩ = some (.slice si ni yi)) := fun wv ho => by
    have h9 := HI.out.quiet ho
    exact ⟨h9.qt, h9.xt, h9.qo, h9.xo, h9.qc, h9.xc, h9.qm, h9.xm, h9.qh, h9.xh, h9.qi, h9.xi⟩
  clear h
  go_enter Tryz.func9, Tryz.ntmps9
  go_upto_region 1 with fail
  have HS0 := Vx.hid (HS.out w.drew ((Only.refl _ w).drew))
  have aat : w.cell? ⟨qb, 1, none⟩ = some (.slice pt nt ct) := HI.out.qt
  have bbt : w.cell? ⟨xb, 2, none⟩ = some (.slice st nt yt) := HI.out.xt
  have zt : ((nt : Int) != (nt : Int)) = false := by simp
  have aao : w.cell? ⟨qb, 3, none⟩ = some (.slice po no co) := HI.out.qo
  have bbo : w.cell? ⟨xb, 4, none⟩ = some (.slice so no yo) := HI.out.xo
  have zo : ((no : Int) != (no : Int)) = false := by simp
  have aac : w.cell? ⟨qb, 5, none⟩ = some (.slice pc nc cc) := HI.out.qc
  have bbc : w.cell? ⟨xb, 6, none⟩ = some (.slice sc nc yc) := HI.out.xc
  have zc : ((nc : Int) != (nc : Int)) = false := by simp
  have aam : w.cell? ⟨qb, 6, none⟩ = some (.slice pm nm cm) := HI.out.qm
  have bbm : w.cell? ⟨xb, 7, none⟩ = some (.slice sm nm ym) := HI.out.xm
  have zm : ((nm : Int) != (nm : Int)) = false := by simp
  have aah : w.cell? ⟨qb, 7, none⟩ = some (.slice ph nh ch) := HI.out.qh
  have bbh : w.cell? ⟨xb, 8, none⟩ = some (.slice sh nh yh) := HI.out.xh
  have zh : ((nh : Int) != (nh : Int)) = false := by simp
  have aai : w.cell? ⟨qb, 8, none⟩ = some (.slice pi ni ci) := HI.out.qi
  have bbi : w.cell? ⟨xb, 9, none⟩ = some (.slice si ni yi) := HI.out.xi
  have zi : ((ni : Int) != (ni : Int)) = false := by simp
  have HO0 : Hid (∀ q, Only (fun _ => False) w (w.drewN q)) := fun q => (Only.refl _ w).drewN q
  clear HS0
  go_quiet (fail)
  clear aat bbt zt aao bbo zo aac bbc zc aam bbm zm aah bbh zh aai bbi zi
  go_wp2_with fail
  go_loopw [5, 6] (fun b d wr => b = .bool true ∧ ∃ k : Nat, d = .int .i64 (k : Int) ∧ k ≤ nt ∧ Hid (Only (fun _ => False) w wr)) (fun _ d _ => nt - (RowKit.intOf d).toNat)
  case atStart => exact ⟨rfl, 0, rfl, Nat.zero_le _, HO0.out _⟩
  case round =>
    obtain ⟨rfl, k, rfl, hk, HO1⟩ := hrel
    clear HO0
    by_cases hlt : k < nt
    · as_aux_lemma =>
      have hI := HI.out.quiet HO1.out
      have hkl : k < T.tn.length := by rw [← HNt.out]; exact hlt
      obtain ⟨g, c9, hvg, hg, hrg⟩ := own_el hI.lt k hkl
      obtain ⟨g', c9', hvg', hg', hrg'⟩ := own_el hI.kt k hkl
      have hsz : slL.sz = 2 := rfl
      rw [hsz] at hrg hrg'
      generalize T.tn[k] = el at hrg hrg'
      injection hvg with hvg _ _
      injection hvg' with hvg' _ _
      subst hvg
      subst hvg'
      have e1 := hI.qt
      have e2 := hI.xt
      have h1 : (k : Int) < (nt : Int) := by omega
      have hidx : 0 ≤ (k : Int) ∧ (k : Int) < (nt : Int) := by omega
      have hwk : IntKind.i64.wrap ((k : Int) + 1) = (k : Int) + 1 := by rw [IntKind.wrap_i64]; omega
      have HSE : Hid (wr.drew.cell? ⟨qb, 1, none⟩ = some (.slice (some ⟨g, 0, none⟩) nt ct) ∧ wr.drew.cell? ⟨xb, 2, none⟩ = some (.slice (some ⟨g', 0, none⟩) nt yt) ∧ wr.drew.rangeAt g (k * 2) (slL.cf el) ∧ wr.drew.rangeAt g' (k * 2) (slL.cf el)) := ⟨e1, e2, hrg, hrg'⟩
      have HO9 := Vx.hid (HO1.out.drew)
      clear hI hkl hrg hrg' hg hg' hsz
      go_upto_region 7 with fail
      clear e1 e2
      refine wp_region_held (S := (fun wv => wv.cell? ⟨qb, 1, none⟩ = some (.slice (some ⟨g, 0, none⟩) nt ct) ∧ wv.cell? ⟨xb, 2, none⟩ = some (.slice (some ⟨g', 0, none⟩) nt yt) ∧ wv.rangeAt g (k * 2) (slL.cf el) ∧ wv.rangeAt g' (k * 2) (slL.cf el))) (by kernel_rfl) ?_
      simp only [List.size_toArray, List.length_cons, List.length_nil, Nat.zero_add, Nat.reduceAdd]
      refine wpAnyH_take (i := 0) (v := ?v7_0_1) (by simp only [List.getElem?_toArray, List.getElem?_cons_zero, List.getElem?_cons_succ]; rfl) (by kernel_rfl) (by kernel_rfl) (by kernel_rfl) (by exact fun _ _ _ h => h) (Or.inl ⟨by rfl, ?hy7_0_1⟩) HSE.out ?_
      case hy7_0_1 => (intro wq hSw; (try dsimp only at hSw); go_simp; try (with_reducible rfl))
      try simp only [Act.put, List.setIfInBounds_toArray, List.set_cons_zero, List.set_cons_succ]
      refine wpAnyH_take (i := 1) (v := ?v7_1_2) (by simp only [List.getElem?_toArray, List.getElem?_cons_zero, List.getElem?_cons_succ]; rfl) (by kernel_rfl) (by kernel_rfl) (by kernel_rfl) (by exact fun _ _ _ h => h) (Or.inl ⟨by rfl, ?hy7_1_2⟩) HSE.out ?_
      case hy7_1_2 => (intro wq hSw; (try dsimp only at hSw); go_simp; try (with_reducible rfl))
      try simp only [Act.put, List.setIfInBounds_toArray, List.set_cons_zero, List.set_cons_succ]
      refine wpAnyH_take (i := 2) (v := ?v7_2_3) (by simp only [List.getElem?_toArray, List.getElem?_cons_zero, List.getElem?_cons_succ]; rfl) (by kernel_rfl) (by kernel_rfl) (by kernel_rfl) (by exact fun _ _ _ h => h) (Or.inl ⟨by rfl, ?hy7_2_3⟩) HSE.out ?_
      case hy7_2_3 => (intro wq hSw; (try dsimp only at hSw); go_simp; try (with_reducible rfl))
      try simp only [Act.put, List.setIfInBounds_toArray, List.set_cons_zero, List.set_cons_succ]
      refine wpAnyH_take (i := 3) (v := ?v7_3_4) (by simp only [List.getElem?_toArray, List.getElem?_cons_zero, List.getElem?_cons_succ]; rfl) (by kernel_rfl) (by kernel_rfl) (by kernel_rfl) (by exact fun _ _ _ h => h) (Or.inl ⟨by rfl, ?hy7_3_4⟩) HSE.out ?_
      case hy7_3_4 => (intro wq hSw; (try dsimp only at hSw); go_simp; try (with_reducible rfl))
      try simp only [Act.put, List.setIfInBounds_toArray, List.set_cons_zero, List.set_cons_succ]
      refine wpAnyH_take (i := 4) (v := ?v7_4_5) (by simp only [List.getElem?_toArray, List.getElem?_cons_zero, List.getElem?_cons_succ]; rfl) (by kernel_rfl) (by kernel_rfl) (by kernel_rfl) (by exact fun _ _ _ h => h) (Or.inl ⟨by rfl, ?hy7_4_5⟩) HSE.out ?_
      case hy7_4_5 => (intro wq hSw; (try dsimp only at hSw); go_simp; try (with_reducible rfl))
      try simp only [Act.put, List.setIfInBounds_toArray, List.set_cons_zero, List.set_cons_succ]
      refine wpAnyH_take (i := 5) (v := ?v7_5_6) (by simp only [List.getElem?_toArray, List.getElem?_cons_zero, List.getElem?_cons_succ]; rfl) (by kernel_rfl) (by kernel_rfl) (by kernel_rfl) (by exact fun _ _ _ h => h) (Or.inl ⟨by rfl, ?hy7_5_6⟩) HSE.out ?_
      case hy7_5_6 => (intro wq hSw; (try dsimp only at hSw); go_simp; try (with_reducible rfl))
      try simp only [Act.put, List.setIfInBounds_toArray, List.set_cons_zero, List.set_cons_succ]
      refine wpAnyH_take (i := 6) (v := ?v7_6_7) (by simp only [List.getElem?_toArray, List.getElem?_cons_zero, List.getElem?_cons_succ]; rfl) (by kernel_rfl) (by kernel_rfl) (by kernel_rfl) (by exact fun _ _ _ h => h) (Or.inl ⟨by rfl, ?hy7_6_7⟩) HSE.out ?_
      case hy7_6_7 => (intro wq hSw; (try dsimp only at hSw); go_simp; try (with_reducible rfl))
      try simp only [Act.put, List.setIfInBounds_toArray, List.set_cons_zero, List.set_cons_succ]
      refine wpAnyH_take (i := 7) (v := ?v7_7_8) (by simp only [List.getElem?_toArray, List.getElem?_cons_zero, List.getElem?_cons_succ]; rfl) (by kernel_rfl) (by kernel_rfl) (by kernel_rfl) (by exact fun _ _ _ h => h) (Or.inl ⟨by rfl, ?hy7_7_8⟩) HSE.out ?_
      case hy7_7_8 => (intro wq hSw; (try dsimp only at hSw); go_simp; try (with_reducible rfl))
      try simp only [Act.put, List.setIfInBounds_toArray, List.set_cons_zero, List.set_cons_succ]
      refine wpAnyH_take (i := 8) (v := ?v7_8_9) (by simp only [List.getElem?_toArray, List.getElem?_cons_zero, List.getElem?_cons_succ]; rfl) (by kernel_rfl) (by kernel_rfl) (by kernel_rfl) (by exact fun _ _ _ h => h) (Or.inl ⟨by rfl, ?hy7_8_9⟩) HSE.out ?_
      case hy7_8_9 => (intro wq hSw; refine (ld_t (.tmp 104) rfl (by simp [Act.eval]) hSw.2.2.1).trans ?_; with_reducible rfl)
      try simp only [Act.put, List.setIfInBounds_toArray, List.set_cons_zero, List.set_cons_succ]
      refine wpAnyH_take (i := 9) (v := ?v7_9_10) (by simp only [List.getElem?_toArray, List.getElem?_cons_zero, List.getElem?_cons_succ]; rfl) (by kernel_rfl) (by kernel_rfl) (by kernel_rfl) (by exact fun _ _ _ h => h) (Or.inl ⟨by rfl, ?hy7_9_10⟩) HSE.out ?_
      case hy7_9_10 => (intro wq hSw; (try dsimp only at hSw); go_simp; try (with_reducible rfl))
      try simp only [Act.put, List.setIfInBounds_toArray, List.set_cons_zero, List.set_cons_succ]
      refine wpAnyH_take (i := 10) (v := ?v7_10_11) (by simp only [List.getElem?_toArray, List.getElem?_cons_zero, List.getElem?_cons_succ]; rfl) (by kernel_rfl) (by kernel_rfl) (by kernel_rfl) (by exact fun _ _ _ h => h) (Or.inl ⟨by rfl, ?hy7_10_11⟩) HSE.out ?_
      case hy7_10_11 => (intro wq hSw; (try dsimp only at hSw); go_simp; try (with_reducible rfl))
      try simp only [Act.put, List.setIfInBounds_toArray, List.set_cons_zero, List.set_cons_succ]
      refine wpAnyH_take (i := 11) (v := ?v7_11_12) (by simp only [List.getElem?_toArray, List.getElem?_cons_zero, List.getElem?_cons_succ]; rfl) (by kernel_rfl) (by kernel_rfl) (by kernel_rfl) (by exact fun _ _ _ h => h) (Or.inl ⟨by rfl, ?hy7_11_12⟩) HSE.out ?_
      case hy7_11_12 => (intro wq hSw; (try dsimp only at hSw); go_simp; try (with_reducible rfl))
      try simp only [Act.put, List.setIfInBounds_toArray, List.set_cons_zero, List.set_cons_succ]
      refine wpAnyH_take (i := 12) (v := ?v7_12_13) (by simp only [List.getElem?_toArray, List.getElem?_cons_zero, List.getElem?_cons_succ]; rfl) (by kernel_rfl) (by kernel_rfl) (by kernel_rfl) (by exact fun _ _ _ h => h) (Or.inl ⟨by rfl, ?hy7_12_13⟩) HSE.out ?_
      case hy7_12_13 => (intro wq hSw; (try dsimp only at hSw); go_simp; try (with_reducible rfl))
      try simp only [Act.put, List.setIfInBounds_toArray, List.set_cons_zero, List.set_cons_succ]
      refine wpAnyH_take (i := 13) (v := ?v7_13_14) (by simp only [List.getElem?_toArray, List.getElem?_cons_zero, List.getElem?_cons_succ]; rfl) (by kernel_rfl) (by kernel_rfl) (by kernel_rfl) (by exact fun _ _ _ h => h) (Or.inl ⟨by rfl, ?hy7_13_14⟩) HSE.out ?_
      case hy7_13_14 => (intro wq hSw; (try dsimp only at hSw); go_simp; try (with_reducible rfl))
      try simp only [Act.put, List.setIfInBounds_toArray, List.set_cons_zero, List.set_cons_succ]
      refine wpAnyH_take (i := 14) (v := ?v7_14_15) (by simp only [List.getElem?_toArray, List.getElem?_cons_zero, List.getElem?_cons_succ]; rfl) (by kernel_rfl) (by kernel_rfl) (by kernel_rfl) (by exact fun _ _ _ h => h) (Or.inl ⟨by rfl, ?hy7_14_15⟩) HSE.out ?_
      case hy7_14_15 => (intro wq hSw; (try dsimp only at hSw); go_simp; try (with_reducible rfl))
      try simp only [Act.put, List.setIfInBounds_toArray, List.set_cons_zero, List.set_cons_succ]
      refine wpAnyH_take (i := 15) (v := ?v7_15_16) (by simp only [List.getElem?_toArray, List.getElem?_cons_zero, List.getElem?_cons_succ]; rfl) (by kernel_rfl) (by kernel_rfl) (by kernel_rfl) (by exact fun _ _ _ h => h) (Or.inl ⟨by rfl, ?hy7_15_16⟩) HSE.out ?_
      case hy7_15_16 => (intro wq hSw; refine (ld_t (.tmp 111) rfl (by simp [Act.eval]) hSw.2.2.2).trans ?_; with_reducible rfl)
      try simp only [Act.put, List.setIfInBounds_toArray, List.set_cons_zero, List.set_cons_succ]
      refine wpAnyH_take (i := 16) (v := ?v7_16_17) (by simp only [List.getElem?_toArray, List.getElem?_cons_zero, List.getElem?_cons_succ]; rfl) (by kernel_rfl) (by kernel_rfl) (by kernel_rfl) (by exact fun _ _ _ h => h) (Or.inl ⟨by rfl, ?hy7_16_17⟩) HSE.out ?_
      case hy7_16_17 => (intro wq hSw; refine (eq_t (e := el) (.tmp 105) (.tmp 112) _ rfl (by simp [Act.eval]) (by simp [Act.eval])).trans ?_; with_reducible rfl)
      try simp only [Act.put, List.setIfInBounds_toArray, List.set_cons_zero, List.set_cons_succ]
      refine wpAnyH_take (i := 17) (v := ?v7_17_18) (by simp only [List.getElem?_toArray, List.getElem?_cons_zero, List.getElem?_cons_succ]; rfl) (by kernel_rfl) (by kernel_rfl) (by kernel_rfl) (by exact fun _ _ _ h => h) (Or.inl ⟨by rfl, ?hy7_17_18⟩) HSE.out ?_
      case hy7_17_18 => (intro wq hSw; (try dsimp only at hSw); go_simp; try (with_reducible rfl))
      try simp only [Act.put, List.setIfInBounds_toArray, List.set_cons_zero, List.set_cons_succ]
      refine wpAnyH_take (i := 18) (v := ?v7_18_19) (by simp only [List.getElem?_toArray, List.getElem?_cons_zero, List.getElem?_cons_succ]; rfl) (by kernel_rfl) (by kernel_rfl) (by kernel_rfl) (by exact fun _ _ _ h => h) (Or.inl ⟨by rfl, ?hy7_18_19⟩) HSE.out ?_
      case hy7_18_19 => (intro wq hSw; (try dsimp only at hSw); go_simp; try (with_reducible rfl))
      try simp only [Act.put, List.setIfInBounds_toArray, List.set_cons_zero, List.set_cons_succ]
      refine wpAnyH_done (by kernel_rfl) ?_ _
      go_wp2_with fail
      go_roundw
      case rel => exact ⟨rfl, k + 1, by go_num, by omega, HO9.out⟩
      case measure => simp only [RowKit.intOf]; omega
    · have h1 : ¬ (k : Int) < (nt : Int) := by omega
      have e1 := (HI.out.quiet HO1.out).qt
      clear hlt hk
      go_wp2_with fail
      go_loopw [5, 7] (fun b d wr => b = .bool true ∧ ∃ k : Nat, d = .int .i64 (k : Int) ∧ k ≤ no ∧ Hid (Only (fun _ => False) w wr)) (fun _ d _ => no - (RowKit.intOf d).toNat)
      case atStart => exact ⟨rfl, 0, rfl, Nat.zero_le _, HO1.out⟩
      case round =>
        obtain ⟨rfl, k, rfl, hk, HO2⟩ := hrel
        clear HO1
        by_cases hlt : k < no
        · as_aux_lemma =>
          have hI := HI.out.quiet HO2.out
          have hkl : k < T.ob.length := by rw [← HNo.out]; exact hlt
          obtain ⟨g, c9, hvg, hg, hrg⟩ := own_el hI.lo k hkl
          obtain ⟨g', c9', hvg', hg', hrg'⟩ := own_el hI.ko k hkl
          have hsz : obL.sz = 3 := rfl
          rw [hsz] at hrg hrg'
          generalize T.ob[k] = el at hrg hrg'
          injection hvg with hvg _ _
          injection hvg' with hvg' _ _
          subst hvg
          subst hvg'
          have e1 := hI.qo
          have e2 := hI.xo
          have h1 : (k : Int) < (no : Int) := by omega
          have hidx : 0 ≤ (k : Int) ∧ (k : Int) < (no : Int) := by omega
          have hwk : IntKind.i64.wrap ((k : Int) + 1) = (k : Int) + 1 := by rw [IntKind.wrap_i64]; omega
          have HSE : Hid (wr.drew.cell? ⟨qb, 3, none⟩ = some (.slice (some ⟨g, 0, none⟩) no co) ∧ wr.drew.cell? ⟨xb, 4, none⟩ = some (.slice (some ⟨g', 0, none⟩) no yo) ∧ wr.drew.rangeAt g (k * 3) (obL.cf el) ∧ wr.drew.rangeAt g' (k * 3) (obL.cf el)) := ⟨e1, e2, hrg, hrg'⟩
          have HO9 := Vx.hid (HO2.out.drew)
          clear hI hkl hrg hrg' hg hg' hsz
          go_upto_region 11 with fail
          clear e1 e2
          refine wp_region_held (S := (fun wv => wv.cell? ⟨qb, 3, none⟩ = some (.slice (some ⟨g, 0, none⟩) no co) ∧ wv.cell? ⟨xb, 4, none⟩ = some (.slice (some ⟨g', 0, none⟩) no yo) ∧ wv.rangeAt g (k * 3) (obL.cf el) ∧ wv.rangeAt g' (k * 3) (obL.cf el))) (by kernel_rfl) ?_
          simp only [List.size_toArray, List.length_cons, List.length_nil, Nat.zero_add, Nat.reduceAdd]
          refine wpAnyH_take (i := 0) (v := ?v11_0_1) (by simp only [List.getElem?_toArray, List.getElem?_cons_zero, List.getElem?_cons_succ]; rfl) (by kernel_rfl) (by kernel_rfl) (by kernel_rfl) (by exact fun _ _ _ h => h) (Or.inl ⟨by rfl, ?hy11_0_1⟩) HSE.out ?_
          case hy11_0_1 => (intro wq hSw; (try dsimp only at hSw); go_simp; try (with_reducible rfl))
          try simp only [Act.put, List.setIfInBounds_toArray, List.set_cons_zero, List.set_cons_succ]
          refine wpAnyH_take (i := 1) (v := ?v11_1_2) (by simp only [List.getElem?_toArray, List.getElem?_cons_zero, List.getElem?_cons_succ]; rfl) (by kernel_rfl) (by kernel_rfl) (by kernel_rfl) (by exact fun _ _ _ h => h) (Or.inl ⟨by rfl, ?hy11_1_2⟩) HSE.out ?_
          case hy11_1_2 => (intro wq hSw; (try dsimp only at hSw); go_simp; try (with_reducible rfl))
          try simp only [Act.put, List.setIfInBounds_toArray, List.set_cons_zero, List.set_cons_succ]
          refine wpAnyH_take (i := 2) (v := ?v11_2_3) (by simp only [List.getElem?_toArray, List.getElem?_cons_zero, List.getElem?_cons_succ]; rfl) (by kernel_rfl) (by kernel_rfl) (by kernel_rfl) (by exact fun _ _ _ h => h) (Or.inl ⟨by rfl, ?hy11_2_3⟩) HSE.out ?_
          case hy11_2_3 => (intro wq hSw; (try dsimp only at hSw); go_simp; try (with_reducible rfl))
          try simp only [Act.put, List.setIfInBounds_toArray, List.set_cons_zero, List.set_cons_succ]
          refine wpAnyH_take (i := 3) (v := ?v11_3_4) (by simp only [List.getElem?_toArray, List.getElem?_cons_zero, List.getElem?_cons_succ]; rfl) (by kernel_rfl) (by kernel_rfl) (by kernel_rfl) (by exact fun _ _ _ h => h) (Or.inl ⟨by rfl, ?hy11_3_4⟩) HSE.out ?_
          case hy11_3_4 => (intro wq hSw; (try dsimp only at hSw); go_simp; try (with_reducible rfl))
          try simp only [Act.put, List.setIfInBounds_toArray, List.set_cons_zero, List.set_cons_succ]
          refine wpAnyH_take (i := 4) (v := ?v11_4_5) (by simp only [List.getElem?_toArray, List.getElem?_cons_zero, List.getElem?_cons_succ]; rfl) (by kernel_rfl) (by kernel_rfl) (by kernel_rfl) (by exact fun _ _ _ h => h) (Or.inl ⟨by rfl, ?hy11_4_5⟩) HSE.out ?_
          case hy11_4_5 => (intro wq hSw; (try dsimp only at hSw); go_simp; try (with_reducible rfl))
          try simp only [Act.put, List.setIfInBounds_toArray, List.set_cons_zero, List.set_cons_succ]
          refine wpAnyH_take (i := 5) (v := ?v11_5_6) (by simp only [List.getElem?_toArray, List.getElem?_cons_zero, List.getElem?_cons_succ]; rfl) (by kernel_rfl) (by kernel_rfl) (by kernel_rfl) (by exact fun _ _ _ h => h) (Or.inl ⟨by rfl, ?hy11_5_6⟩) HSE.out ?_
          case hy11_5_6 => (intro wq hSw; (try dsimp only at hSw); go_simp; try (with_reducible rfl))
          try simp only [Act.put, List.setIfInBounds_toArray, List.set_cons_zero, List.set_cons_succ]
          refine wpAnyH_take (i := 6) (v := ?v11_6_7) (by simp only [List.getElem?_toArray, List.getElem?_cons_zero, List.getElem?_cons_succ]; rfl) (by kernel_rfl) (by kernel_rfl) (by kernel_rfl) (by exact fun _ _ _ h => h) (Or.inl ⟨by rfl, ?hy11_6_7⟩) HSE.out ?_
          case hy11_6_7 => (intro wq hSw; (try dsimp only at hSw); go_simp; try (with_reducible rfl))
          try simp only [Act.put, List.setIfInBounds_toArray, List.set_cons_zero, List.set_cons_succ]
          refine wpAnyH_take (i := 7) (v := ?v11_7_8) (by simp only [List.getElem?_toArray, List.getElem?_cons_zero, List.getElem?_cons_succ]; rfl) (by kernel_rfl) (by kernel_rfl) (by kernel_rfl) (by exact fun _ _ _ h => h) (Or.inl ⟨by rfl, ?hy11_7_8⟩) HSE.out ?_
          case hy11_7_8 => (intro wq hSw; (try dsimp only at hSw); go_simp; try (with_reducible rfl))
          try simp only [Act.put, List.setIfInBounds_toArray, List.set_cons_zero, List.set_cons_succ]
          refine wpAnyH_take (i := 8) (v := ?v11_8_9) (by simp only [List.getElem?_toArray, List.getElem?_cons_zero, List.getElem?_cons_succ]; rfl) (by kernel_rfl) (by kernel_rfl) (by kernel_rfl) (by exact fun _ _ _ h => h) (Or.inl ⟨by rfl, ?hy11_8_9⟩) HSE.out ?_
          case hy11_8_9 => (intro wq hSw; refine (ld_o (.tmp 131) rfl (by simp [Act.eval]) hSw.2.2.1).trans ?_; with_reducible rfl)
          try simp only [Act.put, List.setIfInBounds_toArray, List.set_cons_zero, List.set_cons_succ]
          refine wpAnyH_take (i := 9) (v := ?v11_9_10) (by simp only [List.getElem?_toArray, List.getElem?_cons_zero, List.getElem?_cons_succ]; rfl) (by kernel_rfl) (by kernel_rfl) (by kernel_rfl) (by exact fun _ _ _ h => h) (Or.inl ⟨by rfl, ?hy11_9_10⟩) HSE.out ?_
          case hy11_9_10 => (intro wq hSw; (try dsimp only at hSw); go_simp; try (with_reducible rfl))
          try simp only [Act.put, List.setIfInBounds_toArray, List.set_cons_zero, List.set_cons_succ]
          refine wpAnyH_take (i := 10) (v := ?v11_10_11) (by simp only [List.getElem?_toArray, List.getElem?_cons_zero, List.getElem?_cons_succ]; rfl) (by kernel_rfl) (by kernel_rfl) (by kernel_rfl) (by exact fun _ _ _ h => h) (Or.inl ⟨by rfl, ?hy11_10_11⟩) HSE.out ?_
          case hy11_10_11 => (intro wq hSw; (try dsimp only at hSw); go_simp; try (with_reducible rfl))
          try simp only [Act.put, List.setIfInBounds_toArray, List.set_cons_zero, List.set_cons_succ]
          refine wpAnyH_take (i := 11) (v := ?v11_11_12) (by simp only [List.getElem?_toArray, List.getElem?_cons_zero, List.getElem?_cons_succ]; rfl) (by kernel_rfl) (by kernel_rfl) (by kernel_rfl) (by exact fun _ _ _ h => h) (Or.inl ⟨by rfl, ?hy11_11_12⟩) HSE.out ?_
          case hy11_11_12 => (intro wq hSw; (try dsimp only at hSw); go_simp; try (with_reducible rfl))
          try simp only [Act.put, List.setIfInBounds_toArray, List.set_cons_zero, List.set_cons_succ]
          refine wpAnyH_take (i := 12) (v := ?v11_12_13) (by simp only [List.getElem?_toArray, List.getElem?_cons_zero, List.getElem?_cons_succ]; rfl) (by kernel_rfl) (by kernel_rfl) (by kernel_rfl) (by exact fun _ _ _ h => h) (Or.inl ⟨by rfl, ?hy11_12_13⟩) HSE.out ?_
          case hy11_12_13 => (intro wq hSw; (try dsimp only at hSw); go_simp; try (with_reducible rfl))
          try simp only [Act.put, List.setIfInBounds_toArray, List.set_cons_zero, List.set_cons_succ]
          refine wpAnyH_take (i := 13) (v := ?v11_13_14) (by simp only [List.getElem?_toArray, List.getElem?_cons_zero, List.getElem?_cons_succ]; rfl) (by kernel_rfl) (by kernel_rfl) (by kernel_rfl) (by exact fun _ _ _ h => h) (Or.inl ⟨by rfl, ?hy11_13_14⟩) HSE.out ?_
          case hy11_13_14 => (intro wq hSw; (try dsimp only at hSw); go_simp; try (with_reducible rfl))
          try simp only [Act.put, List.setIfInBounds_toArray, List.set_cons_zero, List.set_cons_succ]
          refine wpAnyH_take (i := 14) (v := ?v11_14_15) (by simp only [List.getElem?_toArray, List.getElem?_cons_zero, List.getElem?_cons_succ]; rfl) (by kernel_rfl) (by kernel_rfl) (by kernel_rfl) (by exact fun _ _ _ h => h) (Or.inl ⟨by rfl, ?hy11_14_15⟩) HSE.out ?_
          case hy11_14_15 => (intro wq hSw; (try dsimp only at hSw); go_simp; try (with_reducible rfl))
          try simp only [Act.put, List.setIfInBounds_toArray, List.set_cons_zero, List.set_cons_succ]
          refine wpAnyH_take (i := 15) (v := ?v11_15_16) (by simp only [List.getElem?_toArray, List.getElem?_cons_zero, List.getElem?_cons_succ]; rfl) (by kernel_rfl) (by kernel_rfl) (by kernel_rfl) (by exact fun _ _ _ h => h) (Or.inl ⟨by rfl, ?hy11_15_16⟩) HSE.out ?_
          case hy11_15_16 => (intro wq hSw; refine (ld_o (.tmp 138) rfl (by simp [Act.eval]) hSw.2.2.2).trans ?_; with_reducible rfl)
          try simp only [Act.put, List.setIfInBounds_toArray, List.set_cons_zero, List.set_cons_succ]
          refine wpAnyH_take (i := 16) (v := ?v11_16_17) (by simp only [List.getElem?_toArray, List.getElem?_cons_zero, List.getElem?_cons_succ]; rfl) (by kernel_rfl) (by kernel_rfl) (by kernel_rfl) (by exact fun _ _ _ h => h) (Or.inl ⟨by rfl, ?hy11_16_17⟩) HSE.out ?_
          case hy11_16_17 => (intro wq hSw; refine (eq_o (e := el) (.tmp 132) (.tmp 139) _ rfl (by simp [Act.eval]) (by simp [Act.eval])).trans ?_; with_reducible rfl)
          try simp only [Act.put, List.setIfInBounds_toArray, List.set_cons_zero, List.set_cons_succ]
          refine wpAnyH_take (i := 17) (v := ?v11_17_18) (by simp only [List.getElem?_toArray, List.getElem?_cons_zero, List.getElem?_cons_succ]; rfl) (by kernel_rfl) (by kernel_rfl) (by kernel_rfl) (by exact fun _ _ _ h => h) (Or.inl ⟨by rfl, ?hy11_17_18⟩) HSE.out ?_
          case hy11_17_18 => (intro wq hSw; (try dsimp only at hSw); go_simp; try (with_reducible rfl))
          try simp only [Act.put, List.setIfInBounds_toArray, List.set_cons_zero, List.set_cons_succ]
          refine wpAnyH_take (i := 18) (v := ?v11_18_19) (by simp only [List.getElem?_toArray, List.getElem?_cons_zero, List.getElem?_cons_succ]; rfl) (by kernel_rfl) (by kernel_rfl) (by kernel_rfl) (by exact fun _ _ _ h => h) (Or.inl ⟨by rfl, ?hy11_18_19⟩) HSE.out ?_
          case hy11_18_19 => (intro wq hSw; (try dsimp only at hSw); go_simp; try (with_reducible rfl))
          try simp only [Act.put, List.setIfInBounds_toArray, List.set_cons_zero, List.set_cons_succ]
          refine wpAnyH_done (by kernel_rfl) ?_ _
          go_wp2_with fail
          go_roundw
          case rel => exact ⟨rfl, k + 1, by go_num, by omega, HO9.out⟩
          case measure => simp only [RowKit.intOf]; omega
        · have h1 : ¬ (k : Int) < (no : Int) := by omega
          have e1 := (HI.out.quiet HO2.out).qo
          clear hlt hk
          go_wp2_with fail
          go_loopw [5, 8] (fun b d wr => b = .bool true ∧ ∃ k : Nat, d = .int .i64 (k : Int) ∧ k ≤ nc ∧ Hid (Only (fun _ => False) w wr)) (fun _ d _ => nc - (RowKit.intOf d).toNat)
          case atStart => exact ⟨rfl, 0, rfl, Nat.zero_le _, HO2.out⟩
          case round =>
            obtain ⟨rfl, k, rfl, hk, HO3⟩ := hrel
            clear HO2
            by_cases hlt : k < nc
            · as_aux_lemma =>
              have hI := HI.out.quiet HO3.out
              have hkl : k < T.cp.length := by rw [← HNc.out]; exact hlt
              obtain ⟨g, c9, hvg, hg, hrg⟩ := own_el hI.lc k hkl
              obtain ⟨g', c9', hvg', hg', hrg'⟩ := own_el hI.kc k hkl
              have hsz : enL.sz = 12 := rfl
              rw [hsz] at hrg hrg'
              generalize T.cp[k] = el at hrg hrg'
              injection hvg with hvg _ _
              injection hvg' with hvg' _ _
              subst hvg
              subst hvg'
              have e1 := hI.qc
              have e2 := hI.xc
              have h1 : (k : Int) < (nc : Int) := by omega
              have hidx : 0 ≤ (k : Int) ∧ (k : Int) < (nc : Int) := by omega
              have hwk : IntKind.i64.wrap ((k : Int) + 1) = (k : Int) + 1 := by rw [IntKind.wrap_i64]; omega
              have HSE : Hid (wr.drew.cell? ⟨qb, 5, none⟩ = some (.slice (some ⟨g, 0, none⟩) nc cc) ∧ wr.drew.cell? ⟨xb, 6, none⟩ = some (.slice (some ⟨g', 0, none⟩) nc yc) ∧ wr.drew.rangeAt g (k * 12) (enL.cf el) ∧ wr.drew.rangeAt g' (k * 12) (enL.cf el)) := ⟨e1, e2, hrg, hrg'⟩
              have HO9 := Vx.hid (HO3.out.drew)
              clear hI hkl hrg hrg' hg hg' hsz
              go_upto_region 15 with fail
              clear e1 e2
              refine wp_region_held (S := (fun wv => wv.cell? ⟨qb, 5, none⟩ = some (.slice (some ⟨g, 0, none⟩) nc cc) ∧ wv.cell? ⟨xb, 6, none⟩ = some (.slice (some ⟨g', 0, none⟩) nc yc) ∧ wv.rangeAt g (k * 12) (enL.cf el) ∧ wv.rangeAt g' (k * 12) (enL.cf el))) (by kernel_rfl) ?_
              simp only [List.size_toArray, List.length_cons, List.length_nil, Nat.zero_add, Nat.reduceAdd]
              refine wpAnyH_take (i := 0) (v := ?v15_0_1) (by simp only [List.getElem?_toArray, List.getElem?_cons_zero, List.getElem?_cons_succ]; rfl) (by kernel_rfl) (by kernel_rfl) (by kernel_rfl) (by exact fun _ _ _ h => h) (Or.inl ⟨by rfl, ?hy15_0_1⟩) HSE.out ?_
              case hy15_0_1 => (intro wq hSw; (try dsimp only at hSw); go_simp; try (with_reducible rfl))
              try simp only [Act.put, List.setIfInBounds_toArray, List.set_cons_zero, List.set_cons_succ]
              refine wpAnyH_take (i := 1) (v := ?v15_1_2) (by simp only [List.getElem?_toArray, List.getElem?_cons_zero, List.getElem?_cons_succ]; rfl) (by kernel_rfl) (by kernel_rfl) (by kernel_rfl) (by exact fun _ _ _ h => h) (Or.inl ⟨by rfl, ?hy15_1_2⟩) HSE.out ?_
              case hy15_1_2 => (intro wq hSw; (try dsimp only at hSw); go_simp; try (with_reducible rfl))
              try simp only [Act.put, List.setIfInBounds_toArray, List.set_cons_zero, List.set_cons_succ]
              refine wpAnyH_take (i := 2) (v := ?v15_2_3) (by simp only [List.getElem?_toArray, List.getElem?_cons_zero, List.getElem?_cons_succ]; rfl) (by kernel_rfl) (by kernel_rfl) (by kernel_rfl) (by exact fun _ _ _ h => h) (Or.inl ⟨by rfl, ?hy15_2_3⟩) HSE.out ?_
              case hy15_2_3 => (intro wq hSw; (try dsimp only at hSw); go_simp; try (with_reducible rfl))
              try simp only [Act.put, List.setIfInBounds_toArray, List.set_cons_zero, List.set_cons_succ]
              refine wpAnyH_take (i := 3) (v := ?v15_3_4) (by simp only [List.getElem?_toArray, List.getElem?_cons_zero, List.getElem?_cons_succ]; rfl) (by kernel_rfl) (by kernel_rfl) (by kernel_rfl) (by exact fun _ _ _ h => h) (Or.inl ⟨by rfl, ?hy15_3_4⟩) HSE.out ?_
              case hy15_3_4 => (intro wq hSw; (try dsimp only at hSw); go_simp; try (with_reducible rfl))
              try simp only [Act.put, List.setIfInBounds_toArray, List.set_cons_zero, List.set_cons_succ]
              refine wpAnyH_take (i := 4) (v := ?v15_4_5) (by simp only [List.getElem?_toArray, List.getElem?_cons_zero, List.getElem?_cons_succ]; rfl) (by kernel_rfl) (by kernel_rfl) (by kernel_rfl) (by exact fun _ _ _ h => h) (Or.inl ⟨by rfl, ?hy15_4_5⟩) HSE.out ?_
              case hy15_4_5 => (intro wq hSw; (try dsimp only at hSw); go_simp; try (with_reducible rfl))
              try simp only [Act.put, List.setIfInBounds_toArray, List.set_cons_zero, List.set_cons_succ]
              refine wpAnyH_take (i := 5) (v := ?v15_5_6) (by simp only [List.getElem?_toArray, List.getElem?_cons_zero, List.getElem?_cons_succ]; rfl) (by kernel_rfl) (by kernel_rfl) (by kernel_rfl) (by exact fun _ _ _ h => h) (Or.inl ⟨by rfl, ?hy15_5_6⟩) HSE.out ?_
              case hy15_5_6 => (intro wq hSw; (try dsimp only at hSw); go_simp; try (with_reducible rfl))
              try simp only [Act.put, List.setIfInBounds_toArray, List.set_cons_zero, List.set_cons_succ]
              refine wpAnyH_take (i := 6) (v := ?v15_6_7) (by simp only [List.getElem?_toArray, List.getElem?_cons_zero, List.getElem?_cons_succ]; rfl) (by kernel_rfl) (by kernel_rfl) (by kernel_rfl) (by exact fun _ _ _ h => h) (Or.inl ⟨by rfl, ?hy15_6_7⟩) HSE.out ?_
              case hy15_6_7 => (intro wq hSw; (try dsimp only at hSw); go_simp; try (with_reducible rfl))
              try simp only [Act.put, List.setIfInBounds_toArray, List.set_cons_zero, List.set_cons_succ]
              refine wpAnyH_take (i := 7) (v := ?v15_7_8) (by simp only [List.getElem?_toArray, List.getElem?_cons_zero, List.getElem?_cons_succ]; rfl) (by kernel_rfl) (by kernel_rfl) (by kernel_rfl) (by exact fun _ _ _ h => h) (Or.inl ⟨by rfl, ?hy15_7_8⟩) HSE.out ?_
              case hy15_7_8 => (intro wq hSw; (try dsimp only at hSw); go_simp; try (with_reducible rfl))
              try simp only [Act.put, List.setIfInBounds_toArray, List.set_cons_zero, List.set_cons_succ]
              refine wpAnyH_take (i := 8) (v := ?v15_8_9) (by simp only [List.getElem?_toArray, List.getElem?_cons_zero, List.getElem?_cons_succ]; rfl) (by kernel_rfl) (by kernel_rfl) (by kernel_rfl) (by exact fun _ _ _ h => h) (Or.inl ⟨by rfl, ?hy15_8_9⟩) HSE.out ?_
              case hy15_8_9 => (intro wq hSw; refine (ld_c (.tmp 158) rfl (by simp [Act.eval]) hSw.2.2.1).trans ?_; with_reducible rfl)
              try simp only [Act.put, List.setIfInBounds_toArray, List.set_cons_zero, List.set_cons_succ]
              refine wpAnyH_take (i := 9) (v := ?v15_9_10) (by simp only [List.getElem?_toArray, List.getElem?_cons_zero, List.getElem?_cons_succ]; rfl) (by kernel_rfl) (by kernel_rfl) (by kernel_rfl) (by exact fun _ _ _ h => h) (Or.inl ⟨by rfl, ?hy15_9_10⟩) HSE.out ?_
              case hy15_9_10 => (intro wq hSw; (try dsimp only at hSw); go_simp; try (with_reducible rfl))
              try simp only [Act.put, List.setIfInBounds_toArray, List.set_cons_zero, List.set_cons_succ]
              refine wpAnyH_take (i := 10) (v := ?v15_10_11) (by simp only [List.getElem?_toArray, List.getElem?_cons_zero, List.getElem?_cons_succ]; rfl) (by kernel_rfl) (by kernel_rfl) (by kernel_rfl) (by exact fun _ _ _ h => h) (Or.inl ⟨by rfl, ?hy15_10_11⟩) HSE.out ?_
              case hy15_10_11 => (intro wq hSw; (try dsimp only at hSw); go_simp; try (with_reducible rfl))
              try simp only [Act.put, List.setIfInBounds_toArray, List.set_cons_zero, List.set_cons_succ]
              refine wpAnyH_take (i := 11) (v := ?v15_11_12) (by simp only [List.getElem?_toArray, List.getElem?_cons_zero, List.getElem?_cons_succ]; rfl) (by kernel_rfl) (by kernel_rfl) (by kernel_rfl) (by exact fun _ _ _ h => h) (Or.inl ⟨by rfl, ?hy15_11_12⟩) HSE.out ?_
              case hy15_11_12 => (intro wq hSw; (try dsimp only at hSw); go_simp; try (with_reducible rfl))
              try simp only [Act.put, List.setIfInBounds_toArray, List.set_cons_zero, List.set_cons_succ]
              refine wpAnyH_take (i := 12) (v := ?v15_12_13) (by simp only [List.getElem?_toArray, List.getElem?_cons_zero, List.getElem?_cons_succ]; rfl) (by kernel_rfl) (by kernel_rfl) (by kernel_rfl) (by exact fun _ _ _ h => h) (Or.inl ⟨by rfl, ?hy15_12_13⟩) HSE.out ?_
              case hy15_12_13 => (intro wq hSw; (try dsimp only at hSw); go_simp; try (with_reducible rfl))
              try simp only [Act.put, List.setIfInBounds_toArray, List.set_cons_zero, List.set_cons_succ]
              refine wpAnyH_take (i := 13) (v := ?v15_13_14) (by simp only [List.getElem?_toArray, List.getElem?_cons_zero, List.getElem?_cons_succ]; rfl) (by kernel_rfl) (by kernel_rfl) (by kernel_rfl) (by exact fun _ _ _ h => h) (Or.inl ⟨by rfl, ?hy15_13_14⟩) HSE.out ?_
              case hy15_13_14 => (intro wq hSw; (try dsimp only at hSw); go_simp; try (with_reducible rfl))
              try simp only [Act.put, List.setIfInBounds_toArray, List.set_cons_zero, List.set_cons_succ]
              refine wpAnyH_take (i := 14) (v := ?v15_14_15) (by simp only [List.getElem?_toArray, List.getElem?_cons_zero, List.getElem?_cons_succ]; rfl) (by kernel_rfl) (by kernel_rfl) (by kernel_rfl) (by exact fun _ _ _ h => h) (Or.inl ⟨by rfl, ?hy15_14_15⟩) HSE.out ?_
              case hy15_14_15 => (intro wq hSw; (try dsimp only at hSw); go_simp; try (with_reducible rfl))
              try simp only [Act.put, List.setIfInBounds_toArray, List.set_cons_zero, List.set_cons_succ]
              refine wpAnyH_take (i := 15) (v := ?v15_15_16) (by simp only [List.getElem?_toArray, List.getElem?_cons_zero, List.getElem?_cons_succ]; rfl) (by kernel_rfl) (by kernel_rfl) (by kernel_rfl) (by exact fun _ _ _ h => h) (Or.inl ⟨by rfl, ?hy15_15_16⟩) HSE.out ?_
              case hy15_15_16 => (intro wq hSw; refine (ld_c (.tmp 165) rfl (by simp [Act.eval]) hSw.2.2.2).trans ?_; with_reducible rfl)
              try simp only [Act.put, List.setIfInBounds_toArray, List.set_cons_zero, List.set_cons_succ]
              refine wpAnyH_take (i := 16) (v := ?v15_16_17) (by simp only [List.getElem?_toArray, List.getElem?_cons_zero, List.getElem?_cons_succ]; rfl) (by kernel_rfl) (by kernel_rfl) (by kernel_rfl) (by exact fun _ _ _ h => h) (Or.inl ⟨by rfl, ?hy15_16_17⟩) HSE.out ?_
              case hy15_16_17 => (intro wq hSw; refine (eq_c (e := el) (.tmp 159) (.tmp 166) _ rfl (by simp [Act.eval]) (by simp [Act.eval])).trans ?_; with_reducible rfl)
              try simp only [Act.put, List.setIfInBounds_toArray, List.set_cons_zero, List.set_cons_succ]
              refine wpAnyH_take (i := 17) (v := ?v15_17_18) (by simp only [List.getElem?_toArray, List.getElem?_cons_zero, List.getElem?_cons_succ]; rfl) (by kernel_rfl) (by kernel_rfl) (by kernel_rfl) (by exact fun _ _ _ h => h) (Or.inl ⟨by rfl, ?hy15_17_18⟩) HSE.out ?_
              case hy15_17_18 => (intro wq hSw; (try dsimp only at hSw); go_simp; try (with_reducible rfl))
              try simp only [Act.put, List.setIfInBounds_toArray, List.set_cons_zero, List.set_cons_succ]
              refine wpAnyH_take (i := 18) (v := ?v15_18_19) (by simp only [List.getElem?_toArray, List.getElem?_cons_zero, List.getElem?_cons_succ]; rfl) (by kernel_rfl) (by kernel_rfl) (by kernel_rfl) (by exact fun _ _ _ h => h) (Or.inl ⟨by rfl, ?hy15_18_19⟩) HSE.out ?_
              case hy15_18_19 => (intro wq hSw; (try dsimp only at hSw); go_simp; try (with_reducible rfl))
              try simp only [Act.put, List.setIfInBounds_toArray, List.set_cons_zero, List.set_cons_succ]
              refine wpAnyH_done (by kernel_rfl) ?_ _
              go_wp2_with fail
              go_roundw
              case rel => exact ⟨rfl, k + 1, by go_num, by omega, HO9.out⟩
              case measure => simp only [RowKit.intOf]; omega
            · have h1 : ¬ (k : Int) < (nc : Int) := by omega
              have e1 := (HI.out.quiet HO3.out).qc
              clear hlt hk
              go_wp2_with fail
              go_loopw [5, 9] (fun b d wr => b = .bool true ∧ ∃ k : Nat, d = .int .i64 (k : Int) ∧ k ≤ nm ∧ Hid (Only (fun _ => False) w wr)) (fun _ d _ => nm - (RowKit.intOf d).toNat)
              case atStart => exact ⟨rfl, 0, rfl, Nat.zero_le _, HO3.out⟩
              case round =>
                obtain ⟨rfl, k, rfl, hk, HO4⟩ := hrel
                clear HO3
                by_cases hlt : k < nm
                · as_aux_lemma =>
                  have hI := HI.out.quiet HO4.out
                  have hkl : k < T.mp.length := by rw [← HNm.out]; exact hlt
                  obtain ⟨g, c9, hvg, hg, hrg⟩ := own_el hI.lm k hkl
                  obtain ⟨g', c9', hvg', hg', hrg'⟩ := own_el hI.km k hkl
                  have hsz : mqL.sz = 5 := rfl
                  rw [hsz] at hrg hrg'
                  generalize T.mp[k] = el at hrg hrg'
                  injection hvg with hvg _ _
                  injection hvg' with hvg' _ _
                  subst hvg
                  subst hvg'
                  have e1 := hI.qm
                  have e2 := hI.xm
                  have h1 : (k : Int) < (nm : Int) := by omega
                  have hidx : 0 ≤ (k : Int) ∧ (k : Int) < (nm : Int) := by omega
                  have hwk : IntKind.i64.wrap ((k : Int) + 1) = (k : Int) + 1 := by rw [IntKind.wrap_i64]; omega
                  have HSE : Hid (wr.drew.cell? ⟨qb, 6, none⟩ = some (.slice (some ⟨g, 0, none⟩) nm cm) ∧ wr.drew.cell? ⟨xb, 7, none⟩ = some (.slice (some ⟨g', 0, none⟩) nm ym) ∧ wr.drew.rangeAt g (k * 5) (mqL.cf el) ∧ wr.drew.rangeAt g' (k * 5) (mqL.cf el)) := ⟨e1, e2, hrg, hrg'⟩
                  have HO9 := Vx.hid (HO4.out.drew)
                  clear hI hkl hrg hrg' hg hg' hsz
                  go_upto_region 19 with fail
                  clear e1 e2
                  refine wp_region_held (S := (fun wv => wv.cell? ⟨qb, 6, none⟩ = some (.slice (some ⟨g, 0, none⟩) nm cm) ∧ wv.cell? ⟨xb, 7, none⟩ = some (.slice (some ⟨g', 0, none⟩) nm ym) ∧ wv.rangeAt g (k * 5) (mqL.cf el) ∧ wv.rangeAt g' (k * 5) (mqL.cf el))) (by kernel_rfl) ?_
                  simp only [List.size_toArray, List.length_cons, List.length_nil, Nat.zero_add, Nat.reduceAdd]
                  refine wpAnyH_take (i := 0) (v := ?v19_0_1) (by simp only [List.getElem?_toArray, List.getElem?_cons_zero, List.getElem?_cons_succ]; rfl) (by kernel_rfl) (by kernel_rfl) (by kernel_rfl) (by exact fun _ _ _ h => h) (Or.inl ⟨by rfl, ?hy19_0_1⟩) HSE.out ?_
                  case hy19_0_1 => (intro wq hSw; (try dsimp only at hSw); go_simp; try (with_reducible rfl))
                  try simp only [Act.put, List.setIfInBounds_toArray, List.set_cons_zero, List.set_cons_succ]
                  refine wpAnyH_take (i := 1) (v := ?v19_1_2) (by simp only [List.getElem?_toArray, List.getElem?_cons_zero, List.getElem?_cons_succ]; rfl) (by kernel_rfl) (by kernel_rfl) (by kernel_rfl) (by exact fun _ _ _ h => h) (Or.inl ⟨by rfl, ?hy19_1_2⟩) HSE.out ?_
                  case hy19_1_2 => (intro wq hSw; (try dsimp only at hSw); go_simp; try (with_reducible rfl))
                  try simp only [Act.put, List.setIfInBounds_toArray, List.set_cons_zero, List.set_cons_succ]
                  refine wpAnyH_take (i := 2) (v := ?v19_2_3) (by simp only [List.getElem?_toArray, List.getElem?_cons_zero, List.getElem?_cons_succ]; rfl) (by kernel_rfl) (by kernel_rfl) (by kernel_rfl) (by exact fun _ _ _ h => h) (Or.inl ⟨by rfl, ?hy19_2_3⟩) HSE.out ?_
                  case hy19_2_3 => (intro wq hSw; (try dsimp only at hSw); go_simp; try (with_reducible rfl))
                  try simp only [Act.put, List.setIfInBounds_toArray, List.set_cons_zero, List.set_cons_succ]
                  refine wpAnyH_take (i := 3) (v := ?v19_3_4) (by simp only [List.getElem?_toArray, List.getElem?_cons_zero, List.getElem?_cons_succ]; rfl) (by kernel_rfl) (by kernel_rfl) (by kernel_rfl) (by exact fun _ _ _ h => h) (Or.inl ⟨by rfl, ?hy19_3_4⟩) HSE.out ?_
                  case hy19_3_4 => (intro wq hSw; (try dsimp only at hSw); go_simp; try (with_reducible rfl))
                  try simp only [Act.put, List.setIfInBounds_toArray, List.set_cons_zero, List.set_cons_succ]
                  refine wpAnyH_take (i := 4) (v := ?v19_4_5) (by simp only [List.getElem?_toArray, List.getElem?_cons_zero, List.getElem?_cons_succ]; rfl) (by kernel_rfl) (by kernel_rfl) (by kernel_rfl) (by exact fun _ _ _ h => h) (Or.inl ⟨by rfl, ?hy19_4_5⟩) HSE.out ?_
                  case hy19_4_5 => (intro wq hSw; (try dsimp only at hSw); go_simp; try (with_reducible rfl))
                  try simp only [Act.put, List.setIfInBounds_toArray, List.set_cons_zero, List.set_cons_succ]
                  refine wpAnyH_take (i := 5) (v := ?v19_5_6) (by simp only [List.getElem?_toArray, List.getElem?_cons_zero, List.getElem?_cons_succ]; rfl) (by kernel_rfl) (by kernel_rfl) (by kernel_rfl) (by exact fun _ _ _ h => h) (Or.inl ⟨by rfl, ?hy19_5_6⟩) HSE.out ?_
                  case hy19_5_6 => (intro wq hSw; (try dsimp only at hSw); go_simp; try (with_reducible rfl))
                  try simp only [Act.put, List.setIfInBounds_toArray, List.set_cons_zero, List.set_cons_succ]
                  refine wpAnyH_take (i := 6) (v := ?v19_6_7) (by simp only [List.getElem?_toArray, List.getElem?_cons_zero, List.getElem?_cons_succ]; rfl) (by kernel_rfl) (by kernel_rfl) (by kernel_rfl) (by exact fun _ _ _ h => h) (Or.inl ⟨by rfl, ?hy19_6_7⟩) HSE.out ?_
                  case hy19_6_7 => (intro wq hSw; (try dsimp only at hSw); go_simp; try (with_reducible rfl))
                  try simp only [Act.put, List.setIfInBounds_toArray, List.set_cons_zero, List.set_cons_succ]
                  refine wpAnyH_take (i := 7) (v := ?v19_7_8) (by simp only [List.getElem?_toArray, List.getElem?_cons_zero, List.getElem?_cons_succ]; rfl) (by kernel_rfl) (by kernel_rfl) (by kernel_rfl) (by exact fun _ _ _ h => h) (Or.inl ⟨by rfl, ?hy19_7_8⟩) HSE.out ?_
                  case hy19_7_8 => (intro wq hSw; (try dsimp only at hSw); go_simp; try (with_reducible rfl))
                  try simp only [Act.put, List.setIfInBounds_toArray, List.set_cons_zero, List.set_cons_succ]
                  refine wpAnyH_take (i := 8) (v := ?v19_8_9) (by simp only [List.getElem?_toArray, List.getElem?_cons_zero, List.getElem?_cons_succ]; rfl) (by kernel_rfl) (by kernel_rfl) (by kernel_rfl) (by exact fun _ _ _ h => h) (Or.inl ⟨by rfl, ?hy19_8_9⟩) HSE.out ?_
                  case hy19_8_9 => (intro wq hSw; refine (ld_m (.tmp 185) rfl (by simp [Act.eval]) hSw.2.2.1).trans ?_; with_reducible rfl)
                  try simp only [Act.put, List.setIfInBounds_toArray, List.set_cons_zero, List.set_cons_succ]
                  refine wpAnyH_take (i := 9) (v := ?v19_9_10) (by simp only [List.getElem?_toArray, List.getElem?_cons_zero, List.getElem?_cons_succ]; rfl) (by kernel_rfl) (by kernel_rfl) (by kernel_rfl) (by exact fun _ _ _ h => h) (Or.inl ⟨by rfl, ?hy19_9_10⟩) HSE.out ?_
                  case hy19_9_10 => (intro wq hSw; (try dsimp only at hSw); go_simp; try (with_reducible rfl))
                  try simp only [Act.put, List.setIfInBounds_toArray, List.set_cons_zero, List.set_cons_succ]
                  refine wpAnyH_take (i := 10) (v := ?v19_10_11) (by simp only [List.getElem?_toArray, List.getElem?_cons_zero, List.getElem?_cons_succ]; rfl) (by kernel_rfl) (by kernel_rfl) (by kernel_rfl) (by exact fun _ _ _ h => h) (Or.inl ⟨by rfl, ?hy19_10_11⟩) HSE.out ?_
                  case hy19_10_11 => (intro wq hSw; (try dsimp only at hSw); go_simp; try (with_reducible rfl))
                  try simp only [Act.put, List.setIfInBounds_toArray, List.set_cons_zero, List.set_cons_succ]
                  refine wpAnyH_take (i := 11) (v := ?v19_11_12) (by simp only [List.getElem?_toArray, List.getElem?_cons_zero, List.getElem?_cons_succ]; rfl) (by kernel_rfl) (by kernel_rfl) (by kernel_rfl) (by exact fun _ _ _ h => h) (Or.inl ⟨by rfl, ?hy19_11_12⟩) HSE.out ?_
                  case hy19_11_12 => (intro wq hSw; (try dsimp only at hSw); go_simp; try (with_reducible rfl))
                  try simp only [Act.put, List.setIfInBounds_toArray, List.set_cons_zero, List.set_cons_succ]
                  refine wpAnyH_take (i := 12) (v := ?v19_12_13) (by simp only [List.getElem?_toArray, List.getElem?_cons_zero, List.getElem?_cons_succ]; rfl) (by kernel_rfl) (by kernel_rfl) (by kernel_rfl) (by exact fun _ _ _ h => h) (Or.inl ⟨by rfl, ?hy19_12_13⟩) HSE.out ?_
                  case hy19_12_13 => (intro wq hSw; (try dsimp only at hSw); go_simp; try (with_reducible rfl))
                  try simp only [Act.put, List.setIfInBounds_toArray, List.set_cons_zero, List.set_cons_succ]
                  refine wpAnyH_take (i := 13) (v := ?v19_13_14) (by simp only [List.getElem?_toArray, List.getElem?_cons_zero, List.getElem?_cons_succ]; rfl) (by kernel_rfl) (by kernel_rfl) (by kernel_rfl) (by exact fun _ _ _ h => h) (Or.inl ⟨by rfl, ?hy19_13_14⟩) HSE.out ?_
                  case hy19_13_14 => (intro wq hSw; (try dsimp only at hSw); go_simp; try (with_reducible rfl))
                  try simp only [Act.put, List.setIfInBounds_toArray, List.set_cons_zero, List.set_cons_succ]
                  refine wpAnyH_take (i := 14) (v := ?v19_14_15) (by simp only [List.getElem?_toArray, List.getElem?_cons_zero, List.getElem?_cons_succ]; rfl) (by kernel_rfl) (by kernel_rfl) (by kernel_rfl) (by exact fun _ _ _ h => h) (Or.inl ⟨by rfl, ?hy19_14_15⟩) HSE.out ?_
                  case hy19_14_15 => (intro wq hSw; (try dsimp only at hSw); go_simp; try (with_reducible rfl))
                  try simp only [Act.put, List.setIfInBounds_toArray, List.set_cons_zero, List.set_cons_succ]
                  refine wpAnyH_take (i := 15) (v := ?v19_15_16) (by simp only [List.getElem?_toArray, List.getElem?_cons_zero, List.getElem?_cons_succ]; rfl) (by kernel_rfl) (by kernel_rfl) (by kernel_rfl) (by exact fun _ _ _ h => h) (Or.inl ⟨by rfl, ?hy19_15_16⟩) HSE.out ?_
                  case hy19_15_16 => (intro wq hSw; refine (ld_m (.tmp 192) rfl (by simp [Act.eval]) hSw.2.2.2).trans ?_; with_reducible rfl)
                  try simp only [Act.put, List.setIfInBounds_toArray, List.set_cons_zero, List.set_cons_succ]
                  refine wpAnyH_take (i := 16) (v := ?v19_16_17) (by simp only [List.getElem?_toArray, List.getElem?_cons_zero, List.getElem?_cons_succ]; rfl) (by kernel_rfl) (by kernel_rfl) (by kernel_rfl) (by exact fun _ _ _ h => h) (Or.inl ⟨by rfl, ?hy19_16_17⟩) HSE.out ?_
                  case hy19_16_17 => (intro wq hSw; refine (eq_m (e := el) (.tmp 186) (.tmp 193) _ rfl (by simp [Act.eval]) (by simp [Act.eval])).trans ?_; with_reducible rfl)
                  try simp only [Act.put, List.setIfInBounds_toArray, List.set_cons_zero, List.set_cons_succ]
                  refine wpAnyH_take (i := 17) (v := ?v19_17_18) (by simp only [List.getElem?_toArray, List.getElem?_cons_zero, List.getElem?_cons_succ]; rfl) (by kernel_rfl) (by kernel_rfl) (by kernel_rfl) (by exact fun _ _ _ h => h) (Or.inl ⟨by rfl, ?hy19_17_18⟩) HSE.out ?_
                  case hy19_17_18 => (intro wq hSw; (try dsimp only at hSw); go_simp; try (with_reducible rfl))
                  try simp only [Act.put, List.setIfInBounds_toArray, List.set_cons_zero, List.set_cons_succ]
                  refine wpAnyH_take (i := 18) (v := ?v19_18_19) (by simp only [List.getElem?_toArray, List.getElem?_cons_zero, List.getElem?_cons_succ]; rfl) (by kernel_rfl) (by kernel_rfl) (by kernel_rfl) (by exact fun _ _ _ h => h) (Or.inl ⟨by rfl, ?hy19_18_19⟩) HSE.out ?_
                  case hy19_18_19 => (intro wq hSw; (try dsimp only at hSw); go_simp; try (with_reducible rfl))
                  try simp only [Act.put, List.setIfInBounds_toArray, List.set_cons_zero, List.set_cons_succ]
                  refine wpAnyH_done (by kernel_rfl) ?_ _
                  go_wp2_with fail
                  go_roundw
                  case rel => exact ⟨rfl, k + 1, by go_num, by omega, HO9.out⟩
                  case measure => simp only [RowKit.intOf]; omega
                · have h1 : ¬ (k : Int) < (nm : Int) := by omega
                  have e1 := (HI.out.quiet HO4.out).qm
                  clear hlt hk
                  go_wp2_with fail
                  go_loopw [5, 10] (fun b d wr => b = .bool true ∧ ∃ k : Nat, d = .int .i64 (k : Int) ∧ k ≤ nh ∧ Hid (Only (fun _ => False) w wr)) (fun _ d _ => nh - (RowKit.intOf d).toNat)
                  case atStart => exact ⟨rfl, 0, rfl, Nat.zero_le _, HO4.out⟩
                  case round =>
                    obtain ⟨rfl, k, rfl, hk, HO5⟩ := hrel
                    clear HO4
                    by_cases hlt : k < nh
                    · as_aux_lemma =>
                      have hI := HI.out.quiet HO5.out
                      have hkl : k < T.th.length := by rw [← HNh.out]; exact hlt
                      obtain ⟨g, c9, hvg, hg, hrg⟩ := own_el hI.lh k hkl
                      obtain ⟨g', c9', hvg', hg', hrg'⟩ := own_el hI.kh k hkl
                      have hsz : thL.sz = 37 := rfl
                      rw [hsz] at hrg hrg'
                      generalize T.th[k] = el at hrg hrg'
                      injection hvg with hvg _ _
                      injection hvg' with hvg' _ _
                      subst hvg
                      subst hvg'
                      have e1 := hI.qh
                      have e2 := hI.xh
                      have h1 : (k : Int) < (nh : Int) := by omega
                      have hidx : 0 ≤ (k : Int) ∧ (k : Int) < (nh : Int) := by omega
                      have hwk : IntKind.i64.wrap ((k : Int) + 1) = (k : Int) + 1 := by rw [IntKind.wrap_i64]; omega
                      have HSE : Hid (wr.drew.cell? ⟨qb, 7, none⟩ = some (.slice (some ⟨g, 0, none⟩) nh ch) ∧ wr.drew.cell? ⟨xb, 8, none⟩ = some (.slice (some ⟨g', 0, none⟩) nh yh) ∧ wr.drew.rangeAt g (k * 37) (thL.cf el) ∧ wr.drew.rangeAt g' (k * 37) (thL.cf el)) := ⟨e1, e2, hrg, hrg'⟩
                      have HO9 := Vx.hid (HO5.out.drew)
                      clear hI hkl hrg hrg' hg hg' hsz
                      go_upto_region 23 with fail
                      clear e1 e2
                      refine wp_region_held (S := (fun wv => wv.cell? ⟨qb, 7, none⟩ = some (.slice (some ⟨g, 0, none⟩) nh ch) ∧ wv.cell? ⟨xb, 8, none⟩ = some (.slice (some ⟨g', 0, none⟩) nh yh) ∧ wv.rangeAt g (k * 37) (thL.cf el) ∧ wv.rangeAt g' (k * 37) (thL.cf el))) (by kernel_rfl) ?_
                      simp only [List.size_toArray, List.length_cons, List.length_nil, Nat.zero_add, Nat.reduceAdd]
                      refine wpAnyH_take (i := 0) (v := ?v23_0_1) (by simp only [List.getElem?_toArray, List.getElem?_cons_zero, List.getElem?_cons_succ]; rfl) (by kernel_rfl) (by kernel_rfl) (by kernel_rfl) (by exact fun _ _ _ h => h) (Or.inl ⟨by rfl, ?hy23_0_1⟩) HSE.out ?_
                      case hy23_0_1 => (intro wq hSw; (try dsimp only at hSw); go_simp; try (with_reducible rfl))
                      try simp only [Act.put, List.setIfInBounds_toArray, List.set_cons_zero, List.set_cons_succ]
                      refine wpAnyH_take (i := 1) (v := ?v23_1_2) (by simp only [List.getElem?_toArray, List.getElem?_cons_zero, List.getElem?_cons_succ]; rfl) (by kernel_rfl) (by kernel_rfl) (by kernel_rfl) (by exact fun _ _ _ h => h) (Or.inl ⟨by rfl, ?hy23_1_2⟩) HSE.out ?_
                      case hy23_1_2 => (intro wq hSw; (try dsimp only at hSw); go_simp; try (with_reducible rfl))
                      try simp only [Act.put, List.setIfInBounds_toArray, List.set_cons_zero, List.set_cons_succ]
                      refine wpAnyH_take (i := 2) (v := ?v23_2_3) (by simp only [List.getElem?_toArray, List.getElem?_cons_zero, List.getElem?_cons_succ]; rfl) (by kernel_rfl) (by kernel_rfl) (by kernel_rfl) (by exact fun _ _ _ h => h) (Or.inl ⟨by rfl, ?hy23_2_3⟩) HSE.out ?_
                      case hy23_2_3 => (intro wq hSw; (try dsimp only at hSw); go_simp; try (with_reducible rfl))
                      try simp only [Act.put, List.setIfInBounds_toArray, List.set_cons_zero, List.set_cons_succ]
                      refine wpAnyH_take (i := 3) (v := ?v23_3_4) (by simp only [List.getElem?_toArray, List.getElem?_cons_zero, List.getElem?_cons_succ]; rfl) (by kernel_rfl) (by kernel_rfl) (by kernel_rfl) (by exact fun _ _ _ h => h) (Or.inl ⟨by rfl, ?hy23_3_4⟩) HSE.out ?_
                      case hy23_3_4 => (intro wq hSw; (try dsimp only at hSw); go_simp; try (with_reducible rfl))
                      try simp only [Act.put, List.setIfInBounds_toArray, List.set_cons_zero, List.set_cons_succ]
                      refine wpAnyH_take (i := 4) (v := ?v23_4_5) (by simp only [List.getElem?_toArray, List.getElem?_cons_zero, List.getElem?_cons_succ]; rfl) (by kernel_rfl) (by kernel_rfl) (by kernel_rfl) (by exact fun _ _ _ h => h) (Or.inl ⟨by rfl, ?hy23_4_5⟩) HSE.out ?_
                      case hy23_4_5 => (intro wq hSw; (try dsimp only at hSw); go_simp; try (with_reducible rfl))
                      try simp only [Act.put, List.setIfInBounds_toArray, List.set_cons_zero, List.set_cons_succ]
                      refine wpAnyH_take (i := 5) (v := ?v23_5_6) (by simp only [List.getElem?_toArray, List.getElem?_cons_zero, List.getElem?_cons_succ]; rfl) (by kernel_rfl) (by kernel_rfl) (by kernel_rfl) (by exact fun _ _ _ h => h) (Or.inl ⟨by rfl, ?hy23_5_6⟩) HSE.out ?_
                      case hy23_5_6 => (intro wq hSw; (try dsimp only at hSw); go_simp; try (with_reducible rfl))
                      try simp only [Act.put, List.setIfInBounds_toArray, List.set_cons_zero, List.set_cons_succ]
                      refine wpAnyH_take (i := 6) (v := ?v23_6_7) (by simp only [List.getElem?_toArray, List.getElem?_cons_zero, List.getElem?_cons_succ]; rfl) (by kernel_rfl) (by kernel_rfl) (by kernel_rfl) (by exact fun _ _ _ h => h) (Or.inl ⟨by rfl, ?hy23_6_7⟩) HSE.out ?_
                      case hy23_6_7 => (intro wq hSw; (try dsimp only at hSw); go_simp; try (with_reducible rfl))
                      try simp only [Act.put, List.setIfInBounds_toArray, List.set_cons_zero, List.set_cons_succ]
                      refine wpAnyH_take (i := 7) (v := ?v23_7_8) (by simp only [List.getElem?_toArray, List.getElem?_cons_zero, List.getElem?_cons_succ]; rfl) (by kernel_rfl) (by kernel_rfl) (by kernel_rfl) (by exact fun _ _ _ h => h) (Or.inl ⟨by rfl, ?hy23_7_8⟩) HSE.out ?_
                      case hy23_7_8 => (intro wq hSw; (try dsimp only at hSw); go_simp; try (with_reducible rfl))
                      try simp only [Act.put, List.setIfInBounds_toArray, List.set_cons_zero, List.set_cons_succ]
                      refine wpAnyH_take (i := 8) (v := ?v23_8_9) (by simp only [List.getElem?_toArray, List.getElem?_cons_zero, List.getElem?_cons_succ]; rfl) (by kernel_rfl) (by kernel_rfl) (by kernel_rfl) (by exact fun _ _ _ h => h) (Or.inl ⟨by rfl, ?hy23_8_9⟩) HSE.out ?_
                      case hy23_8_9 => (intro wq hSw; refine (ld_h (.tmp 212) rfl (by simp [Act.eval]) hSw.2.2.1).trans ?_; with_reducible rfl)
                      try simp only [Act.put, List.setIfInBounds_toArray, List.set_cons_zero, List.set_cons_succ]
                      refine wpAnyH_take (i := 9) (v := ?v23_9_10) (by simp only [List.getElem?_toArray, List.getElem?_cons_zero, List.getElem?_cons_succ]; rfl) (by kernel_rfl) (by kernel_rfl) (by kernel_rfl) (by exact fun _ _ _ h => h) (Or.inl ⟨by rfl, ?hy23_9_10⟩) HSE.out ?_
                      case hy23_9_10 => (intro wq hSw; (try dsimp only at hSw); go_simp; try (with_reducible rfl))
                      try simp only [Act.put, List.setIfInBounds_toArray, List.set_cons_zero, List.set_cons_succ]
                      refine wpAnyH_take (i := 10) (v := ?v23_10_11) (by simp only [List.getElem?_toArray, List.getElem?_cons_zero, List.getElem?_cons_succ]; rfl) (by kernel_rfl) (by kernel_rfl) (by kernel_rfl) (by exact fun _ _ _ h => h) (Or.inl ⟨by rfl, ?hy23_10_11⟩) HSE.out ?_
                      case hy23_10_11 => (intro wq hSw; (try dsimp only at hSw); go_simp; try (with_reducible rfl))
                      try simp only [Act.put, List.setIfInBounds_toArray, List.set_cons_zero, List.set_cons_succ]
                      refine wpAnyH_take (i := 11) (v := ?v23_11_12) (by simp only [List.getElem?_toArray, List.getElem?_cons_zero, List.getElem?_cons_succ]; rfl) (by kernel_rfl) (by kernel_rfl) (by kernel_rfl) (by exact fun _ _ _ h => h) (Or.inl ⟨by rfl, ?hy23_11_12⟩) HSE.out ?_
                      case hy23_11_12 => (intro wq hSw; (try dsimp only at hSw); go_simp; try (with_reducible rfl))
                      try simp only [Act.put, List.setIfInBounds_toArray, List.set_cons_zero, List.set_cons_succ]
                      refine wpAnyH_take (i := 12) (v := ?v23_12_13) (by simp only [List.getElem?_toArray, List.getElem?_cons_zero, List.getElem?_cons_succ]; rfl) (by kernel_rfl) (by kernel_rfl) (by kernel_rfl) (by exact fun _ _ _ h => h) (Or.inl ⟨by rfl, ?hy23_12_13⟩) HSE.out ?_
                      case hy23_12_13 => (intro wq hSw; (try dsimp only at hSw); go_simp; try (with_reducible rfl))
                      try simp only [Act.put, List.setIfInBounds_toArray, List.set_cons_zero, List.set_cons_succ]
                      refine wpAnyH_take (i := 13) (v := ?v23_13_14) (by simp only [List.getElem?_toArray, List.getElem?_cons_zero, List.getElem?_cons_succ]; rfl) (by kernel_rfl) (by kernel_rfl) (by kernel_rfl) (by exact fun _ _ _ h => h) (Or.inl ⟨by rfl, ?hy23_13_14⟩) HSE.out ?_
                      case hy23_13_14 => (intro wq hSw; (try dsimp only at hSw); go_simp; try (with_reducible rfl))
                      try simp only [Act.put, List.setIfInBounds_toArray, List.set_cons_zero, List.set_cons_succ]
                      refine wpAnyH_take (i := 14) (v := ?v23_14_15) (by simp only [List.getElem?_toArray, List.getElem?_cons_zero, List.getElem?_cons_succ]; rfl) (by kernel_rfl) (by kernel_rfl) (by kernel_rfl) (by exact fun _ _ _ h => h) (Or.inl ⟨by rfl, ?hy23_14_15⟩) HSE.out ?_
                      case hy23_14_15 => (intro wq hSw; (try dsimp only at hSw); go_simp; try (with_reducible rfl))
                      try simp only [Act.put, List.setIfInBounds_toArray, List.set_cons_zero, List.set_cons_succ]
                      refine wpAnyH_take (i := 15) (v := ?v23_15_16) (by simp only [List.getElem?_toArray, List.getElem?_cons_zero, List.getElem?_cons_succ]; rfl) (by kernel_rfl) (by kernel_rfl) (by kernel_rfl) (by exact fun _ _ _ h => h) (Or.inl ⟨by rfl, ?hy23_15_16⟩) HSE.out ?_
                      case hy23_15_16 => (intro wq hSw; refine (ld_h (.tmp 219) rfl (by simp [Act.eval]) hSw.2.2.2).trans ?_; with_reducible rfl)
                      try simp only [Act.put, List.setIfInBounds_toArray, List.set_cons_zero, List.set_cons_succ]
                      refine wpAnyH_take (i := 16) (v := ?v23_16_17) (by simp only [List.getElem?_toArray, List.getElem?_cons_zero, List.getElem?_cons_succ]; rfl) (by kernel_rfl) (by kernel_rfl) (by kernel_rfl) (by exact fun _ _ _ h => h) (Or.inl ⟨by rfl, ?hy23_16_17⟩) HSE.out ?_
                      case hy23_16_17 => (intro wq hSw; refine (eq_h (e := el) (.tmp 213) (.tmp 220) _ rfl (by simp [Act.eval]) (by simp [Act.eval])).trans ?_; with_reducible rfl)
                      try simp only [Act.put, List.setIfInBounds_toArray, List.set_cons_zero, List.set_cons_succ]
                      refine wpAnyH_take (i := 17) (v := ?v23_17_18) (by simp only [List.getElem?_toArray, List.getElem?_cons_zero, List.getElem?_cons_succ]; rfl) (by kernel_rfl) (by kernel_rfl) (by kernel_rfl) (by exact fun _ _ _ h => h) (Or.inl ⟨by rfl, ?hy23_17_18⟩) HSE.out ?_
                      case hy23_17_18 => (intro wq hSw; (try dsimp only at hSw); go_simp; try (with_reducible rfl))
                      try simp only [Act.put, List.setIfInBounds_toArray, List.set_cons_zero, List.set_cons_succ]
                      refine wpAnyH_take (i := 18) (v := ?v23_18_19) (by simp only [List.getElem?_toArray, List.getElem?_cons_zero, List.getElem?_cons_succ]; rfl) (by kernel_rfl) (by kernel_rfl) (by kernel_rfl) (by exact fun _ _ _ h => h) (Or.inl ⟨by rfl, ?hy23_18_19⟩) HSE.out ?_
                      case hy23_18_19 => (intro wq hSw; (try dsimp only at hSw); go_simp; try (with_reducible rfl))
                      try simp only [Act.put, List.setIfInBounds_toArray, List.set_cons_zero, List.set_cons_succ]
                      refine wpAnyH_done (by kernel_rfl) ?_ _
                      go_wp2_with fail
                      go_roundw
                      case rel => exact ⟨rfl, k + 1, by go_num, by omega, HO9.out⟩
                      case measure => simp only [RowKit.intOf]; omega
                    · have h1 : ¬ (k : Int) < (nh : Int) := by omega
                      have e1 := (HI.out.quiet HO5.out).qh
                      clear hlt hk
                      go_wp2_with fail
                      go_loopw [5, 11] (fun b d wr => b = .bool true ∧ ∃ k : Nat, d = .int .i64 (k : Int) ∧ k ≤ ni ∧ Hid (Only (fun _ => False) w wr)) (fun _ d _ => ni - (RowKit.intOf d).toNat)
                      case atStart => exact ⟨rfl, 0, rfl, Nat.zero_le _, HO5.out⟩
                      case round =>
                        obtain ⟨rfl, k, rfl, hk, HO6⟩ := hrel
                        clear HO5
                        by_cases hlt : k < ni
                        · as_aux_lemma =>
                          have hI := HI.out.quiet HO6.out
                          have hkl : k < T.ir.length := by rw [← HNi.out]; exact hlt
                          obtain ⟨g, c9, hvg, hg, hrg⟩ := own_el hI.li k hkl
                          obtain ⟨g', c9', hvg', hg', hrg'⟩ := own_el hI.ki k hkl
                          have hsz : irL.sz = 3 := rfl
                          rw [hsz] at hrg hrg'
                          generalize T.ir[k] = el at hrg hrg'
                          injection hvg with hvg _ _
                          injection hvg' with hvg' _ _
                          subst hvg
                          subst hvg'
                          have e1 := hI.qi
                          have e2 := hI.xi
                          have h1 : (k : Int) < (ni : Int) := by omega
                          have hidx : 0 ≤ (k : Int) ∧ (k : Int) < (ni : Int) := by omega
                          have hwk : IntKind.i64.wrap ((k : Int) + 1) = (k : Int) + 1 := by rw [IntKind.wrap_i64]; omega
                          have HSE : Hid (wr.drew.cell? ⟨qb, 8, none⟩ = some (.slice (some ⟨g, 0, none⟩) ni ci) ∧ wr.drew.cell? ⟨xb, 9, none⟩ = some (.slice (some ⟨g', 0, none⟩) ni yi) ∧ wr.drew.rangeAt g (k * 3) (irL.cf el) ∧ wr.drew.rangeAt g' (k * 3) (irL.cf el)) := ⟨e1, e2, hrg, hrg'⟩
                          have HO9 := Vx.hid (HO6.out.drew)
                          clear hI hkl hrg hrg' hg hg' hsz
                          go_upto_region 27 with fail
                          clear e1 e2
                          refine wp_region_held (S := (fun wv => wv.cell? ⟨qb, 8, none⟩ = some (.slice (some ⟨g, 0, none⟩) ni ci) ∧ wv.cell? ⟨xb, 9, none⟩ = some (.slice (some ⟨g', 0, none⟩) ni yi) ∧ wv.rangeAt g (k * 3) (irL.cf el) ∧ wv.rangeAt g' (k * 3) (irL.cf el))) (by kernel_rfl) ?_
                          simp only [List.size_toArray, List.length_cons, List.length_nil, Nat.zero_add, Nat.reduceAdd]
                          refine wpAnyH_take (i := 0) (v := ?v27_0_1) (by simp only [List.getElem?_toArray, List.getElem?_cons_zero, List.getElem?_cons_succ]; rfl) (by kernel_rfl) (by kernel_rfl) (by kernel_rfl) (by exact fun _ _ _ h => h) (Or.inl ⟨by rfl, ?hy27_0_1⟩) HSE.out ?_
                          case hy27_0_1 => (intro wq hSw; (try dsimp only at hSw); go_simp; try (with_reducible rfl))
                          try simp only [Act.put, List.setIfInBounds_toArray, List.set_cons_zero, List.set_cons_succ]
                          refine wpAnyH_take (i := 1) (v := ?v27_1_2) (by simp only [List.getElem?_toArray, List.getElem?_cons_zero, List.getElem?_cons_succ]; rfl) (by kernel_rfl) (by kernel_rfl) (by kernel_rfl) (by exact fun _ _ _ h => h) (Or.inl ⟨by rfl, ?hy27_1_2⟩) HSE.out ?_
                          case hy27_1_2 => (intro wq hSw; (try dsimp only at hSw); go_simp; try (with_reducible rfl))
                          try simp only [Act.put, List.setIfInBounds_toArray, List.set_cons_zero, List.set_cons_succ]
                          refine wpAnyH_take (i := 2) (v := ?v27_2_3) (by simp only [List.getElem?_toArray, List.getElem?_cons_zero, List.getElem?_cons_succ]; rfl) (by kernel_rfl) (by kernel_rfl) (by kernel_rfl) (by exact fun _ _ _ h => h) (Or.inl ⟨by rfl, ?hy27_2_3⟩) HSE.out ?_
                          case hy27_2_3 => (intro wq hSw; (try dsimp only at hSw); go_simp; try (with_reducible rfl))
                          try simp only [Act.put, List.setIfInBounds_toArray, List.set_cons_zero, List.set_cons_succ]
                          refine wpAnyH_take (i := 3) (v := ?v27_3_4) (by simp only [List.getElem?_toArray, List.getElem?_cons_zero, List.getElem?_cons_succ]; rfl) (by kernel_rfl) (by kernel_rfl) (by kernel_rfl) (by exact fun _ _ _ h => h) (Or.inl ⟨by rfl, ?hy27_3_4⟩) HSE.out ?_
                          case hy27_3_4 => (intro wq hSw; (try dsimp only at hSw); go_simp; try (with_reducible rfl))
                          try simp only [Act.put, List.setIfInBounds_toArray, List.set_cons_zero, List.set_cons_succ]
                          refine wpAnyH_take (i := 4) (v := ?v27_4_5) (by simp only [List.getElem?_toArray, List.getElem?_cons_zero, List.getElem?_cons_succ]; rfl) (by kernel_rfl) (by kernel_rfl) (by kernel_rfl) (by exact fun _ _ _ h => h) (Or.inl ⟨by rfl, ?hy27_4_5⟩) HSE.out ?_
                          case hy27_4_5 => (intro wq hSw; (try dsimp only at hSw); go_simp; try (with_reducible rfl))
                          try simp only [Act.put, List.setIfInBounds_toArray, List.set_cons_zero, List.set_cons_succ]
                          refine wpAnyH_take (i := 5) (v := ?v27_5_6) (by simp only [List.getElem?_toArray, List.getElem?_cons_zero, List.getElem?_cons_succ]; rfl) (by kernel_rfl) (by kernel_rfl) (by kernel_rfl) (by exact fun _ _ _ h => h) (Or.inl ⟨by rfl, ?hy27_5_6⟩) HSE.out ?_
                          case hy27_5_6 => (intro wq hSw; (try dsimp only at hSw); go_simp; try (with_reducible rfl))
                          try simp only [Act.put, List.setIfInBounds_toArray, List.set_cons_zero, List.set_cons_succ]
                          refine wpAnyH_take (i := 6) (v := ?v27_6_7) (by simp only [List.getElem?_toArray, List.getElem?_cons_zero, List.getElem?_cons_succ]; rfl) (by kernel_rfl) (by kernel_rfl) (by kernel_rfl) (by exact fun _ _ _ h => h) (Or.inl ⟨by rfl, ?hy27_6_7⟩) HSE.out ?_
                          case hy27_6_7 => (intro wq hSw; (try dsimp only at hSw); go_simp; try (with_reducible rfl))
                          try simp only [Act.put, List.setIfInBounds_toArray, List.set_cons_zero, List.set_cons_succ]
                          refine wpAnyH_take (i := 7) (v := ?v27_7_8) (by simp only [List.getElem?_toArray, List.getElem?_cons_zero, List.getElem?_cons_succ]; rfl) (by kernel_rfl) (by kernel_rfl) (by kernel_rfl) (by exact fun _ _ _ h => h) (Or.inl ⟨by rfl, ?hy27_7_8⟩) HSE.out ?_
                          case hy27_7_8 => (intro wq hSw; (try dsimp only at hSw); go_simp; try (with_reducible rfl))
                          try simp only [Act.put, List.setIfInBounds_toArray, List.set_cons_zero, List.set_cons_succ]
                          refine wpAnyH_take (i := 8) (v := ?v27_8_9) (by simp only [List.getElem?_toArray, List.getElem?_cons_zero, List.getElem?_cons_succ]; rfl) (by kernel_rfl) (by kernel_rfl) (by kernel_rfl) (by exact fun _ _ _ h => h) (Or.inl ⟨by rfl, ?hy27_8_9⟩) HSE.out ?_
                          case hy27_8_9 => (intro wq hSw; refine (ld_i (.tmp 239) rfl (by simp [Act.eval]) hSw.2.2.1).trans ?_; with_reducible rfl)
                          try simp only [Act.put, List.setIfInBounds_toArray, List.set_cons_zero, List.set_cons_succ]
                          refine wpAnyH_take (i := 9) (v := ?v27_9_10) (by simp only [List.getElem?_toArray, List.getElem?_cons_zero, List.getElem?_cons_succ]; rfl) (by kernel_rfl) (by kernel_rfl) (by kernel_rfl) (by exact fun _ _ _ h => h) (Or.inl ⟨by rfl, ?hy27_9_10⟩) HSE.out ?_
                          case hy27_9_10 => (intro wq hSw; (try dsimp only at hSw); go_simp; try (with_reducible rfl))
                          try simp only [Act.put, List.setIfInBounds_toArray, List.set_cons_zero, List.set_cons_succ]
                          refine wpAnyH_take (i := 10) (v := ?v27_10_11) (by simp only [List.getElem?_toArray, List.getElem?_cons_zero, List.getElem?_cons_succ]; rfl) (by kernel_rfl) (by kernel_rfl) (by kernel_rfl) (by exact fun _ _ _ h => h) (Or.inl ⟨by rfl, ?hy27_10_11⟩) HSE.out ?_
                          case hy27_10_11 => (intro wq hSw; (try dsimp only at hSw); go_simp; try (with_reducible rfl))
                          try simp only [Act.put, List.setIfInBounds_toArray, List.set_cons_zero, List.set_cons_succ]
                          refine wpAnyH_take (i := 11) (v := ?v27_11_12) (by simp only [List.getElem?_toArray, List.getElem?_cons_zero, List.getElem?_cons_succ]; rfl) (by kernel_rfl) (by kernel_rfl) (by kernel_rfl) (by exact fun _ _ _ h => h) (Or.inl ⟨by rfl, ?hy27_11_12⟩) HSE.out ?_
                          case hy27_11_12 => (intro wq hSw; (try dsimp only at hSw); go_simp; try (with_reducible rfl))
                          try simp only [Act.put, List.setIfInBounds_toArray, List.set_cons_zero, List.set_cons_succ]
                          refine wpAnyH_take (i := 12) (v := ?v27_12_13) (by simp only [List.getElem?_toArray, List.getElem?_cons_zero, List.getElem?_cons_succ]; rfl) (by kernel_rfl) (by kernel_rfl) (by kernel_rfl) (by exact fun _ _ _ h => h) (Or.inl ⟨by rfl, ?hy27_12_13⟩) HSE.out ?_
                          case hy27_12_13 => (intro wq hSw; (try dsimp only at hSw); go_simp; try (with_reducible rfl))
                          try simp only [Act.put, List.setIfInBounds_toArray, List.set_cons_zero, List.set_cons_succ]
                          refine wpAnyH_take (i := 13) (v := ?v27_13_14) (by simp only [List.getElem?_toArray, List.getElem?_cons_zero, List.getElem?_cons_succ]; rfl) (by kernel_rfl) (by kernel_rfl) (by kernel_rfl) (by exact fun _ _ _ h => h) (Or.inl ⟨by rfl, ?hy27_13_14⟩) HSE.out ?_
                          case hy27_13_14 => (intro wq hSw; (try dsimp only at hSw); go_simp; try (with_reducible rfl))
                          try simp only [Act.put, List.setIfInBounds_toArray, List.set_cons_zero, List.set_cons_succ]
                          refine wpAnyH_take (i := 14) (v := ?v27_14_15) (by simp only [List.getElem?_toArray, List.getElem?_cons_zero, List.getElem?_cons_succ]; rfl) (by kernel_rfl) (by kernel_rfl) (by kernel_rfl) (by exact fun _ _ _ h => h) (Or.inl ⟨by rfl, ?hy27_14_15⟩) HSE.out ?_
                          case hy27_14_15 => (intro wq hSw; (try dsimp only at hSw); go_simp; try (with_reducible rfl))
                          try simp only [Act.put, List.setIfInBounds_toArray, List.set_cons_zero, List.set_cons_succ]
                          refine wpAnyH_take (i := 15) (v := ?v27_15_16) (by simp only [List.getElem?_toArray, List.getElem?_cons_zero, List.getElem?_cons_succ]; rfl) (by kernel_rfl) (by kernel_rfl) (by kernel_rfl) (by exact fun _ _ _ h => h) (Or.inl ⟨by rfl, ?hy27_15_16⟩) HSE.out ?_
                          case hy27_15_16 => (intro wq hSw; refine (ld_i (.tmp 246) rfl (by simp [Act.eval]) hSw.2.2.2).trans ?_; with_reducible rfl)
                          try simp only [Act.put, List.setIfInBounds_toArray, List.set_cons_zero, List.set_cons_succ]
                          refine wpAnyH_take (i := 16) (v := ?v27_16_17) (by simp only [List.getElem?_toArray, List.getElem?_cons_zero, List.getElem?_cons_succ]; rfl) (by kernel_rfl) (by kernel_rfl) (by kernel_rfl) (by exact fun _ _ _ h => h) (Or.inl ⟨by rfl, ?hy27_16_17⟩) HSE.out ?_
                          case hy27_16_17 => (intro wq hSw; refine (eq_i (e := el) (.tmp 240) (.tmp 247) _ rfl (by simp [Act.eval]) (by simp [Act.eval])).trans ?_; with_reducible rfl)
                          try simp only [Act.put, List.setIfInBounds_toArray, List.set_cons_zero, List.set_cons_succ]
                          refine wpAnyH_take (i := 17) (v := ?v27_17_18) (by simp only [List.getElem?_toArray, List.getElem?_cons_zero, List.getElem?_cons_succ]; rfl) (by kernel_rfl) (by kernel_rfl) (by kernel_rfl) (by exact fun _ _ _ h => h) (Or.inl ⟨by rfl, ?hy27_17_18⟩) HSE.out ?_
                          case hy27_17_18 => (intro wq hSw; (try dsimp only at hSw); go_simp; try (with_reducible rfl))
                          try simp only [Act.put, List.setIfInBounds_toArray, List.set_cons_zero, List.set_cons_succ]
                          refine wpAnyH_take (i := 18) (v := ?v27_18_19) (by simp only [List.getElem?_toArray, List.getElem?_cons_zero, List.getElem?_cons_succ]; rfl) (by kernel_rfl) (by kernel_rfl) (by kernel_rfl) (by exact fun _ _ _ h => h) (Or.inl ⟨by rfl, ?hy27_18_19⟩) HSE.out ?_
                          case hy27_18_19 => (intro wq hSw; (try dsimp only at hSw); go_simp; try (with_reducible rfl))
                          try simp only [Act.put, List.setIfInBounds_toArray, List.set_cons_zero, List.set_cons_succ]
                          refine wpAnyH_done (by kernel_rfl) ?_ _
                          go_wp2_with fail
                          go_roundw
                          case rel => exact ⟨rfl, k + 1, by go_num, by omega, HO9.out⟩
                          case measure => simp only [RowKit.intOf]; omega
                        · have h1 : ¬ (k : Int) < (ni : Int) := by omega
                          have e1 := (HI.out.quiet HO6.out).qi
                          clear hlt hk
                          go_wp2_with fail
                          go_ret
                          exact ⟨rfl, HO6.out⟩
end Go.Proofs.YtgacifbpjdakaaaGreatDoor

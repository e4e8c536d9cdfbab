/- The walk of package asm's read. -/
import Derived.Test.YtmfookpigilccaaGreatDoorQ14
import Derived.Deep.RegionWith
import Derived.Deep.CutRange
namespace Go.Proofs.YtmfookpigilccaaGreatDoor
open Go.ChangeShapes Go.WideShapes Go.ChangeAt Go.RowKit Go.Maps
open Go.Vx (strV labN Only Ins insV Stm stToks stOk stLen wordOf dec tokF)

theorem len_nothing (w : World) : Calls Tryz.prog 134 #[.agg #[]] w fun e w' => e = .returned (.int .i64 0) ∧ w' = w.alloc (.cells #[] 107) := by
  go_enter Tryz.func134, Tryz.ntmps134
  go_wp2
  go_ret
  exact ⟨rfl, rfl⟩
theorem len_datum (x : Int) (w : World) : Calls Tryz.prog 136 #[.agg #[.int .i64 x]] w fun e w' => e = .returned (.int .i64 4) ∧ w' = w.alloc (.cells #[.int .i64 x] 122) := by
  go_enter Tryz.func136, Tryz.ntmps136
  go_wp2
  go_ret
  exact ⟨rfl, rfl⟩
theorem len_inst (i : Ins) (lab : List UInt8) (w : World) : Calls Tryz.prog 142 #[instV i lab] w fun e w' => e = .returned (.int .i64 4) ∧ w' = w.alloc (.cells #[.int .i64 i.op, .int .i64 i.rd, .int .i64 i.rs1, .int .i64 i.rs2, .int .i64 i.imm, .string ⟨lab.toArray⟩] 126) := by
  unfold instV
  go_enter Tryz.func142, Tryz.ntmps142
  go_wp2
  go_ret
  exact ⟨rfl, rfl⟩
theorem Tryz.infoLine : (Tryz.prog.info? 81).map (fun i => (i.zero, i.size, i.bytes)) = some (some (.agg #[.nilIface, .int .i64 0]), 2, 24) := by kernel_rfl
set_option maxRecDepth 100000 in
set_option maxHeartbeats 4000000 in
theorem read_plain (src : List UInt8) (hsl : src.length ≤ 20000) (hno : (35 : UInt8) ∉ src) (s : Stm) (hs : stOk s) (htk : tokF src = stToks s) (hlab : ∀ t, (stToks s)[1]? = some t → t ≠ [58]) (hlen : (stToks s).length ≤ 30)
    (mx : Int) (pb mb base : Nat) (acc : List (Stm × Nat)) (n : Nat) (D : DataW Unit) (L : Nat) (hL : L ≤ 1000000) (hac : acc.length ≤ 30000) (w : World) (hm : MaxAt mx w) (hp : PrAt w pb mb base acc n D L) :
    Calls Tryz.prog 16 #[.pointer (some ⟨pb, 0, none⟩), .string ⟨src.toArray⟩] w fun e w' => e = .returned (.tuple #[]) ∧ PrAt w' pb mb base (acc ++ [(s, L)]) n D (L + stLen s) ∧ Only (PrOwn pb mb w) w w' ∧ ∀ b, b < w.heap.size → PrOwn pb mb w' b → PrOwn pb mb w b := by
  have HP : Hid (PrAt w pb mb base acc n D L) := hp
  have HM : Hid (MaxAt mx w) := hm
  have HNO : Hid ((35 : UInt8) ∉ src) := hno
  have HTK : Hid (tokF src = stToks s) := htk
  have HLA : Hid (∀ t, (stToks s)[1]? = some t → t ≠ [58]) := hlab
  have hpbs : pb < w.heap.size := Nat.lt_of_lt_of_le hp.pbB hp.baseS
  have HST : Hid (stOk s) := hs
  obtain ⟨tid, pv, hsv⟩ : ∃ tid pv, stV s = .iface tid pv := by cases s using Vx.Stm.cs <;> exact ⟨_, _, rfl⟩
  have HSV : Hid (stV s = .iface tid pv) := hsv
  clear hp hm hno htk hlab hs hsv
  go_enter Tryz.func16, Tryz.ntmps16
  go_wp2_with fail
  refine (tokens_any src hsl HNO.out mx _ HM.out).mono ?_
  rintro e w1 ⟨⟨v, rfl, hown⟩, hb1⟩
  rw [HTK.out] at hown
  obtain ⟨vp, vn, vc, rfl⟩ := slice_shape hown
  have hsz1 : w.heap.size ≤ w1.heap.size := hb1.size
  have HO1 : Hid (∀ S : Nat → Prop, Only S w w1) := fun S => Only.of_below hb1 (fun k hk hb => by omega)
  have HSL : Hid (SlStr w1 w1.heap.size (.slice vp vn vc) (stToks s)) := own_sl hown (Nat.le_refl _)
  clear hown hb1
  go_wp2_with fail
  obtain ⟨w2, hw2⟩ : ∃ w2, w1.alloc (.cells #[.slice vp vn vc] 74) = w2 := ⟨_, rfl⟩
  have hs2 : w2.heap.size = w1.heap.size + 1 := by rw [← hw2]; simp
  have HO2 : Hid (∀ S : Nat → Prop, Only S w w2) := fun S => by rw [← hw2]; exact (HO1.out S).alloc _
  have HR2 : Hid (RdAt w2 w1.heap.size (stToks s)) := by
    refine ⟨by omega, .slice vp vn vc, by rw [← hw2]; simp [go_sem], by rw [← hw2]; exact World.frozen?_alloc_new _ _ _ _, ?_⟩
    refine HSL.out.only (S := fun _ => False) ?_ (Nat.le_refl _) (fun _ _ h => h)
    rw [← hw2]; exact (Only.refl _ _).alloc _
  rw [hw2]
  have hc2 : w2.cell? ⟨pb, 2, none⟩ = some (.int .i64 (L : Int)) := by rw [(HO2.out (fun _ => False)).cell (p := ⟨pb, 2, none⟩) hpbs (fun h => h)]; exact HP.out.c2
  have hne2 : ¬ pb = w2.heap.size := by omega
  have HRA0 : Hid (∀ wv, Only (fun _ => False) w2 wv → Calls Tryz.prog 37 #[.pointer (some ⟨w1.heap.size, 0, none⟩)] wv fun e w3 => e = .returned (.iface tid pv) ∧ Only (fun x => x = w1.heap.size) wv w3 ∧ Only (fun x => x = w1.heap.size) w2 w3 ∧ wv.heap.size ≤ w3.heap.size ∧ w3.cell? ⟨pb, 2, none⟩ = some (.int .i64 (L : Int)) ∧ ∀ o, (w3.alloc o).cell? ⟨pb, 2, none⟩ = some (.int .i64 (L : Int))) := by
    intro wv ho
    have hr := HR2.out.only ho (fun _ _ h => h)
    have hst := statement_ok w1.heap.size s HST.out wv hr
    rw [HSV.out] at hst
    refine hst.mono ?_
    rintro e w3 ⟨rfl, _, ho3⟩
    have h23 : Only (fun x => x = w1.heap.size) w2 w3 := (ho.mono fun _ _ h => h.elim).trans ho3
    have hpb2 : pb < w2.heap.size := by omega
    have hpb3 : pb < w3.heap.size := Nat.lt_of_lt_of_le hpb2 h23.size
    have h1 : w3.cell? ⟨pb, 2, none⟩ = some (.int .i64 (L : Int)) := by rw [h23.cell (p := ⟨pb, 2, none⟩) hpb2 (by show ¬ pb = _; omega)]; exact hc2
    refine ⟨rfl, ho3, h23, ho3.size, h1, fun o => ?_⟩
    rw [((Only.refl (fun _ => False) w3).alloc o).cell (p := ⟨pb, 2, none⟩) hpb3 (fun h => h)]
    exact h1
  have HRA : Hid (Calls Tryz.prog 37 #[.pointer (some ⟨w1.heap.size, 0, none⟩)] w2.drew fun e w3 => e = .returned (.iface tid pv) ∧ Only (fun x => x = w1.heap.size) w2 w3 ∧ w2.heap.size ≤ w3.heap.size ∧ w3.cell? ⟨pb, 2, none⟩ = some (.int .i64 (L : Int)) ∧ ∀ o, (w3.alloc o).cell? ⟨pb, 2, none⟩ = some (.int .i64 (L : Int))) := by
    refine (HRA0.out w2.drew (Only.refl _ w2).drew).mono ?_
    rintro e w3 ⟨rfl, _, h2, h3, h4, h5⟩
    exact ⟨rfl, h2, h3, h4, h5⟩
  have HRB : Hid (Calls Tryz.prog 37 #[.pointer (some ⟨w1.heap.size, 0, none⟩)] (w2.alloc (.cells #[.nilIface, .int .i64 0] 81)).drew fun e w3 => e = .returned (.iface tid pv) ∧ Only (fun x => x = w1.heap.size) w2 w3 ∧ w2.heap.size + 1 ≤ w3.heap.size ∧ w3.cell? ⟨pb, 2, none⟩ = some (.int .i64 (L : Int)) ∧ w3.cell? ⟨w1.heap.size + 1, 0, none⟩ = some .nilIface ∧ w3.cell? ⟨w1.heap.size + 1, 1, none⟩ = some (.int .i64 0) ∧ ∀ o, w3.frozen? ⟨w1.heap.size + 1, o, none⟩ = false) := by
    refine (HRA0.out _ ((Only.refl _ w2).alloc _).drew).mono ?_
    rintro e w3 ⟨rfl, h1, h2, h3, h4, h5⟩
    have hlt : w2.heap.size < ((w2.alloc (.cells #[.nilIface, .int .i64 0] 81)).drew).heap.size := by show w2.heap.size < (w2.alloc (.cells #[.nilIface, .int .i64 0] 81)).heap.size; simp
    have hnr : ¬ w2.heap.size = w1.heap.size := by omega
    refine ⟨rfl, h2, by have : ((w2.alloc (.cells #[.nilIface, .int .i64 0] 81)).drew).heap.size = w2.heap.size + 1 := by show (w2.alloc (.cells #[.nilIface, .int .i64 0] 81)).heap.size = _; simp
                        omega, h4, ?_, ?_, fun o => ?_⟩ <;> rw [← hs2]
    · rw [h1.cell (p := ⟨w2.heap.size, 0, none⟩) hlt hnr]; simp [go_sem]
    · rw [h1.cell (p := ⟨w2.heap.size, 1, none⟩) hlt hnr]; simp [go_sem]
    · rw [h1.frozen (p := ⟨w2.heap.size, o, none⟩) hlt hnr]; simp [go_sem]
  have hca : ∀ o, (w2.alloc o).cell? ⟨pb, 2, none⟩ = some (.int .i64 (L : Int)) := fun o => by
    rw [((Only.refl (fun _ => False) w2).alloc o).cell (p := ⟨pb, 2, none⟩) (by show pb < _; omega) (fun h => h)]; exact hc2
  clear hw2 HSL
  refine (atLabel_no w1.heap.size _ (by omega) HLA.out _ HR2.out).mono ?_
  rintro e w' ⟨rfl, rfl⟩
  go_wp2_with fail
  go_cut [5] from 13 to 18 (fun p5 wx => ∃ lb, p5 = .pointer (some ⟨lb, 0, none⟩) ∧ Hid (Only (fun x => x = w1.heap.size) w' wx) ∧ w'.heap.size ≤ lb ∧ lb < wx.heap.size ∧ wx.cell? ⟨lb, 0, none⟩ = some (.iface tid pv) ∧ wx.cell? ⟨lb, 1, none⟩ = some (.int .i64 (L : Int)))
  case first =>
    go_region_with (first | (go_at_call 37; refine HRA.out.mono ?_; rintro e w3 ⟨rfl, h23, hsz3, hcp3, hcb3⟩) | (go_at_call 37; refine HRB.out.mono ?_; rintro e w3 ⟨rfl, h23, hsz3, hcp3, hl0, hl1, hf0⟩))
    all_goals (go_wp2_with fail; go_meet)
    all_goals first
      | exact ⟨w3.heap.size, rfl, h23.alloc _, hsz3, by simp, by simp [go_sem], by simp [go_sem]⟩
      | exact ⟨w1.heap.size + 1, rfl, Only.setCell (S := fun x => x = w1.heap.size) (Only.setCell (S := fun x => x = w1.heap.size) h23 (p := ⟨w1.heap.size + 1, 0, none⟩) (Or.inr (by show w'.heap.size ≤ w1.heap.size + 1; omega)) _) (p := ⟨w1.heap.size + 1, 1, none⟩) (Or.inr (by show w'.heap.size ≤ w1.heap.size + 1; omega)) _, by omega, by rw [size_set, size_set]; omega, by rw [other (by simp)]; exact same hl0, same (by rw [other (by simp)]; exact hl1)⟩
  case rest =>
    obtain ⟨wd, hwd⟩ : ∃ wd, wd = wc := ⟨_, rfl⟩
    subst hwd
    obtain ⟨lb, rfl, HOc, hlb, hlbs, hlc0, hlc1⟩ := hcut
    obtain ⟨hPc, hownC⟩ := HP.out.only (S := fun x => x = w1.heap.size) ((HO2.out _).trans HOc.out) (fun b hb e => by have := (HP.out.own_lt b hb).1; omega)
    have HPC : Hid (PrAt wd pb mb base acc n D L) := hPc
    have HOWC : Hid (∀ b, PrOwn pb mb wd b ↔ PrOwn pb mb w b) := hownC
    have HOW : Hid (Only (fun x => w.heap.size ≤ x) w wd) := (HO2.out _).trans (HOc.out.mono fun b _ e => by omega)
    obtain ⟨lp, lk, lc, hcp0, hrow⟩ := hPc.lines
    have hfz0 := hPc.fz 0
    have hbS := hPc.baseS
    obtain ⟨i0, hi, hz0, hz1, hz2⟩ := info_parts Tryz.infoLine
    have hne3 : ¬ pb = wd.heap.size := by have := hPc.pbB; omega
    have HGR : Hid (∀ w4 v', ((wd.alloc (.cells #[.iface tid pv, .int .i64 (L : Int)] 81)).drew).grownBy w4 (Value.slice lp lk lc).ownBlock → w4.ownsRow base 81 2 v' (acc.length + 1) (acc.flatMap lineC ++ [.iface tid pv, .int .i64 (L : Int)]) → (v'.ownBlock = (Value.slice lp lk lc).ownBlock ∨ v'.ownBlock = some ((wd.alloc (.cells #[.iface tid pv, .int .i64 (L : Int)] 81)).drew).heap.size) → ∃ p' k' c', v' = .slice p' k' c' ∧ w4.cell? ⟨pb, 0, none⟩ = some (.slice lp lk lc) ∧ (∀ o, w4.frozen? ⟨pb, o, none⟩ = false) ∧ Hid (PrAt (w4.setCell ⟨pb, 0, none⟩ (.slice p' k' c')) pb mb base (acc ++ [(s, L)]) n D L ∧ Only (PrOwn pb mb wd) wd (w4.setCell ⟨pb, 0, none⟩ (.slice p' k' c')) ∧ ∀ b, PrOwn pb mb (w4.setCell ⟨pb, 0, none⟩ (.slice p' k' c')) b → PrOwn pb mb wd b ∨ wd.heap.size ≤ b) ∧ Hid (wd.heap.size + 1 ≤ w4.heap.size) ∧ w4.cell? ⟨lb, 0, none⟩ = some (.iface tid pv)) := by
      intro w4 v' hg hown' hloc
      obtain ⟨p', k', c', rfl⟩ := slice_shape hown'
      have hln : lineC (s, L) = [.iface tid pv, .int .i64 (L : Int)] := by unfold lineC; rw [HSV.out]
      rw [← hln] at hown'
      obtain ⟨g1, g2, g3, g4, g5⟩ := HPC.out.grow (s, L) hcp0 (((Only.refl _ wd).alloc _).drew) hg hown' hloc
      have hsz4 : wd.heap.size + 1 ≤ w4.heap.size := by
        have h1 := hg.size
        have h2 : ((wd.alloc (.cells #[.iface tid pv, .int .i64 (L : Int)] 81)).drew).heap.size = wd.heap.size + 1 := by show (wd.alloc (.cells #[.iface tid pv, .int .i64 (L : Int)] 81)).heap.size = _; simp
        omega
      have hnl : ¬ (Value.slice lp lk lc).ownBlock = some lb := fun e => by
        have h1 := (HOWC.out lb).1 (Or.inr (Or.inr ⟨_, hcp0, e⟩))
        have := (HP.out.own_lt lb h1).1
        omega
      have gl : Only (fun x => (Value.slice lp lk lc).ownBlock = some x) wd w4 := (((Only.refl _ wd).alloc _).drew).trans (Only.of_grown hg (fun k hk => hk))
      exact ⟨p', k', c', rfl, g1, g2, ⟨g3, g4, g5⟩, hsz4, by rw [gl.cell (p := ⟨lb, 0, none⟩) hlbs hnl]; exact hlc0⟩
    have A1 : Hid (((wd.alloc (.cells #[.iface tid pv, .int .i64 (L : Int)] 81)).drew).ownsRow base 81 2 (.slice lp lk lc) acc.length (acc.flatMap lineC)) := (hrow.alloc _).drew
    have A2 : Hid (∀ (j : Nat) (u : Value), ([Value.iface tid pv, .int .i64 (L : Int)])[j]? = some u → ((wd.alloc (.cells #[.iface tid pv, .int .i64 (L : Int)] 81)).drew).cell? ((⟨wd.heap.size, 0, none⟩ : Addr).add j) = some u) := by
      intro j u hj
      match j, hj with
      | 0, hj => simp at hj; subst hj; simp [Addr.add, go_sem]
      | 1, hj => simp at hj; subst hj; simp [Addr.add, go_sem]
    have A3 : Hid (∀ u ∈ ([Value.iface tid pv, .int .i64 (L : Int)]), u.oneCell' = true) := by
      intro u hu
      simp at hu
      rcases hu with rfl | rfl <;> rfl
    have A4 : Hid (acc.length + 1 ≤ maxLen ∧ (acc.length + 1) * 24 ≤ 140737488355328 ∧ base ≤ ((wd.alloc (.cells #[.iface tid pv, .int .i64 (L : Int)] 81)).drew).heap.size) := by
      refine ⟨by unfold maxLen; omega, by omega, ?_⟩
      show base ≤ (wd.alloc (.cells #[.iface tid pv, .int .i64 (L : Int)] 81)).heap.size
      simp; omega
    clear hrow
    have hca0 : ∀ o, (wd.alloc o).cell? ⟨pb, 0, none⟩ = some (.slice lp lk lc) := fun o => by
      rw [((Only.refl (fun _ => False) wd).alloc o).cell (p := ⟨pb, 0, none⟩) (by have := HPC.out.pbB; show pb < _; omega) (fun h => h)]; exact hcp0
    go_wp2_with fail
    go_cut [] from 19 to 28 (fun wx => Hid (PrAt wx pb mb base (acc ++ [(s, L)]) n D L ∧ Only (PrOwn pb mb wd) wd wx ∧ ∀ b, PrOwn pb mb wx b → PrOwn pb mb wd b ∨ wd.heap.size ≤ b) ∧ wx.cell? ⟨lb, 0, none⟩ = some (.iface tid pv))
    case first =>
      go_region_law (refine Vx.step_append_own rfl (.tmp 23) (.tmp 25) 40 rfl base 81 i0 (.agg #[.nilIface, .int .i64 0]) 2 24 Tryz.underlying40 hi hz0 hz1 hz2 rfl (by decide) (.slice lp lk lc) acc.length (acc.flatMap lineC) (by simp [Act.eval]) A1.out ⟨wd.heap.size, 0, none⟩ 1 1 [.iface tid pv, .int .i64 (L : Int)] (by simp [Act.eval]) rfl A2.out A3.out A4.out.1 A4.out.2.1 A4.out.2.2 ?_; intro v' w4 hown' hgrow' hloc'; obtain ⟨p', k', c', rfl, hg1, hg2, HG3, HG4, hg5⟩ := HGR.out w4 v' hgrow' hown' hloc')
      all_goals (go_wp2_with fail; go_meet)
      all_goals exact ⟨HG3, by rw [other (by simp <;> omega)]; exact hg5⟩
    case rest =>
      obtain ⟨HG, hlc⟩ := hcut
      have hcp2 := HG.out.1.c2
      have hfp2 := HG.out.1.fz 2
      have hpw : pb < wc.heap.size := by have h1 := HG.out.1.pbB; have h2 := HG.out.1.baseS; omega
      have hcaL : ∀ o, (wc.alloc o).cell? ⟨pb, 2, none⟩ = some (.int .i64 (L : Int)) := fun o => by
        rw [((Only.refl (fun _ => False) wc).alloc o).cell (p := ⟨pb, 2, none⟩) hpw (fun h => h)]; exact hcp2
      have hfaL : ∀ o, (wc.alloc o).frozen? ⟨pb, 2, none⟩ = false := fun o => by
        rw [((Only.refl (fun _ => False) wc).alloc o).frozen (p := ⟨pb, 2, none⟩) hpw (fun h => h)]; exact hfp2
      have HFIN : Hid (∀ (o : Obj) (v : Int), v = (L : Int) + (stLen s : Int) → PrAt ((wc.setCell ⟨pb, 2, none⟩ (.int .i64 v)).alloc o).drew pb mb base (acc ++ [(s, L)]) n D (L + stLen s) ∧ Only (PrOwn pb mb w) w ((wc.setCell ⟨pb, 2, none⟩ (.int .i64 v)).alloc o).drew ∧ ∀ b, b < w.heap.size → PrOwn pb mb ((wc.setCell ⟨pb, 2, none⟩ (.int .i64 v)).alloc o).drew b → PrOwn pb mb w b) := by
        intro o v hv
        obtain ⟨g1, g2, g3⟩ := HG.out
        obtain ⟨p1, o1⟩ := g1.setLen (L + stLen s) v (by omega)
        obtain ⟨p2, o2⟩ := p1.only (S := fun _ => False) (((Only.refl _ (wc.setCell ⟨pb, 2, none⟩ (.int .i64 v))).alloc o).drew) (fun _ _ h => h)
        have hb1 := HOW.out
        refine ⟨p2, ?_, fun b hb h => ?_⟩
        · have a1 : Only (fun x => PrOwn pb mb w x ∨ w.heap.size ≤ x) w wd := hb1.mono fun _ _ h => Or.inr h
          have a2 : Only (fun x => PrOwn pb mb w x ∨ w.heap.size ≤ x) wd wc := g2.mono fun b _ h => Or.inl ((HOWC.out b).1 h)
          have a3 : Only (fun x => PrOwn pb mb w x ∨ w.heap.size ≤ x) wc ((wc.setCell ⟨pb, 2, none⟩ (.int .i64 v)).alloc o).drew := ((Only.setCell (S := fun x => PrOwn pb mb w x ∨ w.heap.size ≤ x) (Only.refl _ wc) (p := ⟨pb, 2, none⟩) (Or.inl (Or.inl (Or.inl rfl))) _).alloc o).drew
          exact ((a1.trans a2).trans a3).mono fun b hb h => by
            rcases h with h | h
            · exact h
            · omega
        · rcases g3 b ((o1 b).1 ((o2 b).1 h)) with h1 | h1
          · exact (HOWC.out b).1 h1
          · have := hb1.size; omega
      have hkd : (tid = 107 ∧ pv = .agg #[] ∧ stLen s = 0) ∨ (tid = 122 ∧ (∃ x : Int, pv = .agg #[.int .i64 x]) ∧ stLen s = 4) ∨ (tid = 126 ∧ (∃ (i : Ins) (lab : List UInt8), pv = instV i lab) ∧ stLen s = 4) := by
        have h := HSV.out
        cases s using Vx.Stm.cs with
        | no => obtain ⟨h1, h2⟩ := Value.iface.inj h; exact Or.inl ⟨h1.symm, h2.symm, rfl⟩
        | word n => obtain ⟨h1, h2⟩ := Value.iface.inj h; exact Or.inr (Or.inl ⟨h1.symm, ⟨_, h2.symm⟩, rfl⟩)
        | ins i lab => obtain ⟨h1, h2⟩ := Value.iface.inj h; exact Or.inr (Or.inr ⟨h1.symm, ⟨_, _, h2.symm⟩, rfl⟩)
      clear HGR A1 A2 A3 A4 HRA HRB HRA0 HPC HR2 HO2 HO1
      rcases hkd with ⟨rfl, rfl, hkl⟩ | ⟨rfl, ⟨x, rfl⟩, hkl⟩ | ⟨rfl, ⟨i, lab, rfl⟩, hkl⟩
      · have HKL : Hid (stLen s = 0) := hkl
        clear hkl
        have hme : ∀ wv, (method 286 107 (.agg #[]) "vault/asm.length").run Tryz.prog wv = .ok (134, .agg #[]) wv := fun _ => by kernel_rfl
        go_wp2_with fail
        go_region_with (go_at_call 134; refine (len_nothing _).mono ?_; rintro e w6 ⟨rfl, rfl⟩)
        all_goals go_wp2_with fail
        all_goals first | go_end0 | refine bodyPost_ret (results_none rfl _ _ _) rfl ?_
        all_goals exact ⟨rfl, HFIN.out _ _ (by rw [IntKind.wrap_i64, HKL.out]; omega)⟩
      · have HKL : Hid (stLen s = 4) := hkl
        clear hkl
        have hme : ∀ wv, (method 286 122 (.agg #[.int .i64 x]) "vault/asm.length").run Tryz.prog wv = .ok (136, .agg #[.int .i64 x]) wv := fun _ => by kernel_rfl
        go_wp2_with fail
        go_region_with (go_at_call 136; refine (len_datum x _).mono ?_; rintro e w6 ⟨rfl, rfl⟩)
        all_goals go_wp2_with fail
        all_goals first | go_end0 | refine bodyPost_ret (results_none rfl _ _ _) rfl ?_
        all_goals exact ⟨rfl, HFIN.out _ _ (by rw [IntKind.wrap_i64, HKL.out]; omega)⟩
      · have HKL : Hid (stLen s = 4) := hkl
        clear hkl
        have hme : ∀ wv, (method 286 126 (.agg #[.int .i64 i.op, .int .i64 i.rd, .int .i64 i.rs1, .int .i64 i.rs2, .int .i64 i.imm, .string ⟨lab.toArray⟩]) "vault/asm.length").run Tryz.prog wv = .ok (142, .agg #[.int .i64 i.op, .int .i64 i.rd, .int .i64 i.rs1, .int .i64 i.rs2, .int .i64 i.imm, .string ⟨lab.toArray⟩]) wv := fun _ => by kernel_rfl
        unfold instV at hlc
        go_wp2_with fail
        go_region_with (go_at_call 142; refine (len_inst i lab _).mono ?_; rintro e w6 ⟨rfl, rfl⟩)
        all_goals go_wp2_with fail
        all_goals first | go_end0 | refine bodyPost_ret (results_none rfl _ _ _) rfl ?_
        all_goals exact ⟨rfl, HFIN.out _ _ (by rw [IntKind.wrap_i64, HKL.out]; omega)⟩
end Go.Proofs.YtmfookpigilccaaGreatDoor

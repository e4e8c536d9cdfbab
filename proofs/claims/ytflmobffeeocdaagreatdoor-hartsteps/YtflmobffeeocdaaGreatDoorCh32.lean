import Derived.Test.YtflmobffeeocdaaGreatDoorCh30
/- The document's Walk, of one use (made by gen_yw.py). -/
namespace Go.Proofs.YtflmobffeeocdaaGreatDoor
open Go.ChangeShapes Go.WideShapes Go.ChangeAt Go.RowKit
open Go.Vx

set_option maxRecDepth 100000 in
set_option maxHeartbeats 8000000 in
theorem refWalk_1 {w : World} {br bb n : Nat} {f : Nat → UInt8} (h : RefAt w br bb n f) (r : Nat) (hr : r < n) (va : Nat) (hva : va < 4294967296) :
    Calls Tryz.prog 38 #[.pointer (some ⟨br, 0, none⟩), .int .i64 (r : Int), .int .i64 (va : Int), .int .i64 1] w fun x w' => x = .returned (.tuple #[.int .i64 ((walkF f n (r : Int) va 1).1 : Nat), .int .i64 (walkF f n (r : Int) va 1).2]) ∧ Only (fun _ => False) w w' := by
  obtain ⟨e1, he1⟩ : ∃ e, wordF f (4096 * r + 4 * (va / 4194304)) = e := ⟨_, rfl⟩
  have HL0 : Hid (leadsB e1 = false → walkF f n (r : Int) va 1 = endF n 1 va e1 4194304) := fun hL => wv_lead0 (u := 1) (by decide) hr he1 hL
  have HL1 : Hid (leadsB e1 = true → e1 / 1024 < n → walkF f n (r : Int) va 1 = endF n 1 va (wordF f (4096 * (e1 / 1024) + 4 * (va % 4194304 / 4096))) 4096) := fun hL hn2 => wv_lead1 (u := 1) (by decide) hr he1 hL hn2 rfl
  have HL2 : Hid (leadsB e1 = true → n ≤ e1 / 1024 → walkF f n (r : Int) va 1 = (0, 5)) := fun hL hn2 => wv_acc2 (u := 1) (by decide) hr he1 hL hn2
  generalize walkF f n (r : Int) va 1 = WF at HL0 HL1 HL2
  have hn := h.top
  have hk1 : va / 4194304 < 1024 := by omega
  have l1 : e1 < 4294967296 := by rw [← he1]; exact wordF_lt _ _
  have HRW := Vx.hid (refWord_any h ((4096 * r + 4 * (va / 4194304) : Nat) : Int))
  rw [wordR_in f n r (va / 4194304) hr hk1, he1] at HRW
  obtain ⟨pl, hpl⟩ : ∃ p : Nat, p = 4096 * r + 4 * (va / 4194304) := ⟨_, rfl⟩
  rw [← hpl] at HRW
  have v1 : wrap64 ((va : Int) / 4194304) = (va : Int) / 4194304 := by simp only [wrap64]; omega
  have v2 : wrap64 ((va : Int) / 4194304 * 4) = (va : Int) / 4194304 * 4 := by simp only [wrap64]; omega
  have v3 : wrap64 (pl : Int) = (pl : Int) := by simp only [wrap64]; omega
  have e3 : 4096 * (r : Int) + (va : Int) / 4194304 * 4 = (pl : Int) := by omega
  have rb : (r : Int) ≤ 255 := by omega
  have dr1 : decide ((r : Int) < 0) = false := decide_eq_false (by omega)
  have dr2 : ¬ 255 < (r : Int) := by omega
  have HE1 := Vx.hid l1
  have HVA := Vx.hid hva
  have HNN := Vx.hid hn
  have HR2 := Vx.hid (fun wv (hv : Only (fun _ => False) w wv) => refWord_any (h.only hv (fun h => h) (fun h => h)) ((4096 * (e1 / 1024) + 4 * (va % 4194304 / 4096) : Nat) : Int))
  obtain ⟨pl2, hpl2⟩ : ∃ p : Nat, p = 4096 * (e1 / 1024) + 4 * (va % 4194304 / 4096) := ⟨_, rfl⟩
  have HWI : Hid (e1 / 1024 < n → wordR f n (pl2 : Int) = (wordF f pl2, 0)) := fun hn2 => by rw [hpl2]; exact wordR_in f n (e1 / 1024) (va % 4194304 / 4096) hn2 (by omega)
  have HWO : Hid (n ≤ e1 / 1024 → wordR f n (pl2 : Int) = (0, 1)) := fun hn2 => by rw [hpl2]; exact wordR_out f n (e1 / 1024) (va % 4194304 / 4096) hn2
  have HWL := Vx.hid (wordF_lt f pl2)
  rw [← hpl2] at HR2 HL1
  have HP2 := Vx.hid hpl2
  obtain ⟨N, hN⟩ : ∃ N, N = 4096 * n := ⟨_, rfl⟩
  have HCR : Hid (∀ wv, Only (fun _ => False) w wv → wv.cell? ⟨br, 0, none⟩ = some (.slice (some ⟨bb, 0, none⟩) N N)) := fun wv hv => by rw [hN]; exact (h.only hv (fun h => h) (fun h => h)).cr
  have HN := Vx.hid hN
  clear h hn hk1 l1 hpl hpl2 he1 hr hva hN
  go_enter Tryz.func38, Tryz.ntmps38
  go_upto_region 14 with fail
  go_wp2_with fail
  refine HRW.out.mono ?_
  rintro e w2 ⟨rfl, ho⟩
  have HO := Vx.hid ho
  clear ho e3 v1 v2 v3 rb HRW
  go_upto_region 18 with fail
  clear dr1 dr2
  go_cut [70] from 18 (fun c wx => c = .bool (leadsB e1) ∧ wx = w2)
  case first =>
    have lb := HE1.out
    obtain ⟨a1, ha1⟩ : ∃ t : Nat, t = e1 % 2 := ⟨_, rfl⟩
    have ia1 : (e1 : Int) % 2 = (a1 : Int) := by rw [ha1]; rfl
    have ja1 : Int.tmod (e1 : Int) 2 = (a1 : Int) := by rw [ha1]; rfl
    have la1 : a1 < 2 := by rw [ha1]; exact Nat.mod_lt _ (by decide)
    obtain ⟨a2, ha2⟩ : ∃ t : Nat, t = e1 / 2 % 8 := ⟨_, rfl⟩
    have ia2 : (e1 : Int) / 2 % 8 = (a2 : Int) := by rw [ha2]; rfl
    have ja2 : Int.tmod (Int.tdiv (e1 : Int) 2) 8 = (a2 : Int) := by rw [ha2]; rfl
    have ka2 : Int.tmod ((e1 : Int) / 2) 8 = (a2 : Int) := by rw [ha2]; rfl
    have ua2 : wrap64 ((e1 : Int) / 2) = (e1 : Int) / 2 := wrapQ e1 2 lb
    have la2 : a2 < 8 := by rw [ha2]; exact Nat.mod_lt _ (by decide)
    obtain ⟨a3, ha3⟩ : ∃ t : Nat, t = e1 / 16 % 2 := ⟨_, rfl⟩
    have ia3 : (e1 : Int) / 16 % 2 = (a3 : Int) := by rw [ha3]; rfl
    have ja3 : Int.tmod (Int.tdiv (e1 : Int) 16) 2 = (a3 : Int) := by rw [ha3]; rfl
    have ka3 : Int.tmod ((e1 : Int) / 16) 2 = (a3 : Int) := by rw [ha3]; rfl
    have ua3 : wrap64 ((e1 : Int) / 16) = (e1 : Int) / 16 := wrapQ e1 16 lb
    have la3 : a3 < 2 := by rw [ha3]; exact Nat.mod_lt _ (by decide)
    obtain ⟨a4, ha4⟩ : ∃ t : Nat, t = e1 / 64 % 4 := ⟨_, rfl⟩
    have ia4 : (e1 : Int) / 64 % 4 = (a4 : Int) := by rw [ha4]; rfl
    have ja4 : Int.tmod (Int.tdiv (e1 : Int) 64) 4 = (a4 : Int) := by rw [ha4]; rfl
    have ka4 : Int.tmod ((e1 : Int) / 64) 4 = (a4 : Int) := by rw [ha4]; rfl
    have ua4 : wrap64 ((e1 : Int) / 64) = (e1 : Int) / 64 := wrapQ e1 64 lb
    have la4 : a4 < 4 := by rw [ha4]; exact Nat.mod_lt _ (by decide)
    have HLB : Hid (leadsB e1 = (decide (a1 = 1) && decide (a2 = 0) && decide (a3 = 0) && decide (a4 = 0))) := by show _ = _; rw [ha1, ha2, ha3, ha4]; rfl
    clear lb ha1 la1 ha2 la2 ha3 la3 ha4 la4
    by_cases ca1 : a1 = 1
    · have Ha1 := Vx.hid ca1
      have fa1 : (a1 : Int) = 1 := eq_cast (c := 1) Ha1.out
      have ga1 : ((a1 : Int) == 1) = true := beq_iff_eq.2 fa1
      have na1 : ((a1 : Int) != 1) = false := bne_eq_false_iff_eq.2 fa1
      clear ca1
      by_cases ca2 : a2 = 0
      · have Ha2 := Vx.hid ca2
        have fa2 : (a2 : Int) = 0 := eq_cast (c := 0) Ha2.out
        have ga2 : ((a2 : Int) == 0) = true := beq_iff_eq.2 fa2
        have na2 : ((a2 : Int) != 0) = false := bne_eq_false_iff_eq.2 fa2
        clear ca2
        by_cases ca3 : a3 = 0
        · have Ha3 := Vx.hid ca3
          have fa3 : (a3 : Int) = 0 := eq_cast (c := 0) Ha3.out
          have ga3 : ((a3 : Int) == 0) = true := beq_iff_eq.2 fa3
          have na3 : ((a3 : Int) != 0) = false := bne_eq_false_iff_eq.2 fa3
          clear ca3
          by_cases ca4 : a4 = 0
          · have Ha4 := Vx.hid ca4
            have fa4 : (a4 : Int) = 0 := eq_cast (c := 0) Ha4.out
            have ga4 : ((a4 : Int) == 0) = true := beq_iff_eq.2 fa4
            have na4 : ((a4 : Int) != 0) = false := bne_eq_false_iff_eq.2 fa4
            clear ca4
            go_wp2_with fail
            go_meet
            exact ⟨congrArg Value.bool (by rw [HLB.out, decide_eq_true Ha1.out, decide_eq_true Ha2.out, decide_eq_true Ha3.out, decide_eq_true Ha4.out]; simp), rfl⟩
          · have Ha4 := Vx.hid ca4
            have fa4 : ¬ (a4 : Int) = 0 := ne_cast (c := 0) Ha4.out
            have ga4 : ((a4 : Int) == 0) = false := beq_eq_false_iff_ne.2 fa4
            have na4 : ((a4 : Int) != 0) = true := bne_iff_ne.2 fa4
            clear ca4
            go_wp2_with fail
            go_meet
            exact ⟨congrArg Value.bool (by rw [HLB.out, decide_eq_true Ha1.out, decide_eq_true Ha2.out, decide_eq_true Ha3.out, decide_eq_false Ha4.out]; simp), rfl⟩
        · have Ha3 := Vx.hid ca3
          have fa3 : ¬ (a3 : Int) = 0 := ne_cast (c := 0) Ha3.out
          have ga3 : ((a3 : Int) == 0) = false := beq_eq_false_iff_ne.2 fa3
          have na3 : ((a3 : Int) != 0) = true := bne_iff_ne.2 fa3
          clear ca3
          go_wp2_with fail
          go_meet
          exact ⟨congrArg Value.bool (by rw [HLB.out, decide_eq_true Ha1.out, decide_eq_true Ha2.out, decide_eq_false Ha3.out]; simp), rfl⟩
      · have Ha2 := Vx.hid ca2
        have fa2 : ¬ (a2 : Int) = 0 := ne_cast (c := 0) Ha2.out
        have ga2 : ((a2 : Int) == 0) = false := beq_eq_false_iff_ne.2 fa2
        have na2 : ((a2 : Int) != 0) = true := bne_iff_ne.2 fa2
        clear ca2
        go_wp2_with fail
        go_meet
        exact ⟨congrArg Value.bool (by rw [HLB.out, decide_eq_true Ha1.out, decide_eq_false Ha2.out]; simp), rfl⟩
    · have Ha1 := Vx.hid ca1
      have fa1 : ¬ (a1 : Int) = 1 := ne_cast (c := 1) Ha1.out
      have ga1 : ((a1 : Int) == 1) = false := beq_eq_false_iff_ne.2 fa1
      have na1 : ((a1 : Int) != 1) = true := bne_iff_ne.2 fa1
      clear ca1
      go_wp2_with fail
      go_meet
      exact ⟨congrArg Value.bool (by rw [HLB.out, decide_eq_false Ha1.out]; simp), rfl⟩
  case rest =>
    obtain ⟨rfl, rfl⟩ := hcut
    go_upto_if 70 with fail
    go_cut [13, 14, 15] from 18 (fun w13 _ w15 wx => ∃ (e S : Nat) (SI : Int), w13 = .int .i64 (e : Int) ∧ w15 = .int .i64 SI ∧ Hid (WF = endF n 1 va e S ∧ e < 4294967296 ∧ ((S = 4096 ∧ SI = 4096) ∨ (S = 4194304 ∧ SI = 4194304))) ∧ Hid (Only (fun _ => False) w wx))
    case first =>
      cases hLD : leadsB e1 with
      | false =>
        have HZ := Vx.hid (HL0.out hLD)
        clear hLD HL1 HL2 HWI HWO HR2
        go_wp2_with fail
        go_meet
        exact ⟨e1, 4194304, 4194304, rfl, rfl, ⟨HZ.out, HE1.out, Or.inr ⟨rfl, rfl⟩⟩, HO⟩
      | true =>
        have HLA := Vx.hid (HL1.out hLD)
        have HLB := Vx.hid (HL2.out hLD)
        clear hLD HL0 HL1 HL2
        have lb := HE1.out
        have lv := HVA.out
        have lp := HP2.out
        obtain ⟨g, hg⟩ : ∃ g : Nat, g = e1 / 1024 := ⟨_, rfl⟩
        obtain ⟨k2, hk2⟩ : ∃ k : Nat, k = va / 4096 % 1024 := ⟨_, rfl⟩
        have ep : (g : Int) * 4096 + (k2 : Int) * 4 = (pl2 : Int) := lead_eq e1 va pl2 g k2 hg hk2 lp
        have vp : wrap64 (pl2 : Int) = (pl2 : Int) := lead_wrap e1 va pl2 lb lp
        have x0 : (e1 : Int) / 1024 = (g : Int) := by rw [hg]; rfl
        obtain ⟨x1, x2⟩ := wrapG e1 g lb hg
        have x3 : wrap64 ((va : Int) / 4096) = (va : Int) / 4096 := wrapQ va 4096 lv
        have x4 : Int.tmod ((va : Int) / 4096) 1024 = (k2 : Int) := by rw [hk2]; rfl
        have x6 : (va : Int) / 4096 % 1024 = (k2 : Int) := by rw [hk2]; rfl
        have x5 := wrapK va k2 hk2
        have HR3 := Vx.hid (HR2.out _ HO.out)
        clear hg hk2 lb lv lp HR2
        by_cases hn2 : n ≤ e1 / 1024
        · have HZ := Vx.hid (HLB.out hn2)
          rw [HWO.out hn2] at HR3
          clear hn2 HLA HLB HWI HWO
          go_wp2_with fail
          refine HR3.out.mono ?_
          rintro e w3 ⟨rfl, ho⟩
          have HO3 := Vx.hid (HO.out.trans ho)
          clear ho
          go_wp2_with fail
          all_goals
            go_ret2
            rw [HZ.out]
            exact ⟨rfl, HO3.out⟩
        · have HZ := Vx.hid (HLA.out (by omega))
          rw [HWI.out (by omega)] at HR3
          generalize wordF f pl2 = e2 at HR3 HZ HWL
          clear hn2 HLA HLB HWI HWO
          go_wp2_with fail
          refine HR3.out.mono ?_
          rintro e w3 ⟨rfl, ho⟩
          have HO3 := Vx.hid (HO.out.trans ho)
          clear ho
          go_wp2_with fail
          go_meet
          exact ⟨e2, 4096, 4096, rfl, rfl, ⟨HZ.out, HWL.out, Or.inl ⟨rfl, rfl⟩⟩, HO3⟩
    case rest =>
      obtain ⟨e, S, SI, rfl, rfl, HZ, HO4⟩ := hcut
      clear HL0 HL1 HL2 HR2 HWI HWO HWL HP2 HE1 HO
      have HEL := Vx.hid HZ.out.2.1
      have HSS := Vx.hid HZ.out.2.2
      have HEN := Vx.hid HZ.out.1
      clear HZ
      obtain ⟨w5, hw5⟩ : ∃ w5, w5 = wc := ⟨_, rfl⟩
      rw [← hw5] at HO4 ⊢
      clear hw5
      obtain ⟨LB, HLB⟩ : ∃ LB, Hid (LB = (decide (e / 2 % 2 = 1) || decide (e / 8 % 2 = 1))) := ⟨_, rfl⟩
      go_upto_region 23 with fail
      go_cut [16] from 18 (fun c wx => c = .bool LB ∧ wx = w5)
      case first =>
        have lb := HEL.out
        obtain ⟨b2, hb2⟩ : ∃ t : Nat, t = e / 2 % 2 := ⟨_, rfl⟩
        have ib2 : (e : Int) / 2 % 2 = (b2 : Int) := by rw [hb2]; rfl
        have jb2 : Int.tmod (Int.tdiv (e : Int) 2) 2 = (b2 : Int) := by rw [hb2]; rfl
        have kb2 : Int.tmod ((e : Int) / 2) 2 = (b2 : Int) := by rw [hb2]; rfl
        have ub2 : wrap64 ((e : Int) / 2) = (e : Int) / 2 := wrapQ e 2 lb
        have lb2 : b2 < 2 := by rw [hb2]; exact Nat.mod_lt _ (by decide)
        obtain ⟨b8, hb8⟩ : ∃ t : Nat, t = e / 8 % 2 := ⟨_, rfl⟩
        have ib8 : (e : Int) / 8 % 2 = (b8 : Int) := by rw [hb8]; rfl
        have jb8 : Int.tmod (Int.tdiv (e : Int) 8) 2 = (b8 : Int) := by rw [hb8]; rfl
        have kb8 : Int.tmod ((e : Int) / 8) 2 = (b8 : Int) := by rw [hb8]; rfl
        have ub8 : wrap64 ((e : Int) / 8) = (e : Int) / 8 := wrapQ e 8 lb
        have lb8 : b8 < 2 := by rw [hb8]; exact Nat.mod_lt _ (by decide)
        have HLC : Hid (LB = (decide (b2 = 1) || decide (b8 = 1))) := by show _ = _; rw [HLB.out, hb2, hb8]
        clear lb hb2 hb8 lb2 lb8
        by_cases cb2 : b2 = 1
        · have Hb2 := Vx.hid cb2
          have fb2 : (b2 : Int) = 1 := eq_cast (c := 1) Hb2.out
          have gb2 : ((b2 : Int) == 1) = true := beq_iff_eq.2 fb2
          have nb2 : ((b2 : Int) != 1) = false := bne_eq_false_iff_eq.2 fb2
          clear cb2
          go_wp2_with fail
          go_meet
          exact ⟨congrArg Value.bool (by rw [HLC.out, decide_eq_true Hb2.out]; simp), rfl⟩
        · have Hb2 := Vx.hid cb2
          have fb2 : ¬ (b2 : Int) = 1 := ne_cast (c := 1) Hb2.out
          have gb2 : ((b2 : Int) == 1) = false := beq_eq_false_iff_ne.2 fb2
          have nb2 : ((b2 : Int) != 1) = true := bne_iff_ne.2 fb2
          clear cb2
          by_cases cb8 : b8 = 1
          · have Hb8 := Vx.hid cb8
            have fb8 : (b8 : Int) = 1 := eq_cast (c := 1) Hb8.out
            have gb8 : ((b8 : Int) == 1) = true := beq_iff_eq.2 fb8
            have nb8 : ((b8 : Int) != 1) = false := bne_eq_false_iff_eq.2 fb8
            clear cb8
            go_wp2_with fail
            go_meet
            exact ⟨congrArg Value.bool (by rw [HLC.out, decide_eq_false Hb2.out, decide_eq_true Hb8.out]; simp), rfl⟩
          · have Hb8 := Vx.hid cb8
            have fb8 : ¬ (b8 : Int) = 1 := ne_cast (c := 1) Hb8.out
            have gb8 : ((b8 : Int) == 1) = false := beq_eq_false_iff_ne.2 fb8
            have nb8 : ((b8 : Int) != 1) = true := bne_iff_ne.2 fb8
            clear cb8
            go_wp2_with fail
            go_meet
            exact ⟨congrArg Value.bool (by rw [HLC.out, decide_eq_false Hb2.out, decide_eq_false Hb8.out]; simp), rfl⟩
      case rest =>
        obtain ⟨rfl, hwc⟩ := hcut
        have hw6 := hwc.symm; clear hwc; subst hw6
        obtain ⟨OK, HOK⟩ : ∃ OK, Hid (OK = okB 1 e) := ⟨_, rfl⟩
        go_upto_region 24 with fail
        go_cut [138] from 18 (fun c wx => c = .bool (!OK) ∧ wx = w5)
        case first =>
          have lb := HEL.out
          obtain ⟨b1, hb1⟩ : ∃ t : Nat, t = e % 2 := ⟨_, rfl⟩
          have ib1 : (e : Int) % 2 = (b1 : Int) := by rw [hb1]; rfl
          have jb1 : Int.tmod (e : Int) 2 = (b1 : Int) := by rw [hb1]; rfl
          have lb1 : b1 < 2 := by rw [hb1]; exact Nat.mod_lt _ (by decide)
          obtain ⟨b4, hb4⟩ : ∃ t : Nat, t = e / 2 % 4 := ⟨_, rfl⟩
          have ib4 : (e : Int) / 2 % 4 = (b4 : Int) := by rw [hb4]; rfl
          have jb4 : Int.tmod (Int.tdiv (e : Int) 2) 4 = (b4 : Int) := by rw [hb4]; rfl
          have kb4 : Int.tmod ((e : Int) / 2) 4 = (b4 : Int) := by rw [hb4]; rfl
          have ub4 : wrap64 ((e : Int) / 2) = (e : Int) / 2 := wrapQ e 2 lb
          have lb4 : b4 < 4 := by rw [hb4]; exact Nat.mod_lt _ (by decide)
          obtain ⟨br, hbr⟩ : ∃ t : Nat, t = e / 2 % 2 := ⟨_, rfl⟩
          have ibr : (e : Int) / 2 % 2 = (br : Int) := by rw [hbr]; rfl
          have jbr : Int.tmod (Int.tdiv (e : Int) 2) 2 = (br : Int) := by rw [hbr]; rfl
          have kbr : Int.tmod ((e : Int) / 2) 2 = (br : Int) := by rw [hbr]; rfl
          have ubr : wrap64 ((e : Int) / 2) = (e : Int) / 2 := wrapQ e 2 lb
          have lbr : br < 2 := by rw [hbr]; exact Nat.mod_lt _ (by decide)
          obtain ⟨b16, hb16⟩ : ∃ t : Nat, t = e / 16 % 2 := ⟨_, rfl⟩
          have ib16 : (e : Int) / 16 % 2 = (b16 : Int) := by rw [hb16]; rfl
          have jb16 : Int.tmod (Int.tdiv (e : Int) 16) 2 = (b16 : Int) := by rw [hb16]; rfl
          have kb16 : Int.tmod ((e : Int) / 16) 2 = (b16 : Int) := by rw [hb16]; rfl
          have ub16 : wrap64 ((e : Int) / 16) = (e : Int) / 16 := wrapQ e 16 lb
          have lb16 : b16 < 2 := by rw [hb16]; exact Nat.mod_lt _ (by decide)
          obtain ⟨b64, hb64⟩ : ∃ t : Nat, t = e / 64 % 2 := ⟨_, rfl⟩
          have ib64 : (e : Int) / 64 % 2 = (b64 : Int) := by rw [hb64]; rfl
          have jb64 : Int.tmod (Int.tdiv (e : Int) 64) 2 = (b64 : Int) := by rw [hb64]; rfl
          have kb64 : Int.tmod ((e : Int) / 64) 2 = (b64 : Int) := by rw [hb64]; rfl
          have ub64 : wrap64 ((e : Int) / 64) = (e : Int) / 64 := wrapQ e 64 lb
          have lb64 : b64 < 2 := by rw [hb64]; exact Nat.mod_lt _ (by decide)
          have HOB : Hid (OK = (decide (b1 = 1) && LB && !(decide (b4 = 2)) && decide (br = 1) && decide (b16 = 1) && decide (b64 = 1))) := by
            show _ = _
            rw [HOK.out, HLB.out, hb1, hb4, hbr, hb16, hb64]
            unfold okB rightN
            simp
          clear lb hb1 hb4 hbr hb16 hb64
          clear HLB
          by_cases cb1 : b1 = 0
          · have Hb1 := Vx.hid cb1
            have fb1 : (b1 : Int) = 0 := eq_cast (c := 0) Hb1.out
            have gb1 : ((b1 : Int) == 0) = true := beq_iff_eq.2 fb1
            have nb1 : ((b1 : Int) != 0) = false := bne_eq_false_iff_eq.2 fb1
            clear cb1
            have HOC : Hid (OK = false) := by show _ = _; rw [HOB.out, (show decide (b1 = 1) = false by rw [Hb1.out]; rfl)]; simp
            clear HOB lb1 lb4 lbr lb16 lb64
            go_wp2_with fail
            go_meet
            exact ⟨by rw [HOC.out]; rfl, rfl⟩
          · have Hb1 := Vx.hid cb1
            have fb1 : ¬ (b1 : Int) = 0 := ne_cast (c := 0) Hb1.out
            have gb1 : ((b1 : Int) == 0) = false := beq_eq_false_iff_ne.2 fb1
            have nb1 : ((b1 : Int) != 0) = true := bne_iff_ne.2 fb1
            clear cb1
            cases LB with
            | true =>
              by_cases cb4 : b4 = 2
              · have Hb4 := Vx.hid cb4
                have fb4 : (b4 : Int) = 2 := eq_cast (c := 2) Hb4.out
                have gb4 : ((b4 : Int) == 2) = true := beq_iff_eq.2 fb4
                have nb4 : ((b4 : Int) != 2) = false := bne_eq_false_iff_eq.2 fb4
                clear cb4
                have HOC : Hid (OK = false) := by show _ = _; rw [HOB.out, decide_eq_true (one_of Hb1.out lb1), decide_eq_true Hb4.out]; simp
                clear HOB lb1 lb4 lbr lb16 lb64
                go_wp2_with fail
                go_meet
                exact ⟨by rw [HOC.out]; rfl, rfl⟩
              · have Hb4 := Vx.hid cb4
                have fb4 : ¬ (b4 : Int) = 2 := ne_cast (c := 2) Hb4.out
                have gb4 : ((b4 : Int) == 2) = false := beq_eq_false_iff_ne.2 fb4
                have nb4 : ((b4 : Int) != 2) = true := bne_iff_ne.2 fb4
                clear cb4
                by_cases cbr : br = 0
                · have Hbr := Vx.hid cbr
                  have fbr : (br : Int) = 0 := eq_cast (c := 0) Hbr.out
                  have gbr : ((br : Int) == 0) = true := beq_iff_eq.2 fbr
                  have nbr : ((br : Int) != 0) = false := bne_eq_false_iff_eq.2 fbr
                  clear cbr
                  have HOC : Hid (OK = false) := by show _ = _; rw [HOB.out, decide_eq_true (one_of Hb1.out lb1), decide_eq_false Hb4.out, (show decide (br = 1) = false by rw [Hbr.out]; rfl)]; simp
                  clear HOB lb1 lb4 lbr lb16 lb64
                  go_wp2_with fail
                  go_meet
                  exact ⟨by rw [HOC.out]; rfl, rfl⟩
                · have Hbr := Vx.hid cbr
                  have fbr : ¬ (br : Int) = 0 := ne_cast (c := 0) Hbr.out
                  have gbr : ((br : Int) == 0) = false := beq_eq_false_iff_ne.2 fbr
                  have nbr : ((br : Int) != 0) = true := bne_iff_ne.2 fbr
                  clear cbr
                  by_cases cb16 : b16 = 0
                  · have Hb16 := Vx.hid cb16
                    have fb16 : (b16 : Int) = 0 := eq_cast (c := 0) Hb16.out
                    have gb16 : ((b16 : Int) == 0) = true := beq_iff_eq.2 fb16
                    have nb16 : ((b16 : Int) != 0) = false := bne_eq_false_iff_eq.2 fb16
                    clear cb16
                    have HOC : Hid (OK = false) := by show _ = _; rw [HOB.out, decide_eq_true (one_of Hb1.out lb1), decide_eq_false Hb4.out, decide_eq_true (one_of Hbr.out lbr), (show decide (b16 = 1) = false by rw [Hb16.out]; rfl)]; simp
                    clear HOB lb1 lb4 lbr lb16 lb64
                    go_wp2_with fail
                    go_meet
                    exact ⟨by rw [HOC.out]; rfl, rfl⟩
                  · have Hb16 := Vx.hid cb16
                    have fb16 : ¬ (b16 : Int) = 0 := ne_cast (c := 0) Hb16.out
                    have gb16 : ((b16 : Int) == 0) = false := beq_eq_false_iff_ne.2 fb16
                    have nb16 : ((b16 : Int) != 0) = true := bne_iff_ne.2 fb16
                    clear cb16
                    by_cases cb64 : b64 = 0
                    · have Hb64 := Vx.hid cb64
                      have fb64 : (b64 : Int) = 0 := eq_cast (c := 0) Hb64.out
                      have gb64 : ((b64 : Int) == 0) = true := beq_iff_eq.2 fb64
                      have nb64 : ((b64 : Int) != 0) = false := bne_eq_false_iff_eq.2 fb64
                      clear cb64
                      have HOC : Hid (OK = false) := by show _ = _; rw [HOB.out, decide_eq_true (one_of Hb1.out lb1), decide_eq_false Hb4.out, decide_eq_true (one_of Hbr.out lbr), decide_eq_true (one_of Hb16.out lb16), (show decide (b64 = 1) = false by rw [Hb64.out]; rfl)]; simp
                      clear HOB lb1 lb4 lbr lb16 lb64
                      go_wp2_with fail
                      go_meet
                      exact ⟨by rw [HOC.out]; rfl, rfl⟩
                    · have Hb64 := Vx.hid cb64
                      have fb64 : ¬ (b64 : Int) = 0 := ne_cast (c := 0) Hb64.out
                      have gb64 : ((b64 : Int) == 0) = false := beq_eq_false_iff_ne.2 fb64
                      have nb64 : ((b64 : Int) != 0) = true := bne_iff_ne.2 fb64
                      clear cb64
                      have HOC : Hid (OK = true) := by show _ = _; rw [HOB.out, decide_eq_true (one_of Hb1.out lb1), decide_eq_false Hb4.out, decide_eq_true (one_of Hbr.out lbr), decide_eq_true (one_of Hb16.out lb16), decide_eq_true (one_of Hb64.out lb64)]; simp
                      clear HOB lb1 lb4 lbr lb16 lb64
                      go_wp2_with fail
                      go_meet
                      exact ⟨by rw [HOC.out]; rfl, rfl⟩
            | false =>
              have HOC : Hid (OK = false) := by show _ = _; rw [HOB.out, decide_eq_true (one_of Hb1.out lb1)]; simp
              clear HOB lb1 lb4 lbr lb16 lb64
              go_wp2_with fail
              go_meet
              exact ⟨by rw [HOC.out]; rfl, rfl⟩
        case rest =>
          obtain ⟨rfl, hwc⟩ := hcut
          have hw6 := hwc.symm; clear hwc; subst hw6
          clear HLB
          cases OK with
          | false =>
            have HZ : Hid (WF = (0, 13)) := by show _ = _; rw [HEN.out]; exact end_page (by rw [← HOK.out, Bool.false_and])
            clear HEN HOK
            go_wp2_with fail
            all_goals
              go_ret2
              rw [HZ.out]
              exact ⟨rfl, HO4.out⟩
          | true =>
            have HPG : Hid (wholeB e S = false → WF = (0, 13)) := fun hw => by rw [HEN.out]; exact end_page (by rw [hw, Bool.and_false])
            have HAC : Hid (wholeB e S = true → 4096 * n ≤ e / 1024 * 4096 + va % S → WF = (0, 5)) := fun hw hge => by rw [HEN.out]; exact end_acc (by rw [← HOK.out, hw]; rfl) hge
            have HIN : Hid (wholeB e S = true → ¬ 4096 * n ≤ e / 1024 * 4096 + va % S → WF = (e / 1024 * 4096 + va % S, -1)) := fun hw hge => by rw [HEN.out]; exact end_in (by rw [← HOK.out, hw]; rfl) hge
            clear HEN HOK
            have hcr := HCR.out _ HO4.out
            rcases HSS.out with ⟨rfl, rfl⟩ | ⟨rfl, rfl⟩
            · have HW1 := Vx.hid (whole_small e)
              obtain ⟨pa, hpa⟩ : ∃ p : Nat, p = e / 1024 * 4096 + va % 4096 := ⟨_, rfl⟩
              have HA2 := Vx.hid (HAC.out HW1.out)
              have HI2 := Vx.hid (HIN.out HW1.out)
              rw [← hpa] at HA2 HI2
              obtain ⟨ipa, vpa, y1, y2, y3⟩ := paS e va pa HEL.out HVA.out hpa
              have lN := HN.out
              by_cases hge : N ≤ pa
              · have HZ := Vx.hid (HA2.out (by rw [← lN]; exact hge))
                have cge : (N : Int) ≤ (pa : Int) := Int.ofNat_le.2 hge
                clear hge lN hpa HPG HAC HIN HA2 HI2
                go_wp2_with fail
                all_goals
                  go_ret2
                  rw [HZ.out]
                  exact ⟨rfl, HO4.out⟩
              · have HZ := Vx.hid (HI2.out (by rw [← lN]; exact hge))
                have cge : ¬ (N : Int) ≤ (pa : Int) := fun h => hge (Int.ofNat_le.1 h)
                clear hge lN hpa HPG HAC HIN HA2 HI2
                go_wp2_with fail
                all_goals
                  go_ret2
                  rw [HZ.out]
                  exact ⟨rfl, HO4.out⟩
            · have lb := HEL.out
              obtain ⟨bh, hbh⟩ : ∃ t : Nat, t = e / 1024 % 1024 := ⟨_, rfl⟩
              have ibh : (e : Int) / 1024 % 1024 = (bh : Int) := by rw [hbh]; rfl
              have jbh : Int.tmod (Int.tdiv (e : Int) 1024) 1024 = (bh : Int) := by rw [hbh]; rfl
              have kbh : Int.tmod ((e : Int) / 1024) 1024 = (bh : Int) := by rw [hbh]; rfl
              have ubh : wrap64 ((e : Int) / 1024) = (e : Int) / 1024 := wrapQ e 1024 lb
              have lbh : bh < 1024 := by rw [hbh]; exact Nat.mod_lt _ (by decide)
              have HBH := Vx.hid hbh
              clear lb hbh lbh
              by_cases ch : bh = 0
              case neg =>
                have Hbh := Vx.hid ch
                have HZ := Vx.hid (HPG.out (whole_not (fun e => ch (HBH.out.trans e))))
                have fbh : ¬ (bh : Int) = 0 := ne_cast (c := 0) Hbh.out
                have gbh : ((bh : Int) == 0) = false := beq_eq_false_iff_ne.2 fbh
                have nbh : ((bh : Int) != 0) = true := bne_iff_ne.2 fbh
                clear ch HPG HAC HIN
                go_wp2_with fail
                all_goals
                  go_ret2
                  rw [HZ.out]
                  exact ⟨rfl, HO4.out⟩
              have Hbh := Vx.hid ch
              have HW1 := Vx.hid (whole_great (HBH.out.symm.trans ch))
              have fbh : (bh : Int) = 0 := eq_cast (c := 0) Hbh.out
              have gbh : ((bh : Int) == 0) = true := beq_iff_eq.2 fbh
              have nbh : ((bh : Int) != 0) = false := bne_eq_false_iff_eq.2 fbh
              clear ch
              obtain ⟨pa, hpa⟩ : ∃ p : Nat, p = e / 1024 * 4096 + va % 4194304 := ⟨_, rfl⟩
              have HA2 := Vx.hid (HAC.out HW1.out)
              have HI2 := Vx.hid (HIN.out HW1.out)
              rw [← hpa] at HA2 HI2
              obtain ⟨ipa, vpa, y1, y2, y3⟩ := paG e va pa HEL.out HVA.out hpa
              have lN := HN.out
              by_cases hge : N ≤ pa
              · have HZ := Vx.hid (HA2.out (by rw [← lN]; exact hge))
                have cge : (N : Int) ≤ (pa : Int) := Int.ofNat_le.2 hge
                clear hge lN hpa HPG HAC HIN HA2 HI2
                go_wp2_with fail
                all_goals
                  go_ret2
                  rw [HZ.out]
                  exact ⟨rfl, HO4.out⟩
              · have HZ := Vx.hid (HI2.out (by rw [← lN]; exact hge))
                have cge : ¬ (N : Int) ≤ (pa : Int) := fun h => hge (Int.ofNat_le.1 h)
                clear hge lN hpa HPG HAC HIN HA2 HI2
                go_wp2_with fail
                all_goals
                  go_ret2
                  rw [HZ.out]
                  exact ⟨rfl, HO4.out⟩
end Go.Proofs.YtflmobffeeocdaaGreatDoor

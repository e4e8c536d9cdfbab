/- Straight walks of the document's Walk. -/
import Derived.Test.YthcngafjklihcaaDoorX0
namespace Go.Proofs.YthcngafjklihcaaDoor
open Go.ChangeShapes Go.WideShapes Go.ChangeAt Go.RowKit
open Go.Vx

set_option maxRecDepth 100000 in
set_option maxHeartbeats 2000000 in
theorem rw2_tRd {w : World} {br bb n : Nat} {f : Nat → UInt8} (h : RefAt w br bb n f) (r : Nat) (hr : r < n) (va : Nat) (hva : va < 4294967296) (e1 : Nat) (he1 : wordF f (4096 * r + 4 * (va / 4194304)) = e1) (a1_2 : e1 % 2 = 1) (a2_8 : e1 / 2 % 8 = 0) (a16_2 : e1 / 16 % 2 = 0) (a64_4 : e1 / 64 % 4 = 0) (hn2 : e1 / 1024 < n) (e2 : Nat) (he2 : wordF f (4096 * (e1 / 1024) + 4 * (va % 4194304 / 4096)) = e2) (b2_2 : e2 / 2 % 2 = 1) (b1_2 : e2 % 2 = 1) (b2_4 : e2 / 2 % 4 ≠ 2) (b4_2 : e2 / 4 % 2 = 1) (b16_2 : e2 / 16 % 2 = 1) (b64_2 : e2 / 64 % 2 = 1) (b128_2 : e2 / 128 % 2 = 0) :
    Calls Tryd.prog 51 #[.pointer (some ⟨br, 0, none⟩), .int .i64 (r : Int), .int .i64 (va : Int), .int .i64 2] w fun x w' => x = .returned (.tuple #[.int .i64 0, .int .i64 15]) ∧ Only (fun _ => False) w w' := by
  have Ha1_2 := Vx.hid a1_2
  have Ha2_8 := Vx.hid a2_8
  have Ha16_2 := Vx.hid a16_2
  have Ha64_4 := Vx.hid a64_4
  clear a1_2 a2_8 a16_2 a64_4
  have Hb2_2 := Vx.hid b2_2
  have Hb1_2 := Vx.hid b1_2
  have Hb2_4 := Vx.hid b2_4
  have Hb4_2 := Vx.hid b4_2
  have Hb16_2 := Vx.hid b16_2
  have Hb64_2 := Vx.hid b64_2
  have Hb128_2 := Vx.hid b128_2
  clear b2_2 b1_2 b2_4 b4_2 b16_2 b64_2 b128_2
  have HN2 := Vx.hid hn2
  clear hn2
  have HK2 : Hid (va % 4194304 / 4096 < 1024) := by show va % 4194304 / 4096 < 1024; omega
  have hn := h.top
  have hk1 : va / 4194304 < 1024 := by omega
  have l1 : e1 < 4294967296 := by rw [← he1]; exact wordF_lt _ _
  have HRW := Vx.hid (refWord_any h ((4096 * r + 4 * (va / 4194304) : Nat) : Int))
  rw [wordR_in f n r (va / 4194304) hr hk1, he1] at HRW
  obtain ⟨pl, hpl⟩ : ∃ p : Nat, p = 4096 * r + 4 * (va / 4194304) := ⟨_, rfl⟩
  rw [← hpl] at HRW
  have v1 : wrap64 ((va : Int) / 4194304) = (va : Int) / 4194304 := by simp only [wrap64]; omega
  have v2 : wrap64 ((va : Int) / 4194304 * 4) = (va : Int) / 4194304 * 4 := by simp only [wrap64]; omega
  have v3 : wrap64 (pl : Int) = (pl : Int) := by simp only [wrap64]; omega
  have e3 : 4096 * (r : Int) + (va : Int) / 4194304 * 4 = (pl : Int) := by omega
  have rb : (r : Int) ≤ 255 := by omega
  have dr1 : decide ((r : Int) < 0) = false := decide_eq_false (by omega)
  have dr2 : ¬ 255 < (r : Int) := by omega
  have HE1 := Vx.hid l1
  have HVA := Vx.hid hva
  have HNN := Vx.hid hn
  have HR2 := Vx.hid (fun wv (hv : Only (fun _ => False) w wv) => refWord_any (h.only hv (fun h => h) (fun h => h)) ((4096 * (e1 / 1024) + 4 * (va % 4194304 / 4096) : Nat) : Int))
  rw [wordR_in f n (e1 / 1024) (va % 4194304 / 4096) HN2.out HK2.out, he2] at HR2
  have l2 : e2 < 4294967296 := by rw [← he2]; exact wordF_lt _ _
  have HE2 := Vx.hid l2
  obtain ⟨pl2, hpl2⟩ : ∃ p : Nat, p = 4096 * (e1 / 1024) + 4 * (va % 4194304 / 4096) := ⟨_, rfl⟩
  rw [← hpl2] at HR2
  have HP2 := Vx.hid hpl2
  clear h hn hk1 l1 hpl he1 hr hva hpl2 he2 l2
  go_enter Tryd.func51, Tryd.ntmps51
  go_upto_region 14 with fail
  go_wp2_with fail
  refine HRW.out.mono ?_
  rintro e w2 ⟨rfl, ho⟩
  have HO := Vx.hid ho
  clear ho e3 v1 v2 v3 rb HRW
  go_upto_region 18 with fail
  have lb := HE1.out
  have a1_2 := Ha1_2.out
  obtain ⟨ta1_2, hta1_2⟩ : ∃ t : Nat, t = e1 % 2 := ⟨_, rfl⟩
  have ia1_2 : (e1 : Int) % 2 = (ta1_2 : Int) := by rw [hta1_2]; rfl
  have ja1_2 : Int.tmod (e1 : Int) 2 = (ta1_2 : Int) := by rw [hta1_2]; rfl
  have fa1_20 : ¬ (ta1_2 : Int) = 0 := ne_cast (c := 0) (by rw [hta1_2]; rw [a1_2]; decide)
  have ga1_20 : ((ta1_2 : Int) == 0) = false := beq_eq_false_iff_ne.2 fa1_20
  have na1_20 : ((ta1_2 : Int) != 0) = true := bne_iff_ne.2 fa1_20
  have fa1_21 : (ta1_2 : Int) = 1 := eq_cast (c := 1) (by rw [hta1_2]; exact a1_2)
  have ga1_21 : ((ta1_2 : Int) == 1) = true := beq_iff_eq.2 fa1_21
  have na1_21 : ((ta1_2 : Int) != 1) = false := bne_eq_false_iff_eq.2 fa1_21
  clear a1_2 hta1_2
  have a2_8 := Ha2_8.out
  obtain ⟨ta2_8, hta2_8⟩ : ∃ t : Nat, t = e1 / 2 % 8 := ⟨_, rfl⟩
  have ia2_8 : (e1 : Int) / 2 % 8 = (ta2_8 : Int) := by rw [hta2_8]; rfl
  have ja2_8 : Int.tmod (Int.tdiv (e1 : Int) 2) 8 = (ta2_8 : Int) := by rw [hta2_8]; rfl
  have ua2_8 : wrap64 ((e1 : Int) / 2) = (e1 : Int) / 2 := wrapQ e1 2 lb
  have ka2_8 : Int.tmod ((e1 : Int) / 2) 8 = (ta2_8 : Int) := by rw [hta2_8]; rfl
  have fa2_80 : (ta2_8 : Int) = 0 := eq_cast (c := 0) (by rw [hta2_8]; exact a2_8)
  have ga2_80 : ((ta2_8 : Int) == 0) = true := beq_iff_eq.2 fa2_80
  have na2_80 : ((ta2_8 : Int) != 0) = false := bne_eq_false_iff_eq.2 fa2_80
  clear a2_8 hta2_8
  have a16_2 := Ha16_2.out
  obtain ⟨ta16_2, hta16_2⟩ : ∃ t : Nat, t = e1 / 16 % 2 := ⟨_, rfl⟩
  have ia16_2 : (e1 : Int) / 16 % 2 = (ta16_2 : Int) := by rw [hta16_2]; rfl
  have ja16_2 : Int.tmod (Int.tdiv (e1 : Int) 16) 2 = (ta16_2 : Int) := by rw [hta16_2]; rfl
  have ua16_2 : wrap64 ((e1 : Int) / 16) = (e1 : Int) / 16 := wrapQ e1 16 lb
  have ka16_2 : Int.tmod ((e1 : Int) / 16) 2 = (ta16_2 : Int) := by rw [hta16_2]; rfl
  have fa16_20 : (ta16_2 : Int) = 0 := eq_cast (c := 0) (by rw [hta16_2]; exact a16_2)
  have ga16_20 : ((ta16_2 : Int) == 0) = true := beq_iff_eq.2 fa16_20
  have na16_20 : ((ta16_2 : Int) != 0) = false := bne_eq_false_iff_eq.2 fa16_20
  have fa16_21 : ¬ (ta16_2 : Int) = 1 := ne_cast (c := 1) (by rw [hta16_2]; rw [a16_2]; decide)
  have ga16_21 : ((ta16_2 : Int) == 1) = false := beq_eq_false_iff_ne.2 fa16_21
  have na16_21 : ((ta16_2 : Int) != 1) = true := bne_iff_ne.2 fa16_21
  clear a16_2 hta16_2
  have a64_4 := Ha64_4.out
  obtain ⟨ta64_4, hta64_4⟩ : ∃ t : Nat, t = e1 / 64 % 4 := ⟨_, rfl⟩
  have ia64_4 : (e1 : Int) / 64 % 4 = (ta64_4 : Int) := by rw [hta64_4]; rfl
  have ja64_4 : Int.tmod (Int.tdiv (e1 : Int) 64) 4 = (ta64_4 : Int) := by rw [hta64_4]; rfl
  have ua64_4 : wrap64 ((e1 : Int) / 64) = (e1 : Int) / 64 := wrapQ e1 64 lb
  have ka64_4 : Int.tmod ((e1 : Int) / 64) 4 = (ta64_4 : Int) := by rw [hta64_4]; rfl
  have fa64_40 : (ta64_4 : Int) = 0 := eq_cast (c := 0) (by rw [hta64_4]; exact a64_4)
  have ga64_40 : ((ta64_4 : Int) == 0) = true := beq_iff_eq.2 fa64_40
  have na64_40 : ((ta64_4 : Int) != 0) = false := bne_eq_false_iff_eq.2 fa64_40
  clear a64_4 hta64_4
  clear lb
  go_upto_region 19 with fail
  clear ia1_2 ja1_2 fa1_20 ga1_20 na1_20 fa1_21 ga1_21 na1_21 ia2_8 ja2_8 ua2_8 ka2_8 fa2_80 ga2_80 na2_80 ia16_2 ja16_2 ua16_2 ka16_2 fa16_20 ga16_20 na16_20 fa16_21 ga16_21 na16_21 ia64_4 ja64_4 ua64_4 ka64_4 fa64_40 ga64_40 na64_40
  have lb := HE1.out
  have lv := HVA.out
  have lp := HP2.out
  obtain ⟨g, hg⟩ : ∃ g : Nat, g = e1 / 1024 := ⟨_, rfl⟩
  obtain ⟨k2, hk2⟩ : ∃ k : Nat, k = va / 4096 % 1024 := ⟨_, rfl⟩
  have ep : (g : Int) * 4096 + (k2 : Int) * 4 = (pl2 : Int) := lead_eq e1 va pl2 g k2 hg hk2 lp
  have vp : wrap64 (pl2 : Int) = (pl2 : Int) := lead_wrap e1 va pl2 lb lp
  have x0 : (e1 : Int) / 1024 = (g : Int) := by rw [hg]; rfl
  obtain ⟨x1, x2⟩ := wrapG e1 g lb hg
  have x3 : wrap64 ((va : Int) / 4096) = (va : Int) / 4096 := wrapQ va 4096 lv
  have x4 : Int.tmod ((va : Int) / 4096) 1024 = (k2 : Int) := by rw [hk2]; rfl
  have x6 : (va : Int) / 4096 % 1024 = (k2 : Int) := by rw [hk2]; rfl
  have x5 := wrapK va k2 hk2
  clear hg hk2
  clear lb lv lp
  go_wp2_with fail
  refine (HR2.out w2 HO.out).mono ?_
  rintro e w3 ⟨rfl, ho⟩
  have HO3 := Vx.hid (HO.out.trans ho)
  clear ho ep vp x0 x1 x2 x3 x4 x5 x6 HR2
  go_upto_region 23 with fail
  have lb := HE2.out
  have b2_2 := Hb2_2.out
  obtain ⟨tb2_2, htb2_2⟩ : ∃ t : Nat, t = e2 / 2 % 2 := ⟨_, rfl⟩
  have ib2_2 : (e2 : Int) / 2 % 2 = (tb2_2 : Int) := by rw [htb2_2]; rfl
  have jb2_2 : Int.tmod (Int.tdiv (e2 : Int) 2) 2 = (tb2_2 : Int) := by rw [htb2_2]; rfl
  have ub2_2 : wrap64 ((e2 : Int) / 2) = (e2 : Int) / 2 := wrapQ e2 2 lb
  have kb2_2 : Int.tmod ((e2 : Int) / 2) 2 = (tb2_2 : Int) := by rw [htb2_2]; rfl
  have fb2_20 : ¬ (tb2_2 : Int) = 0 := ne_cast (c := 0) (by rw [htb2_2]; rw [b2_2]; decide)
  have gb2_20 : ((tb2_2 : Int) == 0) = false := beq_eq_false_iff_ne.2 fb2_20
  have nb2_20 : ((tb2_2 : Int) != 0) = true := bne_iff_ne.2 fb2_20
  have fb2_21 : (tb2_2 : Int) = 1 := eq_cast (c := 1) (by rw [htb2_2]; exact b2_2)
  have gb2_21 : ((tb2_2 : Int) == 1) = true := beq_iff_eq.2 fb2_21
  have nb2_21 : ((tb2_2 : Int) != 1) = false := bne_eq_false_iff_eq.2 fb2_21
  clear b2_2 htb2_2
  clear lb
  go_upto_region 24 with fail
  clear ib2_2 jb2_2 ub2_2 kb2_2 fb2_20 gb2_20 nb2_20 fb2_21 gb2_21 nb2_21
  have lb := HE2.out
  have b1_2 := Hb1_2.out
  obtain ⟨tb1_2, htb1_2⟩ : ∃ t : Nat, t = e2 % 2 := ⟨_, rfl⟩
  have ib1_2 : (e2 : Int) % 2 = (tb1_2 : Int) := by rw [htb1_2]; rfl
  have jb1_2 : Int.tmod (e2 : Int) 2 = (tb1_2 : Int) := by rw [htb1_2]; rfl
  have fb1_20 : ¬ (tb1_2 : Int) = 0 := ne_cast (c := 0) (by rw [htb1_2]; rw [b1_2]; decide)
  have gb1_20 : ((tb1_2 : Int) == 0) = false := beq_eq_false_iff_ne.2 fb1_20
  have nb1_20 : ((tb1_2 : Int) != 0) = true := bne_iff_ne.2 fb1_20
  have fb1_21 : (tb1_2 : Int) = 1 := eq_cast (c := 1) (by rw [htb1_2]; exact b1_2)
  have gb1_21 : ((tb1_2 : Int) == 1) = true := beq_iff_eq.2 fb1_21
  have nb1_21 : ((tb1_2 : Int) != 1) = false := bne_eq_false_iff_eq.2 fb1_21
  clear b1_2 htb1_2
  have b2_4 := Hb2_4.out
  obtain ⟨tb2_4, htb2_4⟩ : ∃ t : Nat, t = e2 / 2 % 4 := ⟨_, rfl⟩
  have ib2_4 : (e2 : Int) / 2 % 4 = (tb2_4 : Int) := by rw [htb2_4]; rfl
  have jb2_4 : Int.tmod (Int.tdiv (e2 : Int) 2) 4 = (tb2_4 : Int) := by rw [htb2_4]; rfl
  have ub2_4 : wrap64 ((e2 : Int) / 2) = (e2 : Int) / 2 := wrapQ e2 2 lb
  have kb2_4 : Int.tmod ((e2 : Int) / 2) 4 = (tb2_4 : Int) := by rw [htb2_4]; rfl
  have fb2_42 : ¬ (tb2_4 : Int) = 2 := ne_cast (c := 2) (by rw [htb2_4]; exact b2_4)
  have gb2_42 : ((tb2_4 : Int) == 2) = false := beq_eq_false_iff_ne.2 fb2_42
  have nb2_42 : ((tb2_4 : Int) != 2) = true := bne_iff_ne.2 fb2_42
  clear b2_4 htb2_4
  have b4_2 := Hb4_2.out
  obtain ⟨tb4_2, htb4_2⟩ : ∃ t : Nat, t = e2 / 4 % 2 := ⟨_, rfl⟩
  have ib4_2 : (e2 : Int) / 4 % 2 = (tb4_2 : Int) := by rw [htb4_2]; rfl
  have jb4_2 : Int.tmod (Int.tdiv (e2 : Int) 4) 2 = (tb4_2 : Int) := by rw [htb4_2]; rfl
  have ub4_2 : wrap64 ((e2 : Int) / 4) = (e2 : Int) / 4 := wrapQ e2 4 lb
  have kb4_2 : Int.tmod ((e2 : Int) / 4) 2 = (tb4_2 : Int) := by rw [htb4_2]; rfl
  have fb4_20 : ¬ (tb4_2 : Int) = 0 := ne_cast (c := 0) (by rw [htb4_2]; rw [b4_2]; decide)
  have gb4_20 : ((tb4_2 : Int) == 0) = false := beq_eq_false_iff_ne.2 fb4_20
  have nb4_20 : ((tb4_2 : Int) != 0) = true := bne_iff_ne.2 fb4_20
  have fb4_21 : (tb4_2 : Int) = 1 := eq_cast (c := 1) (by rw [htb4_2]; exact b4_2)
  have gb4_21 : ((tb4_2 : Int) == 1) = true := beq_iff_eq.2 fb4_21
  have nb4_21 : ((tb4_2 : Int) != 1) = false := bne_eq_false_iff_eq.2 fb4_21
  clear b4_2 htb4_2
  have b16_2 := Hb16_2.out
  obtain ⟨tb16_2, htb16_2⟩ : ∃ t : Nat, t = e2 / 16 % 2 := ⟨_, rfl⟩
  have ib16_2 : (e2 : Int) / 16 % 2 = (tb16_2 : Int) := by rw [htb16_2]; rfl
  have jb16_2 : Int.tmod (Int.tdiv (e2 : Int) 16) 2 = (tb16_2 : Int) := by rw [htb16_2]; rfl
  have ub16_2 : wrap64 ((e2 : Int) / 16) = (e2 : Int) / 16 := wrapQ e2 16 lb
  have kb16_2 : Int.tmod ((e2 : Int) / 16) 2 = (tb16_2 : Int) := by rw [htb16_2]; rfl
  have fb16_20 : ¬ (tb16_2 : Int) = 0 := ne_cast (c := 0) (by rw [htb16_2]; rw [b16_2]; decide)
  have gb16_20 : ((tb16_2 : Int) == 0) = false := beq_eq_false_iff_ne.2 fb16_20
  have nb16_20 : ((tb16_2 : Int) != 0) = true := bne_iff_ne.2 fb16_20
  have fb16_21 : (tb16_2 : Int) = 1 := eq_cast (c := 1) (by rw [htb16_2]; exact b16_2)
  have gb16_21 : ((tb16_2 : Int) == 1) = true := beq_iff_eq.2 fb16_21
  have nb16_21 : ((tb16_2 : Int) != 1) = false := bne_eq_false_iff_eq.2 fb16_21
  clear b16_2 htb16_2
  have b64_2 := Hb64_2.out
  obtain ⟨tb64_2, htb64_2⟩ : ∃ t : Nat, t = e2 / 64 % 2 := ⟨_, rfl⟩
  have ib64_2 : (e2 : Int) / 64 % 2 = (tb64_2 : Int) := by rw [htb64_2]; rfl
  have jb64_2 : Int.tmod (Int.tdiv (e2 : Int) 64) 2 = (tb64_2 : Int) := by rw [htb64_2]; rfl
  have ub64_2 : wrap64 ((e2 : Int) / 64) = (e2 : Int) / 64 := wrapQ e2 64 lb
  have kb64_2 : Int.tmod ((e2 : Int) / 64) 2 = (tb64_2 : Int) := by rw [htb64_2]; rfl
  have fb64_20 : ¬ (tb64_2 : Int) = 0 := ne_cast (c := 0) (by rw [htb64_2]; rw [b64_2]; decide)
  have gb64_20 : ((tb64_2 : Int) == 0) = false := beq_eq_false_iff_ne.2 fb64_20
  have nb64_20 : ((tb64_2 : Int) != 0) = true := bne_iff_ne.2 fb64_20
  have fb64_21 : (tb64_2 : Int) = 1 := eq_cast (c := 1) (by rw [htb64_2]; exact b64_2)
  have gb64_21 : ((tb64_2 : Int) == 1) = true := beq_iff_eq.2 fb64_21
  have nb64_21 : ((tb64_2 : Int) != 1) = false := bne_eq_false_iff_eq.2 fb64_21
  clear b64_2 htb64_2
  have b128_2 := Hb128_2.out
  obtain ⟨tb128_2, htb128_2⟩ : ∃ t : Nat, t = e2 / 128 % 2 := ⟨_, rfl⟩
  have ib128_2 : (e2 : Int) / 128 % 2 = (tb128_2 : Int) := by rw [htb128_2]; rfl
  have jb128_2 : Int.tmod (Int.tdiv (e2 : Int) 128) 2 = (tb128_2 : Int) := by rw [htb128_2]; rfl
  have ub128_2 : wrap64 ((e2 : Int) / 128) = (e2 : Int) / 128 := wrapQ e2 128 lb
  have kb128_2 : Int.tmod ((e2 : Int) / 128) 2 = (tb128_2 : Int) := by rw [htb128_2]; rfl
  have fb128_20 : (tb128_2 : Int) = 0 := eq_cast (c := 0) (by rw [htb128_2]; exact b128_2)
  have gb128_20 : ((tb128_2 : Int) == 0) = true := beq_iff_eq.2 fb128_20
  have nb128_20 : ((tb128_2 : Int) != 0) = false := bne_eq_false_iff_eq.2 fb128_20
  have fb128_21 : ¬ (tb128_2 : Int) = 1 := ne_cast (c := 1) (by rw [htb128_2]; rw [b128_2]; decide)
  have gb128_21 : ((tb128_2 : Int) == 1) = false := beq_eq_false_iff_ne.2 fb128_21
  have nb128_21 : ((tb128_2 : Int) != 1) = true := bne_iff_ne.2 fb128_21
  clear b128_2 htb128_2
  clear lb
  go_wp2_with fail
  all_goals
    go_ret2
    exact ⟨rfl, HO3.out⟩
set_option maxRecDepth 100000 in
set_option maxHeartbeats 2000000 in
theorem rw2_tRo {w : World} {br bb n : Nat} {f : Nat → UInt8} (h : RefAt w br bb n f) (r : Nat) (hr : r < n) (va : Nat) (hva : va < 4294967296) (e1 : Nat) (he1 : wordF f (4096 * r + 4 * (va / 4194304)) = e1) (a1_2 : e1 % 2 = 1) (a2_8 : e1 / 2 % 8 = 0) (a16_2 : e1 / 16 % 2 = 0) (a64_4 : e1 / 64 % 4 = 0) (hn2 : e1 / 1024 < n) (e2 : Nat) (he2 : wordF f (4096 * (e1 / 1024) + 4 * (va % 4194304 / 4096)) = e2) (b2_2 : e2 / 2 % 2 = 1) (b1_2 : e2 % 2 = 1) (b2_4 : e2 / 2 % 4 ≠ 2) (b4_2 : e2 / 4 % 2 = 1) (b16_2 : e2 / 16 % 2 = 1) (b64_2 : e2 / 64 % 2 = 1) (b128_2 : e2 / 128 % 2 = 1) (hge : 4096 * n ≤ e2 / 1024 * 4096 + va % 4096) :
    Calls Tryd.prog 51 #[.pointer (some ⟨br, 0, none⟩), .int .i64 (r : Int), .int .i64 (va : Int), .int .i64 2] w fun x w' => x = .returned (.tuple #[.int .i64 0, .int .i64 7]) ∧ Only (fun _ => False) w w' := by
  have Ha1_2 := Vx.hid a1_2
  have Ha2_8 := Vx.hid a2_8
  have Ha16_2 := Vx.hid a16_2
  have Ha64_4 := Vx.hid a64_4
  clear a1_2 a2_8 a16_2 a64_4
  have Hb2_2 := Vx.hid b2_2
  have Hb1_2 := Vx.hid b1_2
  have Hb2_4 := Vx.hid b2_4
  have Hb4_2 := Vx.hid b4_2
  have Hb16_2 := Vx.hid b16_2
  have Hb64_2 := Vx.hid b64_2
  have Hb128_2 := Vx.hid b128_2
  clear b2_2 b1_2 b2_4 b4_2 b16_2 b64_2 b128_2
  have HGE := Vx.hid hge
  clear hge
  have HN2 := Vx.hid hn2
  clear hn2
  have HK2 : Hid (va % 4194304 / 4096 < 1024) := by show va % 4194304 / 4096 < 1024; omega
  have hn := h.top
  have hk1 : va / 4194304 < 1024 := by omega
  have l1 : e1 < 4294967296 := by rw [← he1]; exact wordF_lt _ _
  have HRW := Vx.hid (refWord_any h ((4096 * r + 4 * (va / 4194304) : Nat) : Int))
  rw [wordR_in f n r (va / 4194304) hr hk1, he1] at HRW
  obtain ⟨pl, hpl⟩ : ∃ p : Nat, p = 4096 * r + 4 * (va / 4194304) := ⟨_, rfl⟩
  rw [← hpl] at HRW
  have v1 : wrap64 ((va : Int) / 4194304) = (va : Int) / 4194304 := by simp only [wrap64]; omega
  have v2 : wrap64 ((va : Int) / 4194304 * 4) = (va : Int) / 4194304 * 4 := by simp only [wrap64]; omega
  have v3 : wrap64 (pl : Int) = (pl : Int) := by simp only [wrap64]; omega
  have e3 : 4096 * (r : Int) + (va : Int) / 4194304 * 4 = (pl : Int) := by omega
  have rb : (r : Int) ≤ 255 := by omega
  have dr1 : decide ((r : Int) < 0) = false := decide_eq_false (by omega)
  have dr2 : ¬ 255 < (r : Int) := by omega
  have HE1 := Vx.hid l1
  have HVA := Vx.hid hva
  have HNN := Vx.hid hn
  have HR2 := Vx.hid (fun wv (hv : Only (fun _ => False) w wv) => refWord_any (h.only hv (fun h => h) (fun h => h)) ((4096 * (e1 / 1024) + 4 * (va % 4194304 / 4096) : Nat) : Int))
  rw [wordR_in f n (e1 / 1024) (va % 4194304 / 4096) HN2.out HK2.out, he2] at HR2
  have l2 : e2 < 4294967296 := by rw [← he2]; exact wordF_lt _ _
  have HE2 := Vx.hid l2
  obtain ⟨pl2, hpl2⟩ : ∃ p : Nat, p = 4096 * (e1 / 1024) + 4 * (va % 4194304 / 4096) := ⟨_, rfl⟩
  rw [← hpl2] at HR2
  have HP2 := Vx.hid hpl2
  obtain ⟨N, hN⟩ : ∃ N, N = 4096 * n := ⟨_, rfl⟩
  have HCR : Hid (∀ wv, Only (fun _ => False) w wv → wv.cell? ⟨br, 0, none⟩ = some (.slice (some ⟨bb, 0, none⟩) N N)) := fun wv hv => by rw [hN]; exact (h.only hv (fun h => h) (fun h => h)).cr
  have HN := Vx.hid hN
  obtain ⟨pa, hpa⟩ : ∃ p : Nat, p = e2 / 1024 * 4096 + va % 4096 := ⟨_, rfl⟩
  have HPA := Vx.hid hpa
  clear h hn hk1 l1 hpl he1 hr hva hpl2 he2 l2 hN hpa
  go_enter Tryd.func51, Tryd.ntmps51
  go_upto_region 14 with fail
  go_wp2_with fail
  refine HRW.out.mono ?_
  rintro e w2 ⟨rfl, ho⟩
  have HO := Vx.hid ho
  clear ho e3 v1 v2 v3 rb HRW
  go_upto_region 18 with fail
  have lb := HE1.out
  have a1_2 := Ha1_2.out
  obtain ⟨ta1_2, hta1_2⟩ : ∃ t : Nat, t = e1 % 2 := ⟨_, rfl⟩
  have ia1_2 : (e1 : Int) % 2 = (ta1_2 : Int) := by rw [hta1_2]; rfl
  have ja1_2 : Int.tmod (e1 : Int) 2 = (ta1_2 : Int) := by rw [hta1_2]; rfl
  have fa1_20 : ¬ (ta1_2 : Int) = 0 := ne_cast (c := 0) (by rw [hta1_2]; rw [a1_2]; decide)
  have ga1_20 : ((ta1_2 : Int) == 0) = false := beq_eq_false_iff_ne.2 fa1_20
  have na1_20 : ((ta1_2 : Int) != 0) = true := bne_iff_ne.2 fa1_20
  have fa1_21 : (ta1_2 : Int) = 1 := eq_cast (c := 1) (by rw [hta1_2]; exact a1_2)
  have ga1_21 : ((ta1_2 : Int) == 1) = true := beq_iff_eq.2 fa1_21
  have na1_21 : ((ta1_2 : Int) != 1) = false := bne_eq_false_iff_eq.2 fa1_21
  clear a1_2 hta1_2
  have a2_8 := Ha2_8.out
  obtain ⟨ta2_8, hta2_8⟩ : ∃ t : Nat, t = e1 / 2 % 8 := ⟨_, rfl⟩
  have ia2_8 : (e1 : Int) / 2 % 8 = (ta2_8 : Int) := by rw [hta2_8]; rfl
  have ja2_8 : Int.tmod (Int.tdiv (e1 : Int) 2) 8 = (ta2_8 : Int) := by rw [hta2_8]; rfl
  have ua2_8 : wrap64 ((e1 : Int) / 2) = (e1 : Int) / 2 := wrapQ e1 2 lb
  have ka2_8 : Int.tmod ((e1 : Int) / 2) 8 = (ta2_8 : Int) := by rw [hta2_8]; rfl
  have fa2_80 : (ta2_8 : Int) = 0 := eq_cast (c := 0) (by rw [hta2_8]; exact a2_8)
  have ga2_80 : ((ta2_8 : Int) == 0) = true := beq_iff_eq.2 fa2_80
  have na2_80 : ((ta2_8 : Int) != 0) = false := bne_eq_false_iff_eq.2 fa2_80
  clear a2_8 hta2_8
  have a16_2 := Ha16_2.out
  obtain ⟨ta16_2, hta16_2⟩ : ∃ t : Nat, t = e1 / 16 % 2 := ⟨_, rfl⟩
  have ia16_2 : (e1 : Int) / 16 % 2 = (ta16_2 : Int) := by rw [hta16_2]; rfl
  have ja16_2 : Int.tmod (Int.tdiv (e1 : Int) 16) 2 = (ta16_2 : Int) := by rw [hta16_2]; rfl
  have ua16_2 : wrap64 ((e1 : Int) / 16) = (e1 : Int) / 16 := wrapQ e1 16 lb
  have ka16_2 : Int.tmod ((e1 : Int) / 16) 2 = (ta16_2 : Int) := by rw [hta16_2]; rfl
  have fa16_20 : (ta16_2 : Int) = 0 := eq_cast (c := 0) (by rw [hta16_2]; exact a16_2)
  have ga16_20 : ((ta16_2 : Int) == 0) = true := beq_iff_eq.2 fa16_20
  have na16_20 : ((ta16_2 : Int) != 0) = false := bne_eq_false_iff_eq.2 fa16_20
  have fa16_21 : ¬ (ta16_2 : Int) = 1 := ne_cast (c := 1) (by rw [hta16_2]; rw [a16_2]; decide)
  have ga16_21 : ((ta16_2 : Int) == 1) = false := beq_eq_false_iff_ne.2 fa16_21
  have na16_21 : ((ta16_2 : Int) != 1) = true := bne_iff_ne.2 fa16_21
  clear a16_2 hta16_2
  have a64_4 := Ha64_4.out
  obtain ⟨ta64_4, hta64_4⟩ : ∃ t : Nat, t = e1 / 64 % 4 := ⟨_, rfl⟩
  have ia64_4 : (e1 : Int) / 64 % 4 = (ta64_4 : Int) := by rw [hta64_4]; rfl
  have ja64_4 : Int.tmod (Int.tdiv (e1 : Int) 64) 4 = (ta64_4 : Int) := by rw [hta64_4]; rfl
  have ua64_4 : wrap64 ((e1 : Int) / 64) = (e1 : Int) / 64 := wrapQ e1 64 lb
  have ka64_4 : Int.tmod ((e1 : Int) / 64) 4 = (ta64_4 : Int) := by rw [hta64_4]; rfl
  have fa64_40 : (ta64_4 : Int) = 0 := eq_cast (c := 0) (by rw [hta64_4]; exact a64_4)
  have ga64_40 : ((ta64_4 : Int) == 0) = true := beq_iff_eq.2 fa64_40
  have na64_40 : ((ta64_4 : Int) != 0) = false := bne_eq_false_iff_eq.2 fa64_40
  clear a64_4 hta64_4
  clear lb
  go_upto_region 19 with fail
  clear ia1_2 ja1_2 fa1_20 ga1_20 na1_20 fa1_21 ga1_21 na1_21 ia2_8 ja2_8 ua2_8 ka2_8 fa2_80 ga2_80 na2_80 ia16_2 ja16_2 ua16_2 ka16_2 fa16_20 ga16_20 na16_20 fa16_21 ga16_21 na16_21 ia64_4 ja64_4 ua64_4 ka64_4 fa64_40 ga64_40 na64_40
  have lb := HE1.out
  have lv := HVA.out
  have lp := HP2.out
  obtain ⟨g, hg⟩ : ∃ g : Nat, g = e1 / 1024 := ⟨_, rfl⟩
  obtain ⟨k2, hk2⟩ : ∃ k : Nat, k = va / 4096 % 1024 := ⟨_, rfl⟩
  have ep : (g : Int) * 4096 + (k2 : Int) * 4 = (pl2 : Int) := lead_eq e1 va pl2 g k2 hg hk2 lp
  have vp : wrap64 (pl2 : Int) = (pl2 : Int) := lead_wrap e1 va pl2 lb lp
  have x0 : (e1 : Int) / 1024 = (g : Int) := by rw [hg]; rfl
  obtain ⟨x1, x2⟩ := wrapG e1 g lb hg
  have x3 : wrap64 ((va : Int) / 4096) = (va : Int) / 4096 := wrapQ va 4096 lv
  have x4 : Int.tmod ((va : Int) / 4096) 1024 = (k2 : Int) := by rw [hk2]; rfl
  have x6 : (va : Int) / 4096 % 1024 = (k2 : Int) := by rw [hk2]; rfl
  have x5 := wrapK va k2 hk2
  clear hg hk2
  clear lb lv lp
  go_wp2_with fail
  refine (HR2.out w2 HO.out).mono ?_
  rintro e w3 ⟨rfl, ho⟩
  have HO3 := Vx.hid (HO.out.trans ho)
  clear ho ep vp x0 x1 x2 x3 x4 x5 x6 HR2
  go_upto_region 23 with fail
  have lb := HE2.out
  have b2_2 := Hb2_2.out
  obtain ⟨tb2_2, htb2_2⟩ : ∃ t : Nat, t = e2 / 2 % 2 := ⟨_, rfl⟩
  have ib2_2 : (e2 : Int) / 2 % 2 = (tb2_2 : Int) := by rw [htb2_2]; rfl
  have jb2_2 : Int.tmod (Int.tdiv (e2 : Int) 2) 2 = (tb2_2 : Int) := by rw [htb2_2]; rfl
  have ub2_2 : wrap64 ((e2 : Int) / 2) = (e2 : Int) / 2 := wrapQ e2 2 lb
  have kb2_2 : Int.tmod ((e2 : Int) / 2) 2 = (tb2_2 : Int) := by rw [htb2_2]; rfl
  have fb2_20 : ¬ (tb2_2 : Int) = 0 := ne_cast (c := 0) (by rw [htb2_2]; rw [b2_2]; decide)
  have gb2_20 : ((tb2_2 : Int) == 0) = false := beq_eq_false_iff_ne.2 fb2_20
  have nb2_20 : ((tb2_2 : Int) != 0) = true := bne_iff_ne.2 fb2_20
  have fb2_21 : (tb2_2 : Int) = 1 := eq_cast (c := 1) (by rw [htb2_2]; exact b2_2)
  have gb2_21 : ((tb2_2 : Int) == 1) = true := beq_iff_eq.2 fb2_21
  have nb2_21 : ((tb2_2 : Int) != 1) = false := bne_eq_false_iff_eq.2 fb2_21
  clear b2_2 htb2_2
  clear lb
  go_upto_region 24 with fail
  clear ib2_2 jb2_2 ub2_2 kb2_2 fb2_20 gb2_20 nb2_20 fb2_21 gb2_21 nb2_21
  have lb := HE2.out
  have b1_2 := Hb1_2.out
  obtain ⟨tb1_2, htb1_2⟩ : ∃ t : Nat, t = e2 % 2 := ⟨_, rfl⟩
  have ib1_2 : (e2 : Int) % 2 = (tb1_2 : Int) := by rw [htb1_2]; rfl
  have jb1_2 : Int.tmod (e2 : Int) 2 = (tb1_2 : Int) := by rw [htb1_2]; rfl
  have fb1_20 : ¬ (tb1_2 : Int) = 0 := ne_cast (c := 0) (by rw [htb1_2]; rw [b1_2]; decide)
  have gb1_20 : ((tb1_2 : Int) == 0) = false := beq_eq_false_iff_ne.2 fb1_20
  have nb1_20 : ((tb1_2 : Int) != 0) = true := bne_iff_ne.2 fb1_20
  have fb1_21 : (tb1_2 : Int) = 1 := eq_cast (c := 1) (by rw [htb1_2]; exact b1_2)
  have gb1_21 : ((tb1_2 : Int) == 1) = true := beq_iff_eq.2 fb1_21
  have nb1_21 : ((tb1_2 : Int) != 1) = false := bne_eq_false_iff_eq.2 fb1_21
  clear b1_2 htb1_2
  have b2_4 := Hb2_4.out
  obtain ⟨tb2_4, htb2_4⟩ : ∃ t : Nat, t = e2 / 2 % 4 := ⟨_, rfl⟩
  have ib2_4 : (e2 : Int) / 2 % 4 = (tb2_4 : Int) := by rw [htb2_4]; rfl
  have jb2_4 : Int.tmod (Int.tdiv (e2 : Int) 2) 4 = (tb2_4 : Int) := by rw [htb2_4]; rfl
  have ub2_4 : wrap64 ((e2 : Int) / 2) = (e2 : Int) / 2 := wrapQ e2 2 lb
  have kb2_4 : Int.tmod ((e2 : Int) / 2) 4 = (tb2_4 : Int) := by rw [htb2_4]; rfl
  have fb2_42 : ¬ (tb2_4 : Int) = 2 := ne_cast (c := 2) (by rw [htb2_4]; exact b2_4)
  have gb2_42 : ((tb2_4 : Int) == 2) = false := beq_eq_false_iff_ne.2 fb2_42
  have nb2_42 : ((tb2_4 : Int) != 2) = true := bne_iff_ne.2 fb2_42
  clear b2_4 htb2_4
  have b4_2 := Hb4_2.out
  obtain ⟨tb4_2, htb4_2⟩ : ∃ t : Nat, t = e2 / 4 % 2 := ⟨_, rfl⟩
  have ib4_2 : (e2 : Int) / 4 % 2 = (tb4_2 : Int) := by rw [htb4_2]; rfl
  have jb4_2 : Int.tmod (Int.tdiv (e2 : Int) 4) 2 = (tb4_2 : Int) := by rw [htb4_2]; rfl
  have ub4_2 : wrap64 ((e2 : Int) / 4) = (e2 : Int) / 4 := wrapQ e2 4 lb
  have kb4_2 : Int.tmod ((e2 : Int) / 4) 2 = (tb4_2 : Int) := by rw [htb4_2]; rfl
  have fb4_20 : ¬ (tb4_2 : Int) = 0 := ne_cast (c := 0) (by rw [htb4_2]; rw [b4_2]; decide)
  have gb4_20 : ((tb4_2 : Int) == 0) = false := beq_eq_false_iff_ne.2 fb4_20
  have nb4_20 : ((tb4_2 : Int) != 0) = true := bne_iff_ne.2 fb4_20
  have fb4_21 : (tb4_2 : Int) = 1 := eq_cast (c := 1) (by rw [htb4_2]; exact b4_2)
  have gb4_21 : ((tb4_2 : Int) == 1) = true := beq_iff_eq.2 fb4_21
  have nb4_21 : ((tb4_2 : Int) != 1) = false := bne_eq_false_iff_eq.2 fb4_21
  clear b4_2 htb4_2
  have b16_2 := Hb16_2.out
  obtain ⟨tb16_2, htb16_2⟩ : ∃ t : Nat, t = e2 / 16 % 2 := ⟨_, rfl⟩
  have ib16_2 : (e2 : Int) / 16 % 2 = (tb16_2 : Int) := by rw [htb16_2]; rfl
  have jb16_2 : Int.tmod (Int.tdiv (e2 : Int) 16) 2 = (tb16_2 : Int) := by rw [htb16_2]; rfl
  have ub16_2 : wrap64 ((e2 : Int) / 16) = (e2 : Int) / 16 := wrapQ e2 16 lb
  have kb16_2 : Int.tmod ((e2 : Int) / 16) 2 = (tb16_2 : Int) := by rw [htb16_2]; rfl
  have fb16_20 : ¬ (tb16_2 : Int) = 0 := ne_cast (c := 0) (by rw [htb16_2]; rw [b16_2]; decide)
  have gb16_20 : ((tb16_2 : Int) == 0) = false := beq_eq_false_iff_ne.2 fb16_20
  have nb16_20 : ((tb16_2 : Int) != 0) = true := bne_iff_ne.2 fb16_20
  have fb16_21 : (tb16_2 : Int) = 1 := eq_cast (c := 1) (by rw [htb16_2]; exact b16_2)
  have gb16_21 : ((tb16_2 : Int) == 1) = true := beq_iff_eq.2 fb16_21
  have nb16_21 : ((tb16_2 : Int) != 1) = false := bne_eq_false_iff_eq.2 fb16_21
  clear b16_2 htb16_2
  have b64_2 := Hb64_2.out
  obtain ⟨tb64_2, htb64_2⟩ : ∃ t : Nat, t = e2 / 64 % 2 := ⟨_, rfl⟩
  have ib64_2 : (e2 : Int) / 64 % 2 = (tb64_2 : Int) := by rw [htb64_2]; rfl
  have jb64_2 : Int.tmod (Int.tdiv (e2 : Int) 64) 2 = (tb64_2 : Int) := by rw [htb64_2]; rfl
  have ub64_2 : wrap64 ((e2 : Int) / 64) = (e2 : Int) / 64 := wrapQ e2 64 lb
  have kb64_2 : Int.tmod ((e2 : Int) / 64) 2 = (tb64_2 : Int) := by rw [htb64_2]; rfl
  have fb64_20 : ¬ (tb64_2 : Int) = 0 := ne_cast (c := 0) (by rw [htb64_2]; rw [b64_2]; decide)
  have gb64_20 : ((tb64_2 : Int) == 0) = false := beq_eq_false_iff_ne.2 fb64_20
  have nb64_20 : ((tb64_2 : Int) != 0) = true := bne_iff_ne.2 fb64_20
  have fb64_21 : (tb64_2 : Int) = 1 := eq_cast (c := 1) (by rw [htb64_2]; exact b64_2)
  have gb64_21 : ((tb64_2 : Int) == 1) = true := beq_iff_eq.2 fb64_21
  have nb64_21 : ((tb64_2 : Int) != 1) = false := bne_eq_false_iff_eq.2 fb64_21
  clear b64_2 htb64_2
  have b128_2 := Hb128_2.out
  obtain ⟨tb128_2, htb128_2⟩ : ∃ t : Nat, t = e2 / 128 % 2 := ⟨_, rfl⟩
  have ib128_2 : (e2 : Int) / 128 % 2 = (tb128_2 : Int) := by rw [htb128_2]; rfl
  have jb128_2 : Int.tmod (Int.tdiv (e2 : Int) 128) 2 = (tb128_2 : Int) := by rw [htb128_2]; rfl
  have ub128_2 : wrap64 ((e2 : Int) / 128) = (e2 : Int) / 128 := wrapQ e2 128 lb
  have kb128_2 : Int.tmod ((e2 : Int) / 128) 2 = (tb128_2 : Int) := by rw [htb128_2]; rfl
  have fb128_20 : ¬ (tb128_2 : Int) = 0 := ne_cast (c := 0) (by rw [htb128_2]; rw [b128_2]; decide)
  have gb128_20 : ((tb128_2 : Int) == 0) = false := beq_eq_false_iff_ne.2 fb128_20
  have nb128_20 : ((tb128_2 : Int) != 0) = true := bne_iff_ne.2 fb128_20
  have fb128_21 : (tb128_2 : Int) = 1 := eq_cast (c := 1) (by rw [htb128_2]; exact b128_2)
  have gb128_21 : ((tb128_2 : Int) == 1) = true := beq_iff_eq.2 fb128_21
  have nb128_21 : ((tb128_2 : Int) != 1) = false := bne_eq_false_iff_eq.2 fb128_21
  clear b128_2 htb128_2
  clear lb
  go_upto_region 26 with fail
  clear ib1_2 jb1_2 fb1_20 gb1_20 nb1_20 fb1_21 gb1_21 nb1_21 ib2_4 jb2_4 ub2_4 kb2_4 fb2_42 gb2_42 nb2_42 ib4_2 jb4_2 ub4_2 kb4_2 fb4_20 gb4_20 nb4_20 fb4_21 gb4_21 nb4_21 ib16_2 jb16_2 ub16_2 kb16_2 fb16_20 gb16_20 nb16_20 fb16_21 gb16_21 nb16_21 ib64_2 jb64_2 ub64_2 kb64_2 fb64_20 gb64_20 nb64_20 fb64_21 gb64_21 nb64_21 ib128_2 jb128_2 ub128_2 kb128_2 fb128_20 gb128_20 nb128_20 fb128_21 gb128_21 nb128_21
  go_upto_region 28 with fail
  have hcr := HCR.out w3 HO3.out
  have lb := HE2.out
  have lv := HVA.out
  have lp := HPA.out
  have lg := HGE.out
  have lN := HN.out
  have ipa : (e2 : Int) / 1024 * 4096 + (va : Int) % 4096 = (pa : Int) := by omega
  have vpa : wrap64 (pa : Int) = (pa : Int) := by simp only [wrap64]; omega
  have y1 : wrap64 ((e2 : Int) / 1024) = (e2 : Int) / 1024 := by simp only [wrap64]; omega
  have y2 : wrap64 ((e2 : Int) / 1024 * 4096) = (e2 : Int) / 1024 * 4096 := by simp only [wrap64]; omega
  have y3 : Int.tmod (va : Int) 4096 = (va : Int) % 4096 := Int.tmod_eq_emod_of_nonneg (by omega)
  have cge : (N : Int) ≤ (pa : Int) := by omega
  clear lb lv lp lg lN
  go_wp2_with fail
  all_goals
    go_ret2
    exact ⟨rfl, HO3.out⟩
set_option maxRecDepth 100000 in
set_option maxHeartbeats 2000000 in
theorem rw2_tRi {w : World} {br bb n : Nat} {f : Nat → UInt8} (h : RefAt w br bb n f) (r : Nat) (hr : r < n) (va : Nat) (hva : va < 4294967296) (e1 : Nat) (he1 : wordF f (4096 * r + 4 * (va / 4194304)) = e1) (a1_2 : e1 % 2 = 1) (a2_8 : e1 / 2 % 8 = 0) (a16_2 : e1 / 16 % 2 = 0) (a64_4 : e1 / 64 % 4 = 0) (hn2 : e1 / 1024 < n) (e2 : Nat) (he2 : wordF f (4096 * (e1 / 1024) + 4 * (va % 4194304 / 4096)) = e2) (b2_2 : e2 / 2 % 2 = 1) (b1_2 : e2 % 2 = 1) (b2_4 : e2 / 2 % 4 ≠ 2) (b4_2 : e2 / 4 % 2 = 1) (b16_2 : e2 / 16 % 2 = 1) (b64_2 : e2 / 64 % 2 = 1) (b128_2 : e2 / 128 % 2 = 1) (hge : ¬ 4096 * n ≤ e2 / 1024 * 4096 + va % 4096) :
    Calls Tryd.prog 51 #[.pointer (some ⟨br, 0, none⟩), .int .i64 (r : Int), .int .i64 (va : Int), .int .i64 2] w fun x w' => x = .returned (.tuple #[.int .i64 ((e2 / 1024 * 4096 + va % 4096 : Nat) : Int), .int .i64 (-1)]) ∧ Only (fun _ => False) w w' := by
  have Ha1_2 := Vx.hid a1_2
  have Ha2_8 := Vx.hid a2_8
  have Ha16_2 := Vx.hid a16_2
  have Ha64_4 := Vx.hid a64_4
  clear a1_2 a2_8 a16_2 a64_4
  have Hb2_2 := Vx.hid b2_2
  have Hb1_2 := Vx.hid b1_2
  have Hb2_4 := Vx.hid b2_4
  have Hb4_2 := Vx.hid b4_2
  have Hb16_2 := Vx.hid b16_2
  have Hb64_2 := Vx.hid b64_2
  have Hb128_2 := Vx.hid b128_2
  clear b2_2 b1_2 b2_4 b4_2 b16_2 b64_2 b128_2
  have HGE := Vx.hid hge
  clear hge
  have HN2 := Vx.hid hn2
  clear hn2
  have HK2 : Hid (va % 4194304 / 4096 < 1024) := by show va % 4194304 / 4096 < 1024; omega
  have hn := h.top
  have hk1 : va / 4194304 < 1024 := by omega
  have l1 : e1 < 4294967296 := by rw [← he1]; exact wordF_lt _ _
  have HRW := Vx.hid (refWord_any h ((4096 * r + 4 * (va / 4194304) : Nat) : Int))
  rw [wordR_in f n r (va / 4194304) hr hk1, he1] at HRW
  obtain ⟨pl, hpl⟩ : ∃ p : Nat, p = 4096 * r + 4 * (va / 4194304) := ⟨_, rfl⟩
  rw [← hpl] at HRW
  have v1 : wrap64 ((va : Int) / 4194304) = (va : Int) / 4194304 := by simp only [wrap64]; omega
  have v2 : wrap64 ((va : Int) / 4194304 * 4) = (va : Int) / 4194304 * 4 := by simp only [wrap64]; omega
  have v3 : wrap64 (pl : Int) = (pl : Int) := by simp only [wrap64]; omega
  have e3 : 4096 * (r : Int) + (va : Int) / 4194304 * 4 = (pl : Int) := by omega
  have rb : (r : Int) ≤ 255 := by omega
  have dr1 : decide ((r : Int) < 0) = false := decide_eq_false (by omega)
  have dr2 : ¬ 255 < (r : Int) := by omega
  have HE1 := Vx.hid l1
  have HVA := Vx.hid hva
  have HNN := Vx.hid hn
  have HR2 := Vx.hid (fun wv (hv : Only (fun _ => False) w wv) => refWord_any (h.only hv (fun h => h) (fun h => h)) ((4096 * (e1 / 1024) + 4 * (va % 4194304 / 4096) : Nat) : Int))
  rw [wordR_in f n (e1 / 1024) (va % 4194304 / 4096) HN2.out HK2.out, he2] at HR2
  have l2 : e2 < 4294967296 := by rw [← he2]; exact wordF_lt _ _
  have HE2 := Vx.hid l2
  obtain ⟨pl2, hpl2⟩ : ∃ p : Nat, p = 4096 * (e1 / 1024) + 4 * (va % 4194304 / 4096) := ⟨_, rfl⟩
  rw [← hpl2] at HR2
  have HP2 := Vx.hid hpl2
  obtain ⟨N, hN⟩ : ∃ N, N = 4096 * n := ⟨_, rfl⟩
  have HCR : Hid (∀ wv, Only (fun _ => False) w wv → wv.cell? ⟨br, 0, none⟩ = some (.slice (some ⟨bb, 0, none⟩) N N)) := fun wv hv => by rw [hN]; exact (h.only hv (fun h => h) (fun h => h)).cr
  have HN := Vx.hid hN
  obtain ⟨pa, hpa⟩ : ∃ p : Nat, p = e2 / 1024 * 4096 + va % 4096 := ⟨_, rfl⟩
  rw [← hpa]
  have HPA := Vx.hid hpa
  clear h hn hk1 l1 hpl he1 hr hva hpl2 he2 l2 hN hpa
  go_enter Tryd.func51, Tryd.ntmps51
  go_upto_region 14 with fail
  go_wp2_with fail
  refine HRW.out.mono ?_
  rintro e w2 ⟨rfl, ho⟩
  have HO := Vx.hid ho
  clear ho e3 v1 v2 v3 rb HRW
  go_upto_region 18 with fail
  have lb := HE1.out
  have a1_2 := Ha1_2.out
  obtain ⟨ta1_2, hta1_2⟩ : ∃ t : Nat, t = e1 % 2 := ⟨_, rfl⟩
  have ia1_2 : (e1 : Int) % 2 = (ta1_2 : Int) := by rw [hta1_2]; rfl
  have ja1_2 : Int.tmod (e1 : Int) 2 = (ta1_2 : Int) := by rw [hta1_2]; rfl
  have fa1_20 : ¬ (ta1_2 : Int) = 0 := ne_cast (c := 0) (by rw [hta1_2]; rw [a1_2]; decide)
  have ga1_20 : ((ta1_2 : Int) == 0) = false := beq_eq_false_iff_ne.2 fa1_20
  have na1_20 : ((ta1_2 : Int) != 0) = true := bne_iff_ne.2 fa1_20
  have fa1_21 : (ta1_2 : Int) = 1 := eq_cast (c := 1) (by rw [hta1_2]; exact a1_2)
  have ga1_21 : ((ta1_2 : Int) == 1) = true := beq_iff_eq.2 fa1_21
  have na1_21 : ((ta1_2 : Int) != 1) = false := bne_eq_false_iff_eq.2 fa1_21
  clear a1_2 hta1_2
  have a2_8 := Ha2_8.out
  obtain ⟨ta2_8, hta2_8⟩ : ∃ t : Nat, t = e1 / 2 % 8 := ⟨_, rfl⟩
  have ia2_8 : (e1 : Int) / 2 % 8 = (ta2_8 : Int) := by rw [hta2_8]; rfl
  have ja2_8 : Int.tmod (Int.tdiv (e1 : Int) 2) 8 = (ta2_8 : Int) := by rw [hta2_8]; rfl
  have ua2_8 : wrap64 ((e1 : Int) / 2) = (e1 : Int) / 2 := wrapQ e1 2 lb
  have ka2_8 : Int.tmod ((e1 : Int) / 2) 8 = (ta2_8 : Int) := by rw [hta2_8]; rfl
  have fa2_80 : (ta2_8 : Int) = 0 := eq_cast (c := 0) (by rw [hta2_8]; exact a2_8)
  have ga2_80 : ((ta2_8 : Int) == 0) = true := beq_iff_eq.2 fa2_80
  have na2_80 : ((ta2_8 : Int) != 0) = false := bne_eq_false_iff_eq.2 fa2_80
  clear a2_8 hta2_8
  have a16_2 := Ha16_2.out
  obtain ⟨ta16_2, hta16_2⟩ : ∃ t : Nat, t = e1 / 16 % 2 := ⟨_, rfl⟩
  have ia16_2 : (e1 : Int) / 16 % 2 = (ta16_2 : Int) := by rw [hta16_2]; rfl
  have ja16_2 : Int.tmod (Int.tdiv (e1 : Int) 16) 2 = (ta16_2 : Int) := by rw [hta16_2]; rfl
  have ua16_2 : wrap64 ((e1 : Int) / 16) = (e1 : Int) / 16 := wrapQ e1 16 lb
  have ka16_2 : Int.tmod ((e1 : Int) / 16) 2 = (ta16_2 : Int) := by rw [hta16_2]; rfl
  have fa16_20 : (ta16_2 : Int) = 0 := eq_cast (c := 0) (by rw [hta16_2]; exact a16_2)
  have ga16_20 : ((ta16_2 : Int) == 0) = true := beq_iff_eq.2 fa16_20
  have na16_20 : ((ta16_2 : Int) != 0) = false := bne_eq_false_iff_eq.2 fa16_20
  have fa16_21 : ¬ (ta16_2 : Int) = 1 := ne_cast (c := 1) (by rw [hta16_2]; rw [a16_2]; decide)
  have ga16_21 : ((ta16_2 : Int) == 1) = false := beq_eq_false_iff_ne.2 fa16_21
  have na16_21 : ((ta16_2 : Int) != 1) = true := bne_iff_ne.2 fa16_21
  clear a16_2 hta16_2
  have a64_4 := Ha64_4.out
  obtain ⟨ta64_4, hta64_4⟩ : ∃ t : Nat, t = e1 / 64 % 4 := ⟨_, rfl⟩
  have ia64_4 : (e1 : Int) / 64 % 4 = (ta64_4 : Int) := by rw [hta64_4]; rfl
  have ja64_4 : Int.tmod (Int.tdiv (e1 : Int) 64) 4 = (ta64_4 : Int) := by rw [hta64_4]; rfl
  have ua64_4 : wrap64 ((e1 : Int) / 64) = (e1 : Int) / 64 := wrapQ e1 64 lb
  have ka64_4 : Int.tmod ((e1 : Int) / 64) 4 = (ta64_4 : Int) := by rw [hta64_4]; rfl
  have fa64_40 : (ta64_4 : Int) = 0 := eq_cast (c := 0) (by rw [hta64_4]; exact a64_4)
  have ga64_40 : ((ta64_4 : Int) == 0) = true := beq_iff_eq.2 fa64_40
  have na64_40 : ((ta64_4 : Int) != 0) = false := bne_eq_false_iff_eq.2 fa64_40
  clear a64_4 hta64_4
  clear lb
  go_upto_region 19 with fail
  clear ia1_2 ja1_2 fa1_20 ga1_20 na1_20 fa1_21 ga1_21 na1_21 ia2_8 ja2_8 ua2_8 ka2_8 fa2_80 ga2_80 na2_80 ia16_2 ja16_2 ua16_2 ka16_2 fa16_20 ga16_20 na16_20 fa16_21 ga16_21 na16_21 ia64_4 ja64_4 ua64_4 ka64_4 fa64_40 ga64_40 na64_40
  have lb := HE1.out
  have lv := HVA.out
  have lp := HP2.out
  obtain ⟨g, hg⟩ : ∃ g : Nat, g = e1 / 1024 := ⟨_, rfl⟩
  obtain ⟨k2, hk2⟩ : ∃ k : Nat, k = va / 4096 % 1024 := ⟨_, rfl⟩
  have ep : (g : Int) * 4096 + (k2 : Int) * 4 = (pl2 : Int) := lead_eq e1 va pl2 g k2 hg hk2 lp
  have vp : wrap64 (pl2 : Int) = (pl2 : Int) := lead_wrap e1 va pl2 lb lp
  have x0 : (e1 : Int) / 1024 = (g : Int) := by rw [hg]; rfl
  obtain ⟨x1, x2⟩ := wrapG e1 g lb hg
  have x3 : wrap64 ((va : Int) / 4096) = (va : Int) / 4096 := wrapQ va 4096 lv
  have x4 : Int.tmod ((va : Int) / 4096) 1024 = (k2 : Int) := by rw [hk2]; rfl
  have x6 : (va : Int) / 4096 % 1024 = (k2 : Int) := by rw [hk2]; rfl
  have x5 := wrapK va k2 hk2
  clear hg hk2
  clear lb lv lp
  go_wp2_with fail
  refine (HR2.out w2 HO.out).mono ?_
  rintro e w3 ⟨rfl, ho⟩
  have HO3 := Vx.hid (HO.out.trans ho)
  clear ho ep vp x0 x1 x2 x3 x4 x5 x6 HR2
  go_upto_region 23 with fail
  have lb := HE2.out
  have b2_2 := Hb2_2.out
  obtain ⟨tb2_2, htb2_2⟩ : ∃ t : Nat, t = e2 / 2 % 2 := ⟨_, rfl⟩
  have ib2_2 : (e2 : Int) / 2 % 2 = (tb2_2 : Int) := by rw [htb2_2]; rfl
  have jb2_2 : Int.tmod (Int.tdiv (e2 : Int) 2) 2 = (tb2_2 : Int) := by rw [htb2_2]; rfl
  have ub2_2 : wrap64 ((e2 : Int) / 2) = (e2 : Int) / 2 := wrapQ e2 2 lb
  have kb2_2 : Int.tmod ((e2 : Int) / 2) 2 = (tb2_2 : Int) := by rw [htb2_2]; rfl
  have fb2_20 : ¬ (tb2_2 : Int) = 0 := ne_cast (c := 0) (by rw [htb2_2]; rw [b2_2]; decide)
  have gb2_20 : ((tb2_2 : Int) == 0) = false := beq_eq_false_iff_ne.2 fb2_20
  have nb2_20 : ((tb2_2 : Int) != 0) = true := bne_iff_ne.2 fb2_20
  have fb2_21 : (tb2_2 : Int) = 1 := eq_cast (c := 1) (by rw [htb2_2]; exact b2_2)
  have gb2_21 : ((tb2_2 : Int) == 1) = true := beq_iff_eq.2 fb2_21
  have nb2_21 : ((tb2_2 : Int) != 1) = false := bne_eq_false_iff_eq.2 fb2_21
  clear b2_2 htb2_2
  clear lb
  go_upto_region 24 with fail
  clear ib2_2 jb2_2 ub2_2 kb2_2 fb2_20 gb2_20 nb2_20 fb2_21 gb2_21 nb2_21
  have lb := HE2.out
  have b1_2 := Hb1_2.out
  obtain ⟨tb1_2, htb1_2⟩ : ∃ t : Nat, t = e2 % 2 := ⟨_, rfl⟩
  have ib1_2 : (e2 : Int) % 2 = (tb1_2 : Int) := by rw [htb1_2]; rfl
  have jb1_2 : Int.tmod (e2 : Int) 2 = (tb1_2 : Int) := by rw [htb1_2]; rfl
  have fb1_20 : ¬ (tb1_2 : Int) = 0 := ne_cast (c := 0) (by rw [htb1_2]; rw [b1_2]; decide)
  have gb1_20 : ((tb1_2 : Int) == 0) = false := beq_eq_false_iff_ne.2 fb1_20
  have nb1_20 : ((tb1_2 : Int) != 0) = true := bne_iff_ne.2 fb1_20
  have fb1_21 : (tb1_2 : Int) = 1 := eq_cast (c := 1) (by rw [htb1_2]; exact b1_2)
  have gb1_21 : ((tb1_2 : Int) == 1) = true := beq_iff_eq.2 fb1_21
  have nb1_21 : ((tb1_2 : Int) != 1) = false := bne_eq_false_iff_eq.2 fb1_21
  clear b1_2 htb1_2
  have b2_4 := Hb2_4.out
  obtain ⟨tb2_4, htb2_4⟩ : ∃ t : Nat, t = e2 / 2 % 4 := ⟨_, rfl⟩
  have ib2_4 : (e2 : Int) / 2 % 4 = (tb2_4 : Int) := by rw [htb2_4]; rfl
  have jb2_4 : Int.tmod (Int.tdiv (e2 : Int) 2) 4 = (tb2_4 : Int) := by rw [htb2_4]; rfl
  have ub2_4 : wrap64 ((e2 : Int) / 2) = (e2 : Int) / 2 := wrapQ e2 2 lb
  have kb2_4 : Int.tmod ((e2 : Int) / 2) 4 = (tb2_4 : Int) := by rw [htb2_4]; rfl
  have fb2_42 : ¬ (tb2_4 : Int) = 2 := ne_cast (c := 2) (by rw [htb2_4]; exact b2_4)
  have gb2_42 : ((tb2_4 : Int) == 2) = false := beq_eq_false_iff_ne.2 fb2_42
  have nb2_42 : ((tb2_4 : Int) != 2) = true := bne_iff_ne.2 fb2_42
  clear b2_4 htb2_4
  have b4_2 := Hb4_2.out
  obtain ⟨tb4_2, htb4_2⟩ : ∃ t : Nat, t = e2 / 4 % 2 := ⟨_, rfl⟩
  have ib4_2 : (e2 : Int) / 4 % 2 = (tb4_2 : Int) := by rw [htb4_2]; rfl
  have jb4_2 : Int.tmod (Int.tdiv (e2 : Int) 4) 2 = (tb4_2 : Int) := by rw [htb4_2]; rfl
  have ub4_2 : wrap64 ((e2 : Int) / 4) = (e2 : Int) / 4 := wrapQ e2 4 lb
  have kb4_2 : Int.tmod ((e2 : Int) / 4) 2 = (tb4_2 : Int) := by rw [htb4_2]; rfl
  have fb4_20 : ¬ (tb4_2 : Int) = 0 := ne_cast (c := 0) (by rw [htb4_2]; rw [b4_2]; decide)
  have gb4_20 : ((tb4_2 : Int) == 0) = false := beq_eq_false_iff_ne.2 fb4_20
  have nb4_20 : ((tb4_2 : Int) != 0) = true := bne_iff_ne.2 fb4_20
  have fb4_21 : (tb4_2 : Int) = 1 := eq_cast (c := 1) (by rw [htb4_2]; exact b4_2)
  have gb4_21 : ((tb4_2 : Int) == 1) = true := beq_iff_eq.2 fb4_21
  have nb4_21 : ((tb4_2 : Int) != 1) = false := bne_eq_false_iff_eq.2 fb4_21
  clear b4_2 htb4_2
  have b16_2 := Hb16_2.out
  obtain ⟨tb16_2, htb16_2⟩ : ∃ t : Nat, t = e2 / 16 % 2 := ⟨_, rfl⟩
  have ib16_2 : (e2 : Int) / 16 % 2 = (tb16_2 : Int) := by rw [htb16_2]; rfl
  have jb16_2 : Int.tmod (Int.tdiv (e2 : Int) 16) 2 = (tb16_2 : Int) := by rw [htb16_2]; rfl
  have ub16_2 : wrap64 ((e2 : Int) / 16) = (e2 : Int) / 16 := wrapQ e2 16 lb
  have kb16_2 : Int.tmod ((e2 : Int) / 16) 2 = (tb16_2 : Int) := by rw [htb16_2]; rfl
  have fb16_20 : ¬ (tb16_2 : Int) = 0 := ne_cast (c := 0) (by rw [htb16_2]; rw [b16_2]; decide)
  have gb16_20 : ((tb16_2 : Int) == 0) = false := beq_eq_false_iff_ne.2 fb16_20
  have nb16_20 : ((tb16_2 : Int) != 0) = true := bne_iff_ne.2 fb16_20
  have fb16_21 : (tb16_2 : Int) = 1 := eq_cast (c := 1) (by rw [htb16_2]; exact b16_2)
  have gb16_21 : ((tb16_2 : Int) == 1) = true := beq_iff_eq.2 fb16_21
  have nb16_21 : ((tb16_2 : Int) != 1) = false := bne_eq_false_iff_eq.2 fb16_21
  clear b16_2 htb16_2
  have b64_2 := Hb64_2.out
  obtain ⟨tb64_2, htb64_2⟩ : ∃ t : Nat, t = e2 / 64 % 2 := ⟨_, rfl⟩
  have ib64_2 : (e2 : Int) / 64 % 2 = (tb64_2 : Int) := by rw [htb64_2]; rfl
  have jb64_2 : Int.tmod (Int.tdiv (e2 : Int) 64) 2 = (tb64_2 : Int) := by rw [htb64_2]; rfl
  have ub64_2 : wrap64 ((e2 : Int) / 64) = (e2 : Int) / 64 := wrapQ e2 64 lb
  have kb64_2 : Int.tmod ((e2 : Int) / 64) 2 = (tb64_2 : Int) := by rw [htb64_2]; rfl
  have fb64_20 : ¬ (tb64_2 : Int) = 0 := ne_cast (c := 0) (by rw [htb64_2]; rw [b64_2]; decide)
  have gb64_20 : ((tb64_2 : Int) == 0) = false := beq_eq_false_iff_ne.2 fb64_20
  have nb64_20 : ((tb64_2 : Int) != 0) = true := bne_iff_ne.2 fb64_20
  have fb64_21 : (tb64_2 : Int) = 1 := eq_cast (c := 1) (by rw [htb64_2]; exact b64_2)
  have gb64_21 : ((tb64_2 : Int) == 1) = true := beq_iff_eq.2 fb64_21
  have nb64_21 : ((tb64_2 : Int) != 1) = false := bne_eq_false_iff_eq.2 fb64_21
  clear b64_2 htb64_2
  have b128_2 := Hb128_2.out
  obtain ⟨tb128_2, htb128_2⟩ : ∃ t : Nat, t = e2 / 128 % 2 := ⟨_, rfl⟩
  have ib128_2 : (e2 : Int) / 128 % 2 = (tb128_2 : Int) := by rw [htb128_2]; rfl
  have jb128_2 : Int.tmod (Int.tdiv (e2 : Int) 128) 2 = (tb128_2 : Int) := by rw [htb128_2]; rfl
  have ub128_2 : wrap64 ((e2 : Int) / 128) = (e2 : Int) / 128 := wrapQ e2 128 lb
  have kb128_2 : Int.tmod ((e2 : Int) / 128) 2 = (tb128_2 : Int) := by rw [htb128_2]; rfl
  have fb128_20 : ¬ (tb128_2 : Int) = 0 := ne_cast (c := 0) (by rw [htb128_2]; rw [b128_2]; decide)
  have gb128_20 : ((tb128_2 : Int) == 0) = false := beq_eq_false_iff_ne.2 fb128_20
  have nb128_20 : ((tb128_2 : Int) != 0) = true := bne_iff_ne.2 fb128_20
  have fb128_21 : (tb128_2 : Int) = 1 := eq_cast (c := 1) (by rw [htb128_2]; exact b128_2)
  have gb128_21 : ((tb128_2 : Int) == 1) = true := beq_iff_eq.2 fb128_21
  have nb128_21 : ((tb128_2 : Int) != 1) = false := bne_eq_false_iff_eq.2 fb128_21
  clear b128_2 htb128_2
  clear lb
  go_upto_region 26 with fail
  clear ib1_2 jb1_2 fb1_20 gb1_20 nb1_20 fb1_21 gb1_21 nb1_21 ib2_4 jb2_4 ub2_4 kb2_4 fb2_42 gb2_42 nb2_42 ib4_2 jb4_2 ub4_2 kb4_2 fb4_20 gb4_20 nb4_20 fb4_21 gb4_21 nb4_21 ib16_2 jb16_2 ub16_2 kb16_2 fb16_20 gb16_20 nb16_20 fb16_21 gb16_21 nb16_21 ib64_2 jb64_2 ub64_2 kb64_2 fb64_20 gb64_20 nb64_20 fb64_21 gb64_21 nb64_21 ib128_2 jb128_2 ub128_2 kb128_2 fb128_20 gb128_20 nb128_20 fb128_21 gb128_21 nb128_21
  go_upto_region 28 with fail
  have hcr := HCR.out w3 HO3.out
  have lb := HE2.out
  have lv := HVA.out
  have lp := HPA.out
  have lg := HGE.out
  have lN := HN.out
  have ipa : (e2 : Int) / 1024 * 4096 + (va : Int) % 4096 = (pa : Int) := by omega
  have vpa : wrap64 (pa : Int) = (pa : Int) := by simp only [wrap64]; omega
  have y1 : wrap64 ((e2 : Int) / 1024) = (e2 : Int) / 1024 := by simp only [wrap64]; omega
  have y2 : wrap64 ((e2 : Int) / 1024 * 4096) = (e2 : Int) / 1024 * 4096 := by simp only [wrap64]; omega
  have y3 : Int.tmod (va : Int) 4096 = (va : Int) % 4096 := Int.tmod_eq_emod_of_nonneg (by omega)
  have cge : ¬ (N : Int) ≤ (pa : Int) := by omega
  clear lb lv lp lg lN
  go_wp2_with fail
  all_goals
    go_ret2
    exact ⟨rfl, HO3.out⟩
set_option maxRecDepth 100000 in
set_option maxHeartbeats 2000000 in
theorem rw2_tXr {w : World} {br bb n : Nat} {f : Nat → UInt8} (h : RefAt w br bb n f) (r : Nat) (hr : r < n) (va : Nat) (hva : va < 4294967296) (e1 : Nat) (he1 : wordF f (4096 * r + 4 * (va / 4194304)) = e1) (a1_2 : e1 % 2 = 1) (a2_8 : e1 / 2 % 8 = 0) (a16_2 : e1 / 16 % 2 = 0) (a64_4 : e1 / 64 % 4 = 0) (hn2 : e1 / 1024 < n) (e2 : Nat) (he2 : wordF f (4096 * (e1 / 1024) + 4 * (va % 4194304 / 4096)) = e2) (b2_2 : e2 / 2 % 2 = 0) (b8_2 : e2 / 8 % 2 = 1) (b1_2 : e2 % 2 = 1) (b2_4 : e2 / 2 % 4 ≠ 2) (b4_2 : e2 / 4 % 2 = 0) :
    Calls Tryd.prog 51 #[.pointer (some ⟨br, 0, none⟩), .int .i64 (r : Int), .int .i64 (va : Int), .int .i64 2] w fun x w' => x = .returned (.tuple #[.int .i64 0, .int .i64 15]) ∧ Only (fun _ => False) w w' := by
  have Ha1_2 := Vx.hid a1_2
  have Ha2_8 := Vx.hid a2_8
  have Ha16_2 := Vx.hid a16_2
  have Ha64_4 := Vx.hid a64_4
  clear a1_2 a2_8 a16_2 a64_4
  have Hb2_2 := Vx.hid b2_2
  have Hb8_2 := Vx.hid b8_2
  have Hb1_2 := Vx.hid b1_2
  have Hb2_4 := Vx.hid b2_4
  have Hb4_2 := Vx.hid b4_2
  clear b2_2 b8_2 b1_2 b2_4 b4_2
  have HN2 := Vx.hid hn2
  clear hn2
  have HK2 : Hid (va % 4194304 / 4096 < 1024) := by show va % 4194304 / 4096 < 1024; omega
  have hn := h.top
  have hk1 : va / 4194304 < 1024 := by omega
  have l1 : e1 < 4294967296 := by rw [← he1]; exact wordF_lt _ _
  have HRW := Vx.hid (refWord_any h ((4096 * r + 4 * (va / 4194304) : Nat) : Int))
  rw [wordR_in f n r (va / 4194304) hr hk1, he1] at HRW
  obtain ⟨pl, hpl⟩ : ∃ p : Nat, p = 4096 * r + 4 * (va / 4194304) := ⟨_, rfl⟩
  rw [← hpl] at HRW
  have v1 : wrap64 ((va : Int) / 4194304) = (va : Int) / 4194304 := by simp only [wrap64]; omega
  have v2 : wrap64 ((va : Int) / 4194304 * 4) = (va : Int) / 4194304 * 4 := by simp only [wrap64]; omega
  have v3 : wrap64 (pl : Int) = (pl : Int) := by simp only [wrap64]; omega
  have e3 : 4096 * (r : Int) + (va : Int) / 4194304 * 4 = (pl : Int) := by omega
  have rb : (r : Int) ≤ 255 := by omega
  have dr1 : decide ((r : Int) < 0) = false := decide_eq_false (by omega)
  have dr2 : ¬ 255 < (r : Int) := by omega
  have HE1 := Vx.hid l1
  have HVA := Vx.hid hva
  have HNN := Vx.hid hn
  have HR2 := Vx.hid (fun wv (hv : Only (fun _ => False) w wv) => refWord_any (h.only hv (fun h => h) (fun h => h)) ((4096 * (e1 / 1024) + 4 * (va % 4194304 / 4096) : Nat) : Int))
  rw [wordR_in f n (e1 / 1024) (va % 4194304 / 4096) HN2.out HK2.out, he2] at HR2
  have l2 : e2 < 4294967296 := by rw [← he2]; exact wordF_lt _ _
  have HE2 := Vx.hid l2
  obtain ⟨pl2, hpl2⟩ : ∃ p : Nat, p = 4096 * (e1 / 1024) + 4 * (va % 4194304 / 4096) := ⟨_, rfl⟩
  rw [← hpl2] at HR2
  have HP2 := Vx.hid hpl2
  clear h hn hk1 l1 hpl he1 hr hva hpl2 he2 l2
  go_enter Tryd.func51, Tryd.ntmps51
  go_upto_region 14 with fail
  go_wp2_with fail
  refine HRW.out.mono ?_
  rintro e w2 ⟨rfl, ho⟩
  have HO := Vx.hid ho
  clear ho e3 v1 v2 v3 rb HRW
  go_upto_region 18 with fail
  have lb := HE1.out
  have a1_2 := Ha1_2.out
  obtain ⟨ta1_2, hta1_2⟩ : ∃ t : Nat, t = e1 % 2 := ⟨_, rfl⟩
  have ia1_2 : (e1 : Int) % 2 = (ta1_2 : Int) := by rw [hta1_2]; rfl
  have ja1_2 : Int.tmod (e1 : Int) 2 = (ta1_2 : Int) := by rw [hta1_2]; rfl
  have fa1_20 : ¬ (ta1_2 : Int) = 0 := ne_cast (c := 0) (by rw [hta1_2]; rw [a1_2]; decide)
  have ga1_20 : ((ta1_2 : Int) == 0) = false := beq_eq_false_iff_ne.2 fa1_20
  have na1_20 : ((ta1_2 : Int) != 0) = true := bne_iff_ne.2 fa1_20
  have fa1_21 : (ta1_2 : Int) = 1 := eq_cast (c := 1) (by rw [hta1_2]; exact a1_2)
  have ga1_21 : ((ta1_2 : Int) == 1) = true := beq_iff_eq.2 fa1_21
  have na1_21 : ((ta1_2 : Int) != 1) = false := bne_eq_false_iff_eq.2 fa1_21
  clear a1_2 hta1_2
  have a2_8 := Ha2_8.out
  obtain ⟨ta2_8, hta2_8⟩ : ∃ t : Nat, t = e1 / 2 % 8 := ⟨_, rfl⟩
  have ia2_8 : (e1 : Int) / 2 % 8 = (ta2_8 : Int) := by rw [hta2_8]; rfl
  have ja2_8 : Int.tmod (Int.tdiv (e1 : Int) 2) 8 = (ta2_8 : Int) := by rw [hta2_8]; rfl
  have ua2_8 : wrap64 ((e1 : Int) / 2) = (e1 : Int) / 2 := wrapQ e1 2 lb
  have ka2_8 : Int.tmod ((e1 : Int) / 2) 8 = (ta2_8 : Int) := by rw [hta2_8]; rfl
  have fa2_80 : (ta2_8 : Int) = 0 := eq_cast (c := 0) (by rw [hta2_8]; exact a2_8)
  have ga2_80 : ((ta2_8 : Int) == 0) = true := beq_iff_eq.2 fa2_80
  have na2_80 : ((ta2_8 : Int) != 0) = false := bne_eq_false_iff_eq.2 fa2_80
  clear a2_8 hta2_8
  have a16_2 := Ha16_2.out
  obtain ⟨ta16_2, hta16_2⟩ : ∃ t : Nat, t = e1 / 16 % 2 := ⟨_, rfl⟩
  have ia16_2 : (e1 : Int) / 16 % 2 = (ta16_2 : Int) := by rw [hta16_2]; rfl
  have ja16_2 : Int.tmod (Int.tdiv (e1 : Int) 16) 2 = (ta16_2 : Int) := by rw [hta16_2]; rfl
  have ua16_2 : wrap64 ((e1 : Int) / 16) = (e1 : Int) / 16 := wrapQ e1 16 lb
  have ka16_2 : Int.tmod ((e1 : Int) / 16) 2 = (ta16_2 : Int) := by rw [hta16_2]; rfl
  have fa16_20 : (ta16_2 : Int) = 0 := eq_cast (c := 0) (by rw [hta16_2]; exact a16_2)
  have ga16_20 : ((ta16_2 : Int) == 0) = true := beq_iff_eq.2 fa16_20
  have na16_20 : ((ta16_2 : Int) != 0) = false := bne_eq_false_iff_eq.2 fa16_20
  have fa16_21 : ¬ (ta16_2 : Int) = 1 := ne_cast (c := 1) (by rw [hta16_2]; rw [a16_2]; decide)
  have ga16_21 : ((ta16_2 : Int) == 1) = false := beq_eq_false_iff_ne.2 fa16_21
  have na16_21 : ((ta16_2 : Int) != 1) = true := bne_iff_ne.2 fa16_21
  clear a16_2 hta16_2
  have a64_4 := Ha64_4.out
  obtain ⟨ta64_4, hta64_4⟩ : ∃ t : Nat, t = e1 / 64 % 4 := ⟨_, rfl⟩
  have ia64_4 : (e1 : Int) / 64 % 4 = (ta64_4 : Int) := by rw [hta64_4]; rfl
  have ja64_4 : Int.tmod (Int.tdiv (e1 : Int) 64) 4 = (ta64_4 : Int) := by rw [hta64_4]; rfl
  have ua64_4 : wrap64 ((e1 : Int) / 64) = (e1 : Int) / 64 := wrapQ e1 64 lb
  have ka64_4 : Int.tmod ((e1 : Int) / 64) 4 = (ta64_4 : Int) := by rw [hta64_4]; rfl
  have fa64_40 : (ta64_4 : Int) = 0 := eq_cast (c := 0) (by rw [hta64_4]; exact a64_4)
  have ga64_40 : ((ta64_4 : Int) == 0) = true := beq_iff_eq.2 fa64_40
  have na64_40 : ((ta64_4 : Int) != 0) = false := bne_eq_false_iff_eq.2 fa64_40
  clear a64_4 hta64_4
  clear lb
  go_upto_region 19 with fail
  clear ia1_2 ja1_2 fa1_20 ga1_20 na1_20 fa1_21 ga1_21 na1_21 ia2_8 ja2_8 ua2_8 ka2_8 fa2_80 ga2_80 na2_80 ia16_2 ja16_2 ua16_2 ka16_2 fa16_20 ga16_20 na16_20 fa16_21 ga16_21 na16_21 ia64_4 ja64_4 ua64_4 ka64_4 fa64_40 ga64_40 na64_40
  have lb := HE1.out
  have lv := HVA.out
  have lp := HP2.out
  obtain ⟨g, hg⟩ : ∃ g : Nat, g = e1 / 1024 := ⟨_, rfl⟩
  obtain ⟨k2, hk2⟩ : ∃ k : Nat, k = va / 4096 % 1024 := ⟨_, rfl⟩
  have ep : (g : Int) * 4096 + (k2 : Int) * 4 = (pl2 : Int) := lead_eq e1 va pl2 g k2 hg hk2 lp
  have vp : wrap64 (pl2 : Int) = (pl2 : Int) := lead_wrap e1 va pl2 lb lp
  have x0 : (e1 : Int) / 1024 = (g : Int) := by rw [hg]; rfl
  obtain ⟨x1, x2⟩ := wrapG e1 g lb hg
  have x3 : wrap64 ((va : Int) / 4096) = (va : Int) / 4096 := wrapQ va 4096 lv
  have x4 : Int.tmod ((va : Int) / 4096) 1024 = (k2 : Int) := by rw [hk2]; rfl
  have x6 : (va : Int) / 4096 % 1024 = (k2 : Int) := by rw [hk2]; rfl
  have x5 := wrapK va k2 hk2
  clear hg hk2
  clear lb lv lp
  go_wp2_with fail
  refine (HR2.out w2 HO.out).mono ?_
  rintro e w3 ⟨rfl, ho⟩
  have HO3 := Vx.hid (HO.out.trans ho)
  clear ho ep vp x0 x1 x2 x3 x4 x5 x6 HR2
  go_upto_region 23 with fail
  have lb := HE2.out
  have b2_2 := Hb2_2.out
  obtain ⟨tb2_2, htb2_2⟩ : ∃ t : Nat, t = e2 / 2 % 2 := ⟨_, rfl⟩
  have ib2_2 : (e2 : Int) / 2 % 2 = (tb2_2 : Int) := by rw [htb2_2]; rfl
  have jb2_2 : Int.tmod (Int.tdiv (e2 : Int) 2) 2 = (tb2_2 : Int) := by rw [htb2_2]; rfl
  have ub2_2 : wrap64 ((e2 : Int) / 2) = (e2 : Int) / 2 := wrapQ e2 2 lb
  have kb2_2 : Int.tmod ((e2 : Int) / 2) 2 = (tb2_2 : Int) := by rw [htb2_2]; rfl
  have fb2_20 : (tb2_2 : Int) = 0 := eq_cast (c := 0) (by rw [htb2_2]; exact b2_2)
  have gb2_20 : ((tb2_2 : Int) == 0) = true := beq_iff_eq.2 fb2_20
  have nb2_20 : ((tb2_2 : Int) != 0) = false := bne_eq_false_iff_eq.2 fb2_20
  have fb2_21 : ¬ (tb2_2 : Int) = 1 := ne_cast (c := 1) (by rw [htb2_2]; rw [b2_2]; decide)
  have gb2_21 : ((tb2_2 : Int) == 1) = false := beq_eq_false_iff_ne.2 fb2_21
  have nb2_21 : ((tb2_2 : Int) != 1) = true := bne_iff_ne.2 fb2_21
  clear b2_2 htb2_2
  have b8_2 := Hb8_2.out
  obtain ⟨tb8_2, htb8_2⟩ : ∃ t : Nat, t = e2 / 8 % 2 := ⟨_, rfl⟩
  have ib8_2 : (e2 : Int) / 8 % 2 = (tb8_2 : Int) := by rw [htb8_2]; rfl
  have jb8_2 : Int.tmod (Int.tdiv (e2 : Int) 8) 2 = (tb8_2 : Int) := by rw [htb8_2]; rfl
  have ub8_2 : wrap64 ((e2 : Int) / 8) = (e2 : Int) / 8 := wrapQ e2 8 lb
  have kb8_2 : Int.tmod ((e2 : Int) / 8) 2 = (tb8_2 : Int) := by rw [htb8_2]; rfl
  have fb8_20 : ¬ (tb8_2 : Int) = 0 := ne_cast (c := 0) (by rw [htb8_2]; rw [b8_2]; decide)
  have gb8_20 : ((tb8_2 : Int) == 0) = false := beq_eq_false_iff_ne.2 fb8_20
  have nb8_20 : ((tb8_2 : Int) != 0) = true := bne_iff_ne.2 fb8_20
  have fb8_21 : (tb8_2 : Int) = 1 := eq_cast (c := 1) (by rw [htb8_2]; exact b8_2)
  have gb8_21 : ((tb8_2 : Int) == 1) = true := beq_iff_eq.2 fb8_21
  have nb8_21 : ((tb8_2 : Int) != 1) = false := bne_eq_false_iff_eq.2 fb8_21
  clear b8_2 htb8_2
  clear lb
  go_upto_region 24 with fail
  clear ib2_2 jb2_2 ub2_2 kb2_2 fb2_20 gb2_20 nb2_20 fb2_21 gb2_21 nb2_21 ib8_2 jb8_2 ub8_2 kb8_2 fb8_20 gb8_20 nb8_20 fb8_21 gb8_21 nb8_21
  have lb := HE2.out
  have b1_2 := Hb1_2.out
  obtain ⟨tb1_2, htb1_2⟩ : ∃ t : Nat, t = e2 % 2 := ⟨_, rfl⟩
  have ib1_2 : (e2 : Int) % 2 = (tb1_2 : Int) := by rw [htb1_2]; rfl
  have jb1_2 : Int.tmod (e2 : Int) 2 = (tb1_2 : Int) := by rw [htb1_2]; rfl
  have fb1_20 : ¬ (tb1_2 : Int) = 0 := ne_cast (c := 0) (by rw [htb1_2]; rw [b1_2]; decide)
  have gb1_20 : ((tb1_2 : Int) == 0) = false := beq_eq_false_iff_ne.2 fb1_20
  have nb1_20 : ((tb1_2 : Int) != 0) = true := bne_iff_ne.2 fb1_20
  have fb1_21 : (tb1_2 : Int) = 1 := eq_cast (c := 1) (by rw [htb1_2]; exact b1_2)
  have gb1_21 : ((tb1_2 : Int) == 1) = true := beq_iff_eq.2 fb1_21
  have nb1_21 : ((tb1_2 : Int) != 1) = false := bne_eq_false_iff_eq.2 fb1_21
  clear b1_2 htb1_2
  have b2_4 := Hb2_4.out
  obtain ⟨tb2_4, htb2_4⟩ : ∃ t : Nat, t = e2 / 2 % 4 := ⟨_, rfl⟩
  have ib2_4 : (e2 : Int) / 2 % 4 = (tb2_4 : Int) := by rw [htb2_4]; rfl
  have jb2_4 : Int.tmod (Int.tdiv (e2 : Int) 2) 4 = (tb2_4 : Int) := by rw [htb2_4]; rfl
  have ub2_4 : wrap64 ((e2 : Int) / 2) = (e2 : Int) / 2 := wrapQ e2 2 lb
  have kb2_4 : Int.tmod ((e2 : Int) / 2) 4 = (tb2_4 : Int) := by rw [htb2_4]; rfl
  have fb2_42 : ¬ (tb2_4 : Int) = 2 := ne_cast (c := 2) (by rw [htb2_4]; exact b2_4)
  have gb2_42 : ((tb2_4 : Int) == 2) = false := beq_eq_false_iff_ne.2 fb2_42
  have nb2_42 : ((tb2_4 : Int) != 2) = true := bne_iff_ne.2 fb2_42
  clear b2_4 htb2_4
  have b4_2 := Hb4_2.out
  obtain ⟨tb4_2, htb4_2⟩ : ∃ t : Nat, t = e2 / 4 % 2 := ⟨_, rfl⟩
  have ib4_2 : (e2 : Int) / 4 % 2 = (tb4_2 : Int) := by rw [htb4_2]; rfl
  have jb4_2 : Int.tmod (Int.tdiv (e2 : Int) 4) 2 = (tb4_2 : Int) := by rw [htb4_2]; rfl
  have ub4_2 : wrap64 ((e2 : Int) / 4) = (e2 : Int) / 4 := wrapQ e2 4 lb
  have kb4_2 : Int.tmod ((e2 : Int) / 4) 2 = (tb4_2 : Int) := by rw [htb4_2]; rfl
  have fb4_20 : (tb4_2 : Int) = 0 := eq_cast (c := 0) (by rw [htb4_2]; exact b4_2)
  have gb4_20 : ((tb4_2 : Int) == 0) = true := beq_iff_eq.2 fb4_20
  have nb4_20 : ((tb4_2 : Int) != 0) = false := bne_eq_false_iff_eq.2 fb4_20
  have fb4_21 : ¬ (tb4_2 : Int) = 1 := ne_cast (c := 1) (by rw [htb4_2]; rw [b4_2]; decide)
  have gb4_21 : ((tb4_2 : Int) == 1) = false := beq_eq_false_iff_ne.2 fb4_21
  have nb4_21 : ((tb4_2 : Int) != 1) = true := bne_iff_ne.2 fb4_21
  clear b4_2 htb4_2
  clear lb
  go_wp2_with fail
  all_goals
    go_ret2
    exact ⟨rfl, HO3.out⟩
set_option maxRecDepth 100000 in
set_option maxHeartbeats 2000000 in
theorem rw2_tXu {w : World} {br bb n : Nat} {f : Nat → UInt8} (h : RefAt w br bb n f) (r : Nat) (hr : r < n) (va : Nat) (hva : va < 4294967296) (e1 : Nat) (he1 : wordF f (4096 * r + 4 * (va / 4194304)) = e1) (a1_2 : e1 % 2 = 1) (a2_8 : e1 / 2 % 8 = 0) (a16_2 : e1 / 16 % 2 = 0) (a64_4 : e1 / 64 % 4 = 0) (hn2 : e1 / 1024 < n) (e2 : Nat) (he2 : wordF f (4096 * (e1 / 1024) + 4 * (va % 4194304 / 4096)) = e2) (b2_2 : e2 / 2 % 2 = 0) (b8_2 : e2 / 8 % 2 = 1) (b1_2 : e2 % 2 = 1) (b2_4 : e2 / 2 % 4 ≠ 2) (b4_2 : e2 / 4 % 2 = 1) (b16_2 : e2 / 16 % 2 = 0) :
    Calls Tryd.prog 51 #[.pointer (some ⟨br, 0, none⟩), .int .i64 (r : Int), .int .i64 (va : Int), .int .i64 2] w fun x w' => x = .returned (.tuple #[.int .i64 0, .int .i64 15]) ∧ Only (fun _ => False) w w' := by
  have Ha1_2 := Vx.hid a1_2
  have Ha2_8 := Vx.hid a2_8
  have Ha16_2 := Vx.hid a16_2
  have Ha64_4 := Vx.hid a64_4
  clear a1_2 a2_8 a16_2 a64_4
  have Hb2_2 := Vx.hid b2_2
  have Hb8_2 := Vx.hid b8_2
  have Hb1_2 := Vx.hid b1_2
  have Hb2_4 := Vx.hid b2_4
  have Hb4_2 := Vx.hid b4_2
  have Hb16_2 := Vx.hid b16_2
  clear b2_2 b8_2 b1_2 b2_4 b4_2 b16_2
  have HN2 := Vx.hid hn2
  clear hn2
  have HK2 : Hid (va % 4194304 / 4096 < 1024) := by show va % 4194304 / 4096 < 1024; omega
  have hn := h.top
  have hk1 : va / 4194304 < 1024 := by omega
  have l1 : e1 < 4294967296 := by rw [← he1]; exact wordF_lt _ _
  have HRW := Vx.hid (refWord_any h ((4096 * r + 4 * (va / 4194304) : Nat) : Int))
  rw [wordR_in f n r (va / 4194304) hr hk1, he1] at HRW
  obtain ⟨pl, hpl⟩ : ∃ p : Nat, p = 4096 * r + 4 * (va / 4194304) := ⟨_, rfl⟩
  rw [← hpl] at HRW
  have v1 : wrap64 ((va : Int) / 4194304) = (va : Int) / 4194304 := by simp only [wrap64]; omega
  have v2 : wrap64 ((va : Int) / 4194304 * 4) = (va : Int) / 4194304 * 4 := by simp only [wrap64]; omega
  have v3 : wrap64 (pl : Int) = (pl : Int) := by simp only [wrap64]; omega
  have e3 : 4096 * (r : Int) + (va : Int) / 4194304 * 4 = (pl : Int) := by omega
  have rb : (r : Int) ≤ 255 := by omega
  have dr1 : decide ((r : Int) < 0) = false := decide_eq_false (by omega)
  have dr2 : ¬ 255 < (r : Int) := by omega
  have HE1 := Vx.hid l1
  have HVA := Vx.hid hva
  have HNN := Vx.hid hn
  have HR2 := Vx.hid (fun wv (hv : Only (fun _ => False) w wv) => refWord_any (h.only hv (fun h => h) (fun h => h)) ((4096 * (e1 / 1024) + 4 * (va % 4194304 / 4096) : Nat) : Int))
  rw [wordR_in f n (e1 / 1024) (va % 4194304 / 4096) HN2.out HK2.out, he2] at HR2
  have l2 : e2 < 4294967296 := by rw [← he2]; exact wordF_lt _ _
  have HE2 := Vx.hid l2
  obtain ⟨pl2, hpl2⟩ : ∃ p : Nat, p = 4096 * (e1 / 1024) + 4 * (va % 4194304 / 4096) := ⟨_, rfl⟩
  rw [← hpl2] at HR2
  have HP2 := Vx.hid hpl2
  clear h hn hk1 l1 hpl he1 hr hva hpl2 he2 l2
  go_enter Tryd.func51, Tryd.ntmps51
  go_upto_region 14 with fail
  go_wp2_with fail
  refine HRW.out.mono ?_
  rintro e w2 ⟨rfl, ho⟩
  have HO := Vx.hid ho
  clear ho e3 v1 v2 v3 rb HRW
  go_upto_region 18 with fail
  have lb := HE1.out
  have a1_2 := Ha1_2.out
  obtain ⟨ta1_2, hta1_2⟩ : ∃ t : Nat, t = e1 % 2 := ⟨_, rfl⟩
  have ia1_2 : (e1 : Int) % 2 = (ta1_2 : Int) := by rw [hta1_2]; rfl
  have ja1_2 : Int.tmod (e1 : Int) 2 = (ta1_2 : Int) := by rw [hta1_2]; rfl
  have fa1_20 : ¬ (ta1_2 : Int) = 0 := ne_cast (c := 0) (by rw [hta1_2]; rw [a1_2]; decide)
  have ga1_20 : ((ta1_2 : Int) == 0) = false := beq_eq_false_iff_ne.2 fa1_20
  have na1_20 : ((ta1_2 : Int) != 0) = true := bne_iff_ne.2 fa1_20
  have fa1_21 : (ta1_2 : Int) = 1 := eq_cast (c := 1) (by rw [hta1_2]; exact a1_2)
  have ga1_21 : ((ta1_2 : Int) == 1) = true := beq_iff_eq.2 fa1_21
  have na1_21 : ((ta1_2 : Int) != 1) = false := bne_eq_false_iff_eq.2 fa1_21
  clear a1_2 hta1_2
  have a2_8 := Ha2_8.out
  obtain ⟨ta2_8, hta2_8⟩ : ∃ t : Nat, t = e1 / 2 % 8 := ⟨_, rfl⟩
  have ia2_8 : (e1 : Int) / 2 % 8 = (ta2_8 : Int) := by rw [hta2_8]; rfl
  have ja2_8 : Int.tmod (Int.tdiv (e1 : Int) 2) 8 = (ta2_8 : Int) := by rw [hta2_8]; rfl
  have ua2_8 : wrap64 ((e1 : Int) / 2) = (e1 : Int) / 2 := wrapQ e1 2 lb
  have ka2_8 : Int.tmod ((e1 : Int) / 2) 8 = (ta2_8 : Int) := by rw [hta2_8]; rfl
  have fa2_80 : (ta2_8 : Int) = 0 := eq_cast (c := 0) (by rw [hta2_8]; exact a2_8)
  have ga2_80 : ((ta2_8 : Int) == 0) = true := beq_iff_eq.2 fa2_80
  have na2_80 : ((ta2_8 : Int) != 0) = false := bne_eq_false_iff_eq.2 fa2_80
  clear a2_8 hta2_8
  have a16_2 := Ha16_2.out
  obtain ⟨ta16_2, hta16_2⟩ : ∃ t : Nat, t = e1 / 16 % 2 := ⟨_, rfl⟩
  have ia16_2 : (e1 : Int) / 16 % 2 = (ta16_2 : Int) := by rw [hta16_2]; rfl
  have ja16_2 : Int.tmod (Int.tdiv (e1 : Int) 16) 2 = (ta16_2 : Int) := by rw [hta16_2]; rfl
  have ua16_2 : wrap64 ((e1 : Int) / 16) = (e1 : Int) / 16 := wrapQ e1 16 lb
  have ka16_2 : Int.tmod ((e1 : Int) / 16) 2 = (ta16_2 : Int) := by rw [hta16_2]; rfl
  have fa16_20 : (ta16_2 : Int) = 0 := eq_cast (c := 0) (by rw [hta16_2]; exact a16_2)
  have ga16_20 : ((ta16_2 : Int) == 0) = true := beq_iff_eq.2 fa16_20
  have na16_20 : ((ta16_2 : Int) != 0) = false := bne_eq_false_iff_eq.2 fa16_20
  have fa16_21 : ¬ (ta16_2 : Int) = 1 := ne_cast (c := 1) (by rw [hta16_2]; rw [a16_2]; decide)
  have ga16_21 : ((ta16_2 : Int) == 1) = false := beq_eq_false_iff_ne.2 fa16_21
  have na16_21 : ((ta16_2 : Int) != 1) = true := bne_iff_ne.2 fa16_21
  clear a16_2 hta16_2
  have a64_4 := Ha64_4.out
  obtain ⟨ta64_4, hta64_4⟩ : ∃ t : Nat, t = e1 / 64 % 4 := ⟨_, rfl⟩
  have ia64_4 : (e1 : Int) / 64 % 4 = (ta64_4 : Int) := by rw [hta64_4]; rfl
  have ja64_4 : Int.tmod (Int.tdiv (e1 : Int) 64) 4 = (ta64_4 : Int) := by rw [hta64_4]; rfl
  have ua64_4 : wrap64 ((e1 : Int) / 64) = (e1 : Int) / 64 := wrapQ e1 64 lb
  have ka64_4 : Int.tmod ((e1 : Int) / 64) 4 = (ta64_4 : Int) := by rw [hta64_4]; rfl
  have fa64_40 : (ta64_4 : Int) = 0 := eq_cast (c := 0) (by rw [hta64_4]; exact a64_4)
  have ga64_40 : ((ta64_4 : Int) == 0) = true := beq_iff_eq.2 fa64_40
  have na64_40 : ((ta64_4 : Int) != 0) = false := bne_eq_false_iff_eq.2 fa64_40
  clear a64_4 hta64_4
  clear lb
  go_upto_region 19 with fail
  clear ia1_2 ja1_2 fa1_20 ga1_20 na1_20 fa1_21 ga1_21 na1_21 ia2_8 ja2_8 ua2_8 ka2_8 fa2_80 ga2_80 na2_80 ia16_2 ja16_2 ua16_2 ka16_2 fa16_20 ga16_20 na16_20 fa16_21 ga16_21 na16_21 ia64_4 ja64_4 ua64_4 ka64_4 fa64_40 ga64_40 na64_40
  have lb := HE1.out
  have lv := HVA.out
  have lp := HP2.out
  obtain ⟨g, hg⟩ : ∃ g : Nat, g = e1 / 1024 := ⟨_, rfl⟩
  obtain ⟨k2, hk2⟩ : ∃ k : Nat, k = va / 4096 % 1024 := ⟨_, rfl⟩
  have ep : (g : Int) * 4096 + (k2 : Int) * 4 = (pl2 : Int) := lead_eq e1 va pl2 g k2 hg hk2 lp
  have vp : wrap64 (pl2 : Int) = (pl2 : Int) := lead_wrap e1 va pl2 lb lp
  have x0 : (e1 : Int) / 1024 = (g : Int) := by rw [hg]; rfl
  obtain ⟨x1, x2⟩ := wrapG e1 g lb hg
  have x3 : wrap64 ((va : Int) / 4096) = (va : Int) / 4096 := wrapQ va 4096 lv
  have x4 : Int.tmod ((va : Int) / 4096) 1024 = (k2 : Int) := by rw [hk2]; rfl
  have x6 : (va : Int) / 4096 % 1024 = (k2 : Int) := by rw [hk2]; rfl
  have x5 := wrapK va k2 hk2
  clear hg hk2
  clear lb lv lp
  go_wp2_with fail
  refine (HR2.out w2 HO.out).mono ?_
  rintro e w3 ⟨rfl, ho⟩
  have HO3 := Vx.hid (HO.out.trans ho)
  clear ho ep vp x0 x1 x2 x3 x4 x5 x6 HR2
  go_upto_region 23 with fail
  have lb := HE2.out
  have b2_2 := Hb2_2.out
  obtain ⟨tb2_2, htb2_2⟩ : ∃ t : Nat, t = e2 / 2 % 2 := ⟨_, rfl⟩
  have ib2_2 : (e2 : Int) / 2 % 2 = (tb2_2 : Int) := by rw [htb2_2]; rfl
  have jb2_2 : Int.tmod (Int.tdiv (e2 : Int) 2) 2 = (tb2_2 : Int) := by rw [htb2_2]; rfl
  have ub2_2 : wrap64 ((e2 : Int) / 2) = (e2 : Int) / 2 := wrapQ e2 2 lb
  have kb2_2 : Int.tmod ((e2 : Int) / 2) 2 = (tb2_2 : Int) := by rw [htb2_2]; rfl
  have fb2_20 : (tb2_2 : Int) = 0 := eq_cast (c := 0) (by rw [htb2_2]; exact b2_2)
  have gb2_20 : ((tb2_2 : Int) == 0) = true := beq_iff_eq.2 fb2_20
  have nb2_20 : ((tb2_2 : Int) != 0) = false := bne_eq_false_iff_eq.2 fb2_20
  have fb2_21 : ¬ (tb2_2 : Int) = 1 := ne_cast (c := 1) (by rw [htb2_2]; rw [b2_2]; decide)
  have gb2_21 : ((tb2_2 : Int) == 1) = false := beq_eq_false_iff_ne.2 fb2_21
  have nb2_21 : ((tb2_2 : Int) != 1) = true := bne_iff_ne.2 fb2_21
  clear b2_2 htb2_2
  have b8_2 := Hb8_2.out
  obtain ⟨tb8_2, htb8_2⟩ : ∃ t : Nat, t = e2 / 8 % 2 := ⟨_, rfl⟩
  have ib8_2 : (e2 : Int) / 8 % 2 = (tb8_2 : Int) := by rw [htb8_2]; rfl
  have jb8_2 : Int.tmod (Int.tdiv (e2 : Int) 8) 2 = (tb8_2 : Int) := by rw [htb8_2]; rfl
  have ub8_2 : wrap64 ((e2 : Int) / 8) = (e2 : Int) / 8 := wrapQ e2 8 lb
  have kb8_2 : Int.tmod ((e2 : Int) / 8) 2 = (tb8_2 : Int) := by rw [htb8_2]; rfl
  have fb8_20 : ¬ (tb8_2 : Int) = 0 := ne_cast (c := 0) (by rw [htb8_2]; rw [b8_2]; decide)
  have gb8_20 : ((tb8_2 : Int) == 0) = false := beq_eq_false_iff_ne.2 fb8_20
  have nb8_20 : ((tb8_2 : Int) != 0) = true := bne_iff_ne.2 fb8_20
  have fb8_21 : (tb8_2 : Int) = 1 := eq_cast (c := 1) (by rw [htb8_2]; exact b8_2)
  have gb8_21 : ((tb8_2 : Int) == 1) = true := beq_iff_eq.2 fb8_21
  have nb8_21 : ((tb8_2 : Int) != 1) = false := bne_eq_false_iff_eq.2 fb8_21
  clear b8_2 htb8_2
  clear lb
  go_upto_region 24 with fail
  clear ib2_2 jb2_2 ub2_2 kb2_2 fb2_20 gb2_20 nb2_20 fb2_21 gb2_21 nb2_21 ib8_2 jb8_2 ub8_2 kb8_2 fb8_20 gb8_20 nb8_20 fb8_21 gb8_21 nb8_21
  have lb := HE2.out
  have b1_2 := Hb1_2.out
  obtain ⟨tb1_2, htb1_2⟩ : ∃ t : Nat, t = e2 % 2 := ⟨_, rfl⟩
  have ib1_2 : (e2 : Int) % 2 = (tb1_2 : Int) := by rw [htb1_2]; rfl
  have jb1_2 : Int.tmod (e2 : Int) 2 = (tb1_2 : Int) := by rw [htb1_2]; rfl
  have fb1_20 : ¬ (tb1_2 : Int) = 0 := ne_cast (c := 0) (by rw [htb1_2]; rw [b1_2]; decide)
  have gb1_20 : ((tb1_2 : Int) == 0) = false := beq_eq_false_iff_ne.2 fb1_20
  have nb1_20 : ((tb1_2 : Int) != 0) = true := bne_iff_ne.2 fb1_20
  have fb1_21 : (tb1_2 : Int) = 1 := eq_cast (c := 1) (by rw [htb1_2]; exact b1_2)
  have gb1_21 : ((tb1_2 : Int) == 1) = true := beq_iff_eq.2 fb1_21
  have nb1_21 : ((tb1_2 : Int) != 1) = false := bne_eq_false_iff_eq.2 fb1_21
  clear b1_2 htb1_2
  have b2_4 := Hb2_4.out
  obtain ⟨tb2_4, htb2_4⟩ : ∃ t : Nat, t = e2 / 2 % 4 := ⟨_, rfl⟩
  have ib2_4 : (e2 : Int) / 2 % 4 = (tb2_4 : Int) := by rw [htb2_4]; rfl
  have jb2_4 : Int.tmod (Int.tdiv (e2 : Int) 2) 4 = (tb2_4 : Int) := by rw [htb2_4]; rfl
  have ub2_4 : wrap64 ((e2 : Int) / 2) = (e2 : Int) / 2 := wrapQ e2 2 lb
  have kb2_4 : Int.tmod ((e2 : Int) / 2) 4 = (tb2_4 : Int) := by rw [htb2_4]; rfl
  have fb2_42 : ¬ (tb2_4 : Int) = 2 := ne_cast (c := 2) (by rw [htb2_4]; exact b2_4)
  have gb2_42 : ((tb2_4 : Int) == 2) = false := beq_eq_false_iff_ne.2 fb2_42
  have nb2_42 : ((tb2_4 : Int) != 2) = true := bne_iff_ne.2 fb2_42
  clear b2_4 htb2_4
  have b4_2 := Hb4_2.out
  obtain ⟨tb4_2, htb4_2⟩ : ∃ t : Nat, t = e2 / 4 % 2 := ⟨_, rfl⟩
  have ib4_2 : (e2 : Int) / 4 % 2 = (tb4_2 : Int) := by rw [htb4_2]; rfl
  have jb4_2 : Int.tmod (Int.tdiv (e2 : Int) 4) 2 = (tb4_2 : Int) := by rw [htb4_2]; rfl
  have ub4_2 : wrap64 ((e2 : Int) / 4) = (e2 : Int) / 4 := wrapQ e2 4 lb
  have kb4_2 : Int.tmod ((e2 : Int) / 4) 2 = (tb4_2 : Int) := by rw [htb4_2]; rfl
  have fb4_20 : ¬ (tb4_2 : Int) = 0 := ne_cast (c := 0) (by rw [htb4_2]; rw [b4_2]; decide)
  have gb4_20 : ((tb4_2 : Int) == 0) = false := beq_eq_false_iff_ne.2 fb4_20
  have nb4_20 : ((tb4_2 : Int) != 0) = true := bne_iff_ne.2 fb4_20
  have fb4_21 : (tb4_2 : Int) = 1 := eq_cast (c := 1) (by rw [htb4_2]; exact b4_2)
  have gb4_21 : ((tb4_2 : Int) == 1) = true := beq_iff_eq.2 fb4_21
  have nb4_21 : ((tb4_2 : Int) != 1) = false := bne_eq_false_iff_eq.2 fb4_21
  clear b4_2 htb4_2
  have b16_2 := Hb16_2.out
  obtain ⟨tb16_2, htb16_2⟩ : ∃ t : Nat, t = e2 / 16 % 2 := ⟨_, rfl⟩
  have ib16_2 : (e2 : Int) / 16 % 2 = (tb16_2 : Int) := by rw [htb16_2]; rfl
  have jb16_2 : Int.tmod (Int.tdiv (e2 : Int) 16) 2 = (tb16_2 : Int) := by rw [htb16_2]; rfl
  have ub16_2 : wrap64 ((e2 : Int) / 16) = (e2 : Int) / 16 := wrapQ e2 16 lb
  have kb16_2 : Int.tmod ((e2 : Int) / 16) 2 = (tb16_2 : Int) := by rw [htb16_2]; rfl
  have fb16_20 : (tb16_2 : Int) = 0 := eq_cast (c := 0) (by rw [htb16_2]; exact b16_2)
  have gb16_20 : ((tb16_2 : Int) == 0) = true := beq_iff_eq.2 fb16_20
  have nb16_20 : ((tb16_2 : Int) != 0) = false := bne_eq_false_iff_eq.2 fb16_20
  have fb16_21 : ¬ (tb16_2 : Int) = 1 := ne_cast (c := 1) (by rw [htb16_2]; rw [b16_2]; decide)
  have gb16_21 : ((tb16_2 : Int) == 1) = false := beq_eq_false_iff_ne.2 fb16_21
  have nb16_21 : ((tb16_2 : Int) != 1) = true := bne_iff_ne.2 fb16_21
  clear b16_2 htb16_2
  clear lb
  go_wp2_with fail
  all_goals
    go_ret2
    exact ⟨rfl, HO3.out⟩
set_option maxRecDepth 100000 in
set_option maxHeartbeats 2000000 in
theorem rw2_tXa {w : World} {br bb n : Nat} {f : Nat → UInt8} (h : RefAt w br bb n f) (r : Nat) (hr : r < n) (va : Nat) (hva : va < 4294967296) (e1 : Nat) (he1 : wordF f (4096 * r + 4 * (va / 4194304)) = e1) (a1_2 : e1 % 2 = 1) (a2_8 : e1 / 2 % 8 = 0) (a16_2 : e1 / 16 % 2 = 0) (a64_4 : e1 / 64 % 4 = 0) (hn2 : e1 / 1024 < n) (e2 : Nat) (he2 : wordF f (4096 * (e1 / 1024) + 4 * (va % 4194304 / 4096)) = e2) (b2_2 : e2 / 2 % 2 = 0) (b8_2 : e2 / 8 % 2 = 1) (b1_2 : e2 % 2 = 1) (b2_4 : e2 / 2 % 4 ≠ 2) (b4_2 : e2 / 4 % 2 = 1) (b16_2 : e2 / 16 % 2 = 1) (b64_2 : e2 / 64 % 2 = 0) :
    Calls Tryd.prog 51 #[.pointer (some ⟨br, 0, none⟩), .int .i64 (r : Int), .int .i64 (va : Int), .int .i64 2] w fun x w' => x = .returned (.tuple #[.int .i64 0, .int .i64 15]) ∧ Only (fun _ => False) w w' := by
  have Ha1_2 := Vx.hid a1_2
  have Ha2_8 := Vx.hid a2_8
  have Ha16_2 := Vx.hid a16_2
  have Ha64_4 := Vx.hid a64_4
  clear a1_2 a2_8 a16_2 a64_4
  have Hb2_2 := Vx.hid b2_2
  have Hb8_2 := Vx.hid b8_2
  have Hb1_2 := Vx.hid b1_2
  have Hb2_4 := Vx.hid b2_4
  have Hb4_2 := Vx.hid b4_2
  have Hb16_2 := Vx.hid b16_2
  have Hb64_2 := Vx.hid b64_2
  clear b2_2 b8_2 b1_2 b2_4 b4_2 b16_2 b64_2
  have HN2 := Vx.hid hn2
  clear hn2
  have HK2 : Hid (va % 4194304 / 4096 < 1024) := by show va % 4194304 / 4096 < 1024; omega
  have hn := h.top
  have hk1 : va / 4194304 < 1024 := by omega
  have l1 : e1 < 4294967296 := by rw [← he1]; exact wordF_lt _ _
  have HRW := Vx.hid (refWord_any h ((4096 * r + 4 * (va / 4194304) : Nat) : Int))
  rw [wordR_in f n r (va / 4194304) hr hk1, he1] at HRW
  obtain ⟨pl, hpl⟩ : ∃ p : Nat, p = 4096 * r + 4 * (va / 4194304) := ⟨_, rfl⟩
  rw [← hpl] at HRW
  have v1 : wrap64 ((va : Int) / 4194304) = (va : Int) / 4194304 := by simp only [wrap64]; omega
  have v2 : wrap64 ((va : Int) / 4194304 * 4) = (va : Int) / 4194304 * 4 := by simp only [wrap64]; omega
  have v3 : wrap64 (pl : Int) = (pl : Int) := by simp only [wrap64]; omega
  have e3 : 4096 * (r : Int) + (va : Int) / 4194304 * 4 = (pl : Int) := by omega
  have rb : (r : Int) ≤ 255 := by omega
  have dr1 : decide ((r : Int) < 0) = false := decide_eq_false (by omega)
  have dr2 : ¬ 255 < (r : Int) := by omega
  have HE1 := Vx.hid l1
  have HVA := Vx.hid hva
  have HNN := Vx.hid hn
  have HR2 := Vx.hid (fun wv (hv : Only (fun _ => False) w wv) => refWord_any (h.only hv (fun h => h) (fun h => h)) ((4096 * (e1 / 1024) + 4 * (va % 4194304 / 4096) : Nat) : Int))
  rw [wordR_in f n (e1 / 1024) (va % 4194304 / 4096) HN2.out HK2.out, he2] at HR2
  have l2 : e2 < 4294967296 := by rw [← he2]; exact wordF_lt _ _
  have HE2 := Vx.hid l2
  obtain ⟨pl2, hpl2⟩ : ∃ p : Nat, p = 4096 * (e1 / 1024) + 4 * (va % 4194304 / 4096) := ⟨_, rfl⟩
  rw [← hpl2] at HR2
  have HP2 := Vx.hid hpl2
  clear h hn hk1 l1 hpl he1 hr hva hpl2 he2 l2
  go_enter Tryd.func51, Tryd.ntmps51
  go_upto_region 14 with fail
  go_wp2_with fail
  refine HRW.out.mono ?_
  rintro e w2 ⟨rfl, ho⟩
  have HO := Vx.hid ho
  clear ho e3 v1 v2 v3 rb HRW
  go_upto_region 18 with fail
  have lb := HE1.out
  have a1_2 := Ha1_2.out
  obtain ⟨ta1_2, hta1_2⟩ : ∃ t : Nat, t = e1 % 2 := ⟨_, rfl⟩
  have ia1_2 : (e1 : Int) % 2 = (ta1_2 : Int) := by rw [hta1_2]; rfl
  have ja1_2 : Int.tmod (e1 : Int) 2 = (ta1_2 : Int) := by rw [hta1_2]; rfl
  have fa1_20 : ¬ (ta1_2 : Int) = 0 := ne_cast (c := 0) (by rw [hta1_2]; rw [a1_2]; decide)
  have ga1_20 : ((ta1_2 : Int) == 0) = false := beq_eq_false_iff_ne.2 fa1_20
  have na1_20 : ((ta1_2 : Int) != 0) = true := bne_iff_ne.2 fa1_20
  have fa1_21 : (ta1_2 : Int) = 1 := eq_cast (c := 1) (by rw [hta1_2]; exact a1_2)
  have ga1_21 : ((ta1_2 : Int) == 1) = true := beq_iff_eq.2 fa1_21
  have na1_21 : ((ta1_2 : Int) != 1) = false := bne_eq_false_iff_eq.2 fa1_21
  clear a1_2 hta1_2
  have a2_8 := Ha2_8.out
  obtain ⟨ta2_8, hta2_8⟩ : ∃ t : Nat, t = e1 / 2 % 8 := ⟨_, rfl⟩
  have ia2_8 : (e1 : Int) / 2 % 8 = (ta2_8 : Int) := by rw [hta2_8]; rfl
  have ja2_8 : Int.tmod (Int.tdiv (e1 : Int) 2) 8 = (ta2_8 : Int) := by rw [hta2_8]; rfl
  have ua2_8 : wrap64 ((e1 : Int) / 2) = (e1 : Int) / 2 := wrapQ e1 2 lb
  have ka2_8 : Int.tmod ((e1 : Int) / 2) 8 = (ta2_8 : Int) := by rw [hta2_8]; rfl
  have fa2_80 : (ta2_8 : Int) = 0 := eq_cast (c := 0) (by rw [hta2_8]; exact a2_8)
  have ga2_80 : ((ta2_8 : Int) == 0) = true := beq_iff_eq.2 fa2_80
  have na2_80 : ((ta2_8 : Int) != 0) = false := bne_eq_false_iff_eq.2 fa2_80
  clear a2_8 hta2_8
  have a16_2 := Ha16_2.out
  obtain ⟨ta16_2, hta16_2⟩ : ∃ t : Nat, t = e1 / 16 % 2 := ⟨_, rfl⟩
  have ia16_2 : (e1 : Int) / 16 % 2 = (ta16_2 : Int) := by rw [hta16_2]; rfl
  have ja16_2 : Int.tmod (Int.tdiv (e1 : Int) 16) 2 = (ta16_2 : Int) := by rw [hta16_2]; rfl
  have ua16_2 : wrap64 ((e1 : Int) / 16) = (e1 : Int) / 16 := wrapQ e1 16 lb
  have ka16_2 : Int.tmod ((e1 : Int) / 16) 2 = (ta16_2 : Int) := by rw [hta16_2]; rfl
  have fa16_20 : (ta16_2 : Int) = 0 := eq_cast (c := 0) (by rw [hta16_2]; exact a16_2)
  have ga16_20 : ((ta16_2 : Int) == 0) = true := beq_iff_eq.2 fa16_20
  have na16_20 : ((ta16_2 : Int) != 0) = false := bne_eq_false_iff_eq.2 fa16_20
  have fa16_21 : ¬ (ta16_2 : Int) = 1 := ne_cast (c := 1) (by rw [hta16_2]; rw [a16_2]; decide)
  have ga16_21 : ((ta16_2 : Int) == 1) = false := beq_eq_false_iff_ne.2 fa16_21
  have na16_21 : ((ta16_2 : Int) != 1) = true := bne_iff_ne.2 fa16_21
  clear a16_2 hta16_2
  have a64_4 := Ha64_4.out
  obtain ⟨ta64_4, hta64_4⟩ : ∃ t : Nat, t = e1 / 64 % 4 := ⟨_, rfl⟩
  have ia64_4 : (e1 : Int) / 64 % 4 = (ta64_4 : Int) := by rw [hta64_4]; rfl
  have ja64_4 : Int.tmod (Int.tdiv (e1 : Int) 64) 4 = (ta64_4 : Int) := by rw [hta64_4]; rfl
  have ua64_4 : wrap64 ((e1 : Int) / 64) = (e1 : Int) / 64 := wrapQ e1 64 lb
  have ka64_4 : Int.tmod ((e1 : Int) / 64) 4 = (ta64_4 : Int) := by rw [hta64_4]; rfl
  have fa64_40 : (ta64_4 : Int) = 0 := eq_cast (c := 0) (by rw [hta64_4]; exact a64_4)
  have ga64_40 : ((ta64_4 : Int) == 0) = true := beq_iff_eq.2 fa64_40
  have na64_40 : ((ta64_4 : Int) != 0) = false := bne_eq_false_iff_eq.2 fa64_40
  clear a64_4 hta64_4
  clear lb
  go_upto_region 19 with fail
  clear ia1_2 ja1_2 fa1_20 ga1_20 na1_20 fa1_21 ga1_21 na1_21 ia2_8 ja2_8 ua2_8 ka2_8 fa2_80 ga2_80 na2_80 ia16_2 ja16_2 ua16_2 ka16_2 fa16_20 ga16_20 na16_20 fa16_21 ga16_21 na16_21 ia64_4 ja64_4 ua64_4 ka64_4 fa64_40 ga64_40 na64_40
  have lb := HE1.out
  have lv := HVA.out
  have lp := HP2.out
  obtain ⟨g, hg⟩ : ∃ g : Nat, g = e1 / 1024 := ⟨_, rfl⟩
  obtain ⟨k2, hk2⟩ : ∃ k : Nat, k = va / 4096 % 1024 := ⟨_, rfl⟩
  have ep : (g : Int) * 4096 + (k2 : Int) * 4 = (pl2 : Int) := lead_eq e1 va pl2 g k2 hg hk2 lp
  have vp : wrap64 (pl2 : Int) = (pl2 : Int) := lead_wrap e1 va pl2 lb lp
  have x0 : (e1 : Int) / 1024 = (g : Int) := by rw [hg]; rfl
  obtain ⟨x1, x2⟩ := wrapG e1 g lb hg
  have x3 : wrap64 ((va : Int) / 4096) = (va : Int) / 4096 := wrapQ va 4096 lv
  have x4 : Int.tmod ((va : Int) / 4096) 1024 = (k2 : Int) := by rw [hk2]; rfl
  have x6 : (va : Int) / 4096 % 1024 = (k2 : Int) := by rw [hk2]; rfl
  have x5 := wrapK va k2 hk2
  clear hg hk2
  clear lb lv lp
  go_wp2_with fail
  refine (HR2.out w2 HO.out).mono ?_
  rintro e w3 ⟨rfl, ho⟩
  have HO3 := Vx.hid (HO.out.trans ho)
  clear ho ep vp x0 x1 x2 x3 x4 x5 x6 HR2
  go_upto_region 23 with fail
  have lb := HE2.out
  have b2_2 := Hb2_2.out
  obtain ⟨tb2_2, htb2_2⟩ : ∃ t : Nat, t = e2 / 2 % 2 := ⟨_, rfl⟩
  have ib2_2 : (e2 : Int) / 2 % 2 = (tb2_2 : Int) := by rw [htb2_2]; rfl
  have jb2_2 : Int.tmod (Int.tdiv (e2 : Int) 2) 2 = (tb2_2 : Int) := by rw [htb2_2]; rfl
  have ub2_2 : wrap64 ((e2 : Int) / 2) = (e2 : Int) / 2 := wrapQ e2 2 lb
  have kb2_2 : Int.tmod ((e2 : Int) / 2) 2 = (tb2_2 : Int) := by rw [htb2_2]; rfl
  have fb2_20 : (tb2_2 : Int) = 0 := eq_cast (c := 0) (by rw [htb2_2]; exact b2_2)
  have gb2_20 : ((tb2_2 : Int) == 0) = true := beq_iff_eq.2 fb2_20
  have nb2_20 : ((tb2_2 : Int) != 0) = false := bne_eq_false_iff_eq.2 fb2_20
  have fb2_21 : ¬ (tb2_2 : Int) = 1 := ne_cast (c := 1) (by rw [htb2_2]; rw [b2_2]; decide)
  have gb2_21 : ((tb2_2 : Int) == 1) = false := beq_eq_false_iff_ne.2 fb2_21
  have nb2_21 : ((tb2_2 : Int) != 1) = true := bne_iff_ne.2 fb2_21
  clear b2_2 htb2_2
  have b8_2 := Hb8_2.out
  obtain ⟨tb8_2, htb8_2⟩ : ∃ t : Nat, t = e2 / 8 % 2 := ⟨_, rfl⟩
  have ib8_2 : (e2 : Int) / 8 % 2 = (tb8_2 : Int) := by rw [htb8_2]; rfl
  have jb8_2 : Int.tmod (Int.tdiv (e2 : Int) 8) 2 = (tb8_2 : Int) := by rw [htb8_2]; rfl
  have ub8_2 : wrap64 ((e2 : Int) / 8) = (e2 : Int) / 8 := wrapQ e2 8 lb
  have kb8_2 : Int.tmod ((e2 : Int) / 8) 2 = (tb8_2 : Int) := by rw [htb8_2]; rfl
  have fb8_20 : ¬ (tb8_2 : Int) = 0 := ne_cast (c := 0) (by rw [htb8_2]; rw [b8_2]; decide)
  have gb8_20 : ((tb8_2 : Int) == 0) = false := beq_eq_false_iff_ne.2 fb8_20
  have nb8_20 : ((tb8_2 : Int) != 0) = true := bne_iff_ne.2 fb8_20
  have fb8_21 : (tb8_2 : Int) = 1 := eq_cast (c := 1) (by rw [htb8_2]; exact b8_2)
  have gb8_21 : ((tb8_2 : Int) == 1) = true := beq_iff_eq.2 fb8_21
  have nb8_21 : ((tb8_2 : Int) != 1) = false := bne_eq_false_iff_eq.2 fb8_21
  clear b8_2 htb8_2
  clear lb
  go_upto_region 24 with fail
  clear ib2_2 jb2_2 ub2_2 kb2_2 fb2_20 gb2_20 nb2_20 fb2_21 gb2_21 nb2_21 ib8_2 jb8_2 ub8_2 kb8_2 fb8_20 gb8_20 nb8_20 fb8_21 gb8_21 nb8_21
  have lb := HE2.out
  have b1_2 := Hb1_2.out
  obtain ⟨tb1_2, htb1_2⟩ : ∃ t : Nat, t = e2 % 2 := ⟨_, rfl⟩
  have ib1_2 : (e2 : Int) % 2 = (tb1_2 : Int) := by rw [htb1_2]; rfl
  have jb1_2 : Int.tmod (e2 : Int) 2 = (tb1_2 : Int) := by rw [htb1_2]; rfl
  have fb1_20 : ¬ (tb1_2 : Int) = 0 := ne_cast (c := 0) (by rw [htb1_2]; rw [b1_2]; decide)
  have gb1_20 : ((tb1_2 : Int) == 0) = false := beq_eq_false_iff_ne.2 fb1_20
  have nb1_20 : ((tb1_2 : Int) != 0) = true := bne_iff_ne.2 fb1_20
  have fb1_21 : (tb1_2 : Int) = 1 := eq_cast (c := 1) (by rw [htb1_2]; exact b1_2)
  have gb1_21 : ((tb1_2 : Int) == 1) = true := beq_iff_eq.2 fb1_21
  have nb1_21 : ((tb1_2 : Int) != 1) = false := bne_eq_false_iff_eq.2 fb1_21
  clear b1_2 htb1_2
  have b2_4 := Hb2_4.out
  obtain ⟨tb2_4, htb2_4⟩ : ∃ t : Nat, t = e2 / 2 % 4 := ⟨_, rfl⟩
  have ib2_4 : (e2 : Int) / 2 % 4 = (tb2_4 : Int) := by rw [htb2_4]; rfl
  have jb2_4 : Int.tmod (Int.tdiv (e2 : Int) 2) 4 = (tb2_4 : Int) := by rw [htb2_4]; rfl
  have ub2_4 : wrap64 ((e2 : Int) / 2) = (e2 : Int) / 2 := wrapQ e2 2 lb
  have kb2_4 : Int.tmod ((e2 : Int) / 2) 4 = (tb2_4 : Int) := by rw [htb2_4]; rfl
  have fb2_42 : ¬ (tb2_4 : Int) = 2 := ne_cast (c := 2) (by rw [htb2_4]; exact b2_4)
  have gb2_42 : ((tb2_4 : Int) == 2) = false := beq_eq_false_iff_ne.2 fb2_42
  have nb2_42 : ((tb2_4 : Int) != 2) = true := bne_iff_ne.2 fb2_42
  clear b2_4 htb2_4
  have b4_2 := Hb4_2.out
  obtain ⟨tb4_2, htb4_2⟩ : ∃ t : Nat, t = e2 / 4 % 2 := ⟨_, rfl⟩
  have ib4_2 : (e2 : Int) / 4 % 2 = (tb4_2 : Int) := by rw [htb4_2]; rfl
  have jb4_2 : Int.tmod (Int.tdiv (e2 : Int) 4) 2 = (tb4_2 : Int) := by rw [htb4_2]; rfl
  have ub4_2 : wrap64 ((e2 : Int) / 4) = (e2 : Int) / 4 := wrapQ e2 4 lb
  have kb4_2 : Int.tmod ((e2 : Int) / 4) 2 = (tb4_2 : Int) := by rw [htb4_2]; rfl
  have fb4_20 : ¬ (tb4_2 : Int) = 0 := ne_cast (c := 0) (by rw [htb4_2]; rw [b4_2]; decide)
  have gb4_20 : ((tb4_2 : Int) == 0) = false := beq_eq_false_iff_ne.2 fb4_20
  have nb4_20 : ((tb4_2 : Int) != 0) = true := bne_iff_ne.2 fb4_20
  have fb4_21 : (tb4_2 : Int) = 1 := eq_cast (c := 1) (by rw [htb4_2]; exact b4_2)
  have gb4_21 : ((tb4_2 : Int) == 1) = true := beq_iff_eq.2 fb4_21
  have nb4_21 : ((tb4_2 : Int) != 1) = false := bne_eq_false_iff_eq.2 fb4_21
  clear b4_2 htb4_2
  have b16_2 := Hb16_2.out
  obtain ⟨tb16_2, htb16_2⟩ : ∃ t : Nat, t = e2 / 16 % 2 := ⟨_, rfl⟩
  have ib16_2 : (e2 : Int) / 16 % 2 = (tb16_2 : Int) := by rw [htb16_2]; rfl
  have jb16_2 : Int.tmod (Int.tdiv (e2 : Int) 16) 2 = (tb16_2 : Int) := by rw [htb16_2]; rfl
  have ub16_2 : wrap64 ((e2 : Int) / 16) = (e2 : Int) / 16 := wrapQ e2 16 lb
  have kb16_2 : Int.tmod ((e2 : Int) / 16) 2 = (tb16_2 : Int) := by rw [htb16_2]; rfl
  have fb16_20 : ¬ (tb16_2 : Int) = 0 := ne_cast (c := 0) (by rw [htb16_2]; rw [b16_2]; decide)
  have gb16_20 : ((tb16_2 : Int) == 0) = false := beq_eq_false_iff_ne.2 fb16_20
  have nb16_20 : ((tb16_2 : Int) != 0) = true := bne_iff_ne.2 fb16_20
  have fb16_21 : (tb16_2 : Int) = 1 := eq_cast (c := 1) (by rw [htb16_2]; exact b16_2)
  have gb16_21 : ((tb16_2 : Int) == 1) = true := beq_iff_eq.2 fb16_21
  have nb16_21 : ((tb16_2 : Int) != 1) = false := bne_eq_false_iff_eq.2 fb16_21
  clear b16_2 htb16_2
  have b64_2 := Hb64_2.out
  obtain ⟨tb64_2, htb64_2⟩ : ∃ t : Nat, t = e2 / 64 % 2 := ⟨_, rfl⟩
  have ib64_2 : (e2 : Int) / 64 % 2 = (tb64_2 : Int) := by rw [htb64_2]; rfl
  have jb64_2 : Int.tmod (Int.tdiv (e2 : Int) 64) 2 = (tb64_2 : Int) := by rw [htb64_2]; rfl
  have ub64_2 : wrap64 ((e2 : Int) / 64) = (e2 : Int) / 64 := wrapQ e2 64 lb
  have kb64_2 : Int.tmod ((e2 : Int) / 64) 2 = (tb64_2 : Int) := by rw [htb64_2]; rfl
  have fb64_20 : (tb64_2 : Int) = 0 := eq_cast (c := 0) (by rw [htb64_2]; exact b64_2)
  have gb64_20 : ((tb64_2 : Int) == 0) = true := beq_iff_eq.2 fb64_20
  have nb64_20 : ((tb64_2 : Int) != 0) = false := bne_eq_false_iff_eq.2 fb64_20
  have fb64_21 : ¬ (tb64_2 : Int) = 1 := ne_cast (c := 1) (by rw [htb64_2]; rw [b64_2]; decide)
  have gb64_21 : ((tb64_2 : Int) == 1) = false := beq_eq_false_iff_ne.2 fb64_21
  have nb64_21 : ((tb64_2 : Int) != 1) = true := bne_iff_ne.2 fb64_21
  clear b64_2 htb64_2
  clear lb
  go_wp2_with fail
  all_goals
    go_ret2
    exact ⟨rfl, HO3.out⟩
set_option maxRecDepth 100000 in
set_option maxHeartbeats 2000000 in
theorem rw2_tXd {w : World} {br bb n : Nat} {f : Nat → UInt8} (h : RefAt w br bb n f) (r : Nat) (hr : r < n) (va : Nat) (hva : va < 4294967296) (e1 : Nat) (he1 : wordF f (4096 * r + 4 * (va / 4194304)) = e1) (a1_2 : e1 % 2 = 1) (a2_8 : e1 / 2 % 8 = 0) (a16_2 : e1 / 16 % 2 = 0) (a64_4 : e1 / 64 % 4 = 0) (hn2 : e1 / 1024 < n) (e2 : Nat) (he2 : wordF f (4096 * (e1 / 1024) + 4 * (va % 4194304 / 4096)) = e2) (b2_2 : e2 / 2 % 2 = 0) (b8_2 : e2 / 8 % 2 = 1) (b1_2 : e2 % 2 = 1) (b2_4 : e2 / 2 % 4 ≠ 2) (b4_2 : e2 / 4 % 2 = 1) (b16_2 : e2 / 16 % 2 = 1) (b64_2 : e2 / 64 % 2 = 1) (b128_2 : e2 / 128 % 2 = 0) :
    Calls Tryd.prog 51 #[.pointer (some ⟨br, 0, none⟩), .int .i64 (r : Int), .int .i64 (va : Int), .int .i64 2] w fun x w' => x = .returned (.tuple #[.int .i64 0, .int .i64 15]) ∧ Only (fun _ => False) w w' := by
  have Ha1_2 := Vx.hid a1_2
  have Ha2_8 := Vx.hid a2_8
  have Ha16_2 := Vx.hid a16_2
  have Ha64_4 := Vx.hid a64_4
  clear a1_2 a2_8 a16_2 a64_4
  have Hb2_2 := Vx.hid b2_2
  have Hb8_2 := Vx.hid b8_2
  have Hb1_2 := Vx.hid b1_2
  have Hb2_4 := Vx.hid b2_4
  have Hb4_2 := Vx.hid b4_2
  have Hb16_2 := Vx.hid b16_2
  have Hb64_2 := Vx.hid b64_2
  have Hb128_2 := Vx.hid b128_2
  clear b2_2 b8_2 b1_2 b2_4 b4_2 b16_2 b64_2 b128_2
  have HN2 := Vx.hid hn2
  clear hn2
  have HK2 : Hid (va % 4194304 / 4096 < 1024) := by show va % 4194304 / 4096 < 1024; omega
  have hn := h.top
  have hk1 : va / 4194304 < 1024 := by omega
  have l1 : e1 < 4294967296 := by rw [← he1]; exact wordF_lt _ _
  have HRW := Vx.hid (refWord_any h ((4096 * r + 4 * (va / 4194304) : Nat) : Int))
  rw [wordR_in f n r (va / 4194304) hr hk1, he1] at HRW
  obtain ⟨pl, hpl⟩ : ∃ p : Nat, p = 4096 * r + 4 * (va / 4194304) := ⟨_, rfl⟩
  rw [← hpl] at HRW
  have v1 : wrap64 ((va : Int) / 4194304) = (va : Int) / 4194304 := by simp only [wrap64]; omega
  have v2 : wrap64 ((va : Int) / 4194304 * 4) = (va : Int) / 4194304 * 4 := by simp only [wrap64]; omega
  have v3 : wrap64 (pl : Int) = (pl : Int) := by simp only [wrap64]; omega
  have e3 : 4096 * (r : Int) + (va : Int) / 4194304 * 4 = (pl : Int) := by omega
  have rb : (r : Int) ≤ 255 := by omega
  have dr1 : decide ((r : Int) < 0) = false := decide_eq_false (by omega)
  have dr2 : ¬ 255 < (r : Int) := by omega
  have HE1 := Vx.hid l1
  have HVA := Vx.hid hva
  have HNN := Vx.hid hn
  have HR2 := Vx.hid (fun wv (hv : Only (fun _ => False) w wv) => refWord_any (h.only hv (fun h => h) (fun h => h)) ((4096 * (e1 / 1024) + 4 * (va % 4194304 / 4096) : Nat) : Int))
  rw [wordR_in f n (e1 / 1024) (va % 4194304 / 4096) HN2.out HK2.out, he2] at HR2
  have l2 : e2 < 4294967296 := by rw [← he2]; exact wordF_lt _ _
  have HE2 := Vx.hid l2
  obtain ⟨pl2, hpl2⟩ : ∃ p : Nat, p = 4096 * (e1 / 1024) + 4 * (va % 4194304 / 4096) := ⟨_, rfl⟩
  rw [← hpl2] at HR2
  have HP2 := Vx.hid hpl2
  clear h hn hk1 l1 hpl he1 hr hva hpl2 he2 l2
  go_enter Tryd.func51, Tryd.ntmps51
  go_upto_region 14 with fail
  go_wp2_with fail
  refine HRW.out.mono ?_
  rintro e w2 ⟨rfl, ho⟩
  have HO := Vx.hid ho
  clear ho e3 v1 v2 v3 rb HRW
  go_upto_region 18 with fail
  have lb := HE1.out
  have a1_2 := Ha1_2.out
  obtain ⟨ta1_2, hta1_2⟩ : ∃ t : Nat, t = e1 % 2 := ⟨_, rfl⟩
  have ia1_2 : (e1 : Int) % 2 = (ta1_2 : Int) := by rw [hta1_2]; rfl
  have ja1_2 : Int.tmod (e1 : Int) 2 = (ta1_2 : Int) := by rw [hta1_2]; rfl
  have fa1_20 : ¬ (ta1_2 : Int) = 0 := ne_cast (c := 0) (by rw [hta1_2]; rw [a1_2]; decide)
  have ga1_20 : ((ta1_2 : Int) == 0) = false := beq_eq_false_iff_ne.2 fa1_20
  have na1_20 : ((ta1_2 : Int) != 0) = true := bne_iff_ne.2 fa1_20
  have fa1_21 : (ta1_2 : Int) = 1 := eq_cast (c := 1) (by rw [hta1_2]; exact a1_2)
  have ga1_21 : ((ta1_2 : Int) == 1) = true := beq_iff_eq.2 fa1_21
  have na1_21 : ((ta1_2 : Int) != 1) = false := bne_eq_false_iff_eq.2 fa1_21
  clear a1_2 hta1_2
  have a2_8 := Ha2_8.out
  obtain ⟨ta2_8, hta2_8⟩ : ∃ t : Nat, t = e1 / 2 % 8 := ⟨_, rfl⟩
  have ia2_8 : (e1 : Int) / 2 % 8 = (ta2_8 : Int) := by rw [hta2_8]; rfl
  have ja2_8 : Int.tmod (Int.tdiv (e1 : Int) 2) 8 = (ta2_8 : Int) := by rw [hta2_8]; rfl
  have ua2_8 : wrap64 ((e1 : Int) / 2) = (e1 : Int) / 2 := wrapQ e1 2 lb
  have ka2_8 : Int.tmod ((e1 : Int) / 2) 8 = (ta2_8 : Int) := by rw [hta2_8]; rfl
  have fa2_80 : (ta2_8 : Int) = 0 := eq_cast (c := 0) (by rw [hta2_8]; exact a2_8)
  have ga2_80 : ((ta2_8 : Int) == 0) = true := beq_iff_eq.2 fa2_80
  have na2_80 : ((ta2_8 : Int) != 0) = false := bne_eq_false_iff_eq.2 fa2_80
  clear a2_8 hta2_8
  have a16_2 := Ha16_2.out
  obtain ⟨ta16_2, hta16_2⟩ : ∃ t : Nat, t = e1 / 16 % 2 := ⟨_, rfl⟩
  have ia16_2 : (e1 : Int) / 16 % 2 = (ta16_2 : Int) := by rw [hta16_2]; rfl
  have ja16_2 : Int.tmod (Int.tdiv (e1 : Int) 16) 2 = (ta16_2 : Int) := by rw [hta16_2]; rfl
  have ua16_2 : wrap64 ((e1 : Int) / 16) = (e1 : Int) / 16 := wrapQ e1 16 lb
  have ka16_2 : Int.tmod ((e1 : Int) / 16) 2 = (ta16_2 : Int) := by rw [hta16_2]; rfl
  have fa16_20 : (ta16_2 : Int) = 0 := eq_cast (c := 0) (by rw [hta16_2]; exact a16_2)
  have ga16_20 : ((ta16_2 : Int) == 0) = true := beq_iff_eq.2 fa16_20
  have na16_20 : ((ta16_2 : Int) != 0) = false := bne_eq_false_iff_eq.2 fa16_20
  have fa16_21 : ¬ (ta16_2 : Int) = 1 := ne_cast (c := 1) (by rw [hta16_2]; rw [a16_2]; decide)
  have ga16_21 : ((ta16_2 : Int) == 1) = false := beq_eq_false_iff_ne.2 fa16_21
  have na16_21 : ((ta16_2 : Int) != 1) = true := bne_iff_ne.2 fa16_21
  clear a16_2 hta16_2
  have a64_4 := Ha64_4.out
  obtain ⟨ta64_4, hta64_4⟩ : ∃ t : Nat, t = e1 / 64 % 4 := ⟨_, rfl⟩
  have ia64_4 : (e1 : Int) / 64 % 4 = (ta64_4 : Int) := by rw [hta64_4]; rfl
  have ja64_4 : Int.tmod (Int.tdiv (e1 : Int) 64) 4 = (ta64_4 : Int) := by rw [hta64_4]; rfl
  have ua64_4 : wrap64 ((e1 : Int) / 64) = (e1 : Int) / 64 := wrapQ e1 64 lb
  have ka64_4 : Int.tmod ((e1 : Int) / 64) 4 = (ta64_4 : Int) := by rw [hta64_4]; rfl
  have fa64_40 : (ta64_4 : Int) = 0 := eq_cast (c := 0) (by rw [hta64_4]; exact a64_4)
  have ga64_40 : ((ta64_4 : Int) == 0) = true := beq_iff_eq.2 fa64_40
  have na64_40 : ((ta64_4 : Int) != 0) = false := bne_eq_false_iff_eq.2 fa64_40
  clear a64_4 hta64_4
  clear lb
  go_upto_region 19 with fail
  clear ia1_2 ja1_2 fa1_20 ga1_20 na1_20 fa1_21 ga1_21 na1_21 ia2_8 ja2_8 ua2_8 ka2_8 fa2_80 ga2_80 na2_80 ia16_2 ja16_2 ua16_2 ka16_2 fa16_20 ga16_20 na16_20 fa16_21 ga16_21 na16_21 ia64_4 ja64_4 ua64_4 ka64_4 fa64_40 ga64_40 na64_40
  have lb := HE1.out
  have lv := HVA.out
  have lp := HP2.out
  obtain ⟨g, hg⟩ : ∃ g : Nat, g = e1 / 1024 := ⟨_, rfl⟩
  obtain ⟨k2, hk2⟩ : ∃ k : Nat, k = va / 4096 % 1024 := ⟨_, rfl⟩
  have ep : (g : Int) * 4096 + (k2 : Int) * 4 = (pl2 : Int) := lead_eq e1 va pl2 g k2 hg hk2 lp
  have vp : wrap64 (pl2 : Int) = (pl2 : Int) := lead_wrap e1 va pl2 lb lp
  have x0 : (e1 : Int) / 1024 = (g : Int) := by rw [hg]; rfl
  obtain ⟨x1, x2⟩ := wrapG e1 g lb hg
  have x3 : wrap64 ((va : Int) / 4096) = (va : Int) / 4096 := wrapQ va 4096 lv
  have x4 : Int.tmod ((va : Int) / 4096) 1024 = (k2 : Int) := by rw [hk2]; rfl
  have x6 : (va : Int) / 4096 % 1024 = (k2 : Int) := by rw [hk2]; rfl
  have x5 := wrapK va k2 hk2
  clear hg hk2
  clear lb lv lp
  go_wp2_with fail
  refine (HR2.out w2 HO.out).mono ?_
  rintro e w3 ⟨rfl, ho⟩
  have HO3 := Vx.hid (HO.out.trans ho)
  clear ho ep vp x0 x1 x2 x3 x4 x5 x6 HR2
  go_upto_region 23 with fail
  have lb := HE2.out
  have b2_2 := Hb2_2.out
  obtain ⟨tb2_2, htb2_2⟩ : ∃ t : Nat, t = e2 / 2 % 2 := ⟨_, rfl⟩
  have ib2_2 : (e2 : Int) / 2 % 2 = (tb2_2 : Int) := by rw [htb2_2]; rfl
  have jb2_2 : Int.tmod (Int.tdiv (e2 : Int) 2) 2 = (tb2_2 : Int) := by rw [htb2_2]; rfl
  have ub2_2 : wrap64 ((e2 : Int) / 2) = (e2 : Int) / 2 := wrapQ e2 2 lb
  have kb2_2 : Int.tmod ((e2 : Int) / 2) 2 = (tb2_2 : Int) := by rw [htb2_2]; rfl
  have fb2_20 : (tb2_2 : Int) = 0 := eq_cast (c := 0) (by rw [htb2_2]; exact b2_2)
  have gb2_20 : ((tb2_2 : Int) == 0) = true := beq_iff_eq.2 fb2_20
  have nb2_20 : ((tb2_2 : Int) != 0) = false := bne_eq_false_iff_eq.2 fb2_20
  have fb2_21 : ¬ (tb2_2 : Int) = 1 := ne_cast (c := 1) (by rw [htb2_2]; rw [b2_2]; decide)
  have gb2_21 : ((tb2_2 : Int) == 1) = false := beq_eq_false_iff_ne.2 fb2_21
  have nb2_21 : ((tb2_2 : Int) != 1) = true := bne_iff_ne.2 fb2_21
  clear b2_2 htb2_2
  have b8_2 := Hb8_2.out
  obtain ⟨tb8_2, htb8_2⟩ : ∃ t : Nat, t = e2 / 8 % 2 := ⟨_, rfl⟩
  have ib8_2 : (e2 : Int) / 8 % 2 = (tb8_2 : Int) := by rw [htb8_2]; rfl
  have jb8_2 : Int.tmod (Int.tdiv (e2 : Int) 8) 2 = (tb8_2 : Int) := by rw [htb8_2]; rfl
  have ub8_2 : wrap64 ((e2 : Int) / 8) = (e2 : Int) / 8 := wrapQ e2 8 lb
  have kb8_2 : Int.tmod ((e2 : Int) / 8) 2 = (tb8_2 : Int) := by rw [htb8_2]; rfl
  have fb8_20 : ¬ (tb8_2 : Int) = 0 := ne_cast (c := 0) (by rw [htb8_2]; rw [b8_2]; decide)
  have gb8_20 : ((tb8_2 : Int) == 0) = false := beq_eq_false_iff_ne.2 fb8_20
  have nb8_20 : ((tb8_2 : Int) != 0) = true := bne_iff_ne.2 fb8_20
  have fb8_21 : (tb8_2 : Int) = 1 := eq_cast (c := 1) (by rw [htb8_2]; exact b8_2)
  have gb8_21 : ((tb8_2 : Int) == 1) = true := beq_iff_eq.2 fb8_21
  have nb8_21 : ((tb8_2 : Int) != 1) = false := bne_eq_false_iff_eq.2 fb8_21
  clear b8_2 htb8_2
  clear lb
  go_upto_region 24 with fail
  clear ib2_2 jb2_2 ub2_2 kb2_2 fb2_20 gb2_20 nb2_20 fb2_21 gb2_21 nb2_21 ib8_2 jb8_2 ub8_2 kb8_2 fb8_20 gb8_20 nb8_20 fb8_21 gb8_21 nb8_21
  have lb := HE2.out
  have b1_2 := Hb1_2.out
  obtain ⟨tb1_2, htb1_2⟩ : ∃ t : Nat, t = e2 % 2 := ⟨_, rfl⟩
  have ib1_2 : (e2 : Int) % 2 = (tb1_2 : Int) := by rw [htb1_2]; rfl
  have jb1_2 : Int.tmod (e2 : Int) 2 = (tb1_2 : Int) := by rw [htb1_2]; rfl
  have fb1_20 : ¬ (tb1_2 : Int) = 0 := ne_cast (c := 0) (by rw [htb1_2]; rw [b1_2]; decide)
  have gb1_20 : ((tb1_2 : Int) == 0) = false := beq_eq_false_iff_ne.2 fb1_20
  have nb1_20 : ((tb1_2 : Int) != 0) = true := bne_iff_ne.2 fb1_20
  have fb1_21 : (tb1_2 : Int) = 1 := eq_cast (c := 1) (by rw [htb1_2]; exact b1_2)
  have gb1_21 : ((tb1_2 : Int) == 1) = true := beq_iff_eq.2 fb1_21
  have nb1_21 : ((tb1_2 : Int) != 1) = false := bne_eq_false_iff_eq.2 fb1_21
  clear b1_2 htb1_2
  have b2_4 := Hb2_4.out
  obtain ⟨tb2_4, htb2_4⟩ : ∃ t : Nat, t = e2 / 2 % 4 := ⟨_, rfl⟩
  have ib2_4 : (e2 : Int) / 2 % 4 = (tb2_4 : Int) := by rw [htb2_4]; rfl
  have jb2_4 : Int.tmod (Int.tdiv (e2 : Int) 2) 4 = (tb2_4 : Int) := by rw [htb2_4]; rfl
  have ub2_4 : wrap64 ((e2 : Int) / 2) = (e2 : Int) / 2 := wrapQ e2 2 lb
  have kb2_4 : Int.tmod ((e2 : Int) / 2) 4 = (tb2_4 : Int) := by rw [htb2_4]; rfl
  have fb2_42 : ¬ (tb2_4 : Int) = 2 := ne_cast (c := 2) (by rw [htb2_4]; exact b2_4)
  have gb2_42 : ((tb2_4 : Int) == 2) = false := beq_eq_false_iff_ne.2 fb2_42
  have nb2_42 : ((tb2_4 : Int) != 2) = true := bne_iff_ne.2 fb2_42
  clear b2_4 htb2_4
  have b4_2 := Hb4_2.out
  obtain ⟨tb4_2, htb4_2⟩ : ∃ t : Nat, t = e2 / 4 % 2 := ⟨_, rfl⟩
  have ib4_2 : (e2 : Int) / 4 % 2 = (tb4_2 : Int) := by rw [htb4_2]; rfl
  have jb4_2 : Int.tmod (Int.tdiv (e2 : Int) 4) 2 = (tb4_2 : Int) := by rw [htb4_2]; rfl
  have ub4_2 : wrap64 ((e2 : Int) / 4) = (e2 : Int) / 4 := wrapQ e2 4 lb
  have kb4_2 : Int.tmod ((e2 : Int) / 4) 2 = (tb4_2 : Int) := by rw [htb4_2]; rfl
  have fb4_20 : ¬ (tb4_2 : Int) = 0 := ne_cast (c := 0) (by rw [htb4_2]; rw [b4_2]; decide)
  have gb4_20 : ((tb4_2 : Int) == 0) = false := beq_eq_false_iff_ne.2 fb4_20
  have nb4_20 : ((tb4_2 : Int) != 0) = true := bne_iff_ne.2 fb4_20
  have fb4_21 : (tb4_2 : Int) = 1 := eq_cast (c := 1) (by rw [htb4_2]; exact b4_2)
  have gb4_21 : ((tb4_2 : Int) == 1) = true := beq_iff_eq.2 fb4_21
  have nb4_21 : ((tb4_2 : Int) != 1) = false := bne_eq_false_iff_eq.2 fb4_21
  clear b4_2 htb4_2
  have b16_2 := Hb16_2.out
  obtain ⟨tb16_2, htb16_2⟩ : ∃ t : Nat, t = e2 / 16 % 2 := ⟨_, rfl⟩
  have ib16_2 : (e2 : Int) / 16 % 2 = (tb16_2 : Int) := by rw [htb16_2]; rfl
  have jb16_2 : Int.tmod (Int.tdiv (e2 : Int) 16) 2 = (tb16_2 : Int) := by rw [htb16_2]; rfl
  have ub16_2 : wrap64 ((e2 : Int) / 16) = (e2 : Int) / 16 := wrapQ e2 16 lb
  have kb16_2 : Int.tmod ((e2 : Int) / 16) 2 = (tb16_2 : Int) := by rw [htb16_2]; rfl
  have fb16_20 : ¬ (tb16_2 : Int) = 0 := ne_cast (c := 0) (by rw [htb16_2]; rw [b16_2]; decide)
  have gb16_20 : ((tb16_2 : Int) == 0) = false := beq_eq_false_iff_ne.2 fb16_20
  have nb16_20 : ((tb16_2 : Int) != 0) = true := bne_iff_ne.2 fb16_20
  have fb16_21 : (tb16_2 : Int) = 1 := eq_cast (c := 1) (by rw [htb16_2]; exact b16_2)
  have gb16_21 : ((tb16_2 : Int) == 1) = true := beq_iff_eq.2 fb16_21
  have nb16_21 : ((tb16_2 : Int) != 1) = false := bne_eq_false_iff_eq.2 fb16_21
  clear b16_2 htb16_2
  have b64_2 := Hb64_2.out
  obtain ⟨tb64_2, htb64_2⟩ : ∃ t : Nat, t = e2 / 64 % 2 := ⟨_, rfl⟩
  have ib64_2 : (e2 : Int) / 64 % 2 = (tb64_2 : Int) := by rw [htb64_2]; rfl
  have jb64_2 : Int.tmod (Int.tdiv (e2 : Int) 64) 2 = (tb64_2 : Int) := by rw [htb64_2]; rfl
  have ub64_2 : wrap64 ((e2 : Int) / 64) = (e2 : Int) / 64 := wrapQ e2 64 lb
  have kb64_2 : Int.tmod ((e2 : Int) / 64) 2 = (tb64_2 : Int) := by rw [htb64_2]; rfl
  have fb64_20 : ¬ (tb64_2 : Int) = 0 := ne_cast (c := 0) (by rw [htb64_2]; rw [b64_2]; decide)
  have gb64_20 : ((tb64_2 : Int) == 0) = false := beq_eq_false_iff_ne.2 fb64_20
  have nb64_20 : ((tb64_2 : Int) != 0) = true := bne_iff_ne.2 fb64_20
  have fb64_21 : (tb64_2 : Int) = 1 := eq_cast (c := 1) (by rw [htb64_2]; exact b64_2)
  have gb64_21 : ((tb64_2 : Int) == 1) = true := beq_iff_eq.2 fb64_21
  have nb64_21 : ((tb64_2 : Int) != 1) = false := bne_eq_false_iff_eq.2 fb64_21
  clear b64_2 htb64_2
  have b128_2 := Hb128_2.out
  obtain ⟨tb128_2, htb128_2⟩ : ∃ t : Nat, t = e2 / 128 % 2 := ⟨_, rfl⟩
  have ib128_2 : (e2 : Int) / 128 % 2 = (tb128_2 : Int) := by rw [htb128_2]; rfl
  have jb128_2 : Int.tmod (Int.tdiv (e2 : Int) 128) 2 = (tb128_2 : Int) := by rw [htb128_2]; rfl
  have ub128_2 : wrap64 ((e2 : Int) / 128) = (e2 : Int) / 128 := wrapQ e2 128 lb
  have kb128_2 : Int.tmod ((e2 : Int) / 128) 2 = (tb128_2 : Int) := by rw [htb128_2]; rfl
  have fb128_20 : (tb128_2 : Int) = 0 := eq_cast (c := 0) (by rw [htb128_2]; exact b128_2)
  have gb128_20 : ((tb128_2 : Int) == 0) = true := beq_iff_eq.2 fb128_20
  have nb128_20 : ((tb128_2 : Int) != 0) = false := bne_eq_false_iff_eq.2 fb128_20
  have fb128_21 : ¬ (tb128_2 : Int) = 1 := ne_cast (c := 1) (by rw [htb128_2]; rw [b128_2]; decide)
  have gb128_21 : ((tb128_2 : Int) == 1) = false := beq_eq_false_iff_ne.2 fb128_21
  have nb128_21 : ((tb128_2 : Int) != 1) = true := bne_iff_ne.2 fb128_21
  clear b128_2 htb128_2
  clear lb
  go_wp2_with fail
  all_goals
    go_ret2
    exact ⟨rfl, HO3.out⟩
set_option maxRecDepth 100000 in
set_option maxHeartbeats 2000000 in
theorem rw2_tXo {w : World} {br bb n : Nat} {f : Nat → UInt8} (h : RefAt w br bb n f) (r : Nat) (hr : r < n) (va : Nat) (hva : va < 4294967296) (e1 : Nat) (he1 : wordF f (4096 * r + 4 * (va / 4194304)) = e1) (a1_2 : e1 % 2 = 1) (a2_8 : e1 / 2 % 8 = 0) (a16_2 : e1 / 16 % 2 = 0) (a64_4 : e1 / 64 % 4 = 0) (hn2 : e1 / 1024 < n) (e2 : Nat) (he2 : wordF f (4096 * (e1 / 1024) + 4 * (va % 4194304 / 4096)) = e2) (b2_2 : e2 / 2 % 2 = 0) (b8_2 : e2 / 8 % 2 = 1) (b1_2 : e2 % 2 = 1) (b2_4 : e2 / 2 % 4 ≠ 2) (b4_2 : e2 / 4 % 2 = 1) (b16_2 : e2 / 16 % 2 = 1) (b64_2 : e2 / 64 % 2 = 1) (b128_2 : e2 / 128 % 2 = 1) (hge : 4096 * n ≤ e2 / 1024 * 4096 + va % 4096) :
    Calls Tryd.prog 51 #[.pointer (some ⟨br, 0, none⟩), .int .i64 (r : Int), .int .i64 (va : Int), .int .i64 2] w fun x w' => x = .returned (.tuple #[.int .i64 0, .int .i64 7]) ∧ Only (fun _ => False) w w' := by
  have Ha1_2 := Vx.hid a1_2
  have Ha2_8 := Vx.hid a2_8
  have Ha16_2 := Vx.hid a16_2
  have Ha64_4 := Vx.hid a64_4
  clear a1_2 a2_8 a16_2 a64_4
  have Hb2_2 := Vx.hid b2_2
  have Hb8_2 := Vx.hid b8_2
  have Hb1_2 := Vx.hid b1_2
  have Hb2_4 := Vx.hid b2_4
  have Hb4_2 := Vx.hid b4_2
  have Hb16_2 := Vx.hid b16_2
  have Hb64_2 := Vx.hid b64_2
  have Hb128_2 := Vx.hid b128_2
  clear b2_2 b8_2 b1_2 b2_4 b4_2 b16_2 b64_2 b128_2
  have HGE := Vx.hid hge
  clear hge
  have HN2 := Vx.hid hn2
  clear hn2
  have HK2 : Hid (va % 4194304 / 4096 < 1024) := by show va % 4194304 / 4096 < 1024; omega
  have hn := h.top
  have hk1 : va / 4194304 < 1024 := by omega
  have l1 : e1 < 4294967296 := by rw [← he1]; exact wordF_lt _ _
  have HRW := Vx.hid (refWord_any h ((4096 * r + 4 * (va / 4194304) : Nat) : Int))
  rw [wordR_in f n r (va / 4194304) hr hk1, he1] at HRW
  obtain ⟨pl, hpl⟩ : ∃ p : Nat, p = 4096 * r + 4 * (va / 4194304) := ⟨_, rfl⟩
  rw [← hpl] at HRW
  have v1 : wrap64 ((va : Int) / 4194304) = (va : Int) / 4194304 := by simp only [wrap64]; omega
  have v2 : wrap64 ((va : Int) / 4194304 * 4) = (va : Int) / 4194304 * 4 := by simp only [wrap64]; omega
  have v3 : wrap64 (pl : Int) = (pl : Int) := by simp only [wrap64]; omega
  have e3 : 4096 * (r : Int) + (va : Int) / 4194304 * 4 = (pl : Int) := by omega
  have rb : (r : Int) ≤ 255 := by omega
  have dr1 : decide ((r : Int) < 0) = false := decide_eq_false (by omega)
  have dr2 : ¬ 255 < (r : Int) := by omega
  have HE1 := Vx.hid l1
  have HVA := Vx.hid hva
  have HNN := Vx.hid hn
  have HR2 := Vx.hid (fun wv (hv : Only (fun _ => False) w wv) => refWord_any (h.only hv (fun h => h) (fun h => h)) ((4096 * (e1 / 1024) + 4 * (va % 4194304 / 4096) : Nat) : Int))
  rw [wordR_in f n (e1 / 1024) (va % 4194304 / 4096) HN2.out HK2.out, he2] at HR2
  have l2 : e2 < 4294967296 := by rw [← he2]; exact wordF_lt _ _
  have HE2 := Vx.hid l2
  obtain ⟨pl2, hpl2⟩ : ∃ p : Nat, p = 4096 * (e1 / 1024) + 4 * (va % 4194304 / 4096) := ⟨_, rfl⟩
  rw [← hpl2] at HR2
  have HP2 := Vx.hid hpl2
  obtain ⟨N, hN⟩ : ∃ N, N = 4096 * n := ⟨_, rfl⟩
  have HCR : Hid (∀ wv, Only (fun _ => False) w wv → wv.cell? ⟨br, 0, none⟩ = some (.slice (some ⟨bb, 0, none⟩) N N)) := fun wv hv => by rw [hN]; exact (h.only hv (fun h => h) (fun h => h)).cr
  have HN := Vx.hid hN
  obtain ⟨pa, hpa⟩ : ∃ p : Nat, p = e2 / 1024 * 4096 + va % 4096 := ⟨_, rfl⟩
  have HPA := Vx.hid hpa
  clear h hn hk1 l1 hpl he1 hr hva hpl2 he2 l2 hN hpa
  go_enter Tryd.func51, Tryd.ntmps51
  go_upto_region 14 with fail
  go_wp2_with fail
  refine HRW.out.mono ?_
  rintro e w2 ⟨rfl, ho⟩
  have HO := Vx.hid ho
  clear ho e3 v1 v2 v3 rb HRW
  go_upto_region 18 with fail
  have lb := HE1.out
  have a1_2 := Ha1_2.out
  obtain ⟨ta1_2, hta1_2⟩ : ∃ t : Nat, t = e1 % 2 := ⟨_, rfl⟩
  have ia1_2 : (e1 : Int) % 2 = (ta1_2 : Int) := by rw [hta1_2]; rfl
  have ja1_2 : Int.tmod (e1 : Int) 2 = (ta1_2 : Int) := by rw [hta1_2]; rfl
  have fa1_20 : ¬ (ta1_2 : Int) = 0 := ne_cast (c := 0) (by rw [hta1_2]; rw [a1_2]; decide)
  have ga1_20 : ((ta1_2 : Int) == 0) = false := beq_eq_false_iff_ne.2 fa1_20
  have na1_20 : ((ta1_2 : Int) != 0) = true := bne_iff_ne.2 fa1_20
  have fa1_21 : (ta1_2 : Int) = 1 := eq_cast (c := 1) (by rw [hta1_2]; exact a1_2)
  have ga1_21 : ((ta1_2 : Int) == 1) = true := beq_iff_eq.2 fa1_21
  have na1_21 : ((ta1_2 : Int) != 1) = false := bne_eq_false_iff_eq.2 fa1_21
  clear a1_2 hta1_2
  have a2_8 := Ha2_8.out
  obtain ⟨ta2_8, hta2_8⟩ : ∃ t : Nat, t = e1 / 2 % 8 := ⟨_, rfl⟩
  have ia2_8 : (e1 : Int) / 2 % 8 = (ta2_8 : Int) := by rw [hta2_8]; rfl
  have ja2_8 : Int.tmod (Int.tdiv (e1 : Int) 2) 8 = (ta2_8 : Int) := by rw [hta2_8]; rfl
  have ua2_8 : wrap64 ((e1 : Int) / 2) = (e1 : Int) / 2 := wrapQ e1 2 lb
  have ka2_8 : Int.tmod ((e1 : Int) / 2) 8 = (ta2_8 : Int) := by rw [hta2_8]; rfl
  have fa2_80 : (ta2_8 : Int) = 0 := eq_cast (c := 0) (by rw [hta2_8]; exact a2_8)
  have ga2_80 : ((ta2_8 : Int) == 0) = true := beq_iff_eq.2 fa2_80
  have na2_80 : ((ta2_8 : Int) != 0) = false := bne_eq_false_iff_eq.2 fa2_80
  clear a2_8 hta2_8
  have a16_2 := Ha16_2.out
  obtain ⟨ta16_2, hta16_2⟩ : ∃ t : Nat, t = e1 / 16 % 2 := ⟨_, rfl⟩
  have ia16_2 : (e1 : Int) / 16 % 2 = (ta16_2 : Int) := by rw [hta16_2]; rfl
  have ja16_2 : Int.tmod (Int.tdiv (e1 : Int) 16) 2 = (ta16_2 : Int) := by rw [hta16_2]; rfl
  have ua16_2 : wrap64 ((e1 : Int) / 16) = (e1 : Int) / 16 := wrapQ e1 16 lb
  have ka16_2 : Int.tmod ((e1 : Int) / 16) 2 = (ta16_2 : Int) := by rw [hta16_2]; rfl
  have fa16_20 : (ta16_2 : Int) = 0 := eq_cast (c := 0) (by rw [hta16_2]; exact a16_2)
  have ga16_20 : ((ta16_2 : Int) == 0) = true := beq_iff_eq.2 fa16_20
  have na16_20 : ((ta16_2 : Int) != 0) = false := bne_eq_false_iff_eq.2 fa16_20
  have fa16_21 : ¬ (ta16_2 : Int) = 1 := ne_cast (c := 1) (by rw [hta16_2]; rw [a16_2]; decide)
  have ga16_21 : ((ta16_2 : Int) == 1) = false := beq_eq_false_iff_ne.2 fa16_21
  have na16_21 : ((ta16_2 : Int) != 1) = true := bne_iff_ne.2 fa16_21
  clear a16_2 hta16_2
  have a64_4 := Ha64_4.out
  obtain ⟨ta64_4, hta64_4⟩ : ∃ t : Nat, t = e1 / 64 % 4 := ⟨_, rfl⟩
  have ia64_4 : (e1 : Int) / 64 % 4 = (ta64_4 : Int) := by rw [hta64_4]; rfl
  have ja64_4 : Int.tmod (Int.tdiv (e1 : Int) 64) 4 = (ta64_4 : Int) := by rw [hta64_4]; rfl
  have ua64_4 : wrap64 ((e1 : Int) / 64) = (e1 : Int) / 64 := wrapQ e1 64 lb
  have ka64_4 : Int.tmod ((e1 : Int) / 64) 4 = (ta64_4 : Int) := by rw [hta64_4]; rfl
  have fa64_40 : (ta64_4 : Int) = 0 := eq_cast (c := 0) (by rw [hta64_4]; exact a64_4)
  have ga64_40 : ((ta64_4 : Int) == 0) = true := beq_iff_eq.2 fa64_40
  have na64_40 : ((ta64_4 : Int) != 0) = false := bne_eq_false_iff_eq.2 fa64_40
  clear a64_4 hta64_4
  clear lb
  go_upto_region 19 with fail
  clear ia1_2 ja1_2 fa1_20 ga1_20 na1_20 fa1_21 ga1_21 na1_21 ia2_8 ja2_8 ua2_8 ka2_8 fa2_80 ga2_80 na2_80 ia16_2 ja16_2 ua16_2 ka16_2 fa16_20 ga16_20 na16_20 fa16_21 ga16_21 na16_21 ia64_4 ja64_4 ua64_4 ka64_4 fa64_40 ga64_40 na64_40
  have lb := HE1.out
  have lv := HVA.out
  have lp := HP2.out
  obtain ⟨g, hg⟩ : ∃ g : Nat, g = e1 / 1024 := ⟨_, rfl⟩
  obtain ⟨k2, hk2⟩ : ∃ k : Nat, k = va / 4096 % 1024 := ⟨_, rfl⟩
  have ep : (g : Int) * 4096 + (k2 : Int) * 4 = (pl2 : Int) := lead_eq e1 va pl2 g k2 hg hk2 lp
  have vp : wrap64 (pl2 : Int) = (pl2 : Int) := lead_wrap e1 va pl2 lb lp
  have x0 : (e1 : Int) / 1024 = (g : Int) := by rw [hg]; rfl
  obtain ⟨x1, x2⟩ := wrapG e1 g lb hg
  have x3 : wrap64 ((va : Int) / 4096) = (va : Int) / 4096 := wrapQ va 4096 lv
  have x4 : Int.tmod ((va : Int) / 4096) 1024 = (k2 : Int) := by rw [hk2]; rfl
  have x6 : (va : Int) / 4096 % 1024 = (k2 : Int) := by rw [hk2]; rfl
  have x5 := wrapK va k2 hk2
  clear hg hk2
  clear lb lv lp
  go_wp2_with fail
  refine (HR2.out w2 HO.out).mono ?_
  rintro e w3 ⟨rfl, ho⟩
  have HO3 := Vx.hid (HO.out.trans ho)
  clear ho ep vp x0 x1 x2 x3 x4 x5 x6 HR2
  go_upto_region 23 with fail
  have lb := HE2.out
  have b2_2 := Hb2_2.out
  obtain ⟨tb2_2, htb2_2⟩ : ∃ t : Nat, t = e2 / 2 % 2 := ⟨_, rfl⟩
  have ib2_2 : (e2 : Int) / 2 % 2 = (tb2_2 : Int) := by rw [htb2_2]; rfl
  have jb2_2 : Int.tmod (Int.tdiv (e2 : Int) 2) 2 = (tb2_2 : Int) := by rw [htb2_2]; rfl
  have ub2_2 : wrap64 ((e2 : Int) / 2) = (e2 : Int) / 2 := wrapQ e2 2 lb
  have kb2_2 : Int.tmod ((e2 : Int) / 2) 2 = (tb2_2 : Int) := by rw [htb2_2]; rfl
  have fb2_20 : (tb2_2 : Int) = 0 := eq_cast (c := 0) (by rw [htb2_2]; exact b2_2)
  have gb2_20 : ((tb2_2 : Int) == 0) = true := beq_iff_eq.2 fb2_20
  have nb2_20 : ((tb2_2 : Int) != 0) = false := bne_eq_false_iff_eq.2 fb2_20
  have fb2_21 : ¬ (tb2_2 : Int) = 1 := ne_cast (c := 1) (by rw [htb2_2]; rw [b2_2]; decide)
  have gb2_21 : ((tb2_2 : Int) == 1) = false := beq_eq_false_iff_ne.2 fb2_21
  have nb2_21 : ((tb2_2 : Int) != 1) = true := bne_iff_ne.2 fb2_21
  clear b2_2 htb2_2
  have b8_2 := Hb8_2.out
  obtain ⟨tb8_2, htb8_2⟩ : ∃ t : Nat, t = e2 / 8 % 2 := ⟨_, rfl⟩
  have ib8_2 : (e2 : Int) / 8 % 2 = (tb8_2 : Int) := by rw [htb8_2]; rfl
  have jb8_2 : Int.tmod (Int.tdiv (e2 : Int) 8) 2 = (tb8_2 : Int) := by rw [htb8_2]; rfl
  have ub8_2 : wrap64 ((e2 : Int) / 8) = (e2 : Int) / 8 := wrapQ e2 8 lb
  have kb8_2 : Int.tmod ((e2 : Int) / 8) 2 = (tb8_2 : Int) := by rw [htb8_2]; rfl
  have fb8_20 : ¬ (tb8_2 : Int) = 0 := ne_cast (c := 0) (by rw [htb8_2]; rw [b8_2]; decide)
  have gb8_20 : ((tb8_2 : Int) == 0) = false := beq_eq_false_iff_ne.2 fb8_20
  have nb8_20 : ((tb8_2 : Int) != 0) = true := bne_iff_ne.2 fb8_20
  have fb8_21 : (tb8_2 : Int) = 1 := eq_cast (c := 1) (by rw [htb8_2]; exact b8_2)
  have gb8_21 : ((tb8_2 : Int) == 1) = true := beq_iff_eq.2 fb8_21
  have nb8_21 : ((tb8_2 : Int) != 1) = false := bne_eq_false_iff_eq.2 fb8_21
  clear b8_2 htb8_2
  clear lb
  go_upto_region 24 with fail
  clear ib2_2 jb2_2 ub2_2 kb2_2 fb2_20 gb2_20 nb2_20 fb2_21 gb2_21 nb2_21 ib8_2 jb8_2 ub8_2 kb8_2 fb8_20 gb8_20 nb8_20 fb8_21 gb8_21 nb8_21
  have lb := HE2.out
  have b1_2 := Hb1_2.out
  obtain ⟨tb1_2, htb1_2⟩ : ∃ t : Nat, t = e2 % 2 := ⟨_, rfl⟩
  have ib1_2 : (e2 : Int) % 2 = (tb1_2 : Int) := by rw [htb1_2]; rfl
  have jb1_2 : Int.tmod (e2 : Int) 2 = (tb1_2 : Int) := by rw [htb1_2]; rfl
  have fb1_20 : ¬ (tb1_2 : Int) = 0 := ne_cast (c := 0) (by rw [htb1_2]; rw [b1_2]; decide)
  have gb1_20 : ((tb1_2 : Int) == 0) = false := beq_eq_false_iff_ne.2 fb1_20
  have nb1_20 : ((tb1_2 : Int) != 0) = true := bne_iff_ne.2 fb1_20
  have fb1_21 : (tb1_2 : Int) = 1 := eq_cast (c := 1) (by rw [htb1_2]; exact b1_2)
  have gb1_21 : ((tb1_2 : Int) == 1) = true := beq_iff_eq.2 fb1_21
  have nb1_21 : ((tb1_2 : Int) != 1) = false := bne_eq_false_iff_eq.2 fb1_21
  clear b1_2 htb1_2
  have b2_4 := Hb2_4.out
  obtain ⟨tb2_4, htb2_4⟩ : ∃ t : Nat, t = e2 / 2 % 4 := ⟨_, rfl⟩
  have ib2_4 : (e2 : Int) / 2 % 4 = (tb2_4 : Int) := by rw [htb2_4]; rfl
  have jb2_4 : Int.tmod (Int.tdiv (e2 : Int) 2) 4 = (tb2_4 : Int) := by rw [htb2_4]; rfl
  have ub2_4 : wrap64 ((e2 : Int) / 2) = (e2 : Int) / 2 := wrapQ e2 2 lb
  have kb2_4 : Int.tmod ((e2 : Int) / 2) 4 = (tb2_4 : Int) := by rw [htb2_4]; rfl
  have fb2_42 : ¬ (tb2_4 : Int) = 2 := ne_cast (c := 2) (by rw [htb2_4]; exact b2_4)
  have gb2_42 : ((tb2_4 : Int) == 2) = false := beq_eq_false_iff_ne.2 fb2_42
  have nb2_42 : ((tb2_4 : Int) != 2) = true := bne_iff_ne.2 fb2_42
  clear b2_4 htb2_4
  have b4_2 := Hb4_2.out
  obtain ⟨tb4_2, htb4_2⟩ : ∃ t : Nat, t = e2 / 4 % 2 := ⟨_, rfl⟩
  have ib4_2 : (e2 : Int) / 4 % 2 = (tb4_2 : Int) := by rw [htb4_2]; rfl
  have jb4_2 : Int.tmod (Int.tdiv (e2 : Int) 4) 2 = (tb4_2 : Int) := by rw [htb4_2]; rfl
  have ub4_2 : wrap64 ((e2 : Int) / 4) = (e2 : Int) / 4 := wrapQ e2 4 lb
  have kb4_2 : Int.tmod ((e2 : Int) / 4) 2 = (tb4_2 : Int) := by rw [htb4_2]; rfl
  have fb4_20 : ¬ (tb4_2 : Int) = 0 := ne_cast (c := 0) (by rw [htb4_2]; rw [b4_2]; decide)
  have gb4_20 : ((tb4_2 : Int) == 0) = false := beq_eq_false_iff_ne.2 fb4_20
  have nb4_20 : ((tb4_2 : Int) != 0) = true := bne_iff_ne.2 fb4_20
  have fb4_21 : (tb4_2 : Int) = 1 := eq_cast (c := 1) (by rw [htb4_2]; exact b4_2)
  have gb4_21 : ((tb4_2 : Int) == 1) = true := beq_iff_eq.2 fb4_21
  have nb4_21 : ((tb4_2 : Int) != 1) = false := bne_eq_false_iff_eq.2 fb4_21
  clear b4_2 htb4_2
  have b16_2 := Hb16_2.out
  obtain ⟨tb16_2, htb16_2⟩ : ∃ t : Nat, t = e2 / 16 % 2 := ⟨_, rfl⟩
  have ib16_2 : (e2 : Int) / 16 % 2 = (tb16_2 : Int) := by rw [htb16_2]; rfl
  have jb16_2 : Int.tmod (Int.tdiv (e2 : Int) 16) 2 = (tb16_2 : Int) := by rw [htb16_2]; rfl
  have ub16_2 : wrap64 ((e2 : Int) / 16) = (e2 : Int) / 16 := wrapQ e2 16 lb
  have kb16_2 : Int.tmod ((e2 : Int) / 16) 2 = (tb16_2 : Int) := by rw [htb16_2]; rfl
  have fb16_20 : ¬ (tb16_2 : Int) = 0 := ne_cast (c := 0) (by rw [htb16_2]; rw [b16_2]; decide)
  have gb16_20 : ((tb16_2 : Int) == 0) = false := beq_eq_false_iff_ne.2 fb16_20
  have nb16_20 : ((tb16_2 : Int) != 0) = true := bne_iff_ne.2 fb16_20
  have fb16_21 : (tb16_2 : Int) = 1 := eq_cast (c := 1) (by rw [htb16_2]; exact b16_2)
  have gb16_21 : ((tb16_2 : Int) == 1) = true := beq_iff_eq.2 fb16_21
  have nb16_21 : ((tb16_2 : Int) != 1) = false := bne_eq_false_iff_eq.2 fb16_21
  clear b16_2 htb16_2
  have b64_2 := Hb64_2.out
  obtain ⟨tb64_2, htb64_2⟩ : ∃ t : Nat, t = e2 / 64 % 2 := ⟨_, rfl⟩
  have ib64_2 : (e2 : Int) / 64 % 2 = (tb64_2 : Int) := by rw [htb64_2]; rfl
  have jb64_2 : Int.tmod (Int.tdiv (e2 : Int) 64) 2 = (tb64_2 : Int) := by rw [htb64_2]; rfl
  have ub64_2 : wrap64 ((e2 : Int) / 64) = (e2 : Int) / 64 := wrapQ e2 64 lb
  have kb64_2 : Int.tmod ((e2 : Int) / 64) 2 = (tb64_2 : Int) := by rw [htb64_2]; rfl
  have fb64_20 : ¬ (tb64_2 : Int) = 0 := ne_cast (c := 0) (by rw [htb64_2]; rw [b64_2]; decide)
  have gb64_20 : ((tb64_2 : Int) == 0) = false := beq_eq_false_iff_ne.2 fb64_20
  have nb64_20 : ((tb64_2 : Int) != 0) = true := bne_iff_ne.2 fb64_20
  have fb64_21 : (tb64_2 : Int) = 1 := eq_cast (c := 1) (by rw [htb64_2]; exact b64_2)
  have gb64_21 : ((tb64_2 : Int) == 1) = true := beq_iff_eq.2 fb64_21
  have nb64_21 : ((tb64_2 : Int) != 1) = false := bne_eq_false_iff_eq.2 fb64_21
  clear b64_2 htb64_2
  have b128_2 := Hb128_2.out
  obtain ⟨tb128_2, htb128_2⟩ : ∃ t : Nat, t = e2 / 128 % 2 := ⟨_, rfl⟩
  have ib128_2 : (e2 : Int) / 128 % 2 = (tb128_2 : Int) := by rw [htb128_2]; rfl
  have jb128_2 : Int.tmod (Int.tdiv (e2 : Int) 128) 2 = (tb128_2 : Int) := by rw [htb128_2]; rfl
  have ub128_2 : wrap64 ((e2 : Int) / 128) = (e2 : Int) / 128 := wrapQ e2 128 lb
  have kb128_2 : Int.tmod ((e2 : Int) / 128) 2 = (tb128_2 : Int) := by rw [htb128_2]; rfl
  have fb128_20 : ¬ (tb128_2 : Int) = 0 := ne_cast (c := 0) (by rw [htb128_2]; rw [b128_2]; decide)
  have gb128_20 : ((tb128_2 : Int) == 0) = false := beq_eq_false_iff_ne.2 fb128_20
  have nb128_20 : ((tb128_2 : Int) != 0) = true := bne_iff_ne.2 fb128_20
  have fb128_21 : (tb128_2 : Int) = 1 := eq_cast (c := 1) (by rw [htb128_2]; exact b128_2)
  have gb128_21 : ((tb128_2 : Int) == 1) = true := beq_iff_eq.2 fb128_21
  have nb128_21 : ((tb128_2 : Int) != 1) = false := bne_eq_false_iff_eq.2 fb128_21
  clear b128_2 htb128_2
  clear lb
  go_upto_region 26 with fail
  clear ib1_2 jb1_2 fb1_20 gb1_20 nb1_20 fb1_21 gb1_21 nb1_21 ib2_4 jb2_4 ub2_4 kb2_4 fb2_42 gb2_42 nb2_42 ib4_2 jb4_2 ub4_2 kb4_2 fb4_20 gb4_20 nb4_20 fb4_21 gb4_21 nb4_21 ib16_2 jb16_2 ub16_2 kb16_2 fb16_20 gb16_20 nb16_20 fb16_21 gb16_21 nb16_21 ib64_2 jb64_2 ub64_2 kb64_2 fb64_20 gb64_20 nb64_20 fb64_21 gb64_21 nb64_21 ib128_2 jb128_2 ub128_2 kb128_2 fb128_20 gb128_20 nb128_20 fb128_21 gb128_21 nb128_21
  go_upto_region 28 with fail
  have hcr := HCR.out w3 HO3.out
  have lb := HE2.out
  have lv := HVA.out
  have lp := HPA.out
  have lg := HGE.out
  have lN := HN.out
  have ipa : (e2 : Int) / 1024 * 4096 + (va : Int) % 4096 = (pa : Int) := by omega
  have vpa : wrap64 (pa : Int) = (pa : Int) := by simp only [wrap64]; omega
  have y1 : wrap64 ((e2 : Int) / 1024) = (e2 : Int) / 1024 := by simp only [wrap64]; omega
  have y2 : wrap64 ((e2 : Int) / 1024 * 4096) = (e2 : Int) / 1024 * 4096 := by simp only [wrap64]; omega
  have y3 : Int.tmod (va : Int) 4096 = (va : Int) % 4096 := Int.tmod_eq_emod_of_nonneg (by omega)
  have cge : (N : Int) ≤ (pa : Int) := by omega
  clear lb lv lp lg lN
  go_wp2_with fail
  all_goals
    go_ret2
    exact ⟨rfl, HO3.out⟩
set_option maxRecDepth 100000 in
set_option maxHeartbeats 2000000 in
theorem rw2_tXi {w : World} {br bb n : Nat} {f : Nat → UInt8} (h : RefAt w br bb n f) (r : Nat) (hr : r < n) (va : Nat) (hva : va < 4294967296) (e1 : Nat) (he1 : wordF f (4096 * r + 4 * (va / 4194304)) = e1) (a1_2 : e1 % 2 = 1) (a2_8 : e1 / 2 % 8 = 0) (a16_2 : e1 / 16 % 2 = 0) (a64_4 : e1 / 64 % 4 = 0) (hn2 : e1 / 1024 < n) (e2 : Nat) (he2 : wordF f (4096 * (e1 / 1024) + 4 * (va % 4194304 / 4096)) = e2) (b2_2 : e2 / 2 % 2 = 0) (b8_2 : e2 / 8 % 2 = 1) (b1_2 : e2 % 2 = 1) (b2_4 : e2 / 2 % 4 ≠ 2) (b4_2 : e2 / 4 % 2 = 1) (b16_2 : e2 / 16 % 2 = 1) (b64_2 : e2 / 64 % 2 = 1) (b128_2 : e2 / 128 % 2 = 1) (hge : ¬ 4096 * n ≤ e2 / 1024 * 4096 + va % 4096) :
    Calls Tryd.prog 51 #[.pointer (some ⟨br, 0, none⟩), .int .i64 (r : Int), .int .i64 (va : Int), .int .i64 2] w fun x w' => x = .returned (.tuple #[.int .i64 ((e2 / 1024 * 4096 + va % 4096 : Nat) : Int), .int .i64 (-1)]) ∧ Only (fun _ => False) w w' := by
  have Ha1_2 := Vx.hid a1_2
  have Ha2_8 := Vx.hid a2_8
  have Ha16_2 := Vx.hid a16_2
  have Ha64_4 := Vx.hid a64_4
  clear a1_2 a2_8 a16_2 a64_4
  have Hb2_2 := Vx.hid b2_2
  have Hb8_2 := Vx.hid b8_2
  have Hb1_2 := Vx.hid b1_2
  have Hb2_4 := Vx.hid b2_4
  have Hb4_2 := Vx.hid b4_2
  have Hb16_2 := Vx.hid b16_2
  have Hb64_2 := Vx.hid b64_2
  have Hb128_2 := Vx.hid b128_2
  clear b2_2 b8_2 b1_2 b2_4 b4_2 b16_2 b64_2 b128_2
  have HGE := Vx.hid hge
  clear hge
  have HN2 := Vx.hid hn2
  clear hn2
  have HK2 : Hid (va % 4194304 / 4096 < 1024) := by show va % 4194304 / 4096 < 1024; omega
  have hn := h.top
  have hk1 : va / 4194304 < 1024 := by omega
  have l1 : e1 < 4294967296 := by rw [← he1]; exact wordF_lt _ _
  have HRW := Vx.hid (refWord_any h ((4096 * r + 4 * (va / 4194304) : Nat) : Int))
  rw [wordR_in f n r (va / 4194304) hr hk1, he1] at HRW
  obtain ⟨pl, hpl⟩ : ∃ p : Nat, p = 4096 * r + 4 * (va / 4194304) := ⟨_, rfl⟩
  rw [← hpl] at HRW
  have v1 : wrap64 ((va : Int) / 4194304) = (va : Int) / 4194304 := by simp only [wrap64]; omega
  have v2 : wrap64 ((va : Int) / 4194304 * 4) = (va : Int) / 4194304 * 4 := by simp only [wrap64]; omega
  have v3 : wrap64 (pl : Int) = (pl : Int) := by simp only [wrap64]; omega
  have e3 : 4096 * (r : Int) + (va : Int) / 4194304 * 4 = (pl : Int) := by omega
  have rb : (r : Int) ≤ 255 := by omega
  have dr1 : decide ((r : Int) < 0) = false := decide_eq_false (by omega)
  have dr2 : ¬ 255 < (r : Int) := by omega
  have HE1 := Vx.hid l1
  have HVA := Vx.hid hva
  have HNN := Vx.hid hn
  have HR2 := Vx.hid (fun wv (hv : Only (fun _ => False) w wv) => refWord_any (h.only hv (fun h => h) (fun h => h)) ((4096 * (e1 / 1024) + 4 * (va % 4194304 / 4096) : Nat) : Int))
  rw [wordR_in f n (e1 / 1024) (va % 4194304 / 4096) HN2.out HK2.out, he2] at HR2
  have l2 : e2 < 4294967296 := by rw [← he2]; exact wordF_lt _ _
  have HE2 := Vx.hid l2
  obtain ⟨pl2, hpl2⟩ : ∃ p : Nat, p = 4096 * (e1 / 1024) + 4 * (va % 4194304 / 4096) := ⟨_, rfl⟩
  rw [← hpl2] at HR2
  have HP2 := Vx.hid hpl2
  obtain ⟨N, hN⟩ : ∃ N, N = 4096 * n := ⟨_, rfl⟩
  have HCR : Hid (∀ wv, Only (fun _ => False) w wv → wv.cell? ⟨br, 0, none⟩ = some (.slice (some ⟨bb, 0, none⟩) N N)) := fun wv hv => by rw [hN]; exact (h.only hv (fun h => h) (fun h => h)).cr
  have HN := Vx.hid hN
  obtain ⟨pa, hpa⟩ : ∃ p : Nat, p = e2 / 1024 * 4096 + va % 4096 := ⟨_, rfl⟩
  rw [← hpa]
  have HPA := Vx.hid hpa
  clear h hn hk1 l1 hpl he1 hr hva hpl2 he2 l2 hN hpa
  go_enter Tryd.func51, Tryd.ntmps51
  go_upto_region 14 with fail
  go_wp2_with fail
  refine HRW.out.mono ?_
  rintro e w2 ⟨rfl, ho⟩
  have HO := Vx.hid ho
  clear ho e3 v1 v2 v3 rb HRW
  go_upto_region 18 with fail
  have lb := HE1.out
  have a1_2 := Ha1_2.out
  obtain ⟨ta1_2, hta1_2⟩ : ∃ t : Nat, t = e1 % 2 := ⟨_, rfl⟩
  have ia1_2 : (e1 : Int) % 2 = (ta1_2 : Int) := by rw [hta1_2]; rfl
  have ja1_2 : Int.tmod (e1 : Int) 2 = (ta1_2 : Int) := by rw [hta1_2]; rfl
  have fa1_20 : ¬ (ta1_2 : Int) = 0 := ne_cast (c := 0) (by rw [hta1_2]; rw [a1_2]; decide)
  have ga1_20 : ((ta1_2 : Int) == 0) = false := beq_eq_false_iff_ne.2 fa1_20
  have na1_20 : ((ta1_2 : Int) != 0) = true := bne_iff_ne.2 fa1_20
  have fa1_21 : (ta1_2 : Int) = 1 := eq_cast (c := 1) (by rw [hta1_2]; exact a1_2)
  have ga1_21 : ((ta1_2 : Int) == 1) = true := beq_iff_eq.2 fa1_21
  have na1_21 : ((ta1_2 : Int) != 1) = false := bne_eq_false_iff_eq.2 fa1_21
  clear a1_2 hta1_2
  have a2_8 := Ha2_8.out
  obtain ⟨ta2_8, hta2_8⟩ : ∃ t : Nat, t = e1 / 2 % 8 := ⟨_, rfl⟩
  have ia2_8 : (e1 : Int) / 2 % 8 = (ta2_8 : Int) := by rw [hta2_8]; rfl
  have ja2_8 : Int.tmod (Int.tdiv (e1 : Int) 2) 8 = (ta2_8 : Int) := by rw [hta2_8]; rfl
  have ua2_8 : wrap64 ((e1 : Int) / 2) = (e1 : Int) / 2 := wrapQ e1 2 lb
  have ka2_8 : Int.tmod ((e1 : Int) / 2) 8 = (ta2_8 : Int) := by rw [hta2_8]; rfl
  have fa2_80 : (ta2_8 : Int) = 0 := eq_cast (c := 0) (by rw [hta2_8]; exact a2_8)
  have ga2_80 : ((ta2_8 : Int) == 0) = true := beq_iff_eq.2 fa2_80
  have na2_80 : ((ta2_8 : Int) != 0) = false := bne_eq_false_iff_eq.2 fa2_80
  clear a2_8 hta2_8
  have a16_2 := Ha16_2.out
  obtain ⟨ta16_2, hta16_2⟩ : ∃ t : Nat, t = e1 / 16 % 2 := ⟨_, rfl⟩
  have ia16_2 : (e1 : Int) / 16 % 2 = (ta16_2 : Int) := by rw [hta16_2]; rfl
  have ja16_2 : Int.tmod (Int.tdiv (e1 : Int) 16) 2 = (ta16_2 : Int) := by rw [hta16_2]; rfl
  have ua16_2 : wrap64 ((e1 : Int) / 16) = (e1 : Int) / 16 := wrapQ e1 16 lb
  have ka16_2 : Int.tmod ((e1 : Int) / 16) 2 = (ta16_2 : Int) := by rw [hta16_2]; rfl
  have fa16_20 : (ta16_2 : Int) = 0 := eq_cast (c := 0) (by rw [hta16_2]; exact a16_2)
  have ga16_20 : ((ta16_2 : Int) == 0) = true := beq_iff_eq.2 fa16_20
  have na16_20 : ((ta16_2 : Int) != 0) = false := bne_eq_false_iff_eq.2 fa16_20
  have fa16_21 : ¬ (ta16_2 : Int) = 1 := ne_cast (c := 1) (by rw [hta16_2]; rw [a16_2]; decide)
  have ga16_21 : ((ta16_2 : Int) == 1) = false := beq_eq_false_iff_ne.2 fa16_21
  have na16_21 : ((ta16_2 : Int) != 1) = true := bne_iff_ne.2 fa16_21
  clear a16_2 hta16_2
  have a64_4 := Ha64_4.out
  obtain ⟨ta64_4, hta64_4⟩ : ∃ t : Nat, t = e1 / 64 % 4 := ⟨_, rfl⟩
  have ia64_4 : (e1 : Int) / 64 % 4 = (ta64_4 : Int) := by rw [hta64_4]; rfl
  have ja64_4 : Int.tmod (Int.tdiv (e1 : Int) 64) 4 = (ta64_4 : Int) := by rw [hta64_4]; rfl
  have ua64_4 : wrap64 ((e1 : Int) / 64) = (e1 : Int) / 64 := wrapQ e1 64 lb
  have ka64_4 : Int.tmod ((e1 : Int) / 64) 4 = (ta64_4 : Int) := by rw [hta64_4]; rfl
  have fa64_40 : (ta64_4 : Int) = 0 := eq_cast (c := 0) (by rw [hta64_4]; exact a64_4)
  have ga64_40 : ((ta64_4 : Int) == 0) = true := beq_iff_eq.2 fa64_40
  have na64_40 : ((ta64_4 : Int) != 0) = false := bne_eq_false_iff_eq.2 fa64_40
  clear a64_4 hta64_4
  clear lb
  go_upto_region 19 with fail
  clear ia1_2 ja1_2 fa1_20 ga1_20 na1_20 fa1_21 ga1_21 na1_21 ia2_8 ja2_8 ua2_8 ka2_8 fa2_80 ga2_80 na2_80 ia16_2 ja16_2 ua16_2 ka16_2 fa16_20 ga16_20 na16_20 fa16_21 ga16_21 na16_21 ia64_4 ja64_4 ua64_4 ka64_4 fa64_40 ga64_40 na64_40
  have lb := HE1.out
  have lv := HVA.out
  have lp := HP2.out
  obtain ⟨g, hg⟩ : ∃ g : Nat, g = e1 / 1024 := ⟨_, rfl⟩
  obtain ⟨k2, hk2⟩ : ∃ k : Nat, k = va / 4096 % 1024 := ⟨_, rfl⟩
  have ep : (g : Int) * 4096 + (k2 : Int) * 4 = (pl2 : Int) := lead_eq e1 va pl2 g k2 hg hk2 lp
  have vp : wrap64 (pl2 : Int) = (pl2 : Int) := lead_wrap e1 va pl2 lb lp
  have x0 : (e1 : Int) / 1024 = (g : Int) := by rw [hg]; rfl
  obtain ⟨x1, x2⟩ := wrapG e1 g lb hg
  have x3 : wrap64 ((va : Int) / 4096) = (va : Int) / 4096 := wrapQ va 4096 lv
  have x4 : Int.tmod ((va : Int) / 4096) 1024 = (k2 : Int) := by rw [hk2]; rfl
  have x6 : (va : Int) / 4096 % 1024 = (k2 : Int) := by rw [hk2]; rfl
  have x5 := wrapK va k2 hk2
  clear hg hk2
  clear lb lv lp
  go_wp2_with fail
  refine (HR2.out w2 HO.out).mono ?_
  rintro e w3 ⟨rfl, ho⟩
  have HO3 := Vx.hid (HO.out.trans ho)
  clear ho ep vp x0 x1 x2 x3 x4 x5 x6 HR2
  go_upto_region 23 with fail
  have lb := HE2.out
  have b2_2 := Hb2_2.out
  obtain ⟨tb2_2, htb2_2⟩ : ∃ t : Nat, t = e2 / 2 % 2 := ⟨_, rfl⟩
  have ib2_2 : (e2 : Int) / 2 % 2 = (tb2_2 : Int) := by rw [htb2_2]; rfl
  have jb2_2 : Int.tmod (Int.tdiv (e2 : Int) 2) 2 = (tb2_2 : Int) := by rw [htb2_2]; rfl
  have ub2_2 : wrap64 ((e2 : Int) / 2) = (e2 : Int) / 2 := wrapQ e2 2 lb
  have kb2_2 : Int.tmod ((e2 : Int) / 2) 2 = (tb2_2 : Int) := by rw [htb2_2]; rfl
  have fb2_20 : (tb2_2 : Int) = 0 := eq_cast (c := 0) (by rw [htb2_2]; exact b2_2)
  have gb2_20 : ((tb2_2 : Int) == 0) = true := beq_iff_eq.2 fb2_20
  have nb2_20 : ((tb2_2 : Int) != 0) = false := bne_eq_false_iff_eq.2 fb2_20
  have fb2_21 : ¬ (tb2_2 : Int) = 1 := ne_cast (c := 1) (by rw [htb2_2]; rw [b2_2]; decide)
  have gb2_21 : ((tb2_2 : Int) == 1) = false := beq_eq_false_iff_ne.2 fb2_21
  have nb2_21 : ((tb2_2 : Int) != 1) = true := bne_iff_ne.2 fb2_21
  clear b2_2 htb2_2
  have b8_2 := Hb8_2.out
  obtain ⟨tb8_2, htb8_2⟩ : ∃ t : Nat, t = e2 / 8 % 2 := ⟨_, rfl⟩
  have ib8_2 : (e2 : Int) / 8 % 2 = (tb8_2 : Int) := by rw [htb8_2]; rfl
  have jb8_2 : Int.tmod (Int.tdiv (e2 : Int) 8) 2 = (tb8_2 : Int) := by rw [htb8_2]; rfl
  have ub8_2 : wrap64 ((e2 : Int) / 8) = (e2 : Int) / 8 := wrapQ e2 8 lb
  have kb8_2 : Int.tmod ((e2 : Int) / 8) 2 = (tb8_2 : Int) := by rw [htb8_2]; rfl
  have fb8_20 : ¬ (tb8_2 : Int) = 0 := ne_cast (c := 0) (by rw [htb8_2]; rw [b8_2]; decide)
  have gb8_20 : ((tb8_2 : Int) == 0) = false := beq_eq_false_iff_ne.2 fb8_20
  have nb8_20 : ((tb8_2 : Int) != 0) = true := bne_iff_ne.2 fb8_20
  have fb8_21 : (tb8_2 : Int) = 1 := eq_cast (c := 1) (by rw [htb8_2]; exact b8_2)
  have gb8_21 : ((tb8_2 : Int) == 1) = true := beq_iff_eq.2 fb8_21
  have nb8_21 : ((tb8_2 : Int) != 1) = false := bne_eq_false_iff_eq.2 fb8_21
  clear b8_2 htb8_2
  clear lb
  go_upto_region 24 with fail
  clear ib2_2 jb2_2 ub2_2 kb2_2 fb2_20 gb2_20 nb2_20 fb2_21 gb2_21 nb2_21 ib8_2 jb8_2 ub8_2 kb8_2 fb8_20 gb8_20 nb8_20 fb8_21 gb8_21 nb8_21
  have lb := HE2.out
  have b1_2 := Hb1_2.out
  obtain ⟨tb1_2, htb1_2⟩ : ∃ t : Nat, t = e2 % 2 := ⟨_, rfl⟩
  have ib1_2 : (e2 : Int) % 2 = (tb1_2 : Int) := by rw [htb1_2]; rfl
  have jb1_2 : Int.tmod (e2 : Int) 2 = (tb1_2 : Int) := by rw [htb1_2]; rfl
  have fb1_20 : ¬ (tb1_2 : Int) = 0 := ne_cast (c := 0) (by rw [htb1_2]; rw [b1_2]; decide)
  have gb1_20 : ((tb1_2 : Int) == 0) = false := beq_eq_false_iff_ne.2 fb1_20
  have nb1_20 : ((tb1_2 : Int) != 0) = true := bne_iff_ne.2 fb1_20
  have fb1_21 : (tb1_2 : Int) = 1 := eq_cast (c := 1) (by rw [htb1_2]; exact b1_2)
  have gb1_21 : ((tb1_2 : Int) == 1) = true := beq_iff_eq.2 fb1_21
  have nb1_21 : ((tb1_2 : Int) != 1) = false := bne_eq_false_iff_eq.2 fb1_21
  clear b1_2 htb1_2
  have b2_4 := Hb2_4.out
  obtain ⟨tb2_4, htb2_4⟩ : ∃ t : Nat, t = e2 / 2 % 4 := ⟨_, rfl⟩
  have ib2_4 : (e2 : Int) / 2 % 4 = (tb2_4 : Int) := by rw [htb2_4]; rfl
  have jb2_4 : Int.tmod (Int.tdiv (e2 : Int) 2) 4 = (tb2_4 : Int) := by rw [htb2_4]; rfl
  have ub2_4 : wrap64 ((e2 : Int) / 2) = (e2 : Int) / 2 := wrapQ e2 2 lb
  have kb2_4 : Int.tmod ((e2 : Int) / 2) 4 = (tb2_4 : Int) := by rw [htb2_4]; rfl
  have fb2_42 : ¬ (tb2_4 : Int) = 2 := ne_cast (c := 2) (by rw [htb2_4]; exact b2_4)
  have gb2_42 : ((tb2_4 : Int) == 2) = false := beq_eq_false_iff_ne.2 fb2_42
  have nb2_42 : ((tb2_4 : Int) != 2) = true := bne_iff_ne.2 fb2_42
  clear b2_4 htb2_4
  have b4_2 := Hb4_2.out
  obtain ⟨tb4_2, htb4_2⟩ : ∃ t : Nat, t = e2 / 4 % 2 := ⟨_, rfl⟩
  have ib4_2 : (e2 : Int) / 4 % 2 = (tb4_2 : Int) := by rw [htb4_2]; rfl
  have jb4_2 : Int.tmod (Int.tdiv (e2 : Int) 4) 2 = (tb4_2 : Int) := by rw [htb4_2]; rfl
  have ub4_2 : wrap64 ((e2 : Int) / 4) = (e2 : Int) / 4 := wrapQ e2 4 lb
  have kb4_2 : Int.tmod ((e2 : Int) / 4) 2 = (tb4_2 : Int) := by rw [htb4_2]; rfl
  have fb4_20 : ¬ (tb4_2 : Int) = 0 := ne_cast (c := 0) (by rw [htb4_2]; rw [b4_2]; decide)
  have gb4_20 : ((tb4_2 : Int) == 0) = false := beq_eq_false_iff_ne.2 fb4_20
  have nb4_20 : ((tb4_2 : Int) != 0) = true := bne_iff_ne.2 fb4_20
  have fb4_21 : (tb4_2 : Int) = 1 := eq_cast (c := 1) (by rw [htb4_2]; exact b4_2)
  have gb4_21 : ((tb4_2 : Int) == 1) = true := beq_iff_eq.2 fb4_21
  have nb4_21 : ((tb4_2 : Int) != 1) = false := bne_eq_false_iff_eq.2 fb4_21
  clear b4_2 htb4_2
  have b16_2 := Hb16_2.out
  obtain ⟨tb16_2, htb16_2⟩ : ∃ t : Nat, t = e2 / 16 % 2 := ⟨_, rfl⟩
  have ib16_2 : (e2 : Int) / 16 % 2 = (tb16_2 : Int) := by rw [htb16_2]; rfl
  have jb16_2 : Int.tmod (Int.tdiv (e2 : Int) 16) 2 = (tb16_2 : Int) := by rw [htb16_2]; rfl
  have ub16_2 : wrap64 ((e2 : Int) / 16) = (e2 : Int) / 16 := wrapQ e2 16 lb
  have kb16_2 : Int.tmod ((e2 : Int) / 16) 2 = (tb16_2 : Int) := by rw [htb16_2]; rfl
  have fb16_20 : ¬ (tb16_2 : Int) = 0 := ne_cast (c := 0) (by rw [htb16_2]; rw [b16_2]; decide)
  have gb16_20 : ((tb16_2 : Int) == 0) = false := beq_eq_false_iff_ne.2 fb16_20
  have nb16_20 : ((tb16_2 : Int) != 0) = true := bne_iff_ne.2 fb16_20
  have fb16_21 : (tb16_2 : Int) = 1 := eq_cast (c := 1) (by rw [htb16_2]; exact b16_2)
  have gb16_21 : ((tb16_2 : Int) == 1) = true := beq_iff_eq.2 fb16_21
  have nb16_21 : ((tb16_2 : Int) != 1) = false := bne_eq_false_iff_eq.2 fb16_21
  clear b16_2 htb16_2
  have b64_2 := Hb64_2.out
  obtain ⟨tb64_2, htb64_2⟩ : ∃ t : Nat, t = e2 / 64 % 2 := ⟨_, rfl⟩
  have ib64_2 : (e2 : Int) / 64 % 2 = (tb64_2 : Int) := by rw [htb64_2]; rfl
  have jb64_2 : Int.tmod (Int.tdiv (e2 : Int) 64) 2 = (tb64_2 : Int) := by rw [htb64_2]; rfl
  have ub64_2 : wrap64 ((e2 : Int) / 64) = (e2 : Int) / 64 := wrapQ e2 64 lb
  have kb64_2 : Int.tmod ((e2 : Int) / 64) 2 = (tb64_2 : Int) := by rw [htb64_2]; rfl
  have fb64_20 : ¬ (tb64_2 : Int) = 0 := ne_cast (c := 0) (by rw [htb64_2]; rw [b64_2]; decide)
  have gb64_20 : ((tb64_2 : Int) == 0) = false := beq_eq_false_iff_ne.2 fb64_20
  have nb64_20 : ((tb64_2 : Int) != 0) = true := bne_iff_ne.2 fb64_20
  have fb64_21 : (tb64_2 : Int) = 1 := eq_cast (c := 1) (by rw [htb64_2]; exact b64_2)
  have gb64_21 : ((tb64_2 : Int) == 1) = true := beq_iff_eq.2 fb64_21
  have nb64_21 : ((tb64_2 : Int) != 1) = false := bne_eq_false_iff_eq.2 fb64_21
  clear b64_2 htb64_2
  have b128_2 := Hb128_2.out
  obtain ⟨tb128_2, htb128_2⟩ : ∃ t : Nat, t = e2 / 128 % 2 := ⟨_, rfl⟩
  have ib128_2 : (e2 : Int) / 128 % 2 = (tb128_2 : Int) := by rw [htb128_2]; rfl
  have jb128_2 : Int.tmod (Int.tdiv (e2 : Int) 128) 2 = (tb128_2 : Int) := by rw [htb128_2]; rfl
  have ub128_2 : wrap64 ((e2 : Int) / 128) = (e2 : Int) / 128 := wrapQ e2 128 lb
  have kb128_2 : Int.tmod ((e2 : Int) / 128) 2 = (tb128_2 : Int) := by rw [htb128_2]; rfl
  have fb128_20 : ¬ (tb128_2 : Int) = 0 := ne_cast (c := 0) (by rw [htb128_2]; rw [b128_2]; decide)
  have gb128_20 : ((tb128_2 : Int) == 0) = false := beq_eq_false_iff_ne.2 fb128_20
  have nb128_20 : ((tb128_2 : Int) != 0) = true := bne_iff_ne.2 fb128_20
  have fb128_21 : (tb128_2 : Int) = 1 := eq_cast (c := 1) (by rw [htb128_2]; exact b128_2)
  have gb128_21 : ((tb128_2 : Int) == 1) = true := beq_iff_eq.2 fb128_21
  have nb128_21 : ((tb128_2 : Int) != 1) = false := bne_eq_false_iff_eq.2 fb128_21
  clear b128_2 htb128_2
  clear lb
  go_upto_region 26 with fail
  clear ib1_2 jb1_2 fb1_20 gb1_20 nb1_20 fb1_21 gb1_21 nb1_21 ib2_4 jb2_4 ub2_4 kb2_4 fb2_42 gb2_42 nb2_42 ib4_2 jb4_2 ub4_2 kb4_2 fb4_20 gb4_20 nb4_20 fb4_21 gb4_21 nb4_21 ib16_2 jb16_2 ub16_2 kb16_2 fb16_20 gb16_20 nb16_20 fb16_21 gb16_21 nb16_21 ib64_2 jb64_2 ub64_2 kb64_2 fb64_20 gb64_20 nb64_20 fb64_21 gb64_21 nb64_21 ib128_2 jb128_2 ub128_2 kb128_2 fb128_20 gb128_20 nb128_20 fb128_21 gb128_21 nb128_21
  go_upto_region 28 with fail
  have hcr := HCR.out w3 HO3.out
  have lb := HE2.out
  have lv := HVA.out
  have lp := HPA.out
  have lg := HGE.out
  have lN := HN.out
  have ipa : (e2 : Int) / 1024 * 4096 + (va : Int) % 4096 = (pa : Int) := by omega
  have vpa : wrap64 (pa : Int) = (pa : Int) := by simp only [wrap64]; omega
  have y1 : wrap64 ((e2 : Int) / 1024) = (e2 : Int) / 1024 := by simp only [wrap64]; omega
  have y2 : wrap64 ((e2 : Int) / 1024 * 4096) = (e2 : Int) / 1024 * 4096 := by simp only [wrap64]; omega
  have y3 : Int.tmod (va : Int) 4096 = (va : Int) % 4096 := Int.tmod_eq_emod_of_nonneg (by omega)
  have cge : ¬ (N : Int) ≤ (pa : Int) := by omega
  clear lb lv lp lg lN
  go_wp2_with fail
  all_goals
    go_ret2
    exact ⟨rfl, HO3.out⟩
end Go.Proofs.YthcngafjklihcaaDoor

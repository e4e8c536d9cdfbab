/- Straight walks of the document's Walk. -/
import Derived.Test.YthcngafjklihcaaDoorX0
namespace Go.Proofs.YthcngafjklihcaaDoor
open Go.ChangeShapes Go.WideShapes Go.ChangeAt Go.RowKit
open Go.Vx

set_option maxRecDepth 100000 in
set_option maxHeartbeats 2000000 in
theorem rw0_f1Rb1 {w : World} {br bb n : Nat} {f : Nat → UInt8} (h : RefAt w br bb n f) (r : Nat) (hr : r < n) (va : Nat) (hva : va < 4294967296) (e1 : Nat) (he1 : wordF f (4096 * r + 4 * (va / 4194304)) = e1) (a2_2 : e1 / 2 % 2 = 1) (a1_2 : e1 % 2 = 0) :
    Calls Tryd.prog 51 #[.pointer (some ⟨br, 0, none⟩), .int .i64 (r : Int), .int .i64 (va : Int), .int .i64 0] w fun x w' => x = .returned (.tuple #[.int .i64 0, .int .i64 12]) ∧ Only (fun _ => False) w w' := by
  have Ha2_2 := Vx.hid a2_2
  have Ha1_2 := Vx.hid a1_2
  clear a2_2 a1_2
  have hn := h.top
  have hk1 : va / 4194304 < 1024 := by omega
  have l1 : e1 < 4294967296 := by rw [← he1]; exact wordF_lt _ _
  have HRW := Vx.hid (refWord_any h ((4096 * r + 4 * (va / 4194304) : Nat) : Int))
  rw [wordR_in f n r (va / 4194304) hr hk1, he1] at HRW
  obtain ⟨pl, hpl⟩ : ∃ p : Nat, p = 4096 * r + 4 * (va / 4194304) := ⟨_, rfl⟩
  rw [← hpl] at HRW
  have v1 : wrap64 ((va : Int) / 4194304) = (va : Int) / 4194304 := by simp only [wrap64]; omega
  have v2 : wrap64 ((va : Int) / 4194304 * 4) = (va : Int) / 4194304 * 4 := by simp only [wrap64]; omega
  have v3 : wrap64 (pl : Int) = (pl : Int) := by simp only [wrap64]; omega
  have e3 : 4096 * (r : Int) + (va : Int) / 4194304 * 4 = (pl : Int) := by omega
  have rb : (r : Int) ≤ 255 := by omega
  have dr1 : decide ((r : Int) < 0) = false := decide_eq_false (by omega)
  have dr2 : ¬ 255 < (r : Int) := by omega
  have HE1 := Vx.hid l1
  have HVA := Vx.hid hva
  have HNN := Vx.hid hn
  clear h hn hk1 l1 hpl he1 hr hva
  go_enter Tryd.func51, Tryd.ntmps51
  go_upto_region 14 with fail
  go_wp2_with fail
  refine HRW.out.mono ?_
  rintro e w2 ⟨rfl, ho⟩
  have HO := Vx.hid ho
  clear ho e3 v1 v2 v3 rb HRW
  go_upto_region 18 with fail
  have lb := HE1.out
  have a1_2 := Ha1_2.out
  obtain ⟨ta1_2, hta1_2⟩ : ∃ t : Nat, t = e1 % 2 := ⟨_, rfl⟩
  have ia1_2 : (e1 : Int) % 2 = (ta1_2 : Int) := by rw [hta1_2]; rfl
  have ja1_2 : Int.tmod (e1 : Int) 2 = (ta1_2 : Int) := by rw [hta1_2]; rfl
  have fa1_20 : (ta1_2 : Int) = 0 := eq_cast (c := 0) (by rw [hta1_2]; exact a1_2)
  have ga1_20 : ((ta1_2 : Int) == 0) = true := beq_iff_eq.2 fa1_20
  have na1_20 : ((ta1_2 : Int) != 0) = false := bne_eq_false_iff_eq.2 fa1_20
  have fa1_21 : ¬ (ta1_2 : Int) = 1 := ne_cast (c := 1) (by rw [hta1_2]; rw [a1_2]; decide)
  have ga1_21 : ((ta1_2 : Int) == 1) = false := beq_eq_false_iff_ne.2 fa1_21
  have na1_21 : ((ta1_2 : Int) != 1) = true := bne_iff_ne.2 fa1_21
  clear a1_2 hta1_2
  clear lb
  go_upto_region 23 with fail
  clear ia1_2 ja1_2 fa1_20 ga1_20 na1_20 fa1_21 ga1_21 na1_21
  have lb := HE1.out
  have a2_2 := Ha2_2.out
  obtain ⟨ta2_2, hta2_2⟩ : ∃ t : Nat, t = e1 / 2 % 2 := ⟨_, rfl⟩
  have ia2_2 : (e1 : Int) / 2 % 2 = (ta2_2 : Int) := by rw [hta2_2]; rfl
  have ja2_2 : Int.tmod (Int.tdiv (e1 : Int) 2) 2 = (ta2_2 : Int) := by rw [hta2_2]; rfl
  have ua2_2 : wrap64 ((e1 : Int) / 2) = (e1 : Int) / 2 := wrapQ e1 2 lb
  have ka2_2 : Int.tmod ((e1 : Int) / 2) 2 = (ta2_2 : Int) := by rw [hta2_2]; rfl
  have fa2_20 : ¬ (ta2_2 : Int) = 0 := ne_cast (c := 0) (by rw [hta2_2]; rw [a2_2]; decide)
  have ga2_20 : ((ta2_2 : Int) == 0) = false := beq_eq_false_iff_ne.2 fa2_20
  have na2_20 : ((ta2_2 : Int) != 0) = true := bne_iff_ne.2 fa2_20
  have fa2_21 : (ta2_2 : Int) = 1 := eq_cast (c := 1) (by rw [hta2_2]; exact a2_2)
  have ga2_21 : ((ta2_2 : Int) == 1) = true := beq_iff_eq.2 fa2_21
  have na2_21 : ((ta2_2 : Int) != 1) = false := bne_eq_false_iff_eq.2 fa2_21
  clear a2_2 hta2_2
  clear lb
  go_upto_region 24 with fail
  clear ia2_2 ja2_2 ua2_2 ka2_2 fa2_20 ga2_20 na2_20 fa2_21 ga2_21 na2_21
  have lb := HE1.out
  have a1_2 := Ha1_2.out
  obtain ⟨ta1_2, hta1_2⟩ : ∃ t : Nat, t = e1 % 2 := ⟨_, rfl⟩
  have ia1_2 : (e1 : Int) % 2 = (ta1_2 : Int) := by rw [hta1_2]; rfl
  have ja1_2 : Int.tmod (e1 : Int) 2 = (ta1_2 : Int) := by rw [hta1_2]; rfl
  have fa1_20 : (ta1_2 : Int) = 0 := eq_cast (c := 0) (by rw [hta1_2]; exact a1_2)
  have ga1_20 : ((ta1_2 : Int) == 0) = true := beq_iff_eq.2 fa1_20
  have na1_20 : ((ta1_2 : Int) != 0) = false := bne_eq_false_iff_eq.2 fa1_20
  have fa1_21 : ¬ (ta1_2 : Int) = 1 := ne_cast (c := 1) (by rw [hta1_2]; rw [a1_2]; decide)
  have ga1_21 : ((ta1_2 : Int) == 1) = false := beq_eq_false_iff_ne.2 fa1_21
  have na1_21 : ((ta1_2 : Int) != 1) = true := bne_iff_ne.2 fa1_21
  clear a1_2 hta1_2
  clear lb
  go_wp2_with fail
  all_goals
    go_ret2
    exact ⟨rfl, HO.out⟩
set_option maxRecDepth 100000 in
set_option maxHeartbeats 2000000 in
theorem rw0_f1Xb1 {w : World} {br bb n : Nat} {f : Nat → UInt8} (h : RefAt w br bb n f) (r : Nat) (hr : r < n) (va : Nat) (hva : va < 4294967296) (e1 : Nat) (he1 : wordF f (4096 * r + 4 * (va / 4194304)) = e1) (a2_2 : e1 / 2 % 2 = 0) (a8_2 : e1 / 8 % 2 = 1) (a1_2 : e1 % 2 = 0) :
    Calls Tryd.prog 51 #[.pointer (some ⟨br, 0, none⟩), .int .i64 (r : Int), .int .i64 (va : Int), .int .i64 0] w fun x w' => x = .returned (.tuple #[.int .i64 0, .int .i64 12]) ∧ Only (fun _ => False) w w' := by
  have Ha2_2 := Vx.hid a2_2
  have Ha8_2 := Vx.hid a8_2
  have Ha1_2 := Vx.hid a1_2
  clear a2_2 a8_2 a1_2
  have hn := h.top
  have hk1 : va / 4194304 < 1024 := by omega
  have l1 : e1 < 4294967296 := by rw [← he1]; exact wordF_lt _ _
  have HRW := Vx.hid (refWord_any h ((4096 * r + 4 * (va / 4194304) : Nat) : Int))
  rw [wordR_in f n r (va / 4194304) hr hk1, he1] at HRW
  obtain ⟨pl, hpl⟩ : ∃ p : Nat, p = 4096 * r + 4 * (va / 4194304) := ⟨_, rfl⟩
  rw [← hpl] at HRW
  have v1 : wrap64 ((va : Int) / 4194304) = (va : Int) / 4194304 := by simp only [wrap64]; omega
  have v2 : wrap64 ((va : Int) / 4194304 * 4) = (va : Int) / 4194304 * 4 := by simp only [wrap64]; omega
  have v3 : wrap64 (pl : Int) = (pl : Int) := by simp only [wrap64]; omega
  have e3 : 4096 * (r : Int) + (va : Int) / 4194304 * 4 = (pl : Int) := by omega
  have rb : (r : Int) ≤ 255 := by omega
  have dr1 : decide ((r : Int) < 0) = false := decide_eq_false (by omega)
  have dr2 : ¬ 255 < (r : Int) := by omega
  have HE1 := Vx.hid l1
  have HVA := Vx.hid hva
  have HNN := Vx.hid hn
  clear h hn hk1 l1 hpl he1 hr hva
  go_enter Tryd.func51, Tryd.ntmps51
  go_upto_region 14 with fail
  go_wp2_with fail
  refine HRW.out.mono ?_
  rintro e w2 ⟨rfl, ho⟩
  have HO := Vx.hid ho
  clear ho e3 v1 v2 v3 rb HRW
  go_upto_region 18 with fail
  have lb := HE1.out
  have a1_2 := Ha1_2.out
  obtain ⟨ta1_2, hta1_2⟩ : ∃ t : Nat, t = e1 % 2 := ⟨_, rfl⟩
  have ia1_2 : (e1 : Int) % 2 = (ta1_2 : Int) := by rw [hta1_2]; rfl
  have ja1_2 : Int.tmod (e1 : Int) 2 = (ta1_2 : Int) := by rw [hta1_2]; rfl
  have fa1_20 : (ta1_2 : Int) = 0 := eq_cast (c := 0) (by rw [hta1_2]; exact a1_2)
  have ga1_20 : ((ta1_2 : Int) == 0) = true := beq_iff_eq.2 fa1_20
  have na1_20 : ((ta1_2 : Int) != 0) = false := bne_eq_false_iff_eq.2 fa1_20
  have fa1_21 : ¬ (ta1_2 : Int) = 1 := ne_cast (c := 1) (by rw [hta1_2]; rw [a1_2]; decide)
  have ga1_21 : ((ta1_2 : Int) == 1) = false := beq_eq_false_iff_ne.2 fa1_21
  have na1_21 : ((ta1_2 : Int) != 1) = true := bne_iff_ne.2 fa1_21
  clear a1_2 hta1_2
  clear lb
  go_upto_region 23 with fail
  clear ia1_2 ja1_2 fa1_20 ga1_20 na1_20 fa1_21 ga1_21 na1_21
  have lb := HE1.out
  have a2_2 := Ha2_2.out
  obtain ⟨ta2_2, hta2_2⟩ : ∃ t : Nat, t = e1 / 2 % 2 := ⟨_, rfl⟩
  have ia2_2 : (e1 : Int) / 2 % 2 = (ta2_2 : Int) := by rw [hta2_2]; rfl
  have ja2_2 : Int.tmod (Int.tdiv (e1 : Int) 2) 2 = (ta2_2 : Int) := by rw [hta2_2]; rfl
  have ua2_2 : wrap64 ((e1 : Int) / 2) = (e1 : Int) / 2 := wrapQ e1 2 lb
  have ka2_2 : Int.tmod ((e1 : Int) / 2) 2 = (ta2_2 : Int) := by rw [hta2_2]; rfl
  have fa2_20 : (ta2_2 : Int) = 0 := eq_cast (c := 0) (by rw [hta2_2]; exact a2_2)
  have ga2_20 : ((ta2_2 : Int) == 0) = true := beq_iff_eq.2 fa2_20
  have na2_20 : ((ta2_2 : Int) != 0) = false := bne_eq_false_iff_eq.2 fa2_20
  have fa2_21 : ¬ (ta2_2 : Int) = 1 := ne_cast (c := 1) (by rw [hta2_2]; rw [a2_2]; decide)
  have ga2_21 : ((ta2_2 : Int) == 1) = false := beq_eq_false_iff_ne.2 fa2_21
  have na2_21 : ((ta2_2 : Int) != 1) = true := bne_iff_ne.2 fa2_21
  clear a2_2 hta2_2
  have a8_2 := Ha8_2.out
  obtain ⟨ta8_2, hta8_2⟩ : ∃ t : Nat, t = e1 / 8 % 2 := ⟨_, rfl⟩
  have ia8_2 : (e1 : Int) / 8 % 2 = (ta8_2 : Int) := by rw [hta8_2]; rfl
  have ja8_2 : Int.tmod (Int.tdiv (e1 : Int) 8) 2 = (ta8_2 : Int) := by rw [hta8_2]; rfl
  have ua8_2 : wrap64 ((e1 : Int) / 8) = (e1 : Int) / 8 := wrapQ e1 8 lb
  have ka8_2 : Int.tmod ((e1 : Int) / 8) 2 = (ta8_2 : Int) := by rw [hta8_2]; rfl
  have fa8_20 : ¬ (ta8_2 : Int) = 0 := ne_cast (c := 0) (by rw [hta8_2]; rw [a8_2]; decide)
  have ga8_20 : ((ta8_2 : Int) == 0) = false := beq_eq_false_iff_ne.2 fa8_20
  have na8_20 : ((ta8_2 : Int) != 0) = true := bne_iff_ne.2 fa8_20
  have fa8_21 : (ta8_2 : Int) = 1 := eq_cast (c := 1) (by rw [hta8_2]; exact a8_2)
  have ga8_21 : ((ta8_2 : Int) == 1) = true := beq_iff_eq.2 fa8_21
  have na8_21 : ((ta8_2 : Int) != 1) = false := bne_eq_false_iff_eq.2 fa8_21
  clear a8_2 hta8_2
  clear lb
  go_upto_region 24 with fail
  clear ia2_2 ja2_2 ua2_2 ka2_2 fa2_20 ga2_20 na2_20 fa2_21 ga2_21 na2_21 ia8_2 ja8_2 ua8_2 ka8_2 fa8_20 ga8_20 na8_20 fa8_21 ga8_21 na8_21
  have lb := HE1.out
  have a1_2 := Ha1_2.out
  obtain ⟨ta1_2, hta1_2⟩ : ∃ t : Nat, t = e1 % 2 := ⟨_, rfl⟩
  have ia1_2 : (e1 : Int) % 2 = (ta1_2 : Int) := by rw [hta1_2]; rfl
  have ja1_2 : Int.tmod (e1 : Int) 2 = (ta1_2 : Int) := by rw [hta1_2]; rfl
  have fa1_20 : (ta1_2 : Int) = 0 := eq_cast (c := 0) (by rw [hta1_2]; exact a1_2)
  have ga1_20 : ((ta1_2 : Int) == 0) = true := beq_iff_eq.2 fa1_20
  have na1_20 : ((ta1_2 : Int) != 0) = false := bne_eq_false_iff_eq.2 fa1_20
  have fa1_21 : ¬ (ta1_2 : Int) = 1 := ne_cast (c := 1) (by rw [hta1_2]; rw [a1_2]; decide)
  have ga1_21 : ((ta1_2 : Int) == 1) = false := beq_eq_false_iff_ne.2 fa1_21
  have na1_21 : ((ta1_2 : Int) != 1) = true := bne_iff_ne.2 fa1_21
  clear a1_2 hta1_2
  have a8_2 := Ha8_2.out
  obtain ⟨ta8_2, hta8_2⟩ : ∃ t : Nat, t = e1 / 8 % 2 := ⟨_, rfl⟩
  have ia8_2 : (e1 : Int) / 8 % 2 = (ta8_2 : Int) := by rw [hta8_2]; rfl
  have ja8_2 : Int.tmod (Int.tdiv (e1 : Int) 8) 2 = (ta8_2 : Int) := by rw [hta8_2]; rfl
  have ua8_2 : wrap64 ((e1 : Int) / 8) = (e1 : Int) / 8 := wrapQ e1 8 lb
  have ka8_2 : Int.tmod ((e1 : Int) / 8) 2 = (ta8_2 : Int) := by rw [hta8_2]; rfl
  have fa8_20 : ¬ (ta8_2 : Int) = 0 := ne_cast (c := 0) (by rw [hta8_2]; rw [a8_2]; decide)
  have ga8_20 : ((ta8_2 : Int) == 0) = false := beq_eq_false_iff_ne.2 fa8_20
  have na8_20 : ((ta8_2 : Int) != 0) = true := bne_iff_ne.2 fa8_20
  have fa8_21 : (ta8_2 : Int) = 1 := eq_cast (c := 1) (by rw [hta8_2]; exact a8_2)
  have ga8_21 : ((ta8_2 : Int) == 1) = true := beq_iff_eq.2 fa8_21
  have na8_21 : ((ta8_2 : Int) != 1) = false := bne_eq_false_iff_eq.2 fa8_21
  clear a8_2 hta8_2
  clear lb
  go_wp2_with fail
  all_goals
    go_ret2
    exact ⟨rfl, HO.out⟩
set_option maxRecDepth 100000 in
set_option maxHeartbeats 2000000 in
theorem rw0_f1Nb1 {w : World} {br bb n : Nat} {f : Nat → UInt8} (h : RefAt w br bb n f) (r : Nat) (hr : r < n) (va : Nat) (hva : va < 4294967296) (e1 : Nat) (he1 : wordF f (4096 * r + 4 * (va / 4194304)) = e1) (a2_2 : e1 / 2 % 2 = 0) (a8_2 : e1 / 8 % 2 = 0) (a1_2 : e1 % 2 = 0) :
    Calls Tryd.prog 51 #[.pointer (some ⟨br, 0, none⟩), .int .i64 (r : Int), .int .i64 (va : Int), .int .i64 0] w fun x w' => x = .returned (.tuple #[.int .i64 0, .int .i64 12]) ∧ Only (fun _ => False) w w' := by
  have Ha2_2 := Vx.hid a2_2
  have Ha8_2 := Vx.hid a8_2
  have Ha1_2 := Vx.hid a1_2
  clear a2_2 a8_2 a1_2
  have hn := h.top
  have hk1 : va / 4194304 < 1024 := by omega
  have l1 : e1 < 4294967296 := by rw [← he1]; exact wordF_lt _ _
  have HRW := Vx.hid (refWord_any h ((4096 * r + 4 * (va / 4194304) : Nat) : Int))
  rw [wordR_in f n r (va / 4194304) hr hk1, he1] at HRW
  obtain ⟨pl, hpl⟩ : ∃ p : Nat, p = 4096 * r + 4 * (va / 4194304) := ⟨_, rfl⟩
  rw [← hpl] at HRW
  have v1 : wrap64 ((va : Int) / 4194304) = (va : Int) / 4194304 := by simp only [wrap64]; omega
  have v2 : wrap64 ((va : Int) / 4194304 * 4) = (va : Int) / 4194304 * 4 := by simp only [wrap64]; omega
  have v3 : wrap64 (pl : Int) = (pl : Int) := by simp only [wrap64]; omega
  have e3 : 4096 * (r : Int) + (va : Int) / 4194304 * 4 = (pl : Int) := by omega
  have rb : (r : Int) ≤ 255 := by omega
  have dr1 : decide ((r : Int) < 0) = false := decide_eq_false (by omega)
  have dr2 : ¬ 255 < (r : Int) := by omega
  have HE1 := Vx.hid l1
  have HVA := Vx.hid hva
  have HNN := Vx.hid hn
  clear h hn hk1 l1 hpl he1 hr hva
  go_enter Tryd.func51, Tryd.ntmps51
  go_upto_region 14 with fail
  go_wp2_with fail
  refine HRW.out.mono ?_
  rintro e w2 ⟨rfl, ho⟩
  have HO := Vx.hid ho
  clear ho e3 v1 v2 v3 rb HRW
  go_upto_region 18 with fail
  have lb := HE1.out
  have a1_2 := Ha1_2.out
  obtain ⟨ta1_2, hta1_2⟩ : ∃ t : Nat, t = e1 % 2 := ⟨_, rfl⟩
  have ia1_2 : (e1 : Int) % 2 = (ta1_2 : Int) := by rw [hta1_2]; rfl
  have ja1_2 : Int.tmod (e1 : Int) 2 = (ta1_2 : Int) := by rw [hta1_2]; rfl
  have fa1_20 : (ta1_2 : Int) = 0 := eq_cast (c := 0) (by rw [hta1_2]; exact a1_2)
  have ga1_20 : ((ta1_2 : Int) == 0) = true := beq_iff_eq.2 fa1_20
  have na1_20 : ((ta1_2 : Int) != 0) = false := bne_eq_false_iff_eq.2 fa1_20
  have fa1_21 : ¬ (ta1_2 : Int) = 1 := ne_cast (c := 1) (by rw [hta1_2]; rw [a1_2]; decide)
  have ga1_21 : ((ta1_2 : Int) == 1) = false := beq_eq_false_iff_ne.2 fa1_21
  have na1_21 : ((ta1_2 : Int) != 1) = true := bne_iff_ne.2 fa1_21
  clear a1_2 hta1_2
  clear lb
  go_upto_region 23 with fail
  clear ia1_2 ja1_2 fa1_20 ga1_20 na1_20 fa1_21 ga1_21 na1_21
  have lb := HE1.out
  have a2_2 := Ha2_2.out
  obtain ⟨ta2_2, hta2_2⟩ : ∃ t : Nat, t = e1 / 2 % 2 := ⟨_, rfl⟩
  have ia2_2 : (e1 : Int) / 2 % 2 = (ta2_2 : Int) := by rw [hta2_2]; rfl
  have ja2_2 : Int.tmod (Int.tdiv (e1 : Int) 2) 2 = (ta2_2 : Int) := by rw [hta2_2]; rfl
  have ua2_2 : wrap64 ((e1 : Int) / 2) = (e1 : Int) / 2 := wrapQ e1 2 lb
  have ka2_2 : Int.tmod ((e1 : Int) / 2) 2 = (ta2_2 : Int) := by rw [hta2_2]; rfl
  have fa2_20 : (ta2_2 : Int) = 0 := eq_cast (c := 0) (by rw [hta2_2]; exact a2_2)
  have ga2_20 : ((ta2_2 : Int) == 0) = true := beq_iff_eq.2 fa2_20
  have na2_20 : ((ta2_2 : Int) != 0) = false := bne_eq_false_iff_eq.2 fa2_20
  have fa2_21 : ¬ (ta2_2 : Int) = 1 := ne_cast (c := 1) (by rw [hta2_2]; rw [a2_2]; decide)
  have ga2_21 : ((ta2_2 : Int) == 1) = false := beq_eq_false_iff_ne.2 fa2_21
  have na2_21 : ((ta2_2 : Int) != 1) = true := bne_iff_ne.2 fa2_21
  clear a2_2 hta2_2
  have a8_2 := Ha8_2.out
  obtain ⟨ta8_2, hta8_2⟩ : ∃ t : Nat, t = e1 / 8 % 2 := ⟨_, rfl⟩
  have ia8_2 : (e1 : Int) / 8 % 2 = (ta8_2 : Int) := by rw [hta8_2]; rfl
  have ja8_2 : Int.tmod (Int.tdiv (e1 : Int) 8) 2 = (ta8_2 : Int) := by rw [hta8_2]; rfl
  have ua8_2 : wrap64 ((e1 : Int) / 8) = (e1 : Int) / 8 := wrapQ e1 8 lb
  have ka8_2 : Int.tmod ((e1 : Int) / 8) 2 = (ta8_2 : Int) := by rw [hta8_2]; rfl
  have fa8_20 : (ta8_2 : Int) = 0 := eq_cast (c := 0) (by rw [hta8_2]; exact a8_2)
  have ga8_20 : ((ta8_2 : Int) == 0) = true := beq_iff_eq.2 fa8_20
  have na8_20 : ((ta8_2 : Int) != 0) = false := bne_eq_false_iff_eq.2 fa8_20
  have fa8_21 : ¬ (ta8_2 : Int) = 1 := ne_cast (c := 1) (by rw [hta8_2]; rw [a8_2]; decide)
  have ga8_21 : ((ta8_2 : Int) == 1) = false := beq_eq_false_iff_ne.2 fa8_21
  have na8_21 : ((ta8_2 : Int) != 1) = true := bne_iff_ne.2 fa8_21
  clear a8_2 hta8_2
  clear lb
  go_upto_region 24 with fail
  clear ia2_2 ja2_2 ua2_2 ka2_2 fa2_20 ga2_20 na2_20 fa2_21 ga2_21 na2_21 ia8_2 ja8_2 ua8_2 ka8_2 fa8_20 ga8_20 na8_20 fa8_21 ga8_21 na8_21
  have lb := HE1.out
  have a1_2 := Ha1_2.out
  obtain ⟨ta1_2, hta1_2⟩ : ∃ t : Nat, t = e1 % 2 := ⟨_, rfl⟩
  have ia1_2 : (e1 : Int) % 2 = (ta1_2 : Int) := by rw [hta1_2]; rfl
  have ja1_2 : Int.tmod (e1 : Int) 2 = (ta1_2 : Int) := by rw [hta1_2]; rfl
  have fa1_20 : (ta1_2 : Int) = 0 := eq_cast (c := 0) (by rw [hta1_2]; exact a1_2)
  have ga1_20 : ((ta1_2 : Int) == 0) = true := beq_iff_eq.2 fa1_20
  have na1_20 : ((ta1_2 : Int) != 0) = false := bne_eq_false_iff_eq.2 fa1_20
  have fa1_21 : ¬ (ta1_2 : Int) = 1 := ne_cast (c := 1) (by rw [hta1_2]; rw [a1_2]; decide)
  have ga1_21 : ((ta1_2 : Int) == 1) = false := beq_eq_false_iff_ne.2 fa1_21
  have na1_21 : ((ta1_2 : Int) != 1) = true := bne_iff_ne.2 fa1_21
  clear a1_2 hta1_2
  have a8_2 := Ha8_2.out
  obtain ⟨ta8_2, hta8_2⟩ : ∃ t : Nat, t = e1 / 8 % 2 := ⟨_, rfl⟩
  have ia8_2 : (e1 : Int) / 8 % 2 = (ta8_2 : Int) := by rw [hta8_2]; rfl
  have ja8_2 : Int.tmod (Int.tdiv (e1 : Int) 8) 2 = (ta8_2 : Int) := by rw [hta8_2]; rfl
  have ua8_2 : wrap64 ((e1 : Int) / 8) = (e1 : Int) / 8 := wrapQ e1 8 lb
  have ka8_2 : Int.tmod ((e1 : Int) / 8) 2 = (ta8_2 : Int) := by rw [hta8_2]; rfl
  have fa8_20 : (ta8_2 : Int) = 0 := eq_cast (c := 0) (by rw [hta8_2]; exact a8_2)
  have ga8_20 : ((ta8_2 : Int) == 0) = true := beq_iff_eq.2 fa8_20
  have na8_20 : ((ta8_2 : Int) != 0) = false := bne_eq_false_iff_eq.2 fa8_20
  have fa8_21 : ¬ (ta8_2 : Int) = 1 := ne_cast (c := 1) (by rw [hta8_2]; rw [a8_2]; decide)
  have ga8_21 : ((ta8_2 : Int) == 1) = false := beq_eq_false_iff_ne.2 fa8_21
  have na8_21 : ((ta8_2 : Int) != 1) = true := bne_iff_ne.2 fa8_21
  clear a8_2 hta8_2
  clear lb
  go_wp2_with fail
  all_goals
    go_ret2
    exact ⟨rfl, HO.out⟩
set_option maxRecDepth 100000 in
set_option maxHeartbeats 2000000 in
theorem rw0_f2N {w : World} {br bb n : Nat} {f : Nat → UInt8} (h : RefAt w br bb n f) (r : Nat) (hr : r < n) (va : Nat) (hva : va < 4294967296) (e1 : Nat) (he1 : wordF f (4096 * r + 4 * (va / 4194304)) = e1) (a2_2 : e1 / 2 % 2 = 0) (a8_2 : e1 / 8 % 2 = 0) (a1_2 : e1 % 2 = 1) (a2_8 : e1 / 2 % 8 ≠ 0) :
    Calls Tryd.prog 51 #[.pointer (some ⟨br, 0, none⟩), .int .i64 (r : Int), .int .i64 (va : Int), .int .i64 0] w fun x w' => x = .returned (.tuple #[.int .i64 0, .int .i64 12]) ∧ Only (fun _ => False) w w' := by
  have Ha2_2 := Vx.hid a2_2
  have Ha8_2 := Vx.hid a8_2
  have Ha1_2 := Vx.hid a1_2
  have Ha2_8 := Vx.hid a2_8
  clear a2_2 a8_2 a1_2 a2_8
  have hn := h.top
  have hk1 : va / 4194304 < 1024 := by omega
  have l1 : e1 < 4294967296 := by rw [← he1]; exact wordF_lt _ _
  have HRW := Vx.hid (refWord_any h ((4096 * r + 4 * (va / 4194304) : Nat) : Int))
  rw [wordR_in f n r (va / 4194304) hr hk1, he1] at HRW
  obtain ⟨pl, hpl⟩ : ∃ p : Nat, p = 4096 * r + 4 * (va / 4194304) := ⟨_, rfl⟩
  rw [← hpl] at HRW
  have v1 : wrap64 ((va : Int) / 4194304) = (va : Int) / 4194304 := by simp only [wrap64]; omega
  have v2 : wrap64 ((va : Int) / 4194304 * 4) = (va : Int) / 4194304 * 4 := by simp only [wrap64]; omega
  have v3 : wrap64 (pl : Int) = (pl : Int) := by simp only [wrap64]; omega
  have e3 : 4096 * (r : Int) + (va : Int) / 4194304 * 4 = (pl : Int) := by omega
  have rb : (r : Int) ≤ 255 := by omega
  have dr1 : decide ((r : Int) < 0) = false := decide_eq_false (by omega)
  have dr2 : ¬ 255 < (r : Int) := by omega
  have HE1 := Vx.hid l1
  have HVA := Vx.hid hva
  have HNN := Vx.hid hn
  clear h hn hk1 l1 hpl he1 hr hva
  go_enter Tryd.func51, Tryd.ntmps51
  go_upto_region 14 with fail
  go_wp2_with fail
  refine HRW.out.mono ?_
  rintro e w2 ⟨rfl, ho⟩
  have HO := Vx.hid ho
  clear ho e3 v1 v2 v3 rb HRW
  go_upto_region 18 with fail
  have lb := HE1.out
  have a1_2 := Ha1_2.out
  obtain ⟨ta1_2, hta1_2⟩ : ∃ t : Nat, t = e1 % 2 := ⟨_, rfl⟩
  have ia1_2 : (e1 : Int) % 2 = (ta1_2 : Int) := by rw [hta1_2]; rfl
  have ja1_2 : Int.tmod (e1 : Int) 2 = (ta1_2 : Int) := by rw [hta1_2]; rfl
  have fa1_20 : ¬ (ta1_2 : Int) = 0 := ne_cast (c := 0) (by rw [hta1_2]; rw [a1_2]; decide)
  have ga1_20 : ((ta1_2 : Int) == 0) = false := beq_eq_false_iff_ne.2 fa1_20
  have na1_20 : ((ta1_2 : Int) != 0) = true := bne_iff_ne.2 fa1_20
  have fa1_21 : (ta1_2 : Int) = 1 := eq_cast (c := 1) (by rw [hta1_2]; exact a1_2)
  have ga1_21 : ((ta1_2 : Int) == 1) = true := beq_iff_eq.2 fa1_21
  have na1_21 : ((ta1_2 : Int) != 1) = false := bne_eq_false_iff_eq.2 fa1_21
  clear a1_2 hta1_2
  have a2_8 := Ha2_8.out
  obtain ⟨ta2_8, hta2_8⟩ : ∃ t : Nat, t = e1 / 2 % 8 := ⟨_, rfl⟩
  have ia2_8 : (e1 : Int) / 2 % 8 = (ta2_8 : Int) := by rw [hta2_8]; rfl
  have ja2_8 : Int.tmod (Int.tdiv (e1 : Int) 2) 8 = (ta2_8 : Int) := by rw [hta2_8]; rfl
  have ua2_8 : wrap64 ((e1 : Int) / 2) = (e1 : Int) / 2 := wrapQ e1 2 lb
  have ka2_8 : Int.tmod ((e1 : Int) / 2) 8 = (ta2_8 : Int) := by rw [hta2_8]; rfl
  have fa2_80 : ¬ (ta2_8 : Int) = 0 := ne_cast (c := 0) (by rw [hta2_8]; exact a2_8)
  have ga2_80 : ((ta2_8 : Int) == 0) = false := beq_eq_false_iff_ne.2 fa2_80
  have na2_80 : ((ta2_8 : Int) != 0) = true := bne_iff_ne.2 fa2_80
  clear a2_8 hta2_8
  clear lb
  go_upto_region 23 with fail
  clear ia1_2 ja1_2 fa1_20 ga1_20 na1_20 fa1_21 ga1_21 na1_21 ia2_8 ja2_8 ua2_8 ka2_8 fa2_80 ga2_80 na2_80
  have lb := HE1.out
  have a2_2 := Ha2_2.out
  obtain ⟨ta2_2, hta2_2⟩ : ∃ t : Nat, t = e1 / 2 % 2 := ⟨_, rfl⟩
  have ia2_2 : (e1 : Int) / 2 % 2 = (ta2_2 : Int) := by rw [hta2_2]; rfl
  have ja2_2 : Int.tmod (Int.tdiv (e1 : Int) 2) 2 = (ta2_2 : Int) := by rw [hta2_2]; rfl
  have ua2_2 : wrap64 ((e1 : Int) / 2) = (e1 : Int) / 2 := wrapQ e1 2 lb
  have ka2_2 : Int.tmod ((e1 : Int) / 2) 2 = (ta2_2 : Int) := by rw [hta2_2]; rfl
  have fa2_20 : (ta2_2 : Int) = 0 := eq_cast (c := 0) (by rw [hta2_2]; exact a2_2)
  have ga2_20 : ((ta2_2 : Int) == 0) = true := beq_iff_eq.2 fa2_20
  have na2_20 : ((ta2_2 : Int) != 0) = false := bne_eq_false_iff_eq.2 fa2_20
  have fa2_21 : ¬ (ta2_2 : Int) = 1 := ne_cast (c := 1) (by rw [hta2_2]; rw [a2_2]; decide)
  have ga2_21 : ((ta2_2 : Int) == 1) = false := beq_eq_false_iff_ne.2 fa2_21
  have na2_21 : ((ta2_2 : Int) != 1) = true := bne_iff_ne.2 fa2_21
  clear a2_2 hta2_2
  have a8_2 := Ha8_2.out
  obtain ⟨ta8_2, hta8_2⟩ : ∃ t : Nat, t = e1 / 8 % 2 := ⟨_, rfl⟩
  have ia8_2 : (e1 : Int) / 8 % 2 = (ta8_2 : Int) := by rw [hta8_2]; rfl
  have ja8_2 : Int.tmod (Int.tdiv (e1 : Int) 8) 2 = (ta8_2 : Int) := by rw [hta8_2]; rfl
  have ua8_2 : wrap64 ((e1 : Int) / 8) = (e1 : Int) / 8 := wrapQ e1 8 lb
  have ka8_2 : Int.tmod ((e1 : Int) / 8) 2 = (ta8_2 : Int) := by rw [hta8_2]; rfl
  have fa8_20 : (ta8_2 : Int) = 0 := eq_cast (c := 0) (by rw [hta8_2]; exact a8_2)
  have ga8_20 : ((ta8_2 : Int) == 0) = true := beq_iff_eq.2 fa8_20
  have na8_20 : ((ta8_2 : Int) != 0) = false := bne_eq_false_iff_eq.2 fa8_20
  have fa8_21 : ¬ (ta8_2 : Int) = 1 := ne_cast (c := 1) (by rw [hta8_2]; rw [a8_2]; decide)
  have ga8_21 : ((ta8_2 : Int) == 1) = false := beq_eq_false_iff_ne.2 fa8_21
  have na8_21 : ((ta8_2 : Int) != 1) = true := bne_iff_ne.2 fa8_21
  clear a8_2 hta8_2
  clear lb
  go_upto_region 24 with fail
  clear ia2_2 ja2_2 ua2_2 ka2_2 fa2_20 ga2_20 na2_20 fa2_21 ga2_21 na2_21 ia8_2 ja8_2 ua8_2 ka8_2 fa8_20 ga8_20 na8_20 fa8_21 ga8_21 na8_21
  have lb := HE1.out
  have a1_2 := Ha1_2.out
  obtain ⟨ta1_2, hta1_2⟩ : ∃ t : Nat, t = e1 % 2 := ⟨_, rfl⟩
  have ia1_2 : (e1 : Int) % 2 = (ta1_2 : Int) := by rw [hta1_2]; rfl
  have ja1_2 : Int.tmod (e1 : Int) 2 = (ta1_2 : Int) := by rw [hta1_2]; rfl
  have fa1_20 : ¬ (ta1_2 : Int) = 0 := ne_cast (c := 0) (by rw [hta1_2]; rw [a1_2]; decide)
  have ga1_20 : ((ta1_2 : Int) == 0) = false := beq_eq_false_iff_ne.2 fa1_20
  have na1_20 : ((ta1_2 : Int) != 0) = true := bne_iff_ne.2 fa1_20
  have fa1_21 : (ta1_2 : Int) = 1 := eq_cast (c := 1) (by rw [hta1_2]; exact a1_2)
  have ga1_21 : ((ta1_2 : Int) == 1) = true := beq_iff_eq.2 fa1_21
  have na1_21 : ((ta1_2 : Int) != 1) = false := bne_eq_false_iff_eq.2 fa1_21
  clear a1_2 hta1_2
  have a8_2 := Ha8_2.out
  obtain ⟨ta8_2, hta8_2⟩ : ∃ t : Nat, t = e1 / 8 % 2 := ⟨_, rfl⟩
  have ia8_2 : (e1 : Int) / 8 % 2 = (ta8_2 : Int) := by rw [hta8_2]; rfl
  have ja8_2 : Int.tmod (Int.tdiv (e1 : Int) 8) 2 = (ta8_2 : Int) := by rw [hta8_2]; rfl
  have ua8_2 : wrap64 ((e1 : Int) / 8) = (e1 : Int) / 8 := wrapQ e1 8 lb
  have ka8_2 : Int.tmod ((e1 : Int) / 8) 2 = (ta8_2 : Int) := by rw [hta8_2]; rfl
  have fa8_20 : (ta8_2 : Int) = 0 := eq_cast (c := 0) (by rw [hta8_2]; exact a8_2)
  have ga8_20 : ((ta8_2 : Int) == 0) = true := beq_iff_eq.2 fa8_20
  have na8_20 : ((ta8_2 : Int) != 0) = false := bne_eq_false_iff_eq.2 fa8_20
  have fa8_21 : ¬ (ta8_2 : Int) = 1 := ne_cast (c := 1) (by rw [hta8_2]; rw [a8_2]; decide)
  have ga8_21 : ((ta8_2 : Int) == 1) = false := beq_eq_false_iff_ne.2 fa8_21
  have na8_21 : ((ta8_2 : Int) != 1) = true := bne_iff_ne.2 fa8_21
  clear a8_2 hta8_2
  clear lb
  go_wp2_with fail
  all_goals
    go_ret2
    exact ⟨rfl, HO.out⟩
set_option maxRecDepth 100000 in
set_option maxHeartbeats 2000000 in
theorem rw0_f3N {w : World} {br bb n : Nat} {f : Nat → UInt8} (h : RefAt w br bb n f) (r : Nat) (hr : r < n) (va : Nat) (hva : va < 4294967296) (e1 : Nat) (he1 : wordF f (4096 * r + 4 * (va / 4194304)) = e1) (a2_2 : e1 / 2 % 2 = 0) (a8_2 : e1 / 8 % 2 = 0) (a1_2 : e1 % 2 = 1) (a2_8 : e1 / 2 % 8 = 0) (a16_2 : e1 / 16 % 2 = 1) :
    Calls Tryd.prog 51 #[.pointer (some ⟨br, 0, none⟩), .int .i64 (r : Int), .int .i64 (va : Int), .int .i64 0] w fun x w' => x = .returned (.tuple #[.int .i64 0, .int .i64 12]) ∧ Only (fun _ => False) w w' := by
  have Ha2_2 := Vx.hid a2_2
  have Ha8_2 := Vx.hid a8_2
  have Ha1_2 := Vx.hid a1_2
  have Ha2_8 := Vx.hid a2_8
  have Ha16_2 := Vx.hid a16_2
  clear a2_2 a8_2 a1_2 a2_8 a16_2
  have hn := h.top
  have hk1 : va / 4194304 < 1024 := by omega
  have l1 : e1 < 4294967296 := by rw [← he1]; exact wordF_lt _ _
  have HRW := Vx.hid (refWord_any h ((4096 * r + 4 * (va / 4194304) : Nat) : Int))
  rw [wordR_in f n r (va / 4194304) hr hk1, he1] at HRW
  obtain ⟨pl, hpl⟩ : ∃ p : Nat, p = 4096 * r + 4 * (va / 4194304) := ⟨_, rfl⟩
  rw [← hpl] at HRW
  have v1 : wrap64 ((va : Int) / 4194304) = (va : Int) / 4194304 := by simp only [wrap64]; omega
  have v2 : wrap64 ((va : Int) / 4194304 * 4) = (va : Int) / 4194304 * 4 := by simp only [wrap64]; omega
  have v3 : wrap64 (pl : Int) = (pl : Int) := by simp only [wrap64]; omega
  have e3 : 4096 * (r : Int) + (va : Int) / 4194304 * 4 = (pl : Int) := by omega
  have rb : (r : Int) ≤ 255 := by omega
  have dr1 : decide ((r : Int) < 0) = false := decide_eq_false (by omega)
  have dr2 : ¬ 255 < (r : Int) := by omega
  have HE1 := Vx.hid l1
  have HVA := Vx.hid hva
  have HNN := Vx.hid hn
  clear h hn hk1 l1 hpl he1 hr hva
  go_enter Tryd.func51, Tryd.ntmps51
  go_upto_region 14 with fail
  go_wp2_with fail
  refine HRW.out.mono ?_
  rintro e w2 ⟨rfl, ho⟩
  have HO := Vx.hid ho
  clear ho e3 v1 v2 v3 rb HRW
  go_upto_region 18 with fail
  have lb := HE1.out
  have a1_2 := Ha1_2.out
  obtain ⟨ta1_2, hta1_2⟩ : ∃ t : Nat, t = e1 % 2 := ⟨_, rfl⟩
  have ia1_2 : (e1 : Int) % 2 = (ta1_2 : Int) := by rw [hta1_2]; rfl
  have ja1_2 : Int.tmod (e1 : Int) 2 = (ta1_2 : Int) := by rw [hta1_2]; rfl
  have fa1_20 : ¬ (ta1_2 : Int) = 0 := ne_cast (c := 0) (by rw [hta1_2]; rw [a1_2]; decide)
  have ga1_20 : ((ta1_2 : Int) == 0) = false := beq_eq_false_iff_ne.2 fa1_20
  have na1_20 : ((ta1_2 : Int) != 0) = true := bne_iff_ne.2 fa1_20
  have fa1_21 : (ta1_2 : Int) = 1 := eq_cast (c := 1) (by rw [hta1_2]; exact a1_2)
  have ga1_21 : ((ta1_2 : Int) == 1) = true := beq_iff_eq.2 fa1_21
  have na1_21 : ((ta1_2 : Int) != 1) = false := bne_eq_false_iff_eq.2 fa1_21
  clear a1_2 hta1_2
  have a2_8 := Ha2_8.out
  obtain ⟨ta2_8, hta2_8⟩ : ∃ t : Nat, t = e1 / 2 % 8 := ⟨_, rfl⟩
  have ia2_8 : (e1 : Int) / 2 % 8 = (ta2_8 : Int) := by rw [hta2_8]; rfl
  have ja2_8 : Int.tmod (Int.tdiv (e1 : Int) 2) 8 = (ta2_8 : Int) := by rw [hta2_8]; rfl
  have ua2_8 : wrap64 ((e1 : Int) / 2) = (e1 : Int) / 2 := wrapQ e1 2 lb
  have ka2_8 : Int.tmod ((e1 : Int) / 2) 8 = (ta2_8 : Int) := by rw [hta2_8]; rfl
  have fa2_80 : (ta2_8 : Int) = 0 := eq_cast (c := 0) (by rw [hta2_8]; exact a2_8)
  have ga2_80 : ((ta2_8 : Int) == 0) = true := beq_iff_eq.2 fa2_80
  have na2_80 : ((ta2_8 : Int) != 0) = false := bne_eq_false_iff_eq.2 fa2_80
  clear a2_8 hta2_8
  have a16_2 := Ha16_2.out
  obtain ⟨ta16_2, hta16_2⟩ : ∃ t : Nat, t = e1 / 16 % 2 := ⟨_, rfl⟩
  have ia16_2 : (e1 : Int) / 16 % 2 = (ta16_2 : Int) := by rw [hta16_2]; rfl
  have ja16_2 : Int.tmod (Int.tdiv (e1 : Int) 16) 2 = (ta16_2 : Int) := by rw [hta16_2]; rfl
  have ua16_2 : wrap64 ((e1 : Int) / 16) = (e1 : Int) / 16 := wrapQ e1 16 lb
  have ka16_2 : Int.tmod ((e1 : Int) / 16) 2 = (ta16_2 : Int) := by rw [hta16_2]; rfl
  have fa16_20 : ¬ (ta16_2 : Int) = 0 := ne_cast (c := 0) (by rw [hta16_2]; rw [a16_2]; decide)
  have ga16_20 : ((ta16_2 : Int) == 0) = false := beq_eq_false_iff_ne.2 fa16_20
  have na16_20 : ((ta16_2 : Int) != 0) = true := bne_iff_ne.2 fa16_20
  have fa16_21 : (ta16_2 : Int) = 1 := eq_cast (c := 1) (by rw [hta16_2]; exact a16_2)
  have ga16_21 : ((ta16_2 : Int) == 1) = true := beq_iff_eq.2 fa16_21
  have na16_21 : ((ta16_2 : Int) != 1) = false := bne_eq_false_iff_eq.2 fa16_21
  clear a16_2 hta16_2
  clear lb
  go_upto_region 23 with fail
  clear ia1_2 ja1_2 fa1_20 ga1_20 na1_20 fa1_21 ga1_21 na1_21 ia2_8 ja2_8 ua2_8 ka2_8 fa2_80 ga2_80 na2_80 ia16_2 ja16_2 ua16_2 ka16_2 fa16_20 ga16_20 na16_20 fa16_21 ga16_21 na16_21
  have lb := HE1.out
  have a2_2 := Ha2_2.out
  obtain ⟨ta2_2, hta2_2⟩ : ∃ t : Nat, t = e1 / 2 % 2 := ⟨_, rfl⟩
  have ia2_2 : (e1 : Int) / 2 % 2 = (ta2_2 : Int) := by rw [hta2_2]; rfl
  have ja2_2 : Int.tmod (Int.tdiv (e1 : Int) 2) 2 = (ta2_2 : Int) := by rw [hta2_2]; rfl
  have ua2_2 : wrap64 ((e1 : Int) / 2) = (e1 : Int) / 2 := wrapQ e1 2 lb
  have ka2_2 : Int.tmod ((e1 : Int) / 2) 2 = (ta2_2 : Int) := by rw [hta2_2]; rfl
  have fa2_20 : (ta2_2 : Int) = 0 := eq_cast (c := 0) (by rw [hta2_2]; exact a2_2)
  have ga2_20 : ((ta2_2 : Int) == 0) = true := beq_iff_eq.2 fa2_20
  have na2_20 : ((ta2_2 : Int) != 0) = false := bne_eq_false_iff_eq.2 fa2_20
  have fa2_21 : ¬ (ta2_2 : Int) = 1 := ne_cast (c := 1) (by rw [hta2_2]; rw [a2_2]; decide)
  have ga2_21 : ((ta2_2 : Int) == 1) = false := beq_eq_false_iff_ne.2 fa2_21
  have na2_21 : ((ta2_2 : Int) != 1) = true := bne_iff_ne.2 fa2_21
  clear a2_2 hta2_2
  have a8_2 := Ha8_2.out
  obtain ⟨ta8_2, hta8_2⟩ : ∃ t : Nat, t = e1 / 8 % 2 := ⟨_, rfl⟩
  have ia8_2 : (e1 : Int) / 8 % 2 = (ta8_2 : Int) := by rw [hta8_2]; rfl
  have ja8_2 : Int.tmod (Int.tdiv (e1 : Int) 8) 2 = (ta8_2 : Int) := by rw [hta8_2]; rfl
  have ua8_2 : wrap64 ((e1 : Int) / 8) = (e1 : Int) / 8 := wrapQ e1 8 lb
  have ka8_2 : Int.tmod ((e1 : Int) / 8) 2 = (ta8_2 : Int) := by rw [hta8_2]; rfl
  have fa8_20 : (ta8_2 : Int) = 0 := eq_cast (c := 0) (by rw [hta8_2]; exact a8_2)
  have ga8_20 : ((ta8_2 : Int) == 0) = true := beq_iff_eq.2 fa8_20
  have na8_20 : ((ta8_2 : Int) != 0) = false := bne_eq_false_iff_eq.2 fa8_20
  have fa8_21 : ¬ (ta8_2 : Int) = 1 := ne_cast (c := 1) (by rw [hta8_2]; rw [a8_2]; decide)
  have ga8_21 : ((ta8_2 : Int) == 1) = false := beq_eq_false_iff_ne.2 fa8_21
  have na8_21 : ((ta8_2 : Int) != 1) = true := bne_iff_ne.2 fa8_21
  clear a8_2 hta8_2
  clear lb
  go_upto_region 24 with fail
  clear ia2_2 ja2_2 ua2_2 ka2_2 fa2_20 ga2_20 na2_20 fa2_21 ga2_21 na2_21 ia8_2 ja8_2 ua8_2 ka8_2 fa8_20 ga8_20 na8_20 fa8_21 ga8_21 na8_21
  have lb := HE1.out
  have a1_2 := Ha1_2.out
  obtain ⟨ta1_2, hta1_2⟩ : ∃ t : Nat, t = e1 % 2 := ⟨_, rfl⟩
  have ia1_2 : (e1 : Int) % 2 = (ta1_2 : Int) := by rw [hta1_2]; rfl
  have ja1_2 : Int.tmod (e1 : Int) 2 = (ta1_2 : Int) := by rw [hta1_2]; rfl
  have fa1_20 : ¬ (ta1_2 : Int) = 0 := ne_cast (c := 0) (by rw [hta1_2]; rw [a1_2]; decide)
  have ga1_20 : ((ta1_2 : Int) == 0) = false := beq_eq_false_iff_ne.2 fa1_20
  have na1_20 : ((ta1_2 : Int) != 0) = true := bne_iff_ne.2 fa1_20
  have fa1_21 : (ta1_2 : Int) = 1 := eq_cast (c := 1) (by rw [hta1_2]; exact a1_2)
  have ga1_21 : ((ta1_2 : Int) == 1) = true := beq_iff_eq.2 fa1_21
  have na1_21 : ((ta1_2 : Int) != 1) = false := bne_eq_false_iff_eq.2 fa1_21
  clear a1_2 hta1_2
  have a8_2 := Ha8_2.out
  obtain ⟨ta8_2, hta8_2⟩ : ∃ t : Nat, t = e1 / 8 % 2 := ⟨_, rfl⟩
  have ia8_2 : (e1 : Int) / 8 % 2 = (ta8_2 : Int) := by rw [hta8_2]; rfl
  have ja8_2 : Int.tmod (Int.tdiv (e1 : Int) 8) 2 = (ta8_2 : Int) := by rw [hta8_2]; rfl
  have ua8_2 : wrap64 ((e1 : Int) / 8) = (e1 : Int) / 8 := wrapQ e1 8 lb
  have ka8_2 : Int.tmod ((e1 : Int) / 8) 2 = (ta8_2 : Int) := by rw [hta8_2]; rfl
  have fa8_20 : (ta8_2 : Int) = 0 := eq_cast (c := 0) (by rw [hta8_2]; exact a8_2)
  have ga8_20 : ((ta8_2 : Int) == 0) = true := beq_iff_eq.2 fa8_20
  have na8_20 : ((ta8_2 : Int) != 0) = false := bne_eq_false_iff_eq.2 fa8_20
  have fa8_21 : ¬ (ta8_2 : Int) = 1 := ne_cast (c := 1) (by rw [hta8_2]; rw [a8_2]; decide)
  have ga8_21 : ((ta8_2 : Int) == 1) = false := beq_eq_false_iff_ne.2 fa8_21
  have na8_21 : ((ta8_2 : Int) != 1) = true := bne_iff_ne.2 fa8_21
  clear a8_2 hta8_2
  have a16_2 := Ha16_2.out
  obtain ⟨ta16_2, hta16_2⟩ : ∃ t : Nat, t = e1 / 16 % 2 := ⟨_, rfl⟩
  have ia16_2 : (e1 : Int) / 16 % 2 = (ta16_2 : Int) := by rw [hta16_2]; rfl
  have ja16_2 : Int.tmod (Int.tdiv (e1 : Int) 16) 2 = (ta16_2 : Int) := by rw [hta16_2]; rfl
  have ua16_2 : wrap64 ((e1 : Int) / 16) = (e1 : Int) / 16 := wrapQ e1 16 lb
  have ka16_2 : Int.tmod ((e1 : Int) / 16) 2 = (ta16_2 : Int) := by rw [hta16_2]; rfl
  have fa16_20 : ¬ (ta16_2 : Int) = 0 := ne_cast (c := 0) (by rw [hta16_2]; rw [a16_2]; decide)
  have ga16_20 : ((ta16_2 : Int) == 0) = false := beq_eq_false_iff_ne.2 fa16_20
  have na16_20 : ((ta16_2 : Int) != 0) = true := bne_iff_ne.2 fa16_20
  have fa16_21 : (ta16_2 : Int) = 1 := eq_cast (c := 1) (by rw [hta16_2]; exact a16_2)
  have ga16_21 : ((ta16_2 : Int) == 1) = true := beq_iff_eq.2 fa16_21
  have na16_21 : ((ta16_2 : Int) != 1) = false := bne_eq_false_iff_eq.2 fa16_21
  clear a16_2 hta16_2
  clear lb
  go_wp2_with fail
  all_goals
    go_ret2
    exact ⟨rfl, HO.out⟩
set_option maxRecDepth 100000 in
set_option maxHeartbeats 2000000 in
theorem rw0_f4N {w : World} {br bb n : Nat} {f : Nat → UInt8} (h : RefAt w br bb n f) (r : Nat) (hr : r < n) (va : Nat) (hva : va < 4294967296) (e1 : Nat) (he1 : wordF f (4096 * r + 4 * (va / 4194304)) = e1) (a2_2 : e1 / 2 % 2 = 0) (a8_2 : e1 / 8 % 2 = 0) (a1_2 : e1 % 2 = 1) (a2_8 : e1 / 2 % 8 = 0) (a16_2 : e1 / 16 % 2 = 0) (a64_4 : e1 / 64 % 4 ≠ 0) :
    Calls Tryd.prog 51 #[.pointer (some ⟨br, 0, none⟩), .int .i64 (r : Int), .int .i64 (va : Int), .int .i64 0] w fun x w' => x = .returned (.tuple #[.int .i64 0, .int .i64 12]) ∧ Only (fun _ => False) w w' := by
  have Ha2_2 := Vx.hid a2_2
  have Ha8_2 := Vx.hid a8_2
  have Ha1_2 := Vx.hid a1_2
  have Ha2_8 := Vx.hid a2_8
  have Ha16_2 := Vx.hid a16_2
  have Ha64_4 := Vx.hid a64_4
  clear a2_2 a8_2 a1_2 a2_8 a16_2 a64_4
  have hn := h.top
  have hk1 : va / 4194304 < 1024 := by omega
  have l1 : e1 < 4294967296 := by rw [← he1]; exact wordF_lt _ _
  have HRW := Vx.hid (refWord_any h ((4096 * r + 4 * (va / 4194304) : Nat) : Int))
  rw [wordR_in f n r (va / 4194304) hr hk1, he1] at HRW
  obtain ⟨pl, hpl⟩ : ∃ p : Nat, p = 4096 * r + 4 * (va / 4194304) := ⟨_, rfl⟩
  rw [← hpl] at HRW
  have v1 : wrap64 ((va : Int) / 4194304) = (va : Int) / 4194304 := by simp only [wrap64]; omega
  have v2 : wrap64 ((va : Int) / 4194304 * 4) = (va : Int) / 4194304 * 4 := by simp only [wrap64]; omega
  have v3 : wrap64 (pl : Int) = (pl : Int) := by simp only [wrap64]; omega
  have e3 : 4096 * (r : Int) + (va : Int) / 4194304 * 4 = (pl : Int) := by omega
  have rb : (r : Int) ≤ 255 := by omega
  have dr1 : decide ((r : Int) < 0) = false := decide_eq_false (by omega)
  have dr2 : ¬ 255 < (r : Int) := by omega
  have HE1 := Vx.hid l1
  have HVA := Vx.hid hva
  have HNN := Vx.hid hn
  clear h hn hk1 l1 hpl he1 hr hva
  go_enter Tryd.func51, Tryd.ntmps51
  go_upto_region 14 with fail
  go_wp2_with fail
  refine HRW.out.mono ?_
  rintro e w2 ⟨rfl, ho⟩
  have HO := Vx.hid ho
  clear ho e3 v1 v2 v3 rb HRW
  go_upto_region 18 with fail
  have lb := HE1.out
  have a1_2 := Ha1_2.out
  obtain ⟨ta1_2, hta1_2⟩ : ∃ t : Nat, t = e1 % 2 := ⟨_, rfl⟩
  have ia1_2 : (e1 : Int) % 2 = (ta1_2 : Int) := by rw [hta1_2]; rfl
  have ja1_2 : Int.tmod (e1 : Int) 2 = (ta1_2 : Int) := by rw [hta1_2]; rfl
  have fa1_20 : ¬ (ta1_2 : Int) = 0 := ne_cast (c := 0) (by rw [hta1_2]; rw [a1_2]; decide)
  have ga1_20 : ((ta1_2 : Int) == 0) = false := beq_eq_false_iff_ne.2 fa1_20
  have na1_20 : ((ta1_2 : Int) != 0) = true := bne_iff_ne.2 fa1_20
  have fa1_21 : (ta1_2 : Int) = 1 := eq_cast (c := 1) (by rw [hta1_2]; exact a1_2)
  have ga1_21 : ((ta1_2 : Int) == 1) = true := beq_iff_eq.2 fa1_21
  have na1_21 : ((ta1_2 : Int) != 1) = false := bne_eq_false_iff_eq.2 fa1_21
  clear a1_2 hta1_2
  have a2_8 := Ha2_8.out
  obtain ⟨ta2_8, hta2_8⟩ : ∃ t : Nat, t = e1 / 2 % 8 := ⟨_, rfl⟩
  have ia2_8 : (e1 : Int) / 2 % 8 = (ta2_8 : Int) := by rw [hta2_8]; rfl
  have ja2_8 : Int.tmod (Int.tdiv (e1 : Int) 2) 8 = (ta2_8 : Int) := by rw [hta2_8]; rfl
  have ua2_8 : wrap64 ((e1 : Int) / 2) = (e1 : Int) / 2 := wrapQ e1 2 lb
  have ka2_8 : Int.tmod ((e1 : Int) / 2) 8 = (ta2_8 : Int) := by rw [hta2_8]; rfl
  have fa2_80 : (ta2_8 : Int) = 0 := eq_cast (c := 0) (by rw [hta2_8]; exact a2_8)
  have ga2_80 : ((ta2_8 : Int) == 0) = true := beq_iff_eq.2 fa2_80
  have na2_80 : ((ta2_8 : Int) != 0) = false := bne_eq_false_iff_eq.2 fa2_80
  clear a2_8 hta2_8
  have a16_2 := Ha16_2.out
  obtain ⟨ta16_2, hta16_2⟩ : ∃ t : Nat, t = e1 / 16 % 2 := ⟨_, rfl⟩
  have ia16_2 : (e1 : Int) / 16 % 2 = (ta16_2 : Int) := by rw [hta16_2]; rfl
  have ja16_2 : Int.tmod (Int.tdiv (e1 : Int) 16) 2 = (ta16_2 : Int) := by rw [hta16_2]; rfl
  have ua16_2 : wrap64 ((e1 : Int) / 16) = (e1 : Int) / 16 := wrapQ e1 16 lb
  have ka16_2 : Int.tmod ((e1 : Int) / 16) 2 = (ta16_2 : Int) := by rw [hta16_2]; rfl
  have fa16_20 : (ta16_2 : Int) = 0 := eq_cast (c := 0) (by rw [hta16_2]; exact a16_2)
  have ga16_20 : ((ta16_2 : Int) == 0) = true := beq_iff_eq.2 fa16_20
  have na16_20 : ((ta16_2 : Int) != 0) = false := bne_eq_false_iff_eq.2 fa16_20
  have fa16_21 : ¬ (ta16_2 : Int) = 1 := ne_cast (c := 1) (by rw [hta16_2]; rw [a16_2]; decide)
  have ga16_21 : ((ta16_2 : Int) == 1) = false := beq_eq_false_iff_ne.2 fa16_21
  have na16_21 : ((ta16_2 : Int) != 1) = true := bne_iff_ne.2 fa16_21
  clear a16_2 hta16_2
  have a64_4 := Ha64_4.out
  obtain ⟨ta64_4, hta64_4⟩ : ∃ t : Nat, t = e1 / 64 % 4 := ⟨_, rfl⟩
  have ia64_4 : (e1 : Int) / 64 % 4 = (ta64_4 : Int) := by rw [hta64_4]; rfl
  have ja64_4 : Int.tmod (Int.tdiv (e1 : Int) 64) 4 = (ta64_4 : Int) := by rw [hta64_4]; rfl
  have ua64_4 : wrap64 ((e1 : Int) / 64) = (e1 : Int) / 64 := wrapQ e1 64 lb
  have ka64_4 : Int.tmod ((e1 : Int) / 64) 4 = (ta64_4 : Int) := by rw [hta64_4]; rfl
  have fa64_40 : ¬ (ta64_4 : Int) = 0 := ne_cast (c := 0) (by rw [hta64_4]; exact a64_4)
  have ga64_40 : ((ta64_4 : Int) == 0) = false := beq_eq_false_iff_ne.2 fa64_40
  have na64_40 : ((ta64_4 : Int) != 0) = true := bne_iff_ne.2 fa64_40
  clear a64_4 hta64_4
  clear lb
  go_upto_region 23 with fail
  clear ia1_2 ja1_2 fa1_20 ga1_20 na1_20 fa1_21 ga1_21 na1_21 ia2_8 ja2_8 ua2_8 ka2_8 fa2_80 ga2_80 na2_80 ia16_2 ja16_2 ua16_2 ka16_2 fa16_20 ga16_20 na16_20 fa16_21 ga16_21 na16_21 ia64_4 ja64_4 ua64_4 ka64_4 fa64_40 ga64_40 na64_40
  have lb := HE1.out
  have a2_2 := Ha2_2.out
  obtain ⟨ta2_2, hta2_2⟩ : ∃ t : Nat, t = e1 / 2 % 2 := ⟨_, rfl⟩
  have ia2_2 : (e1 : Int) / 2 % 2 = (ta2_2 : Int) := by rw [hta2_2]; rfl
  have ja2_2 : Int.tmod (Int.tdiv (e1 : Int) 2) 2 = (ta2_2 : Int) := by rw [hta2_2]; rfl
  have ua2_2 : wrap64 ((e1 : Int) / 2) = (e1 : Int) / 2 := wrapQ e1 2 lb
  have ka2_2 : Int.tmod ((e1 : Int) / 2) 2 = (ta2_2 : Int) := by rw [hta2_2]; rfl
  have fa2_20 : (ta2_2 : Int) = 0 := eq_cast (c := 0) (by rw [hta2_2]; exact a2_2)
  have ga2_20 : ((ta2_2 : Int) == 0) = true := beq_iff_eq.2 fa2_20
  have na2_20 : ((ta2_2 : Int) != 0) = false := bne_eq_false_iff_eq.2 fa2_20
  have fa2_21 : ¬ (ta2_2 : Int) = 1 := ne_cast (c := 1) (by rw [hta2_2]; rw [a2_2]; decide)
  have ga2_21 : ((ta2_2 : Int) == 1) = false := beq_eq_false_iff_ne.2 fa2_21
  have na2_21 : ((ta2_2 : Int) != 1) = true := bne_iff_ne.2 fa2_21
  clear a2_2 hta2_2
  have a8_2 := Ha8_2.out
  obtain ⟨ta8_2, hta8_2⟩ : ∃ t : Nat, t = e1 / 8 % 2 := ⟨_, rfl⟩
  have ia8_2 : (e1 : Int) / 8 % 2 = (ta8_2 : Int) := by rw [hta8_2]; rfl
  have ja8_2 : Int.tmod (Int.tdiv (e1 : Int) 8) 2 = (ta8_2 : Int) := by rw [hta8_2]; rfl
  have ua8_2 : wrap64 ((e1 : Int) / 8) = (e1 : Int) / 8 := wrapQ e1 8 lb
  have ka8_2 : Int.tmod ((e1 : Int) / 8) 2 = (ta8_2 : Int) := by rw [hta8_2]; rfl
  have fa8_20 : (ta8_2 : Int) = 0 := eq_cast (c := 0) (by rw [hta8_2]; exact a8_2)
  have ga8_20 : ((ta8_2 : Int) == 0) = true := beq_iff_eq.2 fa8_20
  have na8_20 : ((ta8_2 : Int) != 0) = false := bne_eq_false_iff_eq.2 fa8_20
  have fa8_21 : ¬ (ta8_2 : Int) = 1 := ne_cast (c := 1) (by rw [hta8_2]; rw [a8_2]; decide)
  have ga8_21 : ((ta8_2 : Int) == 1) = false := beq_eq_false_iff_ne.2 fa8_21
  have na8_21 : ((ta8_2 : Int) != 1) = true := bne_iff_ne.2 fa8_21
  clear a8_2 hta8_2
  clear lb
  go_upto_region 24 with fail
  clear ia2_2 ja2_2 ua2_2 ka2_2 fa2_20 ga2_20 na2_20 fa2_21 ga2_21 na2_21 ia8_2 ja8_2 ua8_2 ka8_2 fa8_20 ga8_20 na8_20 fa8_21 ga8_21 na8_21
  have lb := HE1.out
  have a1_2 := Ha1_2.out
  obtain ⟨ta1_2, hta1_2⟩ : ∃ t : Nat, t = e1 % 2 := ⟨_, rfl⟩
  have ia1_2 : (e1 : Int) % 2 = (ta1_2 : Int) := by rw [hta1_2]; rfl
  have ja1_2 : Int.tmod (e1 : Int) 2 = (ta1_2 : Int) := by rw [hta1_2]; rfl
  have fa1_20 : ¬ (ta1_2 : Int) = 0 := ne_cast (c := 0) (by rw [hta1_2]; rw [a1_2]; decide)
  have ga1_20 : ((ta1_2 : Int) == 0) = false := beq_eq_false_iff_ne.2 fa1_20
  have na1_20 : ((ta1_2 : Int) != 0) = true := bne_iff_ne.2 fa1_20
  have fa1_21 : (ta1_2 : Int) = 1 := eq_cast (c := 1) (by rw [hta1_2]; exact a1_2)
  have ga1_21 : ((ta1_2 : Int) == 1) = true := beq_iff_eq.2 fa1_21
  have na1_21 : ((ta1_2 : Int) != 1) = false := bne_eq_false_iff_eq.2 fa1_21
  clear a1_2 hta1_2
  have a8_2 := Ha8_2.out
  obtain ⟨ta8_2, hta8_2⟩ : ∃ t : Nat, t = e1 / 8 % 2 := ⟨_, rfl⟩
  have ia8_2 : (e1 : Int) / 8 % 2 = (ta8_2 : Int) := by rw [hta8_2]; rfl
  have ja8_2 : Int.tmod (Int.tdiv (e1 : Int) 8) 2 = (ta8_2 : Int) := by rw [hta8_2]; rfl
  have ua8_2 : wrap64 ((e1 : Int) / 8) = (e1 : Int) / 8 := wrapQ e1 8 lb
  have ka8_2 : Int.tmod ((e1 : Int) / 8) 2 = (ta8_2 : Int) := by rw [hta8_2]; rfl
  have fa8_20 : (ta8_2 : Int) = 0 := eq_cast (c := 0) (by rw [hta8_2]; exact a8_2)
  have ga8_20 : ((ta8_2 : Int) == 0) = true := beq_iff_eq.2 fa8_20
  have na8_20 : ((ta8_2 : Int) != 0) = false := bne_eq_false_iff_eq.2 fa8_20
  have fa8_21 : ¬ (ta8_2 : Int) = 1 := ne_cast (c := 1) (by rw [hta8_2]; rw [a8_2]; decide)
  have ga8_21 : ((ta8_2 : Int) == 1) = false := beq_eq_false_iff_ne.2 fa8_21
  have na8_21 : ((ta8_2 : Int) != 1) = true := bne_iff_ne.2 fa8_21
  clear a8_2 hta8_2
  have a16_2 := Ha16_2.out
  obtain ⟨ta16_2, hta16_2⟩ : ∃ t : Nat, t = e1 / 16 % 2 := ⟨_, rfl⟩
  have ia16_2 : (e1 : Int) / 16 % 2 = (ta16_2 : Int) := by rw [hta16_2]; rfl
  have ja16_2 : Int.tmod (Int.tdiv (e1 : Int) 16) 2 = (ta16_2 : Int) := by rw [hta16_2]; rfl
  have ua16_2 : wrap64 ((e1 : Int) / 16) = (e1 : Int) / 16 := wrapQ e1 16 lb
  have ka16_2 : Int.tmod ((e1 : Int) / 16) 2 = (ta16_2 : Int) := by rw [hta16_2]; rfl
  have fa16_20 : (ta16_2 : Int) = 0 := eq_cast (c := 0) (by rw [hta16_2]; exact a16_2)
  have ga16_20 : ((ta16_2 : Int) == 0) = true := beq_iff_eq.2 fa16_20
  have na16_20 : ((ta16_2 : Int) != 0) = false := bne_eq_false_iff_eq.2 fa16_20
  have fa16_21 : ¬ (ta16_2 : Int) = 1 := ne_cast (c := 1) (by rw [hta16_2]; rw [a16_2]; decide)
  have ga16_21 : ((ta16_2 : Int) == 1) = false := beq_eq_false_iff_ne.2 fa16_21
  have na16_21 : ((ta16_2 : Int) != 1) = true := bne_iff_ne.2 fa16_21
  clear a16_2 hta16_2
  clear lb
  go_wp2_with fail
  all_goals
    go_ret2
    exact ⟨rfl, HO.out⟩
set_option maxRecDepth 100000 in
set_option maxHeartbeats 2000000 in
theorem rw0_f2Xw {w : World} {br bb n : Nat} {f : Nat → UInt8} (h : RefAt w br bb n f) (r : Nat) (hr : r < n) (va : Nat) (hva : va < 4294967296) (e1 : Nat) (he1 : wordF f (4096 * r + 4 * (va / 4194304)) = e1) (a2_2 : e1 / 2 % 2 = 0) (a8_2 : e1 / 8 % 2 = 1) (a1_2 : e1 % 2 = 1) (a2_4 : e1 / 2 % 4 = 2) (a2_8 : e1 / 2 % 8 ≠ 0) :
    Calls Tryd.prog 51 #[.pointer (some ⟨br, 0, none⟩), .int .i64 (r : Int), .int .i64 (va : Int), .int .i64 0] w fun x w' => x = .returned (.tuple #[.int .i64 0, .int .i64 12]) ∧ Only (fun _ => False) w w' := by
  have Ha2_2 := Vx.hid a2_2
  have Ha8_2 := Vx.hid a8_2
  have Ha1_2 := Vx.hid a1_2
  have Ha2_4 := Vx.hid a2_4
  have Ha2_8 := Vx.hid a2_8
  clear a2_2 a8_2 a1_2 a2_4 a2_8
  have hn := h.top
  have hk1 : va / 4194304 < 1024 := by omega
  have l1 : e1 < 4294967296 := by rw [← he1]; exact wordF_lt _ _
  have HRW := Vx.hid (refWord_any h ((4096 * r + 4 * (va / 4194304) : Nat) : Int))
  rw [wordR_in f n r (va / 4194304) hr hk1, he1] at HRW
  obtain ⟨pl, hpl⟩ : ∃ p : Nat, p = 4096 * r + 4 * (va / 4194304) := ⟨_, rfl⟩
  rw [← hpl] at HRW
  have v1 : wrap64 ((va : Int) / 4194304) = (va : Int) / 4194304 := by simp only [wrap64]; omega
  have v2 : wrap64 ((va : Int) / 4194304 * 4) = (va : Int) / 4194304 * 4 := by simp only [wrap64]; omega
  have v3 : wrap64 (pl : Int) = (pl : Int) := by simp only [wrap64]; omega
  have e3 : 4096 * (r : Int) + (va : Int) / 4194304 * 4 = (pl : Int) := by omega
  have rb : (r : Int) ≤ 255 := by omega
  have dr1 : decide ((r : Int) < 0) = false := decide_eq_false (by omega)
  have dr2 : ¬ 255 < (r : Int) := by omega
  have HE1 := Vx.hid l1
  have HVA := Vx.hid hva
  have HNN := Vx.hid hn
  clear h hn hk1 l1 hpl he1 hr hva
  go_enter Tryd.func51, Tryd.ntmps51
  go_upto_region 14 with fail
  go_wp2_with fail
  refine HRW.out.mono ?_
  rintro e w2 ⟨rfl, ho⟩
  have HO := Vx.hid ho
  clear ho e3 v1 v2 v3 rb HRW
  go_upto_region 18 with fail
  have lb := HE1.out
  have a1_2 := Ha1_2.out
  obtain ⟨ta1_2, hta1_2⟩ : ∃ t : Nat, t = e1 % 2 := ⟨_, rfl⟩
  have ia1_2 : (e1 : Int) % 2 = (ta1_2 : Int) := by rw [hta1_2]; rfl
  have ja1_2 : Int.tmod (e1 : Int) 2 = (ta1_2 : Int) := by rw [hta1_2]; rfl
  have fa1_20 : ¬ (ta1_2 : Int) = 0 := ne_cast (c := 0) (by rw [hta1_2]; rw [a1_2]; decide)
  have ga1_20 : ((ta1_2 : Int) == 0) = false := beq_eq_false_iff_ne.2 fa1_20
  have na1_20 : ((ta1_2 : Int) != 0) = true := bne_iff_ne.2 fa1_20
  have fa1_21 : (ta1_2 : Int) = 1 := eq_cast (c := 1) (by rw [hta1_2]; exact a1_2)
  have ga1_21 : ((ta1_2 : Int) == 1) = true := beq_iff_eq.2 fa1_21
  have na1_21 : ((ta1_2 : Int) != 1) = false := bne_eq_false_iff_eq.2 fa1_21
  clear a1_2 hta1_2
  have a2_8 := Ha2_8.out
  obtain ⟨ta2_8, hta2_8⟩ : ∃ t : Nat, t = e1 / 2 % 8 := ⟨_, rfl⟩
  have ia2_8 : (e1 : Int) / 2 % 8 = (ta2_8 : Int) := by rw [hta2_8]; rfl
  have ja2_8 : Int.tmod (Int.tdiv (e1 : Int) 2) 8 = (ta2_8 : Int) := by rw [hta2_8]; rfl
  have ua2_8 : wrap64 ((e1 : Int) / 2) = (e1 : Int) / 2 := wrapQ e1 2 lb
  have ka2_8 : Int.tmod ((e1 : Int) / 2) 8 = (ta2_8 : Int) := by rw [hta2_8]; rfl
  have fa2_80 : ¬ (ta2_8 : Int) = 0 := ne_cast (c := 0) (by rw [hta2_8]; exact a2_8)
  have ga2_80 : ((ta2_8 : Int) == 0) = false := beq_eq_false_iff_ne.2 fa2_80
  have na2_80 : ((ta2_8 : Int) != 0) = true := bne_iff_ne.2 fa2_80
  clear a2_8 hta2_8
  clear lb
  go_upto_region 23 with fail
  clear ia1_2 ja1_2 fa1_20 ga1_20 na1_20 fa1_21 ga1_21 na1_21 ia2_8 ja2_8 ua2_8 ka2_8 fa2_80 ga2_80 na2_80
  have lb := HE1.out
  have a2_2 := Ha2_2.out
  obtain ⟨ta2_2, hta2_2⟩ : ∃ t : Nat, t = e1 / 2 % 2 := ⟨_, rfl⟩
  have ia2_2 : (e1 : Int) / 2 % 2 = (ta2_2 : Int) := by rw [hta2_2]; rfl
  have ja2_2 : Int.tmod (Int.tdiv (e1 : Int) 2) 2 = (ta2_2 : Int) := by rw [hta2_2]; rfl
  have ua2_2 : wrap64 ((e1 : Int) / 2) = (e1 : Int) / 2 := wrapQ e1 2 lb
  have ka2_2 : Int.tmod ((e1 : Int) / 2) 2 = (ta2_2 : Int) := by rw [hta2_2]; rfl
  have fa2_20 : (ta2_2 : Int) = 0 := eq_cast (c := 0) (by rw [hta2_2]; exact a2_2)
  have ga2_20 : ((ta2_2 : Int) == 0) = true := beq_iff_eq.2 fa2_20
  have na2_20 : ((ta2_2 : Int) != 0) = false := bne_eq_false_iff_eq.2 fa2_20
  have fa2_21 : ¬ (ta2_2 : Int) = 1 := ne_cast (c := 1) (by rw [hta2_2]; rw [a2_2]; decide)
  have ga2_21 : ((ta2_2 : Int) == 1) = false := beq_eq_false_iff_ne.2 fa2_21
  have na2_21 : ((ta2_2 : Int) != 1) = true := bne_iff_ne.2 fa2_21
  clear a2_2 hta2_2
  have a8_2 := Ha8_2.out
  obtain ⟨ta8_2, hta8_2⟩ : ∃ t : Nat, t = e1 / 8 % 2 := ⟨_, rfl⟩
  have ia8_2 : (e1 : Int) / 8 % 2 = (ta8_2 : Int) := by rw [hta8_2]; rfl
  have ja8_2 : Int.tmod (Int.tdiv (e1 : Int) 8) 2 = (ta8_2 : Int) := by rw [hta8_2]; rfl
  have ua8_2 : wrap64 ((e1 : Int) / 8) = (e1 : Int) / 8 := wrapQ e1 8 lb
  have ka8_2 : Int.tmod ((e1 : Int) / 8) 2 = (ta8_2 : Int) := by rw [hta8_2]; rfl
  have fa8_20 : ¬ (ta8_2 : Int) = 0 := ne_cast (c := 0) (by rw [hta8_2]; rw [a8_2]; decide)
  have ga8_20 : ((ta8_2 : Int) == 0) = false := beq_eq_false_iff_ne.2 fa8_20
  have na8_20 : ((ta8_2 : Int) != 0) = true := bne_iff_ne.2 fa8_20
  have fa8_21 : (ta8_2 : Int) = 1 := eq_cast (c := 1) (by rw [hta8_2]; exact a8_2)
  have ga8_21 : ((ta8_2 : Int) == 1) = true := beq_iff_eq.2 fa8_21
  have na8_21 : ((ta8_2 : Int) != 1) = false := bne_eq_false_iff_eq.2 fa8_21
  clear a8_2 hta8_2
  clear lb
  go_upto_region 24 with fail
  clear ia2_2 ja2_2 ua2_2 ka2_2 fa2_20 ga2_20 na2_20 fa2_21 ga2_21 na2_21 ia8_2 ja8_2 ua8_2 ka8_2 fa8_20 ga8_20 na8_20 fa8_21 ga8_21 na8_21
  have lb := HE1.out
  have a1_2 := Ha1_2.out
  obtain ⟨ta1_2, hta1_2⟩ : ∃ t : Nat, t = e1 % 2 := ⟨_, rfl⟩
  have ia1_2 : (e1 : Int) % 2 = (ta1_2 : Int) := by rw [hta1_2]; rfl
  have ja1_2 : Int.tmod (e1 : Int) 2 = (ta1_2 : Int) := by rw [hta1_2]; rfl
  have fa1_20 : ¬ (ta1_2 : Int) = 0 := ne_cast (c := 0) (by rw [hta1_2]; rw [a1_2]; decide)
  have ga1_20 : ((ta1_2 : Int) == 0) = false := beq_eq_false_iff_ne.2 fa1_20
  have na1_20 : ((ta1_2 : Int) != 0) = true := bne_iff_ne.2 fa1_20
  have fa1_21 : (ta1_2 : Int) = 1 := eq_cast (c := 1) (by rw [hta1_2]; exact a1_2)
  have ga1_21 : ((ta1_2 : Int) == 1) = true := beq_iff_eq.2 fa1_21
  have na1_21 : ((ta1_2 : Int) != 1) = false := bne_eq_false_iff_eq.2 fa1_21
  clear a1_2 hta1_2
  have a2_4 := Ha2_4.out
  obtain ⟨ta2_4, hta2_4⟩ : ∃ t : Nat, t = e1 / 2 % 4 := ⟨_, rfl⟩
  have ia2_4 : (e1 : Int) / 2 % 4 = (ta2_4 : Int) := by rw [hta2_4]; rfl
  have ja2_4 : Int.tmod (Int.tdiv (e1 : Int) 2) 4 = (ta2_4 : Int) := by rw [hta2_4]; rfl
  have ua2_4 : wrap64 ((e1 : Int) / 2) = (e1 : Int) / 2 := wrapQ e1 2 lb
  have ka2_4 : Int.tmod ((e1 : Int) / 2) 4 = (ta2_4 : Int) := by rw [hta2_4]; rfl
  have fa2_42 : (ta2_4 : Int) = 2 := eq_cast (c := 2) (by rw [hta2_4]; exact a2_4)
  have ga2_42 : ((ta2_4 : Int) == 2) = true := beq_iff_eq.2 fa2_42
  have na2_42 : ((ta2_4 : Int) != 2) = false := bne_eq_false_iff_eq.2 fa2_42
  clear a2_4 hta2_4
  have a8_2 := Ha8_2.out
  obtain ⟨ta8_2, hta8_2⟩ : ∃ t : Nat, t = e1 / 8 % 2 := ⟨_, rfl⟩
  have ia8_2 : (e1 : Int) / 8 % 2 = (ta8_2 : Int) := by rw [hta8_2]; rfl
  have ja8_2 : Int.tmod (Int.tdiv (e1 : Int) 8) 2 = (ta8_2 : Int) := by rw [hta8_2]; rfl
  have ua8_2 : wrap64 ((e1 : Int) / 8) = (e1 : Int) / 8 := wrapQ e1 8 lb
  have ka8_2 : Int.tmod ((e1 : Int) / 8) 2 = (ta8_2 : Int) := by rw [hta8_2]; rfl
  have fa8_20 : ¬ (ta8_2 : Int) = 0 := ne_cast (c := 0) (by rw [hta8_2]; rw [a8_2]; decide)
  have ga8_20 : ((ta8_2 : Int) == 0) = false := beq_eq_false_iff_ne.2 fa8_20
  have na8_20 : ((ta8_2 : Int) != 0) = true := bne_iff_ne.2 fa8_20
  have fa8_21 : (ta8_2 : Int) = 1 := eq_cast (c := 1) (by rw [hta8_2]; exact a8_2)
  have ga8_21 : ((ta8_2 : Int) == 1) = true := beq_iff_eq.2 fa8_21
  have na8_21 : ((ta8_2 : Int) != 1) = false := bne_eq_false_iff_eq.2 fa8_21
  clear a8_2 hta8_2
  clear lb
  go_wp2_with fail
  all_goals
    go_ret2
    exact ⟨rfl, HO.out⟩
set_option maxRecDepth 100000 in
set_option maxHeartbeats 2000000 in
theorem rw0_f2Rr {w : World} {br bb n : Nat} {f : Nat → UInt8} (h : RefAt w br bb n f) (r : Nat) (hr : r < n) (va : Nat) (hva : va < 4294967296) (e1 : Nat) (he1 : wordF f (4096 * r + 4 * (va / 4194304)) = e1) (a2_2 : e1 / 2 % 2 = 1) (a1_2 : e1 % 2 = 1) (a2_4 : e1 / 2 % 4 ≠ 2) (a8_2 : e1 / 8 % 2 = 0) (a2_8 : e1 / 2 % 8 ≠ 0) :
    Calls Tryd.prog 51 #[.pointer (some ⟨br, 0, none⟩), .int .i64 (r : Int), .int .i64 (va : Int), .int .i64 0] w fun x w' => x = .returned (.tuple #[.int .i64 0, .int .i64 12]) ∧ Only (fun _ => False) w w' := by
  have Ha2_2 := Vx.hid a2_2
  have Ha1_2 := Vx.hid a1_2
  have Ha2_4 := Vx.hid a2_4
  have Ha8_2 := Vx.hid a8_2
  have Ha2_8 := Vx.hid a2_8
  clear a2_2 a1_2 a2_4 a8_2 a2_8
  have hn := h.top
  have hk1 : va / 4194304 < 1024 := by omega
  have l1 : e1 < 4294967296 := by rw [← he1]; exact wordF_lt _ _
  have HRW := Vx.hid (refWord_any h ((4096 * r + 4 * (va / 4194304) : Nat) : Int))
  rw [wordR_in f n r (va / 4194304) hr hk1, he1] at HRW
  obtain ⟨pl, hpl⟩ : ∃ p : Nat, p = 4096 * r + 4 * (va / 4194304) := ⟨_, rfl⟩
  rw [← hpl] at HRW
  have v1 : wrap64 ((va : Int) / 4194304) = (va : Int) / 4194304 := by simp only [wrap64]; omega
  have v2 : wrap64 ((va : Int) / 4194304 * 4) = (va : Int) / 4194304 * 4 := by simp only [wrap64]; omega
  have v3 : wrap64 (pl : Int) = (pl : Int) := by simp only [wrap64]; omega
  have e3 : 4096 * (r : Int) + (va : Int) / 4194304 * 4 = (pl : Int) := by omega
  have rb : (r : Int) ≤ 255 := by omega
  have dr1 : decide ((r : Int) < 0) = false := decide_eq_false (by omega)
  have dr2 : ¬ 255 < (r : Int) := by omega
  have HE1 := Vx.hid l1
  have HVA := Vx.hid hva
  have HNN := Vx.hid hn
  clear h hn hk1 l1 hpl he1 hr hva
  go_enter Tryd.func51, Tryd.ntmps51
  go_upto_region 14 with fail
  go_wp2_with fail
  refine HRW.out.mono ?_
  rintro e w2 ⟨rfl, ho⟩
  have HO := Vx.hid ho
  clear ho e3 v1 v2 v3 rb HRW
  go_upto_region 18 with fail
  have lb := HE1.out
  have a1_2 := Ha1_2.out
  obtain ⟨ta1_2, hta1_2⟩ : ∃ t : Nat, t = e1 % 2 := ⟨_, rfl⟩
  have ia1_2 : (e1 : Int) % 2 = (ta1_2 : Int) := by rw [hta1_2]; rfl
  have ja1_2 : Int.tmod (e1 : Int) 2 = (ta1_2 : Int) := by rw [hta1_2]; rfl
  have fa1_20 : ¬ (ta1_2 : Int) = 0 := ne_cast (c := 0) (by rw [hta1_2]; rw [a1_2]; decide)
  have ga1_20 : ((ta1_2 : Int) == 0) = false := beq_eq_false_iff_ne.2 fa1_20
  have na1_20 : ((ta1_2 : Int) != 0) = true := bne_iff_ne.2 fa1_20
  have fa1_21 : (ta1_2 : Int) = 1 := eq_cast (c := 1) (by rw [hta1_2]; exact a1_2)
  have ga1_21 : ((ta1_2 : Int) == 1) = true := beq_iff_eq.2 fa1_21
  have na1_21 : ((ta1_2 : Int) != 1) = false := bne_eq_false_iff_eq.2 fa1_21
  clear a1_2 hta1_2
  have a2_8 := Ha2_8.out
  obtain ⟨ta2_8, hta2_8⟩ : ∃ t : Nat, t = e1 / 2 % 8 := ⟨_, rfl⟩
  have ia2_8 : (e1 : Int) / 2 % 8 = (ta2_8 : Int) := by rw [hta2_8]; rfl
  have ja2_8 : Int.tmod (Int.tdiv (e1 : Int) 2) 8 = (ta2_8 : Int) := by rw [hta2_8]; rfl
  have ua2_8 : wrap64 ((e1 : Int) / 2) = (e1 : Int) / 2 := wrapQ e1 2 lb
  have ka2_8 : Int.tmod ((e1 : Int) / 2) 8 = (ta2_8 : Int) := by rw [hta2_8]; rfl
  have fa2_80 : ¬ (ta2_8 : Int) = 0 := ne_cast (c := 0) (by rw [hta2_8]; exact a2_8)
  have ga2_80 : ((ta2_8 : Int) == 0) = false := beq_eq_false_iff_ne.2 fa2_80
  have na2_80 : ((ta2_8 : Int) != 0) = true := bne_iff_ne.2 fa2_80
  clear a2_8 hta2_8
  clear lb
  go_upto_region 23 with fail
  clear ia1_2 ja1_2 fa1_20 ga1_20 na1_20 fa1_21 ga1_21 na1_21 ia2_8 ja2_8 ua2_8 ka2_8 fa2_80 ga2_80 na2_80
  have lb := HE1.out
  have a2_2 := Ha2_2.out
  obtain ⟨ta2_2, hta2_2⟩ : ∃ t : Nat, t = e1 / 2 % 2 := ⟨_, rfl⟩
  have ia2_2 : (e1 : Int) / 2 % 2 = (ta2_2 : Int) := by rw [hta2_2]; rfl
  have ja2_2 : Int.tmod (Int.tdiv (e1 : Int) 2) 2 = (ta2_2 : Int) := by rw [hta2_2]; rfl
  have ua2_2 : wrap64 ((e1 : Int) / 2) = (e1 : Int) / 2 := wrapQ e1 2 lb
  have ka2_2 : Int.tmod ((e1 : Int) / 2) 2 = (ta2_2 : Int) := by rw [hta2_2]; rfl
  have fa2_20 : ¬ (ta2_2 : Int) = 0 := ne_cast (c := 0) (by rw [hta2_2]; rw [a2_2]; decide)
  have ga2_20 : ((ta2_2 : Int) == 0) = false := beq_eq_false_iff_ne.2 fa2_20
  have na2_20 : ((ta2_2 : Int) != 0) = true := bne_iff_ne.2 fa2_20
  have fa2_21 : (ta2_2 : Int) = 1 := eq_cast (c := 1) (by rw [hta2_2]; exact a2_2)
  have ga2_21 : ((ta2_2 : Int) == 1) = true := beq_iff_eq.2 fa2_21
  have na2_21 : ((ta2_2 : Int) != 1) = false := bne_eq_false_iff_eq.2 fa2_21
  clear a2_2 hta2_2
  have a8_2 := Ha8_2.out
  obtain ⟨ta8_2, hta8_2⟩ : ∃ t : Nat, t = e1 / 8 % 2 := ⟨_, rfl⟩
  have ia8_2 : (e1 : Int) / 8 % 2 = (ta8_2 : Int) := by rw [hta8_2]; rfl
  have ja8_2 : Int.tmod (Int.tdiv (e1 : Int) 8) 2 = (ta8_2 : Int) := by rw [hta8_2]; rfl
  have ua8_2 : wrap64 ((e1 : Int) / 8) = (e1 : Int) / 8 := wrapQ e1 8 lb
  have ka8_2 : Int.tmod ((e1 : Int) / 8) 2 = (ta8_2 : Int) := by rw [hta8_2]; rfl
  have fa8_20 : (ta8_2 : Int) = 0 := eq_cast (c := 0) (by rw [hta8_2]; exact a8_2)
  have ga8_20 : ((ta8_2 : Int) == 0) = true := beq_iff_eq.2 fa8_20
  have na8_20 : ((ta8_2 : Int) != 0) = false := bne_eq_false_iff_eq.2 fa8_20
  have fa8_21 : ¬ (ta8_2 : Int) = 1 := ne_cast (c := 1) (by rw [hta8_2]; rw [a8_2]; decide)
  have ga8_21 : ((ta8_2 : Int) == 1) = false := beq_eq_false_iff_ne.2 fa8_21
  have na8_21 : ((ta8_2 : Int) != 1) = true := bne_iff_ne.2 fa8_21
  clear a8_2 hta8_2
  clear lb
  go_upto_region 24 with fail
  clear ia2_2 ja2_2 ua2_2 ka2_2 fa2_20 ga2_20 na2_20 fa2_21 ga2_21 na2_21 ia8_2 ja8_2 ua8_2 ka8_2 fa8_20 ga8_20 na8_20 fa8_21 ga8_21 na8_21
  have lb := HE1.out
  have a1_2 := Ha1_2.out
  obtain ⟨ta1_2, hta1_2⟩ : ∃ t : Nat, t = e1 % 2 := ⟨_, rfl⟩
  have ia1_2 : (e1 : Int) % 2 = (ta1_2 : Int) := by rw [hta1_2]; rfl
  have ja1_2 : Int.tmod (e1 : Int) 2 = (ta1_2 : Int) := by rw [hta1_2]; rfl
  have fa1_20 : ¬ (ta1_2 : Int) = 0 := ne_cast (c := 0) (by rw [hta1_2]; rw [a1_2]; decide)
  have ga1_20 : ((ta1_2 : Int) == 0) = false := beq_eq_false_iff_ne.2 fa1_20
  have na1_20 : ((ta1_2 : Int) != 0) = true := bne_iff_ne.2 fa1_20
  have fa1_21 : (ta1_2 : Int) = 1 := eq_cast (c := 1) (by rw [hta1_2]; exact a1_2)
  have ga1_21 : ((ta1_2 : Int) == 1) = true := beq_iff_eq.2 fa1_21
  have na1_21 : ((ta1_2 : Int) != 1) = false := bne_eq_false_iff_eq.2 fa1_21
  clear a1_2 hta1_2
  have a2_4 := Ha2_4.out
  obtain ⟨ta2_4, hta2_4⟩ : ∃ t : Nat, t = e1 / 2 % 4 := ⟨_, rfl⟩
  have ia2_4 : (e1 : Int) / 2 % 4 = (ta2_4 : Int) := by rw [hta2_4]; rfl
  have ja2_4 : Int.tmod (Int.tdiv (e1 : Int) 2) 4 = (ta2_4 : Int) := by rw [hta2_4]; rfl
  have ua2_4 : wrap64 ((e1 : Int) / 2) = (e1 : Int) / 2 := wrapQ e1 2 lb
  have ka2_4 : Int.tmod ((e1 : Int) / 2) 4 = (ta2_4 : Int) := by rw [hta2_4]; rfl
  have fa2_42 : ¬ (ta2_4 : Int) = 2 := ne_cast (c := 2) (by rw [hta2_4]; exact a2_4)
  have ga2_42 : ((ta2_4 : Int) == 2) = false := beq_eq_false_iff_ne.2 fa2_42
  have na2_42 : ((ta2_4 : Int) != 2) = true := bne_iff_ne.2 fa2_42
  clear a2_4 hta2_4
  have a8_2 := Ha8_2.out
  obtain ⟨ta8_2, hta8_2⟩ : ∃ t : Nat, t = e1 / 8 % 2 := ⟨_, rfl⟩
  have ia8_2 : (e1 : Int) / 8 % 2 = (ta8_2 : Int) := by rw [hta8_2]; rfl
  have ja8_2 : Int.tmod (Int.tdiv (e1 : Int) 8) 2 = (ta8_2 : Int) := by rw [hta8_2]; rfl
  have ua8_2 : wrap64 ((e1 : Int) / 8) = (e1 : Int) / 8 := wrapQ e1 8 lb
  have ka8_2 : Int.tmod ((e1 : Int) / 8) 2 = (ta8_2 : Int) := by rw [hta8_2]; rfl
  have fa8_20 : (ta8_2 : Int) = 0 := eq_cast (c := 0) (by rw [hta8_2]; exact a8_2)
  have ga8_20 : ((ta8_2 : Int) == 0) = true := beq_iff_eq.2 fa8_20
  have na8_20 : ((ta8_2 : Int) != 0) = false := bne_eq_false_iff_eq.2 fa8_20
  have fa8_21 : ¬ (ta8_2 : Int) = 1 := ne_cast (c := 1) (by rw [hta8_2]; rw [a8_2]; decide)
  have ga8_21 : ((ta8_2 : Int) == 1) = false := beq_eq_false_iff_ne.2 fa8_21
  have na8_21 : ((ta8_2 : Int) != 1) = true := bne_iff_ne.2 fa8_21
  clear a8_2 hta8_2
  clear lb
  go_wp2_with fail
  all_goals
    go_ret2
    exact ⟨rfl, HO.out⟩
set_option maxRecDepth 100000 in
set_option maxHeartbeats 2000000 in
theorem rw0_f2Ru {w : World} {br bb n : Nat} {f : Nat → UInt8} (h : RefAt w br bb n f) (r : Nat) (hr : r < n) (va : Nat) (hva : va < 4294967296) (e1 : Nat) (he1 : wordF f (4096 * r + 4 * (va / 4194304)) = e1) (a2_2 : e1 / 2 % 2 = 1) (a1_2 : e1 % 2 = 1) (a2_4 : e1 / 2 % 4 ≠ 2) (a8_2 : e1 / 8 % 2 = 1) (a16_2 : e1 / 16 % 2 = 0) (a2_8 : e1 / 2 % 8 ≠ 0) :
    Calls Tryd.prog 51 #[.pointer (some ⟨br, 0, none⟩), .int .i64 (r : Int), .int .i64 (va : Int), .int .i64 0] w fun x w' => x = .returned (.tuple #[.int .i64 0, .int .i64 12]) ∧ Only (fun _ => False) w w' := by
  have Ha2_2 := Vx.hid a2_2
  have Ha1_2 := Vx.hid a1_2
  have Ha2_4 := Vx.hid a2_4
  have Ha8_2 := Vx.hid a8_2
  have Ha16_2 := Vx.hid a16_2
  have Ha2_8 := Vx.hid a2_8
  clear a2_2 a1_2 a2_4 a8_2 a16_2 a2_8
  have hn := h.top
  have hk1 : va / 4194304 < 1024 := by omega
  have l1 : e1 < 4294967296 := by rw [← he1]; exact wordF_lt _ _
  have HRW := Vx.hid (refWord_any h ((4096 * r + 4 * (va / 4194304) : Nat) : Int))
  rw [wordR_in f n r (va / 4194304) hr hk1, he1] at HRW
  obtain ⟨pl, hpl⟩ : ∃ p : Nat, p = 4096 * r + 4 * (va / 4194304) := ⟨_, rfl⟩
  rw [← hpl] at HRW
  have v1 : wrap64 ((va : Int) / 4194304) = (va : Int) / 4194304 := by simp only [wrap64]; omega
  have v2 : wrap64 ((va : Int) / 4194304 * 4) = (va : Int) / 4194304 * 4 := by simp only [wrap64]; omega
  have v3 : wrap64 (pl : Int) = (pl : Int) := by simp only [wrap64]; omega
  have e3 : 4096 * (r : Int) + (va : Int) / 4194304 * 4 = (pl : Int) := by omega
  have rb : (r : Int) ≤ 255 := by omega
  have dr1 : decide ((r : Int) < 0) = false := decide_eq_false (by omega)
  have dr2 : ¬ 255 < (r : Int) := by omega
  have HE1 := Vx.hid l1
  have HVA := Vx.hid hva
  have HNN := Vx.hid hn
  clear h hn hk1 l1 hpl he1 hr hva
  go_enter Tryd.func51, Tryd.ntmps51
  go_upto_region 14 with fail
  go_wp2_with fail
  refine HRW.out.mono ?_
  rintro e w2 ⟨rfl, ho⟩
  have HO := Vx.hid ho
  clear ho e3 v1 v2 v3 rb HRW
  go_upto_region 18 with fail
  have lb := HE1.out
  have a1_2 := Ha1_2.out
  obtain ⟨ta1_2, hta1_2⟩ : ∃ t : Nat, t = e1 % 2 := ⟨_, rfl⟩
  have ia1_2 : (e1 : Int) % 2 = (ta1_2 : Int) := by rw [hta1_2]; rfl
  have ja1_2 : Int.tmod (e1 : Int) 2 = (ta1_2 : Int) := by rw [hta1_2]; rfl
  have fa1_20 : ¬ (ta1_2 : Int) = 0 := ne_cast (c := 0) (by rw [hta1_2]; rw [a1_2]; decide)
  have ga1_20 : ((ta1_2 : Int) == 0) = false := beq_eq_false_iff_ne.2 fa1_20
  have na1_20 : ((ta1_2 : Int) != 0) = true := bne_iff_ne.2 fa1_20
  have fa1_21 : (ta1_2 : Int) = 1 := eq_cast (c := 1) (by rw [hta1_2]; exact a1_2)
  have ga1_21 : ((ta1_2 : Int) == 1) = true := beq_iff_eq.2 fa1_21
  have na1_21 : ((ta1_2 : Int) != 1) = false := bne_eq_false_iff_eq.2 fa1_21
  clear a1_2 hta1_2
  have a2_8 := Ha2_8.out
  obtain ⟨ta2_8, hta2_8⟩ : ∃ t : Nat, t = e1 / 2 % 8 := ⟨_, rfl⟩
  have ia2_8 : (e1 : Int) / 2 % 8 = (ta2_8 : Int) := by rw [hta2_8]; rfl
  have ja2_8 : Int.tmod (Int.tdiv (e1 : Int) 2) 8 = (ta2_8 : Int) := by rw [hta2_8]; rfl
  have ua2_8 : wrap64 ((e1 : Int) / 2) = (e1 : Int) / 2 := wrapQ e1 2 lb
  have ka2_8 : Int.tmod ((e1 : Int) / 2) 8 = (ta2_8 : Int) := by rw [hta2_8]; rfl
  have fa2_80 : ¬ (ta2_8 : Int) = 0 := ne_cast (c := 0) (by rw [hta2_8]; exact a2_8)
  have ga2_80 : ((ta2_8 : Int) == 0) = false := beq_eq_false_iff_ne.2 fa2_80
  have na2_80 : ((ta2_8 : Int) != 0) = true := bne_iff_ne.2 fa2_80
  clear a2_8 hta2_8
  have a16_2 := Ha16_2.out
  obtain ⟨ta16_2, hta16_2⟩ : ∃ t : Nat, t = e1 / 16 % 2 := ⟨_, rfl⟩
  have ia16_2 : (e1 : Int) / 16 % 2 = (ta16_2 : Int) := by rw [hta16_2]; rfl
  have ja16_2 : Int.tmod (Int.tdiv (e1 : Int) 16) 2 = (ta16_2 : Int) := by rw [hta16_2]; rfl
  have ua16_2 : wrap64 ((e1 : Int) / 16) = (e1 : Int) / 16 := wrapQ e1 16 lb
  have ka16_2 : Int.tmod ((e1 : Int) / 16) 2 = (ta16_2 : Int) := by rw [hta16_2]; rfl
  have fa16_20 : (ta16_2 : Int) = 0 := eq_cast (c := 0) (by rw [hta16_2]; exact a16_2)
  have ga16_20 : ((ta16_2 : Int) == 0) = true := beq_iff_eq.2 fa16_20
  have na16_20 : ((ta16_2 : Int) != 0) = false := bne_eq_false_iff_eq.2 fa16_20
  have fa16_21 : ¬ (ta16_2 : Int) = 1 := ne_cast (c := 1) (by rw [hta16_2]; rw [a16_2]; decide)
  have ga16_21 : ((ta16_2 : Int) == 1) = false := beq_eq_false_iff_ne.2 fa16_21
  have na16_21 : ((ta16_2 : Int) != 1) = true := bne_iff_ne.2 fa16_21
  clear a16_2 hta16_2
  clear lb
  go_upto_region 23 with fail
  clear ia1_2 ja1_2 fa1_20 ga1_20 na1_20 fa1_21 ga1_21 na1_21 ia2_8 ja2_8 ua2_8 ka2_8 fa2_80 ga2_80 na2_80 ia16_2 ja16_2 ua16_2 ka16_2 fa16_20 ga16_20 na16_20 fa16_21 ga16_21 na16_21
  have lb := HE1.out
  have a2_2 := Ha2_2.out
  obtain ⟨ta2_2, hta2_2⟩ : ∃ t : Nat, t = e1 / 2 % 2 := ⟨_, rfl⟩
  have ia2_2 : (e1 : Int) / 2 % 2 = (ta2_2 : Int) := by rw [hta2_2]; rfl
  have ja2_2 : Int.tmod (Int.tdiv (e1 : Int) 2) 2 = (ta2_2 : Int) := by rw [hta2_2]; rfl
  have ua2_2 : wrap64 ((e1 : Int) / 2) = (e1 : Int) / 2 := wrapQ e1 2 lb
  have ka2_2 : Int.tmod ((e1 : Int) / 2) 2 = (ta2_2 : Int) := by rw [hta2_2]; rfl
  have fa2_20 : ¬ (ta2_2 : Int) = 0 := ne_cast (c := 0) (by rw [hta2_2]; rw [a2_2]; decide)
  have ga2_20 : ((ta2_2 : Int) == 0) = false := beq_eq_false_iff_ne.2 fa2_20
  have na2_20 : ((ta2_2 : Int) != 0) = true := bne_iff_ne.2 fa2_20
  have fa2_21 : (ta2_2 : Int) = 1 := eq_cast (c := 1) (by rw [hta2_2]; exact a2_2)
  have ga2_21 : ((ta2_2 : Int) == 1) = true := beq_iff_eq.2 fa2_21
  have na2_21 : ((ta2_2 : Int) != 1) = false := bne_eq_false_iff_eq.2 fa2_21
  clear a2_2 hta2_2
  have a8_2 := Ha8_2.out
  obtain ⟨ta8_2, hta8_2⟩ : ∃ t : Nat, t = e1 / 8 % 2 := ⟨_, rfl⟩
  have ia8_2 : (e1 : Int) / 8 % 2 = (ta8_2 : Int) := by rw [hta8_2]; rfl
  have ja8_2 : Int.tmod (Int.tdiv (e1 : Int) 8) 2 = (ta8_2 : Int) := by rw [hta8_2]; rfl
  have ua8_2 : wrap64 ((e1 : Int) / 8) = (e1 : Int) / 8 := wrapQ e1 8 lb
  have ka8_2 : Int.tmod ((e1 : Int) / 8) 2 = (ta8_2 : Int) := by rw [hta8_2]; rfl
  have fa8_20 : ¬ (ta8_2 : Int) = 0 := ne_cast (c := 0) (by rw [hta8_2]; rw [a8_2]; decide)
  have ga8_20 : ((ta8_2 : Int) == 0) = false := beq_eq_false_iff_ne.2 fa8_20
  have na8_20 : ((ta8_2 : Int) != 0) = true := bne_iff_ne.2 fa8_20
  have fa8_21 : (ta8_2 : Int) = 1 := eq_cast (c := 1) (by rw [hta8_2]; exact a8_2)
  have ga8_21 : ((ta8_2 : Int) == 1) = true := beq_iff_eq.2 fa8_21
  have na8_21 : ((ta8_2 : Int) != 1) = false := bne_eq_false_iff_eq.2 fa8_21
  clear a8_2 hta8_2
  clear lb
  go_upto_region 24 with fail
  clear ia2_2 ja2_2 ua2_2 ka2_2 fa2_20 ga2_20 na2_20 fa2_21 ga2_21 na2_21 ia8_2 ja8_2 ua8_2 ka8_2 fa8_20 ga8_20 na8_20 fa8_21 ga8_21 na8_21
  have lb := HE1.out
  have a1_2 := Ha1_2.out
  obtain ⟨ta1_2, hta1_2⟩ : ∃ t : Nat, t = e1 % 2 := ⟨_, rfl⟩
  have ia1_2 : (e1 : Int) % 2 = (ta1_2 : Int) := by rw [hta1_2]; rfl
  have ja1_2 : Int.tmod (e1 : Int) 2 = (ta1_2 : Int) := by rw [hta1_2]; rfl
  have fa1_20 : ¬ (ta1_2 : Int) = 0 := ne_cast (c := 0) (by rw [hta1_2]; rw [a1_2]; decide)
  have ga1_20 : ((ta1_2 : Int) == 0) = false := beq_eq_false_iff_ne.2 fa1_20
  have na1_20 : ((ta1_2 : Int) != 0) = true := bne_iff_ne.2 fa1_20
  have fa1_21 : (ta1_2 : Int) = 1 := eq_cast (c := 1) (by rw [hta1_2]; exact a1_2)
  have ga1_21 : ((ta1_2 : Int) == 1) = true := beq_iff_eq.2 fa1_21
  have na1_21 : ((ta1_2 : Int) != 1) = false := bne_eq_false_iff_eq.2 fa1_21
  clear a1_2 hta1_2
  have a2_4 := Ha2_4.out
  obtain ⟨ta2_4, hta2_4⟩ : ∃ t : Nat, t = e1 / 2 % 4 := ⟨_, rfl⟩
  have ia2_4 : (e1 : Int) / 2 % 4 = (ta2_4 : Int) := by rw [hta2_4]; rfl
  have ja2_4 : Int.tmod (Int.tdiv (e1 : Int) 2) 4 = (ta2_4 : Int) := by rw [hta2_4]; rfl
  have ua2_4 : wrap64 ((e1 : Int) / 2) = (e1 : Int) / 2 := wrapQ e1 2 lb
  have ka2_4 : Int.tmod ((e1 : Int) / 2) 4 = (ta2_4 : Int) := by rw [hta2_4]; rfl
  have fa2_42 : ¬ (ta2_4 : Int) = 2 := ne_cast (c := 2) (by rw [hta2_4]; exact a2_4)
  have ga2_42 : ((ta2_4 : Int) == 2) = false := beq_eq_false_iff_ne.2 fa2_42
  have na2_42 : ((ta2_4 : Int) != 2) = true := bne_iff_ne.2 fa2_42
  clear a2_4 hta2_4
  have a8_2 := Ha8_2.out
  obtain ⟨ta8_2, hta8_2⟩ : ∃ t : Nat, t = e1 / 8 % 2 := ⟨_, rfl⟩
  have ia8_2 : (e1 : Int) / 8 % 2 = (ta8_2 : Int) := by rw [hta8_2]; rfl
  have ja8_2 : Int.tmod (Int.tdiv (e1 : Int) 8) 2 = (ta8_2 : Int) := by rw [hta8_2]; rfl
  have ua8_2 : wrap64 ((e1 : Int) / 8) = (e1 : Int) / 8 := wrapQ e1 8 lb
  have ka8_2 : Int.tmod ((e1 : Int) / 8) 2 = (ta8_2 : Int) := by rw [hta8_2]; rfl
  have fa8_20 : ¬ (ta8_2 : Int) = 0 := ne_cast (c := 0) (by rw [hta8_2]; rw [a8_2]; decide)
  have ga8_20 : ((ta8_2 : Int) == 0) = false := beq_eq_false_iff_ne.2 fa8_20
  have na8_20 : ((ta8_2 : Int) != 0) = true := bne_iff_ne.2 fa8_20
  have fa8_21 : (ta8_2 : Int) = 1 := eq_cast (c := 1) (by rw [hta8_2]; exact a8_2)
  have ga8_21 : ((ta8_2 : Int) == 1) = true := beq_iff_eq.2 fa8_21
  have na8_21 : ((ta8_2 : Int) != 1) = false := bne_eq_false_iff_eq.2 fa8_21
  clear a8_2 hta8_2
  have a16_2 := Ha16_2.out
  obtain ⟨ta16_2, hta16_2⟩ : ∃ t : Nat, t = e1 / 16 % 2 := ⟨_, rfl⟩
  have ia16_2 : (e1 : Int) / 16 % 2 = (ta16_2 : Int) := by rw [hta16_2]; rfl
  have ja16_2 : Int.tmod (Int.tdiv (e1 : Int) 16) 2 = (ta16_2 : Int) := by rw [hta16_2]; rfl
  have ua16_2 : wrap64 ((e1 : Int) / 16) = (e1 : Int) / 16 := wrapQ e1 16 lb
  have ka16_2 : Int.tmod ((e1 : Int) / 16) 2 = (ta16_2 : Int) := by rw [hta16_2]; rfl
  have fa16_20 : (ta16_2 : Int) = 0 := eq_cast (c := 0) (by rw [hta16_2]; exact a16_2)
  have ga16_20 : ((ta16_2 : Int) == 0) = true := beq_iff_eq.2 fa16_20
  have na16_20 : ((ta16_2 : Int) != 0) = false := bne_eq_false_iff_eq.2 fa16_20
  have fa16_21 : ¬ (ta16_2 : Int) = 1 := ne_cast (c := 1) (by rw [hta16_2]; rw [a16_2]; decide)
  have ga16_21 : ((ta16_2 : Int) == 1) = false := beq_eq_false_iff_ne.2 fa16_21
  have na16_21 : ((ta16_2 : Int) != 1) = true := bne_iff_ne.2 fa16_21
  clear a16_2 hta16_2
  clear lb
  go_wp2_with fail
  all_goals
    go_ret2
    exact ⟨rfl, HO.out⟩
end Go.Proofs.YthcngafjklihcaaDoor

import Derived.Test.YtflmobffeeocdaaDoorCa7
/- Walks of package mmu: page, word, leads, allows. -/
namespace Go.Vx
def leadsB (e : Nat) : Bool := decide (e % 2 = 1) && decide (e / 2 % 8 = 0) && decide (e / 16 % 2 = 0) && decide (e / 64 % 4 = 0)
/-- The bit of a use. -/
def rightN (u : Nat) : Nat := if u = 0 then 8 else if u = 1 then 2 else 4
def okB (u e : Nat) : Bool := decide (e % 2 = 1) && (decide (e / 2 % 2 = 1) || decide (e / 8 % 2 = 1)) && !(decide (e / 2 % 4 = 2)) && decide (e / rightN u % 2 = 1) && decide (e / 16 % 2 = 1) && decide (e / 64 % 2 = 1) && (decide (u ≠ 2) || decide (e / 128 % 2 = 1))
theorem and_low (e m : Nat) (hm : m < 256) : e &&& m = (e % 256) &&& m := by
  have h1 : e &&& m < 2 ^ 8 := Nat.lt_of_le_of_lt Nat.and_le_right hm
  have h2 := Nat.and_mod_two_pow (a := e) (b := m) (n := 8)
  rw [Nat.mod_eq_of_lt h1, Nat.mod_eq_of_lt (show m < 2 ^ 8 from hm)] at h2
  exact h2
theorem leads_low (e : Nat) : leadsB e = leadsB (e % 256) := by
  unfold leadsB
  rw [show e % 256 % 2 = e % 2 by omega, show e % 256 / 2 % 8 = e / 2 % 8 by omega, show e % 256 / 16 % 2 = e / 16 % 2 by omega, show e % 256 / 64 % 4 = e / 64 % 4 by omega]
theorem leads_bits (e : Nat) : decide (e &&& 223 = 1) = leadsB e := by
  rw [and_low e 223 (by decide), leads_low e]
  have h : e % 256 < 256 := Nat.mod_lt _ (by decide)
  generalize e % 256 = m at h
  revert m
  decide +kernel
theorem ok_low (u e : Nat) (hu : u < 3) : okB u e = okB u (e % 256) := by
  have h3 : u = 0 ∨ u = 1 ∨ u = 2 := by omega
  unfold okB
  rw [show e % 256 % 2 = e % 2 by omega, show e % 256 / 2 % 2 = e / 2 % 2 by omega, show e % 256 / 8 % 2 = e / 8 % 2 by omega, show e % 256 / 2 % 4 = e / 2 % 4 by omega, show e % 256 / 16 % 2 = e / 16 % 2 by omega, show e % 256 / 64 % 2 = e / 64 % 2 by omega, show e % 256 / 128 % 2 = e / 128 % 2 by omega]
  have hr : e % 256 / rightN u % 2 = e / rightN u % 2 := by
    rcases h3 with rfl | rfl | rfl
    · show e % 256 / 8 % 2 = e / 8 % 2; omega
    · show e % 256 / 2 % 2 = e / 2 % 2; omega
    · show e % 256 / 4 % 2 = e / 4 % 2; omega
  rw [hr]
/-- What a leaf needs for a use, without W and with it. -/
def need1 (u : Nat) : Nat := if u = 0 then 89 else if u = 1 then 83 else 213
def need2 (u : Nat) : Nat := if u = 0 then 91 else if u = 1 then 83 else 215
theorem need1_lt (u : Nat) : need1 u < 256 := by unfold need1; split; decide; split <;> decide
theorem need2_lt (u : Nat) : need2 u < 256 := by unfold need2; split; decide; split <;> decide
theorem ok_bits (u e : Nat) (hu : u < 3) : okB u e = if e &&& 4 = 0 then decide (e &&& need1 u = need1 u) else decide (e &&& need2 u = need2 u) := by
  rw [and_low e 4 (by decide), and_low e (need1 u) (need1_lt u), and_low e (need2 u) (need2_lt u), ok_low u e hu]
  have h : e % 256 < 256 := Nat.mod_lt _ (by decide)
  generalize e % 256 = m at h
  have h3 : u = 0 ∨ u = 1 ∨ u = 2 := by omega
  rcases h3 with rfl | rfl | rfl
  · revert m; decide +kernel
  · revert m; decide +kernel
  · revert m; decide +kernel
end Go.Vx
namespace Go.Proofs.YtflmobffeeocdaaDoor
open Go.ChangeShapes Go.WideShapes Go.ChangeAt Go.RowKit
open Go.Vx

theorem page_any (e : Nat) (he : e < 4294967296) (w : World) :
    Calls Tryd.prog 57 #[.int .u32 (e : Int)] w fun x w' => x = .returned (.int .i64 ((e / 1024 : Nat) : Int)) ∧ w' = w := by
  have h1 : (e : Int) / 1024 = ((e / 1024 : Nat) : Int) := by omega
  have hw : IntKind.i64.wrap ((e / 1024 : Nat) : Int) = ((e / 1024 : Nat) : Int) := by rw [IntKind.wrap_i64]; omega
  generalize e / 1024 = p at h1 hw
  have hb : (e : Int) < 4294967296 := by omega
  clear he
  go_enter Tryd.func57, Tryd.ntmps57
  go_wp2
  all_goals
    go_ret
    refine ⟨?_, rfl⟩
    first | rfl | (simp [h1])
theorem leads_any (e : Nat) (he : e < 4294967296) (w : World) :
    Calls Tryd.prog 59 #[.int .u32 (e : Int)] w fun x w' => x = .returned (.bool (leadsB e)) ∧ w' = w := by
  have h1 : bits .and .u32 (e : Int) 223 = ((e &&& 223 : Nat) : Int) := by
    rw [u32_and (e : Int) 223 (by omega) (by omega) (by decide) (by decide)]; rfl
  have HL := Vx.hid (leads_bits e)
  generalize e &&& 223 = x at h1 HL
  generalize leadsB e = b at HL
  clear he
  go_enter Tryd.func59, Tryd.ntmps59
  go_wp2
  all_goals
    go_ret
    refine ⟨?_, rfl⟩
    rw [← HL.out]
    refine ret_val (congrArg Value.bool ?_)
    rw [Bool.eq_iff_iff]
    simp
    try omega
def wholeB (e S : Nat) : Bool := decide (e / 1024 * 4096 % S = 0)
theorem allows_gen (e S N0 N1 N2 : Nat) (he : e < 4294967296) (hS : S = 4096 ∨ S = 4194304) (hN1 : N1 < 256) (hN2 : N2 < 256) (h1 : bits .or .u32 (N0 : Int) 81 = (N1 : Int)) (h2 : bits .or .u32 (N1 : Int) 2 = (N2 : Int)) (B : Bool) (hB : B = if e &&& 4 = 0 then decide (e &&& N1 = N1) else decide (e &&& N2 = N2)) (w : World) :
    Calls Tryd.prog 56 #[.int .u32 (e : Int), .int .u32 (S : Int), .int .u32 (N0 : Int)] w fun x w' => x = .returned (.bool (B && wholeB e S)) ∧ w' = w := by
  have a4 : bits .and .u32 (e : Int) 4 = ((e &&& 4 : Nat) : Int) := by
    rw [u32_and (e : Int) 4 (by omega) (by omega) (by decide) (by decide)]; rfl
  have a1 : bits .and .u32 (e : Int) (N1 : Int) = ((e &&& N1 : Nat) : Int) := by
    rw [u32_and (e : Int) (N1 : Int) (by omega) (by omega) (by omega) (by omega)]; rfl
  have a2 : bits .and .u32 (e : Int) (N2 : Int) = ((e &&& N2 : Nat) : Int) := by
    rw [u32_and (e : Int) (N2 : Int) (by omega) (by omega) (by omega) (by omega)]; rfl
  have HPG := Vx.hid (page_any e he)
  have hpb : e / 1024 < 4194304 := by omega
  have hw1 : IntKind.i64.wrap (((e / 1024 : Nat) : Int) * 4096) = ((e / 1024 * 4096 : Nat) : Int) := by rw [IntKind.wrap_i64]; omega
  have hw2 : IntKind.i64.wrap (S : Int) = (S : Int) := by rw [IntKind.wrap_i64]; omega
  have hS0 : ¬ (S : Int) = 0 := by omega
  have hS1 : ¬ (S : Int) = -1 := by omega
  have hm : Int.tmod ((e / 1024 * 4096 : Nat) : Int) (S : Int) = ((e / 1024 * 4096 % S : Nat) : Int) := by
    rw [Int.tmod_eq_emod_of_nonneg (by omega)]; rfl
  have hw3 : IntKind.i64.wrap ((e / 1024 * 4096 % S : Nat) : Int) = ((e / 1024 * 4096 % S : Nat) : Int) := by
    have : e / 1024 * 4096 % S < S := Nat.mod_lt _ (by omega)
    rw [IntKind.wrap_i64]; omega
  have HWB : Hid (wholeB e S = decide (e / 1024 * 4096 % S = 0)) := rfl
  generalize wholeB e S = W at HWB
  generalize e / 1024 * 4096 % S = r at hm hw3 HWB
  generalize e / 1024 * 4096 = m at hw1 hm
  generalize e / 1024 = p at HPG hw1
  have HB := Vx.hid hB
  generalize e &&& 4 = x4 at a4 HB
  generalize e &&& N1 = x1 at a1 HB
  generalize e &&& N2 = x2 at a2 HB
  clear he hS hB hpb hN1 hN2
  by_cases hx : x4 = 0
  · subst hx
    have HB2 : Hid (B = decide (x1 = N1)) := by show _ = _; rw [HB.out, if_pos rfl]
    clear HB
    by_cases hc : x1 = N1
    · have c1 : ((x1 : Int) == (N1 : Int)) = true := by simp [hc]
      have c2 : (x1 : Int) = (N1 : Int) := by omega
      obtain rfl : B = true := by rw [HB2.out]; simp [hc]
      go_enter Tryd.func56, Tryd.ntmps56
      go_wp2_with fail
      refine (HPG.out _).mono ?_
      rintro z w' ⟨rfl, h⟩
      have h2 := h.symm; clear h; subst h2
      go_wp2_with fail
      all_goals
        go_ret
        refine ⟨?_, rfl⟩
        rw [HWB.out]
        refine ret_val (congrArg Value.bool ?_)
        rw [Bool.eq_iff_iff]
        simp
        try omega
    · have c1 : ((x1 : Int) == (N1 : Int)) = false := by simp; omega
      have c2 : ¬ (x1 : Int) = (N1 : Int) := by omega
      obtain rfl : B = false := by rw [HB2.out]; simp [hc]
      go_enter Tryd.func56, Tryd.ntmps56
      go_wp2_with fail
      refine (HPG.out _).mono ?_
      rintro z w' ⟨rfl, h⟩
      have h2 := h.symm; clear h; subst h2
      go_wp2_with fail
      all_goals
        go_ret
        exact ⟨by simp, rfl⟩
  · have hx2 : ¬ (x4 : Int) = 0 := by omega
    have hx3 : ((x4 : Int) != 0) = true := by simp [hx]
    have HB2 : Hid (B = decide (x2 = N2)) := by show _ = _; rw [HB.out, if_neg hx]
    clear HB
    by_cases hc : x2 = N2
    · have c1 : ((x2 : Int) == (N2 : Int)) = true := by simp [hc]
      have c2 : (x2 : Int) = (N2 : Int) := by omega
      obtain rfl : B = true := by rw [HB2.out]; simp [hc]
      go_enter Tryd.func56, Tryd.ntmps56
      go_wp2_with fail
      refine (HPG.out _).mono ?_
      rintro z w' ⟨rfl, h⟩
      have h2 := h.symm; clear h; subst h2
      go_wp2_with fail
      all_goals
        go_ret
        refine ⟨?_, rfl⟩
        rw [HWB.out]
        refine ret_val (congrArg Value.bool ?_)
        rw [Bool.eq_iff_iff]
        simp
        try omega
    · have c1 : ((x2 : Int) == (N2 : Int)) = false := by simp; omega
      have c2 : ¬ (x2 : Int) = (N2 : Int) := by omega
      obtain rfl : B = false := by rw [HB2.out]; simp [hc]
      go_enter Tryd.func56, Tryd.ntmps56
      go_wp2_with fail
      refine (HPG.out _).mono ?_
      rintro z w' ⟨rfl, h⟩
      have h2 := h.symm; clear h; subst h2
      go_wp2_with fail
      all_goals
        go_ret
        exact ⟨by simp, rfl⟩
end Go.Proofs.YtflmobffeeocdaaDoor

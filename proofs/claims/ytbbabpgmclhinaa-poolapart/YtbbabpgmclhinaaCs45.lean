import Derived.Test.YtbbabpgmclhinaaCs7
import Derived.Test.YtbbabpgmclhinaaCs8
/- The law: region, objectOf. -/
namespace Go.Proofs.Ytbbabpgmclhinaa
open Go.ChangeShapes Go.WideShapes Go.ChangeAt Go.RowKit
open Go.Vx
set_option linter.unusedVariables false

theorem lregion_0 (n : Int) (hn : I64 n) (h : ¬ n.tmod 29 = 28) (ht : pickL n 1048576 % 9 = 0) : ∃ v, I64 v ∧ ∀ w, Calls Try.prog 33 #[.int .i64 n] w fun e w' => e = .returned (.int .i64 v) ∧ Only (fun _ => False) w w' := by
  obtain ⟨h0, h1⟩ := hn
  have HP := Vx.hid (fun wv => pickL_any 1048576 (by decide) (by decide) n h0 h1 wv)
  have hk : pickL n 1048576 < 1048576 := Nat.mod_lt _ (by decide)
  generalize pickL n 1048576 = k at HP hk ht
  obtain ⟨q9, hq9⟩ : ∃ q, q = k / 9 := ⟨_, rfl⟩
  obtain ⟨a, ha⟩ : ∃ a, a = q9 % 64 := ⟨_, rfl⟩
  obtain ⟨q, hq⟩ : ∃ q, q = k / 9999 := ⟨_, rfl⟩
  obtain ⟨b, hb⟩ : ∃ b, b = q % 4 := ⟨_, rfl⟩
  obtain ⟨c, hc⟩ : ∃ c, c = b / 3 := ⟨_, rfl⟩
  have e1 : Int.tmod (k : Int) 9 = 0 := by rw [Int.tmod_eq_emod_of_nonneg (by omega)]; omega
  have e2 : Int.tdiv (k : Int) 9 = (q9 : Int) := by rw [Int.tdiv_eq_ediv_of_nonneg (by omega)]; omega
  have e3 : Int.tmod (q9 : Int) 64 = (a : Int) := by rw [Int.tmod_eq_emod_of_nonneg (by omega)]; omega
  have e4 : Int.tdiv (k : Int) 9999 = (q : Int) := by rw [Int.tdiv_eq_ediv_of_nonneg (by omega)]; omega
  have e5 : Int.tmod (q : Int) 4 = (b : Int) := by rw [Int.tmod_eq_emod_of_nonneg (by omega)]; omega
  have e6 : Int.tdiv (b : Int) 3 = (c : Int) := by rw [Int.tdiv_eq_ediv_of_nonneg (by omega)]; omega
  have w1 : IntKind.i64.wrap (q9 : Int) = (q9 : Int) := by rw [IntKind.wrap_i64]; omega
  have w2 : IntKind.i64.wrap (a : Int) = (a : Int) := by rw [IntKind.wrap_i64]; omega
  have w3 : IntKind.i64.wrap (q : Int) = (q : Int) := by rw [IntKind.wrap_i64]; omega
  have w4 : IntKind.i64.wrap (b : Int) = (b : Int) := by rw [IntKind.wrap_i64]; omega
  have w5 : IntKind.i64.wrap (c : Int) = (c : Int) := by rw [IntKind.wrap_i64]; omega
  have w6 : IntKind.i64.wrap ((a : Int) * 1) = (a : Int) * 1 := by rw [IntKind.wrap_i64]; omega
  have w7 : IntKind.i64.wrap (0 + (a : Int) * 1) = 0 + (a : Int) * 1 := by rw [IntKind.wrap_i64]; omega
  have w8 : IntKind.i64.wrap (0 + (a : Int) * 1 + (c : Int)) = 0 + (a : Int) * 1 + (c : Int) := by rw [IntKind.wrap_i64]; omega
  have w9 : IntKind.i64.wrap ((a : Int) + (c : Int)) = (a : Int) + (c : Int) := by rw [IntKind.wrap_i64]; omega
  have w10 : IntKind.i64.wrap (0 + (a : Int)) = 0 + (a : Int) := by rw [IntKind.wrap_i64]; omega
  have w11 : IntKind.i64.wrap (0 + (c : Int)) = 0 + (c : Int) := by rw [IntKind.wrap_i64]; omega
  refine ⟨0 + (a : Int) * 1 + (c : Int), ⟨by omega, by omega⟩, fun w => ?_⟩
  have HO : Hid (∀ o p, Only (fun _ => False) w ((w.alloc o).alloc p)) := fun o p => ((Only.refl _ w).alloc _).alloc _
  have d1 : (n.tmod 29 == 28) = false := beq_eq_false_iff_ne.2 h
  have d2 : IntKind.i64.wrap (n.tmod 29) = n.tmod 29 := by
    have h3 : (n.tmod 29).natAbs < 29 := by rw [Int.natAbs_tmod]; exact Nat.mod_lt _ (by decide)
    rw [IntKind.wrap_i64]
    omega
  clear ht hk hq9 ha hq hb hc
  go_enter Try.func33, Try.ntmps33
  go_wp2_with fail
  refine (HP.out _).mono ?_
  rintro e w' ⟨rfl, hh⟩
  have h2 := hh.symm; clear hh; subst h2
  go_wp2_with fail
  all_goals
    go_ret
    exact ⟨by first | rfl | simp, HO.out _ _⟩
theorem lregion_1 (n : Int) (hn : I64 n) (h : ¬ n.tmod 29 = 28) (ht : pickL n 1048576 % 9 = 1) : ∃ v, I64 v ∧ ∀ w, Calls Try.prog 33 #[.int .i64 n] w fun e w' => e = .returned (.int .i64 v) ∧ Only (fun _ => False) w w' := by
  obtain ⟨h0, h1⟩ := hn
  have HP := Vx.hid (fun wv => pickL_any 1048576 (by decide) (by decide) n h0 h1 wv)
  have hk : pickL n 1048576 < 1048576 := Nat.mod_lt _ (by decide)
  generalize pickL n 1048576 = k at HP hk ht
  obtain ⟨q9, hq9⟩ : ∃ q, q = k / 9 := ⟨_, rfl⟩
  obtain ⟨a, ha⟩ : ∃ a, a = q9 % 32 := ⟨_, rfl⟩
  obtain ⟨q, hq⟩ : ∃ q, q = k / 9999 := ⟨_, rfl⟩
  obtain ⟨b, hb⟩ : ∃ b, b = q % 4 := ⟨_, rfl⟩
  obtain ⟨c, hc⟩ : ∃ c, c = b / 3 := ⟨_, rfl⟩
  have e1 : Int.tmod (k : Int) 9 = 1 := by rw [Int.tmod_eq_emod_of_nonneg (by omega)]; omega
  have e2 : Int.tdiv (k : Int) 9 = (q9 : Int) := by rw [Int.tdiv_eq_ediv_of_nonneg (by omega)]; omega
  have e3 : Int.tmod (q9 : Int) 32 = (a : Int) := by rw [Int.tmod_eq_emod_of_nonneg (by omega)]; omega
  have e4 : Int.tdiv (k : Int) 9999 = (q : Int) := by rw [Int.tdiv_eq_ediv_of_nonneg (by omega)]; omega
  have e5 : Int.tmod (q : Int) 4 = (b : Int) := by rw [Int.tmod_eq_emod_of_nonneg (by omega)]; omega
  have e6 : Int.tdiv (b : Int) 3 = (c : Int) := by rw [Int.tdiv_eq_ediv_of_nonneg (by omega)]; omega
  have w1 : IntKind.i64.wrap (q9 : Int) = (q9 : Int) := by rw [IntKind.wrap_i64]; omega
  have w2 : IntKind.i64.wrap (a : Int) = (a : Int) := by rw [IntKind.wrap_i64]; omega
  have w3 : IntKind.i64.wrap (q : Int) = (q : Int) := by rw [IntKind.wrap_i64]; omega
  have w4 : IntKind.i64.wrap (b : Int) = (b : Int) := by rw [IntKind.wrap_i64]; omega
  have w5 : IntKind.i64.wrap (c : Int) = (c : Int) := by rw [IntKind.wrap_i64]; omega
  have w6 : IntKind.i64.wrap ((a : Int) * 2) = (a : Int) * 2 := by rw [IntKind.wrap_i64]; omega
  have w7 : IntKind.i64.wrap (256 + (a : Int) * 2) = 256 + (a : Int) * 2 := by rw [IntKind.wrap_i64]; omega
  have w8 : IntKind.i64.wrap (256 + (a : Int) * 2 + (c : Int)) = 256 + (a : Int) * 2 + (c : Int) := by rw [IntKind.wrap_i64]; omega
  have w9 : IntKind.i64.wrap ((a : Int) + (c : Int)) = (a : Int) + (c : Int) := by rw [IntKind.wrap_i64]; omega
  have w10 : IntKind.i64.wrap (256 + (a : Int)) = 256 + (a : Int) := by rw [IntKind.wrap_i64]; omega
  have w11 : IntKind.i64.wrap (256 + (c : Int)) = 256 + (c : Int) := by rw [IntKind.wrap_i64]; omega
  refine ⟨256 + (a : Int) * 2 + (c : Int), ⟨by omega, by omega⟩, fun w => ?_⟩
  have HO : Hid (∀ o p, Only (fun _ => False) w ((w.alloc o).alloc p)) := fun o p => ((Only.refl _ w).alloc _).alloc _
  have d1 : (n.tmod 29 == 28) = false := beq_eq_false_iff_ne.2 h
  have d2 : IntKind.i64.wrap (n.tmod 29) = n.tmod 29 := by
    have h3 : (n.tmod 29).natAbs < 29 := by rw [Int.natAbs_tmod]; exact Nat.mod_lt _ (by decide)
    rw [IntKind.wrap_i64]
    omega
  clear ht hk hq9 ha hq hb hc
  go_enter Try.func33, Try.ntmps33
  go_wp2_with fail
  refine (HP.out _).mono ?_
  rintro e w' ⟨rfl, hh⟩
  have h2 := hh.symm; clear hh; subst h2
  go_wp2_with fail
  all_goals
    go_ret
    exact ⟨by first | rfl | simp, HO.out _ _⟩
theorem lregion_2 (n : Int) (hn : I64 n) (h : ¬ n.tmod 29 = 28) (ht : pickL n 1048576 % 9 = 2) : ∃ v, I64 v ∧ ∀ w, Calls Try.prog 33 #[.int .i64 n] w fun e w' => e = .returned (.int .i64 v) ∧ Only (fun _ => False) w w' := by
  obtain ⟨h0, h1⟩ := hn
  have HP := Vx.hid (fun wv => pickL_any 1048576 (by decide) (by decide) n h0 h1 wv)
  have hk : pickL n 1048576 < 1048576 := Nat.mod_lt _ (by decide)
  generalize pickL n 1048576 = k at HP hk ht
  obtain ⟨q9, hq9⟩ : ∃ q, q = k / 9 := ⟨_, rfl⟩
  obtain ⟨a, ha⟩ : ∃ a, a = q9 % 16 := ⟨_, rfl⟩
  obtain ⟨q, hq⟩ : ∃ q, q = k / 9999 := ⟨_, rfl⟩
  obtain ⟨b, hb⟩ : ∃ b, b = q % 4 := ⟨_, rfl⟩
  obtain ⟨c, hc⟩ : ∃ c, c = b / 3 := ⟨_, rfl⟩
  have e1 : Int.tmod (k : Int) 9 = 2 := by rw [Int.tmod_eq_emod_of_nonneg (by omega)]; omega
  have e2 : Int.tdiv (k : Int) 9 = (q9 : Int) := by rw [Int.tdiv_eq_ediv_of_nonneg (by omega)]; omega
  have e3 : Int.tmod (q9 : Int) 16 = (a : Int) := by rw [Int.tmod_eq_emod_of_nonneg (by omega)]; omega
  have e4 : Int.tdiv (k : Int) 9999 = (q : Int) := by rw [Int.tdiv_eq_ediv_of_nonneg (by omega)]; omega
  have e5 : Int.tmod (q : Int) 4 = (b : Int) := by rw [Int.tmod_eq_emod_of_nonneg (by omega)]; omega
  have e6 : Int.tdiv (b : Int) 3 = (c : Int) := by rw [Int.tdiv_eq_ediv_of_nonneg (by omega)]; omega
  have w1 : IntKind.i64.wrap (q9 : Int) = (q9 : Int) := by rw [IntKind.wrap_i64]; omega
  have w2 : IntKind.i64.wrap (a : Int) = (a : Int) := by rw [IntKind.wrap_i64]; omega
  have w3 : IntKind.i64.wrap (q : Int) = (q : Int) := by rw [IntKind.wrap_i64]; omega
  have w4 : IntKind.i64.wrap (b : Int) = (b : Int) := by rw [IntKind.wrap_i64]; omega
  have w5 : IntKind.i64.wrap (c : Int) = (c : Int) := by rw [IntKind.wrap_i64]; omega
  have w6 : IntKind.i64.wrap ((a : Int) * 4) = (a : Int) * 4 := by rw [IntKind.wrap_i64]; omega
  have w7 : IntKind.i64.wrap (512 + (a : Int) * 4) = 512 + (a : Int) * 4 := by rw [IntKind.wrap_i64]; omega
  have w8 : IntKind.i64.wrap (512 + (a : Int) * 4 + (c : Int)) = 512 + (a : Int) * 4 + (c : Int) := by rw [IntKind.wrap_i64]; omega
  have w9 : IntKind.i64.wrap ((a : Int) + (c : Int)) = (a : Int) + (c : Int) := by rw [IntKind.wrap_i64]; omega
  have w10 : IntKind.i64.wrap (512 + (a : Int)) = 512 + (a : Int) := by rw [IntKind.wrap_i64]; omega
  have w11 : IntKind.i64.wrap (512 + (c : Int)) = 512 + (c : Int) := by rw [IntKind.wrap_i64]; omega
  refine ⟨512 + (a : Int) * 4 + (c : Int), ⟨by omega, by omega⟩, fun w => ?_⟩
  have HO : Hid (∀ o p, Only (fun _ => False) w ((w.alloc o).alloc p)) := fun o p => ((Only.refl _ w).alloc _).alloc _
  have d1 : (n.tmod 29 == 28) = false := beq_eq_false_iff_ne.2 h
  have d2 : IntKind.i64.wrap (n.tmod 29) = n.tmod 29 := by
    have h3 : (n.tmod 29).natAbs < 29 := by rw [Int.natAbs_tmod]; exact Nat.mod_lt _ (by decide)
    rw [IntKind.wrap_i64]
    omega
  clear ht hk hq9 ha hq hb hc
  go_enter Try.func33, Try.ntmps33
  go_wp2_with fail
  refine (HP.out _).mono ?_
  rintro e w' ⟨rfl, hh⟩
  have h2 := hh.symm; clear hh; subst h2
  go_wp2_with fail
  all_goals
    go_ret
    exact ⟨by first | rfl | simp, HO.out _ _⟩
theorem lregion_3 (n : Int) (hn : I64 n) (h : ¬ n.tmod 29 = 28) (ht : pickL n 1048576 % 9 = 3) : ∃ v, I64 v ∧ ∀ w, Calls Try.prog 33 #[.int .i64 n] w fun e w' => e = .returned (.int .i64 v) ∧ Only (fun _ => False) w w' := by
  obtain ⟨h0, h1⟩ := hn
  have HP := Vx.hid (fun wv => pickL_any 1048576 (by decide) (by decide) n h0 h1 wv)
  have hk : pickL n 1048576 < 1048576 := Nat.mod_lt _ (by decide)
  generalize pickL n 1048576 = k at HP hk ht
  obtain ⟨q9, hq9⟩ : ∃ q, q = k / 9 := ⟨_, rfl⟩
  obtain ⟨a, ha⟩ : ∃ a, a = q9 % 8 := ⟨_, rfl⟩
  obtain ⟨q, hq⟩ : ∃ q, q = k / 9999 := ⟨_, rfl⟩
  obtain ⟨b, hb⟩ : ∃ b, b = q % 4 := ⟨_, rfl⟩
  obtain ⟨c, hc⟩ : ∃ c, c = b / 3 := ⟨_, rfl⟩
  have e1 : Int.tmod (k : Int) 9 = 3 := by rw [Int.tmod_eq_emod_of_nonneg (by omega)]; omega
  have e2 : Int.tdiv (k : Int) 9 = (q9 : Int) := by rw [Int.tdiv_eq_ediv_of_nonneg (by omega)]; omega
  have e3 : Int.tmod (q9 : Int) 8 = (a : Int) := by rw [Int.tmod_eq_emod_of_nonneg (by omega)]; omega
  have e4 : Int.tdiv (k : Int) 9999 = (q : Int) := by rw [Int.tdiv_eq_ediv_of_nonneg (by omega)]; omega
  have e5 : Int.tmod (q : Int) 4 = (b : Int) := by rw [Int.tmod_eq_emod_of_nonneg (by omega)]; omega
  have e6 : Int.tdiv (b : Int) 3 = (c : Int) := by rw [Int.tdiv_eq_ediv_of_nonneg (by omega)]; omega
  have w1 : IntKind.i64.wrap (q9 : Int) = (q9 : Int) := by rw [IntKind.wrap_i64]; omega
  have w2 : IntKind.i64.wrap (a : Int) = (a : Int) := by rw [IntKind.wrap_i64]; omega
  have w3 : IntKind.i64.wrap (q : Int) = (q : Int) := by rw [IntKind.wrap_i64]; omega
  have w4 : IntKind.i64.wrap (b : Int) = (b : Int) := by rw [IntKind.wrap_i64]; omega
  have w5 : IntKind.i64.wrap (c : Int) = (c : Int) := by rw [IntKind.wrap_i64]; omega
  have w6 : IntKind.i64.wrap ((a : Int) * 8) = (a : Int) * 8 := by rw [IntKind.wrap_i64]; omega
  have w7 : IntKind.i64.wrap (768 + (a : Int) * 8) = 768 + (a : Int) * 8 := by rw [IntKind.wrap_i64]; omega
  have w8 : IntKind.i64.wrap (768 + (a : Int) * 8 + (c : Int)) = 768 + (a : Int) * 8 + (c : Int) := by rw [IntKind.wrap_i64]; omega
  have w9 : IntKind.i64.wrap ((a : Int) + (c : Int)) = (a : Int) + (c : Int) := by rw [IntKind.wrap_i64]; omega
  have w10 : IntKind.i64.wrap (768 + (a : Int)) = 768 + (a : Int) := by rw [IntKind.wrap_i64]; omega
  have w11 : IntKind.i64.wrap (768 + (c : Int)) = 768 + (c : Int) := by rw [IntKind.wrap_i64]; omega
  refine ⟨768 + (a : Int) * 8 + (c : Int), ⟨by omega, by omega⟩, fun w => ?_⟩
  have HO : Hid (∀ o p, Only (fun _ => False) w ((w.alloc o).alloc p)) := fun o p => ((Only.refl _ w).alloc _).alloc _
  have d1 : (n.tmod 29 == 28) = false := beq_eq_false_iff_ne.2 h
  have d2 : IntKind.i64.wrap (n.tmod 29) = n.tmod 29 := by
    have h3 : (n.tmod 29).natAbs < 29 := by rw [Int.natAbs_tmod]; exact Nat.mod_lt _ (by decide)
    rw [IntKind.wrap_i64]
    omega
  clear ht hk hq9 ha hq hb hc
  go_enter Try.func33, Try.ntmps33
  go_wp2_with fail
  refine (HP.out _).mono ?_
  rintro e w' ⟨rfl, hh⟩
  have h2 := hh.symm; clear hh; subst h2
  go_wp2_with fail
  all_goals
    go_ret
    exact ⟨by first | rfl | simp, HO.out _ _⟩
theorem lregion_4 (n : Int) (hn : I64 n) (h : ¬ n.tmod 29 = 28) (ht : pickL n 1048576 % 9 = 4) : ∃ v, I64 v ∧ ∀ w, Calls Try.prog 33 #[.int .i64 n] w fun e w' => e = .returned (.int .i64 v) ∧ Only (fun _ => False) w w' := by
  obtain ⟨h0, h1⟩ := hn
  have HP := Vx.hid (fun wv => pickL_any 1048576 (by decide) (by decide) n h0 h1 wv)
  have hk : pickL n 1048576 < 1048576 := Nat.mod_lt _ (by decide)
  generalize pickL n 1048576 = k at HP hk ht
  obtain ⟨q9, hq9⟩ : ∃ q, q = k / 9 := ⟨_, rfl⟩
  obtain ⟨a, ha⟩ : ∃ a, a = q9 % 4 := ⟨_, rfl⟩
  obtain ⟨q, hq⟩ : ∃ q, q = k / 9999 := ⟨_, rfl⟩
  obtain ⟨b, hb⟩ : ∃ b, b = q % 4 := ⟨_, rfl⟩
  obtain ⟨c, hc⟩ : ∃ c, c = b / 3 := ⟨_, rfl⟩
  have e1 : Int.tmod (k : Int) 9 = 4 := by rw [Int.tmod_eq_emod_of_nonneg (by omega)]; omega
  have e2 : Int.tdiv (k : Int) 9 = (q9 : Int) := by rw [Int.tdiv_eq_ediv_of_nonneg (by omega)]; omega
  have e3 : Int.tmod (q9 : Int) 4 = (a : Int) := by rw [Int.tmod_eq_emod_of_nonneg (by omega)]; omega
  have e4 : Int.tdiv (k : Int) 9999 = (q : Int) := by rw [Int.tdiv_eq_ediv_of_nonneg (by omega)]; omega
  have e5 : Int.tmod (q : Int) 4 = (b : Int) := by rw [Int.tmod_eq_emod_of_nonneg (by omega)]; omega
  have e6 : Int.tdiv (b : Int) 3 = (c : Int) := by rw [Int.tdiv_eq_ediv_of_nonneg (by omega)]; omega
  have w1 : IntKind.i64.wrap (q9 : Int) = (q9 : Int) := by rw [IntKind.wrap_i64]; omega
  have w2 : IntKind.i64.wrap (a : Int) = (a : Int) := by rw [IntKind.wrap_i64]; omega
  have w3 : IntKind.i64.wrap (q : Int) = (q : Int) := by rw [IntKind.wrap_i64]; omega
  have w4 : IntKind.i64.wrap (b : Int) = (b : Int) := by rw [IntKind.wrap_i64]; omega
  have w5 : IntKind.i64.wrap (c : Int) = (c : Int) := by rw [IntKind.wrap_i64]; omega
  have w6 : IntKind.i64.wrap ((a : Int) * 16) = (a : Int) * 16 := by rw [IntKind.wrap_i64]; omega
  have w7 : IntKind.i64.wrap (1024 + (a : Int) * 16) = 1024 + (a : Int) * 16 := by rw [IntKind.wrap_i64]; omega
  have w8 : IntKind.i64.wrap (1024 + (a : Int) * 16 + (c : Int)) = 1024 + (a : Int) * 16 + (c : Int) := by rw [IntKind.wrap_i64]; omega
  have w9 : IntKind.i64.wrap ((a : Int) + (c : Int)) = (a : Int) + (c : Int) := by rw [IntKind.wrap_i64]; omega
  have w10 : IntKind.i64.wrap (1024 + (a : Int)) = 1024 + (a : Int) := by rw [IntKind.wrap_i64]; omega
  have w11 : IntKind.i64.wrap (1024 + (c : Int)) = 1024 + (c : Int) := by rw [IntKind.wrap_i64]; omega
  refine ⟨1024 + (a : Int) * 16 + (c : Int), ⟨by omega, by omega⟩, fun w => ?_⟩
  have HO : Hid (∀ o p, Only (fun _ => False) w ((w.alloc o).alloc p)) := fun o p => ((Only.refl _ w).alloc _).alloc _
  have d1 : (n.tmod 29 == 28) = false := beq_eq_false_iff_ne.2 h
  have d2 : IntKind.i64.wrap (n.tmod 29) = n.tmod 29 := by
    have h3 : (n.tmod 29).natAbs < 29 := by rw [Int.natAbs_tmod]; exact Nat.mod_lt _ (by decide)
    rw [IntKind.wrap_i64]
    omega
  clear ht hk hq9 ha hq hb hc
  go_enter Try.func33, Try.ntmps33
  go_wp2_with fail
  refine (HP.out _).mono ?_
  rintro e w' ⟨rfl, hh⟩
  have h2 := hh.symm; clear hh; subst h2
  go_wp2_with fail
  all_goals
    go_ret
    exact ⟨by first | rfl | simp, HO.out _ _⟩
theorem lregion_5 (n : Int) (hn : I64 n) (h : ¬ n.tmod 29 = 28) (ht : pickL n 1048576 % 9 = 5) : ∃ v, I64 v ∧ ∀ w, Calls Try.prog 33 #[.int .i64 n] w fun e w' => e = .returned (.int .i64 v) ∧ Only (fun _ => False) w w' := by
  obtain ⟨h0, h1⟩ := hn
  have HP := Vx.hid (fun wv => pickL_any 1048576 (by decide) (by decide) n h0 h1 wv)
  have hk : pickL n 1048576 < 1048576 := Nat.mod_lt _ (by decide)
  generalize pickL n 1048576 = k at HP hk ht
  obtain ⟨q9, hq9⟩ : ∃ q, q = k / 9 := ⟨_, rfl⟩
  obtain ⟨a, ha⟩ : ∃ a, a = q9 % 2 := ⟨_, rfl⟩
  obtain ⟨q, hq⟩ : ∃ q, q = k / 9999 := ⟨_, rfl⟩
  obtain ⟨b, hb⟩ : ∃ b, b = q % 4 := ⟨_, rfl⟩
  obtain ⟨c, hc⟩ : ∃ c, c = b / 3 := ⟨_, rfl⟩
  have e1 : Int.tmod (k : Int) 9 = 5 := by rw [Int.tmod_eq_emod_of_nonneg (by omega)]; omega
  have e2 : Int.tdiv (k : Int) 9 = (q9 : Int) := by rw [Int.tdiv_eq_ediv_of_nonneg (by omega)]; omega
  have e3 : Int.tmod (q9 : Int) 2 = (a : Int) := by rw [Int.tmod_eq_emod_of_nonneg (by omega)]; omega
  have e4 : Int.tdiv (k : Int) 9999 = (q : Int) := by rw [Int.tdiv_eq_ediv_of_nonneg (by omega)]; omega
  have e5 : Int.tmod (q : Int) 4 = (b : Int) := by rw [Int.tmod_eq_emod_of_nonneg (by omega)]; omega
  have e6 : Int.tdiv (b : Int) 3 = (c : Int) := by rw [Int.tdiv_eq_ediv_of_nonneg (by omega)]; omega
  have w1 : IntKind.i64.wrap (q9 : Int) = (q9 : Int) := by rw [IntKind.wrap_i64]; omega
  have w2 : IntKind.i64.wrap (a : Int) = (a : Int) := by rw [IntKind.wrap_i64]; omega
  have w3 : IntKind.i64.wrap (q : Int) = (q : Int) := by rw [IntKind.wrap_i64]; omega
  have w4 : IntKind.i64.wrap (b : Int) = (b : Int) := by rw [IntKind.wrap_i64]; omega
  have w5 : IntKind.i64.wrap (c : Int) = (c : Int) := by rw [IntKind.wrap_i64]; omega
  have w6 : IntKind.i64.wrap ((a : Int) * 32) = (a : Int) * 32 := by rw [IntKind.wrap_i64]; omega
  have w7 : IntKind.i64.wrap (1280 + (a : Int) * 32) = 1280 + (a : Int) * 32 := by rw [IntKind.wrap_i64]; omega
  have w8 : IntKind.i64.wrap (1280 + (a : Int) * 32 + (c : Int)) = 1280 + (a : Int) * 32 + (c : Int) := by rw [IntKind.wrap_i64]; omega
  have w9 : IntKind.i64.wrap ((a : Int) + (c : Int)) = (a : Int) + (c : Int) := by rw [IntKind.wrap_i64]; omega
  have w10 : IntKind.i64.wrap (1280 + (a : Int)) = 1280 + (a : Int) := by rw [IntKind.wrap_i64]; omega
  have w11 : IntKind.i64.wrap (1280 + (c : Int)) = 1280 + (c : Int) := by rw [IntKind.wrap_i64]; omega
  refine ⟨1280 + (a : Int) * 32 + (c : Int), ⟨by omega, by omega⟩, fun w => ?_⟩
  have HO : Hid (∀ o p, Only (fun _ => False) w ((w.alloc o).alloc p)) := fun o p => ((Only.refl _ w).alloc _).alloc _
  have d1 : (n.tmod 29 == 28) = false := beq_eq_false_iff_ne.2 h
  have d2 : IntKind.i64.wrap (n.tmod 29) = n.tmod 29 := by
    have h3 : (n.tmod 29).natAbs < 29 := by rw [Int.natAbs_tmod]; exact Nat.mod_lt _ (by decide)
    rw [IntKind.wrap_i64]
    omega
  clear ht hk hq9 ha hq hb hc
  go_enter Try.func33, Try.ntmps33
  go_wp2_with fail
  refine (HP.out _).mono ?_
  rintro e w' ⟨rfl, hh⟩
  have h2 := hh.symm; clear hh; subst h2
  go_wp2_with fail
  all_goals
    go_ret
    exact ⟨by first | rfl | simp, HO.out _ _⟩
theorem lregion_6 (n : Int) (hn : I64 n) (h : ¬ n.tmod 29 = 28) (ht : pickL n 1048576 % 9 = 6) : ∃ v, I64 v ∧ ∀ w, Calls Try.prog 33 #[.int .i64 n] w fun e w' => e = .returned (.int .i64 v) ∧ Only (fun _ => False) w w' := by
  obtain ⟨h0, h1⟩ := hn
  have HP := Vx.hid (fun wv => pickL_any 1048576 (by decide) (by decide) n h0 h1 wv)
  have hk : pickL n 1048576 < 1048576 := Nat.mod_lt _ (by decide)
  generalize pickL n 1048576 = k at HP hk ht
  obtain ⟨q9, hq9⟩ : ∃ q, q = k / 9 := ⟨_, rfl⟩
  obtain ⟨a, ha⟩ : ∃ a, a = q9 % 4 := ⟨_, rfl⟩
  obtain ⟨q, hq⟩ : ∃ q, q = k / 9999 := ⟨_, rfl⟩
  obtain ⟨b, hb⟩ : ∃ b, b = q % 4 := ⟨_, rfl⟩
  obtain ⟨c, hc⟩ : ∃ c, c = b / 3 := ⟨_, rfl⟩
  have e1 : Int.tmod (k : Int) 9 = 6 := by rw [Int.tmod_eq_emod_of_nonneg (by omega)]; omega
  have e2 : Int.tdiv (k : Int) 9 = (q9 : Int) := by rw [Int.tdiv_eq_ediv_of_nonneg (by omega)]; omega
  have e3 : Int.tmod (q9 : Int) 4 = (a : Int) := by rw [Int.tmod_eq_emod_of_nonneg (by omega)]; omega
  have e4 : Int.tdiv (k : Int) 9999 = (q : Int) := by rw [Int.tdiv_eq_ediv_of_nonneg (by omega)]; omega
  have e5 : Int.tmod (q : Int) 4 = (b : Int) := by rw [Int.tmod_eq_emod_of_nonneg (by omega)]; omega
  have e6 : Int.tdiv (b : Int) 3 = (c : Int) := by rw [Int.tdiv_eq_ediv_of_nonneg (by omega)]; omega
  have w1 : IntKind.i64.wrap (q9 : Int) = (q9 : Int) := by rw [IntKind.wrap_i64]; omega
  have w2 : IntKind.i64.wrap (a : Int) = (a : Int) := by rw [IntKind.wrap_i64]; omega
  have w3 : IntKind.i64.wrap (q : Int) = (q : Int) := by rw [IntKind.wrap_i64]; omega
  have w4 : IntKind.i64.wrap (b : Int) = (b : Int) := by rw [IntKind.wrap_i64]; omega
  have w5 : IntKind.i64.wrap (c : Int) = (c : Int) := by rw [IntKind.wrap_i64]; omega
  have w6 : IntKind.i64.wrap ((a : Int) * 64) = (a : Int) * 64 := by rw [IntKind.wrap_i64]; omega
  have w7 : IntKind.i64.wrap (1536 + (a : Int) * 64) = 1536 + (a : Int) * 64 := by rw [IntKind.wrap_i64]; omega
  have w8 : IntKind.i64.wrap (1536 + (a : Int) * 64 + (c : Int)) = 1536 + (a : Int) * 64 + (c : Int) := by rw [IntKind.wrap_i64]; omega
  have w9 : IntKind.i64.wrap ((a : Int) + (c : Int)) = (a : Int) + (c : Int) := by rw [IntKind.wrap_i64]; omega
  have w10 : IntKind.i64.wrap (1536 + (a : Int)) = 1536 + (a : Int) := by rw [IntKind.wrap_i64]; omega
  have w11 : IntKind.i64.wrap (1536 + (c : Int)) = 1536 + (c : Int) := by rw [IntKind.wrap_i64]; omega
  refine ⟨1536 + (a : Int) * 64 + (c : Int), ⟨by omega, by omega⟩, fun w => ?_⟩
  have HO : Hid (∀ o p, Only (fun _ => False) w ((w.alloc o).alloc p)) := fun o p => ((Only.refl _ w).alloc _).alloc _
  have d1 : (n.tmod 29 == 28) = false := beq_eq_false_iff_ne.2 h
  have d2 : IntKind.i64.wrap (n.tmod 29) = n.tmod 29 := by
    have h3 : (n.tmod 29).natAbs < 29 := by rw [Int.natAbs_tmod]; exact Nat.mod_lt _ (by decide)
    rw [IntKind.wrap_i64]
    omega
  clear ht hk hq9 ha hq hb hc
  go_enter Try.func33, Try.ntmps33
  go_wp2_with fail
  refine (HP.out _).mono ?_
  rintro e w' ⟨rfl, hh⟩
  have h2 := hh.symm; clear hh; subst h2
  go_wp2_with fail
  all_goals
    go_ret
    exact ⟨by first | rfl | simp, HO.out _ _⟩
theorem lregion_7 (n : Int) (hn : I64 n) (h : ¬ n.tmod 29 = 28) (ht : pickL n 1048576 % 9 = 7) : ∃ v, I64 v ∧ ∀ w, Calls Try.prog 33 #[.int .i64 n] w fun e w' => e = .returned (.int .i64 v) ∧ Only (fun _ => False) w w' := by
  obtain ⟨h0, h1⟩ := hn
  have HP := Vx.hid (fun wv => pickL_any 1048576 (by decide) (by decide) n h0 h1 wv)
  have hk : pickL n 1048576 < 1048576 := Nat.mod_lt _ (by decide)
  generalize pickL n 1048576 = k at HP hk ht
  obtain ⟨q9, hq9⟩ : ∃ q, q = k / 9 := ⟨_, rfl⟩
  obtain ⟨a, ha⟩ : ∃ a, a = q9 % 2 := ⟨_, rfl⟩
  obtain ⟨q, hq⟩ : ∃ q, q = k / 9999 := ⟨_, rfl⟩
  obtain ⟨b, hb⟩ : ∃ b, b = q % 4 := ⟨_, rfl⟩
  obtain ⟨c, hc⟩ : ∃ c, c = b / 3 := ⟨_, rfl⟩
  have e1 : Int.tmod (k : Int) 9 = 7 := by rw [Int.tmod_eq_emod_of_nonneg (by omega)]; omega
  have e2 : Int.tdiv (k : Int) 9 = (q9 : Int) := by rw [Int.tdiv_eq_ediv_of_nonneg (by omega)]; omega
  have e3 : Int.tmod (q9 : Int) 2 = (a : Int) := by rw [Int.tmod_eq_emod_of_nonneg (by omega)]; omega
  have e4 : Int.tdiv (k : Int) 9999 = (q : Int) := by rw [Int.tdiv_eq_ediv_of_nonneg (by omega)]; omega
  have e5 : Int.tmod (q : Int) 4 = (b : Int) := by rw [Int.tmod_eq_emod_of_nonneg (by omega)]; omega
  have e6 : Int.tdiv (b : Int) 3 = (c : Int) := by rw [Int.tdiv_eq_ediv_of_nonneg (by omega)]; omega
  have w1 : IntKind.i64.wrap (q9 : Int) = (q9 : Int) := by rw [IntKind.wrap_i64]; omega
  have w2 : IntKind.i64.wrap (a : Int) = (a : Int) := by rw [IntKind.wrap_i64]; omega
  have w3 : IntKind.i64.wrap (q : Int) = (q : Int) := by rw [IntKind.wrap_i64]; omega
  have w4 : IntKind.i64.wrap (b : Int) = (b : Int) := by rw [IntKind.wrap_i64]; omega
  have w5 : IntKind.i64.wrap (c : Int) = (c : Int) := by rw [IntKind.wrap_i64]; omega
  have w6 : IntKind.i64.wrap ((a : Int) * 128) = (a : Int) * 128 := by rw [IntKind.wrap_i64]; omega
  have w7 : IntKind.i64.wrap (1792 + (a : Int) * 128) = 1792 + (a : Int) * 128 := by rw [IntKind.wrap_i64]; omega
  have w8 : IntKind.i64.wrap (1792 + (a : Int) * 128 + (c : Int)) = 1792 + (a : Int) * 128 + (c : Int) := by rw [IntKind.wrap_i64]; omega
  have w9 : IntKind.i64.wrap ((a : Int) + (c : Int)) = (a : Int) + (c : Int) := by rw [IntKind.wrap_i64]; omega
  have w10 : IntKind.i64.wrap (1792 + (a : Int)) = 1792 + (a : Int) := by rw [IntKind.wrap_i64]; omega
  have w11 : IntKind.i64.wrap (1792 + (c : Int)) = 1792 + (c : Int) := by rw [IntKind.wrap_i64]; omega
  refine ⟨1792 + (a : Int) * 128 + (c : Int), ⟨by omega, by omega⟩, fun w => ?_⟩
  have HO : Hid (∀ o p, Only (fun _ => False) w ((w.alloc o).alloc p)) := fun o p => ((Only.refl _ w).alloc _).alloc _
  have d1 : (n.tmod 29 == 28) = false := beq_eq_false_iff_ne.2 h
  have d2 : IntKind.i64.wrap (n.tmod 29) = n.tmod 29 := by
    have h3 : (n.tmod 29).natAbs < 29 := by rw [Int.natAbs_tmod]; exact Nat.mod_lt _ (by decide)
    rw [IntKind.wrap_i64]
    omega
  clear ht hk hq9 ha hq hb hc
  go_enter Try.func33, Try.ntmps33
  go_wp2_with fail
  refine (HP.out _).mono ?_
  rintro e w' ⟨rfl, hh⟩
  have h2 := hh.symm; clear hh; subst h2
  go_wp2_with fail
  all_goals
    go_ret
    exact ⟨by first | rfl | simp, HO.out _ _⟩
theorem lregion_8 (n : Int) (hn : I64 n) (h : ¬ n.tmod 29 = 28) (ht : pickL n 1048576 % 9 = 8) : ∃ v, I64 v ∧ ∀ w, Calls Try.prog 33 #[.int .i64 n] w fun e w' => e = .returned (.int .i64 v) ∧ Only (fun _ => False) w w' := by
  obtain ⟨h0, h1⟩ := hn
  have HP := Vx.hid (fun wv => pickL_any 1048576 (by decide) (by decide) n h0 h1 wv)
  have hk : pickL n 1048576 < 1048576 := Nat.mod_lt _ (by decide)
  generalize pickL n 1048576 = k at HP hk ht
  obtain ⟨q9, hq9⟩ : ∃ q, q = k / 9 := ⟨_, rfl⟩
  obtain ⟨a, ha⟩ : ∃ a, a = q9 % 1 := ⟨_, rfl⟩
  obtain ⟨q, hq⟩ : ∃ q, q = k / 9999 := ⟨_, rfl⟩
  obtain ⟨b, hb⟩ : ∃ b, b = q % 4 := ⟨_, rfl⟩
  obtain ⟨c, hc⟩ : ∃ c, c = b / 3 := ⟨_, rfl⟩
  have e1 : Int.tmod (k : Int) 9 = 8 := by rw [Int.tmod_eq_emod_of_nonneg (by omega)]; omega
  have e2 : Int.tdiv (k : Int) 9 = (q9 : Int) := by rw [Int.tdiv_eq_ediv_of_nonneg (by omega)]; omega
  have e3 : Int.tmod (q9 : Int) 1 = (a : Int) := by rw [Int.tmod_eq_emod_of_nonneg (by omega)]; omega
  have e4 : Int.tdiv (k : Int) 9999 = (q : Int) := by rw [Int.tdiv_eq_ediv_of_nonneg (by omega)]; omega
  have e5 : Int.tmod (q : Int) 4 = (b : Int) := by rw [Int.tmod_eq_emod_of_nonneg (by omega)]; omega
  have e6 : Int.tdiv (b : Int) 3 = (c : Int) := by rw [Int.tdiv_eq_ediv_of_nonneg (by omega)]; omega
  have w1 : IntKind.i64.wrap (q9 : Int) = (q9 : Int) := by rw [IntKind.wrap_i64]; omega
  have w2 : IntKind.i64.wrap (a : Int) = (a : Int) := by rw [IntKind.wrap_i64]; omega
  have w3 : IntKind.i64.wrap (q : Int) = (q : Int) := by rw [IntKind.wrap_i64]; omega
  have w4 : IntKind.i64.wrap (b : Int) = (b : Int) := by rw [IntKind.wrap_i64]; omega
  have w5 : IntKind.i64.wrap (c : Int) = (c : Int) := by rw [IntKind.wrap_i64]; omega
  have w6 : IntKind.i64.wrap ((a : Int) * 256) = (a : Int) * 256 := by rw [IntKind.wrap_i64]; omega
  have w7 : IntKind.i64.wrap (2048 + (a : Int) * 256) = 2048 + (a : Int) * 256 := by rw [IntKind.wrap_i64]; omega
  have w8 : IntKind.i64.wrap (2048 + (a : Int) * 256 + (c : Int)) = 2048 + (a : Int) * 256 + (c : Int) := by rw [IntKind.wrap_i64]; omega
  have w9 : IntKind.i64.wrap ((a : Int) + (c : Int)) = (a : Int) + (c : Int) := by rw [IntKind.wrap_i64]; omega
  have w10 : IntKind.i64.wrap (2048 + (a : Int)) = 2048 + (a : Int) := by rw [IntKind.wrap_i64]; omega
  have w11 : IntKind.i64.wrap (2048 + (c : Int)) = 2048 + (c : Int) := by rw [IntKind.wrap_i64]; omega
  refine ⟨2048 + (a : Int) * 256 + (c : Int), ⟨by omega, by omega⟩, fun w => ?_⟩
  have HO : Hid (∀ o p, Only (fun _ => False) w ((w.alloc o).alloc p)) := fun o p => ((Only.refl _ w).alloc _).alloc _
  have d1 : (n.tmod 29 == 28) = false := beq_eq_false_iff_ne.2 h
  have d2 : IntKind.i64.wrap (n.tmod 29) = n.tmod 29 := by
    have h3 : (n.tmod 29).natAbs < 29 := by rw [Int.natAbs_tmod]; exact Nat.mod_lt _ (by decide)
    rw [IntKind.wrap_i64]
    omega
  clear ht hk hq9 ha hq hb hc
  go_enter Try.func33, Try.ntmps33
  go_wp2_with fail
  refine (HP.out _).mono ?_
  rintro e w' ⟨rfl, hh⟩
  have h2 := hh.symm; clear hh; subst h2
  go_wp2_with fail
  all_goals
    go_ret
    exact ⟨by first | rfl | simp, HO.out _ _⟩
theorem lregion_ex (n : Int) (hn : I64 n) : ∃ v, I64 v ∧ ∀ w, Calls Try.prog 33 #[.int .i64 n] w fun e w' => e = .returned (.int .i64 v) ∧ Only (fun _ => False) w w' := by
  by_cases h : n.tmod 29 = 28
  · refine ⟨n, hn, fun w => ?_⟩
    have d2 : IntKind.i64.wrap (n.tmod 29) = 28 := by rw [h]; rfl
    go_enter Try.func33, Try.ntmps33
    go_wp2_with fail
    all_goals
      go_ret
      exact ⟨by try rfl, Only.refl _ _⟩
  · have hk : pickL n 1048576 % 9 < 9 := Nat.mod_lt _ (by decide)
    rcases (by omega : pickL n 1048576 % 9 = 0 ∨ pickL n 1048576 % 9 = 1 ∨ pickL n 1048576 % 9 = 2 ∨ pickL n 1048576 % 9 = 3 ∨ pickL n 1048576 % 9 = 4 ∨ pickL n 1048576 % 9 = 5 ∨ pickL n 1048576 % 9 = 6 ∨ pickL n 1048576 % 9 = 7 ∨ pickL n 1048576 % 9 = 8) with ht | ht | ht | ht | ht | ht | ht | ht | ht
    · exact lregion_0 n hn h ht
    · exact lregion_1 n hn h ht
    · exact lregion_2 n hn h ht
    · exact lregion_3 n hn h ht
    · exact lregion_4 n hn h ht
    · exact lregion_5 n hn h ht
    · exact lregion_6 n hn h ht
    · exact lregion_7 n hn h ht
    · exact lregion_8 n hn h ht
theorem objectOf_ex (a b : Int) (ha : I64 a) (hb : I64 b) : ∃ k n, I64 k ∧ I64 n ∧ ∀ w, Calls Try.prog 30 #[.int .i64 a, .int .i64 b] w fun e w' => e = .returned (.agg #[.int .i64 k, .int .i64 n]) ∧ Only (fun _ => False) w w' := by
  have HNA := Vx.hid (fun wv => near_any a ha 10 (by decide) wv)
  have iA := near_i64 ha 10 (by decide)
  generalize nearF a 10 = k at HNA iA
  by_cases hk : k = 1
  · obtain ⟨v, iv, hr⟩ := lregion_ex b hb
    refine ⟨1, v, by unfold I64; omega, iv, fun w => ?_⟩
    have HR := Vx.hid hr
    subst hk
    obtain ⟨w1, hw1⟩ : ∃ w1, w1 = w.alloc (.cells #[.int .i64 0, .int .i64 0] 33) := ⟨_, rfl⟩
    have ho1 : Only (fun _ => False) w w1 := by rw [hw1]; exact (Only.refl _ w).alloc _
    have hz : w1.heap[w.heap.size]? = some (.cells #[.int .i64 0, .int .i64 0] 33 (0, 0)) := by rw [hw1]; exact heap_alloc_last _ _
    obtain ⟨rc, hrc⟩ : ∃ rc, rc = w.heap.size := ⟨_, rfl⟩
    rw [← hrc] at hz
    have HO : Hid (Only (fun _ => False) w w1 ∧ w.heap.size ≤ rc) := ⟨ho1, by omega⟩
    have HZ := Vx.hid hz
    clear hz ho1 hr
    go_enter Try.func30, Try.ntmps30
    go_upto_region 1 with fail
    rw [← hw1, ← hrc]
    clear hw1 hrc
    go_wp2_with fail
    refine (HNA.out _).mono ?_
    rintro e w' ⟨rfl, h⟩
    have h3 := h.symm; clear h; subst h3
    go_wp2_with fail
    refine (HR.out _).mono ?_
    rintro e w2 ⟨rfl, ho2⟩
    obtain ⟨⟨z0, z1⟩, zf⟩ := obj_cells (Only.keep ho2 HZ.out (fun h => h))
    have HS : Hid (∀ x y : Value, Only (fun _ => False) w ((w2.setCell ⟨rc, 0, none⟩ x).setCell ⟨rc, 1, none⟩ y)) := fun x y => Only.setCell (Only.setCell (HO.out.1.trans ho2) (Or.inr HO.out.2) _) (Or.inr HO.out.2) _
    have f0 := zf 0
    have f1 := zf 1
    clear ho2 zf
    go_wp2_with fail
    refine bodyPost_ret (v := .agg #[.int .i64 1, .int .i64 v]) ?_ rfl ⟨rfl, HS.out _ _⟩
    simp [results, Try.results30, go_sem, z0, z1]
  · have HNB := Vx.hid (fun wv => near_any b hb 40 (by decide) wv)
    have iB := near_i64 hb 40 (by decide)
    generalize nearF b 40 = n at HNB iB
    refine ⟨k, n, iA, iB, fun w => ?_⟩
    have k1 : (k == 1) = false := beq_eq_false_iff_ne.2 hk
    obtain ⟨w1, hw1⟩ : ∃ w1, w1 = w.alloc (.cells #[.int .i64 0, .int .i64 0] 33) := ⟨_, rfl⟩
    have ho1 : Only (fun _ => False) w w1 := by rw [hw1]; exact (Only.refl _ w).alloc _
    have hz : w1.heap[w.heap.size]? = some (.cells #[.int .i64 0, .int .i64 0] 33 (0, 0)) := by rw [hw1]; exact heap_alloc_last _ _
    obtain ⟨rc, hrc⟩ : ∃ rc, rc = w.heap.size := ⟨_, rfl⟩
    rw [← hrc] at hz
    have HO : Hid (Only (fun _ => False) w w1 ∧ w.heap.size ≤ rc) := ⟨ho1, by omega⟩
    obtain ⟨⟨z0, z1⟩, zf⟩ := obj_cells hz
    have HS : Hid (∀ x y : Value, Only (fun _ => False) w ((w1.setCell ⟨rc, 0, none⟩ x).setCell ⟨rc, 1, none⟩ y)) := fun x y => Only.setCell (Only.setCell HO.out.1 (Or.inr HO.out.2) _) (Or.inr HO.out.2) _
    have f0 := zf 0
    have f1 := zf 1
    clear hz ho1 zf
    go_enter Try.func30, Try.ntmps30
    go_upto_region 1 with fail
    rw [← hw1, ← hrc]
    clear hw1 hrc
    go_wp2_with fail
    refine (HNA.out _).mono ?_
    rintro e w' ⟨rfl, h⟩
    have h3 := h.symm; clear h; subst h3
    go_wp2_with fail
    refine (HNB.out _).mono ?_
    rintro e w' ⟨rfl, h⟩
    have h3 := h.symm; clear h; subst h3
    go_wp2_with fail
    refine bodyPost_ret (v := .agg #[.int .i64 k, .int .i64 n]) ?_ rfl ⟨rfl, HS.out _ _⟩
    simp [results, Try.results30, go_sem, z0, z1]
end Go.Proofs.Ytbbabpgmclhinaa

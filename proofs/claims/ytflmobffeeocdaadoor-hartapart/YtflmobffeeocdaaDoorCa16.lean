import Derived.Test.YtflmobffeeocdaaDoorCa15
/- Walks of package hart: quotient, product, sum (made by gen_r2.py). -/
namespace Go.Vx
theorem m32_i32 (v : Int) : IntKind.u32.wrap (IntKind.i32.wrap v) = (m32 v : Nat) := by
  rw [IntKind.wrap_u32, IntKind.wrap_i32, m32_cast]; omega
theorem div_u32 (a b : Nat) (ha : a < 4294967296) : a / b < 4294967296 := Nat.lt_of_le_of_lt (Nat.div_le_self _ _) ha
theorem mod_u32 (a b : Nat) (ha : a < 4294967296) : a % b < 4294967296 := Nat.lt_of_le_of_lt (Nat.mod_le _ _) ha
theorem prod_ss (x y : Int) (h0 : -2147483648 ≤ x) (h1 : x < 2147483648) (h2 : -2147483648 ≤ y) (h3 : y < 2147483648) : -4611686018427387904 ≤ x * y ∧ x * y ≤ 4611686018427387904 := by
  have h := Int.natAbs_mul x y
  have h4 : x.natAbs * y.natAbs ≤ 2147483648 * 2147483648 := Nat.mul_le_mul (by omega) (by omega)
  omega
theorem prod_su (x : Int) (b : Nat) (h0 : -2147483648 ≤ x) (h1 : x < 2147483648) (hb : b < 4294967296) : -9223372036854775808 ≤ x * b ∧ x * b < 9223372036854775808 := by
  have h := Int.natAbs_mul x b
  have h4 : x.natAbs * (b : Int).natAbs ≤ 2147483648 * 4294967295 := Nat.mul_le_mul (by omega) (by omega)
  omega
theorem prod_uu (a b : Nat) (ha : a < 4294967296) (hb : b < 4294967296) : 0 ≤ (a : Int) * b ∧ (a : Int) * b < 18446744073709551616 := by
  have h4 : a * b ≤ 4294967295 * 4294967295 := Nat.mul_le_mul (by omega) (by omega)
  have h : (a : Int) * b = ((a * b : Nat) : Int) := by simp
  omega
end Go.Vx
namespace Go.Proofs.YtflmobffeeocdaaDoor
open Go.ChangeShapes Go.WideShapes Go.ChangeAt Go.RowKit
open Go.Vx

theorem m32_w32 (v : Int) : ((m32 v : Nat) : Int) = wrap32 v % 4294967296 := by rw [m32_cast]; simp only [wrap32]; omega

theorem quotient_45 (a b : Nat) (_ha : a < 4294967296) (_hb : b < 4294967296) (w : World) :
    Calls Tryd.prog 53 #[.int .i64 45, .int .u32 (a : Int), .int .u32 (b : Int)] w fun e w' => e = .returned (.int .u32 (prodF 45 a b : Nat)) ∧ w' = w := by
  by_cases h0 : b = 0
  · have HR : Hid (prodF 45 a b = 4294967295) := if_pos h0
    subst h0
    clear _ha _hb
    go_enter Tryd.func53, Tryd.ntmps53
    go_wp2_with fail
    all_goals
      go_ret
      rw [HR.out]
      exact ⟨rfl, rfl⟩
  · have HR : Hid (prodF 45 a b = m32 (Int.tdiv (sgn a) (sgn b))) := if_neg h0
    have c0 : ¬ (b : Int) = 0 := by omega
    have s1 : IntKind.i32.wrap (a : Int) = sgn a := wrap_i32_s a _ha
    have s2 : IntKind.i32.wrap (b : Int) = sgn b := wrap_i32_s b _hb
    have y0 : ¬ sgn b = 0 := sgn_zero b _hb h0
    generalize sgn a = x at s1 HR
    generalize sgn b = y at s2 HR y0
    have m1 : IntKind.u32.wrap (IntKind.i32.wrap (Int.tdiv x y)) = (m32 (Int.tdiv x y) : Nat) := m32_i32 _
    clear _ha _hb h0
    go_enter Tryd.func53, Tryd.ntmps53
    go_wp2_with fail
    all_goals
      go_ret
      rw [HR.out]
      first | (rw [← m1]; exact ⟨rfl, rfl⟩) | (rw [m32_cast]; exact ⟨rfl, rfl⟩) | (rw [m32_w32]; exact ⟨rfl, rfl⟩)

theorem quotient_46 (a b : Nat) (_ha : a < 4294967296) (_hb : b < 4294967296) (w : World) :
    Calls Tryd.prog 53 #[.int .i64 46, .int .u32 (a : Int), .int .u32 (b : Int)] w fun e w' => e = .returned (.int .u32 (prodF 46 a b : Nat)) ∧ w' = w := by
  by_cases h0 : b = 0
  · have HR : Hid (prodF 46 a b = 4294967295) := if_pos h0
    subst h0
    clear _ha _hb
    go_enter Tryd.func53, Tryd.ntmps53
    go_wp2_with fail
    all_goals
      go_ret
      rw [HR.out]
      exact ⟨rfl, rfl⟩
  · have HR : Hid (prodF 46 a b = a / b) := if_neg h0
    have c0 : ¬ (b : Int) = 0 := by omega
    have b1 : a / b < 4294967296 := div_u32 a b _ha
    have e1 : Int.tdiv (a : Int) (b : Int) = ((a / b : Nat) : Int) := rfl
    have e2 : (a : Int) / (b : Int) = ((a / b : Nat) : Int) := rfl
    generalize a / b = q at HR b1 e1 e2
    have v1 : IntKind.u32.wrap (q : Int) = (q : Int) := wrap_u32_n q b1
    clear _ha _hb h0 b1
    go_enter Tryd.func53, Tryd.ntmps53
    go_wp2_with fail
    all_goals
      go_ret
      rw [HR.out]
      exact ⟨rfl, rfl⟩

theorem quotient_47 (a b : Nat) (_ha : a < 4294967296) (_hb : b < 4294967296) (w : World) :
    Calls Tryd.prog 53 #[.int .i64 47, .int .u32 (a : Int), .int .u32 (b : Int)] w fun e w' => e = .returned (.int .u32 (prodF 47 a b : Nat)) ∧ w' = w := by
  by_cases h0 : b = 0
  · have HR : Hid (prodF 47 a b = a) := if_pos h0
    subst h0
    clear _ha _hb
    go_enter Tryd.func53, Tryd.ntmps53
    go_wp2_with fail
    all_goals
      go_ret
      rw [HR.out]
      exact ⟨rfl, rfl⟩
  · have HR : Hid (prodF 47 a b = m32 (Int.tmod (sgn a) (sgn b))) := if_neg h0
    have c0 : ¬ (b : Int) = 0 := by omega
    have s1 : IntKind.i32.wrap (a : Int) = sgn a := wrap_i32_s a _ha
    have s2 : IntKind.i32.wrap (b : Int) = sgn b := wrap_i32_s b _hb
    have y0 : ¬ sgn b = 0 := sgn_zero b _hb h0
    generalize sgn a = x at s1 HR
    generalize sgn b = y at s2 HR y0
    have m1 : IntKind.u32.wrap (IntKind.i32.wrap (Int.tmod x y)) = (m32 (Int.tmod x y) : Nat) := m32_i32 _
    clear _ha _hb h0
    go_enter Tryd.func53, Tryd.ntmps53
    go_wp2_with fail
    all_goals
      go_ret
      rw [HR.out]
      first | (rw [← m1]; exact ⟨rfl, rfl⟩) | (rw [m32_cast]; exact ⟨rfl, rfl⟩) | (rw [m32_w32]; exact ⟨rfl, rfl⟩)

theorem quotient_48 (a b : Nat) (_ha : a < 4294967296) (_hb : b < 4294967296) (w : World) :
    Calls Tryd.prog 53 #[.int .i64 48, .int .u32 (a : Int), .int .u32 (b : Int)] w fun e w' => e = .returned (.int .u32 (prodF 48 a b : Nat)) ∧ w' = w := by
  by_cases h0 : b = 0
  · have HR : Hid (prodF 48 a b = a) := if_pos h0
    subst h0
    clear _ha _hb
    go_enter Tryd.func53, Tryd.ntmps53
    go_wp2_with fail
    all_goals
      go_ret
      rw [HR.out]
      exact ⟨rfl, rfl⟩
  · have HR : Hid (prodF 48 a b = a % b) := if_neg h0
    have c0 : ¬ (b : Int) = 0 := by omega
    have b1 : a % b < 4294967296 := mod_u32 a b _ha
    have e1 : Int.tmod (a : Int) (b : Int) = ((a % b : Nat) : Int) := rfl
    have e2 : (a : Int) % (b : Int) = ((a % b : Nat) : Int) := rfl
    generalize a % b = q at HR b1 e1 e2
    have v1 : IntKind.u32.wrap (q : Int) = (q : Int) := wrap_u32_n q b1
    clear _ha _hb h0 b1
    go_enter Tryd.func53, Tryd.ntmps53
    go_wp2_with fail
    all_goals
      go_ret
      rw [HR.out]
      exact ⟨rfl, rfl⟩

theorem product_41 (a b : Nat) (_ha : a < 4294967296) (_hb : b < 4294967296) (w : World) :
    Calls Tryd.prog 47 #[.int .i64 41, .int .u32 (a : Int), .int .u32 (b : Int)] w fun e w' => e = .returned (.int .u32 (prodF 41 a b : Nat)) ∧ w' = w := by
  have HR : Hid (prodF 41 a b = m32 ((a : Int) * b)) := rfl
  have m1 : IntKind.u32.wrap ((a : Int) * b) = (m32 ((a : Int) * b) : Nat) := wrap_u32_m _
  clear _ha _hb
  go_enter Tryd.func47, Tryd.ntmps47
  go_wp2_with fail
  all_goals
    go_ret
    rw [HR.out]
    first | (rw [← m1]; exact ⟨rfl, rfl⟩) | (rw [m32_cast]; exact ⟨rfl, rfl⟩) | (rw [m32_w32]; exact ⟨rfl, rfl⟩)

theorem product_42 (a b : Nat) (_ha : a < 4294967296) (_hb : b < 4294967296) (w : World) :
    Calls Tryd.prog 47 #[.int .i64 42, .int .u32 (a : Int), .int .u32 (b : Int)] w fun e w' => e = .returned (.int .u32 (prodF 42 a b : Nat)) ∧ w' = w := by
  have HR : Hid (prodF 42 a b = m32 (sgn a * sgn b / 4294967296)) := rfl
  have s1 : IntKind.i32.wrap (a : Int) = sgn a := wrap_i32_s a _ha
  have hx := sgn_bounds a _ha
  have s2 : IntKind.i32.wrap (b : Int) = sgn b := wrap_i32_s b _hb
  have hy := sgn_bounds b _hb
  generalize sgn b = y at s2 hy HR
  generalize sgn a = x at s1 hx HR
  have k1 : IntKind.i64.wrap x = x := by rw [IntKind.wrap_i64]; omega
  have k2 : IntKind.i64.wrap y = y := by rw [IntKind.wrap_i64]; omega
  have hp := prod_ss x y hx.1 hx.2 hy.1 hy.2
  have k3 : IntKind.i64.wrap (x * y) = x * y := by rw [IntKind.wrap_i64]; omega
  have k4 : IntKind.i64.wrap (x * y / 4294967296) = x * y / 4294967296 := by rw [IntKind.wrap_i64]; omega
  have m1 : IntKind.u32.wrap (x * y / 4294967296) = (m32 (x * y / 4294967296) : Nat) := wrap_u32_m _
  clear _ha _hb hx hy hp
  go_enter Tryd.func47, Tryd.ntmps47
  go_wp2_with fail
  all_goals
    go_ret
    rw [HR.out]
    first | (rw [← m1]; exact ⟨rfl, rfl⟩) | (rw [m32_cast]; exact ⟨rfl, rfl⟩) | (rw [m32_w32]; exact ⟨rfl, rfl⟩)

theorem product_43 (a b : Nat) (_ha : a < 4294967296) (_hb : b < 4294967296) (w : World) :
    Calls Tryd.prog 47 #[.int .i64 43, .int .u32 (a : Int), .int .u32 (b : Int)] w fun e w' => e = .returned (.int .u32 (prodF 43 a b : Nat)) ∧ w' = w := by
  have HR : Hid (prodF 43 a b = m32 (sgn a * (b : Int) / 4294967296)) := rfl
  have s1 : IntKind.i32.wrap (a : Int) = sgn a := wrap_i32_s a _ha
  have hx := sgn_bounds a _ha
  generalize sgn a = x at s1 hx HR
  have k1 : IntKind.i64.wrap x = x := by rw [IntKind.wrap_i64]; omega
  have k2 : IntKind.i64.wrap (b : Int) = (b : Int) := by rw [IntKind.wrap_i64]; omega
  have hp := prod_su x b hx.1 hx.2 _hb
  have k3 : IntKind.i64.wrap (x * b) = x * b := by rw [IntKind.wrap_i64]; omega
  have k4 : IntKind.i64.wrap (x * b / 4294967296) = x * b / 4294967296 := by rw [IntKind.wrap_i64]; omega
  have m1 : IntKind.u32.wrap (x * b / 4294967296) = (m32 (x * b / 4294967296) : Nat) := wrap_u32_m _
  clear _ha _hb hx hp
  go_enter Tryd.func47, Tryd.ntmps47
  go_wp2_with fail
  all_goals
    go_ret
    rw [HR.out]
    first | (rw [← m1]; exact ⟨rfl, rfl⟩) | (rw [m32_cast]; exact ⟨rfl, rfl⟩) | (rw [m32_w32]; exact ⟨rfl, rfl⟩)

theorem product_44 (a b : Nat) (_ha : a < 4294967296) (_hb : b < 4294967296) (w : World) :
    Calls Tryd.prog 47 #[.int .i64 44, .int .u32 (a : Int), .int .u32 (b : Int)] w fun e w' => e = .returned (.int .u32 (prodF 44 a b : Nat)) ∧ w' = w := by
  have HR : Hid (prodF 44 a b = m32 ((a : Int) * b / 4294967296)) := rfl
  have k1 : IntKind.u64.wrap (a : Int) = (a : Int) := by rw [IntKind.wrap_u64]; omega
  have k2 : IntKind.u64.wrap (b : Int) = (b : Int) := by rw [IntKind.wrap_u64]; omega
  have hp := prod_uu a b _ha _hb
  have k3 : IntKind.u64.wrap ((a : Int) * b) = (a : Int) * b := by rw [IntKind.wrap_u64]; omega
  have k4 : IntKind.u64.wrap ((a : Int) * b / 4294967296) = (a : Int) * b / 4294967296 := by rw [IntKind.wrap_u64]; omega
  have m1 : IntKind.u32.wrap ((a : Int) * b / 4294967296) = (m32 ((a : Int) * b / 4294967296) : Nat) := wrap_u32_m _
  clear _ha _hb hp
  go_enter Tryd.func47, Tryd.ntmps47
  go_wp2_with fail
  all_goals
    go_ret
    rw [HR.out]
    first | (rw [← m1]; exact ⟨rfl, rfl⟩) | (rw [m32_cast]; exact ⟨rfl, rfl⟩) | (rw [m32_w32]; exact ⟨rfl, rfl⟩)

theorem product_45 (a b : Nat) (_ha : a < 4294967296) (_hb : b < 4294967296) (w : World) :
    Calls Tryd.prog 47 #[.int .i64 45, .int .u32 (a : Int), .int .u32 (b : Int)] w fun e w' => e = .returned (.int .u32 (prodF 45 a b : Nat)) ∧ w' = w := by
  have HQ := Vx.hid (fun wv => quotient_45 a b _ha _hb wv)
  clear _ha _hb
  go_enter Tryd.func47, Tryd.ntmps47
  go_wp2_with fail
  refine (HQ.out _).mono ?_
  rintro e w' ⟨rfl, h⟩
  have h2 := h.symm; clear h; subst h2
  go_wp2_with fail
  all_goals
    go_ret
    exact ⟨rfl, rfl⟩

theorem product_46 (a b : Nat) (_ha : a < 4294967296) (_hb : b < 4294967296) (w : World) :
    Calls Tryd.prog 47 #[.int .i64 46, .int .u32 (a : Int), .int .u32 (b : Int)] w fun e w' => e = .returned (.int .u32 (prodF 46 a b : Nat)) ∧ w' = w := by
  have HQ := Vx.hid (fun wv => quotient_46 a b _ha _hb wv)
  clear _ha _hb
  go_enter Tryd.func47, Tryd.ntmps47
  go_wp2_with fail
  refine (HQ.out _).mono ?_
  rintro e w' ⟨rfl, h⟩
  have h2 := h.symm; clear h; subst h2
  go_wp2_with fail
  all_goals
    go_ret
    exact ⟨rfl, rfl⟩

theorem product_47 (a b : Nat) (_ha : a < 4294967296) (_hb : b < 4294967296) (w : World) :
    Calls Tryd.prog 47 #[.int .i64 47, .int .u32 (a : Int), .int .u32 (b : Int)] w fun e w' => e = .returned (.int .u32 (prodF 47 a b : Nat)) ∧ w' = w := by
  have HQ := Vx.hid (fun wv => quotient_47 a b _ha _hb wv)
  clear _ha _hb
  go_enter Tryd.func47, Tryd.ntmps47
  go_wp2_with fail
  refine (HQ.out _).mono ?_
  rintro e w' ⟨rfl, h⟩
  have h2 := h.symm; clear h; subst h2
  go_wp2_with fail
  all_goals
    go_ret
    exact ⟨rfl, rfl⟩

theorem product_48 (a b : Nat) (_ha : a < 4294967296) (_hb : b < 4294967296) (w : World) :
    Calls Tryd.prog 47 #[.int .i64 48, .int .u32 (a : Int), .int .u32 (b : Int)] w fun e w' => e = .returned (.int .u32 (prodF 48 a b : Nat)) ∧ w' = w := by
  have HQ := Vx.hid (fun wv => quotient_48 a b _ha _hb wv)
  clear _ha _hb
  go_enter Tryd.func47, Tryd.ntmps47
  go_wp2_with fail
  refine (HQ.out _).mono ?_
  rintro e w' ⟨rfl, h⟩
  have h2 := h.symm; clear h; subst h2
  go_wp2_with fail
  all_goals
    go_ret
    exact ⟨rfl, rfl⟩

theorem sum_19 (a b : Nat) (_ha : a < 4294967296) (_hb : b < 4294967296) (w : World) :
    Calls Tryd.prog 37 #[.int .i64 19, .int .u32 (a : Int), .int .u32 (b : Int)] w fun e w' => e = .returned (.int .u32 (arithF 19 a b : Nat)) ∧ w' = w := by
  have HR : Hid (arithF 19 a b = m32 ((a : Int) + b)) := rfl
  obtain ⟨n, hn⟩ : ∃ n, n = b % 32 := ⟨_, rfl⟩
  have t1 : Int.tmod (b : Int) 32 = (n : Int) := by rw [hn]; rfl
  have t2 : (b : Int) % 32 = (n : Int) := by rw [hn]; rfl
  have hnl : n < 32 := by rw [hn]; exact Nat.mod_lt _ (by decide)
  have t3 : IntKind.u32.wrap (n : Int) = (n : Int) := wrap_u32_n n (by omega)
  have m1 : IntKind.u32.wrap ((a : Int) + b) = (m32 ((a : Int) + b) : Nat) := wrap_u32_m _
  clear _ha _hb hn hnl
  go_enter Tryd.func37, Tryd.ntmps37
  go_wp2_with fail
  all_goals
    go_ret
    rw [HR.out]
    first | (rw [← m1]; exact ⟨rfl, rfl⟩) | (rw [m32_cast]; exact ⟨rfl, rfl⟩) | (rw [m32_w32]; exact ⟨rfl, rfl⟩)

theorem sum_20 (a b : Nat) (_ha : a < 4294967296) (_hb : b < 4294967296) (w : World) :
    Calls Tryd.prog 37 #[.int .i64 20, .int .u32 (a : Int), .int .u32 (b : Int)] w fun e w' => e = .returned (.int .u32 (arithF 20 a b : Nat)) ∧ w' = w := by
  have HR : Hid (arithF 20 a b = if sgn a < sgn b then 1 else 0) := rfl
  obtain ⟨n, hn⟩ : ∃ n, n = b % 32 := ⟨_, rfl⟩
  have t1 : Int.tmod (b : Int) 32 = (n : Int) := by rw [hn]; rfl
  have t2 : (b : Int) % 32 = (n : Int) := by rw [hn]; rfl
  have hnl : n < 32 := by rw [hn]; exact Nat.mod_lt _ (by decide)
  have t3 : IntKind.u32.wrap (n : Int) = (n : Int) := wrap_u32_n n (by omega)
  have HN := Vx.hid (fun b wv => number_any b wv)
  have s1 : IntKind.i32.wrap (a : Int) = sgn a := wrap_i32_s a _ha
  have s2 : IntKind.i32.wrap (b : Int) = sgn b := wrap_i32_s b _hb
  generalize sgn a = x at s1 HR
  generalize sgn b = y at s2 HR
  by_cases hlt : x < y
  · have HR2 : Hid (arithF 20 a b = 1) := by show _ = _; rw [HR.out, if_pos hlt]
    have b1 : decide (x < y) = true := decide_eq_true (by omega)
    clear _ha _hb hn hnl HR
    go_enter Tryd.func37, Tryd.ntmps37
    go_wp2_with fail
    refine (HN.out _ _).mono ?_
    rintro e w' ⟨rfl, h⟩
    have h2 := h.symm; clear h; subst h2
    go_wp2_with fail
    all_goals
      go_ret
      rw [HR2.out]
      exact ⟨rfl, rfl⟩
  · have HR2 : Hid (arithF 20 a b = 0) := by show _ = _; rw [HR.out, if_neg hlt]
    have b1 : decide (x < y) = false := decide_eq_false (by omega)
    clear _ha _hb hn hnl HR
    go_enter Tryd.func37, Tryd.ntmps37
    go_wp2_with fail
    refine (HN.out _ _).mono ?_
    rintro e w' ⟨rfl, h⟩
    have h2 := h.symm; clear h; subst h2
    go_wp2_with fail
    all_goals
      go_ret
      rw [HR2.out]
      exact ⟨rfl, rfl⟩

theorem sum_21 (a b : Nat) (_ha : a < 4294967296) (_hb : b < 4294967296) (w : World) :
    Calls Tryd.prog 37 #[.int .i64 21, .int .u32 (a : Int), .int .u32 (b : Int)] w fun e w' => e = .returned (.int .u32 (arithF 21 a b : Nat)) ∧ w' = w := by
  have HR : Hid (arithF 21 a b = if a < b then 1 else 0) := rfl
  obtain ⟨n, hn⟩ : ∃ n, n = b % 32 := ⟨_, rfl⟩
  have t1 : Int.tmod (b : Int) 32 = (n : Int) := by rw [hn]; rfl
  have t2 : (b : Int) % 32 = (n : Int) := by rw [hn]; rfl
  have hnl : n < 32 := by rw [hn]; exact Nat.mod_lt _ (by decide)
  have t3 : IntKind.u32.wrap (n : Int) = (n : Int) := wrap_u32_n n (by omega)
  have HN := Vx.hid (fun b wv => number_any b wv)
  by_cases hlt : a < b
  · have HR2 : Hid (arithF 21 a b = 1) := by show _ = _; rw [HR.out, if_pos hlt]
    have b1 : decide ((a : Int) < (b : Int)) = true := decide_eq_true (by omega)
    clear _ha _hb hn hnl HR
    go_enter Tryd.func37, Tryd.ntmps37
    go_wp2_with fail
    refine (HN.out _ _).mono ?_
    rintro e w' ⟨rfl, h⟩
    have h2 := h.symm; clear h; subst h2
    go_wp2_with fail
    all_goals
      go_ret
      rw [HR2.out]
      exact ⟨rfl, rfl⟩
  · have HR2 : Hid (arithF 21 a b = 0) := by show _ = _; rw [HR.out, if_neg hlt]
    have b1 : decide ((a : Int) < (b : Int)) = false := decide_eq_false (by omega)
    clear _ha _hb hn hnl HR
    go_enter Tryd.func37, Tryd.ntmps37
    go_wp2_with fail
    refine (HN.out _ _).mono ?_
    rintro e w' ⟨rfl, h⟩
    have h2 := h.symm; clear h; subst h2
    go_wp2_with fail
    all_goals
      go_ret
      rw [HR2.out]
      exact ⟨rfl, rfl⟩

theorem sum_22 (a b : Nat) (_ha : a < 4294967296) (_hb : b < 4294967296) (w : World) :
    Calls Tryd.prog 37 #[.int .i64 22, .int .u32 (a : Int), .int .u32 (b : Int)] w fun e w' => e = .returned (.int .u32 (arithF 22 a b : Nat)) ∧ w' = w := by
  have HR : Hid (arithF 22 a b = a ^^^ b) := rfl
  obtain ⟨n, hn⟩ : ∃ n, n = b % 32 := ⟨_, rfl⟩
  have t1 : Int.tmod (b : Int) 32 = (n : Int) := by rw [hn]; rfl
  have t2 : (b : Int) % 32 = (n : Int) := by rw [hn]; rfl
  have hnl : n < 32 := by rw [hn]; exact Nat.mod_lt _ (by decide)
  have t3 : IntKind.u32.wrap (n : Int) = (n : Int) := wrap_u32_n n (by omega)
  obtain ⟨x1, x2, x3⟩ := u32_nats a b _ha _hb
  clear _ha _hb hn hnl
  go_enter Tryd.func37, Tryd.ntmps37
  go_wp2_with fail
  all_goals
    go_ret
    rw [HR.out]
    exact ⟨rfl, rfl⟩

theorem sum_23 (a b : Nat) (_ha : a < 4294967296) (_hb : b < 4294967296) (w : World) :
    Calls Tryd.prog 37 #[.int .i64 23, .int .u32 (a : Int), .int .u32 (b : Int)] w fun e w' => e = .returned (.int .u32 (arithF 23 a b : Nat)) ∧ w' = w := by
  have HR : Hid (arithF 23 a b = a ||| b) := rfl
  obtain ⟨n, hn⟩ : ∃ n, n = b % 32 := ⟨_, rfl⟩
  have t1 : Int.tmod (b : Int) 32 = (n : Int) := by rw [hn]; rfl
  have t2 : (b : Int) % 32 = (n : Int) := by rw [hn]; rfl
  have hnl : n < 32 := by rw [hn]; exact Nat.mod_lt _ (by decide)
  have t3 : IntKind.u32.wrap (n : Int) = (n : Int) := wrap_u32_n n (by omega)
  obtain ⟨x1, x2, x3⟩ := u32_nats a b _ha _hb
  clear _ha _hb hn hnl
  go_enter Tryd.func37, Tryd.ntmps37
  go_wp2_with fail
  all_goals
    go_ret
    rw [HR.out]
    exact ⟨rfl, rfl⟩

theorem sum_24 (a b : Nat) (_ha : a < 4294967296) (_hb : b < 4294967296) (w : World) :
    Calls Tryd.prog 37 #[.int .i64 24, .int .u32 (a : Int), .int .u32 (b : Int)] w fun e w' => e = .returned (.int .u32 (arithF 24 a b : Nat)) ∧ w' = w := by
  have HR : Hid (arithF 24 a b = a &&& b) := rfl
  obtain ⟨n, hn⟩ : ∃ n, n = b % 32 := ⟨_, rfl⟩
  have t1 : Int.tmod (b : Int) 32 = (n : Int) := by rw [hn]; rfl
  have t2 : (b : Int) % 32 = (n : Int) := by rw [hn]; rfl
  have hnl : n < 32 := by rw [hn]; exact Nat.mod_lt _ (by decide)
  have t3 : IntKind.u32.wrap (n : Int) = (n : Int) := wrap_u32_n n (by omega)
  obtain ⟨x1, x2, x3⟩ := u32_nats a b _ha _hb
  clear _ha _hb hn hnl
  go_enter Tryd.func37, Tryd.ntmps37
  go_wp2_with fail
  all_goals
    go_ret
    rw [HR.out]
    exact ⟨rfl, rfl⟩

theorem sum_25 (a b : Nat) (_ha : a < 4294967296) (_hb : b < 4294967296) (w : World) :
    Calls Tryd.prog 37 #[.int .i64 25, .int .u32 (a : Int), .int .u32 (b : Int)] w fun e w' => e = .returned (.int .u32 (arithF 25 a b : Nat)) ∧ w' = w := by
  have HR : Hid (arithF 25 a b = m32 ((a : Int) * 2 ^ (b % 32))) := rfl
  obtain ⟨n, hn⟩ : ∃ n, n = b % 32 := ⟨_, rfl⟩
  have t1 : Int.tmod (b : Int) 32 = (n : Int) := by rw [hn]; rfl
  have t2 : (b : Int) % 32 = (n : Int) := by rw [hn]; rfl
  have hnl : n < 32 := by rw [hn]; exact Nat.mod_lt _ (by decide)
  have t3 : IntKind.u32.wrap (n : Int) = (n : Int) := wrap_u32_n n (by omega)
  rw [← hn] at HR
  have m1 : IntKind.u32.wrap ((a : Int) * 2 ^ n) = (m32 ((a : Int) * 2 ^ n) : Nat) := wrap_u32_m _
  clear _ha _hb hn hnl
  go_enter Tryd.func37, Tryd.ntmps37
  go_wp2_with fail
  all_goals
    go_ret
    rw [HR.out]
    first | (rw [← m1]; exact ⟨rfl, rfl⟩) | (rw [m32_cast]; exact ⟨rfl, rfl⟩) | (rw [m32_w32]; exact ⟨rfl, rfl⟩)

theorem sum_26 (a b : Nat) (_ha : a < 4294967296) (_hb : b < 4294967296) (w : World) :
    Calls Tryd.prog 37 #[.int .i64 26, .int .u32 (a : Int), .int .u32 (b : Int)] w fun e w' => e = .returned (.int .u32 (arithF 26 a b : Nat)) ∧ w' = w := by
  have HR : Hid (arithF 26 a b = a / 2 ^ (b % 32)) := rfl
  obtain ⟨n, hn⟩ : ∃ n, n = b % 32 := ⟨_, rfl⟩
  have t1 : Int.tmod (b : Int) 32 = (n : Int) := by rw [hn]; rfl
  have t2 : (b : Int) % 32 = (n : Int) := by rw [hn]; rfl
  have hnl : n < 32 := by rw [hn]; exact Nat.mod_lt _ (by decide)
  have t3 : IntKind.u32.wrap (n : Int) = (n : Int) := wrap_u32_n n (by omega)
  rw [← hn] at HR
  obtain ⟨qn, hqn⟩ : ∃ q, q = a / 2 ^ n := ⟨_, rfl⟩
  rw [← hqn] at HR
  have z1 : (a : Int) / 2 ^ n = (qn : Int) := by rw [hqn]; simp
  have z2 : IntKind.u32.wrap (qn : Int) = (qn : Int) := wrap_u32_n qn (by rw [hqn]; exact div_u32 _ _ _ha)
  clear _ha _hb hn hnl hqn
  go_enter Tryd.func37, Tryd.ntmps37
  go_wp2_with fail
  all_goals
    go_ret
    rw [HR.out]
    exact ⟨rfl, rfl⟩

theorem sum_27 (a b : Nat) (_ha : a < 4294967296) (_hb : b < 4294967296) (w : World) :
    Calls Tryd.prog 37 #[.int .i64 27, .int .u32 (a : Int), .int .u32 (b : Int)] w fun e w' => e = .returned (.int .u32 (arithF 27 a b : Nat)) ∧ w' = w := by
  have HR : Hid (arithF 27 a b = m32 (sgn a / 2 ^ (b % 32))) := rfl
  obtain ⟨n, hn⟩ : ∃ n, n = b % 32 := ⟨_, rfl⟩
  have t1 : Int.tmod (b : Int) 32 = (n : Int) := by rw [hn]; rfl
  have t2 : (b : Int) % 32 = (n : Int) := by rw [hn]; rfl
  have hnl : n < 32 := by rw [hn]; exact Nat.mod_lt _ (by decide)
  have t3 : IntKind.u32.wrap (n : Int) = (n : Int) := wrap_u32_n n (by omega)
  rw [← hn] at HR
  have s1 : IntKind.i32.wrap (a : Int) = sgn a := wrap_i32_s a _ha
  generalize sgn a = x at s1 HR
  have m1 : IntKind.u32.wrap (IntKind.i32.wrap (x / 2 ^ n)) = (m32 (x / 2 ^ n) : Nat) := m32_i32 _
  clear _ha _hb hn hnl
  go_enter Tryd.func37, Tryd.ntmps37
  go_wp2_with fail
  all_goals
    go_ret
    rw [HR.out]
    first | (rw [← m1]; exact ⟨rfl, rfl⟩) | (rw [m32_cast]; exact ⟨rfl, rfl⟩) | (rw [m32_w32]; exact ⟨rfl, rfl⟩)

theorem sum_28 (a b : Nat) (_ha : a < 4294967296) (_hb : b < 4294967296) (w : World) :
    Calls Tryd.prog 37 #[.int .i64 28, .int .u32 (a : Int), .int .u32 (b : Int)] w fun e w' => e = .returned (.int .u32 (arithF 28 a b : Nat)) ∧ w' = w := by
  have HR : Hid (arithF 28 a b = m32 ((a : Int) + b)) := rfl
  obtain ⟨n, hn⟩ : ∃ n, n = b % 32 := ⟨_, rfl⟩
  have t1 : Int.tmod (b : Int) 32 = (n : Int) := by rw [hn]; rfl
  have t2 : (b : Int) % 32 = (n : Int) := by rw [hn]; rfl
  have hnl : n < 32 := by rw [hn]; exact Nat.mod_lt _ (by decide)
  have t3 : IntKind.u32.wrap (n : Int) = (n : Int) := wrap_u32_n n (by omega)
  have m1 : IntKind.u32.wrap ((a : Int) + b) = (m32 ((a : Int) + b) : Nat) := wrap_u32_m _
  clear _ha _hb hn hnl
  go_enter Tryd.func37, Tryd.ntmps37
  go_wp2_with fail
  all_goals
    go_ret
    rw [HR.out]
    first | (rw [← m1]; exact ⟨rfl, rfl⟩) | (rw [m32_cast]; exact ⟨rfl, rfl⟩) | (rw [m32_w32]; exact ⟨rfl, rfl⟩)

theorem sum_29 (a b : Nat) (_ha : a < 4294967296) (_hb : b < 4294967296) (w : World) :
    Calls Tryd.prog 37 #[.int .i64 29, .int .u32 (a : Int), .int .u32 (b : Int)] w fun e w' => e = .returned (.int .u32 (arithF 29 a b : Nat)) ∧ w' = w := by
  have HR : Hid (arithF 29 a b = m32 ((a : Int) - b)) := rfl
  obtain ⟨n, hn⟩ : ∃ n, n = b % 32 := ⟨_, rfl⟩
  have t1 : Int.tmod (b : Int) 32 = (n : Int) := by rw [hn]; rfl
  have t2 : (b : Int) % 32 = (n : Int) := by rw [hn]; rfl
  have hnl : n < 32 := by rw [hn]; exact Nat.mod_lt _ (by decide)
  have t3 : IntKind.u32.wrap (n : Int) = (n : Int) := wrap_u32_n n (by omega)
  have m1 : IntKind.u32.wrap ((a : Int) - b) = (m32 ((a : Int) - b) : Nat) := wrap_u32_m _
  clear _ha _hb hn hnl
  go_enter Tryd.func37, Tryd.ntmps37
  go_wp2_with fail
  all_goals
    go_ret
    rw [HR.out]
    first | (rw [← m1]; exact ⟨rfl, rfl⟩) | (rw [m32_cast]; exact ⟨rfl, rfl⟩) | (rw [m32_w32]; exact ⟨rfl, rfl⟩)

theorem sum_30 (a b : Nat) (_ha : a < 4294967296) (_hb : b < 4294967296) (w : World) :
    Calls Tryd.prog 37 #[.int .i64 30, .int .u32 (a : Int), .int .u32 (b : Int)] w fun e w' => e = .returned (.int .u32 (arithF 30 a b : Nat)) ∧ w' = w := by
  have HR : Hid (arithF 30 a b = m32 ((a : Int) * 2 ^ (b % 32))) := rfl
  obtain ⟨n, hn⟩ : ∃ n, n = b % 32 := ⟨_, rfl⟩
  have t1 : Int.tmod (b : Int) 32 = (n : Int) := by rw [hn]; rfl
  have t2 : (b : Int) % 32 = (n : Int) := by rw [hn]; rfl
  have hnl : n < 32 := by rw [hn]; exact Nat.mod_lt _ (by decide)
  have t3 : IntKind.u32.wrap (n : Int) = (n : Int) := wrap_u32_n n (by omega)
  rw [← hn] at HR
  have m1 : IntKind.u32.wrap ((a : Int) * 2 ^ n) = (m32 ((a : Int) * 2 ^ n) : Nat) := wrap_u32_m _
  clear _ha _hb hn hnl
  go_enter Tryd.func37, Tryd.ntmps37
  go_wp2_with fail
  all_goals
    go_ret
    rw [HR.out]
    first | (rw [← m1]; exact ⟨rfl, rfl⟩) | (rw [m32_cast]; exact ⟨rfl, rfl⟩) | (rw [m32_w32]; exact ⟨rfl, rfl⟩)

theorem sum_31 (a b : Nat) (_ha : a < 4294967296) (_hb : b < 4294967296) (w : World) :
    Calls Tryd.prog 37 #[.int .i64 31, .int .u32 (a : Int), .int .u32 (b : Int)] w fun e w' => e = .returned (.int .u32 (arithF 31 a b : Nat)) ∧ w' = w := by
  have HR : Hid (arithF 31 a b = if sgn a < sgn b then 1 else 0) := rfl
  obtain ⟨n, hn⟩ : ∃ n, n = b % 32 := ⟨_, rfl⟩
  have t1 : Int.tmod (b : Int) 32 = (n : Int) := by rw [hn]; rfl
  have t2 : (b : Int) % 32 = (n : Int) := by rw [hn]; rfl
  have hnl : n < 32 := by rw [hn]; exact Nat.mod_lt _ (by decide)
  have t3 : IntKind.u32.wrap (n : Int) = (n : Int) := wrap_u32_n n (by omega)
  have HN := Vx.hid (fun b wv => number_any b wv)
  have s1 : IntKind.i32.wrap (a : Int) = sgn a := wrap_i32_s a _ha
  have s2 : IntKind.i32.wrap (b : Int) = sgn b := wrap_i32_s b _hb
  generalize sgn a = x at s1 HR
  generalize sgn b = y at s2 HR
  by_cases hlt : x < y
  · have HR2 : Hid (arithF 31 a b = 1) := by show _ = _; rw [HR.out, if_pos hlt]
    have b1 : decide (x < y) = true := decide_eq_true (by omega)
    clear _ha _hb hn hnl HR
    go_enter Tryd.func37, Tryd.ntmps37
    go_wp2_with fail
    refine (HN.out _ _).mono ?_
    rintro e w' ⟨rfl, h⟩
    have h2 := h.symm; clear h; subst h2
    go_wp2_with fail
    all_goals
      go_ret
      rw [HR2.out]
      exact ⟨rfl, rfl⟩
  · have HR2 : Hid (arithF 31 a b = 0) := by show _ = _; rw [HR.out, if_neg hlt]
    have b1 : decide (x < y) = false := decide_eq_false (by omega)
    clear _ha _hb hn hnl HR
    go_enter Tryd.func37, Tryd.ntmps37
    go_wp2_with fail
    refine (HN.out _ _).mono ?_
    rintro e w' ⟨rfl, h⟩
    have h2 := h.symm; clear h; subst h2
    go_wp2_with fail
    all_goals
      go_ret
      rw [HR2.out]
      exact ⟨rfl, rfl⟩

theorem sum_32 (a b : Nat) (_ha : a < 4294967296) (_hb : b < 4294967296) (w : World) :
    Calls Tryd.prog 37 #[.int .i64 32, .int .u32 (a : Int), .int .u32 (b : Int)] w fun e w' => e = .returned (.int .u32 (arithF 32 a b : Nat)) ∧ w' = w := by
  have HR : Hid (arithF 32 a b = if a < b then 1 else 0) := rfl
  obtain ⟨n, hn⟩ : ∃ n, n = b % 32 := ⟨_, rfl⟩
  have t1 : Int.tmod (b : Int) 32 = (n : Int) := by rw [hn]; rfl
  have t2 : (b : Int) % 32 = (n : Int) := by rw [hn]; rfl
  have hnl : n < 32 := by rw [hn]; exact Nat.mod_lt _ (by decide)
  have t3 : IntKind.u32.wrap (n : Int) = (n : Int) := wrap_u32_n n (by omega)
  have HN := Vx.hid (fun b wv => number_any b wv)
  by_cases hlt : a < b
  · have HR2 : Hid (arithF 32 a b = 1) := by show _ = _; rw [HR.out, if_pos hlt]
    have b1 : decide ((a : Int) < (b : Int)) = true := decide_eq_true (by omega)
    clear _ha _hb hn hnl HR
    go_enter Tryd.func37, Tryd.ntmps37
    go_wp2_with fail
    refine (HN.out _ _).mono ?_
    rintro e w' ⟨rfl, h⟩
    have h2 := h.symm; clear h; subst h2
    go_wp2_with fail
    all_goals
      go_ret
      rw [HR2.out]
      exact ⟨rfl, rfl⟩
  · have HR2 : Hid (arithF 32 a b = 0) := by show _ = _; rw [HR.out, if_neg hlt]
    have b1 : decide ((a : Int) < (b : Int)) = false := decide_eq_false (by omega)
    clear _ha _hb hn hnl HR
    go_enter Tryd.func37, Tryd.ntmps37
    go_wp2_with fail
    refine (HN.out _ _).mono ?_
    rintro e w' ⟨rfl, h⟩
    have h2 := h.symm; clear h; subst h2
    go_wp2_with fail
    all_goals
      go_ret
      rw [HR2.out]
      exact ⟨rfl, rfl⟩

theorem sum_33 (a b : Nat) (_ha : a < 4294967296) (_hb : b < 4294967296) (w : World) :
    Calls Tryd.prog 37 #[.int .i64 33, .int .u32 (a : Int), .int .u32 (b : Int)] w fun e w' => e = .returned (.int .u32 (arithF 33 a b : Nat)) ∧ w' = w := by
  have HR : Hid (arithF 33 a b = a ^^^ b) := rfl
  obtain ⟨n, hn⟩ : ∃ n, n = b % 32 := ⟨_, rfl⟩
  have t1 : Int.tmod (b : Int) 32 = (n : Int) := by rw [hn]; rfl
  have t2 : (b : Int) % 32 = (n : Int) := by rw [hn]; rfl
  have hnl : n < 32 := by rw [hn]; exact Nat.mod_lt _ (by decide)
  have t3 : IntKind.u32.wrap (n : Int) = (n : Int) := wrap_u32_n n (by omega)
  obtain ⟨x1, x2, x3⟩ := u32_nats a b _ha _hb
  clear _ha _hb hn hnl
  go_enter Tryd.func37, Tryd.ntmps37
  go_wp2_with fail
  all_goals
    go_ret
    rw [HR.out]
    exact ⟨rfl, rfl⟩

theorem sum_34 (a b : Nat) (_ha : a < 4294967296) (_hb : b < 4294967296) (w : World) :
    Calls Tryd.prog 37 #[.int .i64 34, .int .u32 (a : Int), .int .u32 (b : Int)] w fun e w' => e = .returned (.int .u32 (arithF 34 a b : Nat)) ∧ w' = w := by
  have HR : Hid (arithF 34 a b = a / 2 ^ (b % 32)) := rfl
  obtain ⟨n, hn⟩ : ∃ n, n = b % 32 := ⟨_, rfl⟩
  have t1 : Int.tmod (b : Int) 32 = (n : Int) := by rw [hn]; rfl
  have t2 : (b : Int) % 32 = (n : Int) := by rw [hn]; rfl
  have hnl : n < 32 := by rw [hn]; exact Nat.mod_lt _ (by decide)
  have t3 : IntKind.u32.wrap (n : Int) = (n : Int) := wrap_u32_n n (by omega)
  rw [← hn] at HR
  obtain ⟨qn, hqn⟩ : ∃ q, q = a / 2 ^ n := ⟨_, rfl⟩
  rw [← hqn] at HR
  have z1 : (a : Int) / 2 ^ n = (qn : Int) := by rw [hqn]; simp
  have z2 : IntKind.u32.wrap (qn : Int) = (qn : Int) := wrap_u32_n qn (by rw [hqn]; exact div_u32 _ _ _ha)
  clear _ha _hb hn hnl hqn
  go_enter Tryd.func37, Tryd.ntmps37
  go_wp2_with fail
  all_goals
    go_ret
    rw [HR.out]
    exact ⟨rfl, rfl⟩

theorem sum_35 (a b : Nat) (_ha : a < 4294967296) (_hb : b < 4294967296) (w : World) :
    Calls Tryd.prog 37 #[.int .i64 35, .int .u32 (a : Int), .int .u32 (b : Int)] w fun e w' => e = .returned (.int .u32 (arithF 35 a b : Nat)) ∧ w' = w := by
  have HR : Hid (arithF 35 a b = m32 (sgn a / 2 ^ (b % 32))) := rfl
  obtain ⟨n, hn⟩ : ∃ n, n = b % 32 := ⟨_, rfl⟩
  have t1 : Int.tmod (b : Int) 32 = (n : Int) := by rw [hn]; rfl
  have t2 : (b : Int) % 32 = (n : Int) := by rw [hn]; rfl
  have hnl : n < 32 := by rw [hn]; exact Nat.mod_lt _ (by decide)
  have t3 : IntKind.u32.wrap (n : Int) = (n : Int) := wrap_u32_n n (by omega)
  rw [← hn] at HR
  have s1 : IntKind.i32.wrap (a : Int) = sgn a := wrap_i32_s a _ha
  generalize sgn a = x at s1 HR
  have m1 : IntKind.u32.wrap (IntKind.i32.wrap (x / 2 ^ n)) = (m32 (x / 2 ^ n) : Nat) := m32_i32 _
  clear _ha _hb hn hnl
  go_enter Tryd.func37, Tryd.ntmps37
  go_wp2_with fail
  all_goals
    go_ret
    rw [HR.out]
    first | (rw [← m1]; exact ⟨rfl, rfl⟩) | (rw [m32_cast]; exact ⟨rfl, rfl⟩) | (rw [m32_w32]; exact ⟨rfl, rfl⟩)

theorem sum_36 (a b : Nat) (_ha : a < 4294967296) (_hb : b < 4294967296) (w : World) :
    Calls Tryd.prog 37 #[.int .i64 36, .int .u32 (a : Int), .int .u32 (b : Int)] w fun e w' => e = .returned (.int .u32 (arithF 36 a b : Nat)) ∧ w' = w := by
  have HR : Hid (arithF 36 a b = a ||| b) := rfl
  obtain ⟨n, hn⟩ : ∃ n, n = b % 32 := ⟨_, rfl⟩
  have t1 : Int.tmod (b : Int) 32 = (n : Int) := by rw [hn]; rfl
  have t2 : (b : Int) % 32 = (n : Int) := by rw [hn]; rfl
  have hnl : n < 32 := by rw [hn]; exact Nat.mod_lt _ (by decide)
  have t3 : IntKind.u32.wrap (n : Int) = (n : Int) := wrap_u32_n n (by omega)
  obtain ⟨x1, x2, x3⟩ := u32_nats a b _ha _hb
  clear _ha _hb hn hnl
  go_enter Tryd.func37, Tryd.ntmps37
  go_wp2_with fail
  all_goals
    go_ret
    rw [HR.out]
    exact ⟨rfl, rfl⟩

theorem sum_37 (a b : Nat) (_ha : a < 4294967296) (_hb : b < 4294967296) (w : World) :
    Calls Tryd.prog 37 #[.int .i64 37, .int .u32 (a : Int), .int .u32 (b : Int)] w fun e w' => e = .returned (.int .u32 (arithF 37 a b : Nat)) ∧ w' = w := by
  have HR : Hid (arithF 37 a b = a &&& b) := rfl
  obtain ⟨n, hn⟩ : ∃ n, n = b % 32 := ⟨_, rfl⟩
  have t1 : Int.tmod (b : Int) 32 = (n : Int) := by rw [hn]; rfl
  have t2 : (b : Int) % 32 = (n : Int) := by rw [hn]; rfl
  have hnl : n < 32 := by rw [hn]; exact Nat.mod_lt _ (by decide)
  have t3 : IntKind.u32.wrap (n : Int) = (n : Int) := wrap_u32_n n (by omega)
  obtain ⟨x1, x2, x3⟩ := u32_nats a b _ha _hb
  clear _ha _hb hn hnl
  go_enter Tryd.func37, Tryd.ntmps37
  go_wp2_with fail
  all_goals
    go_ret
    rw [HR.out]
    exact ⟨rfl, rfl⟩

theorem sum_41 (a b : Nat) (_ha : a < 4294967296) (_hb : b < 4294967296) (w : World) :
    Calls Tryd.prog 37 #[.int .i64 41, .int .u32 (a : Int), .int .u32 (b : Int)] w fun e w' => e = .returned (.int .u32 (arithF 41 a b : Nat)) ∧ w' = w := by
  have HQ := Vx.hid (fun wv => product_41 a b _ha _hb wv)
  have HR : Hid (arithF 41 a b = prodF 41 a b) := rfl
  obtain ⟨n, hn⟩ : ∃ n, n = b % 32 := ⟨_, rfl⟩
  have t1 : Int.tmod (b : Int) 32 = (n : Int) := by rw [hn]; rfl
  have t2 : (b : Int) % 32 = (n : Int) := by rw [hn]; rfl
  have hnl : n < 32 := by rw [hn]; exact Nat.mod_lt _ (by decide)
  have t3 : IntKind.u32.wrap (n : Int) = (n : Int) := wrap_u32_n n (by omega)
  clear _ha _hb hn hnl
  go_enter Tryd.func37, Tryd.ntmps37
  go_wp2_with fail
  refine (HQ.out _).mono ?_
  rintro e w' ⟨rfl, h⟩
  have h2 := h.symm; clear h; subst h2
  go_wp2_with fail
  all_goals
    go_ret
    rw [HR.out]
    exact ⟨rfl, rfl⟩

theorem sum_42 (a b : Nat) (_ha : a < 4294967296) (_hb : b < 4294967296) (w : World) :
    Calls Tryd.prog 37 #[.int .i64 42, .int .u32 (a : Int), .int .u32 (b : Int)] w fun e w' => e = .returned (.int .u32 (arithF 42 a b : Nat)) ∧ w' = w := by
  have HQ := Vx.hid (fun wv => product_42 a b _ha _hb wv)
  have HR : Hid (arithF 42 a b = prodF 42 a b) := rfl
  obtain ⟨n, hn⟩ : ∃ n, n = b % 32 := ⟨_, rfl⟩
  have t1 : Int.tmod (b : Int) 32 = (n : Int) := by rw [hn]; rfl
  have t2 : (b : Int) % 32 = (n : Int) := by rw [hn]; rfl
  have hnl : n < 32 := by rw [hn]; exact Nat.mod_lt _ (by decide)
  have t3 : IntKind.u32.wrap (n : Int) = (n : Int) := wrap_u32_n n (by omega)
  clear _ha _hb hn hnl
  go_enter Tryd.func37, Tryd.ntmps37
  go_wp2_with fail
  refine (HQ.out _).mono ?_
  rintro e w' ⟨rfl, h⟩
  have h2 := h.symm; clear h; subst h2
  go_wp2_with fail
  all_goals
    go_ret
    rw [HR.out]
    exact ⟨rfl, rfl⟩

theorem sum_43 (a b : Nat) (_ha : a < 4294967296) (_hb : b < 4294967296) (w : World) :
    Calls Tryd.prog 37 #[.int .i64 43, .int .u32 (a : Int), .int .u32 (b : Int)] w fun e w' => e = .returned (.int .u32 (arithF 43 a b : Nat)) ∧ w' = w := by
  have HQ := Vx.hid (fun wv => product_43 a b _ha _hb wv)
  have HR : Hid (arithF 43 a b = prodF 43 a b) := rfl
  obtain ⟨n, hn⟩ : ∃ n, n = b % 32 := ⟨_, rfl⟩
  have t1 : Int.tmod (b : Int) 32 = (n : Int) := by rw [hn]; rfl
  have t2 : (b : Int) % 32 = (n : Int) := by rw [hn]; rfl
  have hnl : n < 32 := by rw [hn]; exact Nat.mod_lt _ (by decide)
  have t3 : IntKind.u32.wrap (n : Int) = (n : Int) := wrap_u32_n n (by omega)
  clear _ha _hb hn hnl
  go_enter Tryd.func37, Tryd.ntmps37
  go_wp2_with fail
  refine (HQ.out _).mono ?_
  rintro e w' ⟨rfl, h⟩
  have h2 := h.symm; clear h; subst h2
  go_wp2_with fail
  all_goals
    go_ret
    rw [HR.out]
    exact ⟨rfl, rfl⟩

theorem sum_44 (a b : Nat) (_ha : a < 4294967296) (_hb : b < 4294967296) (w : World) :
    Calls Tryd.prog 37 #[.int .i64 44, .int .u32 (a : Int), .int .u32 (b : Int)] w fun e w' => e = .returned (.int .u32 (arithF 44 a b : Nat)) ∧ w' = w := by
  have HQ := Vx.hid (fun wv => product_44 a b _ha _hb wv)
  have HR : Hid (arithF 44 a b = prodF 44 a b) := rfl
  obtain ⟨n, hn⟩ : ∃ n, n = b % 32 := ⟨_, rfl⟩
  have t1 : Int.tmod (b : Int) 32 = (n : Int) := by rw [hn]; rfl
  have t2 : (b : Int) % 32 = (n : Int) := by rw [hn]; rfl
  have hnl : n < 32 := by rw [hn]; exact Nat.mod_lt _ (by decide)
  have t3 : IntKind.u32.wrap (n : Int) = (n : Int) := wrap_u32_n n (by omega)
  clear _ha _hb hn hnl
  go_enter Tryd.func37, Tryd.ntmps37
  go_wp2_with fail
  refine (HQ.out _).mono ?_
  rintro e w' ⟨rfl, h⟩
  have h2 := h.symm; clear h; subst h2
  go_wp2_with fail
  all_goals
    go_ret
    rw [HR.out]
    exact ⟨rfl, rfl⟩

theorem sum_45 (a b : Nat) (_ha : a < 4294967296) (_hb : b < 4294967296) (w : World) :
    Calls Tryd.prog 37 #[.int .i64 45, .int .u32 (a : Int), .int .u32 (b : Int)] w fun e w' => e = .returned (.int .u32 (arithF 45 a b : Nat)) ∧ w' = w := by
  have HQ := Vx.hid (fun wv => product_45 a b _ha _hb wv)
  have HR : Hid (arithF 45 a b = prodF 45 a b) := rfl
  obtain ⟨n, hn⟩ : ∃ n, n = b % 32 := ⟨_, rfl⟩
  have t1 : Int.tmod (b : Int) 32 = (n : Int) := by rw [hn]; rfl
  have t2 : (b : Int) % 32 = (n : Int) := by rw [hn]; rfl
  have hnl : n < 32 := by rw [hn]; exact Nat.mod_lt _ (by decide)
  have t3 : IntKind.u32.wrap (n : Int) = (n : Int) := wrap_u32_n n (by omega)
  clear _ha _hb hn hnl
  go_enter Tryd.func37, Tryd.ntmps37
  go_wp2_with fail
  refine (HQ.out _).mono ?_
  rintro e w' ⟨rfl, h⟩
  have h2 := h.symm; clear h; subst h2
  go_wp2_with fail
  all_goals
    go_ret
    rw [HR.out]
    exact ⟨rfl, rfl⟩

theorem sum_46 (a b : Nat) (_ha : a < 4294967296) (_hb : b < 4294967296) (w : World) :
    Calls Tryd.prog 37 #[.int .i64 46, .int .u32 (a : Int), .int .u32 (b : Int)] w fun e w' => e = .returned (.int .u32 (arithF 46 a b : Nat)) ∧ w' = w := by
  have HQ := Vx.hid (fun wv => product_46 a b _ha _hb wv)
  have HR : Hid (arithF 46 a b = prodF 46 a b) := rfl
  obtain ⟨n, hn⟩ : ∃ n, n = b % 32 := ⟨_, rfl⟩
  have t1 : Int.tmod (b : Int) 32 = (n : Int) := by rw [hn]; rfl
  have t2 : (b : Int) % 32 = (n : Int) := by rw [hn]; rfl
  have hnl : n < 32 := by rw [hn]; exact Nat.mod_lt _ (by decide)
  have t3 : IntKind.u32.wrap (n : Int) = (n : Int) := wrap_u32_n n (by omega)
  clear _ha _hb hn hnl
  go_enter Tryd.func37, Tryd.ntmps37
  go_wp2_with fail
  refine (HQ.out _).mono ?_
  rintro e w' ⟨rfl, h⟩
  have h2 := h.symm; clear h; subst h2
  go_wp2_with fail
  all_goals
    go_ret
    rw [HR.out]
    exact ⟨rfl, rfl⟩

theorem sum_47 (a b : Nat) (_ha : a < 4294967296) (_hb : b < 4294967296) (w : World) :
    Calls Tryd.prog 37 #[.int .i64 47, .int .u32 (a : Int), .int .u32 (b : Int)] w fun e w' => e = .returned (.int .u32 (arithF 47 a b : Nat)) ∧ w' = w := by
  have HQ := Vx.hid (fun wv => product_47 a b _ha _hb wv)
  have HR : Hid (arithF 47 a b = prodF 47 a b) := rfl
  obtain ⟨n, hn⟩ : ∃ n, n = b % 32 := ⟨_, rfl⟩
  have t1 : Int.tmod (b : Int) 32 = (n : Int) := by rw [hn]; rfl
  have t2 : (b : Int) % 32 = (n : Int) := by rw [hn]; rfl
  have hnl : n < 32 := by rw [hn]; exact Nat.mod_lt _ (by decide)
  have t3 : IntKind.u32.wrap (n : Int) = (n : Int) := wrap_u32_n n (by omega)
  clear _ha _hb hn hnl
  go_enter Tryd.func37, Tryd.ntmps37
  go_wp2_with fail
  refine (HQ.out _).mono ?_
  rintro e w' ⟨rfl, h⟩
  have h2 := h.symm; clear h; subst h2
  go_wp2_with fail
  all_goals
    go_ret
    rw [HR.out]
    exact ⟨rfl, rfl⟩

theorem sum_48 (a b : Nat) (_ha : a < 4294967296) (_hb : b < 4294967296) (w : World) :
    Calls Tryd.prog 37 #[.int .i64 48, .int .u32 (a : Int), .int .u32 (b : Int)] w fun e w' => e = .returned (.int .u32 (arithF 48 a b : Nat)) ∧ w' = w := by
  have HQ := Vx.hid (fun wv => product_48 a b _ha _hb wv)
  have HR : Hid (arithF 48 a b = prodF 48 a b) := rfl
  obtain ⟨n, hn⟩ : ∃ n, n = b % 32 := ⟨_, rfl⟩
  have t1 : Int.tmod (b : Int) 32 = (n : Int) := by rw [hn]; rfl
  have t2 : (b : Int) % 32 = (n : Int) := by rw [hn]; rfl
  have hnl : n < 32 := by rw [hn]; exact Nat.mod_lt _ (by decide)
  have t3 : IntKind.u32.wrap (n : Int) = (n : Int) := wrap_u32_n n (by omega)
  clear _ha _hb hn hnl
  go_enter Tryd.func37, Tryd.ntmps37
  go_wp2_with fail
  refine (HQ.out _).mono ?_
  rintro e w' ⟨rfl, h⟩
  have h2 := h.symm; clear h; subst h2
  go_wp2_with fail
  all_goals
    go_ret
    rw [HR.out]
    exact ⟨rfl, rfl⟩

theorem sum_any (op a b : Nat) (h : (19 ≤ op ∧ op ≤ 37) ∨ (41 ≤ op ∧ op ≤ 48)) (_ha : a < 4294967296) (_hb : b < 4294967296) (w : World) :
    Calls Tryd.prog 37 #[.int .i64 (op : Int), .int .u32 (a : Int), .int .u32 (b : Int)] w fun e w' => e = .returned (.int .u32 (arithF op a b : Nat)) ∧ w' = w := by
  have hc : op = 19 ∨ op = 20 ∨ op = 21 ∨ op = 22 ∨ op = 23 ∨ op = 24 ∨ op = 25 ∨ op = 26 ∨ op = 27 ∨ op = 28 ∨ op = 29 ∨ op = 30 ∨ op = 31 ∨ op = 32 ∨ op = 33 ∨ op = 34 ∨ op = 35 ∨ op = 36 ∨ op = 37 ∨ op = 41 ∨ op = 42 ∨ op = 43 ∨ op = 44 ∨ op = 45 ∨ op = 46 ∨ op = 47 ∨ op = 48 := by omega
  rcases hc with rfl | rfl | rfl | rfl | rfl | rfl | rfl | rfl | rfl | rfl | rfl | rfl | rfl | rfl | rfl | rfl | rfl | rfl | rfl | rfl | rfl | rfl | rfl | rfl | rfl | rfl | rfl
  · exact sum_19 a b _ha _hb w
  · exact sum_20 a b _ha _hb w
  · exact sum_21 a b _ha _hb w
  · exact sum_22 a b _ha _hb w
  · exact sum_23 a b _ha _hb w
  · exact sum_24 a b _ha _hb w
  · exact sum_25 a b _ha _hb w
  · exact sum_26 a b _ha _hb w
  · exact sum_27 a b _ha _hb w
  · exact sum_28 a b _ha _hb w
  · exact sum_29 a b _ha _hb w
  · exact sum_30 a b _ha _hb w
  · exact sum_31 a b _ha _hb w
  · exact sum_32 a b _ha _hb w
  · exact sum_33 a b _ha _hb w
  · exact sum_34 a b _ha _hb w
  · exact sum_35 a b _ha _hb w
  · exact sum_36 a b _ha _hb w
  · exact sum_37 a b _ha _hb w
  · exact sum_41 a b _ha _hb w
  · exact sum_42 a b _ha _hb w
  · exact sum_43 a b _ha _hb w
  · exact sum_44 a b _ha _hb w
  · exact sum_45 a b _ha _hb w
  · exact sum_46 a b _ha _hb w
  · exact sum_47 a b _ha _hb w
  · exact sum_48 a b _ha _hb w
end Go.Proofs.YtflmobffeeocdaaDoor

import Derived.Test.YtflmobffeeocdaaGreatDoorCh35
/- Walks of the document's chapter 6: sums (made by gen_z2.py). -/
namespace Go.Proofs.YtflmobffeeocdaaGreatDoor
open Go.ChangeShapes Go.WideShapes Go.ChangeAt Go.RowKit
open Go.Vx

theorem m32_wrap (v : Int) : m32 (wrap64 v) = m32 v := by
  unfold m32
  simp only [wrap64]
  congr 1
  omega
theorem wrap_nat (q : Nat) (h : q < 4294967296) : wrap64 (q : Int) = (q : Int) := by simp only [wrap64]; omega
theorem refSums_28 (a b : Nat) (ha : a < 4294967296) (hb : b < 4294967296) (w : World) :
    Calls Tryz.prog 83 #[.int .i64 28, .int .i64 (a : Int), .int .i64 (b : Int)] w fun e w' => e = .returned (.int .i64 (sumsF 28 a b : Nat)) ∧ w' = w := by
  have HA := Vx.hid (fun wv => refSign_any a ha wv)
  have HB := Vx.hid (fun wv => refSign_any b hb wv)
  have HW : Hid (∀ v wv, Calls Tryz.prog 80 #[.int .i64 (wrap64 v)] wv fun e w' => e = .returned (.int .i64 (m32 v : Nat)) ∧ w' = wv) := fun v wv => by
    have := refWrap_any (wrap64 v) wv
    rw [m32_wrap] at this
    exact this
  have HW' := Vx.hid (fun v wv => refWrap_any v wv)
  have HI := Vx.hid (fun b wv => oneIf_any b wv)
  obtain ⟨n, hn⟩ : ∃ n, n = b % 32 := ⟨_, rfl⟩
  have t1 : Int.tmod (b : Int) 32 = (n : Int) := by rw [hn]; rfl
  have t2 : (b : Int) % 32 = (n : Int) := by rw [hn]; rfl
  have hnl : n < 32 := by rw [hn]; exact Nat.mod_lt _ (by decide)
  have t3 : IntKind.i64.wrap (n : Int) = (n : Int) := by rw [IntKind.wrap_i64]; omega
  have t4 : IntKind.u64.wrap (n : Int) = (n : Int) := by rw [IntKind.wrap_u64]; omega
  have HR : Hid (sumsF 28 a b = m32 ((a : Int) + b)) := by show _ = _; rfl

  generalize sgn a = x at HA
  generalize sgn b = y at HB
  clear ha hb hn hnl
  go_enter Tryz.func83, Tryz.ntmps83
  go_wp2_with fail
  refine (HA.out _).mono ?_
  rintro e w' ⟨rfl, h⟩
  have h2 := h.symm; clear h; subst h2
  go_wp2_with fail
  refine (HB.out _).mono ?_
  rintro e w' ⟨rfl, h⟩
  have h2 := h.symm; clear h; subst h2
  go_wp2_with fail
  refine (HW.out _ _).mono ?_
  rintro e w' ⟨rfl, h⟩
  have h2 := h.symm; clear h; subst h2
  go_wp2_with fail
  all_goals
    go_ret
    rw [HR.out]
    exact ⟨rfl, rfl⟩

theorem refSums_29 (a b : Nat) (ha : a < 4294967296) (hb : b < 4294967296) (w : World) :
    Calls Tryz.prog 83 #[.int .i64 29, .int .i64 (a : Int), .int .i64 (b : Int)] w fun e w' => e = .returned (.int .i64 (sumsF 29 a b : Nat)) ∧ w' = w := by
  have HA := Vx.hid (fun wv => refSign_any a ha wv)
  have HB := Vx.hid (fun wv => refSign_any b hb wv)
  have HW : Hid (∀ v wv, Calls Tryz.prog 80 #[.int .i64 (wrap64 v)] wv fun e w' => e = .returned (.int .i64 (m32 v : Nat)) ∧ w' = wv) := fun v wv => by
    have := refWrap_any (wrap64 v) wv
    rw [m32_wrap] at this
    exact this
  have HW' := Vx.hid (fun v wv => refWrap_any v wv)
  have HI := Vx.hid (fun b wv => oneIf_any b wv)
  obtain ⟨n, hn⟩ : ∃ n, n = b % 32 := ⟨_, rfl⟩
  have t1 : Int.tmod (b : Int) 32 = (n : Int) := by rw [hn]; rfl
  have t2 : (b : Int) % 32 = (n : Int) := by rw [hn]; rfl
  have hnl : n < 32 := by rw [hn]; exact Nat.mod_lt _ (by decide)
  have t3 : IntKind.i64.wrap (n : Int) = (n : Int) := by rw [IntKind.wrap_i64]; omega
  have t4 : IntKind.u64.wrap (n : Int) = (n : Int) := by rw [IntKind.wrap_u64]; omega
  have HR : Hid (sumsF 29 a b = m32 ((a : Int) - b)) := by show _ = _; rfl

  generalize sgn a = x at HA
  generalize sgn b = y at HB
  clear ha hb hn hnl
  go_enter Tryz.func83, Tryz.ntmps83
  go_wp2_with fail
  refine (HA.out _).mono ?_
  rintro e w' ⟨rfl, h⟩
  have h2 := h.symm; clear h; subst h2
  go_wp2_with fail
  refine (HB.out _).mono ?_
  rintro e w' ⟨rfl, h⟩
  have h2 := h.symm; clear h; subst h2
  go_wp2_with fail
  refine (HW.out _ _).mono ?_
  rintro e w' ⟨rfl, h⟩
  have h2 := h.symm; clear h; subst h2
  go_wp2_with fail
  all_goals
    go_ret
    rw [HR.out]
    exact ⟨rfl, rfl⟩

theorem refSums_30 (a b : Nat) (ha : a < 4294967296) (hb : b < 4294967296) (w : World) :
    Calls Tryz.prog 83 #[.int .i64 30, .int .i64 (a : Int), .int .i64 (b : Int)] w fun e w' => e = .returned (.int .i64 (sumsF 30 a b : Nat)) ∧ w' = w := by
  have HA := Vx.hid (fun wv => refSign_any a ha wv)
  have HB := Vx.hid (fun wv => refSign_any b hb wv)
  have HW : Hid (∀ v wv, Calls Tryz.prog 80 #[.int .i64 (wrap64 v)] wv fun e w' => e = .returned (.int .i64 (m32 v : Nat)) ∧ w' = wv) := fun v wv => by
    have := refWrap_any (wrap64 v) wv
    rw [m32_wrap] at this
    exact this
  have HW' := Vx.hid (fun v wv => refWrap_any v wv)
  have HI := Vx.hid (fun b wv => oneIf_any b wv)
  obtain ⟨n, hn⟩ : ∃ n, n = b % 32 := ⟨_, rfl⟩
  have t1 : Int.tmod (b : Int) 32 = (n : Int) := by rw [hn]; rfl
  have t2 : (b : Int) % 32 = (n : Int) := by rw [hn]; rfl
  have hnl : n < 32 := by rw [hn]; exact Nat.mod_lt _ (by decide)
  have t3 : IntKind.i64.wrap (n : Int) = (n : Int) := by rw [IntKind.wrap_i64]; omega
  have t4 : IntKind.u64.wrap (n : Int) = (n : Int) := by rw [IntKind.wrap_u64]; omega
  have HR : Hid (sumsF 30 a b = m32 ((a : Int) * 2 ^ n)) := by show _ = _; rw [show n = b % 32 from hn]; rfl

  generalize sgn a = x at HA
  generalize sgn b = y at HB
  clear ha hb hn hnl
  go_enter Tryz.func83, Tryz.ntmps83
  go_wp2_with fail
  refine (HA.out _).mono ?_
  rintro e w' ⟨rfl, h⟩
  have h2 := h.symm; clear h; subst h2
  go_wp2_with fail
  refine (HB.out _).mono ?_
  rintro e w' ⟨rfl, h⟩
  have h2 := h.symm; clear h; subst h2
  go_wp2_with fail
  refine (HW.out _ _).mono ?_
  rintro e w' ⟨rfl, h⟩
  have h2 := h.symm; clear h; subst h2
  go_wp2_with fail
  all_goals
    go_ret
    rw [HR.out]
    exact ⟨rfl, rfl⟩

theorem refSums_31 (a b : Nat) (ha : a < 4294967296) (hb : b < 4294967296) (w : World) :
    Calls Tryz.prog 83 #[.int .i64 31, .int .i64 (a : Int), .int .i64 (b : Int)] w fun e w' => e = .returned (.int .i64 (sumsF 31 a b : Nat)) ∧ w' = w := by
  have HA := Vx.hid (fun wv => refSign_any a ha wv)
  have HB := Vx.hid (fun wv => refSign_any b hb wv)
  have HW : Hid (∀ v wv, Calls Tryz.prog 80 #[.int .i64 (wrap64 v)] wv fun e w' => e = .returned (.int .i64 (m32 v : Nat)) ∧ w' = wv) := fun v wv => by
    have := refWrap_any (wrap64 v) wv
    rw [m32_wrap] at this
    exact this
  have HW' := Vx.hid (fun v wv => refWrap_any v wv)
  have HI := Vx.hid (fun b wv => oneIf_any b wv)
  obtain ⟨n, hn⟩ : ∃ n, n = b % 32 := ⟨_, rfl⟩
  have t1 : Int.tmod (b : Int) 32 = (n : Int) := by rw [hn]; rfl
  have t2 : (b : Int) % 32 = (n : Int) := by rw [hn]; rfl
  have hnl : n < 32 := by rw [hn]; exact Nat.mod_lt _ (by decide)
  have t3 : IntKind.i64.wrap (n : Int) = (n : Int) := by rw [IntKind.wrap_i64]; omega
  have t4 : IntKind.u64.wrap (n : Int) = (n : Int) := by rw [IntKind.wrap_u64]; omega
  have HR : Hid (sumsF 31 a b = if sgn a < sgn b then 1 else 0) := by show _ = _; rfl

  by_cases hlt : sgn a < sgn b
  · have HR2 : Hid (sumsF 31 a b = 1) := by show _ = _; rw [HR.out, if_pos hlt]
    generalize sgn a = x at HA hlt
    generalize sgn b = y at HB hlt
    have b1 : decide (x < y) = true := decide_eq_true hlt
    clear ha hb hn hnl HR
    go_enter Tryz.func83, Tryz.ntmps83
    go_wp2_with fail
    refine (HA.out _).mono ?_
    rintro e w' ⟨rfl, h⟩
    have h2 := h.symm; clear h; subst h2
    go_wp2_with fail
    refine (HB.out _).mono ?_
    rintro e w' ⟨rfl, h⟩
    have h2 := h.symm; clear h; subst h2
    go_wp2_with fail
    refine (HI.out _ _).mono ?_
    rintro e w' ⟨rfl, h⟩
    have h2 := h.symm; clear h; subst h2
    go_wp2_with fail
    all_goals
      go_ret
      rw [HR2.out]
      exact ⟨rfl, rfl⟩
  · have HR2 : Hid (sumsF 31 a b = 0) := by show _ = _; rw [HR.out, if_neg hlt]
    generalize sgn a = x at HA hlt
    generalize sgn b = y at HB hlt
    have b1 : decide (x < y) = false := decide_eq_false hlt
    clear ha hb hn hnl HR
    go_enter Tryz.func83, Tryz.ntmps83
    go_wp2_with fail
    refine (HA.out _).mono ?_
    rintro e w' ⟨rfl, h⟩
    have h2 := h.symm; clear h; subst h2
    go_wp2_with fail
    refine (HB.out _).mono ?_
    rintro e w' ⟨rfl, h⟩
    have h2 := h.symm; clear h; subst h2
    go_wp2_with fail
    refine (HI.out _ _).mono ?_
    rintro e w' ⟨rfl, h⟩
    have h2 := h.symm; clear h; subst h2
    go_wp2_with fail
    all_goals
      go_ret
      rw [HR2.out]
      exact ⟨rfl, rfl⟩

theorem refSums_32 (a b : Nat) (ha : a < 4294967296) (hb : b < 4294967296) (w : World) :
    Calls Tryz.prog 83 #[.int .i64 32, .int .i64 (a : Int), .int .i64 (b : Int)] w fun e w' => e = .returned (.int .i64 (sumsF 32 a b : Nat)) ∧ w' = w := by
  have HA := Vx.hid (fun wv => refSign_any a ha wv)
  have HB := Vx.hid (fun wv => refSign_any b hb wv)
  have HW : Hid (∀ v wv, Calls Tryz.prog 80 #[.int .i64 (wrap64 v)] wv fun e w' => e = .returned (.int .i64 (m32 v : Nat)) ∧ w' = wv) := fun v wv => by
    have := refWrap_any (wrap64 v) wv
    rw [m32_wrap] at this
    exact this
  have HW' := Vx.hid (fun v wv => refWrap_any v wv)
  have HI := Vx.hid (fun b wv => oneIf_any b wv)
  obtain ⟨n, hn⟩ : ∃ n, n = b % 32 := ⟨_, rfl⟩
  have t1 : Int.tmod (b : Int) 32 = (n : Int) := by rw [hn]; rfl
  have t2 : (b : Int) % 32 = (n : Int) := by rw [hn]; rfl
  have hnl : n < 32 := by rw [hn]; exact Nat.mod_lt _ (by decide)
  have t3 : IntKind.i64.wrap (n : Int) = (n : Int) := by rw [IntKind.wrap_i64]; omega
  have t4 : IntKind.u64.wrap (n : Int) = (n : Int) := by rw [IntKind.wrap_u64]; omega
  have HR : Hid (sumsF 32 a b = if a < b then 1 else 0) := by show _ = _; rfl

  by_cases hlt : a < b
  · have HR2 : Hid (sumsF 32 a b = 1) := by show _ = _; rw [HR.out, if_pos hlt]
    generalize sgn a = x at HA
    generalize sgn b = y at HB
    have c1 : (a : Int) < (b : Int) := by omega
    have b1 : decide ((a : Int) < (b : Int)) = true := decide_eq_true c1
    clear ha hb hn hnl HR
    go_enter Tryz.func83, Tryz.ntmps83
    go_wp2_with fail
    refine (HA.out _).mono ?_
    rintro e w' ⟨rfl, h⟩
    have h2 := h.symm; clear h; subst h2
    go_wp2_with fail
    refine (HB.out _).mono ?_
    rintro e w' ⟨rfl, h⟩
    have h2 := h.symm; clear h; subst h2
    go_wp2_with fail
    refine (HI.out _ _).mono ?_
    rintro e w' ⟨rfl, h⟩
    have h2 := h.symm; clear h; subst h2
    go_wp2_with fail
    all_goals
      go_ret
      rw [HR2.out]
      exact ⟨rfl, rfl⟩
  · have HR2 : Hid (sumsF 32 a b = 0) := by show _ = _; rw [HR.out, if_neg hlt]
    generalize sgn a = x at HA
    generalize sgn b = y at HB
    have c1 : ¬ (a : Int) < (b : Int) := by omega
    have b1 : decide ((a : Int) < (b : Int)) = false := decide_eq_false c1
    clear ha hb hn hnl HR
    go_enter Tryz.func83, Tryz.ntmps83
    go_wp2_with fail
    refine (HA.out _).mono ?_
    rintro e w' ⟨rfl, h⟩
    have h2 := h.symm; clear h; subst h2
    go_wp2_with fail
    refine (HB.out _).mono ?_
    rintro e w' ⟨rfl, h⟩
    have h2 := h.symm; clear h; subst h2
    go_wp2_with fail
    refine (HI.out _ _).mono ?_
    rintro e w' ⟨rfl, h⟩
    have h2 := h.symm; clear h; subst h2
    go_wp2_with fail
    all_goals
      go_ret
      rw [HR2.out]
      exact ⟨rfl, rfl⟩

theorem refSums_33 (a b : Nat) (ha : a < 4294967296) (hb : b < 4294967296) (w : World) :
    Calls Tryz.prog 83 #[.int .i64 33, .int .i64 (a : Int), .int .i64 (b : Int)] w fun e w' => e = .returned (.int .i64 (sumsF 33 a b : Nat)) ∧ w' = w := by
  have HA := Vx.hid (fun wv => refSign_any a ha wv)
  have HB := Vx.hid (fun wv => refSign_any b hb wv)
  have HW : Hid (∀ v wv, Calls Tryz.prog 80 #[.int .i64 (wrap64 v)] wv fun e w' => e = .returned (.int .i64 (m32 v : Nat)) ∧ w' = wv) := fun v wv => by
    have := refWrap_any (wrap64 v) wv
    rw [m32_wrap] at this
    exact this
  have HW' := Vx.hid (fun v wv => refWrap_any v wv)
  have HI := Vx.hid (fun b wv => oneIf_any b wv)
  obtain ⟨n, hn⟩ : ∃ n, n = b % 32 := ⟨_, rfl⟩
  have t1 : Int.tmod (b : Int) 32 = (n : Int) := by rw [hn]; rfl
  have t2 : (b : Int) % 32 = (n : Int) := by rw [hn]; rfl
  have hnl : n < 32 := by rw [hn]; exact Nat.mod_lt _ (by decide)
  have t3 : IntKind.i64.wrap (n : Int) = (n : Int) := by rw [IntKind.wrap_i64]; omega
  have t4 : IntKind.u64.wrap (n : Int) = (n : Int) := by rw [IntKind.wrap_u64]; omega
  have HR : Hid (sumsF 33 a b = a ^^^ b) := by show _ = _; rfl

  obtain ⟨x1, x2, x3⟩ := i64_nats a b ha hb
  generalize sgn a = x at HA
  generalize sgn b = y at HB
  clear ha hb hn hnl
  go_enter Tryz.func83, Tryz.ntmps83
  go_wp2_with fail
  refine (HA.out _).mono ?_
  rintro e w' ⟨rfl, h⟩
  have h2 := h.symm; clear h; subst h2
  go_wp2_with fail
  refine (HB.out _).mono ?_
  rintro e w' ⟨rfl, h⟩
  have h2 := h.symm; clear h; subst h2
  go_wp2_with fail
  all_goals
    go_ret
    rw [HR.out]
    exact ⟨rfl, rfl⟩

theorem refSums_34 (a b : Nat) (ha : a < 4294967296) (hb : b < 4294967296) (w : World) :
    Calls Tryz.prog 83 #[.int .i64 34, .int .i64 (a : Int), .int .i64 (b : Int)] w fun e w' => e = .returned (.int .i64 (sumsF 34 a b : Nat)) ∧ w' = w := by
  have HA := Vx.hid (fun wv => refSign_any a ha wv)
  have HB := Vx.hid (fun wv => refSign_any b hb wv)
  have HW : Hid (∀ v wv, Calls Tryz.prog 80 #[.int .i64 (wrap64 v)] wv fun e w' => e = .returned (.int .i64 (m32 v : Nat)) ∧ w' = wv) := fun v wv => by
    have := refWrap_any (wrap64 v) wv
    rw [m32_wrap] at this
    exact this
  have HW' := Vx.hid (fun v wv => refWrap_any v wv)
  have HI := Vx.hid (fun b wv => oneIf_any b wv)
  obtain ⟨n, hn⟩ : ∃ n, n = b % 32 := ⟨_, rfl⟩
  have t1 : Int.tmod (b : Int) 32 = (n : Int) := by rw [hn]; rfl
  have t2 : (b : Int) % 32 = (n : Int) := by rw [hn]; rfl
  have hnl : n < 32 := by rw [hn]; exact Nat.mod_lt _ (by decide)
  have t3 : IntKind.i64.wrap (n : Int) = (n : Int) := by rw [IntKind.wrap_i64]; omega
  have t4 : IntKind.u64.wrap (n : Int) = (n : Int) := by rw [IntKind.wrap_u64]; omega
  have HR : Hid (sumsF 34 a b = a / 2 ^ n) := by show _ = _; rw [show n = b % 32 from hn]; rfl

  obtain ⟨qn, hqn⟩ : ∃ q, q = a / 2 ^ n := ⟨_, rfl⟩
  rw [← hqn] at HR
  have z1 : (a : Int) / 2 ^ n = (qn : Int) := by rw [hqn]; simp
  have z2 : wrap64 (qn : Int) = (qn : Int) := wrap_nat qn (by rw [hqn]; exact Nat.lt_of_le_of_lt (Nat.div_le_self _ _) ha)
  generalize sgn a = x at HA
  generalize sgn b = y at HB
  clear ha hb hn hnl hqn
  go_enter Tryz.func83, Tryz.ntmps83
  go_wp2_with fail
  refine (HA.out _).mono ?_
  rintro e w' ⟨rfl, h⟩
  have h2 := h.symm; clear h; subst h2
  go_wp2_with fail
  refine (HB.out _).mono ?_
  rintro e w' ⟨rfl, h⟩
  have h2 := h.symm; clear h; subst h2
  go_wp2_with fail
  all_goals
    go_ret
    rw [HR.out]
    exact ⟨rfl, rfl⟩

theorem refSums_35 (a b : Nat) (ha : a < 4294967296) (hb : b < 4294967296) (w : World) :
    Calls Tryz.prog 83 #[.int .i64 35, .int .i64 (a : Int), .int .i64 (b : Int)] w fun e w' => e = .returned (.int .i64 (sumsF 35 a b : Nat)) ∧ w' = w := by
  have HA := Vx.hid (fun wv => refSign_any a ha wv)
  have HB := Vx.hid (fun wv => refSign_any b hb wv)
  have HW : Hid (∀ v wv, Calls Tryz.prog 80 #[.int .i64 (wrap64 v)] wv fun e w' => e = .returned (.int .i64 (m32 v : Nat)) ∧ w' = wv) := fun v wv => by
    have := refWrap_any (wrap64 v) wv
    rw [m32_wrap] at this
    exact this
  have HW' := Vx.hid (fun v wv => refWrap_any v wv)
  have HI := Vx.hid (fun b wv => oneIf_any b wv)
  obtain ⟨n, hn⟩ : ∃ n, n = b % 32 := ⟨_, rfl⟩
  have t1 : Int.tmod (b : Int) 32 = (n : Int) := by rw [hn]; rfl
  have t2 : (b : Int) % 32 = (n : Int) := by rw [hn]; rfl
  have hnl : n < 32 := by rw [hn]; exact Nat.mod_lt _ (by decide)
  have t3 : IntKind.i64.wrap (n : Int) = (n : Int) := by rw [IntKind.wrap_i64]; omega
  have t4 : IntKind.u64.wrap (n : Int) = (n : Int) := by rw [IntKind.wrap_u64]; omega
  have HR : Hid (sumsF 35 a b = m32 (sgn a / 2 ^ n)) := by show _ = _; rw [show n = b % 32 from hn]; rfl

  generalize sgn a = x at HA HR
  generalize sgn b = y at HB
  clear ha hb hn hnl
  go_enter Tryz.func83, Tryz.ntmps83
  go_wp2_with fail
  refine (HA.out _).mono ?_
  rintro e w' ⟨rfl, h⟩
  have h2 := h.symm; clear h; subst h2
  go_wp2_with fail
  refine (HB.out _).mono ?_
  rintro e w' ⟨rfl, h⟩
  have h2 := h.symm; clear h; subst h2
  go_wp2_with fail
  refine (HW'.out _ _).mono ?_
  rintro e w' ⟨rfl, h⟩
  have h2 := h.symm; clear h; subst h2
  go_wp2_with fail
  all_goals
    go_ret
    rw [HR.out]
    exact ⟨rfl, rfl⟩

theorem refSums_36 (a b : Nat) (ha : a < 4294967296) (hb : b < 4294967296) (w : World) :
    Calls Tryz.prog 83 #[.int .i64 36, .int .i64 (a : Int), .int .i64 (b : Int)] w fun e w' => e = .returned (.int .i64 (sumsF 36 a b : Nat)) ∧ w' = w := by
  have HA := Vx.hid (fun wv => refSign_any a ha wv)
  have HB := Vx.hid (fun wv => refSign_any b hb wv)
  have HW : Hid (∀ v wv, Calls Tryz.prog 80 #[.int .i64 (wrap64 v)] wv fun e w' => e = .returned (.int .i64 (m32 v : Nat)) ∧ w' = wv) := fun v wv => by
    have := refWrap_any (wrap64 v) wv
    rw [m32_wrap] at this
    exact this
  have HW' := Vx.hid (fun v wv => refWrap_any v wv)
  have HI := Vx.hid (fun b wv => oneIf_any b wv)
  obtain ⟨n, hn⟩ : ∃ n, n = b % 32 := ⟨_, rfl⟩
  have t1 : Int.tmod (b : Int) 32 = (n : Int) := by rw [hn]; rfl
  have t2 : (b : Int) % 32 = (n : Int) := by rw [hn]; rfl
  have hnl : n < 32 := by rw [hn]; exact Nat.mod_lt _ (by decide)
  have t3 : IntKind.i64.wrap (n : Int) = (n : Int) := by rw [IntKind.wrap_i64]; omega
  have t4 : IntKind.u64.wrap (n : Int) = (n : Int) := by rw [IntKind.wrap_u64]; omega
  have HR : Hid (sumsF 36 a b = a ||| b) := by show _ = _; rfl

  obtain ⟨x1, x2, x3⟩ := i64_nats a b ha hb
  generalize sgn a = x at HA
  generalize sgn b = y at HB
  clear ha hb hn hnl
  go_enter Tryz.func83, Tryz.ntmps83
  go_wp2_with fail
  refine (HA.out _).mono ?_
  rintro e w' ⟨rfl, h⟩
  have h2 := h.symm; clear h; subst h2
  go_wp2_with fail
  refine (HB.out _).mono ?_
  rintro e w' ⟨rfl, h⟩
  have h2 := h.symm; clear h; subst h2
  go_wp2_with fail
  all_goals
    go_ret
    rw [HR.out]
    exact ⟨rfl, rfl⟩

theorem refSums_37 (a b : Nat) (ha : a < 4294967296) (hb : b < 4294967296) (w : World) :
    Calls Tryz.prog 83 #[.int .i64 37, .int .i64 (a : Int), .int .i64 (b : Int)] w fun e w' => e = .returned (.int .i64 (sumsF 37 a b : Nat)) ∧ w' = w := by
  have HA := Vx.hid (fun wv => refSign_any a ha wv)
  have HB := Vx.hid (fun wv => refSign_any b hb wv)
  have HW : Hid (∀ v wv, Calls Tryz.prog 80 #[.int .i64 (wrap64 v)] wv fun e w' => e = .returned (.int .i64 (m32 v : Nat)) ∧ w' = wv) := fun v wv => by
    have := refWrap_any (wrap64 v) wv
    rw [m32_wrap] at this
    exact this
  have HW' := Vx.hid (fun v wv => refWrap_any v wv)
  have HI := Vx.hid (fun b wv => oneIf_any b wv)
  obtain ⟨n, hn⟩ : ∃ n, n = b % 32 := ⟨_, rfl⟩
  have t1 : Int.tmod (b : Int) 32 = (n : Int) := by rw [hn]; rfl
  have t2 : (b : Int) % 32 = (n : Int) := by rw [hn]; rfl
  have hnl : n < 32 := by rw [hn]; exact Nat.mod_lt _ (by decide)
  have t3 : IntKind.i64.wrap (n : Int) = (n : Int) := by rw [IntKind.wrap_i64]; omega
  have t4 : IntKind.u64.wrap (n : Int) = (n : Int) := by rw [IntKind.wrap_u64]; omega
  have HR : Hid (sumsF 37 a b = a &&& b) := by show _ = _; rfl

  obtain ⟨x1, x2, x3⟩ := i64_nats a b ha hb
  generalize sgn a = x at HA
  generalize sgn b = y at HB
  clear ha hb hn hnl
  go_enter Tryz.func83, Tryz.ntmps83
  go_wp2_with fail
  refine (HA.out _).mono ?_
  rintro e w' ⟨rfl, h⟩
  have h2 := h.symm; clear h; subst h2
  go_wp2_with fail
  refine (HB.out _).mono ?_
  rintro e w' ⟨rfl, h⟩
  have h2 := h.symm; clear h; subst h2
  go_wp2_with fail
  all_goals
    go_ret
    rw [HR.out]
    exact ⟨rfl, rfl⟩

theorem refSums_any (op a b : Nat) (h : 28 ≤ op) (h2 : op ≤ 37) (ha : a < 4294967296) (hb : b < 4294967296) (w : World) :
    Calls Tryz.prog 83 #[.int .i64 (op : Int), .int .i64 (a : Int), .int .i64 (b : Int)] w fun e w' => e = .returned (.int .i64 (sumsF op a b : Nat)) ∧ w' = w := by
  have hc : op = 28 ∨ op = 29 ∨ op = 30 ∨ op = 31 ∨ op = 32 ∨ op = 33 ∨ op = 34 ∨ op = 35 ∨ op = 36 ∨ op = 37 := by omega
  rcases hc with rfl | rfl | rfl | rfl | rfl | rfl | rfl | rfl | rfl | rfl
  · exact refSums_28 a b ha hb w
  · exact refSums_29 a b ha hb w
  · exact refSums_30 a b ha hb w
  · exact refSums_31 a b ha hb w
  · exact refSums_32 a b ha hb w
  · exact refSums_33 a b ha hb w
  · exact refSums_34 a b ha hb w
  · exact refSums_35 a b ha hb w
  · exact refSums_36 a b ha hb w
  · exact refSums_37 a b ha hb w
end Go.Proofs.YtflmobffeeocdaaGreatDoor

/- Walks of the document's chapter 6: high, products. -/
namespace Go.Proofs.YtflmobffeeocdaaGreatDoor
open Go.ChangeShapes Go.WideShapes Go.ChangeAt Go.RowKit
open Go.Vx

theorem high_pos (a b A B : Int) (hA : A = if b < 0 then -a else a) (hB : B = if b < 0 then -b else b) (h0 : -4294967296 ≤ a) (h1 : a ≤ 4294967296) (h2 : -4294967296 ≤ b) (h3 : b ≤ 4294967296) (w : World) :
    Calls Tryz.prog 100 #[.int .i64 a, .int .i64 b] w fun e w' => e = .returned (.int .i64 (m32 (A * B / 4294967296) : Nat)) ∧ w' = w := by
  have HW := Vx.hid (fun v wv => refWrap_any v wv)
  have hab : -4294967296 ≤ A ∧ A ≤ 4294967296 ∧ 0 ≤ B ∧ B ≤ 4294967296 := by
    rw [hA, hB]
    split <;> omega
  have he := high_eq A B
  obtain ⟨b1, hb1⟩ : ∃ b1, b1 = B / 65536 := ⟨_, rfl⟩
  obtain ⟨b2, hb2⟩ : ∃ b2, b2 = B % 65536 := ⟨_, rfl⟩
  have k1 : 0 ≤ b1 ∧ b1 ≤ 65536 := by omega
  have k2 : 0 ≤ b2 ∧ b2 ≤ 65536 := by omega
  have q1 : Int.tdiv B 65536 = b1 := by rw [Int.tdiv_eq_ediv_of_nonneg (by omega)]; exact hb1.symm
  have q2 : Int.tmod B 65536 = b2 := by rw [Int.tmod_eq_emod_of_nonneg (by omega)]; exact hb2.symm
  have q3 : B / 65536 = b1 := hb1.symm
  have q4 : B % 65536 = b2 := hb2.symm
  rw [q3, q4] at he
  have m1 := mul_bound (A := A) (c := b1) (X := 4294967296) (Y := 65536) hab.1 hab.2.1 k1.1 k1.2 (by decide)
  have m2 := mul_bound (A := A) (c := b2) (X := 4294967296) (Y := 65536) hab.1 hab.2.1 k2.1 k2.2 (by decide)
  obtain ⟨P, hP⟩ : ∃ P, P = A * b1 := ⟨_, rfl⟩
  obtain ⟨Q, hQ⟩ : ∃ Q, Q = A * b2 := ⟨_, rfl⟩
  rw [← hP] at m1 he
  rw [← hQ] at m2 he
  have p1 : A * b1 = P := hP.symm
  have p2 : A * b2 = Q := hQ.symm
  have v1 : wrap64 b1 = b1 := by simp only [wrap64]; omega
  have v2 : wrap64 b2 = b2 := by simp only [wrap64]; omega
  have v3 : wrap64 P = P := by simp only [wrap64]; omega
  have v4 : wrap64 Q = Q := by simp only [wrap64]; omega
  have v5 : wrap64 (P + Q / 65536) = P + Q / 65536 := by simp only [wrap64]; omega
  have v6 : wrap64 A = A := by simp only [wrap64]; omega
  have v7 : wrap64 B = B := by simp only [wrap64]; omega
  have HE := Vx.hid he
  generalize A * B / 4294967296 = R at HE
  by_cases hn : b < 0
  · rw [if_pos hn] at hA hB
    have a1 : -a = A := hA.symm
    have a2 : -b = B := hB.symm
    clear h0 h1 h2 h3 hab he hb1 hb2 k1 k2 q3 q4 m1 m2 hP hQ hA hB
    go_enter Tryz.func100, Tryz.ntmps100
    go_wp2_with fail
    refine (HW.out _ _).mono ?_
    rintro e w' ⟨rfl, h⟩
    have h2 := h.symm; clear h; subst h2
    rw [HE.out]
    go_wp2_with fail
    all_goals
      go_ret
      exact ⟨rfl, rfl⟩
  · rw [if_neg hn] at hA hB
    subst hA hB
    clear h0 h1 h2 h3 hab he hb1 hb2 k1 k2 q3 q4 m1 m2 hP hQ
    go_enter Tryz.func100, Tryz.ntmps100
    go_wp2_with fail
    refine (HW.out _ _).mono ?_
    rintro e w' ⟨rfl, h⟩
    have h2 := h.symm; clear h; subst h2
    rw [HE.out]
    go_wp2_with fail
    all_goals
      go_ret
      exact ⟨rfl, rfl⟩
theorem high_any (a b : Int) (h0 : -4294967296 ≤ a) (h1 : a ≤ 4294967296) (h2 : -4294967296 ≤ b) (h3 : b ≤ 4294967296) (w : World) :
    Calls Tryz.prog 100 #[.int .i64 a, .int .i64 b] w fun e w' => e = .returned (.int .i64 (highF a b : Nat)) ∧ w' = w := by
  have h := high_pos a b _ _ rfl rfl h0 h1 h2 h3 w
  have e : (if b < 0 then -a else a) * (if b < 0 then -b else b) = a * b := by
    by_cases hn : b < 0
    · rw [if_pos hn, if_pos hn, Int.neg_mul_neg]
    · rw [if_neg hn, if_neg hn]
  rw [e] at h
  exact h
end Go.Proofs.YtflmobffeeocdaaGreatDoor

/- Walks of the document's chapter 6: products (made by gen_z4.py). -/
namespace Go.Proofs.YtflmobffeeocdaaGreatDoor
open Go.ChangeShapes Go.WideShapes Go.ChangeAt Go.RowKit
open Go.Vx

theorem wrap_mid (z : Int) (h0 : -281474976710656 ≤ z) (h1 : z ≤ 281474976710656) : wrap64 z = z := by simp only [wrap64]; omega
theorem wrap_six (k : Nat) (Q : Int) (h : k < 65536) (h0 : -281474976710656 ≤ Q) (h1 : Q ≤ 281474976710656) : wrap64 ((k : Int) * 65536) = (k : Int) * 65536 ∧ wrap64 ((k : Int) * 65536 + Q) = (k : Int) * 65536 + Q := by
  simp only [wrap64]
  omega

theorem refProd_42 (a b : Nat) (ha : a < 4294967296) (hb : b < 4294967296) (w : World) :
    Calls Tryz.prog 84 #[.int .i64 42, .int .i64 (a : Int), .int .i64 (b : Int)] w fun e w' => e = .returned (.int .i64 (prodF 42 a b : Nat)) ∧ w' = w := by
  have HA := Vx.hid (fun wv => refSign_any a ha wv)
  have HB := Vx.hid (fun wv => refSign_any b hb wv)
  have HR : Hid (prodF 42 a b = highF (sgn a) (sgn b)) := rfl
  have hx := sgn_bounds a ha
  have hy := sgn_bounds b hb
  generalize sgn a = x at HA hx HR
  generalize sgn b = y at HB hy HR
  have HH := Vx.hid (fun wv => high_any x y (by omega) (by omega) (by omega) (by omega) wv)
  clear ha hb hx hy
  go_enter Tryz.func84, Tryz.ntmps84
  go_wp2_with fail
  refine (HA.out _).mono ?_
  rintro e w' ⟨rfl, h⟩
  have h2 := h.symm; clear h; subst h2
  go_wp2_with fail
  refine (HB.out _).mono ?_
  rintro e w' ⟨rfl, h⟩
  have h2 := h.symm; clear h; subst h2
  go_wp2_with fail
  refine (HH.out _).mono ?_
  rintro e w' ⟨rfl, h⟩
  have h2 := h.symm; clear h; subst h2
  go_wp2_with fail
  all_goals
    go_ret
    rw [HR.out]
    exact ⟨rfl, rfl⟩

theorem refProd_43 (a b : Nat) (ha : a < 4294967296) (hb : b < 4294967296) (w : World) :
    Calls Tryz.prog 84 #[.int .i64 43, .int .i64 (a : Int), .int .i64 (b : Int)] w fun e w' => e = .returned (.int .i64 (prodF 43 a b : Nat)) ∧ w' = w := by
  have HA := Vx.hid (fun wv => refSign_any a ha wv)
  have HB := Vx.hid (fun wv => refSign_any b hb wv)
  have HR : Hid (prodF 43 a b = highF (sgn a) b) := rfl
  have hx := sgn_bounds a ha
  have hy := sgn_bounds b hb
  generalize sgn a = x at HA hx HR
  generalize sgn b = y at HB hy
  have HH := Vx.hid (fun wv => high_any x (b : Int) (by omega) (by omega) (by omega) (by omega) wv)
  clear ha hb hx hy
  go_enter Tryz.func84, Tryz.ntmps84
  go_wp2_with fail
  refine (HA.out _).mono ?_
  rintro e w' ⟨rfl, h⟩
  have h2 := h.symm; clear h; subst h2
  go_wp2_with fail
  refine (HB.out _).mono ?_
  rintro e w' ⟨rfl, h⟩
  have h2 := h.symm; clear h; subst h2
  go_wp2_with fail
  refine (HH.out _).mono ?_
  rintro e w' ⟨rfl, h⟩
  have h2 := h.symm; clear h; subst h2
  go_wp2_with fail
  all_goals
    go_ret
    rw [HR.out]
    exact ⟨rfl, rfl⟩

theorem refProd_44 (a b : Nat) (ha : a < 4294967296) (hb : b < 4294967296) (w : World) :
    Calls Tryz.prog 84 #[.int .i64 44, .int .i64 (a : Int), .int .i64 (b : Int)] w fun e w' => e = .returned (.int .i64 (prodF 44 a b : Nat)) ∧ w' = w := by
  have HA := Vx.hid (fun wv => refSign_any a ha wv)
  have HB := Vx.hid (fun wv => refSign_any b hb wv)
  have HR : Hid (prodF 44 a b = highF a b) := rfl
  have hx := sgn_bounds a ha
  have hy := sgn_bounds b hb
  generalize sgn a = x at HA hx
  generalize sgn b = y at HB hy
  have HH := Vx.hid (fun wv => high_any (a : Int) (b : Int) (by omega) (by omega) (by omega) (by omega) wv)
  clear ha hb hx hy
  go_enter Tryz.func84, Tryz.ntmps84
  go_wp2_with fail
  refine (HA.out _).mono ?_
  rintro e w' ⟨rfl, h⟩
  have h2 := h.symm; clear h; subst h2
  go_wp2_with fail
  refine (HB.out _).mono ?_
  rintro e w' ⟨rfl, h⟩
  have h2 := h.symm; clear h; subst h2
  go_wp2_with fail
  refine (HH.out _).mono ?_
  rintro e w' ⟨rfl, h⟩
  have h2 := h.symm; clear h; subst h2
  go_wp2_with fail
  all_goals
    go_ret
    rw [HR.out]
    exact ⟨rfl, rfl⟩

theorem refProd_45 (a b : Nat) (ha : a < 4294967296) (hb : b < 4294967296) (w : World) :
    Calls Tryz.prog 84 #[.int .i64 45, .int .i64 (a : Int), .int .i64 (b : Int)] w fun e w' => e = .returned (.int .i64 (prodF 45 a b : Nat)) ∧ w' = w := by
  have HA := Vx.hid (fun wv => refSign_any a ha wv)
  have HB := Vx.hid (fun wv => refSign_any b hb wv)
  by_cases h0 : b = 0
  · subst h0
    have HR : Hid (prodF 45 a 0 = 4294967295) := rfl
    generalize sgn a = x at HA
    generalize sgn 0 = y at HB
    clear ha hb
    go_enter Tryz.func84, Tryz.ntmps84
    go_wp2_with fail
    refine (HA.out _).mono ?_
    rintro e w' ⟨rfl, h⟩
    have h2 := h.symm; clear h; subst h2
    go_wp2_with fail
    refine (HB.out _).mono ?_
    rintro e w' ⟨rfl, h⟩
    have h2 := h.symm; clear h; subst h2
    go_wp2_with fail
    all_goals
      go_ret
      rw [HR.out]
      exact ⟨rfl, rfl⟩
  · have HR : Hid (prodF 45 a b = m32 (Int.tdiv (sgn a) (sgn b))) := by
      show _ = _
      unfold prodF
      rw [if_neg (by decide), if_neg (by decide), if_neg (by decide), if_neg (by decide), if_neg h0]
      rfl
    have c1 : ¬ (b : Int) = 0 := by omega
    have c2 : ((b : Int) == 0) = false := by simpa using c1

    have hx := sgn_bounds a ha
    have hz := sgn_zero b hb h0
    have HW := Vx.hid (fun v wv => refWrap_any v wv)
    have hd := tdiv_bound (sgn a) (sgn b) hx.1 hx.2
    have hmd : -2147483648 ≤ Int.tmod (sgn a) (sgn b) ∧ Int.tmod (sgn a) (sgn b) ≤ 2147483648 := by
      have h := Int.natAbs_tmod (sgn a) (sgn b)
      have h2 := Nat.mod_le (sgn a).natAbs (sgn b).natAbs
      omega
    have v1 : wrap64 (Int.tdiv (sgn a) (sgn b)) = Int.tdiv (sgn a) (sgn b) := by simp only [wrap64]; omega
    have v2 : wrap64 (Int.tmod (sgn a) (sgn b)) = Int.tmod (sgn a) (sgn b) := by simp only [wrap64]; omega
    generalize sgn a = x at HA HR v1 v2
    generalize sgn b = y at HB HR v1 v2 hz
    have hz2 : (y == 0) = false := by simpa using hz
    clear ha hb hx hd hmd h0
    go_enter Tryz.func84, Tryz.ntmps84
    go_wp2_with fail
    refine (HA.out _).mono ?_
    rintro e w' ⟨rfl, h⟩
    have h2 := h.symm; clear h; subst h2
    go_wp2_with fail
    refine (HB.out _).mono ?_
    rintro e w' ⟨rfl, h⟩
    have h2 := h.symm; clear h; subst h2
    go_wp2_with fail
    refine (HW.out _ _).mono ?_
    rintro e w' ⟨rfl, h⟩
    have h2 := h.symm; clear h; subst h2
    go_wp2_with fail
    all_goals
      go_ret
      rw [HR.out]
      exact ⟨rfl, rfl⟩

theorem refProd_46 (a b : Nat) (ha : a < 4294967296) (hb : b < 4294967296) (w : World) :
    Calls Tryz.prog 84 #[.int .i64 46, .int .i64 (a : Int), .int .i64 (b : Int)] w fun e w' => e = .returned (.int .i64 (prodF 46 a b : Nat)) ∧ w' = w := by
  have HA := Vx.hid (fun wv => refSign_any a ha wv)
  have HB := Vx.hid (fun wv => refSign_any b hb wv)
  by_cases h0 : b = 0
  · subst h0
    have HR : Hid (prodF 46 a 0 = 4294967295) := rfl
    generalize sgn a = x at HA
    generalize sgn 0 = y at HB
    clear ha hb
    go_enter Tryz.func84, Tryz.ntmps84
    go_wp2_with fail
    refine (HA.out _).mono ?_
    rintro e w' ⟨rfl, h⟩
    have h2 := h.symm; clear h; subst h2
    go_wp2_with fail
    refine (HB.out _).mono ?_
    rintro e w' ⟨rfl, h⟩
    have h2 := h.symm; clear h; subst h2
    go_wp2_with fail
    all_goals
      go_ret
      rw [HR.out]
      exact ⟨rfl, rfl⟩
  · have HR : Hid (prodF 46 a b = a / b) := by
      show _ = _
      unfold prodF
      rw [if_neg (by decide), if_neg (by decide), if_neg (by decide), if_neg (by decide), if_neg h0]
      rfl
    have c1 : ¬ (b : Int) = 0 := by omega
    have c2 : ((b : Int) == 0) = false := by simpa using c1

    obtain ⟨q, hq⟩ : ∃ q, q = a / b := ⟨_, rfl⟩
    rw [← hq] at HR
    have z1 : Int.tdiv (a : Int) (b : Int) = (q : Int) := by rw [Int.tdiv_eq_ediv_of_nonneg (by omega), hq]; rfl
    have z2 : (a : Int) / (b : Int) = (q : Int) := by rw [hq]; rfl
    have z3 : wrap64 (q : Int) = (q : Int) := wrap_nat q (by rw [hq]; exact Nat.lt_of_le_of_lt (Nat.div_le_self _ _) ha)
    generalize sgn a = x at HA
    generalize sgn b = y at HB
    clear ha hb h0 hq
    go_enter Tryz.func84, Tryz.ntmps84
    go_wp2_with fail
    refine (HA.out _).mono ?_
    rintro e w' ⟨rfl, h⟩
    have h2 := h.symm; clear h; subst h2
    go_wp2_with fail
    refine (HB.out _).mono ?_
    rintro e w' ⟨rfl, h⟩
    have h2 := h.symm; clear h; subst h2
    go_wp2_with fail
    all_goals
      go_ret
      rw [HR.out]
      first | exact ⟨rfl, rfl⟩ | (refine ⟨ret_val ?_, rfl⟩; show Value.int .i64 (wrap64 (q : Int)) = _; rw [z3])

theorem refProd_47 (a b : Nat) (ha : a < 4294967296) (hb : b < 4294967296) (w : World) :
    Calls Tryz.prog 84 #[.int .i64 47, .int .i64 (a : Int), .int .i64 (b : Int)] w fun e w' => e = .returned (.int .i64 (prodF 47 a b : Nat)) ∧ w' = w := by
  have HA := Vx.hid (fun wv => refSign_any a ha wv)
  have HB := Vx.hid (fun wv => refSign_any b hb wv)
  by_cases h0 : b = 0
  · subst h0
    have HR : Hid (prodF 47 a 0 = a) := rfl
    generalize sgn a = x at HA
    generalize sgn 0 = y at HB
    clear ha hb
    go_enter Tryz.func84, Tryz.ntmps84
    go_wp2_with fail
    refine (HA.out _).mono ?_
    rintro e w' ⟨rfl, h⟩
    have h2 := h.symm; clear h; subst h2
    go_wp2_with fail
    refine (HB.out _).mono ?_
    rintro e w' ⟨rfl, h⟩
    have h2 := h.symm; clear h; subst h2
    go_wp2_with fail
    all_goals
      go_ret
      rw [HR.out]
      exact ⟨rfl, rfl⟩
  · have HR : Hid (prodF 47 a b = m32 (Int.tmod (sgn a) (sgn b))) := by
      show _ = _
      unfold prodF
      rw [if_neg (by decide), if_neg (by decide), if_neg (by decide), if_neg (by decide), if_neg h0]
      rfl
    have c1 : ¬ (b : Int) = 0 := by omega
    have c2 : ((b : Int) == 0) = false := by simpa using c1

    have hx := sgn_bounds a ha
    have hz := sgn_zero b hb h0
    have HW := Vx.hid (fun v wv => refWrap_any v wv)
    have hd := tdiv_bound (sgn a) (sgn b) hx.1 hx.2
    have hmd : -2147483648 ≤ Int.tmod (sgn a) (sgn b) ∧ Int.tmod (sgn a) (sgn b) ≤ 2147483648 := by
      have h := Int.natAbs_tmod (sgn a) (sgn b)
      have h2 := Nat.mod_le (sgn a).natAbs (sgn b).natAbs
      omega
    have v1 : wrap64 (Int.tdiv (sgn a) (sgn b)) = Int.tdiv (sgn a) (sgn b) := by simp only [wrap64]; omega
    have v2 : wrap64 (Int.tmod (sgn a) (sgn b)) = Int.tmod (sgn a) (sgn b) := by simp only [wrap64]; omega
    generalize sgn a = x at HA HR v1 v2
    generalize sgn b = y at HB HR v1 v2 hz
    have hz2 : (y == 0) = false := by simpa using hz
    clear ha hb hx hd hmd h0
    go_enter Tryz.func84, Tryz.ntmps84
    go_wp2_with fail
    refine (HA.out _).mono ?_
    rintro e w' ⟨rfl, h⟩
    have h2 := h.symm; clear h; subst h2
    go_wp2_with fail
    refine (HB.out _).mono ?_
    rintro e w' ⟨rfl, h⟩
    have h2 := h.symm; clear h; subst h2
    go_wp2_with fail
    refine (HW.out _ _).mono ?_
    rintro e w' ⟨rfl, h⟩
    have h2 := h.symm; clear h; subst h2
    go_wp2_with fail
    all_goals
      go_ret
      rw [HR.out]
      exact ⟨rfl, rfl⟩

theorem refProd_48 (a b : Nat) (ha : a < 4294967296) (hb : b < 4294967296) (w : World) :
    Calls Tryz.prog 84 #[.int .i64 48, .int .i64 (a : Int), .int .i64 (b : Int)] w fun e w' => e = .returned (.int .i64 (prodF 48 a b : Nat)) ∧ w' = w := by
  have HA := Vx.hid (fun wv => refSign_any a ha wv)
  have HB := Vx.hid (fun wv => refSign_any b hb wv)
  by_cases h0 : b = 0
  · subst h0
    have HR : Hid (prodF 48 a 0 = a) := rfl
    generalize sgn a = x at HA
    generalize sgn 0 = y at HB
    clear ha hb
    go_enter Tryz.func84, Tryz.ntmps84
    go_wp2_with fail
    refine (HA.out _).mono ?_
    rintro e w' ⟨rfl, h⟩
    have h2 := h.symm; clear h; subst h2
    go_wp2_with fail
    refine (HB.out _).mono ?_
    rintro e w' ⟨rfl, h⟩
    have h2 := h.symm; clear h; subst h2
    go_wp2_with fail
    all_goals
      go_ret
      rw [HR.out]
      exact ⟨rfl, rfl⟩
  · have HR : Hid (prodF 48 a b = a % b) := by
      show _ = _
      unfold prodF
      rw [if_neg (by decide), if_neg (by decide), if_neg (by decide), if_neg (by decide), if_neg h0]
      rfl
    have c1 : ¬ (b : Int) = 0 := by omega
    have c2 : ((b : Int) == 0) = false := by simpa using c1

    obtain ⟨q, hq⟩ : ∃ q, q = a % b := ⟨_, rfl⟩
    rw [← hq] at HR
    have z1 : Int.tmod (a : Int) (b : Int) = (q : Int) := by rw [Int.tmod_eq_emod_of_nonneg (by omega), hq]; rfl
    have z2 : (a : Int) % (b : Int) = (q : Int) := by rw [hq]; rfl
    have z3 : wrap64 (q : Int) = (q : Int) := wrap_nat q (by rw [hq]; exact Nat.lt_of_le_of_lt (Nat.mod_le _ _) ha)
    generalize sgn a = x at HA
    generalize sgn b = y at HB
    clear ha hb h0 hq
    go_enter Tryz.func84, Tryz.ntmps84
    go_wp2_with fail
    refine (HA.out _).mono ?_
    rintro e w' ⟨rfl, h⟩
    have h2 := h.symm; clear h; subst h2
    go_wp2_with fail
    refine (HB.out _).mono ?_
    rintro e w' ⟨rfl, h⟩
    have h2 := h.symm; clear h; subst h2
    go_wp2_with fail
    all_goals
      go_ret
      rw [HR.out]
      first | exact ⟨rfl, rfl⟩ | (refine ⟨ret_val ?_, rfl⟩; show Value.int .i64 (wrap64 (q : Int)) = _; rw [z3])

end Go.Proofs.YtflmobffeeocdaaGreatDoor

/- Walks of the document's chapter 6: the low half of a product; products, whole. -/
namespace Go.Proofs.YtflmobffeeocdaaGreatDoor
open Go.ChangeShapes Go.WideShapes Go.ChangeAt Go.RowKit
open Go.Vx

theorem refProd_41 (a b : Nat) (ha : a < 4294967296) (hb : b < 4294967296) (w : World) :
    Calls Tryz.prog 84 #[.int .i64 41, .int .i64 (a : Int), .int .i64 (b : Int)] w fun e w' => e = .returned (.int .i64 (prodF 41 a b : Nat)) ∧ w' = w := by
  have HA := Vx.hid (fun wv => refSign_any a ha wv)
  have HB := Vx.hid (fun wv => refSign_any b hb wv)
  have HR : Hid (prodF 41 a b = m32 ((a : Int) * b)) := rfl
  have HW := Vx.hid (fun v wv => refWrap_any v wv)
  have hl := low_eq a b
  obtain ⟨b1, hb1⟩ : ∃ b1, b1 = b / 65536 := ⟨_, rfl⟩
  obtain ⟨b2, hb2⟩ : ∃ b2, b2 = b % 65536 := ⟨_, rfl⟩
  rw [← hb1, ← hb2] at hl
  have k1 : (b1 : Int) ≤ 65536 := by omega
  have k2 : (b2 : Int) ≤ 65536 := by omega
  have q1 : Int.tdiv (b : Int) 65536 = (b1 : Int) := by rw [hb1]; rfl
  have q3 : (b : Int) / 65536 = (b1 : Int) := by rw [hb1]; rfl
  have m1 := mul_bound (A := (a : Int)) (c := (b1 : Int)) (X := 4294967296) (Y := 65536) (by omega) (by omega) (by omega) k1 (by decide)
  have m2 := mul_bound (A := (a : Int)) (c := (b2 : Int)) (X := 4294967296) (Y := 65536) (by omega) (by omega) (by omega) k2 (by decide)
  obtain ⟨P, hP⟩ : ∃ P, P = (a : Int) * (b1 : Int) := ⟨_, rfl⟩
  obtain ⟨Q, hQ⟩ : ∃ Q, Q = (a : Int) * (b2 : Int) := ⟨_, rfl⟩
  rw [← hP] at m1 hl
  rw [← hQ] at m2 hl
  have p1 : (a : Int) * (b1 : Int) = P := hP.symm
  have hm := m32_lt P
  obtain ⟨H, hH⟩ : ∃ H, H = m32 P := ⟨_, rfl⟩
  rw [← hH] at hl hm
  obtain ⟨h6, hh6⟩ : ∃ h6, h6 = H % 65536 := ⟨_, rfl⟩
  rw [← hh6] at hl
  have v1 : wrap64 (b1 : Int) = (b1 : Int) := wrap_nat b1 (by rw [hb1]; exact Nat.lt_of_le_of_lt (Nat.div_le_self _ _) hb)
  have v3 : wrap64 P = P := wrap_mid P m1.1 m1.2
  have h66 : h6 < 65536 := by rw [hh6]; exact Nat.mod_lt _ (by decide)
  have HH := Vx.hid hH
  have HL := Vx.hid hl
  have HF : Hid (Int.tmod (b : Int) 65536 = (b2 : Int) ∧ (b : Int) % 65536 = (b2 : Int) ∧ Int.tmod (H : Int) 65536 = (h6 : Int) ∧ (H : Int) % 65536 = (h6 : Int) ∧ (a : Int) * (b2 : Int) = Q) := ⟨by rw [hb2]; rfl, by rw [hb2]; rfl, by rw [hh6]; rfl, by rw [hh6]; rfl, hQ.symm⟩
  have HG := Vx.hid (wrap_six h6 Q h66 m2.1 m2.2)
  have HG2 := Vx.hid (wrap_mid Q m2.1 m2.2)
  generalize sgn a = x at HA
  generalize sgn b = y at HB
  clear k1 k2 ha hb hl hb1 hb2 m1 m2 hP hQ hm hH hh6 h66
  go_enter Tryz.func84, Tryz.ntmps84
  go_wp2_with fail
  refine (HA.out _).mono ?_
  rintro e w' ⟨rfl, h⟩
  have h2 := h.symm; clear h; subst h2
  go_wp2_with fail
  refine (HB.out _).mono ?_
  rintro e w' ⟨rfl, h⟩
  have h2 := h.symm; clear h; subst h2
  go_wp2_with fail
  refine (HW.out _ _).mono ?_
  rintro e w' ⟨rfl, h⟩
  have h2 := h.symm; clear h; subst h2
  rw [← HH.out]
  clear q1 q3 p1 v1 v3 HH
  go_wp2_with fail
  have HE : Hid (m32 (wrap64 ((H : Int) % 65536 * 65536 + wrap64 ((a : Int) * ((b : Int) % 65536)))) = prodF 41 a b) := by
    show _ = _
    rw [HF.out.2.1, HF.out.2.2.2.1, HF.out.2.2.2.2, HG2.out, HG.out.2, HL.out, ← HR.out]
  clear HF HG HG2 HL HR
  refine (HW.out _ _).mono ?_
  rintro e w' ⟨rfl, h⟩
  have h2 := h.symm; clear h; subst h2
  rw [HE.out]
  clear HE
  go_wp2_with fail
  all_goals
    go_ret
    exact ⟨rfl, rfl⟩
theorem refProd_any (op a b : Nat) (h : 41 ≤ op) (h2 : op ≤ 48) (ha : a < 4294967296) (hb : b < 4294967296) (w : World) :
    Calls Tryz.prog 84 #[.int .i64 (op : Int), .int .i64 (a : Int), .int .i64 (b : Int)] w fun e w' => e = .returned (.int .i64 (prodF op a b : Nat)) ∧ w' = w := by
  have hc : op = 41 ∨ op = 42 ∨ op = 43 ∨ op = 44 ∨ op = 45 ∨ op = 46 ∨ op = 47 ∨ op = 48 := by omega
  rcases hc with rfl | rfl | rfl | rfl | rfl | rfl | rfl | rfl
  · exact refProd_41 a b ha hb w
  · exact refProd_42 a b ha hb w
  · exact refProd_43 a b ha hb w
  · exact refProd_44 a b ha hb w
  · exact refProd_45 a b ha hb w
  · exact refProd_46 a b ha hb w
  · exact refProd_47 a b ha hb w
  · exact refProd_48 a b ha hb w
end Go.Proofs.YtflmobffeeocdaaGreatDoor

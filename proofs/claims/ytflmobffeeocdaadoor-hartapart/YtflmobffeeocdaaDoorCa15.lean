import Derived.Test.YtflmobffeeocdaaDoorCa14
/- Walks of package hart: number, length, upper, goes, quotient, product, sum (made by gen_r1.py). -/
namespace Go.Vx
/-- An instruction's op with an immediate, as that of registers. -/
def opR (op : Nat) : Nat := if op = 19 then 28 else if op = 20 then 31 else if op = 21 then 32 else if op = 22 then 33 else if op = 23 then 36 else if op = 24 then 37 else if op = 25 then 30 else if op = 26 then 34 else if op = 27 then 35 else op
/-- What an instruction makes of two numbers. -/
def arithF (op a b : Nat) : Nat := if op ≤ 37 then sumsF (opR op) a b else prodF op a b
theorem wrap_u32_m (v : Int) : IntKind.u32.wrap v = (m32 v : Nat) := by rw [IntKind.wrap_u32, m32_cast]
theorem wrap_i32_s (a : Nat) (h : a < 4294967296) : IntKind.i32.wrap (a : Int) = sgn a := by
  rw [IntKind.wrap_i32]; unfold sgn; split <;> omega
theorem wrap_u32_n (a : Nat) (h : a < 4294967296) : IntKind.u32.wrap (a : Int) = (a : Int) := by rw [IntKind.wrap_u32]; omega
theorem ofInt32 (a : Nat) (h : a < 4294967296) : (BitVec.ofInt 32 (a : Int)).toNat = a := by
  rw [BitVec.toNat_ofInt]; omega
theorem u32_nats (a b : Nat) (ha : a < 4294967296) (hb : b < 4294967296) : bits .xor .u32 (a : Int) (b : Int) = ((a ^^^ b : Nat) : Int) ∧ bits .or .u32 (a : Int) (b : Int) = ((a ||| b : Nat) : Int) ∧ bits .and .u32 (a : Int) (b : Int) = ((a &&& b : Nat) : Int) := by
  have hx : a ^^^ b < 2 ^ 32 := Nat.xor_lt_two_pow (by omega) (by omega)
  have ho : a ||| b < 2 ^ 32 := Nat.or_lt_two_pow (by omega) (by omega)
  have hd : a &&& b < 2 ^ 32 := Nat.and_lt_two_pow _ (by omega)
  refine ⟨?_, ?_, ?_⟩
  · show IntKind.u32.wrap ((BitVec.ofInt 32 (a : Int) ^^^ BitVec.ofInt 32 (b : Int)).toNat : Int) = _
    rw [BitVec.toNat_xor, ofInt32 a ha, ofInt32 b hb, IntKind.wrap_u32]
    omega
  · show IntKind.u32.wrap ((BitVec.ofInt 32 (a : Int) ||| BitVec.ofInt 32 (b : Int)).toNat : Int) = _
    rw [BitVec.toNat_or, ofInt32 a ha, ofInt32 b hb, IntKind.wrap_u32]
    omega
  · show IntKind.u32.wrap ((BitVec.ofInt 32 (a : Int) &&& BitVec.ofInt 32 (b : Int)).toNat : Int) = _
    rw [BitVec.toNat_and, ofInt32 a ha, ofInt32 b hb, IntKind.wrap_u32]
    omega
end Go.Vx
namespace Go.Proofs.YtflmobffeeocdaaDoor
open Go.ChangeShapes Go.WideShapes Go.ChangeAt Go.RowKit
open Go.Vx

theorem number_any (b : Bool) (w : World) :
    Calls Tryd.prog 46 #[.bool b] w fun e w' => e = .returned (.int .u32 (if b = true then 1 else 0)) ∧ w' = w := by
  cases b
  all_goals
    go_enter Tryd.func46, Tryd.ntmps46
    go_wp2_with fail
    all_goals
      go_ret
      exact ⟨rfl, rfl⟩
theorem length_any (op : Nat) (h : 11 ≤ op) (h2 : op ≤ 18) (w : World) :
    Calls Tryd.prog 45 #[.int .i64 (op : Int)] w fun e w' => e = .returned (.int .u32 (bytesF op : Nat)) ∧ w' = w := by
  have hc : op = 11 ∨ op = 12 ∨ op = 13 ∨ op = 14 ∨ op = 15 ∨ op = 16 ∨ op = 17 ∨ op = 18 := by omega
  rcases hc with rfl | rfl | rfl | rfl | rfl | rfl | rfl | rfl
  all_goals
    go_enter Tryd.func45, Tryd.ntmps45
    go_wp2_with fail
    all_goals
      go_ret
      exact ⟨rfl, rfl⟩
theorem upper_any (v : Int) (w : World) :
    Calls Tryd.prog 32 #[.int .u32 v] w fun e w' => e = .returned (.int .u32 (m32 (v * 4096) : Nat)) ∧ w' = w := by
  have h1 : IntKind.u32.wrap (v * 4096) = (m32 (v * 4096) : Nat) := wrap_u32_m _
  go_enter Tryd.func32, Tryd.ntmps32
  go_wp2_with fail
  all_goals
    go_ret
    rw [← h1]
    exact ⟨rfl, rfl⟩

theorem goes_5 (a b : Nat) (w : World) :
    Calls Tryd.prog 34 #[.int .i64 5, .int .u32 (a : Int), .int .u32 (b : Int)] w fun e w' => e = .returned (.bool (takesF 5 a b)) ∧ w' = w := by
  have HT : Hid (takesF 5 a b = decide (a = b)) := rfl
  by_cases hq : a = b
  · have HT2 : Hid (takesF 5 a b = true) := by show _ = _; rw [HT.out]; exact decide_eq_true hq
    have HQ := Vx.hid hq
    clear HT hq
    go_enter Tryd.func34, Tryd.ntmps34
    go_wp2_with fail
    all_goals
      go_ret
      rw [HT2.out]
      refine ⟨ret_val (congrArg Value.bool ?_), rfl⟩
      have := HQ.out
      simp; omega
  · have HT2 : Hid (takesF 5 a b = false) := by show _ = _; rw [HT.out]; exact decide_eq_false hq
    have HQ := Vx.hid hq
    clear HT hq
    go_enter Tryd.func34, Tryd.ntmps34
    go_wp2_with fail
    all_goals
      go_ret
      rw [HT2.out]
      refine ⟨ret_val (congrArg Value.bool ?_), rfl⟩
      have := HQ.out
      simp; omega
theorem goes_6 (a b : Nat) (w : World) :
    Calls Tryd.prog 34 #[.int .i64 6, .int .u32 (a : Int), .int .u32 (b : Int)] w fun e w' => e = .returned (.bool (takesF 6 a b)) ∧ w' = w := by
  have HT : Hid (takesF 6 a b = decide (a ≠ b)) := rfl
  by_cases hq : a ≠ b
  · have HT2 : Hid (takesF 6 a b = true) := by show _ = _; rw [HT.out]; exact decide_eq_true hq
    have HQ := Vx.hid hq
    clear HT hq
    go_enter Tryd.func34, Tryd.ntmps34
    go_wp2_with fail
    all_goals
      go_ret
      rw [HT2.out]
      refine ⟨ret_val (congrArg Value.bool ?_), rfl⟩
      have := HQ.out
      simp; omega
  · have HT2 : Hid (takesF 6 a b = false) := by show _ = _; rw [HT.out]; exact decide_eq_false hq
    have HQ := Vx.hid hq
    clear HT hq
    go_enter Tryd.func34, Tryd.ntmps34
    go_wp2_with fail
    all_goals
      go_ret
      rw [HT2.out]
      refine ⟨ret_val (congrArg Value.bool ?_), rfl⟩
      have := HQ.out
      simp; omega
theorem goes_7 (a b : Nat) (ha : a < 4294967296) (hb : b < 4294967296) (w : World) :
    Calls Tryd.prog 34 #[.int .i64 7, .int .u32 (a : Int), .int .u32 (b : Int)] w fun e w' => e = .returned (.bool (takesF 7 a b)) ∧ w' = w := by
  have s1 : IntKind.i32.wrap (a : Int) = sgn a := wrap_i32_s a ha
  have s2 : IntKind.i32.wrap (b : Int) = sgn b := wrap_i32_s b hb
  have HT : Hid (takesF 7 a b = decide (sgn a < sgn b)) := rfl
  generalize sgn a = x at s1 HT
  generalize sgn b = y at s2 HT
  clear ha hb
  go_enter Tryd.func34, Tryd.ntmps34
  go_wp2_with fail
  all_goals
    go_ret
    rw [HT.out]
    exact ⟨rfl, rfl⟩
theorem goes_8 (a b : Nat) (ha : a < 4294967296) (hb : b < 4294967296) (w : World) :
    Calls Tryd.prog 34 #[.int .i64 8, .int .u32 (a : Int), .int .u32 (b : Int)] w fun e w' => e = .returned (.bool (takesF 8 a b)) ∧ w' = w := by
  have s1 : IntKind.i32.wrap (a : Int) = sgn a := wrap_i32_s a ha
  have s2 : IntKind.i32.wrap (b : Int) = sgn b := wrap_i32_s b hb
  have HT : Hid (takesF 8 a b = decide (sgn b ≤ sgn a)) := rfl
  generalize sgn a = x at s1 HT
  generalize sgn b = y at s2 HT
  clear ha hb
  go_enter Tryd.func34, Tryd.ntmps34
  go_wp2_with fail
  all_goals
    go_ret
    rw [HT.out]
    exact ⟨rfl, rfl⟩
theorem goes_9 (a b : Nat) (w : World) :
    Calls Tryd.prog 34 #[.int .i64 9, .int .u32 (a : Int), .int .u32 (b : Int)] w fun e w' => e = .returned (.bool (takesF 9 a b)) ∧ w' = w := by
  have HT : Hid (takesF 9 a b = decide (a < b)) := rfl
  by_cases hq : a < b
  · have HT2 : Hid (takesF 9 a b = true) := by show _ = _; rw [HT.out]; exact decide_eq_true hq
    have HQ := Vx.hid hq
    clear HT hq
    go_enter Tryd.func34, Tryd.ntmps34
    go_wp2_with fail
    all_goals
      go_ret
      rw [HT2.out]
      refine ⟨ret_val (congrArg Value.bool ?_), rfl⟩
      have := HQ.out
      simp; omega
  · have HT2 : Hid (takesF 9 a b = false) := by show _ = _; rw [HT.out]; exact decide_eq_false hq
    have HQ := Vx.hid hq
    clear HT hq
    go_enter Tryd.func34, Tryd.ntmps34
    go_wp2_with fail
    all_goals
      go_ret
      rw [HT2.out]
      refine ⟨ret_val (congrArg Value.bool ?_), rfl⟩
      have := HQ.out
      simp; omega
theorem goes_10 (a b : Nat) (w : World) :
    Calls Tryd.prog 34 #[.int .i64 10, .int .u32 (a : Int), .int .u32 (b : Int)] w fun e w' => e = .returned (.bool (takesF 10 a b)) ∧ w' = w := by
  have HT : Hid (takesF 10 a b = decide (b ≤ a)) := rfl
  by_cases hq : b ≤ a
  · have HT2 : Hid (takesF 10 a b = true) := by show _ = _; rw [HT.out]; exact decide_eq_true hq
    have HQ := Vx.hid hq
    clear HT hq
    go_enter Tryd.func34, Tryd.ntmps34
    go_wp2_with fail
    all_goals
      go_ret
      rw [HT2.out]
      refine ⟨ret_val (congrArg Value.bool ?_), rfl⟩
      have := HQ.out
      simp; omega
  · have HT2 : Hid (takesF 10 a b = false) := by show _ = _; rw [HT.out]; exact decide_eq_false hq
    have HQ := Vx.hid hq
    clear HT hq
    go_enter Tryd.func34, Tryd.ntmps34
    go_wp2_with fail
    all_goals
      go_ret
      rw [HT2.out]
      refine ⟨ret_val (congrArg Value.bool ?_), rfl⟩
      have := HQ.out
      simp; omega
theorem goes_any (op a b : Nat) (h : 5 ≤ op) (h2 : op ≤ 10) (ha : a < 4294967296) (hb : b < 4294967296) (w : World) :
    Calls Tryd.prog 34 #[.int .i64 (op : Int), .int .u32 (a : Int), .int .u32 (b : Int)] w fun e w' => e = .returned (.bool (takesF op a b)) ∧ w' = w := by
  have hc : op = 5 ∨ op = 6 ∨ op = 7 ∨ op = 8 ∨ op = 9 ∨ op = 10 := by omega
  rcases hc with rfl | rfl | rfl | rfl | rfl | rfl
  · exact goes_5 a b w
  · exact goes_6 a b w
  · exact goes_7 a b ha hb w
  · exact goes_8 a b ha hb w
  · exact goes_9 a b w
  · exact goes_10 a b w
end Go.Proofs.YtflmobffeeocdaaDoor

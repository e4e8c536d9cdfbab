import Derived.Test.YtflmobffeeocdaaGreatDoorCh1
/- Chapter 6's numbers: pure. -/
namespace Go.Vx
/-- A number of 32 bits as one with a sign. -/
def sgn (a : Nat) : Int := if 2147483648 ≤ a then (a : Int) - 4294967296 else (a : Int)
/-- Modulo 2 to the power 32. -/
def m32 (v : Int) : Nat := (v % 4294967296).toNat
theorem m32_lt (v : Int) : m32 v < 4294967296 := by unfold m32; omega
theorem m32_cast (v : Int) : ((m32 v : Nat) : Int) = v % 4294967296 := by unfold m32; omega
theorem tmod32 (v : Int) : (0 ≤ v ∧ Int.tmod v 4294967296 = v % 4294967296) ∨ (v < 0 ∧ Int.tmod v 4294967296 = -((-v) % 4294967296)) := by
  by_cases hv : 0 ≤ v
  · exact Or.inl ⟨hv, Int.tmod_eq_emod_of_nonneg hv⟩
  · refine Or.inr ⟨by omega, ?_⟩
    rw [← Int.tmod_eq_emod_of_nonneg (by omega), Int.neg_tmod, Int.neg_neg]
def takesF (op a b : Nat) : Bool := if op = 5 then decide (a = b) else if op = 6 then decide (a ≠ b) else if op = 7 then decide (sgn a < sgn b) else if op = 8 then decide (sgn b ≤ sgn a) else if op = 9 then decide (a < b) else decide (b ≤ a)
def bytesF (op : Nat) : Nat := if op = 13 ∨ op = 18 then 4 else if op = 12 ∨ op = 15 ∨ op = 17 then 2 else 1
def sumsF (op a b : Nat) : Nat :=
  if op = 28 then m32 ((a : Int) + b) else if op = 29 then m32 ((a : Int) - b) else if op = 30 then m32 ((a : Int) * 2 ^ (b % 32)) else if op = 31 then (if sgn a < sgn b then 1 else 0) else if op = 32 then (if a < b then 1 else 0)
  else if op = 33 then a ^^^ b else if op = 34 then a / 2 ^ (b % 32) else if op = 35 then m32 (sgn a / 2 ^ (b % 32)) else if op = 36 then a ||| b else a &&& b
theorem wrap_small (n : Int) (h0 : 0 ≤ n) (h1 : n < 2 ^ 32) : IntKind.i64.wrap n = n := by
  rw [IntKind.wrap_i64]; omega
theorem ofInt64 (a : Nat) (h : a < 4294967296) : (BitVec.ofInt 64 (a : Int)).toNat = a := by
  rw [BitVec.toNat_ofInt]; omega
theorem i64_nats (a b : Nat) (ha : a < 4294967296) (hb : b < 4294967296) : bits .xor .i64 (a : Int) (b : Int) = ((a ^^^ b : Nat) : Int) ∧ bits .or .i64 (a : Int) (b : Int) = ((a ||| b : Nat) : Int) ∧ bits .and .i64 (a : Int) (b : Int) = ((a &&& b : Nat) : Int) := by
  have h := bits_nat .i64 32 (by decide) wrap_small a b ha hb
  refine ⟨?_, h.2, h.1⟩
  have hx : a ^^^ b < 2 ^ 32 := Nat.xor_lt_two_pow (by omega) (by omega)
  show IntKind.i64.wrap ((BitVec.ofInt 64 (a : Int) ^^^ BitVec.ofInt 64 (b : Int)).toNat : Int) = _
  rw [BitVec.toNat_xor, ofInt64 a ha, ofInt64 b hb, IntKind.wrap_i64]
  omega
/-- The upper half of a product. -/
def highF (a b : Int) : Nat := m32 (a * b / 4294967296)
theorem mul_bound {A c X Y : Int} (h0 : -X ≤ A) (h1 : A ≤ X) (c0 : 0 ≤ c) (c1 : c ≤ Y) (hX : 0 ≤ X) : -(X * Y) ≤ A * c ∧ A * c ≤ X * Y := by
  have u1 : A * c ≤ X * c := Int.mul_le_mul_of_nonneg_right h1 c0
  have u2 : X * c ≤ X * Y := Int.mul_le_mul_of_nonneg_left c1 hX
  have u3 : -X * c ≤ A * c := Int.mul_le_mul_of_nonneg_right h0 c0
  have u4 : -X * c = -(X * c) := Int.neg_mul X c
  omega
theorem high_eq (A B : Int) : (A * (B / 65536) + A * (B % 65536) / 65536) / 65536 = A * B / 4294967296 := by
  have h : A * B = 65536 * (A * (B / 65536)) + A * (B % 65536) := by
    have e : B = 65536 * (B / 65536) + B % 65536 := by omega
    have : A * (65536 * (B / 65536) + B % 65536) = 65536 * (A * (B / 65536)) + A * (B % 65536) := by
      rw [Int.mul_add, Int.mul_left_comm]
    rw [← this, ← e]
  rw [h]
  generalize A * (B / 65536) = P
  generalize A * (B % 65536) = Q
  omega
def prodF (op a b : Nat) : Nat :=
  if op = 41 then m32 ((a : Int) * b) else if op = 42 then highF (sgn a) (sgn b) else if op = 43 then highF (sgn a) b else if op = 44 then highF a b
  else if b = 0 then (if op ≤ 46 then 4294967295 else a) else if op = 45 then m32 (Int.tdiv (sgn a) (sgn b)) else if op = 46 then a / b else if op = 47 then m32 (Int.tmod (sgn a) (sgn b)) else a % b
theorem sgn_bounds (a : Nat) (h : a < 4294967296) : -2147483648 ≤ sgn a ∧ sgn a < 2147483648 := by
  unfold sgn
  split <;> omega
theorem sgn_zero (a : Nat) (h : a < 4294967296) (h0 : a ≠ 0) : sgn a ≠ 0 := by
  unfold sgn
  split <;> omega
theorem low_eq (a b : Nat) : m32 (((m32 ((a : Int) * ((b / 65536 : Nat) : Int)) % 65536 : Nat) : Int) * 65536 + (a : Int) * ((b % 65536 : Nat) : Int)) = m32 ((a : Int) * b) := by
  have h : (a : Int) * b = 65536 * ((a : Int) * ((b / 65536 : Nat) : Int)) + (a : Int) * ((b % 65536 : Nat) : Int) := by
    have e : (b : Int) = 65536 * ((b / 65536 : Nat) : Int) + ((b % 65536 : Nat) : Int) := by omega
    have : (a : Int) * (65536 * ((b / 65536 : Nat) : Int) + ((b % 65536 : Nat) : Int)) = 65536 * ((a : Int) * ((b / 65536 : Nat) : Int)) + (a : Int) * ((b % 65536 : Nat) : Int) := by
      rw [Int.mul_add, Int.mul_left_comm]
    rw [← this, ← e]
  rw [h]
  generalize (a : Int) * ((b / 65536 : Nat) : Int) = P
  generalize (a : Int) * ((b % 65536 : Nat) : Int) = Q
  unfold m32
  omega
theorem tdiv_bound (x y : Int) (h0 : -2147483648 ≤ x) (h1 : x < 2147483648) : -2147483648 ≤ Int.tdiv x y ∧ Int.tdiv x y ≤ 2147483648 := by
  have h := Int.natAbs_tdiv_le_natAbs x y
  omega
end Go.Vx

import Derived.WalkKit
import Derived.Laws.BitsAllLaws
import Derived.Laws.BitsLemmas
/- Plain facts on bits: masks and joins as sums of fields. -/
namespace Go.Vx
open Go.RowKit (wrap32 wrap64)

theorem nat_and_cons (i x m1 m2 : Nat) (h : m2 < 2 ^ i) : x &&& (m1 * 2 ^ i + m2) = ((x / 2 ^ i) &&& m1) * 2 ^ i + (x % 2 ^ i &&& m2) := by
  apply Nat.eq_of_testBit_eq
  intro j
  have h2 : x % 2 ^ i &&& m2 < 2 ^ i := Nat.lt_of_le_of_lt Nat.and_le_right h
  rw [Nat.testBit_and, Nat.mul_comm m1, Nat.testBit_two_pow_mul_add m1 h, Nat.mul_comm _ (2 ^ i), Nat.testBit_two_pow_mul_add _ h2]
  by_cases hj : j < i
  · simp [hj, Nat.testBit_and, Nat.testBit_mod_two_pow]
  · simp [hj, Nat.testBit_and, Nat.testBit_div_two_pow]
    congr 2
    omega

theorem nat_or_cons (i a b c d : Nat) (hb : b < 2 ^ i) (hd : d < 2 ^ i) : (a * 2 ^ i + b) ||| (c * 2 ^ i + d) = (a ||| c) * 2 ^ i + (b ||| d) := by
  apply Nat.eq_of_testBit_eq
  intro j
  have h2 : b ||| d < 2 ^ i := Nat.or_lt_two_pow hb hd
  rw [Nat.testBit_or, Nat.mul_comm a, Nat.testBit_two_pow_mul_add a hb, Nat.mul_comm c, Nat.testBit_two_pow_mul_add c hd, Nat.mul_comm _ (2 ^ i), Nat.testBit_two_pow_mul_add _ h2]
  by_cases hj : j < i <;> simp [hj, Nat.testBit_or]

theorem nat_mask (n x : Nat) : x &&& (2 ^ n - 1) = x % 2 ^ n := Nat.and_two_pow_sub_one_eq_mod x n

theorem nat_field (a n x : Nat) : x &&& ((2 ^ n - 1) * 2 ^ a) = x / 2 ^ a % 2 ^ n * 2 ^ a := by
  have := nat_and_cons a x (2 ^ n - 1) 0 (Nat.two_pow_pos a)
  simp only [Nat.add_zero, Nat.and_zero] at this
  rw [this, nat_mask]

/-- A mask of one run of ones, in a word of 32 bits. -/
theorem u32_field (a n : Nat) (A N x m : Int) (h0 : 0 ≤ x) (h1 : x < 4294967296) (hA : A = ((2 ^ a : Nat) : Int)) (hN : N = ((2 ^ n : Nat) : Int)) (hm : m = (((2 ^ n - 1) * 2 ^ a : Nat) : Int)) (hm2 : (2 ^ n - 1) * 2 ^ a < 4294967296) :
    bits .and .u32 x m = x / A % N * A := by
  subst hm hA hN
  rw [u32_and x _ h0 h1 (Int.natCast_nonneg _) (by omega), Int.toNat_natCast, nat_field]
  obtain ⟨n, rfl⟩ := Int.eq_ofNat_of_zero_le h0
  rw [Int.toNat_natCast]
  simp only [Int.natCast_mul, Int.natCast_emod, Int.natCast_ediv]

/-- What lies above a bit, joined with what lies below it. -/
theorem u32_join (i : Nat) (I x y : Int) (hI : I = ((2 ^ i : Nat) : Int)) (hi : 2 ^ i ≤ 4294967296) (h : 0 ≤ x ∧ x < 4294967296 ∧ x % I = 0 ∧ 0 ≤ y ∧ y < I) :
    bits .or .u32 x y = x + y := by
  subst hI
  obtain ⟨h0, h1, hx, hy, hy1⟩ := h
  rw [u32_or x y h0 h1 hy (by omega)]
  obtain ⟨n, rfl⟩ := Int.eq_ofNat_of_zero_le h0
  obtain ⟨k, rfl⟩ := Int.eq_ofNat_of_zero_le hy
  simp only [Int.toNat_natCast]
  rw [nat_join i n k (by omega) (by omega)]
  omega

theorem u32_join3 (i j : Nat) (I J x y z : Int) (hI : I = ((2 ^ i : Nat) : Int)) (hJ : J = ((2 ^ j : Nat) : Int)) (hi : 2 ^ i ≤ 4294967296) (hj : 2 ^ j ≤ 4294967296)
    (h : 0 ≤ x ∧ x < 4294967296 ∧ x % I = 0 ∧ 0 ≤ y ∧ y < I) (h2 : 0 ≤ x + y ∧ x + y < 4294967296 ∧ (x + y) % J = 0 ∧ 0 ≤ z ∧ z < J) :
    bits .or .u32 (bits .or .u32 x y) z = x + y + z := by
  rw [u32_join i I x y hI hi h, u32_join j J (x + y) z hJ hj h2]
theorem u32_join4 (i j k : Nat) (I J K x y z u : Int) (hI : I = ((2 ^ i : Nat) : Int)) (hJ : J = ((2 ^ j : Nat) : Int)) (hK : K = ((2 ^ k : Nat) : Int)) (hi : 2 ^ i ≤ 4294967296) (hj : 2 ^ j ≤ 4294967296) (hk : 2 ^ k ≤ 4294967296)
    (h : 0 ≤ x ∧ x < 4294967296 ∧ x % I = 0 ∧ 0 ≤ y ∧ y < I) (h2 : 0 ≤ x + y ∧ x + y < 4294967296 ∧ (x + y) % J = 0 ∧ 0 ≤ z ∧ z < J)
    (h3 : 0 ≤ x + y + z ∧ x + y + z < 4294967296 ∧ (x + y + z) % K = 0 ∧ 0 ≤ u ∧ u < K) :
    bits .or .u32 (bits .or .u32 (bits .or .u32 x y) z) u = x + y + z + u := by
  rw [u32_join3 i j I J x y z hI hJ hi hj h h2, u32_join k K (x + y + z) u hK hk h3]

/-- The same with a sign above. -/
theorem i32_join (i : Nat) (I x y : Int) (hI : I = ((2 ^ i : Nat) : Int)) (hi : i ≤ 31) (h : -2147483648 ≤ x ∧ x < 2147483648 ∧ x % I = 0 ∧ 0 ≤ y ∧ y < I) :
    bits .or .i32 x y = x + y := by
  subst hI
  obtain ⟨h0, h1, hx, hy, hy1⟩ := h
  have hp : (2 : Nat) ^ i * 2 ^ (32 - i) = 4294967296 := by rw [← Nat.pow_add, show i + (32 - i) = 32 by omega]
  have hle : (2 : Nat) ^ i ≤ 2147483648 := Nat.pow_le_pow_right (n := 2) (by omega) hi
  obtain ⟨k, rfl⟩ := Int.eq_ofNat_of_zero_le hy
  have hb : BitVec.ofInt 32 (k : Int) = BitVec.ofNat 32 k := by simp
  obtain ⟨m, hm⟩ := Int.eq_ofNat_of_zero_le (show 0 ≤ x % 4294967296 by omega)
  have hm2 : m < 4294967296 := by omega
  have ha : (BitVec.ofInt 32 x).toNat = m := by
    simp only [BitVec.toNat_ofInt]
    have : x % ((2 ^ 32 : Nat) : Int) = (m : Int) := by rw [← hm]; rfl
    rw [this, Int.toNat_natCast]
  have hmi : m % 2 ^ i = 0 := by
    have e1 : ((m : Nat) : Int) % (2 ^ i : Nat) = 0 := by
      rw [← hm]
      have hd : ((2 ^ i : Nat) : Int) ∣ (4294967296 : Int) := by
        refine ⟨((2 ^ (32 - i) : Nat) : Int), ?_⟩
        rw [← Int.natCast_mul, hp]; rfl
      rw [Int.emod_emod_of_dvd _ hd]; exact hx
    omega
  have hk : k < 2 ^ i := by omega
  have hxk : x + k < 2147483648 := by
    have hd1 : ((2 ^ i : Nat) : Int) ∣ x := Int.dvd_of_emod_eq_zero hx
    have hd2 : ((2 ^ i : Nat) : Int) ∣ (2147483648 : Int) := by
      refine ⟨((2 ^ (31 - i) : Nat) : Int), ?_⟩
      rw [← Int.natCast_mul, ← Nat.pow_add, show i + (31 - i) = 31 by omega]; rfl
    have := Int.le_of_dvd (show (0 : Int) < 2147483648 - x by omega) (Int.dvd_sub hd2 hd1)
    omega
  show IntKind.i32.wrap ((BitVec.ofInt 32 x ||| BitVec.ofInt 32 (k : Int)).toNat : Int) = x + k
  rw [BitVec.toNat_or, ha, hb, BitVec.toNat_ofNat, Nat.mod_eq_of_lt (show k < 2 ^ 32 by omega), nat_join i m k hmi hk, IntKind.wrap_i32]
  omega
end Go.Vx

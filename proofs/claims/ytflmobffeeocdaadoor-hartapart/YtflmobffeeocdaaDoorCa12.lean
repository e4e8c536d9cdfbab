import Derived.Test.YtflmobffeeocdaaDoorCa1
/- Plain mathematics of chapter 1: kinds, forms, immediates. -/
namespace Go.Vx
open Go.RowKit (wrap32 wrap64)
set_option linter.unusedVariables false

structure Ins where
  op : Int
  rd : Int
  rs1 : Int
  rs2 : Int
  imm : Int

def kinds : List Nat := [0, 1, 1, 2, 3, 6, 6, 6, 6, 6, 6, 3, 3, 3, 3, 3, 7, 7, 7, 3, 3, 3, 3, 3, 3, 4, 4, 4, 5, 5, 5, 5, 5, 5, 5, 5, 5, 5, 3, 0, 0, 5, 5, 5, 5, 5, 5, 5, 5]
def forms : List Nat := [0, 55, 23, 111, 103, 99, 4195, 16483, 20579, 24675, 28771, 3, 4099, 8195, 16387, 20483, 35, 4131, 8227, 19, 8211, 12307, 16403, 24595, 28691, 4115, 20499, 1073762323, 51, 1073741875, 4147, 8243, 12339, 16435, 20531, 1073762355, 24627, 28723, 15, 115, 1048691, 33554483, 33558579, 33562675, 33566771, 33570867, 33574963, 33579059, 33583155]
def kindOf (op : Int) : Nat := kinds.getD op.toNat 0
def formOf (op : Int) : Nat := forms.getD op.toNat 0
def regMask (k : Nat) : Nat := [0, 3968, 3968, 1019776, 1019776, 33525632, 33521664, 33521664].getD k 0
def looseMask (k : Nat) : Nat := [0, 4294967168, 4294967168, 4294938496, 33525632, 33525632, 4294938496, 4294938496].getD k 0
def fixMask (k : Nat) : Nat := 4294967295 - looseMask k

def gatherOf (k : Nat) (x : Int) : Int :=
  match k with
  | 1 => x / 4096 - x / 2147483648 * 1048576
  | 2 => x / 4096 % 256 * 4096 + x / 1048576 % 2 * 2048 + x / 2097152 % 1024 * 2 - x / 2147483648 * 1048576
  | 3 => x / 1048576 - x / 2147483648 * 4096
  | 4 => x / 1048576 % 32
  | 6 => x / 128 % 2 * 2048 + x / 33554432 % 64 * 32 + x / 256 % 16 * 2 - x / 2147483648 * 4096
  | 7 => x / 33554432 * 32 + x / 128 % 32 - x / 2147483648 * 4096
  | _ => 0

def spreadOf (k : Nat) (x : Int) : Int :=
  match k with
  | 1 => x % 1048576 * 4096
  | 2 => x / 1048576 % 2 * 2147483648 + x / 2 % 1024 * 2097152 + x / 2048 % 2 * 1048576 + x / 4096 % 256 * 4096
  | 3 => x % 4096 * 1048576
  | 4 => x % 32 * 1048576
  | 6 => x / 4096 % 2 * 2147483648 + x / 32 % 64 * 33554432 + x / 2 % 16 * 256 + x / 2048 % 2 * 128
  | 7 => x / 32 % 128 * 33554432 + x % 32 * 128
  | _ => 0

theorem spread_1 (x : Int) (h0 : 0 ≤ x) (h1 : x < 4294967296) : x * 4096 % 4294967296 = spreadOf 1 x := by
  simp only [spreadOf]; omega
theorem spread_3 (x : Int) (h0 : 0 ≤ x) (h1 : x < 4294967296) : x * 1048576 % 4294967296 = spreadOf 3 x := by
  simp only [spreadOf]; omega
theorem spread_2 (x : Int) (h0 : 0 ≤ x) (h1 : x < 4294967296) :
    bits .or .u32 (bits .or .u32 (bits .or .u32 (bits .and .u32 (x * 2048 % 4294967296) 2147483648) (bits .and .u32 (x * 1048576 % 4294967296) 2145386496)) (bits .and .u32 (x * 512 % 4294967296) 1048576)) (bits .and .u32 x 1044480) = spreadOf 2 x := by
  rw [u32_field 31 1 2147483648 2 (x * 2048 % 4294967296) 2147483648 (by omega) (by omega) rfl rfl rfl (by decide), u32_field 21 10 2097152 1024 (x * 1048576 % 4294967296) 2145386496 (by omega) (by omega) rfl rfl rfl (by decide),
    u32_field 20 1 1048576 2 (x * 512 % 4294967296) 1048576 (by omega) (by omega) rfl rfl rfl (by decide), u32_field 12 8 4096 256 (x) 1044480 (by omega) (by omega) rfl rfl rfl (by decide),
    u32_join4 31 21 20 2147483648 2097152 1048576 _ _ _ _ rfl rfl rfl (by decide) (by decide) (by decide) (by omega) (by omega) (by omega)]
  simp only [spreadOf]
  omega
theorem spread_4 (x : Int) (h0 : 0 ≤ x) (h1 : x < 4294967296) : bits .and .u32 (x * 1048576 % 4294967296) 32505856 = spreadOf 4 x := by
  rw [u32_field 20 5 1048576 32 (x * 1048576 % 4294967296) 32505856 (by omega) (by omega) rfl rfl rfl (by decide)]
  simp only [spreadOf]
  omega
theorem spread_6 (x : Int) (h0 : 0 ≤ x) (h1 : x < 4294967296) :
    bits .or .u32 (bits .or .u32 (bits .or .u32 (bits .and .u32 (x * 524288 % 4294967296) 2147483648) (bits .and .u32 (x * 1048576 % 4294967296) 2113929216)) (bits .and .u32 (x * 128 % 4294967296) 3840)) (bits .and .u32 (x / 16) 128) = spreadOf 6 x := by
  rw [u32_field 31 1 2147483648 2 (x * 524288 % 4294967296) 2147483648 (by omega) (by omega) rfl rfl rfl (by decide), u32_field 25 6 33554432 64 (x * 1048576 % 4294967296) 2113929216 (by omega) (by omega) rfl rfl rfl (by decide),
    u32_field 8 4 256 16 (x * 128 % 4294967296) 3840 (by omega) (by omega) rfl rfl rfl (by decide), u32_field 7 1 128 2 (x / 16) 128 (by omega) (by omega) rfl rfl rfl (by decide),
    u32_join4 31 25 8 2147483648 33554432 256 _ _ _ _ rfl rfl rfl (by decide) (by decide) (by decide) (by omega) (by omega) (by omega)]
  simp only [spreadOf]
  omega
theorem spread_7 (x : Int) (h0 : 0 ≤ x) (h1 : x < 4294967296) :
    bits .or .u32 (bits .and .u32 (x * 1048576 % 4294967296) 4261412864) (bits .and .u32 (x * 128 % 4294967296) 3968) = spreadOf 7 x := by
  rw [u32_field 25 7 33554432 128 (x * 1048576 % 4294967296) 4261412864 (by omega) (by omega) rfl rfl rfl (by decide), u32_field 7 5 128 32 (x * 128 % 4294967296) 3968 (by omega) (by omega) rfl rfl rfl (by decide), u32_join 25 33554432 _ _ rfl (by decide) (by omega)]
  simp only [spreadOf]
  omega

theorem gather_1 (x : Int) (h0 : 0 ≤ x) (h1 : x < 4294967296) : wrap64 (wrap32 x / 4096) = gatherOf 1 x := by
  simp only [wrap64, wrap32, gatherOf]; omega
theorem gather_3 (x : Int) (h0 : 0 ≤ x) (h1 : x < 4294967296) : wrap64 (wrap32 x / 1048576) = gatherOf 3 x := by
  simp only [wrap64, wrap32, gatherOf]; omega
theorem gather_4 (x : Int) (h0 : 0 ≤ x) (h1 : x < 4294967296) : wrap64 (bits .and .u32 (x / 1048576) 31) = gatherOf 4 x := by
  rw [u32_field 0 5 1 32 (x / 1048576) 31 (by omega) (by omega) rfl rfl rfl (by decide)]
  simp only [wrap64, gatherOf]; omega
theorem wrap64_small (x : Int) (h0 : -9223372036854775808 ≤ x) (h1 : x < 9223372036854775808) : wrap64 x = x := by simp only [wrap64]; omega
theorem wrap32_small (x : Int) (h0 : 0 ≤ x) (h1 : x < 2147483648) : wrap32 x = x := by simp only [wrap32]; omega
theorem wrap32_sign (x : Int) (h0 : 0 ≤ x) (h1 : x < 4294967296) : wrap32 (wrap32 x / 2147483648 * 1048576) = -(x / 2147483648 * 1048576) := by simp only [wrap32]; omega
theorem wrap32_sign2 (x : Int) (h0 : 0 ≤ x) (h1 : x < 4294967296) : wrap32 (wrap32 x / 2147483648 * 4096) = -(x / 2147483648 * 4096) := by simp only [wrap32]; omega
theorem wrap32_sign3 (x : Int) (h0 : 0 ≤ x) (h1 : x < 4294967296) : wrap32 (wrap32 x / 33554432 * 32) = x / 33554432 * 32 - x / 2147483648 * 4096 := by simp only [wrap32]; omega
theorem gather_2 (x : Int) (h0 : 0 ≤ x) (h1 : x < 4294967296) :
    wrap64 (bits .or .i32 (wrap32 (wrap32 x / 2147483648 * 1048576)) (wrap32 (bits .or .u32 (bits .or .u32 (bits .and .u32 x 1044480) (bits .and .u32 (x / 512) 2048)) (bits .and .u32 (x / 1048576) 2046)))) = gatherOf 2 x := by
  rw [wrap32_sign x h0 h1, u32_field 12 8 4096 256 (x) 1044480 (by omega) (by omega) rfl rfl rfl (by decide), u32_field 11 1 2048 2 (x / 512) 2048 (by omega) (by omega) rfl rfl rfl (by decide), u32_field 1 10 2 1024 (x / 1048576) 2046 (by omega) (by omega) rfl rfl rfl (by decide),
    u32_join3 12 11 4096 2048 _ _ _ rfl rfl (by decide) (by decide) (by omega) (by omega), wrap32_small _ (by omega) (by omega), i32_join 20 1048576 _ _ rfl (by decide) (by omega)]
  have e1 : x / 512 / 2048 = x / 1048576 := by omega
  have e2 : x / 1048576 / 2 = x / 2097152 := by omega
  rw [e1, e2, wrap64_small _ (by omega) (by omega)]
  simp only [gatherOf]; omega
theorem gather_6 (x : Int) (h0 : 0 ≤ x) (h1 : x < 4294967296) :
    wrap64 (bits .or .i32 (wrap32 (wrap32 x / 2147483648 * 4096)) (wrap32 (bits .or .u32 (bits .or .u32 (bits .and .u32 (x * 16 % 4294967296) 2048) (bits .and .u32 (x / 1048576) 2016)) (bits .and .u32 (x / 128) 30)))) = gatherOf 6 x := by
  rw [wrap32_sign2 x h0 h1, u32_field 11 1 2048 2 (x * 16 % 4294967296) 2048 (by omega) (by omega) rfl rfl rfl (by decide), u32_field 5 6 32 64 (x / 1048576) 2016 (by omega) (by omega) rfl rfl rfl (by decide), u32_field 1 4 2 16 (x / 128) 30 (by omega) (by omega) rfl rfl rfl (by decide),
    u32_join3 11 5 2048 32 _ _ _ rfl rfl (by decide) (by decide) (by omega) (by omega), wrap32_small _ (by omega) (by omega), i32_join 12 4096 _ _ rfl (by decide) (by omega)]
  have e1 : x * 16 % 4294967296 / 2048 % 2 = x / 128 % 2 := by omega
  have e2 : x / 1048576 / 32 = x / 33554432 := by omega
  have e3 : x / 128 / 2 = x / 256 := by omega
  rw [e1, e2, e3, wrap64_small _ (by omega) (by omega)]
  simp only [gatherOf]; omega
theorem gather_7 (x : Int) (h0 : 0 ≤ x) (h1 : x < 4294967296) :
    wrap64 (bits .or .i32 (wrap32 (wrap32 x / 33554432 * 32)) (wrap32 (bits .and .u32 (x / 128) 31))) = gatherOf 7 x := by
  rw [wrap32_sign3 x h0 h1, u32_field 0 5 1 32 (x / 128) 31 (by omega) (by omega) rfl rfl rfl (by decide), wrap32_small _ (by omega) (by omega), i32_join 5 32 _ _ rfl (by decide) (by omega)]
  simp only [wrap64, gatherOf]; omega

def rdF (k : Nat) (x : Int) : Int := if 1 ≤ k ∧ k ≤ 5 then x / 128 % 32 else 0
def rs1F (k : Nat) (x : Int) : Int := if 3 ≤ k then x / 32768 % 32 else 0
def rs2F (k : Nat) (x : Int) : Int := if 5 ≤ k then x / 1048576 % 32 else 0

theorem u32_two (a n : Nat) (x m : Int) (h0 : 0 ≤ x) (h1 : x < 4294967296) (hm : m = (((2 ^ a - 1) * 32768 + 3968 : Nat) : Int)) (hm2 : (2 ^ a - 1) * 32768 + 3968 < 4294967296) (hn : n = 2 ^ a) :
    bits .and .u32 x m = x / 32768 % (n : Int) * 32768 + x / 128 % 32 * 128 := by
  subst hm hn
  rw [u32_and x _ h0 h1 (Int.natCast_nonneg _) (by omega), Int.toNat_natCast]
  have e := nat_and_cons 15 x.toNat (2 ^ a - 1) 3968 (by decide)
  have e2 := nat_field 7 5 (x.toNat % 32768)
  simp only [Nat.reducePow, Nat.reduceSub, Nat.reduceMul] at e e2
  rw [e, nat_mask, e2]
  have hc : ((2 ^ a : Nat) : Int) = ((2 ^ a : Nat) : Int) := rfl
  generalize 2 ^ a = q at *
  obtain ⟨n, rfl⟩ := Int.eq_ofNat_of_zero_le h0
  rw [Int.toNat_natCast]
  have e3 : n % 32768 / 128 % 32 = n / 128 % 32 := by omega
  rw [e3]
  simp only [Int.natCast_add, Int.natCast_mul, Int.natCast_emod, Int.natCast_ediv]
  rfl

theorem regs_and (k : Nat) (hk : k ≤ 7) (x : Int) (h0 : 0 ≤ x) (h1 : x < 4294967296) :
    bits .and .u32 x (regMask k) = (if 5 ≤ k then x / 32768 % 1024 * 32768 else if 3 ≤ k then x / 32768 % 32 * 32768 else 0) + (if 1 ≤ k ∧ k ≤ 5 then x / 128 % 32 * 128 else 0) := by
  have hk' : k = 0 ∨ k = 1 ∨ k = 2 ∨ k = 3 ∨ k = 4 ∨ k = 5 ∨ k = 6 ∨ k = 7 := by omega
  rcases hk' with rfl | rfl | rfl | rfl | rfl | rfl | rfl | rfl
  · have e := u32_field 0 0 1 1 x 0 h0 h1 rfl rfl rfl (by decide)
    have r : ((regMask 0 : Nat) : Int) = 0 := rfl
    rw [r, e]; simp
  · have e := u32_field 7 5 128 32 x 3968 h0 h1 rfl rfl rfl (by decide)
    have r : ((regMask 1 : Nat) : Int) = 3968 := rfl
    rw [r, e]; simp
  · have e := u32_field 7 5 128 32 x 3968 h0 h1 rfl rfl rfl (by decide)
    have r : ((regMask 2 : Nat) : Int) = 3968 := rfl
    rw [r, e]; simp
  · have e := u32_two 5 32 x 1019776 h0 h1 rfl (by decide) rfl
    have r : ((regMask 3 : Nat) : Int) = 1019776 := rfl
    rw [r, e]; simp
  · have e := u32_two 5 32 x 1019776 h0 h1 rfl (by decide) rfl
    have r : ((regMask 4 : Nat) : Int) = 1019776 := rfl
    rw [r, e]; simp
  · have e := u32_two 10 1024 x 33525632 h0 h1 rfl (by decide) rfl
    have r : ((regMask 5 : Nat) : Int) = 33525632 := rfl
    rw [r, e]; simp
  · have e := u32_field 15 10 32768 1024 x 33521664 h0 h1 rfl rfl rfl (by decide)
    have r : ((regMask 6 : Nat) : Int) = 33521664 := rfl
    rw [r, e]; simp
  · have e := u32_field 15 10 32768 1024 x 33521664 h0 h1 rfl rfl rfl (by decide)
    have r : ((regMask 7 : Nat) : Int) = 33521664 := rfl
    rw [r, e]; simp

theorem rd_num (k : Nat) (hk : k ≤ 7) (x : Int) (h0 : 0 ≤ x) (h1 : x < 4294967296) : wrap64 (bits .and .u32 (bits .and .u32 x (regMask k) / 128) 31) = rdF k x := by
  rw [regs_and k hk x h0 h1, u32_field 0 5 1 32 _ 31 (by split <;> split <;> (try split) <;> omega) (by split <;> split <;> (try split) <;> omega) rfl rfl rfl (by decide), wrap64_small _ (by omega) (by omega)]
  simp only [rdF]
  split <;> split <;> (try split) <;> omega
theorem rs1_num (k : Nat) (hk : k ≤ 7) (x : Int) (h0 : 0 ≤ x) (h1 : x < 4294967296) : wrap64 (bits .and .u32 (bits .and .u32 x (regMask k) / 32768) 31) = rs1F k x := by
  rw [regs_and k hk x h0 h1, u32_field 0 5 1 32 _ 31 (by split <;> split <;> (try split) <;> omega) (by split <;> split <;> (try split) <;> omega) rfl rfl rfl (by decide), wrap64_small _ (by omega) (by omega)]
  simp only [rs1F]
  split <;> split <;> (try split) <;> omega
theorem rs2_num (k : Nat) (hk : k ≤ 7) (x : Int) (h0 : 0 ≤ x) (h1 : x < 4294967296) : wrap64 (bits .and .u32 (bits .and .u32 x (regMask k) / 1048576) 31) = rs2F k x := by
  rw [regs_and k hk x h0 h1, u32_field 0 5 1 32 _ 31 (by split <;> split <;> (try split) <;> omega) (by split <;> split <;> (try split) <;> omega) rfl rfl rfl (by decide), wrap64_small _ (by omega) (by omega)]
  simp only [rs2F]
  split <;> split <;> (try split) <;> omega

def ins (op x : Int) : Ins := ⟨op, rdF (kindOf op) x, rs1F (kindOf op) x, rs2F (kindOf op) x, gatherOf (kindOf op) x⟩
def zeroIns : Ins := ⟨0, 0, 0, 0, 0⟩
def insV (i : Ins) : Value := .agg #[.int .i64 i.op, .int .i64 i.rd, .int .i64 i.rs1, .int .i64 i.rs2, .int .i64 i.imm]
def fits (op x : Int) : Bool := (x.toNat &&& fixMask (kindOf op)) == formOf op

/-- The first of the Ops from 'from' on, 'n' of them, whose form fits. -/
def findFrom : Nat → Int → Int → Ins
  | 0, _, _ => zeroIns
  | n + 1, op, x => if fits op x then ins op x else findFrom n (op + 1) x
def dec (x : Int) : Ins := findFrom 48 1 x

theorem kindOf_le (op : Int) : kindOf op ≤ 7 := by
  have h : ∀ n : Nat, kinds.getD n 0 ≤ 7 := by
    intro n
    by_cases hn : n < 49
    · have : ∀ m : Fin 49, kinds.getD m.val 0 ≤ 7 := by decide
      exact this ⟨n, hn⟩
    · have : kinds.getD n 0 = 0 := by
        rw [List.getD_eq_getElem?_getD, List.getElem?_eq_none (by simp [kinds]; omega)]; rfl
      omega
  exact h _
theorem formOf_lt (op : Int) : formOf op < 4294967296 := by
  have h : ∀ n : Nat, forms.getD n 0 < 4294967296 := by
    intro n
    by_cases hn : n < 49
    · have : ∀ m : Fin 49, forms.getD m.val 0 < 4294967296 := by decide
      exact this ⟨n, hn⟩
    · have : forms.getD n 0 = 0 := by
        rw [List.getD_eq_getElem?_getD, List.getElem?_eq_none (by simp [forms]; omega)]; rfl
      omega
  exact h _
theorem looseMask_lt (k : Nat) : looseMask k < 4294967296 := by
  unfold looseMask
  by_cases hn : k < 8
  · have : ∀ m : Fin 8, [0, 4294967168, 4294967168, 4294938496, 33525632, 33525632, 4294938496, 4294938496].getD m.val 0 < 4294967296 := by decide
    exact this ⟨k, hn⟩
  · rw [List.getD_eq_getElem?_getD, List.getElem?_eq_none (by simp; omega)]; decide
/-- The test of isa.Decode, as its operations make it. -/
theorem fits_num (op x : Int) (h0 : 0 ≤ x) (h1 : x < 4294967296) : (bits .andNot .u32 x (looseMask (kindOf op)) == (formOf op : Int)) = fits op x := by
  have hl := looseMask_lt (kindOf op)
  rw [u32_andNot x _ h0 h1 (by omega) (by omega), Int.toNat_natCast]
  unfold fits fixMask
  rw [Bool.eq_iff_iff]
  simp only [beq_iff_eq]
  omega
theorem findFrom_hit (n : Nat) (op x : Int) (h : fits op x = true) : findFrom (n + 1) op x = ins op x := by simp [findFrom, h]
theorem findFrom_miss (n : Nat) (op x : Int) (h : fits op x = false) : findFrom (n + 1) op x = findFrom n (op + 1) x := by simp [findFrom, h]
end Go.Vx

import Derived.Test.YtflmobffeeocdaaDoorCa19
/- Plain mathematics of chapter 1: an instruction's word. -/
namespace Go.Vx
set_option linter.unusedVariables false

/-- A word by its six fields, the highest first. -/
def L (hi r2 r1 f3 rd op : Nat) : Nat := ((((hi * 2 ^ 5 + r2) * 2 ^ 5 + r1) * 2 ^ 3 + f3) * 2 ^ 5 + rd) * 2 ^ 7 + op
theorem or_L (hi r2 r1 f3 rd op hi' r2' r1' f3' rd' op' : Nat) (h2 : r2 < 32 ∧ r2' < 32) (h1 : r1 < 32 ∧ r1' < 32) (h3 : f3 < 8 ∧ f3' < 8) (hd : rd < 32 ∧ rd' < 32) (ho : op < 128 ∧ op' < 128) :
    L hi r2 r1 f3 rd op ||| L hi' r2' r1' f3' rd' op' = L (hi ||| hi') (r2 ||| r2') (r1 ||| r1') (f3 ||| f3') (rd ||| rd') (op ||| op') := by
  unfold L
  rw [nat_or_cons 7 _ _ _ _ ho.1 ho.2, nat_or_cons 5 _ _ _ _ hd.1 hd.2, nat_or_cons 3 _ _ _ _ h3.1 h3.2, nat_or_cons 5 _ _ _ _ h1.1 h1.2, nat_or_cons 5 _ _ _ _ h2.1 h2.2]
theorem L_num (hi r2 r1 f3 rd op : Nat) : L hi r2 r1 f3 rd op = hi * 33554432 + r2 * 1048576 + r1 * 32768 + f3 * 4096 + rd * 128 + op := by
  unfold L; omega
theorem or_three (a b c : Nat) (hi r2 r1 f3 rd op hi' r2' r1' f3' rd' op' hi'' r2'' r1'' f3'' rd'' op'' : Nat)
    (ea : a = L hi r2 r1 f3 rd op) (eb : b = L hi' r2' r1' f3' rd' op') (ec : c = L hi'' r2'' r1'' f3'' rd'' op'')
    (h2 : r2 < 32 ∧ r2' < 32 ∧ r2'' < 32) (h1 : r1 < 32 ∧ r1' < 32 ∧ r1'' < 32) (h3 : f3 < 8 ∧ f3' < 8 ∧ f3'' < 8) (hd : rd < 32 ∧ rd' < 32 ∧ rd'' < 32) (ho : op < 128 ∧ op' < 128 ∧ op'' < 128)
    (z0 : (hi = 0 ∧ hi' = 0) ∨ (hi = 0 ∧ hi'' = 0) ∨ (hi' = 0 ∧ hi'' = 0)) (z1 : (r2 = 0 ∧ r2' = 0) ∨ (r2 = 0 ∧ r2'' = 0) ∨ (r2' = 0 ∧ r2'' = 0)) (z2 : (r1 = 0 ∧ r1' = 0) ∨ (r1 = 0 ∧ r1'' = 0) ∨ (r1' = 0 ∧ r1'' = 0))
    (z3 : (f3 = 0 ∧ f3' = 0) ∨ (f3 = 0 ∧ f3'' = 0) ∨ (f3' = 0 ∧ f3'' = 0)) (z4 : (rd = 0 ∧ rd' = 0) ∨ (rd = 0 ∧ rd'' = 0) ∨ (rd' = 0 ∧ rd'' = 0)) (z5 : (op = 0 ∧ op' = 0) ∨ (op = 0 ∧ op'' = 0) ∨ (op' = 0 ∧ op'' = 0)) :
    a ||| b ||| c = a + b + c := by
  have key : ∀ u v w : Nat, (u = 0 ∧ v = 0) ∨ (u = 0 ∧ w = 0) ∨ (v = 0 ∧ w = 0) → u ||| v ||| w = u + v + w := by
    intro u v w h
    rcases h with ⟨rfl, rfl⟩ | ⟨rfl, rfl⟩ | ⟨rfl, rfl⟩ <;> simp
  have lt : ∀ n u v : Nat, u < 2 ^ n → v < 2 ^ n → u ||| v < 2 ^ n := fun n u v hu hv => Nat.or_lt_two_pow hu hv
  rw [ea, eb, ec, or_L _ _ _ _ _ _ _ _ _ _ _ _ ⟨h2.1, h2.2.1⟩ ⟨h1.1, h1.2.1⟩ ⟨h3.1, h3.2.1⟩ ⟨hd.1, hd.2.1⟩ ⟨ho.1, ho.2.1⟩,
    or_L _ _ _ _ _ _ _ _ _ _ _ _ ⟨lt 5 _ _ h2.1 h2.2.1, h2.2.2⟩ ⟨lt 5 _ _ h1.1 h1.2.1, h1.2.2⟩ ⟨lt 3 _ _ h3.1 h3.2.1, h3.2.2⟩ ⟨lt 5 _ _ hd.1 hd.2.1, hd.2.2⟩ ⟨lt 7 _ _ ho.1 ho.2.1, ho.2.2⟩,
    key _ _ _ z0, key _ _ _ z1, key _ _ _ z2, key _ _ _ z3, key _ _ _ z4, key _ _ _ z5]
  simp only [L_num]
  omega

theorem bits_or_comm (k : IntKind) (a b : Int) : bits .or k a b = bits .or k b a := by
  show k.wrap ((BitVec.ofInt k.bits a ||| BitVec.ofInt k.bits b).toNat : Int) = k.wrap ((BitVec.ofInt k.bits b ||| BitVec.ofInt k.bits a).toNat : Int)
  rw [BitVec.or_comm]

theorem regs_or (rd rs1 rs2 : Int) :
    bits .or .u32 (bits .or .u32 (bits .and .u32 (rd % 4294967296) 31 * 128 % 4294967296) (bits .and .u32 (rs1 % 4294967296) 31 * 32768 % 4294967296)) (bits .and .u32 (rs2 % 4294967296) 31 * 1048576 % 4294967296)
      = rd % 32 * 128 + rs1 % 32 * 32768 + rs2 % 32 * 1048576 := by
  rw [u32_field 0 5 1 32 (rd % 4294967296) 31 (by omega) (by omega) rfl rfl rfl (by decide), u32_field 0 5 1 32 (rs1 % 4294967296) 31 (by omega) (by omega) rfl rfl rfl (by decide),
    u32_field 0 5 1 32 (rs2 % 4294967296) 31 (by omega) (by omega) rfl rfl rfl (by decide)]
  have e1 : rd % 4294967296 / 1 % 32 * 1 * 128 % 4294967296 = rd % 32 * 128 := by omega
  have e2 : rs1 % 4294967296 / 1 % 32 * 1 * 32768 % 4294967296 = rs1 % 32 * 32768 := by omega
  have e3 : rs2 % 4294967296 / 1 % 32 * 1 * 1048576 % 4294967296 = rs2 % 32 * 1048576 := by omega
  rw [e1, e2, e3, bits_or_comm .u32 (rd % 32 * 128), u32_join 15 32768 (rs1 % 32 * 32768) (rd % 32 * 128) rfl (by decide) (by omega), bits_or_comm .u32 _ (rs2 % 32 * 1048576), u32_join 20 1048576 _ _ rfl (by decide) (by omega)]
  omega

def regPart (k : Nat) (i : Ins) : Int := (if 1 ≤ k ∧ k ≤ 5 then i.rd % 32 * 128 else 0) + (if 3 ≤ k then i.rs1 % 32 * 32768 else 0) + (if 5 ≤ k then i.rs2 % 32 * 1048576 else 0)
def wordOf (i : Ins) : Int := formOf i.op + regPart (kindOf i.op) i + spreadOf (kindOf i.op) (i.imm % 4294967296)
theorem regs_part (k : Nat) (hk : k ≤ 7) (i : Ins) : bits .and .u32 (i.rd % 32 * 128 + i.rs1 % 32 * 32768 + i.rs2 % 32 * 1048576) (regMask k) = regPart k i := by
  rw [regs_and k hk _ (by omega) (by omega)]
  unfold regPart
  split <;> split <;> (try split) <;> (try split) <;> (try split) <;> omega

theorem or_three_int (a b c : Int) (ha : 0 ≤ a ∧ a < 4294967296) (hb : 0 ≤ b ∧ b < 4294967296) (hc : 0 ≤ c ∧ c < 4294967296)
    (h : a.toNat ||| b.toNat ||| c.toNat = a.toNat + b.toNat + c.toNat) (hs : a + b + c < 4294967296) :
    bits .or .u32 (bits .or .u32 a b) c = a + b + c := by
  rw [u32_or a b ha.1 ha.2 hb.1 hb.2]
  have hlt : a.toNat ||| b.toNat < 4294967296 := Nat.or_lt_two_pow (n := 32) (by omega) (by omega)
  rw [u32_or _ c (by omega) (by omega) hc.1 hc.2, Int.toNat_natCast, h]
  omega

theorem or_L3 (hi r2 r1 f3 rd op hi' r2' r1' f3' rd' op' hi'' r2'' r1'' f3'' rd'' op'' : Nat)
    (h0 : hi + hi' + hi'' < 128) (h2 : r2 < 32 ∧ r2' < 32 ∧ r2'' < 32) (h1 : r1 < 32 ∧ r1' < 32 ∧ r1'' < 32) (h3 : f3 < 8 ∧ f3' < 8 ∧ f3'' < 8) (hd : rd < 32 ∧ rd' < 32 ∧ rd'' < 32) (ho : op < 128 ∧ op' < 128 ∧ op'' < 128)
    (z0 : (hi = 0 ∧ hi' = 0) ∨ (hi = 0 ∧ hi'' = 0) ∨ (hi' = 0 ∧ hi'' = 0)) (z1 : (r2 = 0 ∧ r2' = 0) ∨ (r2 = 0 ∧ r2'' = 0) ∨ (r2' = 0 ∧ r2'' = 0)) (z2 : (r1 = 0 ∧ r1' = 0) ∨ (r1 = 0 ∧ r1'' = 0) ∨ (r1' = 0 ∧ r1'' = 0))
    (z3 : (f3 = 0 ∧ f3' = 0) ∨ (f3 = 0 ∧ f3'' = 0) ∨ (f3' = 0 ∧ f3'' = 0)) (z4 : (rd = 0 ∧ rd' = 0) ∨ (rd = 0 ∧ rd'' = 0) ∨ (rd' = 0 ∧ rd'' = 0)) (z5 : (op = 0 ∧ op' = 0) ∨ (op = 0 ∧ op'' = 0) ∨ (op' = 0 ∧ op'' = 0)) :
    bits .or .u32 (bits .or .u32 (L hi r2 r1 f3 rd op : Nat) (L hi' r2' r1' f3' rd' op' : Nat)) (L hi'' r2'' r1'' f3'' rd'' op'' : Nat) = (L hi r2 r1 f3 rd op : Nat) + (L hi' r2' r1' f3' rd' op' : Nat) + (L hi'' r2'' r1'' f3'' rd'' op'' : Nat) := by
  have key : ∀ u v w m : Nat, (u = 0 ∧ v = 0) ∨ (u = 0 ∧ w = 0) ∨ (v = 0 ∧ w = 0) → u < m ∧ v < m ∧ w < m → u + v + w < m := by
    intro u v w m h hm
    rcases h with ⟨rfl, rfl⟩ | ⟨rfl, rfl⟩ | ⟨rfl, rfl⟩ <;> omega
  have k1 := key _ _ _ 32 z1 h2
  have k2 := key _ _ _ 32 z2 h1
  have k3 := key _ _ _ 8 z3 h3
  have k4 := key _ _ _ 32 z4 hd
  have k5 := key _ _ _ 128 z5 ho
  have hs : L hi r2 r1 f3 rd op + L hi' r2' r1' f3' rd' op' + L hi'' r2'' r1'' f3'' rd'' op'' < 4294967296 := by
    simp only [L_num]; omega
  refine or_three_int _ _ _ (by omega) (by omega) (by omega) ?_ (by omega)
  simp only [Int.toNat_natCast]
  exact or_three _ _ _ _ _ _ _ _ _ _ _ _ _ _ _ _ _ _ _ _ _ rfl rfl rfl h2 h1 h3 hd ho z0 z1 z2 z3 z4 z5

theorem word_or (k f : Nat) (i : Ins) (hk : k ≤ 7) (hf : formOk k f = true) (hf2 : f < 4294967296) :
    bits .or .u32 (bits .or .u32 (f : Int) (regPart k i)) (spreadOf k (i.imm % 4294967296)) = f + regPart k i + spreadOf k (i.imm % 4294967296) := by
  have hk' : k = 0 ∨ k = 1 ∨ k = 2 ∨ k = 3 ∨ k = 4 ∨ k = 5 ∨ k = 6 ∨ k = 7 := by omega
  have hy0 : 0 ≤ i.imm % 4294967296 := by omega
  generalize i.imm % 4294967296 = y at hy0
  have hd0 : 0 ≤ i.rd % 32 ∧ i.rd % 32 < 32 := by omega
  have h10 : 0 ≤ i.rs1 % 32 ∧ i.rs1 % 32 < 32 := by omega
  have h20 : 0 ≤ i.rs2 % 32 ∧ i.rs2 % 32 < 32 := by omega
  unfold regPart
  generalize i.rd % 32 = rd at hd0
  generalize i.rs1 % 32 = rs1 at h10
  generalize i.rs2 % 32 = rs2 at h20
  obtain ⟨rd, rfl⟩ := Int.eq_ofNat_of_zero_le hd0.1
  obtain ⟨rs1, rfl⟩ := Int.eq_ofNat_of_zero_le h10.1
  obtain ⟨rs2, rfl⟩ := Int.eq_ofNat_of_zero_le h20.1
  have hd : rd < 32 := by omega
  have h1 : rs1 < 32 := by omega
  have h2 : rs2 < 32 := by omega
  clear hd0 h10 h20
  rcases hk' with rfl | rfl | rfl | rfl | rfl | rfl | rfl | rfl
  · simp only [spreadOf]
    rw [or_three_int _ _ _ (by omega) (by simp) (by simp) (by simp) (by simp; omega)]
  · simp only [formOk, beq_iff_eq] at hf
    simp only [spreadOf]
    have bopc : f % 128 < 128 := Nat.mod_lt _ (by decide)
    generalize f % 128 = opc at hf bopc
    subst hf
    clear hf2
    obtain ⟨s, hs⟩ := Int.eq_ofNat_of_zero_le (show 0 ≤ y % 1048576 by omega)
    have bs : s < 1048576 := by omega
    rw [hs]
    clear hs hy0
    have e1 : (f : Int) = ((L 0 0 0 0 0 f : Nat) : Int) := by rw [L_num]; omega
    have e2 : ((if 1 ≤ 1 ∧ 1 ≤ 5 then (rd : Int) * 128 else 0) + (if 3 ≤ 1 then (rs1 : Int) * 32768 else 0) + (if 5 ≤ 1 then (rs2 : Int) * 1048576 else 0)) = ((L 0 0 0 0 rd 0 : Nat) : Int) := by rw [L_num]; simp; try omega
    have e3 : (s : Int) * 4096 = ((L (s / 8192) (s / 256 % 32) (s / 8 % 32) (s % 8) 0 0 : Nat) : Int) := by rw [L_num]; omega
    rw [e1, e2, e3]
    exact or_L3 _ _ _ _ _ _ _ _ _ _ _ _ _ _ _ _ _ _ (by omega) (by omega) (by omega) (by omega) (by omega) (by omega) (by simp) (by simp) (by simp) (by simp) (by simp) (by simp)
  · simp only [formOk, beq_iff_eq] at hf
    simp only [spreadOf]
    have bopc : f % 128 < 128 := Nat.mod_lt _ (by decide)
    generalize f % 128 = opc at hf bopc
    subst hf
    clear hf2
    obtain ⟨A, hA⟩ := Int.eq_ofNat_of_zero_le (show 0 ≤ y / 1048576 % 2 by omega)
    have bA : A < 2 := by omega
    obtain ⟨B, hB⟩ := Int.eq_ofNat_of_zero_le (show 0 ≤ y / 2 % 1024 by omega)
    have bB : B < 1024 := by omega
    obtain ⟨C, hC⟩ := Int.eq_ofNat_of_zero_le (show 0 ≤ y / 2048 % 2 by omega)
    have bC : C < 2 := by omega
    obtain ⟨D, hD⟩ := Int.eq_ofNat_of_zero_le (show 0 ≤ y / 4096 % 256 by omega)
    have bD : D < 256 := by omega
    rw [hA, hB, hC, hD]
    clear hA hB hC hD hy0
    have e1 : (f : Int) = ((L 0 0 0 0 0 f : Nat) : Int) := by rw [L_num]; omega
    have e2 : ((if 1 ≤ 2 ∧ 2 ≤ 5 then (rd : Int) * 128 else 0) + (if 3 ≤ 2 then (rs1 : Int) * 32768 else 0) + (if 5 ≤ 2 then (rs2 : Int) * 1048576 else 0)) = ((L 0 0 0 0 rd 0 : Nat) : Int) := by rw [L_num]; simp; try omega
    have e3 : (A : Int) * 2147483648 + (B : Int) * 2097152 + (C : Int) * 1048576 + (D : Int) * 4096 = ((L (A * 64 + B / 16) (B % 16 * 2 + C) (D / 8) (D % 8) 0 0 : Nat) : Int) := by rw [L_num]; omega
    rw [e1, e2, e3]
    exact or_L3 _ _ _ _ _ _ _ _ _ _ _ _ _ _ _ _ _ _ (by omega) (by omega) (by omega) (by omega) (by omega) (by omega) (by simp) (by simp) (by simp) (by simp) (by simp) (by simp)
  · simp only [formOk, beq_iff_eq] at hf
    simp only [spreadOf]
    have bf3 : f / 4096 % 8 < 8 := Nat.mod_lt _ (by decide)
    generalize f / 4096 % 8 = f3 at hf bf3
    have bopc : f % 128 < 128 := Nat.mod_lt _ (by decide)
    generalize f % 128 = opc at hf bopc
    subst hf
    clear hf2
    obtain ⟨s, hs⟩ := Int.eq_ofNat_of_zero_le (show 0 ≤ y % 4096 by omega)
    have bs : s < 4096 := by omega
    rw [hs]
    clear hs hy0
    have e1 : ((f3 * 4096 + opc : Nat) : Int) = ((L 0 0 0 f3 0 opc : Nat) : Int) := by rw [L_num]; omega
    have e2 : ((if 1 ≤ 3 ∧ 3 ≤ 5 then (rd : Int) * 128 else 0) + (if 3 ≤ 3 then (rs1 : Int) * 32768 else 0) + (if 5 ≤ 3 then (rs2 : Int) * 1048576 else 0)) = ((L 0 0 rs1 0 rd 0 : Nat) : Int) := by rw [L_num]; simp; try omega
    have e3 : (s : Int) * 1048576 = ((L (s / 32) (s % 32) 0 0 0 0 : Nat) : Int) := by rw [L_num]; omega
    rw [e1, e2, e3]
    exact or_L3 _ _ _ _ _ _ _ _ _ _ _ _ _ _ _ _ _ _ (by omega) (by omega) (by omega) (by omega) (by omega) (by omega) (by simp) (by simp) (by simp) (by simp) (by simp) (by simp)
  · simp only [formOk, beq_iff_eq] at hf
    simp only [spreadOf]
    have bhi : f / 33554432 % 128 < 128 := Nat.mod_lt _ (by decide)
    generalize f / 33554432 % 128 = hi at hf bhi
    have bf3 : f / 4096 % 8 < 8 := Nat.mod_lt _ (by decide)
    generalize f / 4096 % 8 = f3 at hf bf3
    have bopc : f % 128 < 128 := Nat.mod_lt _ (by decide)
    generalize f % 128 = opc at hf bopc
    subst hf
    clear hf2
    obtain ⟨s, hs⟩ := Int.eq_ofNat_of_zero_le (show 0 ≤ y % 32 by omega)
    have bs : s < 32 := by omega
    rw [hs]
    clear hs hy0
    have e1 : ((hi * 33554432 + f3 * 4096 + opc : Nat) : Int) = ((L hi 0 0 f3 0 opc : Nat) : Int) := by rw [L_num]; omega
    have e2 : ((if 1 ≤ 4 ∧ 4 ≤ 5 then (rd : Int) * 128 else 0) + (if 3 ≤ 4 then (rs1 : Int) * 32768 else 0) + (if 5 ≤ 4 then (rs2 : Int) * 1048576 else 0)) = ((L 0 0 rs1 0 rd 0 : Nat) : Int) := by rw [L_num]; simp; try omega
    have e3 : (s : Int) * 1048576 = ((L 0 s 0 0 0 0 : Nat) : Int) := by rw [L_num]; omega
    rw [e1, e2, e3]
    exact or_L3 _ _ _ _ _ _ _ _ _ _ _ _ _ _ _ _ _ _ (by omega) (by omega) (by omega) (by omega) (by omega) (by omega) (by simp) (by simp) (by simp) (by simp) (by simp) (by simp)
  · simp only [formOk, beq_iff_eq] at hf
    simp only [spreadOf]
    have bhi : f / 33554432 % 128 < 128 := Nat.mod_lt _ (by decide)
    generalize f / 33554432 % 128 = hi at hf bhi
    have bf3 : f / 4096 % 8 < 8 := Nat.mod_lt _ (by decide)
    generalize f / 4096 % 8 = f3 at hf bf3
    have bopc : f % 128 < 128 := Nat.mod_lt _ (by decide)
    generalize f % 128 = opc at hf bopc
    subst hf
    clear hf2
    have e1 : ((hi * 33554432 + f3 * 4096 + opc : Nat) : Int) = ((L hi 0 0 f3 0 opc : Nat) : Int) := by rw [L_num]; omega
    have e2 : ((if 1 ≤ 5 ∧ 5 ≤ 5 then (rd : Int) * 128 else 0) + (if 3 ≤ 5 then (rs1 : Int) * 32768 else 0) + (if 5 ≤ 5 then (rs2 : Int) * 1048576 else 0)) = ((L 0 rs2 rs1 0 rd 0 : Nat) : Int) := by rw [L_num]; simp; try omega
    have e3 : (0 : Int) = ((L 0 0 0 0 0 0 : Nat) : Int) := by rw [L_num]; omega
    rw [e1, e2, e3]
    exact or_L3 _ _ _ _ _ _ _ _ _ _ _ _ _ _ _ _ _ _ (by omega) (by omega) (by omega) (by omega) (by omega) (by omega) (by simp) (by simp) (by simp) (by simp) (by simp) (by simp)
  · simp only [formOk, beq_iff_eq] at hf
    simp only [spreadOf]
    have bf3 : f / 4096 % 8 < 8 := Nat.mod_lt _ (by decide)
    generalize f / 4096 % 8 = f3 at hf bf3
    have bopc : f % 128 < 128 := Nat.mod_lt _ (by decide)
    generalize f % 128 = opc at hf bopc
    subst hf
    clear hf2
    obtain ⟨A, hA⟩ := Int.eq_ofNat_of_zero_le (show 0 ≤ y / 4096 % 2 by omega)
    have bA : A < 2 := by omega
    obtain ⟨B, hB⟩ := Int.eq_ofNat_of_zero_le (show 0 ≤ y / 32 % 64 by omega)
    have bB : B < 64 := by omega
    obtain ⟨C, hC⟩ := Int.eq_ofNat_of_zero_le (show 0 ≤ y / 2 % 16 by omega)
    have bC : C < 16 := by omega
    obtain ⟨D, hD⟩ := Int.eq_ofNat_of_zero_le (show 0 ≤ y / 2048 % 2 by omega)
    have bD : D < 2 := by omega
    rw [hA, hB, hC, hD]
    clear hA hB hC hD hy0
    have e1 : ((f3 * 4096 + opc : Nat) : Int) = ((L 0 0 0 f3 0 opc : Nat) : Int) := by rw [L_num]; omega
    have e2 : ((if 1 ≤ 6 ∧ 6 ≤ 5 then (rd : Int) * 128 else 0) + (if 3 ≤ 6 then (rs1 : Int) * 32768 else 0) + (if 5 ≤ 6 then (rs2 : Int) * 1048576 else 0)) = ((L 0 rs2 rs1 0 0 0 : Nat) : Int) := by rw [L_num]; simp; try omega
    have e3 : (A : Int) * 2147483648 + (B : Int) * 33554432 + (C : Int) * 256 + (D : Int) * 128 = ((L (A * 64 + B) 0 0 0 (C * 2 + D) 0 : Nat) : Int) := by rw [L_num]; omega
    rw [e1, e2, e3]
    exact or_L3 _ _ _ _ _ _ _ _ _ _ _ _ _ _ _ _ _ _ (by omega) (by omega) (by omega) (by omega) (by omega) (by omega) (by simp) (by simp) (by simp) (by simp) (by simp) (by simp)
  · simp only [formOk, beq_iff_eq] at hf
    simp only [spreadOf]
    have bf3 : f / 4096 % 8 < 8 := Nat.mod_lt _ (by decide)
    generalize f / 4096 % 8 = f3 at hf bf3
    have bopc : f % 128 < 128 := Nat.mod_lt _ (by decide)
    generalize f % 128 = opc at hf bopc
    subst hf
    clear hf2
    obtain ⟨A, hA⟩ := Int.eq_ofNat_of_zero_le (show 0 ≤ y / 32 % 128 by omega)
    have bA : A < 128 := by omega
    obtain ⟨B, hB⟩ := Int.eq_ofNat_of_zero_le (show 0 ≤ y % 32 by omega)
    have bB : B < 32 := by omega
    rw [hA, hB]
    clear hA hB hy0
    have e1 : ((f3 * 4096 + opc : Nat) : Int) = ((L 0 0 0 f3 0 opc : Nat) : Int) := by rw [L_num]; omega
    have e2 : ((if 1 ≤ 7 ∧ 7 ≤ 5 then (rd : Int) * 128 else 0) + (if 3 ≤ 7 then (rs1 : Int) * 32768 else 0) + (if 5 ≤ 7 then (rs2 : Int) * 1048576 else 0)) = ((L 0 rs2 rs1 0 0 0 : Nat) : Int) := by rw [L_num]; simp; try omega
    have e3 : (A : Int) * 33554432 + (B : Int) * 128 = ((L A 0 0 0 B 0 : Nat) : Int) := by rw [L_num]; omega
    rw [e1, e2, e3]
    exact or_L3 _ _ _ _ _ _ _ _ _ _ _ _ _ _ _ _ _ _ (by omega) (by omega) (by omega) (by omega) (by omega) (by omega) (by simp) (by simp) (by simp) (by simp) (by simp) (by simp)

theorem word_num (i : Ins) (h0 : 1 ≤ i.op) (h1 : i.op ≤ 48) :
    bits .or .u32 (bits .or .u32 (formOf i.op : Int) (bits .and .u32 (bits .or .u32 (bits .or .u32 (bits .and .u32 (i.rd % 4294967296) 31 * 128 % 4294967296) (bits .and .u32 (i.rs1 % 4294967296) 31 * 32768 % 4294967296)) (bits .and .u32 (i.rs2 % 4294967296) 31 * 1048576 % 4294967296)) (regMask (kindOf i.op)))) (spreadOf (kindOf i.op) (i.imm % 4294967296)) = wordOf i := by
  rw [regs_or, regs_part _ (kindOf_le _), word_or _ _ _ (kindOf_le _) (form_ok i.op h0 h1) (formOf_lt _)]
  rfl
theorem bits_u32_bound (op : BinOp) (a b : Int) : 0 ≤ bits op .u32 a b ∧ bits op .u32 a b < 4294967296 := by
  unfold bits
  rw [IntKind.wrap_u32]
  omega
theorem word_bound (i : Ins) (h0 : 1 ≤ i.op) (h1 : i.op ≤ 48) : 0 ≤ wordOf i ∧ wordOf i < 4294967296 := by
  rw [← word_num i h0 h1]
  exact bits_u32_bound _ _ _

theorem spread_gather_2 (A B C D : Int) (hA : A = 0 ∨ A = 1) (hB : 0 ≤ B ∧ B < 1024) (hC : C = 0 ∨ C = 1) (hD : 0 ≤ D ∧ D < 256) :
    spreadOf 2 ((D * 4096 + C * 2048 + B * 2 - A * 1048576) % 4294967296) = A * 2147483648 + B * 2097152 + C * 1048576 + D * 4096 := by
  have hy : (D * 4096 + C * 2048 + B * 2 - A * 1048576) % 4294967296 = D * 4096 + C * 2048 + B * 2 + A * 4293918720 := by omega
  rw [hy]
  simp only [spreadOf]
  have e1 : (D * 4096 + C * 2048 + B * 2 + A * 4293918720) / 1048576 % 2 = A := by rcases hA with rfl | rfl <;> omega
  have e2 : (D * 4096 + C * 2048 + B * 2 + A * 4293918720) / 2 % 1024 = B := by rcases hA with rfl | rfl <;> omega
  have e3 : (D * 4096 + C * 2048 + B * 2 + A * 4293918720) / 2048 % 2 = C := by rcases hA with rfl | rfl <;> omega
  have e4 : (D * 4096 + C * 2048 + B * 2 + A * 4293918720) / 4096 % 256 = D := by rcases hA with rfl | rfl <;> omega
  rw [e1, e2, e3, e4]
theorem spread_gather_6 (A B C D : Int) (hA : A = 0 ∨ A = 1) (hB : 0 ≤ B ∧ B < 64) (hC : 0 ≤ C ∧ C < 16) (hD : D = 0 ∨ D = 1) :
    spreadOf 6 ((D * 2048 + B * 32 + C * 2 - A * 4096) % 4294967296) = A * 2147483648 + B * 33554432 + C * 256 + D * 128 := by
  have hy : (D * 2048 + B * 32 + C * 2 - A * 4096) % 4294967296 = D * 2048 + B * 32 + C * 2 + A * 4294963200 := by omega
  rw [hy]
  simp only [spreadOf]
  have e1 : (D * 2048 + B * 32 + C * 2 + A * 4294963200) / 4096 % 2 = A := by rcases hA with rfl | rfl <;> omega
  have e2 : (D * 2048 + B * 32 + C * 2 + A * 4294963200) / 32 % 64 = B := by rcases hA with rfl | rfl <;> omega
  have e3 : (D * 2048 + B * 32 + C * 2 + A * 4294963200) / 2 % 16 = C := by rcases hA with rfl | rfl <;> omega
  have e4 : (D * 2048 + B * 32 + C * 2 + A * 4294963200) / 2048 % 2 = D := by rcases hA with rfl | rfl <;> omega
  rw [e1, e2, e3, e4]
theorem spread_gather_7 (A B : Int) (hA : 0 ≤ A ∧ A < 128) (hB : 0 ≤ B ∧ B < 32) :
    spreadOf 7 ((A * 32 + B - A / 64 * 4096) % 4294967296) = A * 33554432 + B * 128 := by
  simp only [spreadOf]
  have e1 : (A * 32 + B - A / 64 * 4096) % 4294967296 / 32 % 128 = A := by omega
  have e2 : (A * 32 + B - A / 64 * 4096) % 4294967296 % 32 = B := by omega
  rw [e1, e2]

/-- A word that fits an Op's form is the word of what it means. -/
theorem word_kind (k f x : Nat) (hk : k ≤ 7) (hx : x < 4294967296) (hf : formOk k f = true) (h : x &&& fixMask k = f) :
    (f : Int) + regPart k ⟨0, rdF k x, rs1F k x, rs2F k x, gatherOf k x⟩ + spreadOf k (gatherOf k x % 4294967296) = x := by
  have hk' : k = 0 ∨ k = 1 ∨ k = 2 ∨ k = 3 ∨ k = 4 ∨ k = 5 ∨ k = 6 ∨ k = 7 := by omega
  rcases hk' with rfl | rfl | rfl | rfl | rfl | rfl | rfl | rfl
  · rw [show fixMask 0 = 4294967295 from rfl, mask_d x hx] at h
    subst h
    simp [regPart, spreadOf]
  · rw [show fixMask 1 = 127 from rfl, mask_a] at h
    subst h
    clear hf
    simp [regPart, spreadOf, rdF, gatherOf]
    omega
  · rw [show fixMask 2 = 127 from rfl, mask_a] at h
    subst h
    clear hf
    simp only [gatherOf]
    rw [spread_gather_2 _ _ _ _ (by omega) (by omega) (by omega) (by omega)]
    simp [regPart, rdF]
    omega
  · rw [show fixMask 3 = 28799 from rfl, mask_b] at h
    subst h
    clear hf
    simp [regPart, spreadOf, rdF, rs1F, gatherOf]
    omega
  · rw [show fixMask 4 = 4261441663 from rfl, mask_c] at h
    subst h
    clear hf
    simp [regPart, spreadOf, rdF, rs1F, gatherOf]
    omega
  · rw [show fixMask 5 = 4261441663 from rfl, mask_c] at h
    subst h
    clear hf
    simp [regPart, spreadOf, rdF, rs1F, rs2F]
    omega
  · rw [show fixMask 6 = 28799 from rfl, mask_b] at h
    subst h
    clear hf
    simp only [gatherOf]
    rw [spread_gather_6 _ _ _ _ (by omega) (by omega) (by omega) (by omega)]
    simp [regPart, rs1F, rs2F]
    omega
  · rw [show fixMask 7 = 28799 from rfl, mask_b] at h
    subst h
    clear hf
    have e : (x : Int) / 2147483648 = (x : Int) / 33554432 / 64 := by omega
    simp only [gatherOf]
    rw [e, spread_gather_7 _ _ (by omega) (by omega)]
    simp [regPart, rs1F, rs2F]
    omega
theorem word_ins (op : Int) (x : Nat) (h0 : 1 ≤ op) (h1 : op ≤ 48) (hx : x < 4294967296) (h : fits op x = true) : wordOf (ins op x) = x := by
  have h2 : x &&& fixMask (kindOf op) = formOf op := by
    unfold fits at h
    simpa using h
  exact word_kind _ _ x (kindOf_le op) hx (form_ok op h0 h1) h2
end Go.Vx

import Derived.WalkKit
import Derived.Laws.BitsAllLaws
import Derived.Laws.BitsLemmas
import Derived.Test.YtbmchgjilkoplaaDoorCq34
/- Plain facts on bits: masks and joins as sums of fields. -/
namespace Go.Vx
open Go.RowKit (wrap32 wrap64)

theorem nat_and_cons (i x m1 m2 : Nat) (h : m2 < 2 ^ i) : x &&& (m1 * 2 ^ i + m2) = ((x / 2 ^ i) &&& m1) * 2 ^ i + (x % 2 ^ i &&& m2) := by
  apply Nat.eq_of_testBit_eq
  intro j
  have h2 : x % 2 ^ i &&& m2 < 2 ^ i := Nat.lt_of_le_of_lt Nat.and_le_right h
  rw [Nat.testBit_and, Nat.mul_comm m1, Nat.testBit_two_pow_mul_add m1 h, Nat.mul_comm _ (2 ^ i), Nat.testBit_two_pow_mul_add _ h2]
  by_cases hj : j < i
  · simp [hj, Nat.testBit_and, Nat.testBit_mod_two_pow]
  · simp [hj, Nat.testBit_and, Nat.testBit_div_two_pow]
    congr 2
    omega

theorem nat_or_cons (i a b c d : Nat) (hb : b < 2 ^ i) (hd : d < 2 ^ i) : (a * 2 ^ i + b) ||| (c * 2 ^ i + d) = (a ||| c) * 2 ^ i + (b ||| d) := by
  apply Nat.eq_of_testBit_eq
  intro j
  have h2 : b ||| d < 2 ^ i := Nat.or_lt_two_pow hb hd
  rw [Nat.testBit_or, Nat.mul_comm a, Nat.testBit_two_pow_mul_add a hb, Nat.mul_comm c, Nat.testBit_two_pow_mul_add c hd, Nat.mul_comm _ (2 ^ i), Nat.testBit_two_pow_mul_add _ h2]
  by_cases hj : j < i <;> simp [hj, Nat.testBit_or]

theorem nat_mask (n x : Nat) : x &&& (2 ^ n - 1) = x % 2 ^ n := Nat.and_two_pow_sub_one_eq_mod x n

theorem nat_field (a n x : Nat) : x &&& ((2 ^ n - 1) * 2 ^ a) = x / 2 ^ a % 2 ^ n * 2 ^ a := by
  have := nat_and_cons a x (2 ^ n - 1) 0 (Nat.two_pow_pos a)
  simp only [Nat.add_zero, Nat.and_zero] at this
  rw [this, nat_mask]

/-- A mask of one run of ones, in a word of 32 bits. -/
theorem u32_field (a n : Nat) (A N x m : Int) (h0 : 0 ≤ x) (h1 : x < 4294967296) (hA : A = ((2 ^ a : Nat) : Int)) (hN : N = ((2 ^ n : Nat) : Int)) (hm : m = (((2 ^ n - 1) * 2 ^ a : Nat) : Int)) (hm2 : (2 ^ n - 1) * 2 ^ a < 4294967296) :
    bits .and .u32 x m = x / A % N * A := by
  subst hm hA hN
  rw [u32_and x _ h0 h1 (Int.natCast_nonneg _) (by omega), Int.toNat_natCast, nat_field]
  obtain ⟨n, rfl⟩ := Int.eq_ofNat_of_zero_le h0
  rw [Int.toNat_natCast]
  simp only [Int.natCast_mul, Int.natCast_emod, Int.natCast_ediv]

/-- What lies above a bit, joined with what lies below it. -/
theorem u32_join (i : Nat) (I x y : Int) (hI : I = ((2 ^ i : Nat) : Int)) (hi : 2 ^ i ≤ 4294967296) (h : 0 ≤ x ∧ x < 4294967296 ∧ x % I = 0 ∧ 0 ≤ y ∧ y < I) :
    bits .or .u32 x y = x + y := by
  subst hI
  obtain ⟨h0, h1, hx, hy, hy1⟩ := h
  rw [u32_or x y h0 h1 hy (by omega)]
  obtain ⟨n, rfl⟩ := Int.eq_ofNat_of_zero_le h0
  obtain ⟨k, rfl⟩ := Int.eq_ofNat_of_zero_le hy
  simp only [Int.toNat_natCast]
  rw [nat_join i n k (by omega) (by omega)]
  omega

theorem u32_join3 (i j : Nat) (I J x y z : Int) (hI : I = ((2 ^ i : Nat) : Int)) (hJ : J = ((2 ^ j : Nat) : Int)) (hi : 2 ^ i ≤ 4294967296) (hj : 2 ^ j ≤ 4294967296)
    (h : 0 ≤ x ∧ x < 4294967296 ∧ x % I = 0 ∧ 0 ≤ y ∧ y < I) (h2 : 0 ≤ x + y ∧ x + y < 4294967296 ∧ (x + y) % J = 0 ∧ 0 ≤ z ∧ z < J) :
    bits .or .u32 (bits .or .u32 x y) z = x + y + z := by
  rw [u32_join i I x y hI hi h, u32_join j J (x + y) z hJ hj h2]
theorem u32_join4 (i j k : Nat) (I J K x y z u : Int) (hI : I = ((2 ^ i : Nat) : Int)) (hJ : J = ((2 ^ j : Nat) : Int)) (hK : K = ((2 ^ k : Nat) : Int)) (hi : 2 ^ i ≤ 4294967296) (hj : 2 ^ j ≤ 4294967296) (hk : 2 ^ k ≤ 4294967296)
    (h : 0 ≤ x ∧ x < 4294967296 ∧ x % I = 0 ∧ 0 ≤ y ∧ y < I) (h2 : 0 ≤ x + y ∧ x + y < 4294967296 ∧ (x + y) % J = 0 ∧ 0 ≤ z ∧ z < J)
    (h3 : 0 ≤ x + y + z ∧ x + y + z < 4294967296 ∧ (x + y + z) % K = 0 ∧ 0 ≤ u ∧ u < K) :
    bits .or .u32 (bits .or .u32 (bits .or .u32 x y) z) u = x + y + z + u := by
  rw [u32_join3 i j I J x y z hI hJ hi hj h h2, u32_join k K (x + y + z) u hK hk h3]

/-- The same with a sign above. -/
theorem i32_join (i : Nat) (I x y : Int) (hI : I = ((2 ^ i : Nat) : Int)) (hi : i ≤ 31) (h : -2147483648 ≤ x ∧ x < 2147483648 ∧ x % I = 0 ∧ 0 ≤ y ∧ y < I) :
    bits .or .i32 x y = x + y := by
  subst hI
  obtain ⟨h0, h1, hx, hy, hy1⟩ := h
  have hp : (2 : Nat) ^ i * 2 ^ (32 - i) = 4294967296 := by rw [← Nat.pow_add, show i + (32 - i) = 32 by omega]
  have hle : (2 : Nat) ^ i ≤ 2147483648 := Nat.pow_le_pow_right (n := 2) (by omega) hi
  obtain ⟨k, rfl⟩ := Int.eq_ofNat_of_zero_le hy
  have hb : BitVec.ofInt 32 (k : Int) = BitVec.ofNat 32 k := by simp
  obtain ⟨m, hm⟩ := Int.eq_ofNat_of_zero_le (show 0 ≤ x % 4294967296 by omega)
  have hm2 : m < 4294967296 := by omega
  have ha : (BitVec.ofInt 32 x).toNat = m := by
    simp only [BitVec.toNat_ofInt]
    have : x % ((2 ^ 32 : Nat) : Int) = (m : Int) := by rw [← hm]; rfl
    rw [this, Int.toNat_natCast]
  have hmi : m % 2 ^ i = 0 := by
    have e1 : ((m : Nat) : Int) % (2 ^ i : Nat) = 0 := by
      rw [← hm]
      have hd : ((2 ^ i : Nat) : Int) ∣ (4294967296 : Int) := by
        refine ⟨((2 ^ (32 - i) : Nat) : Int), ?_⟩
        rw [← Int.natCast_mul, hp]; rfl
      rw [Int.emod_emod_of_dvd _ hd]; exact hx
    omega
  have hk : k < 2 ^ i := by omega
  have hxk : x + k < 2147483648 := by
    have hd1 : ((2 ^ i : Nat) : Int) ∣ x := Int.dvd_of_emod_eq_zero hx
    have hd2 : ((2 ^ i : Nat) : Int) ∣ (2147483648 : Int) := by
      refine ⟨((2 ^ (31 - i) : Nat) : Int), ?_⟩
      rw [← Int.natCast_mul, ← Nat.pow_add, show i + (31 - i) = 31 by omega]; rfl
    have := Int.le_of_dvd (show (0 : Int) < 2147483648 - x by omega) (Int.dvd_sub hd2 hd1)
    omega
  show IntKind.i32.wrap ((BitVec.ofInt 32 x ||| BitVec.ofInt 32 (k : Int)).toNat : Int) = x + k
  rw [BitVec.toNat_or, ha, hb, BitVec.toNat_ofNat, Nat.mod_eq_of_lt (show k < 2 ^ 32 by omega), nat_join i m k hmi hk, IntKind.wrap_i32]
  omega
end Go.Vx

/- Chapter 7, the program's Lookup: field. -/
namespace Go.Proofs.YtbmchgjilkoplaaDoor
open Go.ChangeShapes Go.WideShapes Go.ChangeAt Go.RowKit
open Go.Vx
set_option linter.unusedVariables false

theorem field_and (a L n : Nat) (ha : a < 4294967296) (hn : n ≤ 32) : bits BinOp.and IntKind.u32 ((a : Int) / 2 ^ L) ((2 ^ n - 1) % 4294967296) = ((a / 2 ^ L % 2 ^ n : Nat) : Int) := by
  have e1 : ((a : Int) / 2 ^ L) = ((a / 2 ^ L : Nat) : Int) := by push_cast; rfl
  have h1 : a / 2 ^ L < 4294967296 := Nat.lt_of_le_of_lt (Nat.div_le_self _ _) ha
  have h2 : 2 ^ n ≤ 4294967296 := by
    have : 2 ^ n ≤ 2 ^ 32 := Nat.pow_le_pow_right (by decide) hn
    simpa using this
  have h3 : 0 < 2 ^ n := Nat.pos_of_ne_zero (by simp)
  have e2 : (((2 : Int) ^ n - 1) % 4294967296) = (((2 ^ n - 1) * 2 ^ 0 : Nat) : Int) := by
    have e3 : ((2 : Int) ^ n) = ((2 ^ n : Nat) : Int) := by push_cast; rfl
    rw [e3]
    have : ((2 ^ n : Nat) : Int) - 1 = ((2 ^ n - 1 : Nat) : Int) := by omega
    rw [this, Nat.pow_zero, Nat.mul_one]
    omega
  rw [e1, e2]
  generalize a / 2 ^ L = q at h1
  have := u32_field 0 n 1 ((2 ^ n : Nat) : Int) (q : Int) (((2 ^ n - 1) * 2 ^ 0 : Nat) : Int) (by omega) (by omega) rfl rfl rfl (by rw [Nat.pow_zero, Nat.mul_one]; omega)
  rw [this]
  simp
theorem field_ok (a L n : Nat) (ha : a < 4294967296) (hL : L ≤ 32) (hn : n ≤ 32) (w : World) : Calls Tryd.prog 77 #[.int .u32 (a : Int), .int .i64 (L : Int), .int .i64 (n : Int)] w fun e w' => e = .returned (.int .u32 ((a / 2 ^ L % 2 ^ n : Nat) : Int)) ∧ ∃ q, w' = w.drewN q := by
  have h1 : ¬ (L : Int) < 0 := by omega
  have h2 : ¬ (n : Int) < 0 := by omega
  go_enter Tryd.func77, Tryd.ntmps77
  go_wp2_with fail
  go_quiet (fail)
  go_wp2_with fail
  go_ret
  exact ⟨by show Ending.returned (Value.int .u32 (bits BinOp.and IntKind.u32 ((a : Int) / 2 ^ L) ((2 ^ n - 1) % 4294967296))) = _; rw [field_and a L n ha hn], _, rfl⟩
end Go.Proofs.YtbmchgjilkoplaaDoor

/- Chapter 7, the program's Lookup: lead. -/
namespace Go.Proofs.YtbmchgjilkoplaaDoor
open Go.ChangeShapes Go.WideShapes Go.ChangeAt Go.RowKit
open Go.Vx
set_option linter.unusedVariables false
variable {U : Nat → Prop} {w : World} {xb mb : Nat} {D : DataW Value} {G : Int → Nat} {bs : List (Int × Int)} {es : List En} {Q : Sl → Pl}

/-- Where the next bits of an address lead. -/
def leadR (bs : List (Int × Int)) (a : Nat) (c : Cp) (l : Nat) : Sl × Nat × Int :=
  match sizeF bs c.num with
  | none => ((-1, -1), 0, 12)
  | some n =>
    if c.kind = 5 then
      if c.gbits < 0 ∨ 32 < c.gbits ∨ c.gbits + (radF n : Int) = 0 ∨ (l : Int) < c.gbits + (radF n : Int) then ((-1, -1), 0, 9)
      else if ((digF a l c.gbits.toNat : Nat) : Int) = c.guard then ((c.num, ((digF a (l - c.gbits.toNat) (radF n) : Nat) : Int)), l - c.gbits.toNat - radF n, 0)
      else ((-1, -1), 0, 9)
    else ((-1, -1), 0, 12)
/-- What comes of it. -/
def contF (bs : List (Int × Int)) (es : List En) (a f : Nat) (r : Sl × Nat × Int) : Sl × Int := if r.2.2 ≠ 0 ∨ r.2.1 = 0 then (r.1, r.2.2) else match entF es r.1 with | none => ((-1, -1), 11) | some k => lookF bs es a f (es.getD k .df).cap r.2.1
theorem lead_none {a : Nat} {c : Cp} {l : Nat} (h : sizeF bs c.num = none) : leadR bs a c l = ((-1, -1), 0, 12) := by unfold leadR; rw [h]
theorem lead_kind {a : Nat} {c : Cp} {l : Nat} {n : Int} (h : sizeF bs c.num = some n) (h1 : c.kind ≠ 5) : leadR bs a c l = ((-1, -1), 0, 12) := by unfold leadR; rw [h]; dsimp only; rw [if_neg h1]
theorem lead_bits {a : Nat} {c : Cp} {l : Nat} {n : Int} (h : sizeF bs c.num = some n) (h1 : c.kind = 5) (h2 : c.gbits < 0 ∨ 32 < c.gbits ∨ c.gbits + (radF n : Int) = 0 ∨ (l : Int) < c.gbits + (radF n : Int)) : leadR bs a c l = ((-1, -1), 0, 9) := by unfold leadR; rw [h]; dsimp only; rw [if_pos h1, if_pos h2]
theorem lead_guard {a : Nat} {c : Cp} {l : Nat} {n : Int} (h : sizeF bs c.num = some n) (h1 : c.kind = 5) (h2 : ¬ (c.gbits < 0 ∨ 32 < c.gbits ∨ c.gbits + (radF n : Int) = 0 ∨ (l : Int) < c.gbits + (radF n : Int))) (h3 : ((digF a l c.gbits.toNat : Nat) : Int) ≠ c.guard) : leadR bs a c l = ((-1, -1), 0, 9) := by unfold leadR; rw [h]; dsimp only; rw [if_pos h1, if_neg h2, if_neg h3]
theorem lead_good {a : Nat} {c : Cp} {l : Nat} {n : Int} (h : sizeF bs c.num = some n) (h1 : c.kind = 5) (h2 : ¬ (c.gbits < 0 ∨ 32 < c.gbits ∨ c.gbits + (radF n : Int) = 0 ∨ (l : Int) < c.gbits + (radF n : Int))) (h3 : ((digF a l c.gbits.toNat : Nat) : Int) = c.guard) : leadR bs a c l = ((c.num, ((digF a (l - c.gbits.toNat) (radF n) : Nat) : Int)), l - c.gbits.toNat - radF n, 0) := by unfold leadR; rw [h]; dsimp only; rw [if_pos h1, if_neg h2, if_pos h3]
theorem lookF_lead (bs : List (Int × Int)) (es : List En) (a f : Nat) (c : Cp) (l : Nat) : lookF bs es a (f + 1) c l = contF bs es a f (leadR bs a c l) := by
  rw [lookF]
  cases hs : sizeF bs c.num with
  | none => rw [lead_none hs]; unfold contF; rw [if_pos (Or.inl (by decide))]
  | some n =>
    dsimp only
    by_cases h1 : c.kind = 5
    · rw [if_pos h1]
      by_cases h2 : c.gbits < 0 ∨ 32 < c.gbits ∨ c.gbits + (radF n : Int) = 0 ∨ (l : Int) < c.gbits + (radF n : Int)
      · rw [if_pos h2, lead_bits hs h1 h2]; unfold contF; rw [if_pos (Or.inl (by decide))]
      · rw [if_neg h2]
        by_cases h3 : ((digF a l c.gbits.toNat : Nat) : Int) = c.guard
        · rw [if_pos h3, lead_good hs h1 h2 h3]
          unfold contF
          dsimp only
          by_cases h4 : l - c.gbits.toNat - radF n = 0
          · rw [if_pos h4, if_pos (Or.inr h4)]
          · rw [if_neg h4, if_neg (fun h => h.elim (fun h => h rfl) h4)]
            cases entF es (c.num, ((digF a (l - c.gbits.toNat) (radF n) : Nat) : Int)) <;> rfl
        · rw [if_neg h3, lead_guard hs h1 h2 h3]; unfold contF; rw [if_pos (Or.inl (by decide))]
    · rw [if_neg h1, lead_kind hs h1]; unfold contF; rw [if_pos (Or.inl (by decide))]
theorem bitLen_two : ∀ R : Nat, R ≤ 6 → (Lib.bitLen (2 ^ R) : Int) = (R : Int) + 1 := by decide
set_option maxRecDepth 100000 in
set_option maxHeartbeats 4000000 in
theorem xlead_ok (h : XsAt U w xb mb D G bs Q) (hbs : ∀ b ∈ bs, twoB b.2 = true) (c : Cp) (hnum : I64 c.num) (a : Nat) (ha : a < 4294967296) (l : Nat) (hl : l ≤ 32) : Calls Tryd.prog 67 #[.pointer (some ⟨xb, 0, none⟩), .agg #[.int .i64 c.kind, .int .i64 c.num, .int .i64 c.rights, .int .u32 c.badge, .int .u32 c.guard, .int .i64 c.gbits, .int .i64 c.root, .int .u32 c.va], .int .u32 (a : Int), .int .i64 (l : Int)] w fun e w' => e = .returned (.tuple #[slV (leadR bs a c l).1, .int .i64 ((leadR bs a c l).2.1 : Int), .int .i64 (leadR bs a c l).2.2]) ∧ Only (fun _ => False) w w' := by
  obtain ⟨d0, d1, d2, d3, d4, d5, d6, d7⟩ := c
  dsimp only at hnum ⊢
  obtain ⟨w1, hw1⟩ : ∃ w1, w1 = (w.alloc (.cells #[.int .i64 d0, .int .i64 d1, .int .i64 d2, .int .u32 d3, .int .u32 d4, .int .i64 d5, .int .i64 d6, .int .u32 d7] 66)).alloc (.cells #[.int .i64 0, .int .i64 0] 62) := ⟨_, rfl⟩
  have ho : Only (fun _ => False) w w1 := by rw [hw1]; exact ((Only.refl _ w).alloc _).alloc _
  have hz : w1.heap[w.heap.size + 1]? = some (.cells #[.int .i64 0, .int .i64 0] 62 (0, 0)) := by
    rw [hw1]
    have := heap_alloc_last (w.alloc (.cells #[.int .i64 d0, .int .i64 d1, .int .i64 d2, .int .u32 d3, .int .u32 d4, .int .i64 d5, .int .i64 d6, .int .u32 d7] 66)) (.cells #[.int .i64 0, .int .i64 0] 62)
    simpa using this
  have hy : w1.heap[w.heap.size]? = some (.cells #[.int .i64 d0, .int .i64 d1, .int .i64 d2, .int .u32 d3, .int .u32 d4, .int .i64 d5, .int .i64 d6, .int .u32 d7] 66 (0, 0)) := by
    rw [hw1, RowKit.Below.heap_alloc _ _ _ (by simp)]
    exact heap_alloc_last w _
  have HSZ := Vx.hid (xsize_ok (h.quiet ho) d1 hnum)
  obtain ⟨⟨z0, z1⟩, zf⟩ := slot_cells hz
  obtain ⟨⟨y0, y1, y2, y3, y4, y5, y6, y7⟩, _⟩ := cap_cells hy
  obtain ⟨⟨n0, n1⟩, _⟩ := slot_cells (h.quiet ho).ns
  have HO := Vx.hid ho
  have HSI : Hid (∀ n, sizeF bs d1 = some n → twoB n = true ∧ 1 ≤ n ∧ n ≤ 64) := fun n hn => ⟨size_two hbs hn, h.bn d1 n hn⟩
  obtain ⟨rc, hrc⟩ : ∃ rc, rc = w.heap.size + 1 := ⟨_, rfl⟩
  obtain ⟨cb, hcb⟩ : ∃ cb, cb = w.heap.size := ⟨_, rfl⟩
  have HRL : Hid (w.heap.size ≤ rc) := by show w.heap.size ≤ rc; omega
  have HFIN : Hid (∀ wx s0 s1, Only (fun _ => False) w1 wx → Only (fun _ => False) w ((wx.setCell ⟨rc, 0, none⟩ s0).setCell ⟨rc, 1, none⟩ s1)) := fun wx s0 s1 hx => Only.beyond (ho.trans hx) (only_set2 wx rc _ _) (fun j hj => by subst hj; exact HRL.out)
  rw [← hrc] at z0 z1 zf
  rw [← hcb] at y0 y1 y2 y3 y4 y5 y6 y7
  have HFO := Vx.hid (fun L n hL hn w => field_ok a L n ha hL hn w)
  have HBL := Vx.hid (fun (x : Int) (w : World) h0 h1 => Tryd.bits_Len x w h0 h1)
  clear h ho hz hy hbs hnum
  cases hs : sizeF bs d1 with
  | none =>
    have HE : Hid (leadR bs a ⟨d0, d1, d2, d3, d4, d5, d6, d7⟩ l = ((-1, -1), 0, 12)) := by show leadR bs a ⟨d0, d1, d2, d3, d4, d5, d6, d7⟩ l = _; unfold leadR; dsimp only; rw [hs]
    have hsr : sizeR bs d1 = (0, 6) := by unfold sizeR; rw [hs]
    rw [hsr] at HSZ
    clear hsr hs HSI
    by_cases hk : d0 = 5
    · subst hk
      go_enter Tryd.func67, Tryd.ntmps67
      go_upto_region 1 with fail
      rw [← hw1, ← hrc, ← hcb]
      clear hw1 hrc hcb
      go_wp2_with fail
      refine HSZ.out.mono ?_
      rintro e w2 ⟨rfl, rfl⟩
      go_wp2_with fail
      refine bodyPost_ret (v := .tuple #[slV (-1, -1), .int .i64 0, .int .i64 12]) ?_ rfl ⟨by rw [HE.out]; rfl, HFIN.out _ _ _ (Only.refl _ _)⟩
      simp [results, Tryd.results67, go_sem, slV, z0, z1]
    · have hk2 : (d0 == 5) = false := beq_eq_false_iff_ne.2 hk
      go_enter Tryd.func67, Tryd.ntmps67
      go_upto_region 1 with fail
      rw [← hw1, ← hrc, ← hcb]
      clear hw1 hrc hcb
      go_wp2_with fail
      refine HSZ.out.mono ?_
      rintro e w2 ⟨rfl, rfl⟩
      go_wp2_with fail
      refine bodyPost_ret (v := .tuple #[slV (-1, -1), .int .i64 0, .int .i64 12]) ?_ rfl ⟨by rw [HE.out]; rfl, HFIN.out _ _ _ (Only.refl _ _)⟩
      simp [results, Tryd.results67, go_sem, slV, z0, z1]
  | some n =>
    obtain ⟨htw, hn1, hn2⟩ := HSI.out n hs
    obtain ⟨R, hR, hR6, hRn⟩ := rad_two htw
    have hsr : sizeR bs d1 = (n, 0) := by unfold sizeR; rw [hs]
    rw [hsr] at HSZ
    have HLN : Hid ((Lib.bitLen n.toNat : Int) = (R : Int) + 1) := by
      show (Lib.bitLen n.toNat : Int) = (R : Int) + 1
      rw [hRn, Int.toNat_natCast]
      exact bitLen_two R hR6
    have HS := Vx.hid hs
    have HR := Vx.hid hR
    clear hsr hs HSI htw hRn hR
    by_cases hk : d0 = 5
    · subst hk
      by_cases g1 : d5 < 0
      · have HE : Hid (leadR bs a ⟨5, d1, d2, d3, d4, d5, d6, d7⟩ l = ((-1, -1), 0, 9)) := lead_bits HS.out rfl (Or.inl g1)
        go_enter Tryd.func67, Tryd.ntmps67
        go_upto_region 1 with fail
        rw [← hw1, ← hrc, ← hcb]
        clear hw1 hrc hcb
        go_wp2_with fail
        refine HSZ.out.mono ?_
        rintro e w2 ⟨rfl, rfl⟩
        go_wp2_with fail
        refine (HBL.out _ _ (by omega) (by omega)).mono ?_
        rintro e w3 ⟨rfl, rfl⟩
        rw [HLN.out]
        go_wp2_with fail
        refine bodyPost_ret (v := .tuple #[slV (-1, -1), .int .i64 0, .int .i64 9]) ?_ rfl ⟨by rw [HE.out]; rfl, HFIN.out _ _ _ (Only.refl _ _)⟩
        simp [results, Tryd.results67, go_sem, slV, z0, z1]
      · by_cases g2 : 32 < d5
        · have HE : Hid (leadR bs a ⟨5, d1, d2, d3, d4, d5, d6, d7⟩ l = ((-1, -1), 0, 9)) := lead_bits HS.out rfl (Or.inr (Or.inl g2))
          go_enter Tryd.func67, Tryd.ntmps67
          go_upto_region 1 with fail
          rw [← hw1, ← hrc, ← hcb]
          clear hw1 hrc hcb
          go_wp2_with fail
          refine HSZ.out.mono ?_
          rintro e w2 ⟨rfl, rfl⟩
          go_wp2_with fail
          refine (HBL.out _ _ (by omega) (by omega)).mono ?_
          rintro e w3 ⟨rfl, rfl⟩
          rw [HLN.out]
          go_wp2_with fail
          refine bodyPost_ret (v := .tuple #[slV (-1, -1), .int .i64 0, .int .i64 9]) ?_ rfl ⟨by rw [HE.out]; rfl, HFIN.out _ _ _ (Only.refl _ _)⟩
          simp [results, Tryd.results67, go_sem, slV, z0, z1]
        · obtain ⟨gb, rfl⟩ : ∃ gb : Nat, d5 = (gb : Int) := ⟨d5.toNat, by omega⟩
          have hw2 : IntKind.i64.wrap ((gb : Int) + (R : Int)) = (gb : Int) + (R : Int) := by rw [IntKind.wrap_i64]; omega
          by_cases g3 : (gb : Int) + (R : Int) = 0
          · have HE : Hid (leadR bs a ⟨5, d1, d2, d3, d4, gb, d6, d7⟩ l = ((-1, -1), 0, 9)) := lead_bits HS.out rfl (Or.inr (Or.inr (Or.inl (by rw [HR.out]; exact g3))))
            have g4 : ((gb : Int) + (R : Int) == 0) = true := beq_iff_eq.2 g3
            go_enter Tryd.func67, Tryd.ntmps67
            go_upto_region 1 with fail
            rw [← hw1, ← hrc, ← hcb]
            clear hw1 hrc hcb
            go_wp2_with fail
            refine HSZ.out.mono ?_
            rintro e w2 ⟨rfl, rfl⟩
            go_wp2_with fail
            refine (HBL.out _ _ (by omega) (by omega)).mono ?_
            rintro e w3 ⟨rfl, rfl⟩
            rw [HLN.out]
            go_wp2_with fail
            refine bodyPost_ret (v := .tuple #[slV (-1, -1), .int .i64 0, .int .i64 9]) ?_ rfl ⟨by rw [HE.out]; rfl, HFIN.out _ _ _ (Only.refl _ _)⟩
            simp [results, Tryd.results67, go_sem, slV, z0, z1]
          · have g4 : ((gb : Int) + (R : Int) == 0) = false := beq_eq_false_iff_ne.2 g3
            by_cases g5 : (l : Int) < (gb : Int) + (R : Int)
            · have HE : Hid (leadR bs a ⟨5, d1, d2, d3, d4, gb, d6, d7⟩ l = ((-1, -1), 0, 9)) := lead_bits HS.out rfl (Or.inr (Or.inr (Or.inr (by rw [HR.out]; exact g5))))
              go_enter Tryd.func67, Tryd.ntmps67
              go_upto_region 1 with fail
              rw [← hw1, ← hrc, ← hcb]
              clear hw1 hrc hcb
              go_wp2_with fail
              refine HSZ.out.mono ?_
              rintro e w2 ⟨rfl, rfl⟩
              go_wp2_with fail
              refine (HBL.out _ _ (by omega) (by omega)).mono ?_
              rintro e w3 ⟨rfl, rfl⟩
              rw [HLN.out]
              go_wp2_with fail
              refine bodyPost_ret (v := .tuple #[slV (-1, -1), .int .i64 0, .int .i64 9]) ?_ rfl ⟨by rw [HE.out]; rfl, HFIN.out _ _ _ (Only.refl _ _)⟩
              simp [results, Tryd.results67, go_sem, slV, z0, z1]
            · have hbd : ¬ ((gb : Int) < 0 ∨ 32 < (gb : Int) ∨ (gb : Int) + (radF n : Int) = 0 ∨ (l : Int) < (gb : Int) + (radF n : Int)) := by rw [HR.out]; omega
              have HF1 : Hid (∀ w, Calls Tryd.prog 77 #[.int .u32 (a : Int), .int .i64 ((l : Int) - (gb : Int)), .int .i64 (gb : Int)] w fun e w' => e = .returned (.int .u32 ((digF a l gb : Nat) : Int)) ∧ ∃ q, w' = w.drewN q) := fun w => by
                have e : (l : Int) - (gb : Int) = ((l - gb : Nat) : Int) := by omega
                rw [e]
                exact HFO.out (l - gb) gb (by omega) (by omega) w
              have hw3 : IntKind.i64.wrap ((l : Int) - (gb : Int)) = (l : Int) - (gb : Int) := by rw [IntKind.wrap_i64]; omega
              have hw4 : IntKind.i64.wrap ((l : Int) - (gb : Int) - (R : Int)) = (l : Int) - (gb : Int) - (R : Int) := by rw [IntKind.wrap_i64]; omega
              by_cases g6 : ((digF a l gb : Nat) : Int) = d4
              · have HE : Hid (leadR bs a ⟨5, d1, d2, d3, d4, gb, d6, d7⟩ l = ((d1, ((digF a (l - gb) R : Nat) : Int)), l - gb - R, 0)) := by
                  have := lead_good (bs := bs) (a := a) (c := ⟨5, d1, d2, d3, d4, gb, d6, d7⟩) (l := l) HS.out rfl hbd (by simpa using g6)
                  rw [HR.out] at this
                  show leadR bs a ⟨5, d1, d2, d3, d4, gb, d6, d7⟩ l = ((d1, ((digF a (l - gb) R : Nat) : Int)), l - gb - R, 0)
                  simpa using this
                have HF2 : Hid (∀ w, Calls Tryd.prog 77 #[.int .u32 (a : Int), .int .i64 ((l : Int) - (gb : Int) - (R : Int)), .int .i64 (R : Int)] w fun e w' => e = .returned (.int .u32 ((digF a (l - gb) R : Nat) : Int)) ∧ ∃ q, w' = w.drewN q) := fun w => by
                  have e : (l : Int) - (gb : Int) - (R : Int) = ((l - gb - R : Nat) : Int) := by omega
                  rw [e]
                  exact HFO.out (l - gb - R) R (by omega) (by omega) w
                have hdg : digF a (l - gb) R < 64 := by
                  unfold digF
                  have h1 : a / 2 ^ (l - gb - R) % 2 ^ R < 2 ^ R := Nat.mod_lt _ (Nat.pos_of_ne_zero (by simp))
                  have h2 : 2 ^ R ≤ 2 ^ 6 := Nat.pow_le_pow_right (by decide) hR6
                  omega
                have HD4 : Hid (((digF a l gb : Nat) : Int) = d4) := g6
                have HEQ : Hid ((((l - gb - R : Nat) : Int)) = (l : Int) - (gb : Int) - (R : Int)) := by show (((l - gb - R : Nat) : Int)) = _; omega
                rw [g6] at HF1
                clear g6 hbd
                generalize digF a (l - gb) R = dg at HE HF2 hdg
                go_enter Tryd.func67, Tryd.ntmps67
                go_upto_region 1 with fail
                rw [← hw1, ← hrc, ← hcb]
                clear hw1 hrc hcb
                go_wp2_with fail
                refine HSZ.out.mono ?_
                rintro e w2 ⟨rfl, rfl⟩
                go_wp2_with fail
                refine (HBL.out _ _ (by omega) (by omega)).mono ?_
                rintro e w3 ⟨rfl, rfl⟩
                rw [HLN.out]
                go_wp2_with fail
                go_quiet (refine Calls.quiet_of (HF1.out _))
                go_wp2_with fail
                go_region_law (refine Vx.step_callx rfl 77 #[.tmp 75, .tmp 76, .tmp 77] #[64, 3, 3] rfl #[.int .u32 (a : Int), .int .i64 ((l : Int) - (gb : Int) - (R : Int)), .int .i64 (R : Int)] (by first | rfl | simp [Act.eval, go_sem]) (by simp [go_sem]) (HF2.out _) ?_; rintro e w5 ⟨rfl, q, rfl⟩; refine ⟨_, rfl, ?_⟩)
                all_goals
                  go_wp2_with fail
                  refine bodyPost_ret (v := .tuple #[slV (d1, (dg : Int)), .int .i64 ((l - gb - R : Nat) : Int), .int .i64 0]) ?_ rfl ⟨by rw [HE.out], HFIN.out _ _ _ (by repeat' (first | exact Only.refl _ _ | refine Only.drewN ?_ _ | refine Only.drew ?_))⟩
                  have hwd : IntKind.i64.wrap (dg : Int) = (dg : Int) := by rw [IntKind.wrap_i64]; omega
                  rw [HEQ.out]
                  simp [results, Tryd.results67, go_sem, slV, z0, z1, hwd]
              · have HE : Hid (leadR bs a ⟨5, d1, d2, d3, d4, gb, d6, d7⟩ l = ((-1, -1), 0, 9)) := lead_guard (c := ⟨5, d1, d2, d3, d4, gb, d6, d7⟩) HS.out rfl hbd (by simpa using g6)
                have g7 : (((digF a l gb : Nat) : Int) == d4) = false := beq_eq_false_iff_ne.2 g6
                clear hbd
                go_enter Tryd.func67, Tryd.ntmps67
                go_upto_region 1 with fail
                rw [← hw1, ← hrc, ← hcb]
                clear hw1 hrc hcb
                go_wp2_with fail
                refine HSZ.out.mono ?_
                rintro e w2 ⟨rfl, rfl⟩
                go_wp2_with fail
                refine (HBL.out _ _ (by omega) (by omega)).mono ?_
                rintro e w3 ⟨rfl, rfl⟩
                rw [HLN.out]
                go_wp2_with fail
                go_quiet (refine Calls.quiet_of (HF1.out _))
                go_wp2_with fail
                refine bodyPost_ret (v := .tuple #[slV (-1, -1), .int .i64 0, .int .i64 9]) ?_ rfl ⟨by rw [HE.out]; rfl, HFIN.out _ _ _ (by repeat' (first | exact Only.refl _ _ | refine Only.drewN ?_ _ | refine Only.drew ?_))⟩
                simp [results, Tryd.results67, go_sem, slV, z0, z1]
    · have hk2 : (d0 == 5) = false := beq_eq_false_iff_ne.2 hk
      have HE : Hid (leadR bs a ⟨d0, d1, d2, d3, d4, d5, d6, d7⟩ l = ((-1, -1), 0, 12)) := lead_kind HS.out hk
      go_enter Tryd.func67, Tryd.ntmps67
      go_upto_region 1 with fail
      rw [← hw1, ← hrc, ← hcb]
      clear hw1 hrc hcb
      go_wp2_with fail
      refine HSZ.out.mono ?_
      rintro e w2 ⟨rfl, rfl⟩
      go_wp2_with fail
      refine bodyPost_ret (v := .tuple #[slV (-1, -1), .int .i64 0, .int .i64 12]) ?_ rfl ⟨by rw [HE.out]; rfl, HFIN.out _ _ _ (Only.refl _ _)⟩
      simp [results, Tryd.results67, go_sem, slV, z0, z1]
end Go.Proofs.YtbmchgjilkoplaaDoor

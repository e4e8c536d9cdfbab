import Derived.WalkKit
import Derived.Laws.BitsAllLaws
import Derived.Laws.BitsLemmas
import Derived.Test.YtflmobffeeocdaaGreatDoorRows
import Derived.ProofKit
import Derived.OpenShut
import Derived.WalkSmall
import Derived.WalkLawsBesides
import Derived.Deep.QuietTactic
import Derived.BigQuiet
import Derived.Laws.CopyOwn
import Derived.Deep.WholeRow
import Derived.OwnWalk
/- Plain facts on bits: masks and joins as sums of fields. -/
namespace Go.Vx
open Go.RowKit (wrap32 wrap64)

theorem nat_and_cons (i x m1 m2 : Nat) (h : m2 < 2 ^ i) : x &&& (m1 * 2 ^ i + m2) = ((x / 2 ^ i) &&& m1) * 2 ^ i + (x % 2 ^ i &&& m2) := by
  apply Nat.eq_of_testBit_eq
  intro j
  have h2 : x % 2 ^ i &&& m2 < 2 ^ i := Nat.lt_of_le_of_lt Nat.and_le_right h
  rw [Nat.testBit_and, Nat.mul_comm m1, Nat.testBit_two_pow_mul_add m1 h, Nat.mul_comm _ (2 ^ i), Nat.testBit_two_pow_mul_add _ h2]
  by_cases hj : j < i
  · simp [hj, Nat.testBit_and, Nat.testBit_mod_two_pow]
  · simp [hj, Nat.testBit_and, Nat.testBit_div_two_pow]
    congr 2
    omega

theorem nat_mask (n x : Nat) : x &&& (2 ^ n - 1) = x % 2 ^ n := Nat.and_two_pow_sub_one_eq_mod x n

theorem nat_field (a n x : Nat) : x &&& ((2 ^ n - 1) * 2 ^ a) = x / 2 ^ a % 2 ^ n * 2 ^ a := by
  have := nat_and_cons a x (2 ^ n - 1) 0 (Nat.two_pow_pos a)
  simp only [Nat.add_zero, Nat.and_zero] at this
  rw [this, nat_mask]

/-- A mask of one run of ones, in a word of 32 bits. -/
theorem u32_field (a n : Nat) (A N x m : Int) (h0 : 0 ≤ x) (h1 : x < 4294967296) (hA : A = ((2 ^ a : Nat) : Int)) (hN : N = ((2 ^ n : Nat) : Int)) (hm : m = (((2 ^ n - 1) * 2 ^ a : Nat) : Int)) (hm2 : (2 ^ n - 1) * 2 ^ a < 4294967296) :
    bits .and .u32 x m = x / A % N * A := by
  subst hm hA hN
  rw [u32_and x _ h0 h1 (Int.natCast_nonneg _) (by omega), Int.toNat_natCast, nat_field]
  obtain ⟨n, rfl⟩ := Int.eq_ofNat_of_zero_le h0
  rw [Int.toNat_natCast]
  simp only [Int.natCast_mul, Int.natCast_emod, Int.natCast_ediv]

/-- What lies above a bit, joined with what lies below it. -/
theorem u32_join (i : Nat) (I x y : Int) (hI : I = ((2 ^ i : Nat) : Int)) (hi : 2 ^ i ≤ 4294967296) (h : 0 ≤ x ∧ x < 4294967296 ∧ x % I = 0 ∧ 0 ≤ y ∧ y < I) :
    bits .or .u32 x y = x + y := by
  subst hI
  obtain ⟨h0, h1, hx, hy, hy1⟩ := h
  rw [u32_or x y h0 h1 hy (by omega)]
  obtain ⟨n, rfl⟩ := Int.eq_ofNat_of_zero_le h0
  obtain ⟨k, rfl⟩ := Int.eq_ofNat_of_zero_le hy
  simp only [Int.toNat_natCast]
  rw [nat_join i n k (by omega) (by omega)]
  omega

theorem u32_join3 (i j : Nat) (I J x y z : Int) (hI : I = ((2 ^ i : Nat) : Int)) (hJ : J = ((2 ^ j : Nat) : Int)) (hi : 2 ^ i ≤ 4294967296) (hj : 2 ^ j ≤ 4294967296)
    (h : 0 ≤ x ∧ x < 4294967296 ∧ x % I = 0 ∧ 0 ≤ y ∧ y < I) (h2 : 0 ≤ x + y ∧ x + y < 4294967296 ∧ (x + y) % J = 0 ∧ 0 ≤ z ∧ z < J) :
    bits .or .u32 (bits .or .u32 x y) z = x + y + z := by
  rw [u32_join i I x y hI hi h, u32_join j J (x + y) z hJ hj h2]
theorem u32_join4 (i j k : Nat) (I J K x y z u : Int) (hI : I = ((2 ^ i : Nat) : Int)) (hJ : J = ((2 ^ j : Nat) : Int)) (hK : K = ((2 ^ k : Nat) : Int)) (hi : 2 ^ i ≤ 4294967296) (hj : 2 ^ j ≤ 4294967296) (hk : 2 ^ k ≤ 4294967296)
    (h : 0 ≤ x ∧ x < 4294967296 ∧ x % I = 0 ∧ 0 ≤ y ∧ y < I) (h2 : 0 ≤ x + y ∧ x + y < 4294967296 ∧ (x + y) % J = 0 ∧ 0 ≤ z ∧ z < J)
    (h3 : 0 ≤ x + y + z ∧ x + y + z < 4294967296 ∧ (x + y + z) % K = 0 ∧ 0 ≤ u ∧ u < K) :
    bits .or .u32 (bits .or .u32 (bits .or .u32 x y) z) u = x + y + z + u := by
  rw [u32_join3 i j I J x y z hI hJ hi hj h h2, u32_join k K (x + y + z) u hK hk h3]

/-- The same with a sign above. -/
theorem i32_join (i : Nat) (I x y : Int) (hI : I = ((2 ^ i : Nat) : Int)) (hi : i ≤ 31) (h : -2147483648 ≤ x ∧ x < 2147483648 ∧ x % I = 0 ∧ 0 ≤ y ∧ y < I) :
    bits .or .i32 x y = x + y := by
  subst hI
  obtain ⟨h0, h1, hx, hy, hy1⟩ := h
  have hp : (2 : Nat) ^ i * 2 ^ (32 - i) = 4294967296 := by rw [← Nat.pow_add, show i + (32 - i) = 32 by omega]
  have hle : (2 : Nat) ^ i ≤ 2147483648 := Nat.pow_le_pow_right (n := 2) (by omega) hi
  obtain ⟨k, rfl⟩ := Int.eq_ofNat_of_zero_le hy
  have hb : BitVec.ofInt 32 (k : Int) = BitVec.ofNat 32 k := by simp
  obtain ⟨m, hm⟩ := Int.eq_ofNat_of_zero_le (show 0 ≤ x % 4294967296 by omega)
  have hm2 : m < 4294967296 := by omega
  have ha : (BitVec.ofInt 32 x).toNat = m := by
    simp only [BitVec.toNat_ofInt]
    have : x % ((2 ^ 32 : Nat) : Int) = (m : Int) := by rw [← hm]; rfl
    rw [this, Int.toNat_natCast]
  have hmi : m % 2 ^ i = 0 := by
    have e1 : ((m : Nat) : Int) % (2 ^ i : Nat) = 0 := by
      rw [← hm]
      have hd : ((2 ^ i : Nat) : Int) ∣ (4294967296 : Int) := by
        refine ⟨((2 ^ (32 - i) : Nat) : Int), ?_⟩
        rw [← Int.natCast_mul, hp]; rfl
      rw [Int.emod_emod_of_dvd _ hd]; exact hx
    omega
  have hk : k < 2 ^ i := by omega
  have hxk : x + k < 2147483648 := by
    have hd1 : ((2 ^ i : Nat) : Int) ∣ x := Int.dvd_of_emod_eq_zero hx
    have hd2 : ((2 ^ i : Nat) : Int) ∣ (2147483648 : Int) := by
      refine ⟨((2 ^ (31 - i) : Nat) : Int), ?_⟩
      rw [← Int.natCast_mul, ← Nat.pow_add, show i + (31 - i) = 31 by omega]; rfl
    have := Int.le_of_dvd (show (0 : Int) < 2147483648 - x by omega) (Int.dvd_sub hd2 hd1)
    omega
  show IntKind.i32.wrap ((BitVec.ofInt 32 x ||| BitVec.ofInt 32 (k : Int)).toNat : Int) = x + k
  rw [BitVec.toNat_or, ha, hb, BitVec.toNat_ofNat, Nat.mod_eq_of_lt (show k < 2 ^ 32 by omega), nat_join i m k hmi hk, IntKind.wrap_i32]
  omega
end Go.Vx

/- Memory as a function from places to bytes: pure facts; the relation between worlds. -/
namespace Go.Vx
def byteV (b : UInt8) : Value := .int .u8 (b.toNat : Int)
/-- n bytes from a place on, as cells. -/
def rowL (f : Nat → UInt8) (o n : Nat) : List UInt8 := (List.range n).map fun j => f (o + j)
def rowV (f : Nat → UInt8) (o n : Nat) : List Value := (rowL f o n).map byteV
/-- Bytes laid at a place. -/
def putF (f : Nat → UInt8) (at' : Nat) (s : List UInt8) : Nat → UInt8 := fun x => if at' ≤ x ∧ x < at' + s.length then s.getD (x - at') 0 else f x
theorem length_rowL (f : Nat → UInt8) (o n : Nat) : (rowL f o n).length = n := by simp [rowL]
theorem length_rowV (f : Nat → UInt8) (o n : Nat) : (rowV f o n).length = n := by simp [rowV, rowL]
theorem get_rowL (f : Nat → UInt8) (o n j : Nat) (h : j < n) : (rowL f o n)[j]? = some (f (o + j)) := by
  simp [rowL, h]
theorem get_rowV (f : Nat → UInt8) (o n j : Nat) (h : j < n) : (rowV f o n)[j]? = some (byteV (f (o + j))) := by
  simp [rowV, rowL, h]
theorem rowL_ext {f g : Nat → UInt8} {o n : Nat} (h : ∀ j, j < n → f (o + j) = g (o + j)) : rowL f o n = rowL g o n := by
  unfold rowL
  apply List.map_congr_left
  intro j hj
  exact h j (by simpa using hj)
theorem rowV_ext {f g : Nat → UInt8} {o n : Nat} (h : ∀ j, j < n → f (o + j) = g (o + j)) : rowV f o n = rowV g o n := by
  unfold rowV; rw [rowL_ext h]
theorem oneCell_row (f : Nat → UInt8) (o n : Nat) : ∀ v ∈ rowV f o n, v.oneCell' = true := by
  intro v hv
  simp only [rowV, List.mem_map] at hv
  obtain ⟨b, _, rfl⟩ := hv
  rfl
theorem oneCell_bytes (s : List UInt8) : ∀ v ∈ s.map byteV, v.oneCell' = true := by
  intro v hv
  simp only [List.mem_map] at hv
  obtain ⟨b, _, rfl⟩ := hv
  rfl
theorem putF_nil (f : Nat → UInt8) (a : Nat) : putF f a [] = f := by
  funext x
  unfold putF
  rw [if_neg]
  simp only [List.length_nil]; omega
/-- A piece laid into a row of cells. -/
theorem splice_row (f : Nat → UInt8) (o n k : Nat) (s : List UInt8) (h : k + s.length ≤ n) : splice (rowV f o n) k (s.map byteV) = rowV (putF f (o + k) s) o n := by
  apply List.ext_getElem?
  intro j
  unfold splice
  rw [List.getElem?_append]
  simp only [List.length_take, length_rowV, List.length_map]
  have hm : min k n = k := by omega
  rw [hm]
  by_cases h1 : j < k
  · rw [if_pos h1, List.getElem?_take, if_pos h1, get_rowV _ _ _ _ (by omega), get_rowV _ _ _ _ (by omega)]
    congr 2
    unfold putF
    rw [if_neg (by omega)]
  · rw [if_neg h1, List.getElem?_append]
    simp only [List.length_map]
    by_cases h2 : j - k < s.length
    · rw [if_pos h2, get_rowV _ _ _ _ (by omega)]
      simp only [List.getElem?_map]
      unfold putF
      rw [if_pos (by omega)]
      have e : o + j - (o + k) = j - k := by omega
      rw [e]
      simp [h2]
    · rw [if_neg h2, List.getElem?_drop]
      have e : k + s.length + (j - k - s.length) = j := by omega
      rw [e]
      by_cases h3 : j < n
      · rw [get_rowV _ _ _ _ h3, get_rowV _ _ _ _ h3]
        congr 2
        unfold putF
        rw [if_neg (by omega)]
      · rw [List.getElem?_eq_none (by rw [length_rowV]; omega), List.getElem?_eq_none (by rw [length_rowV]; omega)]
/-- Where nothing of it lies, a row is as it was. -/
theorem row_out (f : Nat → UInt8) (o n a : Nat) (s : List UInt8) (h : a + s.length ≤ o ∨ o + n ≤ a) : rowV (putF f a s) o n = rowV f o n := by
  apply rowV_ext
  intro j hj
  unfold putF
  rw [if_neg (by omega)]
/-- Two pieces, one behind the other. -/
theorem putF_two (f : Nat → UInt8) (a k m : Nat) (s : List UInt8) (h : k ≤ s.length) : putF (putF f a (s.take k)) (a + k) ((s.drop k).take m) = putF f a (s.take (k + m)) := by
  funext x
  unfold putF
  simp only [List.length_take, List.length_drop]
  have e1 : min k s.length = k := by omega
  rw [e1]
  by_cases h1 : a + k ≤ x ∧ x < a + k + min m (s.length - k)
  · rw [if_pos h1, if_pos (by omega)]
    simp only [List.getD_eq_getElem?_getD, List.getElem?_take, List.getElem?_drop]
    rw [if_pos (by omega), if_pos (by omega)]
    congr 2
    omega
  · rw [if_neg h1]
    by_cases h2 : a ≤ x ∧ x < a + k
    · rw [if_pos h2, if_pos (by omega)]
      simp only [List.getD_eq_getElem?_getD, List.getElem?_take]
      rw [if_pos (by omega), if_pos (by omega)]
    · rw [if_neg h2, if_neg (by omega)]
/-- A row's piece behind a place. -/
theorem rowL_drop (f : Nat → UInt8) (o n k : Nat) : (rowL f o n).drop k = rowL f (o + k) (n - k) := by
  apply List.ext_getElem?
  intro j
  rw [List.getElem?_drop]
  by_cases h : j < n - k
  · rw [get_rowL _ _ _ _ (by omega), get_rowL _ _ _ _ h, Nat.add_assoc]
  · rw [List.getElem?_eq_none (by rw [length_rowL]; omega), List.getElem?_eq_none (by rw [length_rowL]; omega)]
/-- A row of zeros. -/
theorem row_nought (f : Nat → UInt8) (o n : Nat) (h : ∀ j, j < n → f (o + j) = 0) : rowV f o n = List.replicate n (.int .u8 0) := by
  apply List.ext_getElem?
  intro j
  by_cases hj : j < n
  · rw [get_rowV _ _ _ _ hj, h j hj]
    simp [hj, byteV]
  · rw [List.getElem?_eq_none (by rw [length_rowV]; omega)]
    simp [hj]
def ptrV (o : Option Nat) : Value := .pointer (o.map fun b => ⟨b, 0, none⟩)
def ptrs (q : Nat → Option Nat) (n : Nat) : List Value := (List.range n).map fun i => ptrV (q i)
theorem length_ptrs (q : Nat → Option Nat) (n : Nat) : (ptrs q n).length = n := by simp [ptrs]
theorem get_ptrs (q : Nat → Option Nat) (n i : Nat) (h : i < n) : (ptrs q n)[i]? = some (ptrV (q i)) := by simp [ptrs, h]
def qput (q : Nat → Option Nat) (p b : Nat) : Nat → Option Nat := fun i => if i = p then some b else q i
theorem ptrs_set (q : Nat → Option Nat) (n p b : Nat) : (ptrs q n).set p (ptrV (some b)) = ptrs (qput q p b) n := by
  apply List.ext_getElem?
  intro j
  rw [List.getElem?_set]
  by_cases hj : j < n
  · rw [get_ptrs _ _ _ hj, length_ptrs]
    by_cases hp : p = j
    · subst hp
      rw [if_pos rfl, if_pos hj, get_ptrs _ _ _ hj]
      simp [qput]
    · rw [if_neg hp, get_ptrs _ _ _ hj]
      have hn : ¬ j = p := fun e => hp e.symm
      simp only [qput, if_neg hn]
  · rw [List.getElem?_eq_none (l := ptrs (qput q p b) n) (by rw [length_ptrs]; omega), length_ptrs]
    by_cases hp : p = j
    · rw [if_pos hp, if_neg (by omega)]
    · rw [if_neg hp, List.getElem?_eq_none (by rw [length_ptrs]; omega)]
def strV (s : List UInt8) : Value := .string ⟨s.toArray⟩
/-- All but the blocks in S, and new ones, is as it was. -/
structure Only (S : Nat → Prop) (w w' : World) : Prop where
  os : w'.os = w.os
  tape : w'.tape = w.tape
  output : w'.output = w.output
  size : w.heap.size ≤ w'.heap.size
  block : ∀ k, k < w.heap.size → ¬ S k → w'.heap[k]? = w.heap[k]?
theorem Only.refl (S : Nat → Prop) (w : World) : Only S w w := ⟨rfl, rfl, rfl, Nat.le_refl _, fun _ _ _ => rfl⟩
theorem Only.trans {S : Nat → Prop} {a b c : World} (h : Only S a b) (k : Only S b c) : Only S a c :=
  ⟨k.os.trans h.os, k.tape.trans h.tape, k.output.trans h.output, Nat.le_trans h.size k.size, fun i hi hs => (k.block i (Nat.lt_of_lt_of_le hi h.size) hs).trans (h.block i hi hs)⟩
theorem Only.mono {S T : Nat → Prop} {a b : World} (h : Only S a b) (hs : ∀ k, k < a.heap.size → S k → T k) : Only T a b :=
  ⟨h.os, h.tape, h.output, h.size, fun k hk hn => h.block k hk (fun s => hn (hs k hk s))⟩
theorem Only.alloc {S : Nat → Prop} {a w : World} (h : Only S a w) (o : Obj) : Only S a (w.alloc o) :=
  h.trans ⟨rfl, rfl, rfl, by simp, fun k hk _ => RowKit.Below.heap_alloc _ _ _ hk⟩
theorem Only.setCell {S : Nat → Prop} {a w : World} (h : Only S a w) {p : Addr} (hp : S p.block ∨ a.heap.size ≤ p.block) (u : Value) : Only S a (w.setCell p u) :=
  ⟨h.os, h.tape, h.output, by simp [World.setCell]; exact h.size, fun k hk hn => by
    rw [RowKit.Below.heap_setCell _ _ _ _ (fun e => by subst e; rcases hp with hp | hp; exact hn hp; omega)]
    exact h.block k hk hn⟩
theorem Only.setRow {S : Nat → Prop} {a w : World} (h : Only S a w) {g : Nat} (hp : S g ∨ a.heap.size ≤ g) (cs : Array Value) : Only S a (w.setRow g cs) :=
  ⟨h.os, h.tape, h.output, by simp [World.setRow]; exact h.size, fun k hk hn => by
    rw [setRow_other w g k cs (fun e => by subst e; rcases hp with hp | hp; exact hn hp; omega)]
    exact h.block k hk hn⟩
theorem Only.drew {S : Nat → Prop} {a w : World} (h : Only S a w) : Only S a w.drew := ⟨h.os, h.tape, h.output, h.size, h.block⟩
theorem Only.drewN {S : Nat → Prop} {a w : World} (h : Only S a w) (n : Nat) : Only S a (w.drewN n) := ⟨h.os, h.tape, h.output, h.size, h.block⟩
theorem Only.of_below {B : Nat} {S : Nat → Prop} {w w' : World} (h : RowKit.Below B w w') (hB : ∀ k, k < w.heap.size → B ≤ k → S k) : Only S w w' :=
  ⟨h.os, h.tape, h.output, h.size, fun k hk hn => h.block k (Nat.lt_of_not_le fun hb => hn (hB k hk hb))⟩
theorem Only.below {B : Nat} {S : Nat → Prop} {w w' : World} (h : Only S w w') (hB : B ≤ w.heap.size) (hs : ∀ k, k < B → ¬ S k) : RowKit.Below B w w' :=
  ⟨h.os, h.tape, h.output, h.size, fun k hk => h.block k (Nat.lt_of_lt_of_le hk hB) (hs k hk)⟩
theorem Only.cell {S : Nat → Prop} {w w' : World} (h : Only S w w') {p : Addr} (hk : p.block < w.heap.size) (hn : ¬ S p.block) : w'.cell? p = w.cell? p := World.cell?_of_block (w := w) (h.block p.block hk hn)
theorem only_row (w : World) (g : Nat) (cs : Array Value) : Only (fun k => k = g) w (w.setRow g cs) := Only.setRow (S := fun k => k = g) (Only.refl _ w) (Or.inl rfl) cs
theorem addr_add (b o j : Nat) : (⟨b, o, none⟩ : Addr).add j = ⟨b, o + j, none⟩ := by unfold Addr.add; split <;> simp_all
theorem hid {p : Prop} (h : p) : RowKit.Hid p := h
theorem lt_of_some {w : World} {b : Nat} {o : Obj} (h : w.heap[b]? = some o) : b < w.heap.size := (Array.getElem?_eq_some_iff.1 h).1
end Go.Vx

/- Walks of package mem: a memory where it lies; holds, split, seen, made, New. -/
namespace Go.Proofs.YtflmobffeeocdaaGreatDoor
open Go.ChangeShapes Go.WideShapes Go.ChangeAt Go.RowKit
open Go.Vx

theorem ret_val {a b : Value} (h : a = b) : Ending.returned a = .returned b := by rw [h]
/-- A memory of n pages, whose bytes are f; it lies in blocks outside U. -/
structure MemIs (U : Nat → Prop) (w : World) (bm bp n : Nat) (q : Nat → Option Nat) (f : Nat → UInt8) : Prop where
  pos : 1 ≤ n
  top : n ≤ 256
  m : w.heap[bm]? = some (.cells #[.slice (some ⟨bp, 0, none⟩) n n] 62 (0, 0))
  p : w.heap[bp]? = some (.cells (ptrs q n).toArray 67 (0, 0))
  nil : ∀ i, i < n → q i = none → ∀ j, j < 4096 → f (4096 * i + j) = 0
  pg : ∀ i, i < n → ∀ b, q i = some b → w.heap[b]? = some (.cells (rowV f (4096 * i) 4096).toArray 108 (0, 0))
  inj : ∀ i j b, i < n → j < n → q i = some b → q j = some b → i = j
  um : ¬ U bm
  up : ¬ U bp
  ug : ∀ i b, i < n → q i = some b → ¬ U b
  low : ∀ k, U k → k < w.heap.size
/-- The same, with its rows somewhere. -/
def MemAt (U : Nat → Prop) (w : World) (bm n : Nat) (f : Nat → UInt8) : Prop := ∃ bp q, MemIs U w bm bp n q f
theorem MemIs.only {U S : Nat → Prop} {w w' : World} {bm bp n : Nat} {q : Nat → Option Nat} {f : Nat → UInt8} (h : MemIs U w bm bp n q f) (ho : Only S w w') (hS : ∀ k, S k → k < w.heap.size → U k) : MemIs U w' bm bp n q f := by
  have hk : ∀ b o, w.heap[b]? = some o → ¬ U b → w'.heap[b]? = some o := fun b o hb hu => by
    rw [ho.block b (lt_of_some hb) (fun s => hu (hS b s (lt_of_some hb)))]; exact hb
  exact ⟨h.pos, h.top, hk _ _ h.m h.um, hk _ _ h.p h.up, h.nil, fun i hi b hb => hk _ _ (h.pg i hi b hb) (h.ug i b hi hb), h.inj, h.um, h.up, h.ug, fun k hu => Nat.lt_of_lt_of_le (h.low k hu) ho.size⟩
theorem MemAt.only {U S : Nat → Prop} {w w' : World} {bm n : Nat} {f : Nat → UInt8} (h : MemAt U w bm n f) (ho : Only S w w') (hS : ∀ k, S k → k < w.heap.size → U k) : MemAt U w' bm n f := by
  obtain ⟨bp, q, h⟩ := h
  exact ⟨bp, q, h.only ho hS⟩
theorem MemIs.ne {U : Nat → Prop} {w : World} {bm bp n : Nat} {q : Nat → Option Nat} {f : Nat → UInt8} (h : MemIs U w bm bp n q f) : bm ≠ bp := by
  intro e
  have h1 := h.m
  have h2 := h.p
  rw [← e, h1] at h2
  simp at h2
theorem MemIs.pne {U : Nat → Prop} {w : World} {bm bp n : Nat} {q : Nat → Option Nat} {f : Nat → UInt8} (h : MemIs U w bm bp n q f) {i b : Nat} (hi : i < n) (hq : q i = some b) : b ≠ bm ∧ b ≠ bp := by
  have h3 := h.pg i hi b hq
  refine ⟨fun e => ?_, fun e => ?_⟩
  · have h1 := h.m
    rw [← e, h3] at h1
    simp at h1
  · have h1 := h.p
    rw [← e, h3] at h1
    simp at h1
theorem MemIs.cm {U : Nat → Prop} {w : World} {bm bp n : Nat} {q : Nat → Option Nat} {f : Nat → UInt8} (h : MemIs U w bm bp n q f) : w.cell? ⟨bm, 0, none⟩ = some (.slice (some ⟨bp, 0, none⟩) n n) := by
  rw [cell_of_row _ _ 0 _ _ (0, 0) h.m]; rfl
theorem MemIs.cp {U : Nat → Prop} {w : World} {bm bp n : Nat} {q : Nat → Option Nat} {f : Nat → UInt8} (h : MemIs U w bm bp n q f) {i : Nat} (hi : i < n) : w.cell? ⟨bp, i, none⟩ = some (ptrV (q i)) := by
  rw [cell_of_row _ _ i _ _ (0, 0) h.p]
  simpa using get_ptrs q n i hi
theorem MemIs.cg {U : Nat → Prop} {w : World} {bm bp n : Nat} {q : Nat → Option Nat} {f : Nat → UInt8} (h : MemIs U w bm bp n q f) {i b : Nat} (hi : i < n) (hq : q i = some b) {j : Nat} (hj : j < 4096) : w.cell? ⟨b, j, none⟩ = some (byteV (f (4096 * i + j))) := by
  rw [cell_of_row _ _ j _ _ (0, 0) (h.pg i hi b hq)]
  simpa using get_rowV f (4096 * i) 4096 j hj

/-- Are k bytes from a place on there? -/
def insB (n : Nat) (a k : Int) : Bool := decide (0 ≤ a) && decide (a ≤ (n : Int) * 4096) && decide (0 ≤ k) && decide (k ≤ (n : Int) * 4096 - a)
theorem holds_any {U : Nat → Prop} {w : World} {bm n : Nat} {f : Nat → UInt8} (h : MemAt U w bm n f) (a k : Int) :
    Calls Tryz.prog 20 #[.pointer (some ⟨bm, 0, none⟩), .int .i64 a, .int .i64 k] w fun e w' => e = .returned (.bool (insB n a k)) ∧ w' = w := by
  obtain ⟨bp, q, h⟩ := h
  have hcm := h.cm
  have hw1 : IntKind.i64.wrap ((n : Int) * 4096) = (n : Int) * 4096 := by have := h.top; rw [IntKind.wrap_i64]; omega
  have hn1 : (n : Int) ≤ 256 := by have := h.top; omega
  have HT : Hid (insB n a k = (decide (0 ≤ a) && decide (a ≤ (n : Int) * 4096) && decide (0 ≤ k) && decide (k ≤ (n : Int) * 4096 - a))) := rfl
  have hw2 : 0 ≤ a → a ≤ (n : Int) * 4096 → IntKind.i64.wrap ((n : Int) * 4096 - a) = (n : Int) * 4096 - a := fun h1 h2 => by rw [IntKind.wrap_i64]; omega
  clear h
  generalize insB n a k = b at HT
  by_cases c1 : 0 ≤ a
  · by_cases c2 : a ≤ (n : Int) * 4096
    · by_cases c3 : 0 ≤ k
      · have hw3 := hw2 c1 c2
        clear hw2
        go_enter Tryz.func20, Tryz.ntmps20
        go_wp2
        all_goals
          go_ret
          refine ⟨?_, rfl⟩
          rw [HT.out]
          refine ret_val (congrArg Value.bool ?_)
          rw [Bool.eq_iff_iff]
          simp [c1, c2, c3]
          try omega
      · clear hw2
        go_enter Tryz.func20, Tryz.ntmps20
        go_wp2
        all_goals
          go_ret
          refine ⟨?_, rfl⟩
          rw [HT.out, show decide (0 ≤ k) = false from decide_eq_false (by omega)]
          simp
    · clear hw2
      go_enter Tryz.func20, Tryz.ntmps20
      go_wp2
      all_goals
        go_ret
        refine ⟨?_, rfl⟩
        rw [HT.out, show decide (a ≤ (n : Int) * 4096) = false from decide_eq_false (by omega)]
        simp
  · clear hw2
    go_enter Tryz.func20, Tryz.ntmps20
    go_wp2
    all_goals
      go_ret
      refine ⟨?_, rfl⟩
      rw [HT.out, show decide (0 ≤ a) = false from decide_eq_false (by omega)]
      simp
theorem split_any (x : Nat) (hx : x ≤ 1048576) (w : World) :
    Calls Tryz.prog 21 #[.int .i64 (x : Int)] w fun e w' => e = .returned (.tuple #[.int .i64 ((x / 4096 : Nat) : Int), .int .i64 ((x % 4096 : Nat) : Int)]) ∧ w' = w := by
  have h1 : Int.tdiv (x : Int) 4096 = ((x / 4096 : Nat) : Int) := by rw [Int.tdiv_eq_ediv_of_nonneg (by omega)]; omega
  have h2 : Int.tmod (x : Int) 4096 = ((x % 4096 : Nat) : Int) := by rw [Int.tmod_eq_emod_of_nonneg (by omega)]; omega
  have h3 : IntKind.i64.wrap ((x / 4096 : Nat) : Int) = ((x / 4096 : Nat) : Int) := by rw [IntKind.wrap_i64]; omega
  have h4 : IntKind.i64.wrap ((x % 4096 : Nat) : Int) = ((x % 4096 : Nat) : Int) := by rw [IntKind.wrap_i64]; omega
  generalize hp : x / 4096 = p at *
  generalize ho : x % 4096 = o at *
  clear hp ho
  go_enter Tryz.func21, Tryz.ntmps21
  go_wp2
  all_goals
    go_ret2
    exact ⟨rfl, rfl⟩
end Go.Proofs.YtflmobffeeocdaaGreatDoor

/- Walks of package mem: seen, made, New, Pages. -/
namespace Go.Proofs.YtflmobffeeocdaaGreatDoor
open Go.ChangeShapes Go.WideShapes Go.ChangeAt Go.RowKit
open Go.Vx

set_option maxRecDepth 100000 in
theorem infoPage : (Tryz.prog.info? 108).map (fun i => (i.zero, i.size)) = some (some (.agg (List.replicate 4096 (.int .u8 0)).toArray), 4096) := by kernel_rfl
theorem infoPtr : (Tryz.prog.info? 67).map (fun i => (i.zero, i.size, i.bytes)) = some (some (.pointer none), 1, 8) := by kernel_rfl
theorem infoByte : (Tryz.prog.info? 5).map (fun i => (i.zero, i.size, i.bytes)) = some (some (.int .u8 0), 1, 1) := by kernel_rfl
/-- A new page, as the walk makes it. -/
def Zpage : Array Value := (List.replicate 4096 (Value.int .u8 0)).toArray
theorem zero_page : ∀ w, (zeroValue 108).run Tryz.prog w = .ok (.agg Zpage) w := (zero_of_info (P := Tryz.prog) infoPage).1
theorem zpage_row (f : Nat → UInt8) (o : Nat) (h : ∀ j, j < 4096 → f (o + j) = 0) : (rowV f o 4096).toArray = Zpage := by
  rw [row_nought f o 4096 h]
  rfl
theorem seen_any {U : Nat → Prop} {w : World} {bm n : Nat} {f : Nat → UInt8} (h : MemAt U w bm n f) (p : Nat) (hp : p < n) :
    Calls Tryz.prog 57 #[.pointer (some ⟨bm, 0, none⟩), .int .i64 (p : Int)] w fun e w' => ∃ b, e = .returned (.pointer (some ⟨b, 0, none⟩)) ∧ w'.heap[b]? = some (.cells (rowV f (4096 * p) 4096).toArray 108 (0, 0)) ∧ Only (fun _ => False) w w' := by
  obtain ⟨bp, q, h⟩ := h
  have hcm := h.cm
  have hcp := h.cp hp
  have hidx : 0 ≤ (p : Int) ∧ (p : Int) < (n : Int) := by omega
  have HM : Hid (MemIs U w bm bp n q f) := h
  clear h
  cases hq : q p with
  | none =>
    rw [hq] at hcp
    have hcp2 : w.cell? ⟨bp, p, none⟩ = some (.pointer none) := hcp
    have HQ : Hid (q p = none) := hq
    have hal := zero_page
    clear hcp hq
    go_enter Tryz.func57, Tryz.ntmps57
    go_wp2
    all_goals
      go_ret
      refine ⟨_, rfl, ?_, (Only.refl _ w).alloc _⟩
      rw [zpage_row f (4096 * p) (HM.out.nil p hp HQ.out)]
      exact heap_alloc_last w _
  | some b =>
    rw [hq] at hcp
    have hcp2 : w.cell? ⟨bp, p, none⟩ = some (.pointer (some ⟨b, 0, none⟩)) := hcp
    have HQ : Hid (q p = some b) := hq
    clear hcp hq
    go_enter Tryz.func57, Tryz.ntmps57
    go_wp2
    all_goals
      go_ret
      exact ⟨_, rfl, HM.out.pg p hp b HQ.out, Only.refl _ w⟩
/-- A world with a new page in a memory. -/
theorem MemIs.made {U : Nat → Prop} {w : World} {bm bp n : Nat} {q : Nat → Option Nat} {f : Nat → UInt8} (h : MemIs U w bm bp n q f) {p : Nat} (hp : p < n) (hq : q p = none) :
    MemIs U ((w.alloc (.cells Zpage 108)).setCell ⟨bp, p, none⟩ (.pointer (some ⟨w.heap.size, 0, none⟩))) bm bp n (qput q p w.heap.size) f ∧ Only (fun k => ¬ U k) w ((w.alloc (.cells Zpage 108)).setCell ⟨bp, p, none⟩ (.pointer (some ⟨w.heap.size, 0, none⟩))) := by
  have hlt := lt_of_some h.p
  have hn : ∀ b o, w.heap[b]? = some o → b ≠ bp → ((w.alloc (.cells Zpage 108)).setCell ⟨bp, p, none⟩ (.pointer (some ⟨w.heap.size, 0, none⟩))).heap[b]? = some o := fun b o hb hne => by
    rw [RowKit.Below.heap_setCell _ _ _ _ hne, RowKit.Below.heap_alloc _ _ _ (lt_of_some hb)]; exact hb
  refine ⟨⟨h.pos, h.top, hn _ _ h.m h.ne, ?_, ?_, ?_, ?_, h.um, h.up, ?_, ?_⟩, ?_⟩
  · have h1 : (w.alloc (.cells Zpage 108)).heap[bp]? = some (.cells (ptrs q n).toArray 67 (0, 0)) := by
      rw [RowKit.Below.heap_alloc _ _ _ hlt]; exact h.p
    rw [heap_setCell_same _ bp p _ _ _ h1]
    congr 2
    have := ptrs_set q n p w.heap.size
    rw [← this]
    simp [ptrV]
  · intro i hi hqi j hj
    refine h.nil i hi ?_ j hj
    unfold qput at hqi
    split at hqi
    · cases hqi
    · exact hqi
  · intro i hi b hb
    unfold qput at hb
    split at hb
    · obtain rfl : w.heap.size = b := by simpa using hb
      subst i
      rw [RowKit.Below.heap_setCell _ _ _ _ (by show w.heap.size ≠ bp; omega), heap_alloc_last, zpage_row f (4096 * p) (h.nil p hp hq)]
    · exact hn _ _ (h.pg i hi b hb) (h.pne hi hb).2
  · intro i j b hi hj h1 h2
    unfold qput at h1 h2
    split at h1 <;> split at h2
    · omega
    · have : w.heap.size = b := by simpa using h1
      have := lt_of_some (h.pg j hj b h2)
      omega
    · have : w.heap.size = b := by simpa using h2
      have := lt_of_some (h.pg i hi b h1)
      omega
    · exact h.inj i j b hi hj h1 h2
  · intro i b hi hb hu
    unfold qput at hb
    split at hb
    · have : w.heap.size = b := by simpa using hb
      have := h.low b hu
      omega
    · exact h.ug i b hi hb hu
  · intro k hk
    have := h.low k hk
    simp [World.setCell]
    omega
  · exact ((Only.refl _ w).alloc _).setCell (Or.inl h.up) _
theorem made_any {U : Nat → Prop} {w : World} {bm bp n : Nat} {q : Nat → Option Nat} {f : Nat → UInt8} (h : MemIs U w bm bp n q f) (p : Nat) (hp : p < n) :
    Calls Tryz.prog 22 #[.pointer (some ⟨bm, 0, none⟩), .int .i64 (p : Int)] w fun e w' => ∃ b q', e = .returned (.pointer (some ⟨b, 0, none⟩)) ∧ MemIs U w' bm bp n q' f ∧ q' p = some b ∧ Only (fun k => ¬ U k) w w' := by
  have hcm := h.cm
  have hcp := h.cp hp
  have hidx : 0 ≤ (p : Int) ∧ (p : Int) < (n : Int) := by omega
  have HM : Hid (MemIs U w bm bp n q f) := h
  clear h
  cases hq : q p with
  | none =>
    rw [hq] at hcp
    have hcp2 : w.cell? ⟨bp, p, none⟩ = some (.pointer none) := hcp
    have HQ : Hid (q p = none) := hq
    have hal := zero_page
    have hlt : bp < w.heap.size := lt_of_some HM.out.p
    have hcA : ∀ o, (w.alloc o).cell? ⟨bm, 0, none⟩ = some (.slice (some ⟨bp, 0, none⟩) n n) := fun o => by
      rw [((Only.refl (fun _ => False) w).alloc o).cell (p := ⟨bm, 0, none⟩) (lt_of_some HM.out.m) (fun h => h)]; exact hcm
    have hcB : ∀ o, (w.alloc o).cell? ⟨bp, p, none⟩ = some (.pointer none) := fun o => by
      rw [((Only.refl (fun _ => False) w).alloc o).cell (p := ⟨bp, p, none⟩) hlt (fun h => h)]; exact hcp2
    have hfB : ∀ o, (w.alloc o).frozen? ⟨bp, p, none⟩ = false := fun o => by
      have h1 : (w.alloc o).heap[bp]? = some (.cells (ptrs q n).toArray 67 (0, 0)) := by
        rw [RowKit.Below.heap_alloc _ _ _ hlt]; exact HM.out.p
      simp [World.frozen?, h1]
    have hcC : ∀ o v, ((w.alloc o).setCell ⟨bp, p, none⟩ v).cell? ⟨bm, 0, none⟩ = some (.slice (some ⟨bp, 0, none⟩) n n) := fun o v => by
      rw [World.cell?_setCell_other _ _ _ _ (by intro e; have := HM.out.ne; injection e with e1; omega)]; exact hcA o
    have hcD : ∀ o v, ((w.alloc o).setCell ⟨bp, p, none⟩ v).cell? ⟨bp, p, none⟩ = some v := fun o v => World.cell?_setCell_same _ _ _ (hcB o)
    clear hcp hq hlt
    go_enter Tryz.func22, Tryz.ntmps22
    go_wp2
    all_goals
      go_ret
      obtain ⟨h1, h2⟩ := HM.out.made hp HQ.out
      exact ⟨_, _, rfl, h1, by simp [qput], h2⟩
  | some b =>
    rw [hq] at hcp
    have hcp2 : w.cell? ⟨bp, p, none⟩ = some (.pointer (some ⟨b, 0, none⟩)) := hcp
    have HQ : Hid (q p = some b) := hq
    clear hcp hq
    go_enter Tryz.func22, Tryz.ntmps22
    go_wp2
    all_goals
      go_ret
      exact ⟨_, q, rfl, HM.out, HQ.out, Only.refl _ w⟩
theorem made_ptrs (n : Nat) : madeCells #[.pointer none] n = (ptrs (fun _ => none) n).toArray := by
  unfold madeCells ptrs
  apply Array.ext'
  simp
  intro i _
  simp [ptrV, Nat.mod_one]
theorem made_bytes (n : Nat) : madeCells #[.int .u8 0] n = (rowV (fun _ => 0) 0 n).toArray := by
  unfold madeCells rowV rowL
  apply Array.ext'
  simp
  intro i _
  simp [byteV, Nat.mod_one]
theorem make_ptrs (n : Nat) (h : n ≤ 256) (w : World) : (Instr.makeSlice 60 (.int .i64 (n : Int)) (.int .i64 (n : Int))).run Tryz.prog w = .ok (.slice (some ⟨w.heap.size, 0, none⟩) n n) (w.alloc (.cells (ptrs (fun _ => none) n).toArray 67)) := by
  have hi := infoPtr
  cases hq : Tryz.prog.info? 67 with
  | none => rw [hq] at hi; simp at hi
  | some i =>
    rw [hq] at hi
    simp only [Option.map_some, Option.some.injEq, Prod.mk.injEq] at hi
    have := run_make (P := Tryz.prog) w 60 67 i (.pointer none) Tryz.underlying60 hq hi.1 .i64 .i64 n n (by omega) (by omega) (by rw [hi.2.2]; omega) (by omega)
    rw [this, hi.2.1, Nat.mul_one]
    simp only [Int.toNat_natCast, Value.cells]
    rw [made_ptrs]
theorem make_bytes (n : Nat) (h : n ≤ 1048576) (w : World) : (Instr.makeSlice 66 (.int .i64 (n : Int)) (.int .i64 (n : Int))).run Tryz.prog w = .ok (.slice (some ⟨w.heap.size, 0, none⟩) n n) (w.alloc (.cells (rowV (fun _ => 0) 0 n).toArray 5)) := by
  have hi := infoByte
  cases hq : Tryz.prog.info? 5 with
  | none => rw [hq] at hi; simp at hi
  | some i =>
    rw [hq] at hi
    simp only [Option.map_some, Option.some.injEq, Prod.mk.injEq] at hi
    have := run_make (P := Tryz.prog) w 66 5 i (.int .u8 0) Tryz.underlying66 hq hi.1 .i64 .i64 n n (by omega) (by omega) (by rw [hi.2.2]; omega) (by omega)
    rw [this, hi.2.1, Nat.mul_one]
    simp only [Int.toNat_natCast, Value.cells]
    rw [made_bytes]
theorem new_no (n : Int) (hn : n < 1 ∨ 256 < n) (w : World) :
    Calls Tryz.prog 9 #[.int .i64 n] w fun e w' => e = .returned (.tuple #[.pointer none, .int .i64 1]) ∧ w' = w := by
  by_cases h1 : n < 1
  · clear hn
    go_enter Tryz.func9, Tryz.ntmps9
    go_wp2
    all_goals
      go_ret2
      exact ⟨rfl, rfl⟩
  · have h2 : 256 < n := by omega
    clear hn
    go_enter Tryz.func9, Tryz.ntmps9
    go_wp2
    all_goals
      go_ret2
      exact ⟨rfl, rfl⟩
theorem new_ok (n : Nat) (h1 : 1 ≤ n) (h2 : n ≤ 256) (w : World) :
    Calls Tryz.prog 9 #[.int .i64 (n : Int)] w fun e w' => ∃ bm, e = .returned (.tuple #[.pointer (some ⟨bm, 0, none⟩), .int .i64 0]) ∧ w.heap.size ≤ bm ∧ bm < w'.heap.size ∧ Only (fun _ => False) w w' ∧ ∀ U, (∀ k, U k → k < w.heap.size) → MemAt U w' bm n (fun _ => 0) := by
  have hmk := make_ptrs n h2 w
  have c1 : ¬ (n : Int) < 1 := by omega
  have c2 : ¬ 256 < (n : Int) := by omega
  have H12 : Hid (1 ≤ n ∧ n ≤ 256) := ⟨h1, h2⟩
  clear h1 h2
  go_enter Tryz.func9, Tryz.ntmps9
  go_wp2
  all_goals
    go_ret2
    refine ⟨_, rfl, ?_, ?_, ((Only.refl _ w).alloc _).alloc _, ?_⟩
    · simp
    · simp
    · intro U hU
      refine ⟨w.heap.size, fun _ => none, H12.out.1, H12.out.2, ?_, ?_, fun _ _ _ _ _ => rfl, fun _ _ _ hb => (by cases hb), fun _ _ _ _ _ hb => (by cases hb), ?_, ?_, fun _ _ _ hb => (by cases hb), ?_⟩
      · have := heap_alloc_last (w.alloc (.cells (ptrs (fun _ => none) n).toArray 67)) (.cells #[.slice (some ⟨w.heap.size, 0, none⟩) n n] 62)
        simpa using this
      · rw [RowKit.Below.heap_alloc _ _ _ (by simp)]; exact heap_alloc_last _ _
      · intro hu; have := hU _ hu; omega
      · intro hu; have := hU _ hu; omega
      · intro k hk; have := hU k hk; simp; omega
end Go.Proofs.YtflmobffeeocdaaGreatDoor

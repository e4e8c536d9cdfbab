import Derived.Test.YtbmchgjilkoplaaDoorRows
import Derived.WalkKit
import Derived.ProofKit
import Derived.OpenShut
import Derived.WalkSmall
import Derived.WalkLawsBesides
import Derived.Deep.QuietTactic
import Derived.BigQuiet
import Derived.Laws.CopyOwn
import Derived.Deep.WholeRow
import Derived.OwnWalk
/- Memory as a function from places to bytes: pure facts; the relation between worlds. -/
namespace Go.Vx
def byteV (b : UInt8) : Value := .int .u8 (b.toNat : Int)
/-- n bytes from a place on, as cells. -/
def rowL (f : Nat → UInt8) (o n : Nat) : List UInt8 := (List.range n).map fun j => f (o + j)
def rowV (f : Nat → UInt8) (o n : Nat) : List Value := (rowL f o n).map byteV
/-- Bytes laid at a place. -/
def putF (f : Nat → UInt8) (at' : Nat) (s : List UInt8) : Nat → UInt8 := fun x => if at' ≤ x ∧ x < at' + s.length then s.getD (x - at') 0 else f x
theorem length_rowL (f : Nat → UInt8) (o n : Nat) : (rowL f o n).length = n := by simp [rowL]
theorem length_rowV (f : Nat → UInt8) (o n : Nat) : (rowV f o n).length = n := by simp [rowV, rowL]
theorem get_rowL (f : Nat → UInt8) (o n j : Nat) (h : j < n) : (rowL f o n)[j]? = some (f (o + j)) := by
  simp [rowL, h]
theorem get_rowV (f : Nat → UInt8) (o n j : Nat) (h : j < n) : (rowV f o n)[j]? = some (byteV (f (o + j))) := by
  simp [rowV, rowL, h]
theorem rowL_ext {f g : Nat → UInt8} {o n : Nat} (h : ∀ j, j < n → f (o + j) = g (o + j)) : rowL f o n = rowL g o n := by
  unfold rowL
  apply List.map_congr_left
  intro j hj
  exact h j (by simpa using hj)
theorem rowV_ext {f g : Nat → UInt8} {o n : Nat} (h : ∀ j, j < n → f (o + j) = g (o + j)) : rowV f o n = rowV g o n := by
  unfold rowV; rw [rowL_ext h]
theorem oneCell_row (f : Nat → UInt8) (o n : Nat) : ∀ v ∈ rowV f o n, v.oneCell' = true := by
  intro v hv
  simp only [rowV, List.mem_map] at hv
  obtain ⟨b, _, rfl⟩ := hv
  rfl
theorem oneCell_bytes (s : List UInt8) : ∀ v ∈ s.map byteV, v.oneCell' = true := by
  intro v hv
  simp only [List.mem_map] at hv
  obtain ⟨b, _, rfl⟩ := hv
  rfl
theorem putF_nil (f : Nat → UInt8) (a : Nat) : putF f a [] = f := by
  funext x
  unfold putF
  rw [if_neg]
  simp only [List.length_nil]; omega
/-- A piece laid into a row of cells. -/
theorem splice_row (f : Nat → UInt8) (o n k : Nat) (s : List UInt8) (h : k + s.length ≤ n) : splice (rowV f o n) k (s.map byteV) = rowV (putF f (o + k) s) o n := by
  apply List.ext_getElem?
  intro j
  unfold splice
  rw [List.getElem?_append]
  simp only [List.length_take, length_rowV, List.length_map]
  have hm : min k n = k := by omega
  rw [hm]
  by_cases h1 : j < k
  · rw [if_pos h1, List.getElem?_take, if_pos h1, get_rowV _ _ _ _ (by omega), get_rowV _ _ _ _ (by omega)]
    congr 2
    unfold putF
    rw [if_neg (by omega)]
  · rw [if_neg h1, List.getElem?_append]
    simp only [List.length_map]
    by_cases h2 : j - k < s.length
    · rw [if_pos h2, get_rowV _ _ _ _ (by omega)]
      simp only [List.getElem?_map]
      unfold putF
      rw [if_pos (by omega)]
      have e : o + j - (o + k) = j - k := by omega
      rw [e]
      simp [h2]
    · rw [if_neg h2, List.getElem?_drop]
      have e : k + s.length + (j - k - s.length) = j := by omega
      rw [e]
      by_cases h3 : j < n
      · rw [get_rowV _ _ _ _ h3, get_rowV _ _ _ _ h3]
        congr 2
        unfold putF
        rw [if_neg (by omega)]
      · rw [List.getElem?_eq_none (by rw [length_rowV]; omega), List.getElem?_eq_none (by rw [length_rowV]; omega)]
/-- Where nothing of it lies, a row is as it was. -/
theorem row_out (f : Nat → UInt8) (o n a : Nat) (s : List UInt8) (h : a + s.length ≤ o ∨ o + n ≤ a) : rowV (putF f a s) o n = rowV f o n := by
  apply rowV_ext
  intro j hj
  unfold putF
  rw [if_neg (by omega)]
/-- Two pieces, one behind the other. -/
theorem putF_two (f : Nat → UInt8) (a k m : Nat) (s : List UInt8) (h : k ≤ s.length) : putF (putF f a (s.take k)) (a + k) ((s.drop k).take m) = putF f a (s.take (k + m)) := by
  funext x
  unfold putF
  simp only [List.length_take, List.length_drop]
  have e1 : min k s.length = k := by omega
  rw [e1]
  by_cases h1 : a + k ≤ x ∧ x < a + k + min m (s.length - k)
  · rw [if_pos h1, if_pos (by omega)]
    simp only [List.getD_eq_getElem?_getD, List.getElem?_take, List.getElem?_drop]
    rw [if_pos (by omega), if_pos (by omega)]
    congr 2
    omega
  · rw [if_neg h1]
    by_cases h2 : a ≤ x ∧ x < a + k
    · rw [if_pos h2, if_pos (by omega)]
      simp only [List.getD_eq_getElem?_getD, List.getElem?_take]
      rw [if_pos (by omega), if_pos (by omega)]
    · rw [if_neg h2, if_neg (by omega)]
/-- A row's piece behind a place. -/
theorem rowL_drop (f : Nat → UInt8) (o n k : Nat) : (rowL f o n).drop k = rowL f (o + k) (n - k) := by
  apply List.ext_getElem?
  intro j
  rw [List.getElem?_drop]
  by_cases h : j < n - k
  · rw [get_rowL _ _ _ _ (by omega), get_rowL _ _ _ _ h, Nat.add_assoc]
  · rw [List.getElem?_eq_none (by rw [length_rowL]; omega), List.getElem?_eq_none (by rw [length_rowL]; omega)]
theorem rowL_take (f : Nat → UInt8) (o n k : Nat) (h : k ≤ n) : (rowL f o n).take k = rowL f o k := by
  apply List.ext_getElem?
  intro j
  rw [List.getElem?_take]
  by_cases h1 : j < k
  · rw [if_pos h1, get_rowL _ _ _ _ (by omega), get_rowL _ _ _ _ h1]
  · rw [if_neg h1, List.getElem?_eq_none (by rw [length_rowL]; omega)]
theorem rowL_app (f : Nat → UInt8) (o k m : Nat) : rowL f o (k + m) = rowL f o k ++ rowL f (o + k) m := by
  have := List.take_append_drop k (rowL f o (k + m))
  rw [rowL_take _ _ _ _ (by omega), rowL_drop] at this
  rw [← this]
  congr 2
  omega
theorem rowL_zero (f : Nat → UInt8) (o : Nat) : rowL f o 0 = [] := rfl
theorem rowV_zero (f : Nat → UInt8) (o : Nat) : rowV f o 0 = [] := rfl
/-- A row of zeros. -/
theorem row_nought (f : Nat → UInt8) (o n : Nat) (h : ∀ j, j < n → f (o + j) = 0) : rowV f o n = List.replicate n (.int .u8 0) := by
  apply List.ext_getElem?
  intro j
  by_cases hj : j < n
  · rw [get_rowV _ _ _ _ hj, h j hj]
    simp [hj, byteV]
  · rw [List.getElem?_eq_none (by rw [length_rowV]; omega)]
    simp [hj]
def ptrV (o : Option Nat) : Value := .pointer (o.map fun b => ⟨b, 0, none⟩)
def ptrs (q : Nat → Option Nat) (n : Nat) : List Value := (List.range n).map fun i => ptrV (q i)
theorem length_ptrs (q : Nat → Option Nat) (n : Nat) : (ptrs q n).length = n := by simp [ptrs]
theorem get_ptrs (q : Nat → Option Nat) (n i : Nat) (h : i < n) : (ptrs q n)[i]? = some (ptrV (q i)) := by simp [ptrs, h]
def qput (q : Nat → Option Nat) (p b : Nat) : Nat → Option Nat := fun i => if i = p then some b else q i
theorem ptrs_set (q : Nat → Option Nat) (n p b : Nat) : (ptrs q n).set p (ptrV (some b)) = ptrs (qput q p b) n := by
  apply List.ext_getElem?
  intro j
  rw [List.getElem?_set]
  by_cases hj : j < n
  · rw [get_ptrs _ _ _ hj, length_ptrs]
    by_cases hp : p = j
    · subst hp
      rw [if_pos rfl, if_pos hj, get_ptrs _ _ _ hj]
      simp [qput]
    · rw [if_neg hp, get_ptrs _ _ _ hj]
      have hn : ¬ j = p := fun e => hp e.symm
      simp only [qput, if_neg hn]
  · rw [List.getElem?_eq_none (l := ptrs (qput q p b) n) (by rw [length_ptrs]; omega), length_ptrs]
    by_cases hp : p = j
    · rw [if_pos hp, if_neg (by omega)]
    · rw [if_neg hp, List.getElem?_eq_none (by rw [length_ptrs]; omega)]
def strV (s : List UInt8) : Value := .string ⟨s.toArray⟩
/-- All but the blocks in S, and new ones, is as it was. -/
structure Only (S : Nat → Prop) (w w' : World) : Prop where
  os : w'.os = w.os
  tape : w'.tape = w.tape
  output : w'.output = w.output
  size : w.heap.size ≤ w'.heap.size
  block : ∀ k, k < w.heap.size → ¬ S k → w'.heap[k]? = w.heap[k]?
theorem Only.refl (S : Nat → Prop) (w : World) : Only S w w := ⟨rfl, rfl, rfl, Nat.le_refl _, fun _ _ _ => rfl⟩
theorem Only.trans {S : Nat → Prop} {a b c : World} (h : Only S a b) (k : Only S b c) : Only S a c :=
  ⟨k.os.trans h.os, k.tape.trans h.tape, k.output.trans h.output, Nat.le_trans h.size k.size, fun i hi hs => (k.block i (Nat.lt_of_lt_of_le hi h.size) hs).trans (h.block i hi hs)⟩
theorem Only.mono {S T : Nat → Prop} {a b : World} (h : Only S a b) (hs : ∀ k, k < a.heap.size → S k → T k) : Only T a b :=
  ⟨h.os, h.tape, h.output, h.size, fun k hk hn => h.block k hk (fun s => hn (hs k hk s))⟩
theorem Only.alloc {S : Nat → Prop} {a w : World} (h : Only S a w) (o : Obj) : Only S a (w.alloc o) :=
  h.trans ⟨rfl, rfl, rfl, by simp, fun k hk _ => RowKit.Below.heap_alloc _ _ _ hk⟩
theorem Only.setCell {S : Nat → Prop} {a w : World} (h : Only S a w) {p : Addr} (hp : S p.block ∨ a.heap.size ≤ p.block) (u : Value) : Only S a (w.setCell p u) :=
  ⟨h.os, h.tape, h.output, by simp [World.setCell]; exact h.size, fun k hk hn => by
    rw [RowKit.Below.heap_setCell _ _ _ _ (fun e => by subst e; rcases hp with hp | hp; exact hn hp; omega)]
    exact h.block k hk hn⟩
theorem Only.setRow {S : Nat → Prop} {a w : World} (h : Only S a w) {g : Nat} (hp : S g ∨ a.heap.size ≤ g) (cs : Array Value) : Only S a (w.setRow g cs) :=
  ⟨h.os, h.tape, h.output, by simp [World.setRow]; exact h.size, fun k hk hn => by
    rw [setRow_other w g k cs (fun e => by subst e; rcases hp with hp | hp; exact hn hp; omega)]
    exact h.block k hk hn⟩
theorem Only.drew {S : Nat → Prop} {a w : World} (h : Only S a w) : Only S a w.drew := ⟨h.os, h.tape, h.output, h.size, h.block⟩
theorem Only.drewN {S : Nat → Prop} {a w : World} (h : Only S a w) (n : Nat) : Only S a (w.drewN n) := ⟨h.os, h.tape, h.output, h.size, h.block⟩
theorem Only.of_below {B : Nat} {S : Nat → Prop} {w w' : World} (h : RowKit.Below B w w') (hB : ∀ k, k < w.heap.size → B ≤ k → S k) : Only S w w' :=
  ⟨h.os, h.tape, h.output, h.size, fun k hk hn => h.block k (Nat.lt_of_not_le fun hb => hn (hB k hk hb))⟩
theorem Only.below {B : Nat} {S : Nat → Prop} {w w' : World} (h : Only S w w') (hB : B ≤ w.heap.size) (hs : ∀ k, k < B → ¬ S k) : RowKit.Below B w w' :=
  ⟨h.os, h.tape, h.output, h.size, fun k hk => h.block k (Nat.lt_of_lt_of_le hk hB) (hs k hk)⟩
theorem Only.cell {S : Nat → Prop} {w w' : World} (h : Only S w w') {p : Addr} (hk : p.block < w.heap.size) (hn : ¬ S p.block) : w'.cell? p = w.cell? p := World.cell?_of_block (w := w) (h.block p.block hk hn)
theorem only_row (w : World) (g : Nat) (cs : Array Value) : Only (fun k => k = g) w (w.setRow g cs) := Only.setRow (S := fun k => k = g) (Only.refl _ w) (Or.inl rfl) cs
theorem addr_add (b o j : Nat) : (⟨b, o, none⟩ : Addr).add j = ⟨b, o + j, none⟩ := by unfold Addr.add; split <;> simp_all
theorem hid {p : Prop} (h : p) : RowKit.Hid p := h
theorem lt_of_some {w : World} {b : Nat} {o : Obj} (h : w.heap[b]? = some o) : b < w.heap.size := (Array.getElem?_eq_some_iff.1 h).1
end Go.Vx

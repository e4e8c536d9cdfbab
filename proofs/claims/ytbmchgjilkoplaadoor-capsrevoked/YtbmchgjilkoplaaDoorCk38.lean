import Derived.Test.YtbmchgjilkoplaaDoorCk36
import Derived.Test.YtbmchgjilkoplaaDoorCk37
import Derived.Shelf.SlIterI.Nil
import Derived.Shelf.SortM.Plain
import Derived.Shelf.SortM.SortNone
import Derived.Test.YtbmchgjilkoplaaDoorCk7
/- Chapter 7, the program's store: its boxes' numbers, sorted. -/
namespace Go.Proofs.YtbmchgjilkoplaaDoor
open Go.ChangeShapes Go.WideShapes Go.ChangeAt Go.RowKit Go.Sort Go.Shelf
open Go.Vx
set_option linter.unusedVariables false
variable {U : Nat → Prop} {w : World} {xb mb : Nat} {D : DataW Value} {G : Int → Nat} {bs : List (Int × Int)} {es : List En} {Q : Sl → Pl}

theorem keys_call (mb : Nat) (w : World) : Calls Tryd.prog 71 #[.map (some mb)] w fun e w' => e = .returned (.func (.func 80) #[] #[.pointer (some ⟨w.heap.size, 0, none⟩)]) ∧ w' = w.alloc (.cells #[.map (some mb)] 77) :=
  (callsIn_wide (n := 5)).1 (AnyZI.keys_in Tryd.keysA Fence.wide 5 trivial rfl (some mb) w)
theorem sortsA (m : Nat) : AnyZI.SortsIn Tryd.prog Tryd.sortedA_ren Fence.wide m :=
  ⟨fun blk off cap ss W hH hblk hsz => callsIn_wide.2 (Tryd.slices_Sort_int blk off cap ss W hH hblk hsz),
   fun p cap W => callsIn_wide.2 (Tryd.slices_Sort_int_none p cap W)⟩
/-- The boxes' numbers, in order. -/
def numsF (bs : List (Int × Int)) : List Int := (bs.map (·.1)).mergeSort (fun x y => decide (x ≤ y))
theorem fl_in (l : List Int) : fl inL l = l.map encZ := by
  induction l with
  | nil => rfl
  | cons a l ih => rw [fl_cons, ih]; rfl
theorem nums_len (bs : List (Int × Int)) : (numsF bs).length = bs.length := by unfold numsF; rw [List.length_mergeSort, List.length_map]
theorem sorted_call (h : XsAt U w xb mb D G bs Q) : Calls Tryd.prog 70 #[.func (.func 80) #[] #[.pointer (some ⟨w.heap.size, 0, none⟩)]] (w.alloc (.cells #[.map (some mb)] 77)) fun e w' => ∃ v, e = .returned v ∧ OwnL inL w' w.heap.size 3 v (numsF bs) ∧ Only (fun _ => False) w w' := by
  obtain ⟨hperm, hsize⟩ := h.keys
  have hnb := h.nb
  have hbl := h.m.lt
  have hseq : SeqGives Fence.wide 2 Tryd.prog 80 #[.pointer (some ⟨w.heap.size, 0, none⟩)] encZ (fun ss => ss.Perm (intKeys D)) (Maps.size D) (w.alloc (.cells #[.map (some mb)] 77)) :=
    AnyZI.keys_gives (ρ := Tryd.keysA_ren) { Tryd.keysA with } Fence.wide _ trivial rfl (by omega) w.heap.size mb bs.length D _ (by simp) (by simp) (h.m.alloc _)
  have cS := AnyZI.sorted_in Tryd.sortedA Fence.wide 5 trivial trivial trivial trivial rfl (by omega) (sortsA _) (enters_of Tryd.func79 (by kernel_rfl) rfl) 80 #[.pointer (some ⟨w.heap.size, 0, none⟩)] trivial (enters_of Tryd.func80 (by kernel_rfl) rfl) _ _ (by rw [hsize]; unfold maxLen; omega) (by rw [hsize]; omega) _ hseq
  change CallsIn _ _ Tryd.prog 70 _ _ _ at cS
  refine ((callsIn_wide (n := 5)).1 cS).mono ?_
  rintro e w' ⟨v, ss, rfl, hp, hrow, _, hb⟩
  have e1 : ss.mergeSort (fun x y => decide (x ≤ y)) = numsF bs := mergeSort_of_perm_i (hp.trans hperm.symm)
  have e2 : ss.length = (numsF bs).length := by rw [← e1, List.length_mergeSort]
  refine ⟨v, rfl, ?_, ?_⟩
  · have h1 : w'.ownsRow (w.alloc (.cells #[.map (some mb)] 77)).heap.size 3 1 v (numsF bs).length (fl inL (numsF bs)) := by
      rw [e1, e2] at hrow
      rw [fl_in]
      exact hrow
    exact own_base (L := inL) h1 (by simp)
  · exact ((Only.refl _ w).alloc _).trans (Only.of_below hb (fun k hk hb2 => by omega))
end Go.Proofs.YtbmchgjilkoplaaDoor

/- Chapter 7, pure: what the program tells box by box is what the document keeps. -/
namespace Go.Proofs.YtbmchgjilkoplaaDoor
open Go.Vx
set_option linter.unusedVariables false
variable {bs : List (Int × Int)} {es : List En} {Q : Sl → Pl}

def enQ (Q : Sl → Pl) (s : Sl) : En := ⟨s, (Q s).1, (Q s).2⟩
/-- What a box tells of its first k slots. -/
def rowE (Q : Sl → Pl) (num : Int) (k : Nat) : List En := (List.range k).flatMap fun (i : Nat) => if (Q (num, (i : Int))).1.kind = 0 then [] else [enQ Q (num, (i : Int))]
def sizeN (bs : List (Int × Int)) (num : Int) : Nat := ((sizeF bs num).getD 0).toNat
def entsF (Q : Sl → Pl) (bs : List (Int × Int)) (l : List Int) : List En := l.flatMap fun num => rowE Q num (sizeN bs num)
theorem rowE_step (Q : Sl → Pl) (num : Int) (k : Nat) : rowE Q num (k + 1) = rowE Q num k ++ (if (Q (num, (k : Int))).1.kind = 0 then [] else [enQ Q (num, (k : Int))]) := by
  unfold rowE
  rw [List.range_succ, List.flatMap_append]
  simp
theorem entsF_step (Q : Sl → Pl) (bs : List (Int × Int)) (l : List Int) (j : Nat) (hj : j < l.length) : entsF Q bs (l.take (j + 1)) = entsF Q bs (l.take j) ++ rowE Q l[j] (sizeN bs l[j]) := by
  unfold entsF
  rw [List.take_succ_eq_append_getElem hj, List.flatMap_append]
  simp
theorem mem_rowE {num : Int} {k : Nat} {e : En} : e ∈ rowE Q num k ↔ ∃ i : Nat, i < k ∧ (Q (num, (i : Int))).1.kind ≠ 0 ∧ e = enQ Q (num, (i : Int)) := by
  unfold rowE
  rw [List.mem_flatMap]
  constructor
  · rintro ⟨i, hi, he⟩
    by_cases h : (Q (num, (i : Int))).1.kind = 0
    · rw [if_pos h] at he; cases he
    · rw [if_neg h] at he
      exact ⟨i, List.mem_range.1 hi, h, by simpa using he⟩
  · rintro ⟨i, hi, h, rfl⟩
    exact ⟨i, List.mem_range.2 hi, by rw [if_neg h]; simp⟩
theorem nums_mem (bs : List (Int × Int)) (x : Int) : x ∈ numsF bs ↔ ∃ b ∈ bs, b.1 = x := by
  unfold numsF
  rw [List.mem_mergeSort, List.mem_map]
theorem nums_sorted (hn : (bs.map (·.1)).Nodup) : (numsF bs).Pairwise (fun a b => a < b) := by
  have h1 : (numsF bs).Pairwise (fun a b => (decide (a ≤ b)) = true) := List.pairwise_mergeSort (fun a b c h1 h2 => by simp only [decide_eq_true_eq] at *; omega) (fun a b => by simp only [Bool.or_eq_true, decide_eq_true_eq]; omega) _
  have h2 : (numsF bs).Nodup := (List.Perm.nodup_iff (List.mergeSort_perm _ _)).2 hn
  refine (h1.and h2).imp (fun {a b} h => ?_)
  have h3 := of_decide_eq_true h.1
  have h4 : a ≠ b := h.2
  omega
theorem rowE_sorted (Q : Sl → Pl) (num : Int) : ∀ k, (rowE Q num k).Pairwise (fun a b => aheadB a.at' b.at' = true)
  | 0 => by simp [rowE]
  | k + 1 => by
    rw [rowE_step, List.pairwise_append]
    refine ⟨rowE_sorted Q num k, ?_, fun a ha b hb => ?_⟩
    · split
      · exact List.Pairwise.nil
      · simp
    · obtain ⟨i, hi, _, rfl⟩ := mem_rowE.1 ha
      split at hb
      · cases hb
      · simp only [List.mem_cons, List.not_mem_nil, or_false] at hb
        subst hb
        exact decide_eq_true (Or.inr ⟨rfl, by show (i : Int) < (k : Int); omega⟩)
theorem ents_sorted (hn : (bs.map (·.1)).Nodup) : Srt (entsF Q bs (numsF bs)) := by
  unfold Srt entsF
  rw [List.pairwise_flatMap]
  refine ⟨fun a _ => rowE_sorted Q a _, (nums_sorted hn).imp (fun {a b} hab x hx y hy => ?_)⟩
  obtain ⟨i, _, _, rfl⟩ := mem_rowE.1 hx
  obtain ⟨j, _, _, rfl⟩ := mem_rowE.1 hy
  exact decide_eq_true (Or.inl hab)
theorem srt_ext {l m : List En} (h1 : Srt l) (h2 : Srt m) (h : ∀ e, e ∈ l ↔ e ∈ m) : l = m := by
  have n1 : l.Nodup := h1.imp (fun {a b} hab e => by subst e; rw [ahead_irr] at hab; cases hab)
  have n2 : m.Nodup := h2.imp (fun {a b} hab e => by subst e; rw [ahead_irr] at hab; cases hab)
  refine List.Perm.eq_of_pairwise (le := fun (a b : En) => aheadB a.at' b.at' = true) (fun a b _ _ h3 h4 => ?_) h1 h2 ((List.perm_ext_iff_of_nodup n1 n2).2 h)
  have := ahead_trans h3 h4
  rw [ahead_irr] at this
  cases this
theorem ents_es (hf : Wf bs es) (hx : Wx bs es) : entsF (plF es) bs (numsF bs) = es := by
  refine srt_ext (ents_sorted hx.nd) hf.so (fun e => ?_)
  unfold entsF
  rw [List.mem_flatMap]
  constructor
  · rintro ⟨num, hnum, he⟩
    obtain ⟨i, hi, hk, rfl⟩ := mem_rowE.1 he
    rcases at_or es (num, (i : Int)) with ⟨e2, h2, h3⟩ | hn
    · have := plF_mem hf.once h2
      rw [h3] at this
      unfold enQ
      rw [this]
      have h4 : (⟨(num, (i : Int)), e2.cap, e2.from'⟩ : En) = e2 := by rw [← h3]
      rw [h4]
      exact h2
    · rw [plF_none hn] at hk
      exact absurd rfl hk
  · intro he
    obtain ⟨b, hb, h1, h2, h3⟩ := hx.ix e he
    refine ⟨e.at'.1, (nums_mem bs _).2 ⟨b, hb, h1⟩, mem_rowE.2 ⟨e.at'.2.toNat, ?_, ?_, ?_⟩⟩
    · unfold sizeN
      rw [← h1, (mem_size hx.nd hb).1]
      simp only [Option.getD_some]
      omega
    · have h4 : (e.at'.1, ((e.at'.2.toNat : Nat) : Int)) = e.at' := Prod.ext rfl (by simp only; omega)
      rw [h4, plF_mem hf.once he]
      have := hx.kd e he
      simp only
      omega
    · have h4 : (e.at'.1, ((e.at'.2.toNat : Nat) : Int)) = e.at' := Prod.ext rfl (by simp only; omega)
      rw [h4]
      unfold enQ
      rw [plF_mem hf.once he]
theorem rowE_len (Q : Sl → Pl) (num : Int) (k : Nat) : (rowE Q num k).length ≤ k := by
  induction k with
  | zero => simp [rowE]
  | succ k ih =>
    rw [rowE_step, List.length_append]
    split
    · simp; omega
    · simp; omega
end Go.Proofs.YtbmchgjilkoplaaDoor

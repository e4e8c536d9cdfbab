/- Chapter 9, pure: a queue in order. -/
import Derived.Test.YtgncabcnefhkiaaSP2
namespace Go.Proofs.Ytgncabcnefhkiaa
open Go.Vx
set_option linter.unusedVariables false
variable {es xs ys : List Et} {ck : Nat} {d p : Int}

def inQ (d p : Int) (e : Et) : Bool := decide (e.dom = d ∧ e.prio = p ∧ e.came ≠ 0)
/-- In order, but for what stands at k. -/
def SrQ (xs : List Et) (k : Nat) : Prop := ∀ a b, a < b → b < xs.length → b ≠ k → (xs.getD a .df).came ≤ (xs.getD b .df).came
/-- The queue of a domain and a priority. -/
def IsQ (es : List Et) (d p : Int) (xs : List Et) : Prop := xs.Perm (es.filter (inQ d p)) ∧ xs.Pairwise (fun a b => a.came ≤ b.came)
theorem getD_setE (k a : Nat) (y : Et) (hk : k < xs.length) : (xs.set k y).getD a .df = if a = k then y else xs.getD a .df := by
  rw [List.getD_eq_getElem?_getD, List.getD_eq_getElem?_getD, List.getElem?_set]
  by_cases h : a = k
  · rw [if_pos h, if_pos h.symm, if_pos hk]; rfl
  · rw [if_neg h, if_neg (fun e => h e.symm)]
/-- One changes its place with the one ahead. -/
def swE (xs : List Et) (q : Nat) : List Et := (xs.set (q + 1) (xs.getD q .df)).set q (xs.getD (q + 1) .df)
theorem swE_length (q : Nat) : (swE xs q).length = xs.length := by unfold swE; rw [List.length_set, List.length_set]
theorem swE_perm {q : Nat} (hl : q + 1 < xs.length) : (swE xs q).Perm xs := by
  unfold swE
  rw [getD_et hl, getD_et (show q < xs.length by omega)]
  exact List.set_set_perm hl (by omega)
theorem SrQ.swap {q : Nat} (h : SrQ xs (q + 1)) (hl : q + 1 < xs.length) (hlt : (xs.getD (q + 1) .df).came < (xs.getD q .df).came) : SrQ (swE xs q) q := by
  intro a b hab hb hne
  rw [swE_length] at hb
  unfold swE
  have hl1 : q < (xs.set (q + 1) (xs.getD q .df)).length := by rw [List.length_set]; omega
  rw [getD_setE _ _ _ hl1, getD_setE _ _ _ hl1, getD_setE _ _ _ hl, getD_setE _ _ _ hl, if_neg hne]
  by_cases hb1 : b = q + 1
  · rw [if_pos hb1]
    by_cases ha : a = q
    · rw [if_pos ha]; omega
    · rw [if_neg ha, if_neg (by omega)]
      exact h a q (by omega) (by omega) (by omega)
  · rw [if_neg hb1]
    by_cases ha : a = q
    · rw [if_pos ha]
      exact h (q + 1) b (by omega) hb hb1
    · rw [if_neg ha]
      by_cases ha2 : a = q + 1
      · rw [if_pos ha2]
        exact h q b (by omega) hb hb1
      · rw [if_neg ha2]
        exact h a b hab hb hb1
theorem SrQ.stop {k : Nat} (h : SrQ xs k) (hs : k = 0 ∨ ∃ q, k = q + 1 ∧ ¬ (xs.getD (q + 1) .df).came < (xs.getD q .df).came) : SrQ xs xs.length := by
  intro a b hab hb hne
  by_cases hbk : b = k
  · rcases hs with hs | ⟨q, hq, hs⟩
    · omega
    · subst hbk
      subst hq
      by_cases ha : a = q
      · rw [ha]; omega
      · have := h a q (by omega) (by omega) (by omega)
        omega
  · exact h a b hab hb hbk
theorem SrQ.app (h : SrQ xs xs.length) (x : Et) : SrQ (xs ++ [x]) xs.length := by
  intro a b hab hb hne
  rw [List.length_append, List.length_singleton] at hb
  have hb2 : b < xs.length := by omega
  have := h a b hab hb2 (by omega)
  simpa [List.getD_eq_getElem?_getD, List.getElem?_append_left hb2, List.getElem?_append_left (Nat.lt_trans hab hb2)] using this
theorem SrQ.whole (h : SrQ xs xs.length) : xs.Pairwise (fun a b => a.came ≤ b.came) := by
  rw [List.pairwise_iff_getElem]
  intro a b ha hb hab
  have := h a b hab hb (by omega)
  rw [getD_et ha, getD_et hb] at this
  exact this
theorem filt_step {k : Nat} (hk : k < es.length) : (es.take (k + 1)).filter (inQ d p) = (es.take k).filter (inQ d p) ++ if inQ d p es[k] then [es[k]] else [] := by
  rw [List.take_succ_eq_append_getElem hk, List.filter_append]
  by_cases h : inQ d p es[k] = true
  · rw [if_pos h]; simp [h]
  · rw [if_neg h]; simp [h]
/-- There is but one such order. -/
theorem IsQ.uniq (h : SWf es ck) (h1 : IsQ es d p xs) (h2 : IsQ es d p ys) : xs = ys := by
  refine (h1.1.trans h2.1.symm).eq_of_pairwise (fun a b ha hb hab hba => ?_) h1.2 h2.2
  have ha2 := List.mem_filter.1 (h1.1.mem_iff.1 ha)
  have hb2 := List.mem_filter.1 (h2.1.mem_iff.1 hb)
  have hz : a.came ≠ 0 := by
    have := ha2.2
    unfold inQ at this
    exact (of_decide_eq_true this).2.2
  exact h.cd a ha2.1 b hb2.1 (by omega) hz
theorem IsQ.mem (h : IsQ es d p xs) {e : Et} : e ∈ xs ↔ e ∈ es ∧ e.dom = d ∧ e.prio = p ∧ e.came ≠ 0 := by
  rw [h.1.mem_iff, List.mem_filter]
  unfold inQ
  rw [decide_eq_true_iff]
end Go.Proofs.Ytgncabcnefhkiaa

import Derived.Test.YtgncabcnefhkiaaCs14
/- Chapter 9, pure: what Block, Prio and Next keep. -/
namespace Go.Proofs.Ytgncabcnefhkiaa
open Go.Vx
set_option linter.unusedVariables false
variable {es : List Et} {ck : Nat}

/-- One that is not ready (any more). -/
theorem SWf.off (h : SWf es ck) {k : Nat} (hk : k < es.length) (y : Et) (hn : y.num = es[k].num) (hd : y.dom = es[k].dom) (hp : 0 ≤ y.prio ∧ y.prio ≤ 7) (hl : y.left = 0) (hc : y.came = 0) : SWf (es.set k y) ck := by
  have hko := h.ok _ (List.getElem_mem hk)
  refine ⟨by rw [set_nums (y := y) hk hn]; exact h.nd, fun e hm => ?_, fun e hm f hm2 hc2 hz => ?_, fun e hm f hm2 h3 h4 h5 h6 => ?_⟩
  · rcases mem_set_et hk hm with rfl | ⟨hm, _⟩
    · rw [hn, hd, hl, hc]
      omega
    · exact h.ok e hm
  · rcases mem_set_et hk hm with rfl | ⟨hm, _⟩
    · exact absurd hc hz
    · rcases mem_set_et hk hm2 with rfl | ⟨hm2, _⟩
      · rw [hc] at hc2; exact absurd hc2 hz
      · exact h.cd e hm f hm2 hc2 hz
  · rcases mem_set_et hk hm with rfl | ⟨hm, _⟩
    · exact absurd hc h5
    · have hke := h.ok e hm
      rcases mem_set_et hk hm2 with rfl | ⟨hm2, _⟩
      · omega
      · exact h.qf e hm f hm2 h3 h4 h5 h6
theorem SWf.last (h : SWf es ck) (n : Int) : SWf (lastL es ck n) (if (fnF es n).isSome then ck + 1 else ck) := by
  unfold lastL
  cases hi : fnF es n with
  | none => exact h
  | some i =>
    obtain ⟨hl, _⟩ := fnF_at hi
    dsimp only
    rw [getD_et hl]
    have hko := h.ok _ (List.getElem_mem hl)
    exact h.put hl es[i].prio ⟨hko.2.2.2.1, hko.2.2.2.2.1⟩
theorem SWf.block (h : SWf es ck) (n : Int) : SWf (blockL es n) ck := by
  unfold blockL
  cases hi : fnF es n with
  | none => exact h
  | some i =>
    obtain ⟨hl, _⟩ := fnF_at hi
    dsimp only
    rw [getD_et hl]
    have hko := h.ok _ (List.getElem_mem hl)
    exact h.off hl _ rfl rfl ⟨hko.2.2.2.1, hko.2.2.2.2.1⟩ rfl rfl
theorem SWf.prio (h : SWf es ck) (n p : Int) (he : prioE es n p = 0) : SWf (prioL es ck n p) (prioC es ck n) := by
  unfold prioE at he
  unfold prioL prioC
  cases hi : fnF es n with
  | none => rw [hi] at he; cases he
  | some i =>
    rw [hi] at he
    obtain ⟨hl, _⟩ := fnF_at hi
    dsimp only at he ⊢
    rw [getD_et hl]
    have hko := h.ok _ (List.getElem_mem hl)
    have hp : 0 ≤ p ∧ p ≤ 7 := by
      by_cases h9 : p < 0 ∨ 7 < p
      · rw [if_pos h9] at he; cases he
      · omega
    by_cases hc : 0 < es[i].came
    · rw [if_pos hc, if_pos hc]
      exact h.put hl p hp
    · rw [if_neg hc, if_neg hc]
      have hz : es[i].came = 0 := by omega
      exact h.off hl _ rfl rfl hp (hko.2.2.2.2.2.2.2.2.2 hz) hz
/-- The first one has one fewer left. -/
theorem SWf.less (h : SWf es ck) {k : Nat} (hk : k < es.length) (hz : es[k].came ≠ 0) (hl : 0 < es[k].left) (hf : ∀ e ∈ es, InD es[k].dom e → Fst es[k] e) : SWf (es.set k (lessE es[k])) ck := by
  have hko := h.ok _ (List.getElem_mem hk)
  refine ⟨by rw [set_nums (y := lessE es[k]) hk rfl]; exact h.nd, fun e hm => ?_, fun e hm f hm2 hc2 hz2 => ?_, fun e hm f hm2 h3 h4 h5 h6 => ?_⟩
  · rcases mem_set_et hk hm with rfl | ⟨hm, _⟩
    · unfold lessE
      simp only
      omega
    · exact h.ok e hm
  · rcases mem_set_et hk hm with rfl | ⟨hm, j, hj, hjk, rfl⟩
    · rcases mem_set_et hk hm2 with rfl | ⟨hm2, j, hj, hjk, rfl⟩
      · rfl
      · have h1 := h.cd _ (List.getElem_mem hk) _ hm2 hc2 hz
        exact absurd (congrArg (·.num) h1) (fun h9 => num_ne h.nd hj hk hjk h9.symm)
    · rcases mem_set_et hk hm2 with rfl | ⟨hm2, _⟩
      · have h1 := h.cd _ hm _ (List.getElem_mem hk) hc2 hz2
        exact absurd (congrArg (·.num) h1) (num_ne h.nd hj hk hjk)
      · exact h.cd _ hm f hm2 hc2 hz2
  · rcases mem_set_et hk hm2 with rfl | ⟨hm2, _⟩
    · rcases mem_set_et hk hm with rfl | ⟨hm, _⟩
      · exact absurd h6 (Int.lt_irrefl _)
      · have h1 := hf e hm ⟨h3, h5⟩
        have h7 : e.came < es[k].came := h6
        have h8 : e.prio = es[k].prio := h4
        unfold Fst at h1
        omega
    · rcases mem_set_et hk hm with rfl | ⟨hm, _⟩
      · exact h.qf _ (List.getElem_mem hk) f hm2 h3 h4 h5 h6
      · exact h.qf e hm f hm2 h3 h4 h5 h6
theorem best_some {d : Int} {j : Nat} (h : bestF es d = some j) : ∃ hj : j < es.length, InD d es[j] ∧ ∀ e ∈ es, InD d e → Fst es[j] e := by
  obtain ⟨h1, h2, h3⟩ := (best_spec es d es.length).2 j h
  rw [getD_et h1] at h2 h3
  refine ⟨h1, h2, fun e he hi => ?_⟩
  obtain ⟨m, hm, rfl⟩ := List.getElem_of_mem he
  have h4 := h3 m hm
  rw [getD_et hm] at h4
  exact h4 hi
theorem best_none {d : Int} (h : bestF es d = none) : ∀ e ∈ es, ¬ InD d e := fun e he => by
  obtain ⟨m, hm, rfl⟩ := List.getElem_of_mem he
  have h4 := (best_spec es d es.length).1 h m hm
  rw [getD_et hm] at h4
  exact h4
/-- Who was put at the end leaves a first one, with all or more than none of its slice. -/
theorem best_last (h : SWf es ck) {d : Int} {i : Nat} (hb : bestF es d = some i) : ∃ hi : i < es.length, ∃ j, bestF (es.set i (lastE ck es[i])) d = some j ∧ ∃ hj : j < (es.set i (lastE ck es[i])).length, (es.set i (lastE ck es[i]))[j].left = 5 := by
  obtain ⟨hi, h1, h2⟩ := best_some hb
  refine ⟨hi, ?_⟩
  have hy : lastE ck es[i] ∈ es.set i (lastE ck es[i]) := List.mem_set hi _
  have hyd : InD d (lastE ck es[i]) := ⟨h1.1, by show (ck : Int) + 1 ≠ 0; omega⟩
  cases hb2 : bestF (es.set i (lastE ck es[i])) d with
  | none => exact absurd hyd (best_none hb2 _ hy)
  | some j =>
    obtain ⟨hj, h3, h4⟩ := best_some hb2
    refine ⟨j, rfl, hj, ?_⟩
    have h5 := h4 _ hy hyd
    rcases mem_set_et hi (List.getElem_mem hj) with h6 | ⟨h6, m, hm, hmi, hme⟩
    · rw [h6]; rfl
    · have h7 := h2 _ h6 h3
      generalize (es.set i (lastE ck es[i]))[j] = e at h3 h5 h6 h7 hme ⊢
      have h8 : es[i].prio = e.prio := by
        have h9 : (lastE ck es[i]).prio = es[i].prio := rfl
        unfold Fst at h5 h7
        rw [h9] at h5
        omega
      have h10 : es[i].came ≤ e.came := by unfold Fst at h7; omega
      have h11 : es[i].came ≠ e.came := fun h12 => by
        have := h.cd _ (List.getElem_mem hi) _ h6 h12 h1.2
        rw [← hme] at this
        exact num_ne h.nd hm hi hmi (congrArg (·.num) this).symm
      exact h.qf _ (List.getElem_mem hi) _ h6 (h1.1.trans h3.1.symm) h8 h1.2 (by omega)
theorem SWf.next (h : SWf es ck) (d : Int) : SWf (nextI es ck d).1 (nextI es ck d).2.1 := by
  unfold nextI
  cases hb : bestF es d with
  | none => exact h
  | some i =>
    obtain ⟨hi, h1, h2⟩ := best_some hb
    have hko := h.ok _ (List.getElem_mem hi)
    dsimp only
    rw [getD_et hi]
    by_cases hl : es[i].left = 0
    · rw [if_pos hl]
      obtain ⟨_, j, hb2, hj, hj5⟩ := best_last h hb
      have hp : SWf (es.set i (lastE ck es[i])) (ck + 1) := h.put hi es[i].prio ⟨hko.2.2.2.1, hko.2.2.2.2.1⟩
      rw [hb2]
      dsimp only
      obtain ⟨hj2, h3, h4⟩ := best_some hb2
      rw [getD_et hj2]
      exact hp.less hj2 h3.2 (by rw [hj5]; omega) (fun e he hi9 => h4 e he ⟨hi9.1.trans h3.1, hi9.2⟩)
    · rw [if_neg hl]
      exact h.less hi h1.2 (by omega) (fun e he hi9 => h2 e he ⟨hi9.1.trans h1.1, hi9.2⟩)
end Go.Proofs.Ytgncabcnefhkiaa

/- Chapter 9, pure: a queue in order. -/
namespace Go.Proofs.Ytgncabcnefhkiaa
open Go.Vx
set_option linter.unusedVariables false
variable {es xs ys : List Et} {ck : Nat} {d p : Int}

def inQ (d p : Int) (e : Et) : Bool := decide (e.dom = d ∧ e.prio = p ∧ e.came ≠ 0)
/-- In order, but for what stands at k. -/
def SrQ (xs : List Et) (k : Nat) : Prop := ∀ a b, a < b → b < xs.length → b ≠ k → (xs.getD a .df).came ≤ (xs.getD b .df).came
/-- The queue of a domain and a priority. -/
def IsQ (es : List Et) (d p : Int) (xs : List Et) : Prop := xs.Perm (es.filter (inQ d p)) ∧ xs.Pairwise (fun a b => a.came ≤ b.came)
theorem getD_setE (k a : Nat) (y : Et) (hk : k < xs.length) : (xs.set k y).getD a .df = if a = k then y else xs.getD a .df := by
  rw [List.getD_eq_getElem?_getD, List.getD_eq_getElem?_getD, List.getElem?_set]
  by_cases h : a = k
  · rw [if_pos h, if_pos h.symm, if_pos hk]; rfl
  · rw [if_neg h, if_neg (fun e => h e.symm)]
/-- One changes its place with the one ahead. -/
def swE (xs : List Et) (q : Nat) : List Et := (xs.set (q + 1) (xs.getD q .df)).set q (xs.getD (q + 1) .df)
theorem swE_length (q : Nat) : (swE xs q).length = xs.length := by unfold swE; rw [List.length_set, List.length_set]
theorem swE_perm {q : Nat} (hl : q + 1 < xs.length) : (swE xs q).Perm xs := by
  unfold swE
  rw [getD_et hl, getD_et (show q < xs.length by omega)]
  exact List.set_set_perm hl (by omega)
theorem SrQ.swap {q : Nat} (h : SrQ xs (q + 1)) (hl : q + 1 < xs.length) (hlt : (xs.getD (q + 1) .df).came < (xs.getD q .df).came) : SrQ (swE xs q) q := by
  intro a b hab hb hne
  rw [swE_length] at hb
  unfold swE
  have hl1 : q < (xs.set (q + 1) (xs.getD q .df)).length := by rw [List.length_set]; omega
  rw [getD_setE _ _ _ hl1, getD_setE _ _ _ hl1, getD_setE _ _ _ hl, getD_setE _ _ _ hl, if_neg hne]
  by_cases hb1 : b = q + 1
  · rw [if_pos hb1]
    by_cases ha : a = q
    · rw [if_pos ha]; omega
    · rw [if_neg ha, if_neg (by omega)]
      exact h a q (by omega) (by omega) (by omega)
  · rw [if_neg hb1]
    by_cases ha : a = q
    · rw [if_pos ha]
      exact h (q + 1) b (by omega) hb hb1
    · rw [if_neg ha]
      by_cases ha2 : a = q + 1
      · rw [if_pos ha2]
        exact h q b (by omega) hb hb1
      · rw [if_neg ha2]
        exact h a b hab hb hb1
theorem SrQ.stop {k : Nat} (h : SrQ xs k) (hs : k = 0 ∨ ∃ q, k = q + 1 ∧ ¬ (xs.getD (q + 1) .df).came < (xs.getD q .df).came) : SrQ xs xs.length := by
  intro a b hab hb hne
  by_cases hbk : b = k
  · rcases hs with hs | ⟨q, hq, hs⟩
    · omega
    · subst hbk
      subst hq
      by_cases ha : a = q
      · rw [ha]; omega
      · have := h a q (by omega) (by omega) (by omega)
        omega
  · exact h a b hab hb hbk
theorem SrQ.app (h : SrQ xs xs.length) (x : Et) : SrQ (xs ++ [x]) xs.length := by
  intro a b hab hb hne
  rw [List.length_append, List.length_singleton] at hb
  have hb2 : b < xs.length := by omega
  have := h a b hab hb2 (by omega)
  simpa [List.getD_eq_getElem?_getD, List.getElem?_append_left hb2, List.getElem?_append_left (Nat.lt_trans hab hb2)] using this
theorem SrQ.whole (h : SrQ xs xs.length) : xs.Pairwise (fun a b => a.came ≤ b.came) := by
  rw [List.pairwise_iff_getElem]
  intro a b ha hb hab
  have := h a b hab hb (by omega)
  rw [getD_et ha, getD_et hb] at this
  exact this
theorem filt_step {k : Nat} (hk : k < es.length) : (es.take (k + 1)).filter (inQ d p) = (es.take k).filter (inQ d p) ++ if inQ d p es[k] then [es[k]] else [] := by
  rw [List.take_succ_eq_append_getElem hk, List.filter_append]
  by_cases h : inQ d p es[k] = true
  · rw [if_pos h]; simp [h]
  · rw [if_neg h]; simp [h]
/-- There is but one such order. -/
theorem IsQ.uniq (h : SWf es ck) (h1 : IsQ es d p xs) (h2 : IsQ es d p ys) : xs = ys := by
  refine (h1.1.trans h2.1.symm).eq_of_pairwise (fun a b ha hb hab hba => ?_) h1.2 h2.2
  have ha2 := List.mem_filter.1 (h1.1.mem_iff.1 ha)
  have hb2 := List.mem_filter.1 (h2.1.mem_iff.1 hb)
  have hz : a.came ≠ 0 := by
    have := ha2.2
    unfold inQ at this
    exact (of_decide_eq_true this).2.2
  exact h.cd a ha2.1 b hb2.1 (by omega) hz
theorem IsQ.mem (h : IsQ es d p xs) {e : Et} : e ∈ xs ↔ e ∈ es ∧ e.dom = d ∧ e.prio = p ∧ e.came ≠ 0 := by
  rw [h.1.mem_iff, List.mem_filter]
  unfold inQ
  rw [decide_eq_true_iff]
end Go.Proofs.Ytgncabcnefhkiaa

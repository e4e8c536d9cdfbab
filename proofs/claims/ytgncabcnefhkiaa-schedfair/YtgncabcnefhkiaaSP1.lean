/- Chapter 9, pure: what every call of a scheduler keeps. -/
import Derived.Test.YtgncabcnefhkiaaSB8
namespace Go.Proofs.Ytgncabcnefhkiaa
open Go.Vx
set_option linter.unusedVariables false
variable {es : List Et} {ck : Nat}

/-- Ready, in a domain. -/
def InD (d : Int) (e : Et) : Prop := e.dom = d ∧ e.came ≠ 0
/-- No other is to run ahead of it. -/
def Fst (e f : Et) : Prop := f.prio < e.prio ∨ (f.prio = e.prio ∧ e.came ≤ f.came)
theorem best_spec (es : List Et) (d : Int) : ∀ k, (bestN es d k = none → ∀ m, m < k → ¬ InD d (es.getD m .df)) ∧ ∀ j, bestN es d k = some j → j < k ∧ InD d (es.getD j .df) ∧ ∀ m, m < k → InD d (es.getD m .df) → Fst (es.getD j .df) (es.getD m .df)
  | 0 => ⟨fun _ m hm => by omega, fun j h => by cases h⟩
  | k + 1 => by
    obtain ⟨ih1, ih2⟩ := best_spec es d k
    by_cases hk : (es.getD k .df).dom ≠ d ∨ (es.getD k .df).came = 0
    · have e : bestN es d (k + 1) = bestN es d k := by
        show bestS es d (bestN es d k) k = _
        unfold bestS
        rw [if_pos hk]
      have hn : ¬ InD d (es.getD k .df) := fun h => by
        rcases hk with hk | hk
        · exact hk h.1
        · exact h.2 hk
      rw [e]
      refine ⟨fun h m hm => ?_, fun j h => ?_⟩
      · by_cases hmk : m = k
        · subst hmk; exact hn
        · exact ih1 h m (by omega)
      · obtain ⟨a, b, c⟩ := ih2 j h
        refine ⟨by omega, b, fun m hm hi => ?_⟩
        by_cases hmk : m = k
        · subst hmk; exact absurd hi hn
        · exact c m (by omega) hi
    · have hin : InD d (es.getD k .df) := ⟨Classical.byContradiction (fun h => hk (Or.inl h)), fun h => hk (Or.inr h)⟩
      cases hb : bestN es d k with
      | none =>
        have e : bestN es d (k + 1) = some k := by
          show bestS es d (bestN es d k) k = _
          unfold bestS
          rw [if_neg hk, hb]
        rw [e]
        refine ⟨fun h => (by cases h), fun j h => ?_⟩
        injection h with h
        subst h
        refine ⟨by omega, hin, fun m hm hi => ?_⟩
        by_cases hmk : m = k
        · subst hmk; exact Or.inr ⟨rfl, Int.le_refl _⟩
        · exact absurd hi (ih1 hb m (by omega))
      | some b =>
        obtain ⟨a1, a2, a3⟩ := ih2 b hb
        by_cases hc : (es.getD b .df).prio < (es.getD k .df).prio ∨ ((es.getD k .df).prio = (es.getD b .df).prio ∧ (es.getD k .df).came < (es.getD b .df).came)
        · have e : bestN es d (k + 1) = some k := by
            show bestS es d (bestN es d k) k = _
            unfold bestS
            rw [if_neg hk, hb]
            dsimp only
            rw [if_pos hc]
          rw [e]
          refine ⟨fun h => (by cases h), fun j h => ?_⟩
          injection h with h
          subst h
          refine ⟨by omega, hin, fun m hm hi => ?_⟩
          by_cases hmk : m = k
          · subst hmk; exact Or.inr ⟨rfl, Int.le_refl _⟩
          · have := a3 m (by omega) hi
            unfold Fst at this ⊢
            omega
        · have e : bestN es d (k + 1) = some b := by
            show bestS es d (bestN es d k) k = _
            unfold bestS
            rw [if_neg hk, hb]
            dsimp only
            rw [if_neg hc]
          rw [e]
          refine ⟨fun h => (by cases h), fun j h => ?_⟩
          injection h with h
          subst h
          refine ⟨by omega, a2, fun m hm hi => ?_⟩
          by_cases hmk : m = k
          · subst hmk
            unfold Fst
            omega
          · exact a3 m (by omega) hi
/-- What is always so. -/
structure SWf (es : List Et) (ck : Nat) : Prop where
  nd : (es.map (·.num)).Nodup
  ok : ∀ e ∈ es, 0 ≤ e.num ∧ 0 ≤ e.dom ∧ e.dom ≤ 7 ∧ 0 ≤ e.prio ∧ e.prio ≤ 7 ∧ 0 ≤ e.left ∧ e.left ≤ 5 ∧ 0 ≤ e.came ∧ e.came ≤ (ck : Int) ∧ (e.came = 0 → e.left = 0)
  cd : ∀ e ∈ es, ∀ f ∈ es, e.came = f.came → e.came ≠ 0 → e = f
  qf : ∀ e ∈ es, ∀ f ∈ es, e.dom = f.dom → e.prio = f.prio → e.came ≠ 0 → e.came < f.came → f.left = 5
theorem SWf.nil : SWf [] 0 := ⟨List.nodup_nil, (fun _ h => by cases h), (fun _ h => by cases h), (fun _ h => by cases h)⟩
theorem mem_set_et {k : Nat} {y e : Et} (hk : k < es.length) (h : e ∈ es.set k y) : e = y ∨ (e ∈ es ∧ ∃ j, ∃ hj : j < es.length, j ≠ k ∧ es[j] = e) := by
  obtain ⟨j, hj, rfl⟩ := List.getElem_of_mem h
  have hj' : j < es.length := by simpa using hj
  rw [List.getElem_set]
  by_cases he : k = j
  · rw [if_pos he]; exact Or.inl rfl
  · rw [if_neg he]; exact Or.inr ⟨List.getElem_mem hj', j, hj', fun e2 => he e2.symm, rfl⟩
theorem num_ne (hn : (es.map (·.num)).Nodup) {j k : Nat} (hj : j < es.length) (hk : k < es.length) (h : j ≠ k) : es[j].num ≠ es[k].num := fun he => by
  have h1 := List.pairwise_iff_getElem.1 hn
  rcases Nat.lt_or_gt_of_ne h with h2 | h2
  · exact h1 j k (by simpa using hj) (by simpa using hk) h2 (by rw [List.getElem_map, List.getElem_map]; exact he)
  · exact h1 k j (by simpa using hk) (by simpa using hj) h2 (by rw [List.getElem_map, List.getElem_map]; exact he.symm)
theorem set_nums {k : Nat} {y : Et} (hk : k < es.length) (h : y.num = es[k].num) : (es.set k y).map (·.num) = es.map (·.num) := by
  apply List.ext_getElem
  · simp
  · intro j h1 h2
    rw [List.getElem_map, List.getElem_map, List.getElem_set]
    split
    · rename_i e; subst e; exact h
    · rfl
theorem SWf.sub {es2 : List Et} (h : SWf es ck) (hs : es2.Sublist es) : SWf es2 ck :=
  ⟨h.nd.sublist (hs.map _), fun e he => h.ok e (hs.mem he), fun e he f hf => h.cd e (hs.mem he) f (hs.mem hf), fun e he f hf => h.qf e (hs.mem he) f (hs.mem hf)⟩
theorem SWf.rem (h : SWf es ck) (n : Int) : SWf (remSL es n) ck := by
  unfold remSL
  cases fnF es n with
  | none => exact h
  | some i =>
    refine h.sub ?_
    have h1 : (es.take i ++ es.drop (i + 1)).Sublist (es.take i ++ es.drop i) := by
      refine List.Sublist.append (List.Sublist.refl _) ?_
      rw [← List.drop_drop]
      exact List.drop_sublist _ _
    rw [List.take_append_drop] at h1
    exact h1
theorem SWf.add (h : SWf es ck) (n d p : Int) : SWf (addSL es n d p) ck := by
  unfold addSL
  by_cases he : addSE es n d p = 0
  · rw [if_pos he]
    unfold addSE at he
    by_cases h1 : n < 0 ∨ d < 0 ∨ 7 < d ∨ p < 0 ∨ 7 < p
    · rw [if_pos h1] at he; cases he
    rw [if_neg h1] at he
    have hf : fnF es n = none := by
      cases hi : fnF es n with
      | none => rfl
      | some i => rw [hi] at he; cases he
    have hno : ∀ e ∈ es, e.num ≠ n := fun e he2 h9 => by
      have := idxF_none hf e he2
      simp [h9] at this
    refine ⟨?_, fun e hm => ?_, fun e hm f hm2 hc hz => ?_, fun e hm f hm2 h3 h4 h5 h6 => ?_⟩
    · rw [List.map_append, List.nodup_append]
      refine ⟨h.nd, by simp, fun a ha b hb => ?_⟩
      obtain ⟨e, he3, rfl⟩ := List.mem_map.1 ha
      simp only [List.map_cons, List.map_nil, List.mem_singleton] at hb
      rw [hb]
      exact hno e he3
    · rcases List.mem_append.1 hm with hm | hm
      · exact h.ok e hm
      · rw [List.mem_singleton] at hm
        subst hm
        exact ⟨by show 0 ≤ n; omega, by show 0 ≤ d; omega, by show d ≤ 7; omega, by show 0 ≤ p; omega, by show p ≤ 7; omega, by show (0 : Int) ≤ 0; omega, by show (0 : Int) ≤ 5; omega, by show (0 : Int) ≤ 0; omega, by show (0 : Int) ≤ (ck : Int); omega, fun _ => rfl⟩
    · rcases List.mem_append.1 hm with hm | hm
      · rcases List.mem_append.1 hm2 with hm2 | hm2
        · exact h.cd e hm f hm2 hc hz
        · rw [List.mem_singleton] at hm2
          subst hm2
          exact absurd hc hz
      · rw [List.mem_singleton] at hm
        subst hm
        exact absurd rfl hz
    · rcases List.mem_append.1 hm with hm | hm
      · rcases List.mem_append.1 hm2 with hm2 | hm2
        · exact h.qf e hm f hm2 h3 h4 h5 h6
        · rw [List.mem_singleton] at hm2
          subst hm2
          have := (h.ok e hm).2.2.2.2.2.2.2.1
          simp only at h6
          omega
      · rw [List.mem_singleton] at hm
        subst hm
        exact absurd rfl h5
  · rw [if_neg he]; exact h
/-- One put anew at its queue's end. -/
theorem SWf.put (h : SWf es ck) {k : Nat} (hk : k < es.length) (p : Int) (hp : 0 ≤ p ∧ p ≤ 7) : SWf (es.set k (lastE ck { es[k] with prio := p })) (ck + 1) := by
  have hko := h.ok _ (List.getElem_mem hk)
  have hc1 : ((ck + 1 : Nat) : Int) = (ck : Int) + 1 := by omega
  refine ⟨by rw [set_nums (y := lastE ck { es[k] with prio := p }) hk rfl]; exact h.nd, fun e hm => ?_, fun e hm f hm2 hc hz => ?_, fun e hm f hm2 h3 h4 h5 h6 => ?_⟩
  · rcases mem_set_et hk hm with rfl | ⟨hm, _⟩
    · unfold lastE
      simp only
      rw [hc1]
      omega
    · have := h.ok e hm
      rw [hc1]
      omega
  · rcases mem_set_et hk hm with rfl | ⟨hm, _⟩
    · rcases mem_set_et hk hm2 with rfl | ⟨hm2, _⟩
      · rfl
      · have := h.ok f hm2
        unfold lastE at hc
        simp only at hc
        omega
    · rcases mem_set_et hk hm2 with rfl | ⟨hm2, _⟩
      · have := h.ok e hm
        unfold lastE at hc
        simp only at hc
        omega
      · exact h.cd e hm f hm2 hc hz
  · rcases mem_set_et hk hm2 with rfl | ⟨hm2, _⟩
    · rfl
    · rcases mem_set_et hk hm with rfl | ⟨hm, _⟩
      · have := h.ok f hm2
        unfold lastE at h6
        simp only at h6
        omega
      · exact h.qf e hm f hm2 h3 h4 h5 h6
end Go.Proofs.Ytgncabcnefhkiaa

import Derived.Test.YtgncabcnefhkiaaCs15
/- Chapter 9, pure: the queues' numbers, and what each change makes of them. -/
namespace Go.Proofs.Ytgncabcnefhkiaa
open Go.Vx
set_option linter.unusedVariables false
variable {es xs ys : List Et} {ck : Nat} {d p : Int} {l : List Int}

/-- The numbers of a queue. -/
def NQ (es : List Et) (d p : Int) (l : List Int) : Prop := ∃ xs, IsQ es d p xs ∧ l = xs.map (·.num)
theorem NQ.uniq (h : SWf es ck) {m : List Int} (h1 : NQ es d p l) (h2 : NQ es d p m) : l = m := by
  obtain ⟨xs, a, rfl⟩ := h1
  obtain ⟨ys, b, rfl⟩ := h2
  rw [IsQ.uniq h a b]
theorem NQ.nil (d p : Int) : NQ [] d p [] := ⟨[], ⟨List.Perm.refl _, List.Pairwise.nil⟩, rfl⟩
theorem NQ.mem (h : NQ es d p l) {n : Int} : n ∈ l ↔ ∃ e ∈ es, e.num = n ∧ e.dom = d ∧ e.prio = p ∧ e.came ≠ 0 := by
  obtain ⟨xs, hx, rfl⟩ := h
  rw [List.mem_map]
  constructor
  · rintro ⟨e, he, rfl⟩
    have h1 := List.mem_filter.1 (hx.1.mem_iff.1 he)
    have h2 := of_decide_eq_true h1.2
    exact ⟨e, h1.1, rfl, h2⟩
  · rintro ⟨e, he, rfl, h2⟩
    exact ⟨e, hx.1.mem_iff.2 (List.mem_filter.2 ⟨he, decide_eq_true h2⟩), rfl⟩
theorem NQ.nodup (hw : (es.map (·.num)).Nodup) (h : NQ es d p l) : l.Nodup := by
  obtain ⟨xs, hx, rfl⟩ := h
  have h1 := (hx.1.map (·.num)).nodup_iff
  rw [h1]
  exact hw.sublist (List.filter_sublist.map _)
theorem NQ.len (h : NQ es d p l) : l.length ≤ es.length := by
  obtain ⟨xs, hx, rfl⟩ := h
  rw [List.length_map, hx.1.length_eq]
  exact List.length_filter_le _ _
theorem split_at {k : Nat} (hk : k < es.length) : es = es.take k ++ es[k] :: es.drop (k + 1) := by
  rw [← List.drop_eq_getElem_cons hk, List.take_append_drop]
theorem set_at {k : Nat} (hk : k < es.length) (y : Et) : es.set k y = es.take k ++ y :: es.drop (k + 1) := by
  rw [List.set_eq_take_append_cons_drop, if_pos hk]
/-- One that is in no queue changes to one that is in none. -/
theorem NQ.idle {k : Nat} (hk : k < es.length) (y : Et) (h1 : es[k].came = 0) (h2 : y.came = 0) (h : NQ es d p l) : NQ (es.set k y) d p l := by
  obtain ⟨xs, hx, rfl⟩ := h
  refine ⟨xs, ⟨?_, hx.2⟩, rfl⟩
  have e : (es.set k y).filter (inQ d p) = es.filter (inQ d p) := by
    conv => rhs; rw [split_at hk]
    rw [set_at hk, List.filter_append, List.filter_append, List.filter_cons, List.filter_cons]
    have a1 : inQ d p y = false := by unfold inQ; simp [h2]
    have a2 : inQ d p es[k] = false := by unfold inQ; simp [h1]
    rw [a1, a2]
    rfl
  rw [e]
  exact hx.1
/-- One leaves its queue. -/
theorem NQ.off (hw : (es.map (·.num)).Nodup) {k : Nat} (hk : k < es.length) (y : Et) (h2 : y.came = 0) (h : NQ es d p l) : NQ (es.set k y) d p (l.filter (fun n => decide (n ≠ es[k].num))) := by
  obtain ⟨xs, hx, rfl⟩ := h
  refine ⟨xs.filter (fun e => decide (e.num ≠ es[k].num)), ⟨?_, hx.2.sublist List.filter_sublist⟩, ?_⟩
  · have e : (es.set k y).filter (inQ d p) = (es.filter (inQ d p)).filter (fun e => decide (e.num ≠ es[k].num)) := by
      have hl : ∀ e ∈ es.take k, e.num ≠ es[k].num := fun e he => by
        obtain ⟨j, hj, rfl⟩ := List.getElem_of_mem he
        have hj2 : j < k ∧ j < es.length := by rw [List.length_take] at hj; omega
        rw [List.getElem_take]
        exact num_ne hw hj2.2 hk (by omega)
      have hr : ∀ e ∈ es.drop (k + 1), e.num ≠ es[k].num := fun e he => by
        obtain ⟨j, hj, rfl⟩ := List.getElem_of_mem he
        rw [List.length_drop] at hj
        rw [List.getElem_drop]
        exact num_ne hw (by omega) hk (by omega)
      have f : ∀ z : List Et, (∀ e ∈ z, e.num ≠ es[k].num) → z.filter (inQ d p) = (z.filter (inQ d p)).filter (fun e => decide (e.num ≠ es[k].num)) := fun z hz => by
        symm
        rw [List.filter_eq_self]
        intro a ha
        exact decide_eq_true (hz a (List.mem_filter.1 ha).1)
      have g : es.filter (inQ d p) = (es.take k).filter (inQ d p) ++ ([es[k]].filter (inQ d p) ++ (es.drop (k + 1)).filter (inQ d p)) := by
        conv => lhs; rw [split_at hk]
        rw [show es[k] :: es.drop (k + 1) = [es[k]] ++ es.drop (k + 1) from rfl, List.filter_append, List.filter_append]
      have m : ([es[k]].filter (inQ d p)).filter (fun e => decide (e.num ≠ es[k].num)) = [] := by
        rw [List.filter_eq_nil_iff]
        intro a ha
        have := (List.mem_filter.1 ha).1
        rw [List.mem_singleton] at this
        rw [this]
        simp
      rw [g, List.filter_append, List.filter_append, m, ← f _ hl, ← f _ hr, set_at hk, List.filter_append, List.filter_cons]
      have a1 : inQ d p y = false := by unfold inQ; simp [h2]
      rw [a1]
      rfl
    rw [e]
    exact hx.1.filter _
  · rw [List.filter_map]
    rfl
/-- One that is in none comes to a queue's end. -/
theorem NQ.join {k : Nat} (hk : k < es.length) (y : Et) (h1 : es[k].came = 0) (h2 : y.came ≠ 0) (h3 : ∀ e ∈ es, e.came ≤ y.came) (h : NQ es d p l) : NQ (es.set k y) d p (l ++ if y.dom = d ∧ y.prio = p then [y.num] else []) := by
  obtain ⟨xs, hx, rfl⟩ := h
  have a2 : inQ d p es[k] = false := by unfold inQ; simp [h1]
  have g : es.filter (inQ d p) = (es.take k).filter (inQ d p) ++ (es.drop (k + 1)).filter (inQ d p) := by
    conv => lhs; rw [split_at hk]
    rw [List.filter_append, List.filter_cons, a2]
    rfl
  by_cases hc : y.dom = d ∧ y.prio = p
  · rw [if_pos hc]
    have a1 : inQ d p y = true := decide_eq_true ⟨hc.1, hc.2, h2⟩
    refine ⟨xs ++ [y], ⟨?_, ?_⟩, by rw [List.map_append]; rfl⟩
    · rw [set_at hk, List.filter_append, List.filter_cons, a1]
      have h5 := hx.1
      rw [g] at h5
      refine ((h5.append_right [y])).trans ?_
      rw [List.append_assoc]
      refine List.Perm.append_left _ ?_
      exact List.perm_append_singleton _ _
    · rw [List.pairwise_append]
      refine ⟨hx.2, List.pairwise_singleton _ _, fun a ha b hb => ?_⟩
      rw [List.mem_singleton] at hb
      subst hb
      exact h3 a (List.mem_filter.1 (hx.1.mem_iff.1 ha)).1
  · rw [if_neg hc, List.append_nil]
    have a1 : inQ d p y = false := decide_eq_false (fun h => hc ⟨h.1, h.2.1⟩)
    refine ⟨xs, ⟨?_, hx.2⟩, rfl⟩
    rw [set_at hk, List.filter_append, List.filter_cons, a1]
    have h5 := hx.1
    rw [g] at h5
    exact h5
/-- One changes what no queue looks at. -/
theorem NQ.same (hw : (es.map (·.num)).Nodup) {k : Nat} (hk : k < es.length) (y : Et) (h0 : y.num = es[k].num) (h1 : y.dom = es[k].dom) (h2 : y.prio = es[k].prio) (h3 : y.came = es[k].came) (h : NQ es d p l) : NQ (es.set k y) d p l := by
  obtain ⟨xs, hx, rfl⟩ := h
  have hf : ∀ e ∈ es, e.num = es[k].num → e = es[k] := fun e he hn => by
    obtain ⟨j, hj, rfl⟩ := List.getElem_of_mem he
    by_cases hjk : j = k
    · subst hjk; rfl
    · exact absurd hn (num_ne hw hj hk hjk)
  have hq : ∀ e, e.num = (if e.num = es[k].num then y else e).num := fun e => by
    by_cases he : e.num = es[k].num
    · rw [if_pos he, h0, he]
    · rw [if_neg he]
  have hs : es.set k y = es.map (fun e => if e.num = es[k].num then y else e) := by
    apply List.ext_getElem
    · simp
    · intro j a1 a2
      rw [List.getElem_set, List.getElem_map]
      have hj : j < es.length := by simpa using a1
      by_cases hjk : k = j
      · subst hjk; rw [if_pos rfl, if_pos rfl]
      · rw [if_neg hjk, if_neg (num_ne hw hj hk (fun e => hjk e.symm))]
  have hc : ∀ e ∈ es, (if e.num = es[k].num then y else e).came = e.came := fun e he => by
    by_cases h9 : e.num = es[k].num
    · rw [if_pos h9, h3, hf e he h9]
    · rw [if_neg h9]
  refine ⟨xs.map (fun e => if e.num = es[k].num then y else e), ⟨?_, ?_⟩, ?_⟩
  · have e : (es.set k y).filter (inQ d p) = (es.filter (inQ d p)).map (fun e => if e.num = es[k].num then y else e) := by
      rw [hs, List.filter_map]
      congr 1
      apply List.filter_congr
      intro a ha
      show inQ d p (if a.num = es[k].num then y else a) = inQ d p a
      by_cases h9 : a.num = es[k].num
      · rw [if_pos h9]
        have := hf a ha h9
        unfold inQ
        rw [h1, h2, h3, this]
      · rw [if_neg h9]
    rw [e]
    exact hx.1.map _
  · rw [List.pairwise_map]
    refine hx.2.imp_of_mem (fun {a b} ha hb hab => ?_)
    rw [hc a (List.mem_filter.1 (hx.1.mem_iff.1 ha)).1, hc b (List.mem_filter.1 (hx.1.mem_iff.1 hb)).1]
    exact hab
  · rw [List.map_map]
    refine List.map_congr_left (fun a _ => ?_)
    exact hq a
theorem NQ.add (y : Et) (h2 : y.came = 0) (h : NQ es d p l) : NQ (es ++ [y]) d p l := by
  obtain ⟨xs, hx, rfl⟩ := h
  refine ⟨xs, ⟨?_, hx.2⟩, rfl⟩
  have a1 : inQ d p y = false := by unfold inQ; simp [h2]
  rw [List.filter_append, List.filter_cons, a1]
  simpa using hx.1
theorem NQ.rem {k : Nat} (hk : k < es.length) (h1 : es[k].came = 0) (h : NQ es d p l) : NQ (es.take k ++ es.drop (k + 1)) d p l := by
  obtain ⟨xs, hx, rfl⟩ := h
  refine ⟨xs, ⟨?_, hx.2⟩, rfl⟩
  have a2 : inQ d p es[k] = false := by unfold inQ; simp [h1]
  have g : es.filter (inQ d p) = (es.take k ++ es.drop (k + 1)).filter (inQ d p) := by
    conv => lhs; rw [split_at hk]
    rw [List.filter_append, List.filter_cons, a2, List.filter_append]
    rfl
  rw [← g]
  exact hx.1
theorem fnF_num (hw : (es.map (·.num)).Nodup) {j : Nat} (hj : j < es.length) : fnF es es[j].num = some j := by
  cases hi : fnF es es[j].num with
  | none => have := idxF_none hi es[j] (List.getElem_mem hj); simp at this
  | some i =>
    obtain ⟨hl, he⟩ := fnF_at hi
    by_cases hij : i = j
    · rw [hij]
    · exact absurd he (num_ne hw hl hj hij)
/-- The first of the highest queue runs. -/
theorem best_head (h : SWf es ck) {n : Int} (hn : NQ es d p (n :: l)) (hh : ∀ q, p < q → q ≤ 7 → NQ es d q []) : ∃ i, fnF es n = some i ∧ bestF es d = some i := by
  obtain ⟨xs, hx, hl⟩ := hn
  cases xs with
  | nil => cases hl
  | cons e xs =>
    have hne : n = e.num := by injection hl
    have he1 := List.mem_filter.1 (hx.1.mem_iff.1 (List.mem_cons_self ..))
    have he2 : e.dom = d ∧ e.prio = p ∧ e.came ≠ 0 := of_decide_eq_true he1.2
    cases hb : bestF es d with
    | none => exact absurd ⟨he2.1, he2.2.2⟩ (best_none hb e he1.1)
    | some j =>
      obtain ⟨hj, h1, h2⟩ := best_some hb
      have h3 := h2 e he1.1 ⟨he2.1, he2.2.2⟩
      have hjm := List.getElem_mem hj
      have hko := h.ok _ hjm
      have hjp : es[j].prio = p := by
        rcases h3 with h3 | h3
        · exfalso
          rw [he2.2.1] at h3
          have h4 := hh es[j].prio h3 hko.2.2.2.2.1
          have h5 := (NQ.mem h4 (n := es[j].num)).2 ⟨_, hjm, rfl, h1.1, rfl, h1.2⟩
          cases h5
        · rw [← h3.1, he2.2.1]
      have hin : es[j] ∈ e :: xs := hx.1.mem_iff.2 (List.mem_filter.2 ⟨hjm, decide_eq_true ⟨h1.1, hjp, h1.2⟩⟩)
      have heq : e = es[j] := by
        rcases List.mem_cons.1 hin with h4 | h4
        · exact h4.symm
        · have h5 := (List.pairwise_cons.1 hx.2).1 _ h4
          have h6 : es[j].came ≤ e.came := by
            rcases h3 with h3 | h3
            · rw [he2.2.1, hjp] at h3; omega
            · exact h3.2
          exact h.cd e he1.1 _ hjm (by omega) he2.2.2
      exact ⟨j, by rw [hne, heq]; exact fnF_num h.nd hj, rfl⟩
theorem best_empty (h : SWf es ck) (hh : ∀ q, 0 ≤ q → q ≤ 7 → NQ es d q []) : bestF es d = none := by
  cases hb : bestF es d with
  | none => rfl
  | some j =>
    obtain ⟨hj, h1, h2⟩ := best_some hb
    have hjm := List.getElem_mem hj
    have hko := h.ok _ hjm
    have h5 := (NQ.mem (hh es[j].prio hko.2.2.2.1 hko.2.2.2.2.1) (n := es[j].num)).2 ⟨_, hjm, rfl, h1.1, rfl, h1.2⟩
    cases h5
end Go.Proofs.Ytgncabcnefhkiaa

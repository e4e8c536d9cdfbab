import Derived.Test.YtbmchgjilkoplaaDoorCk50
/- CapsRevoked, pure: taking what is below, from the last one on, leaves the others. -/
namespace Go.Proofs.YtbmchgjilkoplaaDoor
open Go.Vx
set_option linter.unusedVariables false
variable {es : List En}

/-- What is left where these are taken. -/
def keptF (es : List En) (L : List Sl) : List En := es.filter fun e => decide (e.at' ∉ L)
theorem kept_mem {L : List Sl} {e : En} : e ∈ keptF es L ↔ e ∈ es ∧ e.at' ∉ L := by
  unfold keptF
  rw [List.mem_filter]
  simp
theorem kept_nil : keptF es [] = es := List.filter_eq_self.2 (fun e _ => by simp)
theorem kept_cons (t : Sl) (L : List Sl) : keptF es (t :: L) = (keptF es L).filter fun e => decide (e.at' ≠ t) := by
  unfold keptF
  rw [List.filter_filter]
  congr 1
  funext e
  by_cases h1 : e.at' = t <;> by_cases h2 : e.at' ∈ L <;> simp [h1, h2]
theorem erase_filter : ∀ {l : List En} (hn : (l.map (·.at')).Nodup) {i : Nat} (hi : i < l.length), l.eraseIdx i = l.filter fun e => decide (e.at' ≠ l[i].at')
  | [], _, i, hi => by simp at hi
  | a :: l, hn, 0, hi => by
    rw [List.map_cons, List.nodup_cons] at hn
    have h1 : l.filter (fun e => decide (e.at' ≠ a.at')) = l := List.filter_eq_self.2 (fun e he => by
      have : e.at' ≠ a.at' := fun h => hn.1 (by rw [← h]; exact List.mem_map.2 ⟨e, he, rfl⟩)
      simpa using this)
    rw [List.eraseIdx_cons_zero, List.getElem_cons_zero, List.filter_cons_of_neg (by simp), h1]
  | a :: l, hn, i + 1, hi => by
    rw [List.map_cons, List.nodup_cons] at hn
    have hi2 : i < l.length := by simpa using hi
    have h1 : a.at' ≠ l[i].at' := fun h => hn.1 (by rw [h]; exact List.mem_map.2 ⟨_, List.getElem_mem hi2, rfl⟩)
    rw [List.eraseIdx_cons_succ, List.getElem_cons_succ, List.filter_cons_of_pos (by simpa using h1), erase_filter hn.2 hi2]
theorem cut_plain {i : Nat} (hi : i < es.length) (t : Sl) (h : ∀ e ∈ es, e.from' ≠ es[i].at') : cutL es i t = es.eraseIdx i := by
  unfold cutL
  rw [getD_at es i hi]
  conv => rhs; rw [← List.map_id (es.eraseIdx i)]
  refine List.map_congr_left fun e he => ?_
  unfold cutY
  rw [if_neg (h e (List.mem_of_mem_eraseIdx he))]
  rfl
/-- One step: the last one that is left is taken. -/
theorem take_last {bs : List (Int × Int)} (hf : Wf bs es) (hx : Wx bs es) {r : Sl → Nat} {D : Nat} (hr : ∀ e ∈ es, r e.from' < r e.at') (hD : ∀ e ∈ es, r e.at' ≤ D) (s : Sl) (j : Nat) (hj : j < (belN es (D + 1) s).length)
    (hf2 : Wf bs (keptF es ((belN es (D + 1) s).drop (j + 1)))) (hx2 : Wx bs (keptF es ((belN es (D + 1) s).drop (j + 1)))) :
    (∃ i, fullF bs (keptF es ((belN es (D + 1) s).drop (j + 1))) (belN es (D + 1) s)[j] = .ok i) ∧ takeL bs (keptF es ((belN es (D + 1) s).drop (j + 1))) (belN es (D + 1) s)[j] = keptF es ((belN es (D + 1) s).drop j) := by
  have ho := hf.once
  have hn := hf.so.nodup
  have hB := belN_nodup es ho hn r hr (D + 1) s
  have hord := belN_ord ho (D + 1) s
  have hmem := belN_mem es (D + 1) s
  have hbel := belN_bel es (D + 1) s
  have hent := fun {e : En} (he : e ∈ es) => bel_entry ho hr hD s he
  generalize belN es (D + 1) s = B at hj hB hord hmem hbel hent hf2 hx2 ⊢
  have hm : B[j] ∈ B := List.getElem_mem hj
  have hnd := List.pairwise_iff_getElem.1 hB
  have hdrop : ∀ (i : Nat) (hi : i < B.length), B[i] ∈ B.drop (j + 1) ↔ j < i := fun i hi => by
    constructor
    · intro h
      obtain ⟨k, hk, hE⟩ := List.getElem_of_mem h
      rw [List.getElem_drop] at hE
      rw [List.length_drop] at hk
      rcases Nat.lt_trichotomy i (j + 1 + k) with h2 | h2 | h2
      · exact absurd hE.symm (hnd i (j + 1 + k) hi (by omega) h2)
      · omega
      · omega
    · intro h
      rw [List.mem_iff_getElem?]
      refine ⟨i - (j + 1), ?_⟩
      rw [List.getElem?_drop, show j + 1 + (i - (j + 1)) = i by omega, List.getElem?_eq_getElem hi]
  obtain ⟨e0, he0, hE0⟩ := List.mem_map.1 (hmem _ hm)
  have hk0 : e0 ∈ keptF es (B.drop (j + 1)) := kept_mem.2 ⟨he0, by rw [hE0, hdrop j hj]; omega⟩
  obtain ⟨i, hi⟩ := full_mem hf2 hx2 hk0
  rw [hE0] at hi
  refine ⟨⟨i, hi⟩, ?_⟩
  obtain ⟨hil, hiE⟩ := full_at hi
  unfold takeL
  rw [hi]
  dsimp only
  rw [cut_plain hil]
  · rw [erase_filter hf2.so.nodup hil, hiE, List.drop_eq_getElem_cons hj, kept_cons]
  · intro e he hfe
    rw [hiE] at hfe
    obtain ⟨h1, h2⟩ := kept_mem.1 he
    have h3 : e.at' ∈ B := (hent h1).2 (Or.inr (by rw [hfe]; exact hm))
    obtain ⟨k, hk, hE⟩ := List.getElem_of_mem h3
    rcases hord.at k hk h1 hE.symm with h4 | h4
    · have h5 := (hbel _ hm).rank hr
      rw [← hfe, h4] at h5
      omega
    · rw [hfe] at h4
      obtain ⟨m, hm2, hE2⟩ := List.getElem_of_mem h4
      rw [List.getElem_take] at hE2
      rw [List.length_take] at hm2
      have hmj : m = j := by
        rcases Nat.lt_trichotomy m j with h5 | h5 | h5
        · exact absurd hE2 (hnd m j (by omega) hj h5)
        · exact h5
        · exact absurd hE2.symm (hnd j m hj (by omega) h5)
      exact h2 (by rw [← hE, hdrop k hk]; omega)
theorem kept_len (B : List Sl) : (keptF es B).length + cntF es B es.length = es.length := by
  unfold keptF cntF
  rw [List.take_length]
  induction es with
  | nil => rfl
  | cons e l ih =>
    by_cases h : e.at' ∈ B
    · rw [List.filter_cons_of_neg (by simpa using h), List.filter_cons_of_pos (by simpa using h), List.length_cons, List.length_cons]
      omega
    · rw [List.filter_cons_of_pos (by simpa using h), List.filter_cons_of_neg (by simpa using h), List.length_cons, List.length_cons]
      omega
/-- How many of the first k are left. -/
def keepN (es : List En) (B : List Sl) (k : Nat) : Nat := ((es.take k).filter fun e => decide (e.at' ∉ B)).length
theorem keep_zero (B : List Sl) : keepN es B 0 = 0 := by simp [keepN]
theorem keep_step (B : List Sl) (k : Nat) (hk : k < es.length) : keepN es B (k + 1) = keepN es B k + (if es[k].at' ∈ B then 0 else 1) := by
  unfold keepN
  rw [List.take_succ_eq_append_getElem hk, List.filter_append, List.length_append]
  congr 1
  by_cases h : es[k].at' ∈ B
  · rw [if_pos h, List.filter_cons_of_neg (by simpa using h)]; rfl
  · rw [if_neg h, List.filter_cons_of_pos (by simpa using h)]; rfl
theorem keep_at (B : List Sl) (k : Nat) (hk : k < es.length) (h : es[k].at' ∉ B) : ∃ hl : keepN es B k < (keptF es B).length, (keptF es B)[keepN es B k] = es[k] := by
  have h1 : keptF es B = ((es.take k).filter fun e => decide (e.at' ∉ B)) ++ es[k] :: ((es.drop (k + 1)).filter fun e => decide (e.at' ∉ B)) := by
    unfold keptF
    conv => lhs; rw [← List.take_append_drop k es]
    rw [List.filter_append, List.drop_eq_getElem_cons hk, List.filter_cons_of_pos (by simpa using h)]
  have h2 : (keptF es B)[keepN es B k]? = some es[k] := by
    rw [h1, List.getElem?_append_right (by unfold keepN; exact Nat.le_refl _)]
    unfold keepN
    rw [Nat.sub_self]
    rfl
  obtain ⟨hl, h3⟩ := List.getElem?_eq_some_iff.1 h2
  exact ⟨hl, h3⟩
theorem keep_le (B : List Sl) (k : Nat) : keepN es B k ≤ k := by
  unfold keepN
  have h1 := List.length_filter_le (fun e : En => decide (e.at' ∉ B)) (es.take k)
  have h2 := List.length_take_le k es
  omega
theorem full_iff {bs : List (Int × Int)} {es2 : List En} {s : Sl} {n : Int} (hs : sizeF bs s.1 = some n) (h0 : 0 ≤ s.2) (h1 : s.2 < n) (h : (∃ e ∈ es, e.at' = s) ↔ ∃ e ∈ es2, e.at' = s) : fullE (fullF bs es s) = fullE (fullF bs es2 s) := by
  have key : ∀ l : List En, (∃ e ∈ l, e.at' = s) → fullE (fullF bs l s) = 0 := fun l ⟨e, he, hE⟩ => by
    rw [fullF_in hs h0 h1]
    cases hx : entF l s with
    | none => have := idxF_none hx e he; simp [hE] at this
    | some i => rfl
  have key2 : ∀ l : List En, ¬ (∃ e ∈ l, e.at' = s) → fullE (fullF bs l s) = 11 := fun l hn => by
    rw [fullF_in hs h0 h1]
    cases hx : entF l s with
    | none => rfl
    | some i =>
      obtain ⟨hi, hE⟩ := entF_at hx
      exact absurd ⟨_, List.getElem_mem hi, hE⟩ hn
  by_cases h2 : ∃ e ∈ es, e.at' = s
  · rw [key es h2, key es2 (h.1 h2)]
  · rw [key2 es h2, key2 es2 (fun h3 => h2 (h.2 h3))]
theorem below_none {bs : List (Int × Int)} {D : Nat} {s : Sl} (h : ∀ e ∈ es, e.from' ≠ s) : BelowL bs es D s = [] := by
  unfold BelowL
  cases fullF bs es s with
  | error e => rfl
  | ok i =>
    dsimp only
    unfold belN
    rw [List.flatMap_eq_nil_iff]
    intro e he
    rw [if_neg (h e he)]
/-- Behind it all. -/
theorem revoked_ok {bs : List (Int × Int)} (hf : Wf bs es) (hx : Wx bs es) {r : Sl → Nat} {D : Nat} (hr : ∀ e ∈ es, r e.from' < r e.at') (hD : ∀ e ∈ es, r e.at' ≤ D) {s : Sl} {n : Int} (hs : sizeF bs s.1 = some n) (h0 : 0 ≤ s.2) (h1 : s.2 < n) :
    fullE (fullF bs es s) = fullE (fullF bs (keptF es (belN es (D + 1) s)) s) ∧ (∀ e ∈ keptF es (belN es (D + 1) s), e.from' ≠ s) ∧ (keptF es (belN es (D + 1) s)).length + (belN es (D + 1) s).length = es.length := by
  have ho := hf.once
  have hn := hf.so.nodup
  refine ⟨full_iff hs h0 h1 ⟨?_, ?_⟩, ?_, ?_⟩
  · rintro ⟨e, he, hE⟩
    refine ⟨e, kept_mem.2 ⟨he, fun h => ?_⟩, hE⟩
    have := (belN_bel es _ s _ h).rank hr
    rw [hE] at this
    omega
  · rintro ⟨e, he, hE⟩
    exact ⟨e, (kept_mem.1 he).1, hE⟩
  · intro e he hE
    obtain ⟨h2, h3⟩ := kept_mem.1 he
    exact h3 ((bel_entry ho hr hD s h2).2 (Or.inl hE))
  · have h2 := kept_len (es := es) (belN es (D + 1) s)
    rw [cnt_all hn (belN_nodup es ho hn r hr _ s) (belN_mem es _ s)] at h2
    exact h2
end Go.Proofs.YtbmchgjilkoplaaDoor

/- Chapter 9, SchedFair, pure: round robin. -/
import Derived.Test.YtgncabcnefhkiaaSX12
namespace Go.Proofs.Ytgncabcnefhkiaa
open Go.Vx
set_option linter.unusedVariables false
variable {es : List Et} {ck : Nat} {d p : Int} {l : List Int}

/-- One put at its queue's end anew. -/
theorem NQ.again (h : SWf es ck) {i : Nat} (hi : i < es.length) (hq : NQ es d p l) : NQ (es.set i (lastE ck es[i])) d p (l.filter (fun n => decide (n ≠ es[i].num)) ++ if es[i].dom = d ∧ es[i].prio = p then [es[i].num] else []) := by
  have h1 := NQ.off h.nd hi (offE es[i]) rfl hq
  have hl2 : i < (es.set i (offE es[i])).length := by rw [List.length_set]; exact hi
  have h2 := NQ.join hl2 (lastE ck es[i]) (by rw [List.getElem_set_self]; rfl) (by show (ck : Int) + 1 ≠ 0; omega) (fun e he => by
    show e.came ≤ (ck : Int) + 1
    rcases mem_set_et hi he with rfl | ⟨hm, _⟩
    · show (0 : Int) ≤ _; omega
    · have := h.ok e hm; omega) h1
  rw [List.set_set] at h2
  exact h2
theorem next_keep (h : SWf es ck) {n : Int} (hq : NQ es d p (n :: l)) (hh : ∀ q, p < q → q ≤ 7 → NQ es d q []) {i : Nat} (hi : fnF es n = some i) (hl : (es.getD i .df).left ≠ 0) : nextI es ck d = (es.set i (lessE (es.getD i .df)), ck, n) := by
  obtain ⟨j, h1, h2⟩ := best_head h hq hh
  rw [hi] at h1
  obtain rfl : i = j := by injection h1
  obtain ⟨hil, hin⟩ := fnF_at hi
  unfold nextI
  rw [h2]
  dsimp only
  rw [if_neg hl, getD_et hil, hin]
theorem next_turn (h : SWf es ck) {n n2 : Int} {l2 : List Int} (hq : NQ es d p (n :: l)) (hh : ∀ q, p < q → q ≤ 7 → NQ es d q []) {i : Nat} (hi : fnF es n = some i) (hl : (es.getD i .df).left = 0) (hl2 : l ++ [n] = n2 :: l2) :
    SWf (es.set i (lastE ck (es.getD i .df))) (ck + 1) ∧ NQ (es.set i (lastE ck (es.getD i .df))) d p (n2 :: l2) ∧ (∀ q, p < q → q ≤ 7 → NQ (es.set i (lastE ck (es.getD i .df))) d q []) ∧ ∃ j, fnF (es.set i (lastE ck (es.getD i .df))) n2 = some j ∧ ((es.set i (lastE ck (es.getD i .df))).getD j .df).left = 5 ∧
      nextI es ck d = ((es.set i (lastE ck (es.getD i .df))).set j (lessE ((es.set i (lastE ck (es.getD i .df))).getD j .df)), ck + 1, n2) := by
  obtain ⟨j, h1, h2⟩ := best_head h hq hh
  rw [hi] at h1
  obtain rfl : i = j := by injection h1
  obtain ⟨hil, hin⟩ := fnF_at hi
  have hko := h.ok _ (List.getElem_mem hil)
  rw [getD_et hil] at hl ⊢
  have hmem := (hq.mem (n := n)).1 (List.mem_cons_self ..)
  obtain ⟨e, he, e1, e2, e3, e4⟩ := hmem
  have hee : e = es[i] := by
    obtain ⟨k, hk, rfl⟩ := List.getElem_of_mem he
    by_cases hki : k = i
    · subst hki; rfl
    · exact absurd (e1.trans hin.symm) (num_ne h.nd hk hil hki)
  subst hee
  have hw : SWf (es.set i (lastE ck es[i])) (ck + 1) := h.put hil es[i].prio ⟨hko.2.2.2.1, hko.2.2.2.2.1⟩
  have hnd := hq.nodup h.nd
  rw [List.nodup_cons] at hnd
  have hf : (n :: l).filter (fun x => decide (x ≠ es[i].num)) = l := by
    rw [hin, List.filter_cons]
    have : decide (n ≠ n) = false := by simp
    rw [this]
    show l.filter _ = l
    rw [List.filter_eq_self]
    intro a ha
    exact decide_eq_true (fun e9 => hnd.1 (e9 ▸ ha))
  have hn2 := NQ.again h hil hq
  rw [hf, if_pos ⟨e2, e3⟩, hin, hl2] at hn2
  have hh2 : ∀ q, p < q → q ≤ 7 → NQ (es.set i (lastE ck es[i])) d q [] := fun q h3 h4 => by
    have := NQ.again h hil (hh q h3 h4)
    rw [if_neg (fun h9 => by rw [e3] at h9; omega)] at this
    exact this
  obtain ⟨j, h5, h6⟩ := best_head hw hn2 hh2
  obtain ⟨_, j2, h7, hj, h8⟩ := best_last h h2
  rw [h6] at h7
  obtain rfl : j = j2 := by injection h7
  obtain ⟨hjl, hjn⟩ := fnF_at h5
  have h8' : ((es.set i (lastE ck es[i])).getD j .df).left = 5 := by
    have e5 : (es.set i (lastE ck es[i])).getD j .df = (es.set i (lastE ck es[i]))[j] := getD_et hjl
    rw [e5]; exact h8
  refine ⟨hw, hn2, hh2, j, h5, h8', ?_⟩
  unfold nextI
  rw [h2]
  dsimp only
  rw [getD_et hil, if_pos hl, h6]
  dsimp only
  have e5 : (es.set i (lastE ck es[i])).getD j .df = (es.set i (lastE ck es[i]))[j] := getD_et hjl
  rw [e5, hjn]
/-- The queue, turned by q. -/
def rotL (k q : Nat) : List Int := (List.range k).map (fun j => 10 + (((q + j) % k : Nat) : Int))
theorem rotL_cons {k : Nat} (hk : 1 ≤ k) (q : Nat) : ∃ l, rotL k q = (10 + ((q % k : Nat) : Int)) :: l ∧ l ++ [10 + ((q % k : Nat) : Int)] = rotL k (q + 1) := by
  obtain ⟨m, rfl⟩ : ∃ m, k = m + 1 := ⟨k - 1, by omega⟩
  refine ⟨(List.range m).map (fun j => 10 + (((q + 1 + j) % (m + 1) : Nat) : Int)), ?_, ?_⟩
  · unfold rotL
    rw [List.range_succ_eq_map, List.map_cons, List.map_map]
    refine congr (congrArg _ rfl) ?_
    refine List.map_congr_left (fun j _ => ?_)
    show (10 : Int) + (((q + (j + 1)) % (m + 1) : Nat) : Int) = _
    have : q + (j + 1) = q + 1 + j := by omega
    rw [this]
  · unfold rotL
    rw [List.range_succ, List.map_append]
    congr 1
    simp only [List.map_cons, List.map_nil]
    have : (q + 1 + m) % (m + 1) = q % (m + 1) := by
      have : q + 1 + m = q + (m + 1) := by omega
      rw [this, Nat.add_mod_right]
    rw [this]
/-- All threads of one priority; the first has r left. -/
structure FaR (k q : Nat) (r : Int) (es : List Et) (ck : Nat) : Prop where
  w : SWf es ck
  qu : NQ es 3 4 (rotL k q)
  n : ∀ p, 4 < p → p ≤ 7 → NQ es 3 p []
  l : ∃ i, fnF es (10 + ((q % k : Nat) : Int)) = some i ∧ (es.getD i .df).left = r
theorem FaR.keep {k q : Nat} {r : Int} (h : FaR k q r es ck) (hk : 1 ≤ k) (hr : r ≠ 0) (h0 : SWf (nextI es ck 3).1 (nextI es ck 3).2.1) : (nextI es ck 3).2.2 = 10 + ((q % k : Nat) : Int) ∧ FaR k q (r - 1) (nextI es ck 3).1 (nextI es ck 3).2.1 := by
  obtain ⟨l, e1, _⟩ := rotL_cons hk q
  obtain ⟨i, hi, hl⟩ := h.l
  have hq := h.qu
  rw [e1] at hq
  have e2 := next_keep h.w hq h.n hi (by rw [hl]; exact hr)
  rw [e2] at h0 ⊢
  obtain ⟨hil, hin⟩ := fnF_at hi
  rw [getD_et hil] at hl h0 ⊢
  refine ⟨rfl, h0, NQ.same h.w.nd hil (lessE es[i]) rfl rfl rfl rfl h.qu, fun p h1 h2 => NQ.same h.w.nd hil (lessE es[i]) rfl rfl rfl rfl (h.n p h1 h2), i, ?_, ?_⟩
  · rw [fnF_set hil (lessE es[i]) rfl]; exact hi
  · have hil2 : i < (es.set i (lessE es[i])).length := by rw [List.length_set]; exact hil
    show ((es.set i (lessE es[i])).getD i .df).left = r - 1
    rw [getD_et hil2, List.getElem_set_self]
    show es[i].left - 1 = r - 1
    rw [hl]
theorem FaR.turn {k q : Nat} (h : FaR k q 0 es ck) (hk : 1 ≤ k) (h0 : SWf (nextI es ck 3).1 (nextI es ck 3).2.1) : (nextI es ck 3).2.2 = 10 + (((q + 1) % k : Nat) : Int) ∧ FaR k (q + 1) 4 (nextI es ck 3).1 (nextI es ck 3).2.1 := by
  obtain ⟨l, e1, e2⟩ := rotL_cons hk q
  obtain ⟨l2, e3, _⟩ := rotL_cons hk (q + 1)
  obtain ⟨i, hi, hl⟩ := h.l
  have hq := h.qu
  rw [e1] at hq
  obtain ⟨hw, hn2, hh2, j, h5, h8, e4⟩ := next_turn h.w hq h.n hi hl (e2.trans e3)
  rw [e4] at h0 ⊢
  obtain ⟨hjl, hjn⟩ := fnF_at h5
  rw [getD_et hjl] at h8 h0 ⊢
  generalize es.set i (lastE ck (es.getD i .df)) = es1 at *
  refine ⟨rfl, h0, ?_, fun p h1 h2 => NQ.same hw.nd hjl (lessE es1[j]) rfl rfl rfl rfl (hh2 p h1 h2), j, ?_, ?_⟩
  · rw [e3]; exact NQ.same hw.nd hjl (lessE es1[j]) rfl rfl rfl rfl hn2
  · rw [fnF_set hjl (lessE es1[j]) rfl]; exact h5
  · have hil2 : j < (es1.set j (lessE es1[j])).length := by rw [List.length_set]; exact hjl
    show ((es1.set j (lessE es1[j])).getD j .df).left = 4
    rw [getD_et hil2, List.getElem_set_self]
    show es1[j].left - 1 = 4
    rw [h8]; rfl
def qI (i : Nat) : Nat := (i - 1) / 5
def rI (i : Nat) : Int := if i = 0 then 5 else 4 - (((i - 1) % 5 : Nat) : Int)
/-- One more call. -/
theorem FaR.step {k i : Nat} (h : FaR k (qI i) (rI i) es ck) (hk : 1 ≤ k) : (nextI es ck 3).2.2 = 10 + ((i / 5 % k : Nat) : Int) ∧ FaR k (qI (i + 1)) (rI (i + 1)) (nextI es ck 3).1 (nextI es ck 3).2.1 := by
  have h0 := h.w.next 3
  have eq1 : qI (i + 1) = i / 5 := rfl
  have er1 : rI (i + 1) = 4 - ((i % 5 : Nat) : Int) := if_neg (by omega)
  rw [eq1, er1]
  by_cases hz : i = 0
  · subst hz
    have a : rI 0 = 5 := rfl
    rw [a] at h
    have := h.keep hk (by decide) h0
    exact this
  · have a : rI i = 4 - (((i - 1) % 5 : Nat) : Int) := if_neg hz
    by_cases h5 : i % 5 = 0
    · have b : rI i = 0 := by rw [a]; omega
      rw [b] at h
      obtain ⟨c1, c2⟩ := h.turn hk h0
      have e1 : qI i + 1 = i / 5 := by unfold qI; omega
      have e2 : 4 - ((i % 5 : Nat) : Int) = 4 := by omega
      rw [e1] at c1 c2
      rw [e2]
      exact ⟨c1, c2⟩
    · have b : rI i ≠ 0 := by rw [a]; omega
      obtain ⟨c1, c2⟩ := h.keep hk b h0
      have e1 : qI i = i / 5 := by unfold qI; omega
      have e2 : 4 - ((i % 5 : Nat) : Int) = rI i - 1 := by rw [a]; omega
      rw [e1] at c1 c2
      rw [e2]
      exact ⟨c1, c2⟩
def faT (j : Nat) : Et := ⟨10 + (j : Int), 3, 4, 5, (j : Int) + 1⟩
/-- So many threads that became ready one behind the other. -/
def fairE (i : Nat) : List Et := (List.range i).map faT
theorem fairE_len (i : Nat) : (fairE i).length = i := by unfold fairE; simp
theorem fairE_at (k j : Nat) (h : j < (fairE k).length) : (fairE k)[j] = faT j := by simp [fairE]
theorem fairE_succ (i : Nat) : fairE (i + 1) = fairE i ++ [faT i] := by unfold fairE; rw [List.range_succ, List.map_append]; rfl
theorem fairE_mem {i : Nat} {e : Et} (h : e ∈ fairE i) : ∃ j, j < i ∧ e = faT j := by
  unfold fairE at h
  obtain ⟨j, hj, rfl⟩ := List.mem_map.1 h
  exact ⟨j, List.mem_range.1 hj, rfl⟩
theorem fair_fn (i : Nat) : fnF (fairE i) (10 + (i : Int)) = none := by
  cases hi : fnF (fairE i) (10 + (i : Int)) with
  | none => rfl
  | some j =>
    obtain ⟨hl, hn⟩ := fnF_at hi
    obtain ⟨k, hk, he⟩ := fairE_mem (List.getElem_mem hl)
    rw [he] at hn
    have : (10 : Int) + (k : Int) = 10 + (i : Int) := hn
    omega
theorem fair_add (i : Nat) : addSE (fairE i) (10 + (i : Int)) 3 4 = 0 ∧ addSL (fairE i) (10 + (i : Int)) 3 4 = fairE i ++ [nuE (10 + (i : Int)) 3 4] := by
  have e1 : addSE (fairE i) (10 + (i : Int)) 3 4 = 0 := by
    unfold addSE
    rw [if_neg (by omega), fair_fn]
    rfl
  exact ⟨e1, if_pos e1⟩
theorem fair_ready {i : Nat} (h : SWf (fairE i ++ [nuE (10 + (i : Int)) 3 4]) i) : readyE (fairE i ++ [nuE (10 + (i : Int)) 3 4]) (10 + (i : Int)) = 0 ∧ lastL (fairE i ++ [nuE (10 + (i : Int)) 3 4]) i (10 + (i : Int)) = fairE (i + 1) := by
  have hl : i < (fairE i ++ [nuE (10 + (i : Int)) 3 4]).length := by rw [List.length_append, fairE_len]; simp
  have he : (fairE i ++ [nuE (10 + (i : Int)) 3 4])[i] = nuE (10 + (i : Int)) 3 4 := by
    rw [List.getElem_append_right (by rw [fairE_len]; exact Nat.le_refl _)]
    simp [fairE_len]
  have hf := fnF_num h.nd hl
  rw [he] at hf
  have hf' : fnF (fairE i ++ [nuE (10 + (i : Int)) 3 4]) (10 + (i : Int)) = some i := hf
  constructor
  · unfold readyE
    rw [hf']
    dsimp only
    rw [getD_et hl, he]
    rfl
  · unfold lastL
    rw [hf']
    dsimp only
    rw [getD_et hl, he, fairE_succ, List.set_append_right _ _ (by rw [fairE_len]; exact Nat.le_refl _), fairE_len, Nat.sub_self]
    rfl
theorem fair_start {k : Nat} (hk : 1 ≤ k) (h : SWf (fairE k) k) : FaR k (qI 0) (rI 0) (fairE k) k := by
  refine ⟨h, ⟨fairE k, ⟨?_, ?_⟩, ?_⟩, fun p h1 h2 => ⟨[], ⟨?_, List.Pairwise.nil⟩, rfl⟩, 0, ?_, ?_⟩
  · rw [List.filter_eq_self.2]
    intro e he
    obtain ⟨j, hj, rfl⟩ := fairE_mem he
    exact decide_eq_true ⟨rfl, rfl, by show (j : Int) + 1 ≠ 0; omega⟩
  · unfold fairE
    rw [List.pairwise_map]
    refine List.Pairwise.imp (fun {a b} hab => ?_) (List.pairwise_lt_range (n := k))
    show (a : Int) + 1 ≤ (b : Int) + 1
    omega
  · unfold rotL fairE
    rw [List.map_map]
    refine List.map_congr_left (fun j hj => ?_)
    have hj2 := List.mem_range.1 hj
    show (10 : Int) + (((qI 0 + j) % k : Nat) : Int) = 10 + (j : Int)
    have : (qI 0 + j) % k = j := by
      have : qI 0 = 0 := rfl
      rw [this, Nat.zero_add, Nat.mod_eq_of_lt hj2]
    rw [this]
  · rw [List.filter_eq_nil_iff.2]
    intro e he hq
    obtain ⟨j, hj, rfl⟩ := fairE_mem he
    have := of_decide_eq_true hq
    have h4 : (4 : Int) = p := this.2.1
    omega
  · have hl : 0 < (fairE k).length := by rw [fairE_len]; omega
    have he : (fairE k)[0] = faT 0 := fairE_at k 0 hl
    have hf := fnF_num h.nd hl
    rw [he] at hf
    have : qI 0 % k = 0 := by have : qI 0 = 0 := rfl; rw [this, Nat.zero_mod]
    rw [this]
    exact hf
  · have hl : 0 < (fairE k).length := by rw [fairE_len]; omega
    have he : (fairE k)[0] = faT 0 := fairE_at k 0 hl
    rw [getD_et hl, he]
    rfl
end Go.Proofs.Ytgncabcnefhkiaa

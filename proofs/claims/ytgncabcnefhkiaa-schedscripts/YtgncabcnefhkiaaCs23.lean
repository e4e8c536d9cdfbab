import Derived.Test.YtgncabcnefhkiaaCs22
/- Chapter 9, the program's scheduler: a queue, a runner, the turn put anew. -/
namespace Go.Proofs.Ytgncabcnefhkiaa
open Go.ChangeShapes Go.WideShapes Go.ChangeAt Go.RowKit
open Go.Vx
set_option linter.unusedVariables false
variable {U V S : Nat → Prop} {w w2 : World} {xb mb : Nat} {D : DataW Value} {G : Int → Nat} {vt : Value} {vq : List Value} {ts : List (Int × Int)} {t : Nat} {lf : Int} {es : List Et} {Q : Nat → List Int} {ck : Nat}

theorem idxF_set {α : Type} {p : α → Bool} : ∀ (l : List α) (i k : Nat) (y : α) (hi : i < l.length), p y = p l[i] → idxF p (l.set i y) k = idxF p l k
  | [], i, k, y, hi, h => by cases hi
  | a :: l, 0, k, y, hi, h => by
    have h' : p y = p a := h
    show idxF p (y :: l) k = idxF p (a :: l) k
    simp only [idxF, h']
  | a :: l, i + 1, k, y, hi, h => by
    have := idxF_set l i (k + 1) y (by simpa using hi) (by simpa using h)
    show idxF p (a :: l.set i y) k = idxF p (a :: l) k
    simp only [idxF, this]
theorem fnF_set {i : Nat} (hi : i < es.length) (y : Et) (hy : y.num = es[i].num) (n : Int) : fnF (es.set i y) n = fnF es n := by
  unfold fnF
  refine idxF_set es i 0 y hi ?_
  rw [hy]
/-- A queue of the scheduler. -/
theorem XsAt.queue (h : XsAt U w xb mb D G vt vq ts t lf es Q) (j : Nat) (hj : j < 64) (hq : (Q j).length ≤ 1000000) : QuAt w xb (4 + j) (xsC vt t lf mb vq) 71 (qv vq j) ((Q j).map G) := by
  refine ⟨h.x, ?_, h.qs j hj, fun k hk e => ?_, ?_⟩
  · unfold xsC
    rw [List.getElem?_toArray, Nat.add_comm]
    exact qv_at vq j (by rw [h.lq]; exact hj)
  · obtain ⟨cur, hc⟩ := own_tag (h.qs j hj) hk
    exact tag_ne hc h.x (by decide) e
  · rw [List.length_map]
    omega
theorem xsC_set (vt : Value) (t : Nat) (lf : Int) (mb : Nat) (vq : List Value) (j : Nat) (v : Value) : (xsC vt t lf mb vq).setIfInBounds (4 + j) v = xsC vt t lf mb (vq.set j v) := by
  unfold xsC
  rw [List.setIfInBounds_toArray, Nat.add_comm]
  rfl
theorem qv_set (vq : List Value) (j i : Nat) (v : Value) (hj : j < vq.length) : qv (vq.set j v) i = if i = j then v else qv vq i := by
  unfold qv
  rw [List.getD_eq_getElem?_getD, List.getD_eq_getElem?_getD, List.getElem?_set]
  by_cases e : i = j
  · rw [if_pos e, if_pos e.symm, if_pos hj]; rfl
  · rw [if_neg e, if_neg (fun h => e h.symm)]
/-- A queue put anew. -/
theorem XsAt.setQ (h : XsAt U w xb mb D G vt vq ts t lf es Q) {j : Nat} (hj : j < 64) {l : List Int} (hT : QuT w xb (4 + j) (xsC vt t lf mb vq) 71 (qv vq j) (l.map G) w2) :
    (∃ vq', XsAt U w2 xb mb D G vt vq' ts t lf es (fun i => if i = j then l else Q i)) ∧ Only (fun k => ¬ U k) w w2 := by
  obtain ⟨v', ho, hb, hon, hl⟩ := hT
  have hlj : j < vq.length := by rw [h.lq]; exact hj
  have hsz := hon.size
  have ne1 : ∀ k, (∃ c T, w.heap[k]? = some (.cells c T (0, 0)) ∧ T ≠ 71 ∧ T ≠ 76) → ¬ (k = xb ∨ (qv vq j).ownBlock = some k) := by
    rintro k ⟨c, T, hc, n1, n2⟩ (e | e)
    · rw [e] at hc
      exact tag_ne hc h.x n1 rfl
    · obtain ⟨cur, hc2⟩ := own_tag (h.qs j hj) e
      exact tag_ne hc hc2 n2 rfl
  refine ⟨⟨vq.set j v', ?_, by rw [List.length_set]; exact h.lq, h.t'.kept hon (fun k hk => ?_), mp_owns h.m hon ?_, h.hs, h.ha, fun e he => Only.keep hon (h.rn e he) (ne1 _ ⟨_, _, h.rn e he, by decide, by decide⟩), h.gi, fun i hi => ?_, fun a b k ha hb2 h1 h2 => ?_, h.ux, h.ut, h.um, h.ur, fun i k hi hk => ?_, fun k hk => Nat.lt_of_lt_of_le (h.low k hk) hsz, h.nl, h.ix⟩, hon.mono (fun k _ hk => ?_)⟩
  · rw [hb, xsC_set]
  · obtain ⟨cur, hc⟩ := own_tag h.t' hk
    exact ne1 k ⟨_, _, hc, by decide, by decide⟩
  · rintro (e | e)
    · exact mp_ne h.x h.m e.symm
    · obtain ⟨cur, hc⟩ := own_tag (h.qs j hj) e
      exact mp_ne hc h.m rfl
  · rw [qv_set _ _ _ _ hlj]
    by_cases e : i = j
    · rw [if_pos e, if_pos e]; exact ho
    · rw [if_neg e, if_neg e]
      refine (h.qs i hi).kept hon (fun k hk s => ?_)
      rcases s with s | s
      · obtain ⟨cur, hc⟩ := own_tag (h.qs i hi) hk
        exact tag_ne hc h.x (by decide) s
      · exact e (h.qd i j k hi hj hk s)
  · rw [qv_set _ _ _ _ hlj] at h1 h2
    by_cases ea : a = j
    · by_cases eb : b = j
      · rw [ea, eb]
      · rw [if_pos ea] at h1
        rw [if_neg eb] at h2
        rcases hl k h1 with h3 | h3
        · exact absurd (h.qd b j k hb2 hj h2 h3) eb
        · have := (own_lt (h.qs b hb2) h2).2
          omega
    · by_cases eb : b = j
      · rw [if_neg ea] at h1
        rw [if_pos eb] at h2
        rcases hl k h2 with h3 | h3
        · exact absurd (h.qd a j k ha hj h1 h3) ea
        · have := (own_lt (h.qs a ha) h1).2
          omega
      · rw [if_neg ea] at h1
        rw [if_neg eb] at h2
        exact h.qd a b k ha hb2 h1 h2
  · rw [qv_set _ _ _ _ hlj] at hk
    by_cases e : i = j
    · rw [if_pos e] at hk
      rcases hl k hk with h3 | h3
      · exact h.uq j k hj h3
      · intro hu
        have := h.low k hu
        omega
    · rw [if_neg e] at hk
      exact h.uq i k hi hk
  · rcases hk with hk | hk
    · rw [hk]; exact h.ux
    · exact h.uq j k hj hk
theorem mem_same {i : Nat} {y e : Et} (hi : i < es.length) (hy : y.num = es[i].num) (he : e ∈ es.set i y) : ∃ f ∈ es, f.num = e.num := by
  rcases mem_set_et hi he with rfl | ⟨h, _⟩
  · exact ⟨es[i], List.getElem_mem hi, hy.symm⟩
  · exact ⟨e, h, rfl⟩
/-- A runner put anew. -/
theorem XsAt.setR (h : XsAt U w xb mb D G vt vq ts t lf es Q) (hnd : (es.map (·.num)).Nodup) {i : Nat} (hi : i < es.length) (y : Et) (hy : y.num = es[i].num) (hon : Only (fun k => k = G y.num) w w2) (hb : w2.heap[G y.num]? = some (.cells (rnC y) 78 (0, 0))) :
    XsAt U w2 xb mb D G vt vq ts t lf (es.set i y) Q ∧ Only (fun k => ¬ U k) w w2 := by
  have hg := h.rn _ (List.getElem_mem hi)
  rw [← hy] at hg
  have hug : ¬ U (G y.num) := by rw [hy]; exact h.ur _ (List.getElem_mem hi)
  refine ⟨⟨Only.keep hon h.x (fun e => tag_ne hg h.x (by decide) e.symm), h.lq, h.t'.kept hon (fun k hk e => ?_), ?_, fun k hk => ?_, fun k a z ha => ?_, fun e he => ?_, fun e he f hf hgg => ?_, fun j hj => (h.qs j hj).kept hon (fun k hk e => ?_), h.qd, h.ux, h.ut, h.um, fun e he => ?_, h.uq, fun k hk => Nat.lt_of_lt_of_le (h.low k hk) hon.size, by rw [List.length_set]; exact h.nl, fun e he => by obtain ⟨f, hf, e2⟩ := mem_same hi hy he; rw [← e2]; exact h.ix f hf⟩, hon.mono (fun k _ hk => by rw [hk]; exact hug)⟩
  · obtain ⟨cur, hc⟩ := own_tag h.t' hk
    exact tag_ne hg hc (by decide) e.symm
  · rw [List.length_set]
    exact mp_owns h.m hon (fun e => mp_ne hg h.m e.symm)
  · rw [fnF_set hi y hy]; exact h.hs k hk
  · rw [fnF_set hi y hy] at ha; exact h.ha k a z ha
  · rcases mem_set_et hi he with rfl | ⟨hm, j, hj, hji, rfl⟩
    · exact hb
    · refine Only.keep hon (h.rn _ hm) (fun e => ?_)
      rw [hy] at e
      exact num_ne hnd hj hi hji (h.gi _ hm _ (List.getElem_mem hi) e)
  · obtain ⟨e', he', ee⟩ := mem_same hi hy he
    obtain ⟨f', hf', fe⟩ := mem_same hi hy hf
    rw [← ee, ← fe] at hgg ⊢
    exact h.gi e' he' f' hf' hgg
  · obtain ⟨cur, hc⟩ := own_tag (h.qs j hj) hk
    exact tag_ne hg hc (by decide) e.symm
  · obtain ⟨e', he', ee⟩ := mem_same hi hy he
    rw [← ee]; exact h.ur e' he'
/-- The turn and what is left of it put anew. -/
theorem XsAt.setX (h : XsAt U w xb mb D G vt vq ts t lf es Q) (t2 : Nat) (l2 : Int) (hon : Only (fun k => k = xb) w w2) (hb : w2.heap[xb]? = some (.cells (xsC vt t2 l2 mb vq) 71 (0, 0))) :
    XsAt U w2 xb mb D G vt vq ts t2 l2 es Q ∧ Only (fun k => ¬ U k) w w2 := by
  refine ⟨⟨hb, h.lq, h.t'.kept hon (fun k hk e => ?_), mp_owns h.m hon (fun e => mp_ne h.x h.m e.symm), h.hs, h.ha, fun e he => Only.keep hon (h.rn e he) (fun e2 => tag_ne (h.rn e he) h.x (by decide) e2), h.gi, fun j hj => (h.qs j hj).kept hon (fun k hk e => ?_), h.qd, h.ux, h.ut, h.um, h.ur, h.uq, fun k hk => Nat.lt_of_lt_of_le (h.low k hk) hon.size, h.nl, h.ix⟩, hon.mono (fun k _ hk => by rw [hk]; exact h.ux)⟩
  · obtain ⟨cur, hc⟩ := own_tag h.t' hk
    exact tag_ne h.x hc (by decide) e.symm
  · obtain ⟨cur, hc⟩ := own_tag (h.qs j hj) hk
    exact tag_ne h.x hc (by decide) e.symm
theorem XsAt.putT (h : XsAt U w xb mb D G vt vq ts t lf es Q) (t2 : Nat) : XsAt U (w.setCell ⟨xb, 1, none⟩ (.int .i64 (t2 : Int))) xb mb D G vt vq ts t2 lf es Q ∧ Only (fun k => ¬ U k) w (w.setCell ⟨xb, 1, none⟩ (.int .i64 (t2 : Int))) :=
  h.setX t2 lf (Only.setCell (S := fun k => k = xb) (Only.refl _ w) (Or.inl rfl) _) (by rw [heap_setCell_same _ _ 1 _ _ (.int .i64 (t2 : Int)) h.x]; unfold xsC; rw [List.setIfInBounds_toArray]; rfl)
theorem XsAt.putF (h : XsAt U w xb mb D G vt vq ts t lf es Q) (x : Int) : XsAt U (w.setCell ⟨xb, 2, none⟩ (.int .i64 x)) xb mb D G vt vq ts t x es Q ∧ Only (fun k => ¬ U k) w (w.setCell ⟨xb, 2, none⟩ (.int .i64 x)) :=
  h.setX t x (Only.setCell (S := fun k => k = xb) (Only.refl _ w) (Or.inl rfl) _) (by rw [heap_setCell_same _ _ 2 _ _ (.int .i64 x) h.x]; unfold xsC; rw [List.setIfInBounds_toArray]; rfl)
/-- A runner's field put anew. -/
theorem XsAt.putR (h : XsAt U w xb mb D G vt vq ts t lf es Q) (hnd : (es.map (·.num)).Nodup) {i : Nat} (hi : i < es.length) (y : Et) (hy : y.num = es[i].num) (c : Nat) (v : Value) (hc : rnC y = (rnC es[i]).setIfInBounds c v) :
    XsAt U (w.setCell ⟨G es[i].num, c, none⟩ v) xb mb D G vt vq ts t lf (es.set i y) Q ∧ Only (fun k => ¬ U k) w (w.setCell ⟨G es[i].num, c, none⟩ v) := by
  refine h.setR hnd hi y hy ?_ ?_
  · rw [hy]
    exact Only.setCell (S := fun k => k = G es[i].num) (Only.refl _ w) (Or.inl rfl) _
  · rw [hy, heap_setCell_same _ _ c _ _ v (h.rn _ (List.getElem_mem hi)), hc]
end Go.Proofs.Ytgncabcnefhkiaa

import Derived.Test.YtbmchgjilkoplaaDoorCk18
import Derived.Test.YtbmchgjilkoplaaDoorCk19
/- Chapter 7, pure: what the document's store keeps. -/
namespace Go.Proofs.YtbmchgjilkoplaaDoor
open Go.Vx
set_option linter.unusedVariables false

/-- In order. -/
def Srt (es : List En) : Prop := es.Pairwise fun a b => aheadB a.at' b.at' = true
theorem ahead_irr (a : Sl) : aheadB a a = false := decide_eq_false (by omega)
theorem ahead_trans {a b c : Sl} (h1 : aheadB a b = true) (h2 : aheadB b c = true) : aheadB a c = true := by
  have h3 := of_decide_eq_true h1
  have h4 := of_decide_eq_true h2
  exact decide_eq_true (by omega)
theorem ahead_total {a b : Sl} (h : a ≠ b) : aheadB a b = true ∨ aheadB b a = true := by
  obtain ⟨a1, a2⟩ := a
  obtain ⟨b1, b2⟩ := b
  by_cases h1 : a1 < b1
  · exact Or.inl (decide_eq_true (Or.inl h1))
  · by_cases h2 : b1 < a1
    · exact Or.inr (decide_eq_true (Or.inl h2))
    · have e : a1 = b1 := by omega
      subst e
      have h3 : a2 ≠ b2 := fun e => h (by rw [e])
      by_cases h4 : a2 < b2
      · exact Or.inl (decide_eq_true (Or.inr ⟨rfl, h4⟩))
      · exact Or.inr (decide_eq_true (Or.inr ⟨rfl, by show b2 < a2; omega⟩))
theorem Srt.nodup {es : List En} (h : Srt es) : (es.map (·.at')).Nodup := by
  refine List.pairwise_map.2 (h.imp (fun {a b} hab he => ?_))
  rw [he, ahead_irr] at hab
  cases hab
theorem once_of_nodup {es : List En} (h : (es.map (·.at')).Nodup) : Once es := by
  intro e he e2 he2 hE
  have hp : es.Pairwise (fun a b => a.at' ≠ b.at') := List.pairwise_map.1 h
  obtain ⟨i, hi, rfl⟩ := List.getElem_of_mem he
  obtain ⟨j, hj, rfl⟩ := List.getElem_of_mem he2
  by_cases hij : i = j
  · subst hij; rfl
  · exfalso
    by_cases h1 : i < j
    · exact List.pairwise_iff_getElem.1 hp i j hi hj h1 hE
    · exact List.pairwise_iff_getElem.1 hp j i hj hi (by omega) hE.symm
theorem mem_insK {es : List En} {x e : En} {k : Nat} : e ∈ insK es x k ↔ e = x ∨ e ∈ es := by
  unfold insK
  rw [List.mem_append, List.mem_cons]
  constructor
  · rintro (h | h | h)
    · exact Or.inr (List.mem_of_mem_take h)
    · exact Or.inl h
    · exact Or.inr (List.mem_of_mem_drop h)
  · rintro (h | h)
    · exact Or.inr (Or.inl h)
    · rw [← List.take_append_drop k es, List.mem_append] at h
      rcases h with h | h
      · exact Or.inl h
      · exact Or.inr (Or.inr h)
theorem mem_insF {es : List En} {x e : En} : e ∈ insF es x ↔ e = x ∨ e ∈ es := mem_insK
theorem insP_le (es : List En) (x : En) : ∀ k, insP es x k ≤ k
  | 0 => Nat.le_refl _
  | k + 1 => by
    unfold insP
    split
    · exact Nat.le_trans (insP_le es x k) (by omega)
    · exact Nat.le_refl _
/-- Behind the place x is ahead of all; just ahead of the place it is not. -/
theorem insP_spec (es : List En) (x : En) : ∀ k, k ≤ es.length → (∀ j (hj : j < es.length), insP es x k ≤ j → j < k → aheadB x.at' es[j].at' = true) ∧ (∀ i (hi : i < es.length), insP es x k = i + 1 → aheadB x.at' es[i].at' = false)
  | 0, _ => ⟨fun j hj h1 h2 => by omega, fun i hi h => by simp [insP] at h⟩
  | k + 1, hk => by
    have ih := insP_spec es x k (by omega)
    have hg := getD_at es k (by omega)
    unfold insP
    by_cases h : aheadB x.at' (es.getD k .df).at' = true
    · rw [if_pos h]
      refine ⟨fun j hj h1 h2 => ?_, ih.2⟩
      by_cases hjk : j < k
      · exact ih.1 j hj h1 hjk
      · have e : j = k := by omega
        subst e
        rw [hg] at h
        exact h
    · rw [if_neg h]
      refine ⟨fun j hj h1 h2 => by omega, fun i hi hE => ?_⟩
      have e : k = i := by omega
      subst e
      rw [hg] at h
      simpa using h
theorem insF_srt {es : List En} (h : Srt es) (x : En) (hx : ∀ e ∈ es, e.at' ≠ x.at') : Srt (insF es x) := by
  have hp := insP_le es x es.length
  obtain ⟨h1, h2⟩ := insP_spec es x es.length (Nat.le_refl _)
  unfold insF insK
  generalize insP es x es.length = p at hp h1 h2
  have hsplit : Srt (es.take p ++ es.drop p) := by rw [List.take_append_drop]; exact h
  unfold Srt at hsplit ⊢
  rw [List.pairwise_append] at hsplit ⊢
  obtain ⟨q1, q2, q3⟩ := hsplit
  have hdrop : ∀ y ∈ es.drop p, aheadB x.at' y.at' = true := fun y hy => by
    obtain ⟨j, hj, rfl⟩ := List.getElem_of_mem hy
    rw [List.length_drop] at hj
    rw [List.getElem_drop]
    exact h1 (p + j) (by omega) (by omega) (by omega)
  have htake : ∀ y ∈ es.take p, aheadB y.at' x.at' = true := fun y hy => by
    obtain ⟨j, hj, rfl⟩ := List.getElem_of_mem hy
    rw [List.length_take] at hj
    rw [List.getElem_take]
    have hp0 : p = (p - 1) + 1 := by omega
    have h3 := h2 (p - 1) (by omega) hp0
    have hlast : aheadB (es[p - 1]'(by omega)).at' x.at' = true := by
      rcases ahead_total (hx _ (List.getElem_mem (show p - 1 < es.length by omega))) with h4 | h4
      · exact h4
      · rw [h4] at h3; cases h3
    by_cases hjp : j = p - 1
    · subst hjp; exact hlast
    · exact ahead_trans (List.pairwise_iff_getElem.1 h j (p - 1) (by omega) (by omega) (by omega)) hlast
  exact ⟨q1, List.pairwise_cons.2 ⟨hdrop, q2⟩, fun a ha b hb => by
    rcases List.mem_cons.1 hb with rfl | hb
    · exact htake a ha
    · exact q3 a ha b hb⟩
end Go.Proofs.YtbmchgjilkoplaaDoor

/- Chapter 7, pure: every call keeps the store sound. -/
namespace Go.Proofs.YtbmchgjilkoplaaDoor
open Go.Vx
set_option linter.unusedVariables false

structure Wf (bs : List (Int × Int)) (es : List En) : Prop where
  bn : ∀ b ∈ bs, twoB b.2 = true ∧ 0 ≤ b.1
  pl : ∀ e ∈ es, ∃ b ∈ bs, b.1 = e.at'.1
  so : Srt es
  fr : ∀ e ∈ es, e.from' = (-1, -1) ∨ ∃ e2 ∈ es, e2.at' = e.from'
  rk : ∃ r : Sl → Nat, ∀ e ∈ es, r e.from' < r e.at'
  gu : ∀ e ∈ es, GuOk e.cap
theorem Wf.none {bs : List (Int × Int)} {es : List En} (h : Wf bs es) {e : En} (he : e ∈ es) : e.at' ≠ (-1, -1) := by
  obtain ⟨b, hb, hE⟩ := h.pl e he
  have h1 := (h.bn b hb).2
  intro h2
  rw [h2] at hE
  simp only at hE
  omega
theorem free_none {bs : List (Int × Int)} {es : List En} {s : Sl} (h : freeF bs es s = 0) : (∃ b ∈ bs, b.1 = s.1) ∧ ∀ e ∈ es, e.at' ≠ s := by
  have hf : fullF bs es s = .error 11 := by
    unfold freeF at h
    rcases full_cases bs es s with ⟨i, hi, _⟩ | hi | hi
    · rw [hi] at h; cases h
    · rw [hi] at h; cases h
    · exact hi
  unfold fullF at hf
  cases hs : sizeF bs s.1 with
  | none => rw [hs] at hf; cases hf
  | some n =>
    rw [hs] at hf
    dsimp only at hf
    by_cases h2 : s.2 < 0 ∨ n ≤ s.2
    · rw [if_pos h2] at hf; cases hf
    · rw [if_neg h2] at hf
      refine ⟨?_, ?_⟩
      · cases hx : boxF bs s.1 with
        | none => rw [sizeF_none hx] at hs; cases hs
        | some i =>
          obtain ⟨hi, h3, _⟩ := boxF_at hx
          exact ⟨_, List.getElem_mem hi, h3⟩
      · cases he : entF es s with
        | some i => rw [he] at hf; cases hf
        | none =>
          intro e hm hE
          have h3 := idxF_none he e hm
          rw [hE] at h3
          simp at h3
/-- One entry more. -/
theorem Wf.ins {bs : List (Int × Int)} {es : List En} (h : Wf bs es) (x : En) (hb : ∃ b ∈ bs, b.1 = x.at'.1) (hx : ∀ e ∈ es, e.at' ≠ x.at') (hf : x.from' = (-1, -1) ∨ ∃ e2 ∈ es, e2.at' = x.from') (hg : GuOk x.cap) : Wf bs (insF es x) := by
  have hnx : x.at' ≠ (-1, -1) := fun e => by
    obtain ⟨b, hb, hE⟩ := hb
    have h1 := (h.bn b hb).2
    rw [e] at hE
    simp only at hE
    omega
  have hfx : x.from' ≠ x.at' := fun e => by
    rcases hf with h1 | ⟨e2, h2, h3⟩
    · exact hnx (by rw [← e, h1])
    · exact hx e2 h2 (by rw [h3, e])
  have hfe : ∀ e ∈ es, e.from' ≠ x.at' := fun e he hE => by
    rcases h.fr e he with h1 | ⟨e2, h2, h3⟩
    · exact hnx (by rw [← hE, h1])
    · exact hx e2 h2 (by rw [h3, hE])
  refine ⟨h.bn, fun e he => ?_, insF_srt h.so x hx, fun e he => ?_, ?_, fun e he => ?_⟩
  · rcases mem_insF.1 he with rfl | he
    · exact hb
    · exact h.pl e he
  · rcases mem_insF.1 he with rfl | he
    · exact hf.imp (fun h => h) (fun ⟨e2, h2, h3⟩ => ⟨e2, mem_insF.2 (Or.inr h2), h3⟩)
    · exact (h.fr e he).imp (fun h => h) (fun ⟨e2, h2, h3⟩ => ⟨e2, mem_insF.2 (Or.inr h2), h3⟩)
  · obtain ⟨r, hr⟩ := h.rk
    refine ⟨fun s => if s = x.at' then r x.from' + 1 else r s, fun e he => ?_⟩
    dsimp only
    rcases mem_insF.1 he with rfl | he
    · rw [if_neg hfx, if_pos rfl]; omega
    · rw [if_neg (hfe e he), if_neg (hx e he)]; exact hr e he
  · rcases mem_insF.1 he with rfl | he
    · exact hg
    · exact h.gu e he
theorem full_at {bs : List (Int × Int)} {es : List En} {s : Sl} {i : Nat} (h : fullF bs es s = .ok i) : ∃ hi : i < es.length, es[i].at' = s := by
  rcases full_cases bs es s with ⟨j, hj, he⟩ | hj | hj
  · rw [h] at hj
    injection hj with hj
    subst hj
    exact entF_at he
  · rw [h] at hj; cases hj
  · rw [h] at hj; cases hj
theorem Wf.put {bs : List (Int × Int)} {es : List En} (h : Wf bs es) (a : Sl) (c : Cp) (f : Sl) (hg : GuOk c) : Wf bs (putL bs es a c f) := by
  unfold putL
  by_cases he : putE bs es a c f = 0
  · rw [if_pos he]
    unfold putE at he
    by_cases hk : c.kind < 1 ∨ 10 < c.kind
    · rw [if_pos hk] at he; cases he
    · rw [if_neg hk] at he
      by_cases hf : freeF bs es a = 0
      · rw [if_pos hf] at he
        obtain ⟨h1, h2⟩ := free_none hf
        refine h.ins ⟨a, c, fromN f⟩ h1 h2 ?_ hg
        show fromN f = (-1, -1) ∨ _
        unfold fromN
        by_cases hm : f.1 = -1
        · rw [if_pos hm]; exact Or.inl rfl
        · rw [if_neg hm] at he ⊢
          right
          rcases full_cases bs es f with ⟨i, hi, _⟩ | hi | hi
          · obtain ⟨hl, hE⟩ := full_at hi
            exact ⟨_, List.getElem_mem hl, hE⟩
          · rw [hi] at he; cases he
          · rw [hi] at he; cases he
      · rw [if_neg hf] at he; exact absurd he hf
  · rw [if_neg he]; exact h
theorem mem_cutL {es : List En} {i : Nat} {t : Sl} {y : En} (h : y ∈ cutL es i t) : ∃ e ∈ es.eraseIdx i, y = cutY (es.getD i .df).at' t e := by
  unfold cutL at h
  obtain ⟨e, he, hE⟩ := List.mem_map.1 h
  exact ⟨e, he, hE.symm⟩
theorem cutY_at (a t : Sl) (e : En) : (cutY a t e).at' = e.at' ∧ (cutY a t e).cap = e.cap := by
  unfold cutY
  split
  · exact ⟨rfl, rfl⟩
  · exact ⟨rfl, rfl⟩
theorem cutL_srt {es : List En} (h : Srt es) (i : Nat) (t : Sl) : Srt (cutL es i t) := by
  unfold cutL Srt
  refine List.pairwise_map.2 ?_
  refine (List.Pairwise.sublist (List.eraseIdx_sublist es i) h).imp (fun {a b} hab => ?_)
  rw [(cutY_at _ _ a).1, (cutY_at _ _ b).1]
  exact hab
/-- What is left when one has gone is not that one. -/
theorem erase_ne {es : List En} (h : Srt es) {i : Nat} (hi : i < es.length) {e : En} (he : e ∈ es.eraseIdx i) : e ∈ es ∧ e.at' ≠ es[i].at' := by
  refine ⟨List.mem_of_mem_eraseIdx he, ?_⟩
  obtain ⟨j, hj, hE⟩ := List.getElem_of_mem he
  rw [List.getElem_eraseIdx] at hE
  have hp := List.pairwise_iff_getElem.1 h
  have hlen : (es.eraseIdx i).length = es.length - 1 := List.length_eraseIdx_of_lt hi
  intro hat
  split at hE
  · rename_i hji
    have h1 := hp j i (by omega) hi hji
    rw [hE, hat, ahead_irr] at h1
    cases h1
  · rename_i hji
    have h1 := hp i (j + 1) hi (by omega) (by omega)
    rw [hE, hat, ahead_irr] at h1
    cases h1
theorem mem_erase {es : List En} {i : Nat} (hi : i < es.length) {e : En} (he : e ∈ es) (hn : e.at' ≠ es[i].at') : e ∈ es.eraseIdx i := by
  obtain ⟨j, hj, rfl⟩ := List.getElem_of_mem he
  rw [List.mem_iff_getElem?]
  by_cases h1 : j < i
  · exact ⟨j, by rw [List.getElem?_eraseIdx, if_pos h1, List.getElem?_eq_getElem hj]⟩
  · have h2 : j ≠ i := fun e => hn (by subst e; rfl)
    exact ⟨j - 1, by rw [List.getElem?_eraseIdx, if_neg (by omega), show j - 1 + 1 = j by omega, List.getElem?_eq_getElem hj]⟩
theorem Wf.take {bs : List (Int × Int)} {es : List En} (h : Wf bs es) (s : Sl) : Wf bs (takeL bs es s) := by
  unfold takeL
  rcases full_cases bs es s with ⟨i, hf, _⟩ | hf | hf
  · obtain ⟨hi, hE⟩ := full_at hf
    rw [hf]
    dsimp only
    have hg := getD_at es i hi
    refine ⟨h.bn, fun y hy => ?_, cutL_srt h.so i _, fun y hy => ?_, ?_, fun y hy => ?_⟩
    · obtain ⟨e, he, rfl⟩ := mem_cutL hy
      rw [(cutY_at _ _ e).1]
      exact h.pl e (erase_ne h.so hi he).1
    · obtain ⟨e, he, rfl⟩ := mem_cutL hy
      have hmem : ∀ e2 ∈ es, e2.at' ≠ es[i].at' → ∃ y ∈ cutL es i (es.getD i .df).from', y.at' = e2.at' := fun e2 h2 h3 => ⟨cutY (es.getD i .df).at' (es.getD i .df).from' e2, List.mem_map.2 ⟨e2, mem_erase hi h2 h3, rfl⟩, (cutY_at _ _ e2).1⟩
      unfold cutY
      by_cases hc : e.from' = (es.getD i .df).at'
      · rw [if_pos hc]
        dsimp only
        rw [hg]
        rcases h.fr es[i] (List.getElem_mem hi) with h1 | ⟨e2, h2, h3⟩
        · exact Or.inl h1
        · right
          obtain ⟨y, hy1, hy2⟩ := hmem e2 h2 (fun h4 => by
            obtain ⟨r, hr⟩ := h.rk
            have h5 := hr _ (List.getElem_mem hi)
            rw [← h3, h4] at h5
            omega)
          rw [hg] at hy1
          exact ⟨y, hy1, by rw [hy2, h3]⟩
      · rw [if_neg hc]
        rcases h.fr e (erase_ne h.so hi he).1 with h1 | ⟨e2, h2, h3⟩
        · exact Or.inl h1
        · right
          obtain ⟨y, hy1, hy2⟩ := hmem e2 h2 (fun h4 => hc (by rw [hg, ← h4, h3]))
          exact ⟨y, hy1, by rw [hy2, h3]⟩
    · obtain ⟨r, hr⟩ := h.rk
      refine ⟨r, fun y hy => ?_⟩
      obtain ⟨e, he, rfl⟩ := mem_cutL hy
      have h1 := hr e (erase_ne h.so hi he).1
      unfold cutY
      by_cases hc : e.from' = (es.getD i .df).at'
      · rw [if_pos hc]
        dsimp only
        have h2 := hr _ (List.getElem_mem hi)
        rw [hc, hg] at h1
        rw [hg]
        omega
      · rw [if_neg hc]; exact h1
    · obtain ⟨e, he, rfl⟩ := mem_cutL hy
      rw [(cutY_at _ _ e).2]
      exact h.gu e (erase_ne h.so hi he).1
  · rw [hf]; exact h
  · rw [hf]; exact h
end Go.Proofs.YtbmchgjilkoplaaDoor

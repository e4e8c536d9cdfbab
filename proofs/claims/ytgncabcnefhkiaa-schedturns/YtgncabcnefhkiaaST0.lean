/- Chapter 9, SchedTurns, pure. -/
import Derived.Test.YtgncabcnefhkiaaSX12
namespace Go.Proofs.Ytgncabcnefhkiaa
open Go.Vx
set_option linter.unusedVariables false
variable {es : List Et} {ck : Nat}

/-- Who is next: nobody, or one of the highest priority. -/
def Hi (es : List Et) (d r : Int) : Prop := (r = -1 ∧ ∀ e ∈ es, ¬ InD d e) ∨ ∃ e ∈ es, r = e.num ∧ InD d e ∧ ∀ f ∈ es, InD d f → f.prio ≤ e.prio
/-- Two lists alike but for slices and places. -/
def Alk (es es2 : List Et) : Prop := es2.length = es.length ∧ ∀ k, k < es.length → (es2.getD k .df).num = (es.getD k .df).num ∧ (es2.getD k .df).dom = (es.getD k .df).dom ∧ (es2.getD k .df).prio = (es.getD k .df).prio ∧ ((es2.getD k .df).came ≠ 0 ↔ (es.getD k .df).came ≠ 0)
theorem Alk.refl (es : List Et) : Alk es es := ⟨rfl, fun _ _ => ⟨rfl, rfl, rfl, Iff.rfl⟩⟩
theorem Alk.trans {a b c : List Et} (h : Alk a b) (k : Alk b c) : Alk a c := ⟨k.1.trans h.1, fun j hj => by
  obtain ⟨a1, a2, a3, a4⟩ := h.2 j hj
  obtain ⟨b1, b2, b3, b4⟩ := k.2 j (by rw [h.1]; exact hj)
  exact ⟨b1.trans a1, b2.trans a2, b3.trans a3, b4.trans a4⟩⟩
theorem getD_set_et {k j : Nat} (hk : k < es.length) (y : Et) : (es.set k y).getD j .df = if j = k then y else es.getD j .df := by
  rw [List.getD_eq_getElem?_getD, List.getD_eq_getElem?_getD, List.getElem?_set]
  by_cases h : j = k
  · rw [if_pos h, if_pos h.symm, if_pos hk]; rfl
  · rw [if_neg h, if_neg (fun e => h e.symm)]
theorem Alk.set {i : Nat} (hi : i < es.length) (y : Et) (h1 : y.num = (es.getD i .df).num) (h2 : y.dom = (es.getD i .df).dom) (h3 : y.prio = (es.getD i .df).prio) (h4 : y.came ≠ 0 ↔ (es.getD i .df).came ≠ 0) : Alk es (es.set i y) := by
  refine ⟨List.length_set, fun k hk => ?_⟩
  rw [getD_set_et hi]
  by_cases e : k = i
  · rw [if_pos e, e]; exact ⟨h1, h2, h3, h4⟩
  · rw [if_neg e]; exact ⟨rfl, rfl, rfl, Iff.rfl⟩
theorem Alk.hi {es2 : List Et} (h : Alk es es2) {d r : Int} (hh : Hi es2 d r) : Hi es d r := by
  have hmem : ∀ e ∈ es2, ∃ f ∈ es, e.num = f.num ∧ e.dom = f.dom ∧ e.prio = f.prio ∧ (e.came ≠ 0 ↔ f.came ≠ 0) := fun e he => by
    obtain ⟨k, hk, rfl⟩ := List.getElem_of_mem he
    have hk2 : k < es.length := by rw [← h.1]; exact hk
    have := h.2 k hk2
    rw [getD_et hk, getD_et hk2] at this
    exact ⟨es[k], List.getElem_mem hk2, this⟩
  have hmem2 : ∀ f ∈ es, ∃ e ∈ es2, e.num = f.num ∧ e.dom = f.dom ∧ e.prio = f.prio ∧ (e.came ≠ 0 ↔ f.came ≠ 0) := fun f hf => by
    obtain ⟨k, hk, rfl⟩ := List.getElem_of_mem hf
    have hk2 : k < es2.length := by rw [h.1]; exact hk
    have := h.2 k hk
    rw [getD_et hk2, getD_et hk] at this
    exact ⟨es2[k], List.getElem_mem hk2, this⟩
  rcases hh with ⟨h1, h2⟩ | ⟨e, he, h1, h2, h3⟩
  · refine Or.inl ⟨h1, fun f hf hi => ?_⟩
    obtain ⟨e, he, a1, a2, a3, a4⟩ := hmem2 f hf
    exact h2 e he ⟨a2.trans hi.1, a4.2 hi.2⟩
  · obtain ⟨f, hf, a1, a2, a3, a4⟩ := hmem e he
    refine Or.inr ⟨f, hf, h1.trans a1, ⟨a2.symm.trans h2.1, a4.1 h2.2⟩, fun g hg hi => ?_⟩
    obtain ⟨e2, he2, b1, b2, b3, b4⟩ := hmem2 g hg
    have := h3 e2 he2 ⟨b2.trans hi.1, b4.2 hi.2⟩
    rw [b3, a3] at this
    exact this
theorem hi_best {d : Int} {i : Nat} (hb : bestF es d = some i) : Hi es d (es.getD i .df).num := by
  obtain ⟨hi, h1, h2⟩ := best_some hb
  rw [getD_et hi]
  refine Or.inr ⟨es[i], List.getElem_mem hi, rfl, h1, fun f hf hF => ?_⟩
  have := h2 f hf hF
  unfold Fst at this
  omega
/-- What Next tells, and leaves as it was. -/
theorem next_hi (h : SWf es ck) (d : Int) : Hi es d (nextI es ck d).2.2 ∧ Alk es (nextI es ck d).1 := by
  unfold nextI
  cases hb : bestF es d with
  | none => exact ⟨Or.inl ⟨rfl, best_none hb⟩, Alk.refl _⟩
  | some i =>
    obtain ⟨hi, h1, h2⟩ := best_some hb
    dsimp only
    by_cases hl : (es.getD i .df).left = 0
    · rw [if_pos hl]
      obtain ⟨_, j, hb2, hj0, _⟩ := best_last h hb
      have e5 : es.getD i .df = es[i] := getD_et hi
      have hj : j < (es.set i (lastE ck (es.getD i .df))).length := by rw [List.length_set] at hj0 ⊢; exact hj0
      have A1 : Alk es (es.set i (lastE ck (es.getD i .df))) := Alk.set hi _ rfl rfl rfl ⟨fun _ => by rw [e5]; exact h1.2, fun _ => by show (ck : Int) + 1 ≠ 0; omega⟩
      rw [← e5] at hb2
      rw [hb2]
      dsimp only
      refine ⟨A1.hi (hi_best hb2), A1.trans (Alk.set hj _ rfl rfl rfl Iff.rfl)⟩
    · rw [if_neg hl]
      exact ⟨hi_best hb, Alk.set hi _ rfl rfl rfl Iff.rfl⟩
/-- Six threads, two domains. -/
def Six (es : List Et) : Prop := es.length = 6 ∧ ∀ k : Nat, k < 6 → (es.getD k .df).num = (k : Int) ∧ (es.getD k .df).dom = ((k % 2 : Nat) : Int)
theorem Six.alk {es2 : List Et} (h : Six es) (a : Alk es es2) : Six es2 := ⟨a.1.trans h.1, fun k hk => by
  obtain ⟨a1, a2, _⟩ := a.2 k (by rw [h.1]; exact hk)
  obtain ⟨b1, b2⟩ := h.2 k hk
  exact ⟨a1.trans b1, a2.trans b2⟩⟩
theorem Six.set (h : Six es) {i : Nat} (hi : i < 6) (y : Et) (h1 : y.num = (i : Int)) (h2 : y.dom = ((i % 2 : Nat) : Int)) : Six (es.set i y) := by
  refine ⟨by rw [List.length_set]; exact h.1, fun k hk => ?_⟩
  rw [getD_set_et (by rw [h.1]; exact hi)]
  by_cases e : k = i
  · rw [if_pos e, e]; exact ⟨h1, h2⟩
  · rw [if_neg e]; exact h.2 k hk
theorem Six.fn (h : Six es) (hw : SWf es ck) {k : Nat} (hk : k < 6) : fnF es (k : Int) = some k := by
  have hl : k < es.length := by rw [h.1]; exact hk
  have := fnF_num hw.nd hl
  have h2 := (h.2 k hk).1
  rw [getD_et hl] at h2
  rw [h2] at this
  exact this
/-- What the law's two rows say. -/
def Lk (es : List Et) (R : Nat → Bool) (P : Nat → Int) : Prop := ∀ k, k < 6 → R k = decide ((es.getD k .df).came ≠ 0) ∧ P k = (es.getD k .df).prio
theorem Lk.alk {es2 : List Et} {R : Nat → Bool} {P : Nat → Int} (h : Lk es R P) (hl : es.length = 6) (a : Alk es es2) : Lk es2 R P := fun k hk => by
  obtain ⟨_, _, a3, a4⟩ := a.2 k (by rw [hl]; exact hk)
  obtain ⟨b1, b2⟩ := h k hk
  refine ⟨?_, b2.trans a3.symm⟩
  rw [b1]
  exact decide_eq_decide.2 a4.symm
def upB (R : Nat → Bool) (i : Nat) (b : Bool) : Nat → Bool := fun k => if k = i then b else R k
def upI (P : Nat → Int) (i : Nat) (b : Int) : Nat → Int := fun k => if k = i then b else P k
theorem Lk.set {R : Nat → Bool} {P : Nat → Int} (h : Lk es R P) (hl : es.length = 6) {i : Nat} (hi : i < 6) (y : Et) : Lk (es.set i y) (upB R i (decide (y.came ≠ 0))) (upI P i y.prio) := fun k hk => by
  rw [getD_set_et (by rw [hl]; exact hi)]
  unfold upB upI
  by_cases e : k = i
  · rw [if_pos e, if_pos e, if_pos e]; exact ⟨rfl, rfl⟩
  · rw [if_neg e, if_neg e, if_neg e]; exact h k hk
theorem upB_self (R : Nat → Bool) (i : Nat) : upB R i (R i) = R := by
  funext k
  unfold upB
  by_cases e : k = i
  · rw [if_pos e, e]
  · rw [if_neg e]
theorem upI_self (P : Nat → Int) (i : Nat) : upI P i (P i) = P := by
  funext k
  unfold upI
  by_cases e : k = i
  · rw [if_pos e, e]
  · rw [if_neg e]
/-- The best of the first k. -/
def bstI (R : Nat → Bool) (P : Nat → Int) (d : Int) : Nat → Int
  | 0 => -1
  | k + 1 => if (((k % 2 : Nat) : Int) = d ∧ R k = true) ∧ bstI R P d k < P k then P k else bstI R P d k
theorem bst_spec (R : Nat → Bool) (P : Nat → Int) (d : Int) (hP : ∀ k, k < 6 → 0 ≤ P k) : ∀ k, k ≤ 6 → (∀ j, j < k → ((j % 2 : Nat) : Int) = d → R j = true → P j ≤ bstI R P d k) ∧ (bstI R P d k = -1 ∨ ∃ j, j < k ∧ ((j % 2 : Nat) : Int) = d ∧ R j = true ∧ P j = bstI R P d k)
  | 0, _ => ⟨fun j hj => absurd hj (Nat.not_lt_zero _), Or.inl rfl⟩
  | k + 1, hk => by
    obtain ⟨h1, h2⟩ := bst_spec R P d hP k (by omega)
    have hp := hP k (by omega)
    by_cases hc : (((k % 2 : Nat) : Int) = d ∧ R k = true) ∧ bstI R P d k < P k
    · have e : bstI R P d (k + 1) = P k := if_pos hc
      rw [e]
      refine ⟨fun j hj hd hr => ?_, Or.inr ⟨k, by omega, hc.1.1, hc.1.2, rfl⟩⟩
      by_cases ej : j = k
      · rw [ej]; exact Int.le_refl _
      · have := h1 j (by omega) hd hr; omega
    · have e : bstI R P d (k + 1) = bstI R P d k := if_neg hc
      rw [e]
      refine ⟨fun j hj hd hr => ?_, ?_⟩
      · by_cases ej : j = k
        · subst ej
          apply Classical.byContradiction
          intro hx
          exact hc ⟨⟨hd, hr⟩, by omega⟩
        · exact h1 j (by omega) hd hr
      · rcases h2 with h2 | ⟨j, a, b⟩
        · exact Or.inl h2
        · exact Or.inr ⟨j, by omega, b⟩
/-- The law's test. -/
theorem hi_test {R : Nat → Bool} {P : Nat → Int} (hw : SWf es ck) (h6 : Six es) (hl : Lk es R P) {d r : Int} (h : Hi es d r) : (bstI R P d 6 < 0 ∧ r = -1) ∨ (0 ≤ bstI R P d 6 ∧ ∃ j : Nat, j < 6 ∧ r = (j : Int) ∧ ((j % 2 : Nat) : Int) = d ∧ R j = true ∧ P j = bstI R P d 6) := by
  have hP : ∀ k, k < 6 → 0 ≤ P k := fun k hk => by
    rw [(hl k hk).2]
    have hk2 : k < es.length := by rw [h6.1]; exact hk
    rw [getD_et hk2]
    exact (hw.ok _ (List.getElem_mem hk2)).2.2.2.1
  obtain ⟨s1, s2⟩ := bst_spec R P d hP 6 (Nat.le_refl _)
  have hin : ∀ j, j < 6 → (((j % 2 : Nat) : Int) = d ∧ R j = true ↔ InD d (es.getD j .df)) := fun j hj => by
    rw [(hl j hj).1]
    unfold InD
    rw [(h6.2 j hj).2, decide_eq_true_iff]
  have hat : ∀ j, j < 6 → es.getD j .df ∈ es := fun j hj => by
    have hk2 : j < es.length := by rw [h6.1]; exact hj
    rw [getD_et hk2]
    exact List.getElem_mem hk2
  rcases h with ⟨h1, h2⟩ | ⟨e, he, h1, h2, h3⟩
  · left
    refine ⟨?_, h1⟩
    rcases s2 with s2 | ⟨j, a, b, c, _⟩
    · omega
    · exact absurd ((hin j a).1 ⟨b, c⟩) (h2 _ (hat j a))
  · right
    obtain ⟨j, hj, rfl⟩ := List.getElem_of_mem he
    have hj6 : j < 6 := by rw [← h6.1]; exact hj
    have ej : es.getD j .df = es[j] := getD_et hj
    have hnum := (h6.2 j hj6).1
    rw [ej] at hnum
    have hjd := (hin j hj6).2 (by rw [ej]; exact h2)
    have b1 := s1 j hj6 hjd.1 hjd.2
    have hp := hP j hj6
    refine ⟨by omega, j, hj6, h1.trans hnum, hjd.1, hjd.2, ?_⟩
    rcases s2 with s2 | ⟨i, a, b, c, e⟩
    · omega
    · have := h3 _ (hat i a) ((hin i a).1 ⟨b, c⟩)
      rw [← (hl i a).2, ← ej, ← (hl j hj6).2] at this
      omega
/-- Where the turns stand before the m-th call. -/
def TkR (A B m t : Nat) (lf : Int) : Prop := (m % (A + B) = 0 ∧ ((t = 0 ∧ lf = (A : Int) ∧ m = 0) ∨ (t = 1 ∧ lf = 0))) ∨ (0 < m % (A + B) ∧ m % (A + B) ≤ A ∧ t = 0 ∧ lf = (A : Int) - ((m % (A + B) : Nat) : Int)) ∨ (A < m % (A + B) ∧ t = 1 ∧ lf = (A : Int) + (B : Int) - ((m % (A + B) : Nat) : Int))
def tts (A B : Nat) : List (Int × Int) := [(1, (A : Int)), (0, (B : Int))]
theorem mod_succ (m S : Nat) (hS : 0 < S) : (m + 1) % S = if m % S + 1 = S then 0 else m % S + 1 := by
  have hlt := Nat.mod_lt m hS
  have e : m + 1 = m % S + 1 + S * (m / S) := by have := Nat.mod_add_div m S; omega
  rw [e, Nat.add_mul_mod_self_left]
  by_cases h : m % S + 1 = S
  · rw [if_pos h, h, Nat.mod_self]
  · rw [if_neg h, Nat.mod_eq_of_lt (by omega)]
theorem TkR.next {A B m t : Nat} {lf : Int} (hA : 1 ≤ A) (hB : 1 ≤ B) (h : TkR A B m t lf) : TkR A B (m + 1) (turnT (tts A B) t lf) (turnL (tts A B) t lf) ∧ turnD (tts A B) t lf = if m % (A + B) < A then 1 else 0 := by
  have hS : 0 < A + B := by omega
  have hlt := Nat.mod_lt m hS
  have hm := mod_succ m (A + B) hS
  have l2 : (tts A B).length = 2 := rfl
  have hd : turnD (tts A B) t lf = ((tts A B).getD (turnT (tts A B) t lf) (0, 0)).1 := rfl
  obtain ⟨n, hn⟩ : ∃ n, n = m % (A + B) := ⟨_, rfl⟩
  unfold TkR at h ⊢
  rw [hm]
  rw [← hn] at h hlt ⊢
  have case0 : ∀ (T : Nat) (L : Int), turnT (tts A B) t lf = T → turnL (tts A B) t lf = L → (T = 0 ∨ T = 1) → (turnD (tts A B) t lf = if T = 0 then 1 else 0) := fun T L h1 _ h3 => by
    rw [hd, h1]
    rcases h3 with rfl | rfl
    · rfl
    · rfl
  have tz : lf = 0 → turnT (tts A B) t lf = (t + 1) % 2 ∧ turnL (tts A B) t lf = ((tts A B).getD ((t + 1) % 2) (0, 0)).2 - 1 := fun hz => by
    unfold turnT turnL
    rw [if_pos hz, if_pos hz, l2]
    exact ⟨rfl, rfl⟩
  have tn : lf ≠ 0 → turnT (tts A B) t lf = t ∧ turnL (tts A B) t lf = lf - 1 := fun hz => by
    unfold turnT turnL
    rw [if_neg hz, if_neg hz]
    exact ⟨rfl, rfl⟩
  have g0 : ((tts A B).getD 0 (0, 0)).2 = (A : Int) := rfl
  have g1 : ((tts A B).getD 1 (0, 0)).2 = (B : Int) := rfl
  rcases h with ⟨h0, ⟨rfl, rfl, hm0⟩ | ⟨rfl, rfl⟩⟩ | ⟨h0, h1, rfl, rfl⟩ | ⟨h0, rfl, rfl⟩
  · obtain ⟨a1, a2⟩ := tn (by omega)
    have c := case0 _ _ a1 a2 (Or.inl rfl)
    rw [c, a1, a2, h0]
    refine ⟨Or.inr (Or.inl ?_), ?_⟩
    · rw [if_neg (by omega)]; omega
    · rw [if_pos rfl, if_pos (by omega)]
  · obtain ⟨a1, a2⟩ := tz rfl
    have e0 : (1 + 1) % 2 = 0 := rfl
    rw [e0] at a1 a2
    rw [g0] at a2
    have c := case0 _ _ a1 a2 (Or.inl rfl)
    rw [c, a1, a2, h0]
    refine ⟨Or.inr (Or.inl ?_), ?_⟩
    · rw [if_neg (by omega)]; omega
    · rw [if_pos rfl, if_pos (by omega)]
  · by_cases hz : n = A
    · obtain ⟨a1, a2⟩ := tz (by omega)
      have e0 : (0 + 1) % 2 = 1 := rfl
      rw [e0] at a1 a2
      rw [g1] at a2
      have c := case0 _ _ a1 a2 (Or.inr rfl)
      rw [c, a1, a2]
      refine ⟨?_, by rw [if_neg (by decide), if_neg (by omega)]⟩
      by_cases hb : n + 1 = A + B
      · rw [if_pos hb]; left; omega
      · rw [if_neg hb]; right; right; omega
    · obtain ⟨a1, a2⟩ := tn (by omega)
      have c := case0 _ _ a1 a2 (Or.inl rfl)
      rw [c, a1, a2, if_neg (by omega)]
      refine ⟨Or.inr (Or.inl (by omega)), by rw [if_pos rfl, if_pos (by omega)]⟩
  · obtain ⟨a1, a2⟩ := tn (by omega)
    have c := case0 _ _ a1 a2 (Or.inr rfl)
    rw [c, a1, a2]
    refine ⟨?_, by rw [if_neg (by decide), if_neg (by omega)]⟩
    by_cases hb : n + 1 = A + B
    · rw [if_pos hb]; left; omega
    · rw [if_neg hb]; right; right; omega
/-- The threads that came. -/
def tuT (j : Nat) : Et := ⟨(j : Int), ((j % 2 : Nat) : Int), 0, 0, 0⟩
def turE (i : Nat) : List Et := (List.range i).map tuT
theorem turE_len (i : Nat) : (turE i).length = i := by unfold turE; simp
theorem turE_succ (i : Nat) : turE (i + 1) = turE i ++ [tuT i] := by unfold turE; rw [List.range_succ, List.map_append]; rfl
theorem turE_at (k j : Nat) (h : j < (turE k).length) : (turE k)[j] = tuT j := by simp [turE]
theorem tur_add (i : Nat) : addSE (turE i) (i : Int) ((i % 2 : Nat) : Int) 0 = 0 ∧ addSL (turE i) (i : Int) ((i % 2 : Nat) : Int) 0 = turE (i + 1) := by
  have hf : fnF (turE i) (i : Int) = none := by
    cases hi : fnF (turE i) (i : Int) with
    | none => rfl
    | some j =>
      obtain ⟨hl, hn⟩ := fnF_at hi
      rw [turE_at] at hn
      have : (j : Int) = (i : Int) := hn
      rw [turE_len] at hl
      omega
  have e1 : addSE (turE i) (i : Int) ((i % 2 : Nat) : Int) 0 = 0 := by
    unfold addSE
    rw [if_neg (by omega), hf]
    rfl
  exact ⟨e1, by rw [turE_succ]; exact if_pos e1⟩
theorem tur_six : Six (turE 6) := ⟨turE_len 6, fun k hk => by
  have hl : k < (turE 6).length := by rw [turE_len]; exact hk
  rw [getD_et hl, turE_at]
  exact ⟨rfl, rfl⟩⟩
theorem tur_lk : Lk (turE 6) (fun _ => false) (fun _ => 0) := fun k hk => by
  have hl : k < (turE 6).length := by rw [turE_len]; exact hk
  rw [getD_et hl, turE_at]
  exact ⟨rfl, rfl⟩
end Go.Proofs.Ytgncabcnefhkiaa

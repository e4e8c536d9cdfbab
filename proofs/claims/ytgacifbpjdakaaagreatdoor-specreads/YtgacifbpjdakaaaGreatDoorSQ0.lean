/- SpecReads, pure: what a telling keeps, and the reader's side of it. -/
import Derived.Test.YtgacifbpjdakaaaGreatDoorSR19
namespace Go.Vx
open Go.Proofs.YtgacifbpjdakaaaGreatDoor (pickL)
set_option linter.unusedVariables false
set_option linter.unusedSimpArgs false
/-- The reader's side of a telling: the interrupt's name stands behind the first four. -/
def rdT (T : Tx) : Tx := { T with t := [], nm := T.nm.take 4 ++ [105] :: T.nm.drop 4, ar := T.ar.take 4 ++ (9, 5) :: T.ar.drop 4 }
/-- What tellings keep. -/
structure Tw (T : Tx) : Prop where
  len : T.ar.length = T.nm.length
  n4 : 4 ≤ T.nm.length
  nmB : T.nm.take 4 = [[98], [114], [116], [99]]
  arB : T.ar.take 4 = [(5, 9), (4, 10), (6, 11), (8, 12)]
  nmN : ∀ i, 4 ≤ i → i < T.nm.length → T.nm.getD i [] = nmF i
theorem rd_nm {T : Tx} (h : Tw T) : (rdT T).nm = [98] :: [114] :: [116] :: [99] :: [105] :: T.nm.drop 4 := by
  show T.nm.take 4 ++ [105] :: T.nm.drop 4 = _
  rw [h.nmB]; rfl
theorem rd_ar {T : Tx} (h : Tw T) : (rdT T).ar = (5, 9) :: (4, 10) :: (6, 11) :: (8, 12) :: (9, 5) :: T.ar.drop 4 := by
  show T.ar.take 4 ++ (9, 5) :: T.ar.drop 4 = _
  rw [h.arB]; rfl
theorem rd_len {T : Tx} (h : Tw T) : (rdT T).nm.length = T.nm.length + 1 := by
  rw [rd_nm h]
  have := h.n4
  simp
  omega
theorem name_of {T : Tx} (h : Tw T) (i : Nat) (hi : i < T.nm.length) : T.nm.getD i [] ∈ [[98], [114], [116], [99]] ∨ (4 ≤ i ∧ T.nm.getD i [] = nmF i) := by
  by_cases h4 : i < 4
  · left
    have e : T.nm.getD i [] = (T.nm.take 4).getD i [] := by
      rw [List.getD_eq_getElem?_getD, List.getD_eq_getElem?_getD, List.getElem?_take, if_pos h4]
    rw [e, h.nmB]
    rcases (show i = 0 ∨ i = 1 ∨ i = 2 ∨ i = 3 by omega) with rfl | rfl | rfl | rfl <;> simp
  · exact Or.inr ⟨by omega, h.nmN i (by omega) hi⟩
theorem nm_wd' {T : Tx} (h : Tw T) (i : Nat) (hi : i < T.nm.length) : WdOk (T.nm.getD i []) := by
  rcases name_of h i hi with h1 | ⟨_, h1⟩
  · simp only [List.mem_cons, List.not_mem_nil, or_false] at h1
    rcases h1 with h1 | h1 | h1 | h1 <;> rw [h1] <;> decide
  · rw [h1]; exact nm_wd i
theorem nm_ok' {T : Tx} (h : Tw T) (i : Nat) (hi : i < T.nm.length) (hl : T.nm.length ≤ 1000) : NmOk (T.nm.getD i []) := by
  rcases name_of h i hi with h1 | ⟨_, h1⟩
  · simp only [List.mem_cons, List.not_mem_nil, or_false] at h1
    rcases h1 with h1 | h1 | h1 | h1 <;> rw [h1] <;> exact one_ok _ (by decide)
  · rw [h1]; exact nm_ok i (by omega)
/-- A new name is new. -/
theorem new_nm {T : Tx} (h : Tw T) (hl : T.nm.length ≤ 1000) : nmF T.nm.length ∉ (rdT T).nm := by
  rw [rd_nm h]
  have hd : Lib.decDigits T.nm.length ≠ [] := dig_ne _
  have hne : ∀ c : UInt8, nmF T.nm.length ≠ [c] := fun c e => by
    unfold nmF at e
    injection e with _ e
    exact hd e
  intro hm
  simp only [List.mem_cons] at hm
  rcases hm with e | e | e | e | e | hm
  · exact hne _ e
  · exact hne _ e
  · exact hne _ e
  · exact hne _ e
  · exact hne _ e
  · obtain ⟨j, hj, e⟩ := List.mem_iff_getElem.1 hm
    rw [List.length_drop] at hj
    have h1 := h.nmN (4 + j) (by omega) (by omega)
    rw [List.getElem_drop] at e
    rw [List.getD_eq_getElem?_getD, List.getElem?_eq_getElem (by omega)] at h1
    simp only [Option.getD_some] at h1
    rw [h1] at e
    unfold nmF at e
    injection e with _ e
    have := dec_inj (by omega) (by omega) e
    omega
theorem rd_putO {T : Tx} (h : Tw T) (n : List UInt8) (o : Sl) (ob : List Ob) : rdT { T with nm := T.nm ++ [n], ar := T.ar ++ [o], ob := ob } = { rdT T with nm := (rdT T).nm ++ [n], ar := (rdT T).ar ++ [o], ob := ob } := by
  unfold rdT
  have h4 := h.n4
  have h5 := h.len
  simp only [List.take_append_of_le_length h4, List.take_append_of_le_length (show 4 ≤ T.ar.length by omega), List.drop_append_of_le_length h4, List.drop_append_of_le_length (show 4 ≤ T.ar.length by omega), List.append_assoc, List.cons_append]
theorem rd_tell (T : Tx) (o : Tl) : rdT (tellF T o) = rdT (putF' T o) := rfl
/-- Tw is kept. -/
theorem Tw.same {T T' : Tx} (h : Tw T) (h1 : T'.nm = T.nm) (h2 : T'.ar = T.ar) : Tw T' := ⟨by rw [h1, h2]; exact h.len, by rw [h1]; exact h.n4, by rw [h1]; exact h.nmB, by rw [h2]; exact h.arB, by rw [h1]; exact h.nmN⟩
theorem Tw.put {T T' : Tx} (h : Tw T) (o : Sl) (h1 : T'.nm = T.nm ++ [nmF T.nm.length]) (h2 : T'.ar = T.ar ++ [o]) : Tw T' := by
  have h4 := h.n4
  have h5 := h.len
  refine ⟨by rw [h1, h2]; simp [h5], by rw [h1]; simp; omega, by rw [h1, List.take_append_of_le_length h4]; exact h.nmB, by rw [h2, List.take_append_of_le_length (by omega)]; exact h.arB, fun i hi hl => ?_⟩
  rw [h1] at hl ⊢
  rw [List.length_append] at hl
  by_cases hlt : i < T.nm.length
  · have := h.nmN i hi hlt
    rw [List.getD_eq_getElem?_getD] at this ⊢
    rw [List.getElem?_append_left hlt]
    exact this
  · have e : i = T.nm.length := by simp at hl; omega
    subst e
    simp
theorem Tw.tell {T : Tx} (h : Tw T) (o : Tl) : Tw (tellF T o) := by
  unfold tellF
  refine Tw.same (T := putF' T o) ?_ rfl rfl
  unfold putF'
  split
  · exact h.put _ rfl rfl
  · exact h.put _ rfl rfl
  all_goals exact h.same rfl rfl
/-- Signs that may stand in a line. -/
abbrev ChOk (c : UInt8) : Prop := c ≠ 10 ∧ c.toNat < 128
abbrev LnOk (l : List UInt8) : Prop := ∀ c ∈ l, ChOk c
theorem WdOk.ln {w : List UInt8} (h : WdOk w) : LnOk w := fun c hc => ⟨(h.2 c hc).2.2.1, (h.2 c hc).2.2.2⟩
theorem LnOk.app {a b : List UInt8} (h1 : LnOk a) (h2 : LnOk b) : LnOk (a ++ b) := fun c hc => (List.mem_append.1 hc).elim (h1 c) (h2 c)
theorem LnOk.cons {a : UInt8} {b : List UInt8} (h1 : ChOk a) (h2 : LnOk b) : LnOk (a :: b) := fun c hc => (List.mem_cons.1 hc).elim (fun e => e ▸ h1) (h2 c)
theorem LnOk.nil : LnOk [] := fun c hc => by cases hc
theorem dec_ln (n : Nat) : LnOk (Lib.decDigits n) := (dec_wd n).ln
theorem dec10 (n : Nat) (h : n < 4294967296) : (Lib.decDigits n).length ≤ 10 := by
  rw [Lib.decDigits_length]
  have hs : ∀ (k u : Nat), u < 10 ^ (k + 1) → Lib.nDigits u ≤ k + 1 := by
    intro k
    induction k with
    | zero => intro u hu; rw [Lib.nDigits_small (by simpa using hu)]; omega
    | succ k ih =>
      intro u hu
      by_cases h9 : u < 10
      · rw [Lib.nDigits_small h9]; omega
      · rw [Lib.nDigits_big h9]
        have := ih (u / 10) (by rw [Nat.pow_succ] at hu; omega)
        omega
  exact hs 9 n (by omega)
end Go.Vx

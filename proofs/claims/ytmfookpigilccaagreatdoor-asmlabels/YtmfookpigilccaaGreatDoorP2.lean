/- Plain facts on texts of lines: how they are counted and split. -/
import Derived.Test.YtmfookpigilccaaGreatDoorQ5
import Derived.Lib.Split
import Derived.Lib.CountLaws
namespace Go.Vx
/-- Lines as a text. -/
def joinB : List (List UInt8) → List UInt8
  | [] => []
  | [l] => l
  | l :: l2 :: ls => l ++ 10 :: joinB (l2 :: ls)
theorem index_at : ∀ (l r : List UInt8) (c : UInt8), c ∉ l → Lib.indexByte (l ++ c :: r) c = (l.length : Int)
  | [], r, c, _ => by unfold Lib.indexByte; simp
  | b :: l, r, c, h => by
    have h1 : b ≠ c := fun e => h (by simp [e])
    have h2 := index_at l r c (fun e => h (by simp [e]))
    rw [List.cons_append]
    unfold Lib.indexByte
    rw [h2]
    simp only [beq_iff_eq, h1, if_false, List.length_cons]
    rw [if_neg (by omega)]
    omega
theorem count_join : ∀ (ls : List (List UInt8)), ls ≠ [] → (∀ l ∈ ls, (10 : UInt8) ∉ l) → (joinB ls).count 10 = ls.length - 1
  | [], h, _ => absurd rfl h
  | [l], _, h => by simpa [joinB] using List.count_eq_zero.2 (h l (by simp))
  | l :: l2 :: ls, _, h => by
    have h1 := count_join (l2 :: ls) (by simp) (fun x hx => h x (by simp at hx ⊢; right; exact hx))
    have h2 : l.count 10 = 0 := List.count_eq_zero.2 (h l (by simp))
    rw [joinB, List.count_append, List.count_cons_self, h1, h2]
    simp
theorem tail_join (l : List UInt8) (r : List UInt8) : (⟨(l ++ 10 :: r).toArray⟩ : ByteArray).extract (l.length + 1) (⟨(l ++ 10 :: r).toArray⟩ : ByteArray).size = ⟨r.toArray⟩ := by
  apply ByteArray.ext
  apply Array.ext'
  rw [Lib.extract_data]
  have hs : (ByteArray.mk (l ++ 10 :: r).toArray).size = l.length + 1 + r.length := by simp [ByteArray.size]; omega
  rw [hs]
  have e : (l ++ 10 :: r).drop (l.length + 1) = r := by
    rw [show l ++ 10 :: r = (l ++ [10]) ++ r by simp, List.drop_left' (by simp)]
  show (((l ++ 10 :: r).drop (l.length + 1)).take (l.length + 1 + r.length - (l.length + 1))) = r
  rw [e]
  exact List.take_of_length_le (by omega)
theorem head_join (l : List UInt8) (r : List UInt8) : (⟨(l ++ 10 :: r).toArray⟩ : ByteArray).extract 0 (l.length + 0) = ⟨l.toArray⟩ := by
  apply ByteArray.ext
  apply Array.ext'
  rw [Lib.extract_data]
  show (((l ++ 10 :: r).drop 0).take (l.length + 0 - 0)) = l
  simp
theorem split_join : ∀ (ls : List (List UInt8)), ls ≠ [] → (∀ l ∈ ls, (10 : UInt8) ∉ l) → Lib.countB ⟨(joinB ls).toArray⟩ ⟨#[10]⟩ = ls.length - 1 ∧ Lib.splitB ⟨#[10]⟩ 0 (ls.length - 1) ⟨(joinB ls).toArray⟩ = ls.map (fun l => (⟨l.toArray⟩ : ByteArray))
  | [], h, _ => absurd rfl h
  | [l], _, h => by
    have hi : Lib.indexB ⟨l.toArray⟩ ⟨#[10]⟩ = -1 := by
      show Lib.index l [10] = -1
      rw [Lib.index_one, index_none l 10 (h l (by simp))]
    exact ⟨Lib.countB_miss _ _ hi, rfl⟩
  | l :: l2 :: ls, _, h => by
    obtain ⟨h1, h2⟩ := split_join (l2 :: ls) (by simp) (fun x hx => h x (by simp at hx ⊢; right; exact hx))
    have hi : Lib.indexB ⟨(l ++ 10 :: joinB (l2 :: ls)).toArray⟩ ⟨#[10]⟩ = (l.length : Int) := by
      show Lib.index (l ++ 10 :: joinB (l2 :: ls)) [10] = _
      rw [Lib.index_one, index_at _ _ _ (h l (by simp))]
    have ht : (⟨(l ++ 10 :: joinB (l2 :: ls)).toArray⟩ : ByteArray).extract (l.length + (ByteArray.mk #[10]).size) (⟨(l ++ 10 :: joinB (l2 :: ls)).toArray⟩ : ByteArray).size = ⟨(joinB (l2 :: ls)).toArray⟩ := tail_join l _
    constructor
    · rw [joinB, Lib.countB_hit _ _ l.length (by decide) hi, ht, h1]
      simp
      omega
    · have e : (l :: l2 :: ls).length - 1 = ((l2 :: ls).length - 1) + 1 := by simp
      rw [e, joinB, Lib.splitB_hit _ _ _ _ l.length hi, ht, h2, head_join]
      rfl
theorem join_len : ∀ (ls : List (List UInt8)) (m : Nat), (∀ l ∈ ls, l.length ≤ m) → (joinB ls).length ≤ ls.length * (m + 1)
  | [], _, _ => by simp [joinB]
  | [l], m, h => by have := h l (by simp); simp [joinB]; omega
  | l :: l2 :: ls, m, h => by
    have h1 := join_len (l2 :: ls) m (fun x hx => h x (by simp at hx ⊢; right; exact hx))
    have h2 := h l (by simp)
    have e : (l :: l2 :: ls).length * (m + 1) = (l2 :: ls).length * (m + 1) + (m + 1) := by rw [List.length_cons, Nat.add_mul]; omega
    rw [joinB, List.length_append, List.length_cons, e]
    omega
end Go.Vx

/- Pure: numerals are read as what they are; lines of a text (out of P1, P2). -/
import Derived.Test.YtgacifbpjdakaaaGreatDoorTL
import Derived.Lib.ParseIntB
import Derived.Lib.Strings
import Derived.Lib.ConvBytes
import Derived.Lib.Split
import Derived.Lib.CountLaws
namespace Go.Vx
set_option linter.unusedVariables false
theorem dig_one (n : Nat) (h : n < 10) : (UInt8.ofNat (48 + n)).toNat = 48 + n := by
  rw [UInt8.toNat_ofNat']; omega
theorem parse_snoc (M : Nat) : ∀ (l : List UInt8) (c : UInt8) (acc n : Nat), Lib.parseUintM M acc l = .ok n → 48 ≤ c.toNat ∧ c.toNat ≤ 57 → n < 1844674407370955162 → n * 10 + (c.toNat - 48) ≤ M → Lib.parseUintM M acc (l ++ [c]) = .ok (n * 10 + (c.toNat - 48))
  | [], c, acc, n, h, hc, h1, h2 => by
    have : acc = n := by simpa [Lib.parseUintM] using h
    subst this
    simp only [List.nil_append, Lib.parseUintM]
    rw [if_pos hc, if_neg (by omega), if_neg (by omega)]
  | b :: l, c, acc, n, h, hc, h1, h2 => by
    rw [List.cons_append]
    rw [Lib.parseUintM] at h ⊢
    by_cases hb : 48 ≤ b.toNat ∧ b.toNat ≤ 57
    · rw [if_pos hb] at h ⊢
      by_cases h3 : 1844674407370955162 ≤ acc
      · rw [if_pos h3] at h; cases h
      · rw [if_neg h3] at h ⊢
        by_cases h4 : M < acc * 10 + (b.toNat - 48)
        · rw [if_pos h4] at h; cases h
        · rw [if_neg h4] at h ⊢
          exact parse_snoc M l c _ n h hc h1 h2
    · rw [if_neg hb] at h; cases h
theorem parse_dec (M u : Nat) (h : u ≤ M) (h2 : u < 18446744073709551616) : Lib.parseUintM M 0 (Lib.decDigits u) = .ok u := by
  induction u using Nat.strongRecOn with
  | _ u ih =>
    rw [Lib.decDigits]
    split
    · rename_i hu
      simp only [Lib.parseUintM]
      rw [dig_one u hu, if_pos (by omega), if_neg (by omega), if_neg (by omega)]
      congr 1; omega
    · rename_i hu
      have h3 := ih (u / 10) (by omega) (by omega) (by omega)
      have h4 := parse_snoc M _ (UInt8.ofNat (48 + u % 10)) 0 (u / 10) h3 (by rw [dig_one _ (by omega)]; omega) (by omega) (by rw [dig_one _ (by omega)]; omega)
      rw [h4, dig_one _ (by omega)]
      congr 1; omega
theorem parse32 (u : Nat) (h : u < 4294967296) : Lib.parseUintB 32 (Lib.decDigits u) = .ok u := by
  unfold Lib.parseUintB
  rw [if_neg (dig_ne u)]
  exact parse_dec _ u (by have : (2 : Nat) ^ 32 - 1 = 4294967295 := by decide
                          omega) (by omega)
theorem dec_inj {u v : Nat} (hu : u < 4294967296) (hv : v < 4294967296) (h : Lib.decDigits u = Lib.decDigits v) : u = v := by
  have h1 := parse32 u hu
  have h2 := parse32 v hv
  rw [h, h2] at h1
  injection h1 with h1
  exact h1.symm
theorem no_hex (u : Nat) : Lib.hasPrefix (Lib.decDigits u) [48, 120] = false := by
  have h := dig_all u
  cases hl : Lib.decDigits u with
  | nil => rfl
  | cons c l =>
    cases l with
    | nil => unfold Lib.hasPrefix; simp [List.isPrefixOf]
    | cons d l =>
      rw [hl] at h
      have := (h d (by simp)).2
      unfold Lib.hasPrefix
      simp only [List.isPrefixOf]
      have hne : ((120 : UInt8) == d) = false := by rw [beq_eq_false_iff_ne]; intro e; subst e; exact absurd this (by decide)
      rw [hne]; simp
theorem trim_no {s p : List UInt8} (h : Lib.hasPrefix s p = false) : Lib.trimPrefix s p = s := by
  unfold Lib.trimPrefix; rw [h]; rfl
theorem Only.bytes (S : Nat → Prop) (w : World) (e : TypeId) (s : ByteArray) : Only S w (Lib.bytesWorld w e s) :=
  ⟨rfl, rfl, rfl, by rw [Lib.bytesWorld_size]; omega, fun k hk _ => Lib.bytesWorld_at_old w e s k hk⟩
/-- Lines as a text. -/
def joinB : List (List UInt8) → List UInt8
  | [] => []
  | [l] => l
  | l :: l2 :: ls => l ++ 10 :: joinB (l2 :: ls)
theorem count_join : ∀ (ls : List (List UInt8)), ls ≠ [] → (∀ l ∈ ls, (10 : UInt8) ∉ l) → (joinB ls).count 10 = ls.length - 1
  | [], h, _ => absurd rfl h
  | [l], _, h => by simpa [joinB] using List.count_eq_zero.2 (h l (by simp))
  | l :: l2 :: ls, _, h => by
    have h1 := count_join (l2 :: ls) (by simp) (fun x hx => h x (by simp at hx ⊢; right; exact hx))
    have h2 : l.count 10 = 0 := List.count_eq_zero.2 (h l (by simp))
    rw [joinB, List.count_append, List.count_cons_self, h1, h2]
    simp
theorem tail_join (l : List UInt8) (r : List UInt8) : (⟨(l ++ 10 :: r).toArray⟩ : ByteArray).extract (l.length + 1) (⟨(l ++ 10 :: r).toArray⟩ : ByteArray).size = ⟨r.toArray⟩ := by
  apply ByteArray.ext
  apply Array.ext'
  rw [Lib.extract_data]
  have hs : (ByteArray.mk (l ++ 10 :: r).toArray).size = l.length + 1 + r.length := by simp [ByteArray.size]; omega
  rw [hs]
  have e : (l ++ 10 :: r).drop (l.length + 1) = r := by
    rw [show l ++ 10 :: r = (l ++ [10]) ++ r by simp, List.drop_left' (by simp)]
  show (((l ++ 10 :: r).drop (l.length + 1)).take (l.length + 1 + r.length - (l.length + 1))) = r
  rw [e]
  exact List.take_of_length_le (by omega)
theorem head_join (l : List UInt8) (r : List UInt8) : (⟨(l ++ 10 :: r).toArray⟩ : ByteArray).extract 0 (l.length + 0) = ⟨l.toArray⟩ := by
  apply ByteArray.ext
  apply Array.ext'
  rw [Lib.extract_data]
  show (((l ++ 10 :: r).drop 0).take (l.length + 0 - 0)) = l
  simp
theorem split_join : ∀ (ls : List (List UInt8)), ls ≠ [] → (∀ l ∈ ls, (10 : UInt8) ∉ l) → Lib.countB ⟨(joinB ls).toArray⟩ ⟨#[10]⟩ = ls.length - 1 ∧ Lib.splitB ⟨#[10]⟩ 0 (ls.length - 1) ⟨(joinB ls).toArray⟩ = ls.map (fun l => (⟨l.toArray⟩ : ByteArray))
  | [], h, _ => absurd rfl h
  | [l], _, h => by
    have hi : Lib.indexB ⟨l.toArray⟩ ⟨#[10]⟩ = -1 := by
      show Lib.index l [10] = -1
      rw [Lib.index_one, index_no l 10 (h l (by simp))]
    exact ⟨Lib.countB_miss _ _ hi, rfl⟩
  | l :: l2 :: ls, _, h => by
    obtain ⟨h1, h2⟩ := split_join (l2 :: ls) (by simp) (fun x hx => h x (by simp at hx ⊢; right; exact hx))
    have hi : Lib.indexB ⟨(l ++ 10 :: joinB (l2 :: ls)).toArray⟩ ⟨#[10]⟩ = (l.length : Int) := by
      show Lib.index (l ++ 10 :: joinB (l2 :: ls)) [10] = _
      rw [Lib.index_one, index_yes _ _ _ (h l (by simp))]
    have ht : (⟨(l ++ 10 :: joinB (l2 :: ls)).toArray⟩ : ByteArray).extract (l.length + (ByteArray.mk #[10]).size) (⟨(l ++ 10 :: joinB (l2 :: ls)).toArray⟩ : ByteArray).size = ⟨(joinB (l2 :: ls)).toArray⟩ := tail_join l _
    constructor
    · rw [joinB, Lib.countB_hit _ _ l.length (by decide) hi, ht, h1]
      simp
      omega
    · have e : (l :: l2 :: ls).length - 1 = ((l2 :: ls).length - 1) + 1 := by simp
      rw [e, joinB, Lib.splitB_hit _ _ _ _ l.length hi, ht, h2, head_join]
      rfl
theorem join_len : ∀ (ls : List (List UInt8)) (m : Nat), (∀ l ∈ ls, l.length ≤ m) → (joinB ls).length ≤ ls.length * (m + 1)
  | [], _, _ => by simp [joinB]
  | [l], m, h => by have := h l (by simp); simp [joinB]; omega
  | l :: l2 :: ls, m, h => by
    have h1 := join_len (l2 :: ls) m (fun x hx => h x (by simp at hx ⊢; right; exact hx))
    have h2 := h l (by simp)
    have e : (l :: l2 :: ls).length * (m + 1) = (l2 :: ls).length * (m + 1) + (m + 1) := by rw [List.length_cons, Nat.add_mul]; omega
    rw [joinB, List.length_append, List.length_cons, e]
    omega
/-- Lines, each with its end. -/
def flatL : List (List UInt8) → List UInt8
  | [] => []
  | l :: ls => l ++ 10 :: flatL ls
theorem flat_join : ∀ (ls : List (List UInt8)), joinB (ls ++ [[]]) = flatL ls
  | [] => rfl
  | [l] => rfl
  | l :: l2 :: ls => by
    have h := flat_join (l2 :: ls)
    show l ++ 10 :: joinB (l2 :: ls ++ [[]]) = l ++ 10 :: flatL (l2 :: ls)
    rw [← h]
theorem flat_append : ∀ (a b : List (List UInt8)), flatL (a ++ b) = flatL a ++ flatL b
  | [], b => rfl
  | l :: a, b => by
    show l ++ 10 :: flatL (a ++ b) = (l ++ 10 :: flatL a) ++ flatL b
    rw [flat_append a b, List.append_assoc, List.cons_append]
end Go.Vx

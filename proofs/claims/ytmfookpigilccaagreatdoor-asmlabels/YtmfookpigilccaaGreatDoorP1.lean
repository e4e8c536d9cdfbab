/- Plain facts on numerals: what a number is written as is read as that number. -/
import Derived.Test.YtmfookpigilccaaGreatDoorP0
import Derived.Lib.ParseIntB
import Derived.Lib.AtoiAll
import Derived.Lib.Strings
import Derived.Lib.ConvBytes
namespace Go.Vx
theorem dig_one (n : Nat) (h : n < 10) : (UInt8.ofNat (48 + n)).toNat = 48 + n := by
  rw [UInt8.toNat_ofNat']; omega
theorem dec_digits (u : Nat) : ∀ c ∈ Lib.decDigits u, 48 ≤ c.toNat ∧ c.toNat ≤ 57 := by
  induction u using Nat.strongRecOn with
  | _ u ih =>
    intro c hc
    rw [Lib.decDigits] at hc
    split at hc
    · rename_i h
      rw [List.mem_singleton] at hc
      rw [hc, dig_one u h]; omega
    · rename_i h
      rw [List.mem_append, List.mem_singleton] at hc
      rcases hc with hc | hc
      · exact ih (u / 10) (by omega) c hc
      · rw [hc, dig_one _ (by omega)]; omega
theorem dec_ne (u : Nat) : Lib.decDigits u ≠ [] := by
  rw [Lib.decDigits]; split <;> simp
theorem nDigits_lt : ∀ (k u : Nat), u < 10 ^ (k + 1) → Lib.nDigits u ≤ k + 1
  | 0, u, h => by rw [Lib.nDigits_small (by simpa using h)]; omega
  | k + 1, u, h => by
    by_cases hu : u < 10
    · rw [Lib.nDigits_small hu]; omega
    · rw [Lib.nDigits_big hu]
      have := nDigits_lt k (u / 10) (by rw [Nat.pow_succ] at h; omega)
      omega
theorem parse_snoc (M : Nat) : ∀ (l : List UInt8) (c : UInt8) (acc n : Nat), Lib.parseUintM M acc l = .ok n → 48 ≤ c.toNat ∧ c.toNat ≤ 57 → n < 1844674407370955162 → n * 10 + (c.toNat - 48) ≤ M → Lib.parseUintM M acc (l ++ [c]) = .ok (n * 10 + (c.toNat - 48))
  | [], c, acc, n, h, hc, h1, h2 => by
    have : acc = n := by simpa [Lib.parseUintM] using h
    subst this
    simp only [List.nil_append, Lib.parseUintM]
    rw [if_pos hc, if_neg (by omega), if_neg (by omega)]
  | b :: l, c, acc, n, h, hc, h1, h2 => by
    rw [List.cons_append]
    rw [Lib.parseUintM] at h ⊢
    by_cases hb : 48 ≤ b.toNat ∧ b.toNat ≤ 57
    · rw [if_pos hb] at h ⊢
      by_cases h3 : 1844674407370955162 ≤ acc
      · rw [if_pos h3] at h; cases h
      · rw [if_neg h3] at h ⊢
        by_cases h4 : M < acc * 10 + (b.toNat - 48)
        · rw [if_pos h4] at h; cases h
        · rw [if_neg h4] at h ⊢
          exact parse_snoc M l c _ n h hc h1 h2
    · rw [if_neg hb] at h; cases h
theorem parse_dec (M u : Nat) (h : u ≤ M) (h2 : u < 18446744073709551616) : Lib.parseUintM M 0 (Lib.decDigits u) = .ok u := by
  induction u using Nat.strongRecOn with
  | _ u ih =>
    rw [Lib.decDigits]
    split
    · rename_i hu
      simp only [Lib.parseUintM]
      rw [dig_one u hu, if_pos (by omega), if_neg (by omega), if_neg (by omega)]
      congr 1; omega
    · rename_i hu
      have h3 := ih (u / 10) (by omega) (by omega) (by omega)
      have h4 := parse_snoc M _ (UInt8.ofNat (48 + u % 10)) 0 (u / 10) h3 (by rw [dig_one _ (by omega)]; omega) (by omega) (by rw [dig_one _ (by omega)]; omega)
      rw [h4, dig_one _ (by omega)]
      congr 1; omega
theorem parse64 (u : Nat) (h : u < 18446744073709551616) : Lib.parseUintB 64 (Lib.decDigits u) = .ok u := by
  unfold Lib.parseUintB
  rw [if_neg (dec_ne u)]
  exact parse_dec _ u (by have : (2 : Nat) ^ 64 - 1 = 18446744073709551615 := by decide
                          omega) h
theorem reg_atoi (n : Nat) (h : n < 32) : Lib.atoiAll (Lib.decDigits n) = .ok (n : Int) := by
  have : ∀ k : Fin 32, Lib.atoiAll (Lib.decDigits k.val) = .ok (k.val : Int) := by decide +kernel
  exact this ⟨n, h⟩
theorem no_minus (u : Nat) : Lib.hasPrefix (Lib.decDigits u) [45] = false := by
  have h := dec_digits u
  cases hl : Lib.decDigits u with
  | nil => rfl
  | cons c l =>
    rw [hl] at h
    have := (h c (List.mem_cons_self ..)).1
    unfold Lib.hasPrefix
    simp only [List.isPrefixOf]
    have hne : ((45 : UInt8) == c) = false := by rw [beq_eq_false_iff_ne]; intro e; subst e; exact absurd this (by decide)
    rw [hne]; rfl
theorem no_hex (u : Nat) : Lib.hasPrefix (Lib.decDigits u) [48, 120] = false := by
  have h := dec_digits u
  cases hl : Lib.decDigits u with
  | nil => rfl
  | cons c l =>
    cases l with
    | nil => unfold Lib.hasPrefix; simp [List.isPrefixOf]
    | cons d l =>
      rw [hl] at h
      have := (h d (by simp)).2
      unfold Lib.hasPrefix
      simp only [List.isPrefixOf]
      have hne : ((120 : UInt8) == d) = false := by rw [beq_eq_false_iff_ne]; intro e; subst e; exact absurd this (by decide)
      rw [hne]; simp
theorem trim_no {s p : List UInt8} (h : Lib.hasPrefix s p = false) : Lib.trimPrefix s p = s := by
  unfold Lib.trimPrefix; rw [h]; rfl
theorem has_minus (l : List UInt8) : Lib.hasPrefix (45 :: l) [45] = true := by simp [Lib.hasPrefix, List.isPrefixOf]
theorem trim_minus (l : List UInt8) : Lib.trimPrefix (45 :: l) [45] = l := by unfold Lib.trimPrefix; rw [has_minus]; rfl
theorem trim_x (l : List UInt8) : Lib.trimPrefix (120 :: l) [120] = l := by
  have : Lib.hasPrefix (120 :: l) [120] = true := by simp [Lib.hasPrefix, List.isPrefixOf]
  unfold Lib.trimPrefix; rw [this]; rfl
/-- A numeral is no label. -/
theorem itoa_lab (n : Int) : labN (Lib.itoa n) = false := by
  unfold Lib.itoa
  split
  · unfold labN; simp [labB]
  · have h := dec_digits n.toNat
    cases hl : Lib.decDigits n.toNat with
    | nil => exact absurd hl (dec_ne _)
    | cons c l =>
      rw [hl] at h
      have hc := h c (List.mem_cons_self ..)
      have hd : digitB c = true := by
        unfold digitB
        simp [UInt8.le_iff_toNat_le]
        omega
      show ((c :: l).all labB && !(digitB c)) = false
      rw [hd]; simp
theorem Only.bytes (S : Nat → Prop) (w : World) (e : TypeId) (s : ByteArray) : Only S w (Lib.bytesWorld w e s) :=
  ⟨rfl, rfl, rfl, by rw [Lib.bytesWorld_size]; omega, fun k hk _ => Lib.bytesWorld_at_old w e s k hk⟩
end Go.Vx

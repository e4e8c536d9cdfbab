import Derived.Test.YtflmobffeeocdaaGreatDoorCh6
import Derived.Test.YtflmobffeeocdaaGreatDoorCh11
import Derived.Deep.CutRange
import Derived.Deep.CutBlock
/- The document's Walk: plain facts. -/
namespace Go.Proofs.YtflmobffeeocdaaGreatDoor
open Go.ChangeShapes Go.WideShapes Go.ChangeAt Go.RowKit
open Go.Vx

/-- Walk, once more. -/
theorem walkF_eq (f : Nat → UInt8) (n : Nat) (root : Int) (va : Nat) (u : Nat) (hu : u < 3) : walkF f n root va u =
    if root < 0 ∨ (n : Int) ≤ root then (0, ((accC u : Nat) : Int))
    else if leadsB (wordF f (4096 * root.toNat + 4 * (va / 4194304))) = false then endF n u va (wordF f (4096 * root.toNat + 4 * (va / 4194304))) 4194304
    else if n ≤ wordF f (4096 * root.toNat + 4 * (va / 4194304)) / 1024 then (0, ((accC u : Nat) : Int))
    else endF n u va (wordF f (4096 * (wordF f (4096 * root.toNat + 4 * (va / 4194304)) / 1024) + 4 * (va % 4194304 / 4096))) 4096 := by
  have hw : walkF f n root va u = if (leafF f n root va).2.2 ≠ 0 then (0, ((accC u : Nat) : Int)) else endF n u va (leafF f n root va).1 (leafF f n root va).2.1 := by
    unfold walkF
    rw [if_neg (by omega)]
    rfl
  rw [hw]
  by_cases h1 : root < 0 ∨ (n : Int) ≤ root
  · have e : entF f n root (va / 4194304) = (0, 1) := if_pos h1
    have hl : leafF f n root va = (0, 4194304, 1) := by rw [leafF_eq, e, if_pos (Or.inl (by decide))]
    rw [if_pos h1, hl]
    rfl
  · have e : entF f n root (va / 4194304) = (wordF f (4096 * root.toNat + 4 * (va / 4194304)), 0) := if_neg h1
    rw [if_neg h1]
    by_cases h2 : leadsB (wordF f (4096 * root.toNat + 4 * (va / 4194304))) = false
    · have hl : leafF f n root va = (wordF f (4096 * root.toNat + 4 * (va / 4194304)), 4194304, 0) := by rw [leafF_eq, e, if_pos (Or.inr h2)]
      rw [if_pos h2, hl]
      rfl
    · rw [if_neg h2]
      have hb : ¬ ((wordF f (4096 * root.toNat + 4 * (va / 4194304)), 0).2 ≠ 0 ∨ leadsB (wordF f (4096 * root.toNat + 4 * (va / 4194304)), 0).1 = false) := by
        rintro (h | h)
        · exact h rfl
        · exact h2 h
      have hl0 : leafF f n root va = ((entF f n ((wordF f (4096 * root.toNat + 4 * (va / 4194304)) / 1024 : Nat) : Int) (va % 4194304 / 4096)).1, 4096, (entF f n ((wordF f (4096 * root.toNat + 4 * (va / 4194304)) / 1024 : Nat) : Int) (va % 4194304 / 4096)).2) := by rw [leafF_eq, e, if_neg hb]
      by_cases h3 : n ≤ wordF f (4096 * root.toNat + 4 * (va / 4194304)) / 1024
      · have e' : entF f n ((wordF f (4096 * root.toNat + 4 * (va / 4194304)) / 1024 : Nat) : Int) (va % 4194304 / 4096) = (0, 1) := if_pos (Or.inr (by omega))
        rw [if_pos h3, hl0, e']
        rfl
      · have e' : entF f n ((wordF f (4096 * root.toNat + 4 * (va / 4194304)) / 1024 : Nat) : Int) (va % 4194304 / 4096) = (wordF f (4096 * (wordF f (4096 * root.toNat + 4 * (va / 4194304)) / 1024) + 4 * (va % 4194304 / 4096)), 0) := if_neg (by omega)
        rw [if_neg h3, hl0, e']
        rfl
theorem wordR_in (f : Nat → UInt8) (n : Nat) (p k : Nat) (hp : p < n) (hk : k < 1024) : wordR f n ((4096 * p + 4 * k : Nat) : Int) = (wordF f (4096 * p + 4 * k), 0) := by
  unfold wordR
  rw [if_pos]
  · rfl
  · refine ⟨by simp [insB]; omega, ?_⟩
    rw [Int.tmod_eq_emod_of_nonneg (by omega)]
    omega
theorem wordR_out (f : Nat → UInt8) (n : Nat) (p k : Nat) (hp : n ≤ p) : wordR f n ((4096 * p + 4 * k : Nat) : Int) = (0, 1) := by
  unfold wordR
  rw [if_neg]
  rintro ⟨h, _⟩
  simp [insB] at h
  omega
theorem wordR_err (f : Nat → UInt8) (n : Nat) (a : Int) : (wordR f n a).2 = 0 ∨ (wordR f n a).2 = 1 := by
  unfold wordR
  split
  · exact Or.inl rfl
  · exact Or.inr rfl
theorem wrapQ (e q : Nat) (h : e < 4294967296) : wrap64 ((e : Int) / (q : Int)) = (e : Int) / (q : Int) := by
  have h1 : e / q ≤ e := Nat.div_le_self _ _
  have h2 : (e : Int) / (q : Int) = ((e / q : Nat) : Int) := rfl
  rw [h2]
  generalize e / q = d at h1
  simp only [wrap64]
  omega
theorem ne_cast {t c : Nat} (h : t ≠ c) : ¬ (t : Int) = (c : Int) := fun hh => h (Int.ofNat.inj hh)
theorem eq_cast {t c : Nat} (h : t = c) : (t : Int) = (c : Int) := by rw [h]
theorem lead_eq (e va p g k : Nat) (hg : g = e / 1024) (hk : k = va / 4096 % 1024) (hp : p = 4096 * (e / 1024) + 4 * (va % 4194304 / 4096)) : (g : Int) * 4096 + (k : Int) * 4 = (p : Int) := by
  have h1 : va % 4194304 / 4096 = va / 4096 % 1024 := by omega
  rw [h1, ← hg, ← hk] at hp
  omega
theorem lead_wrap (e va p : Nat) (he : e < 4294967296) (hp : p = 4096 * (e / 1024) + 4 * (va % 4194304 / 4096)) : wrap64 (p : Int) = (p : Int) := by
  have h1 : e / 1024 < 4194304 := by omega
  have h2 : va % 4194304 / 4096 < 1024 := by omega
  generalize e / 1024 = a at hp h1
  generalize va % 4194304 / 4096 = b at hp h2
  simp only [wrap64]
  omega
theorem wrapG (e g : Nat) (he : e < 4294967296) (hg : g = e / 1024) : wrap64 (g : Int) = (g : Int) ∧ wrap64 ((g : Int) * 4096) = (g : Int) * 4096 := by
  have h1 : g < 4194304 := by omega
  clear hg
  constructor <;> simp only [wrap64] <;> omega
theorem wrapK (va k : Nat) (hk : k = va / 4096 % 1024) : wrap64 ((k : Int) * 4) = (k : Int) * 4 := by
  have h1 : k < 1024 := by rw [hk]; exact Nat.mod_lt _ (by decide)
  clear hk
  simp only [wrap64]
  omega
theorem wv_lead0 {f : Nat → UInt8} {n r va u e1 : Nat} (hu : u < 3) (hr : r < n) (he1 : wordF f (4096 * r + 4 * (va / 4194304)) = e1) (hL : leadsB e1 = false) : walkF f n (r : Int) va u = endF n u va e1 4194304 := by
  rw [walkF_eq f n (r : Int) va u hu, if_neg (by omega)]
  simp only [Int.toNat_natCast, he1]
  rw [if_pos hL]
theorem wv_lead1 {f : Nat → UInt8} {n r va u e1 e2 : Nat} (hu : u < 3) (hr : r < n) (he1 : wordF f (4096 * r + 4 * (va / 4194304)) = e1) (hL : leadsB e1 = true) (hn2 : e1 / 1024 < n) (he2 : wordF f (4096 * (e1 / 1024) + 4 * (va % 4194304 / 4096)) = e2) : walkF f n (r : Int) va u = endF n u va e2 4096 := by
  rw [walkF_eq f n (r : Int) va u hu, if_neg (by omega)]
  simp only [Int.toNat_natCast, he1, he2]
  rw [if_neg (by rw [hL]; decide), if_neg (by omega)]
theorem wv_acc2 {f : Nat → UInt8} {n r va u e1 : Nat} (hu : u < 3) (hr : r < n) (he1 : wordF f (4096 * r + 4 * (va / 4194304)) = e1) (hL : leadsB e1 = true) (hn2 : n ≤ e1 / 1024) : walkF f n (r : Int) va u = (0, ((accC u : Nat) : Int)) := by
  rw [walkF_eq f n (r : Int) va u hu, if_neg (by omega)]
  simp only [Int.toNat_natCast, he1]
  rw [if_neg (by rw [hL]; decide), if_pos hn2]
theorem end_page {n u va e S : Nat} (h : (okB u e && wholeB e S) = false) : endF n u va e S = (0, ((pageC u : Nat) : Int)) := if_pos h
theorem end_acc {n u va e S : Nat} (h : (okB u e && wholeB e S) = true) (hge : 4096 * n ≤ e / 1024 * 4096 + va % S) : endF n u va e S = (0, ((accC u : Nat) : Int)) := by
  unfold endF
  rw [if_neg (by rw [h]; decide), if_pos hge]
theorem end_in {n u va e S : Nat} (h : (okB u e && wholeB e S) = true) (hge : ¬ 4096 * n ≤ e / 1024 * 4096 + va % S) : endF n u va e S = (e / 1024 * 4096 + va % S, -1) := by
  unfold endF
  rw [if_neg (by rw [h]; decide), if_neg hge]
theorem whole_small (e : Nat) : wholeB e 4096 = true := decide_eq_true (by omega)
theorem whole_great {e : Nat} (h : e / 1024 % 1024 = 0) : wholeB e 4194304 = true := decide_eq_true (by omega)
theorem whole_not {e : Nat} (h : e / 1024 % 1024 ≠ 0) : wholeB e 4194304 = false := decide_eq_false (by omega)
theorem one_of {t : Nat} (h : ¬ t = 0) (l : t < 2) : t = 1 := by omega
theorem paS (e va pa : Nat) (he : e < 4294967296) (hv : va < 4294967296) (h : pa = e / 1024 * 4096 + va % 4096) : (e : Int) / 1024 * 4096 + (va : Int) % 4096 = (pa : Int) ∧ wrap64 (pa : Int) = (pa : Int) ∧ wrap64 ((e : Int) / 1024) = (e : Int) / 1024 ∧ wrap64 ((e : Int) / 1024 * 4096) = (e : Int) / 1024 * 4096 ∧ Int.tmod (va : Int) 4096 = (va : Int) % 4096 := by
  refine ⟨by omega, by simp only [wrap64]; omega, by simp only [wrap64]; omega, by simp only [wrap64]; omega, Int.tmod_eq_emod_of_nonneg (by omega)⟩
theorem paG (e va pa : Nat) (he : e < 4294967296) (hv : va < 4294967296) (h : pa = e / 1024 * 4096 + va % 4194304) : (e : Int) / 1024 * 4096 + (va : Int) % 4194304 = (pa : Int) ∧ wrap64 (pa : Int) = (pa : Int) ∧ wrap64 ((e : Int) / 1024) = (e : Int) / 1024 ∧ wrap64 ((e : Int) / 1024 * 4096) = (e : Int) / 1024 * 4096 ∧ Int.tmod (va : Int) 4194304 = (va : Int) % 4194304 := by
  refine ⟨by omega, by simp only [wrap64]; omega, by simp only [wrap64]; omega, by simp only [wrap64]; omega, Int.tmod_eq_emod_of_nonneg (by omega)⟩
end Go.Proofs.YtflmobffeeocdaaGreatDoor

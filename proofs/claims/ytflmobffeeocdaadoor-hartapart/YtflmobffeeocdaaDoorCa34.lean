import Derived.Test.YtflmobffeeocdaaDoorCa26
import Derived.Test.YtflmobffeeocdaaDoorCa33
/- Walks over what laid lays, whatever stands in the frames: pure. -/
namespace Go.Proofs.YtflmobffeeocdaaDoor
open Go.ChangeShapes Go.WideShapes Go.ChangeAt Go.RowKit
open Go.Vx

/-- The tables are those that were laid. -/
def Tabs (H : Nat → Nat × Nat) (g : Nat → UInt8) : Prop := ∀ x, x < 16384 → g x = laidF H x
theorem word_tabs {H : Nat → Nat × Nat} {g : Nat → UInt8} (h : Tabs H g) (a : Nat) (ha : a + 4 ≤ 16384) : wordF g a = wordF (laidF H) a := by
  unfold wordF
  rw [h a (by omega), h (a + 1) (by omega), h (a + 2) (by omega), h (a + 3) (by omega)]
theorem laidF_none (H : Nat → Nat × Nat) (x : Nat) (h : (4100 ≤ x ∧ x < 8192) ∨ 8240 ≤ x) : laidF H x = 0 := by
  unfold laidF
  rw [if_neg (by omega), if_neg (by omega)]
theorem word_none (H : Nat → Nat × Nat) (x : Nat) (h : (4100 ≤ x ∧ x + 4 ≤ 8192) ∨ 8240 ≤ x) : wordF (laidF H) x = 0 := by
  unfold wordF
  rw [laidF_none H x (by omega), laidF_none H (x + 1) (by omega), laidF_none H (x + 2) (by omega), laidF_none H (x + 3) (by omega)]
  rfl
theorem ent_first {H : Nat → Nat × Nat} {g : Nat → UInt8} (h : Tabs H g) (k : Nat) (hk : k < 1024) : entF g 12 1 k = (if k = 0 then 2049 else 0, 0) := by
  unfold entF
  rw [if_neg (by decide)]
  show (wordF g (4096 + 4 * k), 0) = _
  rw [word_tabs h _ (by omega)]
  by_cases h0 : k = 0
  · subst h0
    rw [if_pos rfl]
    show (wordF (laidF H) 4096, 0) = _
    rw [word_tab]
  · rw [if_neg h0, word_none H _ (by omega)]
theorem ent_second {H : Nat → Nat × Nat} {g : Nat → UInt8} (h : Tabs H g) (hok : ∀ v, v < 12 → okE (H v)) (v : Nat) (hv : v < 1024) : entF g 12 ((2049 / 1024 : Nat) : Int) v = (if v < 12 then entV (H v) else 0, 0) := by
  unfold entF
  rw [if_neg (by decide)]
  show (wordF g (8192 + 4 * v), 0) = _
  rw [word_tabs h _ (by omega)]
  by_cases h0 : v < 12
  · rw [if_pos h0, word_frm H v h0 (hok v h0)]
  · rw [if_neg h0, word_none H _ (by omega)]
theorem ok_nought (u : Nat) (hu : u < 3) : okB u 0 = false := by
  have h3 : u = 0 ∨ u = 1 ∨ u = 2 := by omega
  rcases h3 with rfl | rfl | rfl <;> decide
/-- Every walk. -/
theorem walk_at {H : Nat → Nat × Nat} {g : Nat → UInt8} (h : Tabs H g) (hok : ∀ v, v < 12 → okE (H v)) (va : Nat) (hva : va < 4294967296) (u : Nat) (hu : u < 3) :
    walkF g 12 1 va (u : Int) = if va / 4096 < 12 ∧ mayU u (H (va / 4096)).2 = true then (4096 * (H (va / 4096)).1 + va % 4096, -1) else (0, ((pageC u : Nat) : Int)) := by
  by_cases hv : va / 4096 < 12
  · have hl := walk_laid H (va / 4096) (va % 4096) u hv (by omega) hu (hok _ hv)
    rw [show 4096 * (va / 4096) + va % 4096 = va by omega] at hl
    have e : walkF g 12 1 va (u : Int) = walkF (laidF H) 12 1 va (u : Int) := by
      have ht : Tabs H (laidF H) := fun _ _ => rfl
      unfold walkF
      rw [leafF_eq, leafF_eq, ent_first h _ (by omega), ent_first ht _ (by omega), show va / 4194304 = 0 by omega]
      simp only [if_true]
      rw [ent_second h hok _ (by omega), ent_second ht hok _ (by omega)]
    rw [e, hl]
    by_cases hm : mayU u (H (va / 4096)).2 = true
    · rw [if_pos hm, if_pos ⟨hv, hm⟩]
    · rw [if_neg hm, if_neg (fun h => hm h.2)]
  · rw [if_neg (fun h => hv h.1)]
    have hb : ∀ S : Nat, (okB u 0 && wholeB 0 S) = false := fun S => by rw [ok_nought u hu]; rfl
    have hl : ∃ S, leafF g 12 1 va = (0, S, 0) := by
      by_cases h0 : va / 4194304 = 0
      · refine ⟨4096, ?_⟩
        rw [leafF_eq, ent_first h _ (by omega), if_pos h0]
        simp only
        rw [ent_second h hok _ (by omega), if_neg (show ¬ va % 4194304 / 4096 < 12 by omega)]
        exact if_neg (by decide)
      · refine ⟨4194304, ?_⟩
        rw [leafF_eq, ent_first h _ (by omega), if_neg h0]
        exact if_pos (Or.inr (by decide))
    obtain ⟨S, hl⟩ := hl
    unfold walkF
    rw [if_neg (by omega), hl, Int.toNat_natCast, if_neg (fun h => h rfl)]
    unfold endF
    rw [if_pos (hb _)]
theorem place_at {H : Nat → Nat × Nat} {g : Nat → UInt8} (h : Tabs H g) (hok : ∀ v, v < 12 → okE (H v)) (va : Nat) (hva : va < 4294967296) (len u : Nat) (hu : u < 3) :
    placeF g 12 1 va len u = if va % len ≠ 0 then .error ((misC u : Nat), va) else if va / 4096 < 12 ∧ mayU u (H (va / 4096)).2 = true then .ok (4096 * (H (va / 4096)).1 + va % 4096) else .error ((pageC u : Nat), va) := by
  unfold placeF
  rw [walk_at h hok va hva u hu]
  unfold placeG
  by_cases h1 : va % len ≠ 0
  · rw [if_pos h1, if_pos h1]
  · rw [if_neg h1, if_neg h1]
    by_cases h2 : va / 4096 < 12 ∧ mayU u (H (va / 4096)).2 = true
    · rw [if_pos h2, if_pos h2]
      rfl
    · rw [if_neg h2, if_neg h2]
      have h3 : u = 0 ∨ u = 1 ∨ u = 2 := by omega
      rcases h3 with rfl | rfl | rfl <;> rfl
end Go.Proofs.YtflmobffeeocdaaDoor

import Derived.Test.YtbmchgjilkoplaaDoorCk8
/- Chapter 7, the document's store: an entry changed where it lies. -/
namespace Go.Proofs.YtbmchgjilkoplaaDoor
open Go.ChangeShapes Go.WideShapes Go.ChangeAt Go.RowKit
open Go.Vx
set_option linter.unusedVariables false

set_option maxHeartbeats 2000000 in
theorem own_cap {w : World} {base g c m : Nat} {T : TypeId} {xs : List En} (h : OwnL enL w base T (.slice (some ⟨g, 0, none⟩) m c) xs) (hm : m = xs.length) (k : Nat) (hk : k < xs.length) (cp : Cp) :
    OwnL enL ((((((((w.setCell ⟨g, k * 12 + 2, none⟩ (.int .i64 cp.kind)).setCell ⟨g, k * 12 + 3, none⟩ (.int .i64 cp.num)).setCell ⟨g, k * 12 + 4, none⟩ (.int .i64 cp.rights)).setCell ⟨g, k * 12 + 5, none⟩ (.int .u32 cp.badge)).setCell ⟨g, k * 12 + 6, none⟩ (.int .u32 cp.guard)).setCell ⟨g, k * 12 + 7, none⟩ (.int .i64 cp.gbits)).setCell ⟨g, k * 12 + 8, none⟩ (.int .i64 cp.root)).setCell ⟨g, k * 12 + 9, none⟩ (.int .u32 cp.va)) base T (.slice (some ⟨g, 0, none⟩) m c) (xs.set k ⟨xs[k].at', cp, xs[k].from'⟩) ∧ Only (fun b => b = g) w ((((((((w.setCell ⟨g, k * 12 + 2, none⟩ (.int .i64 cp.kind)).setCell ⟨g, k * 12 + 3, none⟩ (.int .i64 cp.num)).setCell ⟨g, k * 12 + 4, none⟩ (.int .i64 cp.rights)).setCell ⟨g, k * 12 + 5, none⟩ (.int .u32 cp.badge)).setCell ⟨g, k * 12 + 6, none⟩ (.int .u32 cp.guard)).setCell ⟨g, k * 12 + 7, none⟩ (.int .i64 cp.gbits)).setCell ⟨g, k * 12 + 8, none⟩ (.int .i64 cp.root)).setCell ⟨g, k * 12 + 9, none⟩ (.int .u32 cp.va)) := by
  subst hm
  have h0 := (World.ownsRow.stored h (k * 12 + 2) (.int .i64 cp.kind)).1
  have h1 := (World.ownsRow.stored h0 (k * 12 + 3) (.int .i64 cp.num)).1
  have h2 := (World.ownsRow.stored h1 (k * 12 + 4) (.int .i64 cp.rights)).1
  have h3 := (World.ownsRow.stored h2 (k * 12 + 5) (.int .u32 cp.badge)).1
  have h4 := (World.ownsRow.stored h3 (k * 12 + 6) (.int .u32 cp.guard)).1
  have h5 := (World.ownsRow.stored h4 (k * 12 + 7) (.int .i64 cp.gbits)).1
  have h6 := (World.ownsRow.stored h5 (k * 12 + 8) (.int .i64 cp.root)).1
  have h7 := (World.ownsRow.stored h6 (k * 12 + 9) (.int .u32 cp.va)).1
  have o0 : Only (fun b => b = g) w w := Only.refl _ w
  have o1 := Only.setCell (S := fun b => b = g) o0 (p := ⟨g, k * 12 + 2, none⟩) (Or.inl rfl) (.int .i64 cp.kind)
  have o2 := Only.setCell (S := fun b => b = g) o1 (p := ⟨g, k * 12 + 3, none⟩) (Or.inl rfl) (.int .i64 cp.num)
  have o3 := Only.setCell (S := fun b => b = g) o2 (p := ⟨g, k * 12 + 4, none⟩) (Or.inl rfl) (.int .i64 cp.rights)
  have o4 := Only.setCell (S := fun b => b = g) o3 (p := ⟨g, k * 12 + 5, none⟩) (Or.inl rfl) (.int .u32 cp.badge)
  have o5 := Only.setCell (S := fun b => b = g) o4 (p := ⟨g, k * 12 + 6, none⟩) (Or.inl rfl) (.int .u32 cp.guard)
  have o6 := Only.setCell (S := fun b => b = g) o5 (p := ⟨g, k * 12 + 7, none⟩) (Or.inl rfl) (.int .i64 cp.gbits)
  have o7 := Only.setCell (S := fun b => b = g) o6 (p := ⟨g, k * 12 + 8, none⟩) (Or.inl rfl) (.int .i64 cp.root)
  have o8 := Only.setCell (S := fun b => b = g) o7 (p := ⟨g, k * 12 + 9, none⟩) (Or.inl rfl) (.int .u32 cp.va)
  refine ⟨?_, o8⟩
  have hl : (fl enL xs).length = xs.length * 12 := length_fl enL xs
  have hkl : k * 12 + 12 ≤ xs.length * 12 := by omega
  have e : (((((((((fl enL xs).set (k * 12 + 2) (.int .i64 cp.kind)).set (k * 12 + 3) (.int .i64 cp.num)).set (k * 12 + 4) (.int .i64 cp.rights)).set (k * 12 + 5) (.int .u32 cp.badge)).set (k * 12 + 6) (.int .u32 cp.guard)).set (k * 12 + 7) (.int .i64 cp.gbits)).set (k * 12 + 8) (.int .i64 cp.root)).set (k * 12 + 9) (.int .u32 cp.va)) = fl enL (xs.set k ⟨xs[k].at', cp, xs[k].from'⟩) := by
    refine fl_set enL xs k _ hk _ (by simp only [List.length_set]) (fun j hj => ?_) (fun i hi => ?_)
    · have hg0 := get_fl enL xs k j hk hj
      have hj12 : j < 12 := hj
      have hg : (fl enL xs)[k * 12 + j]? = (enC xs[k])[j]? := hg0
      clear hg0 hj h0 h1 h2 h3 h4 h5 h6 h7 o0 o1 o2 o3 o4 o5 o6 o7 o8
      have hc : j = 0 ∨ j = 1 ∨ j = 2 ∨ j = 3 ∨ j = 4 ∨ j = 5 ∨ j = 6 ∨ j = 7 ∨ j = 8 ∨ j = 9 ∨ j = 10 ∨ j = 11 := by omega
      rcases hc with rfl | rfl | rfl | rfl | rfl | rfl | rfl | rfl | rfl | rfl | rfl | rfl
      · show ((((((((((fl enL xs).set (k * 12 + 2) (.int .i64 cp.kind)).set (k * 12 + 3) (.int .i64 cp.num)).set (k * 12 + 4) (.int .i64 cp.rights)).set (k * 12 + 5) (.int .u32 cp.badge)).set (k * 12 + 6) (.int .u32 cp.guard)).set (k * 12 + 7) (.int .i64 cp.gbits)).set (k * 12 + 8) (.int .i64 cp.root)).set (k * 12 + 9) (.int .u32 cp.va)))[k * 12 + 0]? = _
        rw [List.getElem?_set_ne (by omega), List.getElem?_set_ne (by omega), List.getElem?_set_ne (by omega), List.getElem?_set_ne (by omega), List.getElem?_set_ne (by omega), List.getElem?_set_ne (by omega), List.getElem?_set_ne (by omega), List.getElem?_set_ne (by omega), hg]
        rfl
      · show ((((((((((fl enL xs).set (k * 12 + 2) (.int .i64 cp.kind)).set (k * 12 + 3) (.int .i64 cp.num)).set (k * 12 + 4) (.int .i64 cp.rights)).set (k * 12 + 5) (.int .u32 cp.badge)).set (k * 12 + 6) (.int .u32 cp.guard)).set (k * 12 + 7) (.int .i64 cp.gbits)).set (k * 12 + 8) (.int .i64 cp.root)).set (k * 12 + 9) (.int .u32 cp.va)))[k * 12 + 1]? = _
        rw [List.getElem?_set_ne (by omega), List.getElem?_set_ne (by omega), List.getElem?_set_ne (by omega), List.getElem?_set_ne (by omega), List.getElem?_set_ne (by omega), List.getElem?_set_ne (by omega), List.getElem?_set_ne (by omega), List.getElem?_set_ne (by omega), hg]
        rfl
      · show ((((((((((fl enL xs).set (k * 12 + 2) (.int .i64 cp.kind)).set (k * 12 + 3) (.int .i64 cp.num)).set (k * 12 + 4) (.int .i64 cp.rights)).set (k * 12 + 5) (.int .u32 cp.badge)).set (k * 12 + 6) (.int .u32 cp.guard)).set (k * 12 + 7) (.int .i64 cp.gbits)).set (k * 12 + 8) (.int .i64 cp.root)).set (k * 12 + 9) (.int .u32 cp.va)))[k * 12 + 2]? = _
        rw [List.getElem?_set_ne (by omega), List.getElem?_set_ne (by omega), List.getElem?_set_ne (by omega), List.getElem?_set_ne (by omega), List.getElem?_set_ne (by omega), List.getElem?_set_ne (by omega), List.getElem?_set_ne (by omega), List.getElem?_set_self (by omega)]
        rfl
      · show ((((((((((fl enL xs).set (k * 12 + 2) (.int .i64 cp.kind)).set (k * 12 + 3) (.int .i64 cp.num)).set (k * 12 + 4) (.int .i64 cp.rights)).set (k * 12 + 5) (.int .u32 cp.badge)).set (k * 12 + 6) (.int .u32 cp.guard)).set (k * 12 + 7) (.int .i64 cp.gbits)).set (k * 12 + 8) (.int .i64 cp.root)).set (k * 12 + 9) (.int .u32 cp.va)))[k * 12 + 3]? = _
        rw [List.getElem?_set_ne (by omega), List.getElem?_set_ne (by omega), List.getElem?_set_ne (by omega), List.getElem?_set_ne (by omega), List.getElem?_set_ne (by omega), List.getElem?_set_ne (by omega), List.getElem?_set_self (by simp only [List.length_set]; omega)]
        rfl
      · show ((((((((((fl enL xs).set (k * 12 + 2) (.int .i64 cp.kind)).set (k * 12 + 3) (.int .i64 cp.num)).set (k * 12 + 4) (.int .i64 cp.rights)).set (k * 12 + 5) (.int .u32 cp.badge)).set (k * 12 + 6) (.int .u32 cp.guard)).set (k * 12 + 7) (.int .i64 cp.gbits)).set (k * 12 + 8) (.int .i64 cp.root)).set (k * 12 + 9) (.int .u32 cp.va)))[k * 12 + 4]? = _
        rw [List.getElem?_set_ne (by omega), List.getElem?_set_ne (by omega), List.getElem?_set_ne (by omega), List.getElem?_set_ne (by omega), List.getElem?_set_ne (by omega), List.getElem?_set_self (by simp only [List.length_set]; omega)]
        rfl
      · show ((((((((((fl enL xs).set (k * 12 + 2) (.int .i64 cp.kind)).set (k * 12 + 3) (.int .i64 cp.num)).set (k * 12 + 4) (.int .i64 cp.rights)).set (k * 12 + 5) (.int .u32 cp.badge)).set (k * 12 + 6) (.int .u32 cp.guard)).set (k * 12 + 7) (.int .i64 cp.gbits)).set (k * 12 + 8) (.int .i64 cp.root)).set (k * 12 + 9) (.int .u32 cp.va)))[k * 12 + 5]? = _
        rw [List.getElem?_set_ne (by omega), List.getElem?_set_ne (by omega), List.getElem?_set_ne (by omega), List.getElem?_set_ne (by omega), List.getElem?_set_self (by simp only [List.length_set]; omega)]
        rfl
      · show ((((((((((fl enL xs).set (k * 12 + 2) (.int .i64 cp.kind)).set (k * 12 + 3) (.int .i64 cp.num)).set (k * 12 + 4) (.int .i64 cp.rights)).set (k * 12 + 5) (.int .u32 cp.badge)).set (k * 12 + 6) (.int .u32 cp.guard)).set (k * 12 + 7) (.int .i64 cp.gbits)).set (k * 12 + 8) (.int .i64 cp.root)).set (k * 12 + 9) (.int .u32 cp.va)))[k * 12 + 6]? = _
        rw [List.getElem?_set_ne (by omega), List.getElem?_set_ne (by omega), List.getElem?_set_ne (by omega), List.getElem?_set_self (by simp only [List.length_set]; omega)]
        rfl
      · show ((((((((((fl enL xs).set (k * 12 + 2) (.int .i64 cp.kind)).set (k * 12 + 3) (.int .i64 cp.num)).set (k * 12 + 4) (.int .i64 cp.rights)).set (k * 12 + 5) (.int .u32 cp.badge)).set (k * 12 + 6) (.int .u32 cp.guard)).set (k * 12 + 7) (.int .i64 cp.gbits)).set (k * 12 + 8) (.int .i64 cp.root)).set (k * 12 + 9) (.int .u32 cp.va)))[k * 12 + 7]? = _
        rw [List.getElem?_set_ne (by omega), List.getElem?_set_ne (by omega), List.getElem?_set_self (by simp only [List.length_set]; omega)]
        rfl
      · show ((((((((((fl enL xs).set (k * 12 + 2) (.int .i64 cp.kind)).set (k * 12 + 3) (.int .i64 cp.num)).set (k * 12 + 4) (.int .i64 cp.rights)).set (k * 12 + 5) (.int .u32 cp.badge)).set (k * 12 + 6) (.int .u32 cp.guard)).set (k * 12 + 7) (.int .i64 cp.gbits)).set (k * 12 + 8) (.int .i64 cp.root)).set (k * 12 + 9) (.int .u32 cp.va)))[k * 12 + 8]? = _
        rw [List.getElem?_set_ne (by omega), List.getElem?_set_self (by simp only [List.length_set]; omega)]
        rfl
      · show ((((((((((fl enL xs).set (k * 12 + 2) (.int .i64 cp.kind)).set (k * 12 + 3) (.int .i64 cp.num)).set (k * 12 + 4) (.int .i64 cp.rights)).set (k * 12 + 5) (.int .u32 cp.badge)).set (k * 12 + 6) (.int .u32 cp.guard)).set (k * 12 + 7) (.int .i64 cp.gbits)).set (k * 12 + 8) (.int .i64 cp.root)).set (k * 12 + 9) (.int .u32 cp.va)))[k * 12 + 9]? = _
        rw [List.getElem?_set_self (by simp only [List.length_set]; omega)]
        rfl
      · show ((((((((((fl enL xs).set (k * 12 + 2) (.int .i64 cp.kind)).set (k * 12 + 3) (.int .i64 cp.num)).set (k * 12 + 4) (.int .i64 cp.rights)).set (k * 12 + 5) (.int .u32 cp.badge)).set (k * 12 + 6) (.int .u32 cp.guard)).set (k * 12 + 7) (.int .i64 cp.gbits)).set (k * 12 + 8) (.int .i64 cp.root)).set (k * 12 + 9) (.int .u32 cp.va)))[k * 12 + 10]? = _
        rw [List.getElem?_set_ne (by omega), List.getElem?_set_ne (by omega), List.getElem?_set_ne (by omega), List.getElem?_set_ne (by omega), List.getElem?_set_ne (by omega), List.getElem?_set_ne (by omega), List.getElem?_set_ne (by omega), List.getElem?_set_ne (by omega), hg]
        rfl
      · show ((((((((((fl enL xs).set (k * 12 + 2) (.int .i64 cp.kind)).set (k * 12 + 3) (.int .i64 cp.num)).set (k * 12 + 4) (.int .i64 cp.rights)).set (k * 12 + 5) (.int .u32 cp.badge)).set (k * 12 + 6) (.int .u32 cp.guard)).set (k * 12 + 7) (.int .i64 cp.gbits)).set (k * 12 + 8) (.int .i64 cp.root)).set (k * 12 + 9) (.int .u32 cp.va)))[k * 12 + 11]? = _
        rw [List.getElem?_set_ne (by omega), List.getElem?_set_ne (by omega), List.getElem?_set_ne (by omega), List.getElem?_set_ne (by omega), List.getElem?_set_ne (by omega), List.getElem?_set_ne (by omega), List.getElem?_set_ne (by omega), List.getElem?_set_ne (by omega), hg]
        rfl
    · have hi2 : i < k * 12 ∨ k * 12 + 12 ≤ i := hi
      rw [List.getElem?_set_ne (by omega), List.getElem?_set_ne (by omega), List.getElem?_set_ne (by omega), List.getElem?_set_ne (by omega), List.getElem?_set_ne (by omega), List.getElem?_set_ne (by omega), List.getElem?_set_ne (by omega), List.getElem?_set_ne (by omega)]
  show World.ownsRow _ _ _ _ _ (xs.set k _).length _
  rw [List.length_set, ← e]
  exact h7
set_option maxHeartbeats 2000000 in
theorem own_ent {w : World} {base g c m : Nat} {T : TypeId} {xs : List En} (h : OwnL enL w base T (.slice (some ⟨g, 0, none⟩) m c) xs) (hm : m = xs.length) (k : Nat) (hk : k < xs.length) (y : En) :
    OwnL enL ((((((((((((w.setCell ⟨g, k * 12, none⟩ (.int .i64 y.at'.1)).setCell ⟨g, k * 12 + 1, none⟩ (.int .i64 y.at'.2)).setCell ⟨g, k * 12 + 2, none⟩ (.int .i64 y.cap.kind)).setCell ⟨g, k * 12 + 3, none⟩ (.int .i64 y.cap.num)).setCell ⟨g, k * 12 + 4, none⟩ (.int .i64 y.cap.rights)).setCell ⟨g, k * 12 + 5, none⟩ (.int .u32 y.cap.badge)).setCell ⟨g, k * 12 + 6, none⟩ (.int .u32 y.cap.guard)).setCell ⟨g, k * 12 + 7, none⟩ (.int .i64 y.cap.gbits)).setCell ⟨g, k * 12 + 8, none⟩ (.int .i64 y.cap.root)).setCell ⟨g, k * 12 + 9, none⟩ (.int .u32 y.cap.va)).setCell ⟨g, k * 12 + 10, none⟩ (.int .i64 y.from'.1)).setCell ⟨g, k * 12 + 11, none⟩ (.int .i64 y.from'.2)) base T (.slice (some ⟨g, 0, none⟩) m c) (xs.set k y) ∧ Only (fun b => b = g) w ((((((((((((w.setCell ⟨g, k * 12, none⟩ (.int .i64 y.at'.1)).setCell ⟨g, k * 12 + 1, none⟩ (.int .i64 y.at'.2)).setCell ⟨g, k * 12 + 2, none⟩ (.int .i64 y.cap.kind)).setCell ⟨g, k * 12 + 3, none⟩ (.int .i64 y.cap.num)).setCell ⟨g, k * 12 + 4, none⟩ (.int .i64 y.cap.rights)).setCell ⟨g, k * 12 + 5, none⟩ (.int .u32 y.cap.badge)).setCell ⟨g, k * 12 + 6, none⟩ (.int .u32 y.cap.guard)).setCell ⟨g, k * 12 + 7, none⟩ (.int .i64 y.cap.gbits)).setCell ⟨g, k * 12 + 8, none⟩ (.int .i64 y.cap.root)).setCell ⟨g, k * 12 + 9, none⟩ (.int .u32 y.cap.va)).setCell ⟨g, k * 12 + 10, none⟩ (.int .i64 y.from'.1)).setCell ⟨g, k * 12 + 11, none⟩ (.int .i64 y.from'.2)) := by
  subst hm
  have h0 := (World.ownsRow.stored h (k * 12) (.int .i64 y.at'.1)).1
  have h1 := (World.ownsRow.stored h0 (k * 12 + 1) (.int .i64 y.at'.2)).1
  have h2 := (World.ownsRow.stored h1 (k * 12 + 2) (.int .i64 y.cap.kind)).1
  have h3 := (World.ownsRow.stored h2 (k * 12 + 3) (.int .i64 y.cap.num)).1
  have h4 := (World.ownsRow.stored h3 (k * 12 + 4) (.int .i64 y.cap.rights)).1
  have h5 := (World.ownsRow.stored h4 (k * 12 + 5) (.int .u32 y.cap.badge)).1
  have h6 := (World.ownsRow.stored h5 (k * 12 + 6) (.int .u32 y.cap.guard)).1
  have h7 := (World.ownsRow.stored h6 (k * 12 + 7) (.int .i64 y.cap.gbits)).1
  have h8 := (World.ownsRow.stored h7 (k * 12 + 8) (.int .i64 y.cap.root)).1
  have h9 := (World.ownsRow.stored h8 (k * 12 + 9) (.int .u32 y.cap.va)).1
  have h10 := (World.ownsRow.stored h9 (k * 12 + 10) (.int .i64 y.from'.1)).1
  have h11 := (World.ownsRow.stored h10 (k * 12 + 11) (.int .i64 y.from'.2)).1
  have o0 : Only (fun b => b = g) w w := Only.refl _ w
  have o1 := Only.setCell (S := fun b => b = g) o0 (p := ⟨g, k * 12, none⟩) (Or.inl rfl) (.int .i64 y.at'.1)
  have o2 := Only.setCell (S := fun b => b = g) o1 (p := ⟨g, k * 12 + 1, none⟩) (Or.inl rfl) (.int .i64 y.at'.2)
  have o3 := Only.setCell (S := fun b => b = g) o2 (p := ⟨g, k * 12 + 2, none⟩) (Or.inl rfl) (.int .i64 y.cap.kind)
  have o4 := Only.setCell (S := fun b => b = g) o3 (p := ⟨g, k * 12 + 3, none⟩) (Or.inl rfl) (.int .i64 y.cap.num)
  have o5 := Only.setCell (S := fun b => b = g) o4 (p := ⟨g, k * 12 + 4, none⟩) (Or.inl rfl) (.int .i64 y.cap.rights)
  have o6 := Only.setCell (S := fun b => b = g) o5 (p := ⟨g, k * 12 + 5, none⟩) (Or.inl rfl) (.int .u32 y.cap.badge)
  have o7 := Only.setCell (S := fun b => b = g) o6 (p := ⟨g, k * 12 + 6, none⟩) (Or.inl rfl) (.int .u32 y.cap.guard)
  have o8 := Only.setCell (S := fun b => b = g) o7 (p := ⟨g, k * 12 + 7, none⟩) (Or.inl rfl) (.int .i64 y.cap.gbits)
  have o9 := Only.setCell (S := fun b => b = g) o8 (p := ⟨g, k * 12 + 8, none⟩) (Or.inl rfl) (.int .i64 y.cap.root)
  have o10 := Only.setCell (S := fun b => b = g) o9 (p := ⟨g, k * 12 + 9, none⟩) (Or.inl rfl) (.int .u32 y.cap.va)
  have o11 := Only.setCell (S := fun b => b = g) o10 (p := ⟨g, k * 12 + 10, none⟩) (Or.inl rfl) (.int .i64 y.from'.1)
  have o12 := Only.setCell (S := fun b => b = g) o11 (p := ⟨g, k * 12 + 11, none⟩) (Or.inl rfl) (.int .i64 y.from'.2)
  refine ⟨?_, o12⟩
  have hl : (fl enL xs).length = xs.length * 12 := length_fl enL xs
  have hkl : k * 12 + 12 ≤ xs.length * 12 := by omega
  have e : (((((((((((((fl enL xs).set (k * 12) (.int .i64 y.at'.1)).set (k * 12 + 1) (.int .i64 y.at'.2)).set (k * 12 + 2) (.int .i64 y.cap.kind)).set (k * 12 + 3) (.int .i64 y.cap.num)).set (k * 12 + 4) (.int .i64 y.cap.rights)).set (k * 12 + 5) (.int .u32 y.cap.badge)).set (k * 12 + 6) (.int .u32 y.cap.guard)).set (k * 12 + 7) (.int .i64 y.cap.gbits)).set (k * 12 + 8) (.int .i64 y.cap.root)).set (k * 12 + 9) (.int .u32 y.cap.va)).set (k * 12 + 10) (.int .i64 y.from'.1)).set (k * 12 + 11) (.int .i64 y.from'.2)) = fl enL (xs.set k y) := by
    refine fl_set enL xs k _ hk _ (by simp only [List.length_set]) (fun j hj => ?_) (fun i hi => ?_)
    · have hg0 := get_fl enL xs k j hk hj
      have hj12 : j < 12 := hj
      have hg : (fl enL xs)[k * 12 + j]? = (enC xs[k])[j]? := hg0
      clear hg0 hj h0 h1 h2 h3 h4 h5 h6 h7 h8 h9 h10 h11 o0 o1 o2 o3 o4 o5 o6 o7 o8 o9 o10 o11 o12
      have hc : j = 0 ∨ j = 1 ∨ j = 2 ∨ j = 3 ∨ j = 4 ∨ j = 5 ∨ j = 6 ∨ j = 7 ∨ j = 8 ∨ j = 9 ∨ j = 10 ∨ j = 11 := by omega
      rcases hc with rfl | rfl | rfl | rfl | rfl | rfl | rfl | rfl | rfl | rfl | rfl | rfl
      · show ((((((((((((((fl enL xs).set (k * 12) (.int .i64 y.at'.1)).set (k * 12 + 1) (.int .i64 y.at'.2)).set (k * 12 + 2) (.int .i64 y.cap.kind)).set (k * 12 + 3) (.int .i64 y.cap.num)).set (k * 12 + 4) (.int .i64 y.cap.rights)).set (k * 12 + 5) (.int .u32 y.cap.badge)).set (k * 12 + 6) (.int .u32 y.cap.guard)).set (k * 12 + 7) (.int .i64 y.cap.gbits)).set (k * 12 + 8) (.int .i64 y.cap.root)).set (k * 12 + 9) (.int .u32 y.cap.va)).set (k * 12 + 10) (.int .i64 y.from'.1)).set (k * 12 + 11) (.int .i64 y.from'.2)))[k * 12]? = _
        rw [List.getElem?_set_ne (by omega), List.getElem?_set_ne (by omega), List.getElem?_set_ne (by omega), List.getElem?_set_ne (by omega), List.getElem?_set_ne (by omega), List.getElem?_set_ne (by omega), List.getElem?_set_ne (by omega), List.getElem?_set_ne (by omega), List.getElem?_set_ne (by omega), List.getElem?_set_ne (by omega), List.getElem?_set_ne (by omega), List.getElem?_set_self (by omega)]
        rfl
      · show ((((((((((((((fl enL xs).set (k * 12) (.int .i64 y.at'.1)).set (k * 12 + 1) (.int .i64 y.at'.2)).set (k * 12 + 2) (.int .i64 y.cap.kind)).set (k * 12 + 3) (.int .i64 y.cap.num)).set (k * 12 + 4) (.int .i64 y.cap.rights)).set (k * 12 + 5) (.int .u32 y.cap.badge)).set (k * 12 + 6) (.int .u32 y.cap.guard)).set (k * 12 + 7) (.int .i64 y.cap.gbits)).set (k * 12 + 8) (.int .i64 y.cap.root)).set (k * 12 + 9) (.int .u32 y.cap.va)).set (k * 12 + 10) (.int .i64 y.from'.1)).set (k * 12 + 11) (.int .i64 y.from'.2)))[k * 12 + 1]? = _
        rw [List.getElem?_set_ne (by omega), List.getElem?_set_ne (by omega), List.getElem?_set_ne (by omega), List.getElem?_set_ne (by omega), List.getElem?_set_ne (by omega), List.getElem?_set_ne (by omega), List.getElem?_set_ne (by omega), List.getElem?_set_ne (by omega), List.getElem?_set_ne (by omega), List.getElem?_set_ne (by omega), List.getElem?_set_self (by simp only [List.length_set]; omega)]
        rfl
      · show ((((((((((((((fl enL xs).set (k * 12) (.int .i64 y.at'.1)).set (k * 12 + 1) (.int .i64 y.at'.2)).set (k * 12 + 2) (.int .i64 y.cap.kind)).set (k * 12 + 3) (.int .i64 y.cap.num)).set (k * 12 + 4) (.int .i64 y.cap.rights)).set (k * 12 + 5) (.int .u32 y.cap.badge)).set (k * 12 + 6) (.int .u32 y.cap.guard)).set (k * 12 + 7) (.int .i64 y.cap.gbits)).set (k * 12 + 8) (.int .i64 y.cap.root)).set (k * 12 + 9) (.int .u32 y.cap.va)).set (k * 12 + 10) (.int .i64 y.from'.1)).set (k * 12 + 11) (.int .i64 y.from'.2)))[k * 12 + 2]? = _
        rw [List.getElem?_set_ne (by omega), List.getElem?_set_ne (by omega), List.getElem?_set_ne (by omega), List.getElem?_set_ne (by omega), List.getElem?_set_ne (by omega), List.getElem?_set_ne (by omega), List.getElem?_set_ne (by omega), List.getElem?_set_ne (by omega), List.getElem?_set_ne (by omega), List.getElem?_set_self (by simp only [List.length_set]; omega)]
        rfl
      · show ((((((((((((((fl enL xs).set (k * 12) (.int .i64 y.at'.1)).set (k * 12 + 1) (.int .i64 y.at'.2)).set (k * 12 + 2) (.int .i64 y.cap.kind)).set (k * 12 + 3) (.int .i64 y.cap.num)).set (k * 12 + 4) (.int .i64 y.cap.rights)).set (k * 12 + 5) (.int .u32 y.cap.badge)).set (k * 12 + 6) (.int .u32 y.cap.guard)).set (k * 12 + 7) (.int .i64 y.cap.gbits)).set (k * 12 + 8) (.int .i64 y.cap.root)).set (k * 12 + 9) (.int .u32 y.cap.va)).set (k * 12 + 10) (.int .i64 y.from'.1)).set (k * 12 + 11) (.int .i64 y.from'.2)))[k * 12 + 3]? = _
        rw [List.getElem?_set_ne (by omega), List.getElem?_set_ne (by omega), List.getElem?_set_ne (by omega), List.getElem?_set_ne (by omega), List.getElem?_set_ne (by omega), List.getElem?_set_ne (by omega), List.getElem?_set_ne (by omega), List.getElem?_set_ne (by omega), List.getElem?_set_self (by simp only [List.length_set]; omega)]
        rfl
      · show ((((((((((((((fl enL xs).set (k * 12) (.int .i64 y.at'.1)).set (k * 12 + 1) (.int .i64 y.at'.2)).set (k * 12 + 2) (.int .i64 y.cap.kind)).set (k * 12 + 3) (.int .i64 y.cap.num)).set (k * 12 + 4) (.int .i64 y.cap.rights)).set (k * 12 + 5) (.int .u32 y.cap.badge)).set (k * 12 + 6) (.int .u32 y.cap.guard)).set (k * 12 + 7) (.int .i64 y.cap.gbits)).set (k * 12 + 8) (.int .i64 y.cap.root)).set (k * 12 + 9) (.int .u32 y.cap.va)).set (k * 12 + 10) (.int .i64 y.from'.1)).set (k * 12 + 11) (.int .i64 y.from'.2)))[k * 12 + 4]? = _
        rw [List.getElem?_set_ne (by omega), List.getElem?_set_ne (by omega), List.getElem?_set_ne (by omega), List.getElem?_set_ne (by omega), List.getElem?_set_ne (by omega), List.getElem?_set_ne (by omega), List.getElem?_set_ne (by omega), List.getElem?_set_self (by simp only [List.length_set]; omega)]
        rfl
      · show ((((((((((((((fl enL xs).set (k * 12) (.int .i64 y.at'.1)).set (k * 12 + 1) (.int .i64 y.at'.2)).set (k * 12 + 2) (.int .i64 y.cap.kind)).set (k * 12 + 3) (.int .i64 y.cap.num)).set (k * 12 + 4) (.int .i64 y.cap.rights)).set (k * 12 + 5) (.int .u32 y.cap.badge)).set (k * 12 + 6) (.int .u32 y.cap.guard)).set (k * 12 + 7) (.int .i64 y.cap.gbits)).set (k * 12 + 8) (.int .i64 y.cap.root)).set (k * 12 + 9) (.int .u32 y.cap.va)).set (k * 12 + 10) (.int .i64 y.from'.1)).set (k * 12 + 11) (.int .i64 y.from'.2)))[k * 12 + 5]? = _
        rw [List.getElem?_set_ne (by omega), List.getElem?_set_ne (by omega), List.getElem?_set_ne (by omega), List.getElem?_set_ne (by omega), List.getElem?_set_ne (by omega), List.getElem?_set_ne (by omega), List.getElem?_set_self (by simp only [List.length_set]; omega)]
        rfl
      · show ((((((((((((((fl enL xs).set (k * 12) (.int .i64 y.at'.1)).set (k * 12 + 1) (.int .i64 y.at'.2)).set (k * 12 + 2) (.int .i64 y.cap.kind)).set (k * 12 + 3) (.int .i64 y.cap.num)).set (k * 12 + 4) (.int .i64 y.cap.rights)).set (k * 12 + 5) (.int .u32 y.cap.badge)).set (k * 12 + 6) (.int .u32 y.cap.guard)).set (k * 12 + 7) (.int .i64 y.cap.gbits)).set (k * 12 + 8) (.int .i64 y.cap.root)).set (k * 12 + 9) (.int .u32 y.cap.va)).set (k * 12 + 10) (.int .i64 y.from'.1)).set (k * 12 + 11) (.int .i64 y.from'.2)))[k * 12 + 6]? = _
        rw [List.getElem?_set_ne (by omega), List.getElem?_set_ne (by omega), List.getElem?_set_ne (by omega), List.getElem?_set_ne (by omega), List.getElem?_set_ne (by omega), List.getElem?_set_self (by simp only [List.length_set]; omega)]
        rfl
      · show ((((((((((((((fl enL xs).set (k * 12) (.int .i64 y.at'.1)).set (k * 12 + 1) (.int .i64 y.at'.2)).set (k * 12 + 2) (.int .i64 y.cap.kind)).set (k * 12 + 3) (.int .i64 y.cap.num)).set (k * 12 + 4) (.int .i64 y.cap.rights)).set (k * 12 + 5) (.int .u32 y.cap.badge)).set (k * 12 + 6) (.int .u32 y.cap.guard)).set (k * 12 + 7) (.int .i64 y.cap.gbits)).set (k * 12 + 8) (.int .i64 y.cap.root)).set (k * 12 + 9) (.int .u32 y.cap.va)).set (k * 12 + 10) (.int .i64 y.from'.1)).set (k * 12 + 11) (.int .i64 y.from'.2)))[k * 12 + 7]? = _
        rw [List.getElem?_set_ne (by omega), List.getElem?_set_ne (by omega), List.getElem?_set_ne (by omega), List.getElem?_set_ne (by omega), List.getElem?_set_self (by simp only [List.length_set]; omega)]
        rfl
      · show ((((((((((((((fl enL xs).set (k * 12) (.int .i64 y.at'.1)).set (k * 12 + 1) (.int .i64 y.at'.2)).set (k * 12 + 2) (.int .i64 y.cap.kind)).set (k * 12 + 3) (.int .i64 y.cap.num)).set (k * 12 + 4) (.int .i64 y.cap.rights)).set (k * 12 + 5) (.int .u32 y.cap.badge)).set (k * 12 + 6) (.int .u32 y.cap.guard)).set (k * 12 + 7) (.int .i64 y.cap.gbits)).set (k * 12 + 8) (.int .i64 y.cap.root)).set (k * 12 + 9) (.int .u32 y.cap.va)).set (k * 12 + 10) (.int .i64 y.from'.1)).set (k * 12 + 11) (.int .i64 y.from'.2)))[k * 12 + 8]? = _
        rw [List.getElem?_set_ne (by omega), List.getElem?_set_ne (by omega), List.getElem?_set_ne (by omega), List.getElem?_set_self (by simp only [List.length_set]; omega)]
        rfl
      · show ((((((((((((((fl enL xs).set (k * 12) (.int .i64 y.at'.1)).set (k * 12 + 1) (.int .i64 y.at'.2)).set (k * 12 + 2) (.int .i64 y.cap.kind)).set (k * 12 + 3) (.int .i64 y.cap.num)).set (k * 12 + 4) (.int .i64 y.cap.rights)).set (k * 12 + 5) (.int .u32 y.cap.badge)).set (k * 12 + 6) (.int .u32 y.cap.guard)).set (k * 12 + 7) (.int .i64 y.cap.gbits)).set (k * 12 + 8) (.int .i64 y.cap.root)).set (k * 12 + 9) (.int .u32 y.cap.va)).set (k * 12 + 10) (.int .i64 y.from'.1)).set (k * 12 + 11) (.int .i64 y.from'.2)))[k * 12 + 9]? = _
        rw [List.getElem?_set_ne (by omega), List.getElem?_set_ne (by omega), List.getElem?_set_self (by simp only [List.length_set]; omega)]
        rfl
      · show ((((((((((((((fl enL xs).set (k * 12) (.int .i64 y.at'.1)).set (k * 12 + 1) (.int .i64 y.at'.2)).set (k * 12 + 2) (.int .i64 y.cap.kind)).set (k * 12 + 3) (.int .i64 y.cap.num)).set (k * 12 + 4) (.int .i64 y.cap.rights)).set (k * 12 + 5) (.int .u32 y.cap.badge)).set (k * 12 + 6) (.int .u32 y.cap.guard)).set (k * 12 + 7) (.int .i64 y.cap.gbits)).set (k * 12 + 8) (.int .i64 y.cap.root)).set (k * 12 + 9) (.int .u32 y.cap.va)).set (k * 12 + 10) (.int .i64 y.from'.1)).set (k * 12 + 11) (.int .i64 y.from'.2)))[k * 12 + 10]? = _
        rw [List.getElem?_set_ne (by omega), List.getElem?_set_self (by simp only [List.length_set]; omega)]
        rfl
      · show ((((((((((((((fl enL xs).set (k * 12) (.int .i64 y.at'.1)).set (k * 12 + 1) (.int .i64 y.at'.2)).set (k * 12 + 2) (.int .i64 y.cap.kind)).set (k * 12 + 3) (.int .i64 y.cap.num)).set (k * 12 + 4) (.int .i64 y.cap.rights)).set (k * 12 + 5) (.int .u32 y.cap.badge)).set (k * 12 + 6) (.int .u32 y.cap.guard)).set (k * 12 + 7) (.int .i64 y.cap.gbits)).set (k * 12 + 8) (.int .i64 y.cap.root)).set (k * 12 + 9) (.int .u32 y.cap.va)).set (k * 12 + 10) (.int .i64 y.from'.1)).set (k * 12 + 11) (.int .i64 y.from'.2)))[k * 12 + 11]? = _
        rw [List.getElem?_set_self (by simp only [List.length_set]; omega)]
        rfl
    · have hi2 : i < k * 12 ∨ k * 12 + 12 ≤ i := hi
      rw [List.getElem?_set_ne (by omega), List.getElem?_set_ne (by omega), List.getElem?_set_ne (by omega), List.getElem?_set_ne (by omega), List.getElem?_set_ne (by omega), List.getElem?_set_ne (by omega), List.getElem?_set_ne (by omega), List.getElem?_set_ne (by omega), List.getElem?_set_ne (by omega), List.getElem?_set_ne (by omega), List.getElem?_set_ne (by omega), List.getElem?_set_ne (by omega)]
  show World.ownsRow _ _ _ _ _ (xs.set k _).length _
  rw [List.length_set, ← e]
  exact h11
theorem own_fz {w : World} {base g c m : Nat} {T : TypeId} {xs : List En} (h : OwnL enL w base T (.slice (some ⟨g, 0, none⟩) m c) xs) : ∀ j, w.frozen? ⟨g, j, none⟩ = false := fun j => h.fz j
end Go.Proofs.YtbmchgjilkoplaaDoor

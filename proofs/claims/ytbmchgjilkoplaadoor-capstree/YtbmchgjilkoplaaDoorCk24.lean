import Derived.Test.YtbmchgjilkoplaaDoorCk22
/- Chapter 7, the program's store: a place changed where it lies. -/
namespace Go.Proofs.YtbmchgjilkoplaaDoor
open Go.ChangeShapes Go.WideShapes Go.ChangeAt Go.RowKit
open Go.Vx
set_option linter.unusedVariables false

set_option maxHeartbeats 2000000 in
theorem pl_all {w : World} {base g c m : Nat} {T : TypeId} {xs : List Pl} (h : OwnL plL w base T (.slice (some ⟨g, 0, none⟩) m c) xs) (hm : m = xs.length) (k : Nat) (hk : k < xs.length) (y : Pl) :
    OwnL plL ((((((((((w.setCell ⟨g, k * 10, none⟩ (.int .i64 y.1.kind)).setCell ⟨g, k * 10 + 1, none⟩ (.int .i64 y.1.num)).setCell ⟨g, k * 10 + 2, none⟩ (.int .i64 y.1.rights)).setCell ⟨g, k * 10 + 3, none⟩ (.int .u32 y.1.badge)).setCell ⟨g, k * 10 + 4, none⟩ (.int .u32 y.1.guard)).setCell ⟨g, k * 10 + 5, none⟩ (.int .i64 y.1.gbits)).setCell ⟨g, k * 10 + 6, none⟩ (.int .i64 y.1.root)).setCell ⟨g, k * 10 + 7, none⟩ (.int .u32 y.1.va)).setCell ⟨g, k * 10 + 8, none⟩ (.int .i64 y.2.1)).setCell ⟨g, k * 10 + 9, none⟩ (.int .i64 y.2.2)) base T (.slice (some ⟨g, 0, none⟩) m c) (xs.set k y) ∧ Only (fun b => b = g) w ((((((((((w.setCell ⟨g, k * 10, none⟩ (.int .i64 y.1.kind)).setCell ⟨g, k * 10 + 1, none⟩ (.int .i64 y.1.num)).setCell ⟨g, k * 10 + 2, none⟩ (.int .i64 y.1.rights)).setCell ⟨g, k * 10 + 3, none⟩ (.int .u32 y.1.badge)).setCell ⟨g, k * 10 + 4, none⟩ (.int .u32 y.1.guard)).setCell ⟨g, k * 10 + 5, none⟩ (.int .i64 y.1.gbits)).setCell ⟨g, k * 10 + 6, none⟩ (.int .i64 y.1.root)).setCell ⟨g, k * 10 + 7, none⟩ (.int .u32 y.1.va)).setCell ⟨g, k * 10 + 8, none⟩ (.int .i64 y.2.1)).setCell ⟨g, k * 10 + 9, none⟩ (.int .i64 y.2.2)) := by
  subst hm
  have h0 := (World.ownsRow.stored h (k * 10) (.int .i64 y.1.kind)).1
  have h1 := (World.ownsRow.stored h0 (k * 10 + 1) (.int .i64 y.1.num)).1
  have h2 := (World.ownsRow.stored h1 (k * 10 + 2) (.int .i64 y.1.rights)).1
  have h3 := (World.ownsRow.stored h2 (k * 10 + 3) (.int .u32 y.1.badge)).1
  have h4 := (World.ownsRow.stored h3 (k * 10 + 4) (.int .u32 y.1.guard)).1
  have h5 := (World.ownsRow.stored h4 (k * 10 + 5) (.int .i64 y.1.gbits)).1
  have h6 := (World.ownsRow.stored h5 (k * 10 + 6) (.int .i64 y.1.root)).1
  have h7 := (World.ownsRow.stored h6 (k * 10 + 7) (.int .u32 y.1.va)).1
  have h8 := (World.ownsRow.stored h7 (k * 10 + 8) (.int .i64 y.2.1)).1
  have h9 := (World.ownsRow.stored h8 (k * 10 + 9) (.int .i64 y.2.2)).1
  have o0 : Only (fun b => b = g) w w := Only.refl _ w
  have o1 := Only.setCell (S := fun b => b = g) o0 (p := ⟨g, k * 10, none⟩) (Or.inl rfl) (.int .i64 y.1.kind)
  have o2 := Only.setCell (S := fun b => b = g) o1 (p := ⟨g, k * 10 + 1, none⟩) (Or.inl rfl) (.int .i64 y.1.num)
  have o3 := Only.setCell (S := fun b => b = g) o2 (p := ⟨g, k * 10 + 2, none⟩) (Or.inl rfl) (.int .i64 y.1.rights)
  have o4 := Only.setCell (S := fun b => b = g) o3 (p := ⟨g, k * 10 + 3, none⟩) (Or.inl rfl) (.int .u32 y.1.badge)
  have o5 := Only.setCell (S := fun b => b = g) o4 (p := ⟨g, k * 10 + 4, none⟩) (Or.inl rfl) (.int .u32 y.1.guard)
  have o6 := Only.setCell (S := fun b => b = g) o5 (p := ⟨g, k * 10 + 5, none⟩) (Or.inl rfl) (.int .i64 y.1.gbits)
  have o7 := Only.setCell (S := fun b => b = g) o6 (p := ⟨g, k * 10 + 6, none⟩) (Or.inl rfl) (.int .i64 y.1.root)
  have o8 := Only.setCell (S := fun b => b = g) o7 (p := ⟨g, k * 10 + 7, none⟩) (Or.inl rfl) (.int .u32 y.1.va)
  have o9 := Only.setCell (S := fun b => b = g) o8 (p := ⟨g, k * 10 + 8, none⟩) (Or.inl rfl) (.int .i64 y.2.1)
  have o10 := Only.setCell (S := fun b => b = g) o9 (p := ⟨g, k * 10 + 9, none⟩) (Or.inl rfl) (.int .i64 y.2.2)
  refine ⟨?_, o10⟩
  have hl : (fl plL xs).length = xs.length * 10 := length_fl plL xs
  have hkl : k * 10 + 10 ≤ xs.length * 10 := by omega
  have e : (((((((((((fl plL xs).set (k * 10) (.int .i64 y.1.kind)).set (k * 10 + 1) (.int .i64 y.1.num)).set (k * 10 + 2) (.int .i64 y.1.rights)).set (k * 10 + 3) (.int .u32 y.1.badge)).set (k * 10 + 4) (.int .u32 y.1.guard)).set (k * 10 + 5) (.int .i64 y.1.gbits)).set (k * 10 + 6) (.int .i64 y.1.root)).set (k * 10 + 7) (.int .u32 y.1.va)).set (k * 10 + 8) (.int .i64 y.2.1)).set (k * 10 + 9) (.int .i64 y.2.2)) = fl plL (xs.set k y) := by
    refine fl_set plL xs k _ hk _ (by simp only [List.length_set]) (fun j hj => ?_) (fun i hi => ?_)
    · have hg0 := get_fl plL xs k j hk hj
      have hj10 : j < 10 := hj
      have hg : (fl plL xs)[k * 10 + j]? = (plC xs[k])[j]? := hg0
      clear hg0 hj h0 h1 h2 h3 h4 h5 h6 h7 h8 h9 o0 o1 o2 o3 o4 o5 o6 o7 o8 o9 o10
      have hc : j = 0 ∨ j = 1 ∨ j = 2 ∨ j = 3 ∨ j = 4 ∨ j = 5 ∨ j = 6 ∨ j = 7 ∨ j = 8 ∨ j = 9 := by omega
      rcases hc with rfl | rfl | rfl | rfl | rfl | rfl | rfl | rfl | rfl | rfl
      · show ((((((((((((fl plL xs).set (k * 10) (.int .i64 y.1.kind)).set (k * 10 + 1) (.int .i64 y.1.num)).set (k * 10 + 2) (.int .i64 y.1.rights)).set (k * 10 + 3) (.int .u32 y.1.badge)).set (k * 10 + 4) (.int .u32 y.1.guard)).set (k * 10 + 5) (.int .i64 y.1.gbits)).set (k * 10 + 6) (.int .i64 y.1.root)).set (k * 10 + 7) (.int .u32 y.1.va)).set (k * 10 + 8) (.int .i64 y.2.1)).set (k * 10 + 9) (.int .i64 y.2.2)))[k * 10]? = _
        rw [List.getElem?_set_ne (by omega), List.getElem?_set_ne (by omega), List.getElem?_set_ne (by omega), List.getElem?_set_ne (by omega), List.getElem?_set_ne (by omega), List.getElem?_set_ne (by omega), List.getElem?_set_ne (by omega), List.getElem?_set_ne (by omega), List.getElem?_set_ne (by omega), List.getElem?_set_self (by omega)]
        rfl
      · show ((((((((((((fl plL xs).set (k * 10) (.int .i64 y.1.kind)).set (k * 10 + 1) (.int .i64 y.1.num)).set (k * 10 + 2) (.int .i64 y.1.rights)).set (k * 10 + 3) (.int .u32 y.1.badge)).set (k * 10 + 4) (.int .u32 y.1.guard)).set (k * 10 + 5) (.int .i64 y.1.gbits)).set (k * 10 + 6) (.int .i64 y.1.root)).set (k * 10 + 7) (.int .u32 y.1.va)).set (k * 10 + 8) (.int .i64 y.2.1)).set (k * 10 + 9) (.int .i64 y.2.2)))[k * 10 + 1]? = _
        rw [List.getElem?_set_ne (by omega), List.getElem?_set_ne (by omega), List.getElem?_set_ne (by omega), List.getElem?_set_ne (by omega), List.getElem?_set_ne (by omega), List.getElem?_set_ne (by omega), List.getElem?_set_ne (by omega), List.getElem?_set_ne (by omega), List.getElem?_set_self (by simp only [List.length_set]; omega)]
        rfl
      · show ((((((((((((fl plL xs).set (k * 10) (.int .i64 y.1.kind)).set (k * 10 + 1) (.int .i64 y.1.num)).set (k * 10 + 2) (.int .i64 y.1.rights)).set (k * 10 + 3) (.int .u32 y.1.badge)).set (k * 10 + 4) (.int .u32 y.1.guard)).set (k * 10 + 5) (.int .i64 y.1.gbits)).set (k * 10 + 6) (.int .i64 y.1.root)).set (k * 10 + 7) (.int .u32 y.1.va)).set (k * 10 + 8) (.int .i64 y.2.1)).set (k * 10 + 9) (.int .i64 y.2.2)))[k * 10 + 2]? = _
        rw [List.getElem?_set_ne (by omega), List.getElem?_set_ne (by omega), List.getElem?_set_ne (by omega), List.getElem?_set_ne (by omega), List.getElem?_set_ne (by omega), List.getElem?_set_ne (by omega), List.getElem?_set_ne (by omega), List.getElem?_set_self (by simp only [List.length_set]; omega)]
        rfl
      · show ((((((((((((fl plL xs).set (k * 10) (.int .i64 y.1.kind)).set (k * 10 + 1) (.int .i64 y.1.num)).set (k * 10 + 2) (.int .i64 y.1.rights)).set (k * 10 + 3) (.int .u32 y.1.badge)).set (k * 10 + 4) (.int .u32 y.1.guard)).set (k * 10 + 5) (.int .i64 y.1.gbits)).set (k * 10 + 6) (.int .i64 y.1.root)).set (k * 10 + 7) (.int .u32 y.1.va)).set (k * 10 + 8) (.int .i64 y.2.1)).set (k * 10 + 9) (.int .i64 y.2.2)))[k * 10 + 3]? = _
        rw [List.getElem?_set_ne (by omega), List.getElem?_set_ne (by omega), List.getElem?_set_ne (by omega), List.getElem?_set_ne (by omega), List.getElem?_set_ne (by omega), List.getElem?_set_ne (by omega), List.getElem?_set_self (by simp only [List.length_set]; omega)]
        rfl
      · show ((((((((((((fl plL xs).set (k * 10) (.int .i64 y.1.kind)).set (k * 10 + 1) (.int .i64 y.1.num)).set (k * 10 + 2) (.int .i64 y.1.rights)).set (k * 10 + 3) (.int .u32 y.1.badge)).set (k * 10 + 4) (.int .u32 y.1.guard)).set (k * 10 + 5) (.int .i64 y.1.gbits)).set (k * 10 + 6) (.int .i64 y.1.root)).set (k * 10 + 7) (.int .u32 y.1.va)).set (k * 10 + 8) (.int .i64 y.2.1)).set (k * 10 + 9) (.int .i64 y.2.2)))[k * 10 + 4]? = _
        rw [List.getElem?_set_ne (by omega), List.getElem?_set_ne (by omega), List.getElem?_set_ne (by omega), List.getElem?_set_ne (by omega), List.getElem?_set_ne (by omega), List.getElem?_set_self (by simp only [List.length_set]; omega)]
        rfl
      · show ((((((((((((fl plL xs).set (k * 10) (.int .i64 y.1.kind)).set (k * 10 + 1) (.int .i64 y.1.num)).set (k * 10 + 2) (.int .i64 y.1.rights)).set (k * 10 + 3) (.int .u32 y.1.badge)).set (k * 10 + 4) (.int .u32 y.1.guard)).set (k * 10 + 5) (.int .i64 y.1.gbits)).set (k * 10 + 6) (.int .i64 y.1.root)).set (k * 10 + 7) (.int .u32 y.1.va)).set (k * 10 + 8) (.int .i64 y.2.1)).set (k * 10 + 9) (.int .i64 y.2.2)))[k * 10 + 5]? = _
        rw [List.getElem?_set_ne (by omega), List.getElem?_set_ne (by omega), List.getElem?_set_ne (by omega), List.getElem?_set_ne (by omega), List.getElem?_set_self (by simp only [List.length_set]; omega)]
        rfl
      · show ((((((((((((fl plL xs).set (k * 10) (.int .i64 y.1.kind)).set (k * 10 + 1) (.int .i64 y.1.num)).set (k * 10 + 2) (.int .i64 y.1.rights)).set (k * 10 + 3) (.int .u32 y.1.badge)).set (k * 10 + 4) (.int .u32 y.1.guard)).set (k * 10 + 5) (.int .i64 y.1.gbits)).set (k * 10 + 6) (.int .i64 y.1.root)).set (k * 10 + 7) (.int .u32 y.1.va)).set (k * 10 + 8) (.int .i64 y.2.1)).set (k * 10 + 9) (.int .i64 y.2.2)))[k * 10 + 6]? = _
        rw [List.getElem?_set_ne (by omega), List.getElem?_set_ne (by omega), List.getElem?_set_ne (by omega), List.getElem?_set_self (by simp only [List.length_set]; omega)]
        rfl
      · show ((((((((((((fl plL xs).set (k * 10) (.int .i64 y.1.kind)).set (k * 10 + 1) (.int .i64 y.1.num)).set (k * 10 + 2) (.int .i64 y.1.rights)).set (k * 10 + 3) (.int .u32 y.1.badge)).set (k * 10 + 4) (.int .u32 y.1.guard)).set (k * 10 + 5) (.int .i64 y.1.gbits)).set (k * 10 + 6) (.int .i64 y.1.root)).set (k * 10 + 7) (.int .u32 y.1.va)).set (k * 10 + 8) (.int .i64 y.2.1)).set (k * 10 + 9) (.int .i64 y.2.2)))[k * 10 + 7]? = _
        rw [List.getElem?_set_ne (by omega), List.getElem?_set_ne (by omega), List.getElem?_set_self (by simp only [List.length_set]; omega)]
        rfl
      · show ((((((((((((fl plL xs).set (k * 10) (.int .i64 y.1.kind)).set (k * 10 + 1) (.int .i64 y.1.num)).set (k * 10 + 2) (.int .i64 y.1.rights)).set (k * 10 + 3) (.int .u32 y.1.badge)).set (k * 10 + 4) (.int .u32 y.1.guard)).set (k * 10 + 5) (.int .i64 y.1.gbits)).set (k * 10 + 6) (.int .i64 y.1.root)).set (k * 10 + 7) (.int .u32 y.1.va)).set (k * 10 + 8) (.int .i64 y.2.1)).set (k * 10 + 9) (.int .i64 y.2.2)))[k * 10 + 8]? = _
        rw [List.getElem?_set_ne (by omega), List.getElem?_set_self (by simp only [List.length_set]; omega)]
        rfl
      · show ((((((((((((fl plL xs).set (k * 10) (.int .i64 y.1.kind)).set (k * 10 + 1) (.int .i64 y.1.num)).set (k * 10 + 2) (.int .i64 y.1.rights)).set (k * 10 + 3) (.int .u32 y.1.badge)).set (k * 10 + 4) (.int .u32 y.1.guard)).set (k * 10 + 5) (.int .i64 y.1.gbits)).set (k * 10 + 6) (.int .i64 y.1.root)).set (k * 10 + 7) (.int .u32 y.1.va)).set (k * 10 + 8) (.int .i64 y.2.1)).set (k * 10 + 9) (.int .i64 y.2.2)))[k * 10 + 9]? = _
        rw [List.getElem?_set_self (by simp only [List.length_set]; omega)]
        rfl
    · have hi2 : i < k * 10 ∨ k * 10 + 10 ≤ i := hi
      rw [List.getElem?_set_ne (by omega), List.getElem?_set_ne (by omega), List.getElem?_set_ne (by omega), List.getElem?_set_ne (by omega), List.getElem?_set_ne (by omega), List.getElem?_set_ne (by omega), List.getElem?_set_ne (by omega), List.getElem?_set_ne (by omega), List.getElem?_set_ne (by omega), List.getElem?_set_ne (by omega)]
  show World.ownsRow _ _ _ _ _ (xs.set k _).length _
  rw [List.length_set, ← e]
  exact h9
set_option maxHeartbeats 2000000 in
theorem pl_cap {w : World} {base g c m : Nat} {T : TypeId} {xs : List Pl} (h : OwnL plL w base T (.slice (some ⟨g, 0, none⟩) m c) xs) (hm : m = xs.length) (k : Nat) (hk : k < xs.length) (cp : Cp) :
    OwnL plL ((((((((w.setCell ⟨g, k * 10, none⟩ (.int .i64 cp.kind)).setCell ⟨g, k * 10 + 1, none⟩ (.int .i64 cp.num)).setCell ⟨g, k * 10 + 2, none⟩ (.int .i64 cp.rights)).setCell ⟨g, k * 10 + 3, none⟩ (.int .u32 cp.badge)).setCell ⟨g, k * 10 + 4, none⟩ (.int .u32 cp.guard)).setCell ⟨g, k * 10 + 5, none⟩ (.int .i64 cp.gbits)).setCell ⟨g, k * 10 + 6, none⟩ (.int .i64 cp.root)).setCell ⟨g, k * 10 + 7, none⟩ (.int .u32 cp.va)) base T (.slice (some ⟨g, 0, none⟩) m c) (xs.set k (cp, xs[k].2)) ∧ Only (fun b => b = g) w ((((((((w.setCell ⟨g, k * 10, none⟩ (.int .i64 cp.kind)).setCell ⟨g, k * 10 + 1, none⟩ (.int .i64 cp.num)).setCell ⟨g, k * 10 + 2, none⟩ (.int .i64 cp.rights)).setCell ⟨g, k * 10 + 3, none⟩ (.int .u32 cp.badge)).setCell ⟨g, k * 10 + 4, none⟩ (.int .u32 cp.guard)).setCell ⟨g, k * 10 + 5, none⟩ (.int .i64 cp.gbits)).setCell ⟨g, k * 10 + 6, none⟩ (.int .i64 cp.root)).setCell ⟨g, k * 10 + 7, none⟩ (.int .u32 cp.va)) := by
  subst hm
  have h0 := (World.ownsRow.stored h (k * 10) (.int .i64 cp.kind)).1
  have h1 := (World.ownsRow.stored h0 (k * 10 + 1) (.int .i64 cp.num)).1
  have h2 := (World.ownsRow.stored h1 (k * 10 + 2) (.int .i64 cp.rights)).1
  have h3 := (World.ownsRow.stored h2 (k * 10 + 3) (.int .u32 cp.badge)).1
  have h4 := (World.ownsRow.stored h3 (k * 10 + 4) (.int .u32 cp.guard)).1
  have h5 := (World.ownsRow.stored h4 (k * 10 + 5) (.int .i64 cp.gbits)).1
  have h6 := (World.ownsRow.stored h5 (k * 10 + 6) (.int .i64 cp.root)).1
  have h7 := (World.ownsRow.stored h6 (k * 10 + 7) (.int .u32 cp.va)).1
  have o0 : Only (fun b => b = g) w w := Only.refl _ w
  have o1 := Only.setCell (S := fun b => b = g) o0 (p := ⟨g, k * 10, none⟩) (Or.inl rfl) (.int .i64 cp.kind)
  have o2 := Only.setCell (S := fun b => b = g) o1 (p := ⟨g, k * 10 + 1, none⟩) (Or.inl rfl) (.int .i64 cp.num)
  have o3 := Only.setCell (S := fun b => b = g) o2 (p := ⟨g, k * 10 + 2, none⟩) (Or.inl rfl) (.int .i64 cp.rights)
  have o4 := Only.setCell (S := fun b => b = g) o3 (p := ⟨g, k * 10 + 3, none⟩) (Or.inl rfl) (.int .u32 cp.badge)
  have o5 := Only.setCell (S := fun b => b = g) o4 (p := ⟨g, k * 10 + 4, none⟩) (Or.inl rfl) (.int .u32 cp.guard)
  have o6 := Only.setCell (S := fun b => b = g) o5 (p := ⟨g, k * 10 + 5, none⟩) (Or.inl rfl) (.int .i64 cp.gbits)
  have o7 := Only.setCell (S := fun b => b = g) o6 (p := ⟨g, k * 10 + 6, none⟩) (Or.inl rfl) (.int .i64 cp.root)
  have o8 := Only.setCell (S := fun b => b = g) o7 (p := ⟨g, k * 10 + 7, none⟩) (Or.inl rfl) (.int .u32 cp.va)
  refine ⟨?_, o8⟩
  have hl : (fl plL xs).length = xs.length * 10 := length_fl plL xs
  have hkl : k * 10 + 10 ≤ xs.length * 10 := by omega
  have e : (((((((((fl plL xs).set (k * 10) (.int .i64 cp.kind)).set (k * 10 + 1) (.int .i64 cp.num)).set (k * 10 + 2) (.int .i64 cp.rights)).set (k * 10 + 3) (.int .u32 cp.badge)).set (k * 10 + 4) (.int .u32 cp.guard)).set (k * 10 + 5) (.int .i64 cp.gbits)).set (k * 10 + 6) (.int .i64 cp.root)).set (k * 10 + 7) (.int .u32 cp.va)) = fl plL (xs.set k (cp, xs[k].2)) := by
    refine fl_set plL xs k _ hk _ (by simp only [List.length_set]) (fun j hj => ?_) (fun i hi => ?_)
    · have hg0 := get_fl plL xs k j hk hj
      have hj10 : j < 10 := hj
      have hg : (fl plL xs)[k * 10 + j]? = (plC xs[k])[j]? := hg0
      clear hg0 hj h0 h1 h2 h3 h4 h5 h6 h7 o0 o1 o2 o3 o4 o5 o6 o7 o8
      have hc : j = 0 ∨ j = 1 ∨ j = 2 ∨ j = 3 ∨ j = 4 ∨ j = 5 ∨ j = 6 ∨ j = 7 ∨ j = 8 ∨ j = 9 := by omega
      rcases hc with rfl | rfl | rfl | rfl | rfl | rfl | rfl | rfl | rfl | rfl
      · show ((((((((((fl plL xs).set (k * 10) (.int .i64 cp.kind)).set (k * 10 + 1) (.int .i64 cp.num)).set (k * 10 + 2) (.int .i64 cp.rights)).set (k * 10 + 3) (.int .u32 cp.badge)).set (k * 10 + 4) (.int .u32 cp.guard)).set (k * 10 + 5) (.int .i64 cp.gbits)).set (k * 10 + 6) (.int .i64 cp.root)).set (k * 10 + 7) (.int .u32 cp.va)))[k * 10]? = _
        rw [List.getElem?_set_ne (by omega), List.getElem?_set_ne (by omega), List.getElem?_set_ne (by omega), List.getElem?_set_ne (by omega), List.getElem?_set_ne (by omega), List.getElem?_set_ne (by omega), List.getElem?_set_ne (by omega), List.getElem?_set_self (by omega)]
        rfl
      · show ((((((((((fl plL xs).set (k * 10) (.int .i64 cp.kind)).set (k * 10 + 1) (.int .i64 cp.num)).set (k * 10 + 2) (.int .i64 cp.rights)).set (k * 10 + 3) (.int .u32 cp.badge)).set (k * 10 + 4) (.int .u32 cp.guard)).set (k * 10 + 5) (.int .i64 cp.gbits)).set (k * 10 + 6) (.int .i64 cp.root)).set (k * 10 + 7) (.int .u32 cp.va)))[k * 10 + 1]? = _
        rw [List.getElem?_set_ne (by omega), List.getElem?_set_ne (by omega), List.getElem?_set_ne (by omega), List.getElem?_set_ne (by omega), List.getElem?_set_ne (by omega), List.getElem?_set_ne (by omega), List.getElem?_set_self (by simp only [List.length_set]; omega)]
        rfl
      · show ((((((((((fl plL xs).set (k * 10) (.int .i64 cp.kind)).set (k * 10 + 1) (.int .i64 cp.num)).set (k * 10 + 2) (.int .i64 cp.rights)).set (k * 10 + 3) (.int .u32 cp.badge)).set (k * 10 + 4) (.int .u32 cp.guard)).set (k * 10 + 5) (.int .i64 cp.gbits)).set (k * 10 + 6) (.int .i64 cp.root)).set (k * 10 + 7) (.int .u32 cp.va)))[k * 10 + 2]? = _
        rw [List.getElem?_set_ne (by omega), List.getElem?_set_ne (by omega), List.getElem?_set_ne (by omega), List.getElem?_set_ne (by omega), List.getElem?_set_ne (by omega), List.getElem?_set_self (by simp only [List.length_set]; omega)]
        rfl
      · show ((((((((((fl plL xs).set (k * 10) (.int .i64 cp.kind)).set (k * 10 + 1) (.int .i64 cp.num)).set (k * 10 + 2) (.int .i64 cp.rights)).set (k * 10 + 3) (.int .u32 cp.badge)).set (k * 10 + 4) (.int .u32 cp.guard)).set (k * 10 + 5) (.int .i64 cp.gbits)).set (k * 10 + 6) (.int .i64 cp.root)).set (k * 10 + 7) (.int .u32 cp.va)))[k * 10 + 3]? = _
        rw [List.getElem?_set_ne (by omega), List.getElem?_set_ne (by omega), List.getElem?_set_ne (by omega), List.getElem?_set_ne (by omega), List.getElem?_set_self (by simp only [List.length_set]; omega)]
        rfl
      · show ((((((((((fl plL xs).set (k * 10) (.int .i64 cp.kind)).set (k * 10 + 1) (.int .i64 cp.num)).set (k * 10 + 2) (.int .i64 cp.rights)).set (k * 10 + 3) (.int .u32 cp.badge)).set (k * 10 + 4) (.int .u32 cp.guard)).set (k * 10 + 5) (.int .i64 cp.gbits)).set (k * 10 + 6) (.int .i64 cp.root)).set (k * 10 + 7) (.int .u32 cp.va)))[k * 10 + 4]? = _
        rw [List.getElem?_set_ne (by omega), List.getElem?_set_ne (by omega), List.getElem?_set_ne (by omega), List.getElem?_set_self (by simp only [List.length_set]; omega)]
        rfl
      · show ((((((((((fl plL xs).set (k * 10) (.int .i64 cp.kind)).set (k * 10 + 1) (.int .i64 cp.num)).set (k * 10 + 2) (.int .i64 cp.rights)).set (k * 10 + 3) (.int .u32 cp.badge)).set (k * 10 + 4) (.int .u32 cp.guard)).set (k * 10 + 5) (.int .i64 cp.gbits)).set (k * 10 + 6) (.int .i64 cp.root)).set (k * 10 + 7) (.int .u32 cp.va)))[k * 10 + 5]? = _
        rw [List.getElem?_set_ne (by omega), List.getElem?_set_ne (by omega), List.getElem?_set_self (by simp only [List.length_set]; omega)]
        rfl
      · show ((((((((((fl plL xs).set (k * 10) (.int .i64 cp.kind)).set (k * 10 + 1) (.int .i64 cp.num)).set (k * 10 + 2) (.int .i64 cp.rights)).set (k * 10 + 3) (.int .u32 cp.badge)).set (k * 10 + 4) (.int .u32 cp.guard)).set (k * 10 + 5) (.int .i64 cp.gbits)).set (k * 10 + 6) (.int .i64 cp.root)).set (k * 10 + 7) (.int .u32 cp.va)))[k * 10 + 6]? = _
        rw [List.getElem?_set_ne (by omega), List.getElem?_set_self (by simp only [List.length_set]; omega)]
        rfl
      · show ((((((((((fl plL xs).set (k * 10) (.int .i64 cp.kind)).set (k * 10 + 1) (.int .i64 cp.num)).set (k * 10 + 2) (.int .i64 cp.rights)).set (k * 10 + 3) (.int .u32 cp.badge)).set (k * 10 + 4) (.int .u32 cp.guard)).set (k * 10 + 5) (.int .i64 cp.gbits)).set (k * 10 + 6) (.int .i64 cp.root)).set (k * 10 + 7) (.int .u32 cp.va)))[k * 10 + 7]? = _
        rw [List.getElem?_set_self (by simp only [List.length_set]; omega)]
        rfl
      · show ((((((((((fl plL xs).set (k * 10) (.int .i64 cp.kind)).set (k * 10 + 1) (.int .i64 cp.num)).set (k * 10 + 2) (.int .i64 cp.rights)).set (k * 10 + 3) (.int .u32 cp.badge)).set (k * 10 + 4) (.int .u32 cp.guard)).set (k * 10 + 5) (.int .i64 cp.gbits)).set (k * 10 + 6) (.int .i64 cp.root)).set (k * 10 + 7) (.int .u32 cp.va)))[k * 10 + 8]? = _
        rw [List.getElem?_set_ne (by omega), List.getElem?_set_ne (by omega), List.getElem?_set_ne (by omega), List.getElem?_set_ne (by omega), List.getElem?_set_ne (by omega), List.getElem?_set_ne (by omega), List.getElem?_set_ne (by omega), List.getElem?_set_ne (by omega), hg]
        rfl
      · show ((((((((((fl plL xs).set (k * 10) (.int .i64 cp.kind)).set (k * 10 + 1) (.int .i64 cp.num)).set (k * 10 + 2) (.int .i64 cp.rights)).set (k * 10 + 3) (.int .u32 cp.badge)).set (k * 10 + 4) (.int .u32 cp.guard)).set (k * 10 + 5) (.int .i64 cp.gbits)).set (k * 10 + 6) (.int .i64 cp.root)).set (k * 10 + 7) (.int .u32 cp.va)))[k * 10 + 9]? = _
        rw [List.getElem?_set_ne (by omega), List.getElem?_set_ne (by omega), List.getElem?_set_ne (by omega), List.getElem?_set_ne (by omega), List.getElem?_set_ne (by omega), List.getElem?_set_ne (by omega), List.getElem?_set_ne (by omega), List.getElem?_set_ne (by omega), hg]
        rfl
    · have hi2 : i < k * 10 ∨ k * 10 + 10 ≤ i := hi
      rw [List.getElem?_set_ne (by omega), List.getElem?_set_ne (by omega), List.getElem?_set_ne (by omega), List.getElem?_set_ne (by omega), List.getElem?_set_ne (by omega), List.getElem?_set_ne (by omega), List.getElem?_set_ne (by omega), List.getElem?_set_ne (by omega)]
  show World.ownsRow _ _ _ _ _ (xs.set k _).length _
  rw [List.length_set, ← e]
  exact h7
set_option maxHeartbeats 2000000 in
theorem pl_from {w : World} {base g c m : Nat} {T : TypeId} {xs : List Pl} (h : OwnL plL w base T (.slice (some ⟨g, 0, none⟩) m c) xs) (hm : m = xs.length) (k : Nat) (hk : k < xs.length) (t : Sl) :
    OwnL plL ((w.setCell ⟨g, k * 10 + 8, none⟩ (.int .i64 t.1)).setCell ⟨g, k * 10 + 9, none⟩ (.int .i64 t.2)) base T (.slice (some ⟨g, 0, none⟩) m c) (xs.set k (xs[k].1, t)) ∧ Only (fun b => b = g) w ((w.setCell ⟨g, k * 10 + 8, none⟩ (.int .i64 t.1)).setCell ⟨g, k * 10 + 9, none⟩ (.int .i64 t.2)) := by
  subst hm
  have h0 := (World.ownsRow.stored h (k * 10 + 8) (.int .i64 t.1)).1
  have h1 := (World.ownsRow.stored h0 (k * 10 + 9) (.int .i64 t.2)).1
  have o0 : Only (fun b => b = g) w w := Only.refl _ w
  have o1 := Only.setCell (S := fun b => b = g) o0 (p := ⟨g, k * 10 + 8, none⟩) (Or.inl rfl) (.int .i64 t.1)
  have o2 := Only.setCell (S := fun b => b = g) o1 (p := ⟨g, k * 10 + 9, none⟩) (Or.inl rfl) (.int .i64 t.2)
  refine ⟨?_, o2⟩
  have hl : (fl plL xs).length = xs.length * 10 := length_fl plL xs
  have hkl : k * 10 + 10 ≤ xs.length * 10 := by omega
  have e : (((fl plL xs).set (k * 10 + 8) (.int .i64 t.1)).set (k * 10 + 9) (.int .i64 t.2)) = fl plL (xs.set k (xs[k].1, t)) := by
    refine fl_set plL xs k _ hk _ (by simp only [List.length_set]) (fun j hj => ?_) (fun i hi => ?_)
    · have hg0 := get_fl plL xs k j hk hj
      have hj10 : j < 10 := hj
      have hg : (fl plL xs)[k * 10 + j]? = (plC xs[k])[j]? := hg0
      clear hg0 hj h0 h1 o0 o1 o2
      have hc : j = 0 ∨ j = 1 ∨ j = 2 ∨ j = 3 ∨ j = 4 ∨ j = 5 ∨ j = 6 ∨ j = 7 ∨ j = 8 ∨ j = 9 := by omega
      rcases hc with rfl | rfl | rfl | rfl | rfl | rfl | rfl | rfl | rfl | rfl
      · show ((((fl plL xs).set (k * 10 + 8) (.int .i64 t.1)).set (k * 10 + 9) (.int .i64 t.2)))[k * 10 + 0]? = _
        rw [List.getElem?_set_ne (by omega), List.getElem?_set_ne (by omega), hg]
        rfl
      · show ((((fl plL xs).set (k * 10 + 8) (.int .i64 t.1)).set (k * 10 + 9) (.int .i64 t.2)))[k * 10 + 1]? = _
        rw [List.getElem?_set_ne (by omega), List.getElem?_set_ne (by omega), hg]
        rfl
      · show ((((fl plL xs).set (k * 10 + 8) (.int .i64 t.1)).set (k * 10 + 9) (.int .i64 t.2)))[k * 10 + 2]? = _
        rw [List.getElem?_set_ne (by omega), List.getElem?_set_ne (by omega), hg]
        rfl
      · show ((((fl plL xs).set (k * 10 + 8) (.int .i64 t.1)).set (k * 10 + 9) (.int .i64 t.2)))[k * 10 + 3]? = _
        rw [List.getElem?_set_ne (by omega), List.getElem?_set_ne (by omega), hg]
        rfl
      · show ((((fl plL xs).set (k * 10 + 8) (.int .i64 t.1)).set (k * 10 + 9) (.int .i64 t.2)))[k * 10 + 4]? = _
        rw [List.getElem?_set_ne (by omega), List.getElem?_set_ne (by omega), hg]
        rfl
      · show ((((fl plL xs).set (k * 10 + 8) (.int .i64 t.1)).set (k * 10 + 9) (.int .i64 t.2)))[k * 10 + 5]? = _
        rw [List.getElem?_set_ne (by omega), List.getElem?_set_ne (by omega), hg]
        rfl
      · show ((((fl plL xs).set (k * 10 + 8) (.int .i64 t.1)).set (k * 10 + 9) (.int .i64 t.2)))[k * 10 + 6]? = _
        rw [List.getElem?_set_ne (by omega), List.getElem?_set_ne (by omega), hg]
        rfl
      · show ((((fl plL xs).set (k * 10 + 8) (.int .i64 t.1)).set (k * 10 + 9) (.int .i64 t.2)))[k * 10 + 7]? = _
        rw [List.getElem?_set_ne (by omega), List.getElem?_set_ne (by omega), hg]
        rfl
      · show ((((fl plL xs).set (k * 10 + 8) (.int .i64 t.1)).set (k * 10 + 9) (.int .i64 t.2)))[k * 10 + 8]? = _
        rw [List.getElem?_set_ne (by omega), List.getElem?_set_self (by omega)]
        rfl
      · show ((((fl plL xs).set (k * 10 + 8) (.int .i64 t.1)).set (k * 10 + 9) (.int .i64 t.2)))[k * 10 + 9]? = _
        rw [List.getElem?_set_self (by simp only [List.length_set]; omega)]
        rfl
    · have hi2 : i < k * 10 ∨ k * 10 + 10 ≤ i := hi
      rw [List.getElem?_set_ne (by omega), List.getElem?_set_ne (by omega)]
  show World.ownsRow _ _ _ _ _ (xs.set k _).length _
  rw [List.length_set, ← e]
  exact h1
set_option maxHeartbeats 2000000 in
theorem pl_zero {w : World} {base g c m : Nat} {T : TypeId} {xs : List Pl} (h : OwnL plL w base T (.slice (some ⟨g, 0, none⟩) m c) xs) (hm : m = xs.length) (k : Nat) (hk : k < xs.length)  :
    OwnL plL ((((((((((w.setCell ⟨g, k * 10, none⟩ (.int .i64 0)).setCell ⟨g, k * 10 + 1, none⟩ (.int .i64 0)).setCell ⟨g, k * 10 + 2, none⟩ (.int .i64 0)).setCell ⟨g, k * 10 + 3, none⟩ (.int .u32 0)).setCell ⟨g, k * 10 + 4, none⟩ (.int .u32 0)).setCell ⟨g, k * 10 + 5, none⟩ (.int .i64 0)).setCell ⟨g, k * 10 + 6, none⟩ (.int .i64 0)).setCell ⟨g, k * 10 + 7, none⟩ (.int .u32 0)).setCell ⟨g, k * 10 + 8, none⟩ (.int .i64 0)).setCell ⟨g, k * 10 + 9, none⟩ (.int .i64 0)) base T (.slice (some ⟨g, 0, none⟩) m c) (xs.set k zeroPl) ∧ Only (fun b => b = g) w ((((((((((w.setCell ⟨g, k * 10, none⟩ (.int .i64 0)).setCell ⟨g, k * 10 + 1, none⟩ (.int .i64 0)).setCell ⟨g, k * 10 + 2, none⟩ (.int .i64 0)).setCell ⟨g, k * 10 + 3, none⟩ (.int .u32 0)).setCell ⟨g, k * 10 + 4, none⟩ (.int .u32 0)).setCell ⟨g, k * 10 + 5, none⟩ (.int .i64 0)).setCell ⟨g, k * 10 + 6, none⟩ (.int .i64 0)).setCell ⟨g, k * 10 + 7, none⟩ (.int .u32 0)).setCell ⟨g, k * 10 + 8, none⟩ (.int .i64 0)).setCell ⟨g, k * 10 + 9, none⟩ (.int .i64 0)) := by
  subst hm
  have h0 := (World.ownsRow.stored h (k * 10) (.int .i64 0)).1
  have h1 := (World.ownsRow.stored h0 (k * 10 + 1) (.int .i64 0)).1
  have h2 := (World.ownsRow.stored h1 (k * 10 + 2) (.int .i64 0)).1
  have h3 := (World.ownsRow.stored h2 (k * 10 + 3) (.int .u32 0)).1
  have h4 := (World.ownsRow.stored h3 (k * 10 + 4) (.int .u32 0)).1
  have h5 := (World.ownsRow.stored h4 (k * 10 + 5) (.int .i64 0)).1
  have h6 := (World.ownsRow.stored h5 (k * 10 + 6) (.int .i64 0)).1
  have h7 := (World.ownsRow.stored h6 (k * 10 + 7) (.int .u32 0)).1
  have h8 := (World.ownsRow.stored h7 (k * 10 + 8) (.int .i64 0)).1
  have h9 := (World.ownsRow.stored h8 (k * 10 + 9) (.int .i64 0)).1
  have o0 : Only (fun b => b = g) w w := Only.refl _ w
  have o1 := Only.setCell (S := fun b => b = g) o0 (p := ⟨g, k * 10, none⟩) (Or.inl rfl) (.int .i64 0)
  have o2 := Only.setCell (S := fun b => b = g) o1 (p := ⟨g, k * 10 + 1, none⟩) (Or.inl rfl) (.int .i64 0)
  have o3 := Only.setCell (S := fun b => b = g) o2 (p := ⟨g, k * 10 + 2, none⟩) (Or.inl rfl) (.int .i64 0)
  have o4 := Only.setCell (S := fun b => b = g) o3 (p := ⟨g, k * 10 + 3, none⟩) (Or.inl rfl) (.int .u32 0)
  have o5 := Only.setCell (S := fun b => b = g) o4 (p := ⟨g, k * 10 + 4, none⟩) (Or.inl rfl) (.int .u32 0)
  have o6 := Only.setCell (S := fun b => b = g) o5 (p := ⟨g, k * 10 + 5, none⟩) (Or.inl rfl) (.int .i64 0)
  have o7 := Only.setCell (S := fun b => b = g) o6 (p := ⟨g, k * 10 + 6, none⟩) (Or.inl rfl) (.int .i64 0)
  have o8 := Only.setCell (S := fun b => b = g) o7 (p := ⟨g, k * 10 + 7, none⟩) (Or.inl rfl) (.int .u32 0)
  have o9 := Only.setCell (S := fun b => b = g) o8 (p := ⟨g, k * 10 + 8, none⟩) (Or.inl rfl) (.int .i64 0)
  have o10 := Only.setCell (S := fun b => b = g) o9 (p := ⟨g, k * 10 + 9, none⟩) (Or.inl rfl) (.int .i64 0)
  refine ⟨?_, o10⟩
  have hl : (fl plL xs).length = xs.length * 10 := length_fl plL xs
  have hkl : k * 10 + 10 ≤ xs.length * 10 := by omega
  have e : (((((((((((fl plL xs).set (k * 10) (.int .i64 0)).set (k * 10 + 1) (.int .i64 0)).set (k * 10 + 2) (.int .i64 0)).set (k * 10 + 3) (.int .u32 0)).set (k * 10 + 4) (.int .u32 0)).set (k * 10 + 5) (.int .i64 0)).set (k * 10 + 6) (.int .i64 0)).set (k * 10 + 7) (.int .u32 0)).set (k * 10 + 8) (.int .i64 0)).set (k * 10 + 9) (.int .i64 0)) = fl plL (xs.set k zeroPl) := by
    refine fl_set plL xs k _ hk _ (by simp only [List.length_set]) (fun j hj => ?_) (fun i hi => ?_)
    · have hg0 := get_fl plL xs k j hk hj
      have hj10 : j < 10 := hj
      have hg : (fl plL xs)[k * 10 + j]? = (plC xs[k])[j]? := hg0
      clear hg0 hj h0 h1 h2 h3 h4 h5 h6 h7 h8 h9 o0 o1 o2 o3 o4 o5 o6 o7 o8 o9 o10
      have hc : j = 0 ∨ j = 1 ∨ j = 2 ∨ j = 3 ∨ j = 4 ∨ j = 5 ∨ j = 6 ∨ j = 7 ∨ j = 8 ∨ j = 9 := by omega
      rcases hc with rfl | rfl | rfl | rfl | rfl | rfl | rfl | rfl | rfl | rfl
      · show ((((((((((((fl plL xs).set (k * 10) (.int .i64 0)).set (k * 10 + 1) (.int .i64 0)).set (k * 10 + 2) (.int .i64 0)).set (k * 10 + 3) (.int .u32 0)).set (k * 10 + 4) (.int .u32 0)).set (k * 10 + 5) (.int .i64 0)).set (k * 10 + 6) (.int .i64 0)).set (k * 10 + 7) (.int .u32 0)).set (k * 10 + 8) (.int .i64 0)).set (k * 10 + 9) (.int .i64 0)))[k * 10]? = _
        rw [List.getElem?_set_ne (by omega), List.getElem?_set_ne (by omega), List.getElem?_set_ne (by omega), List.getElem?_set_ne (by omega), List.getElem?_set_ne (by omega), List.getElem?_set_ne (by omega), List.getElem?_set_ne (by omega), List.getElem?_set_ne (by omega), List.getElem?_set_ne (by omega), List.getElem?_set_self (by omega)]
        rfl
      · show ((((((((((((fl plL xs).set (k * 10) (.int .i64 0)).set (k * 10 + 1) (.int .i64 0)).set (k * 10 + 2) (.int .i64 0)).set (k * 10 + 3) (.int .u32 0)).set (k * 10 + 4) (.int .u32 0)).set (k * 10 + 5) (.int .i64 0)).set (k * 10 + 6) (.int .i64 0)).set (k * 10 + 7) (.int .u32 0)).set (k * 10 + 8) (.int .i64 0)).set (k * 10 + 9) (.int .i64 0)))[k * 10 + 1]? = _
        rw [List.getElem?_set_ne (by omega), List.getElem?_set_ne (by omega), List.getElem?_set_ne (by omega), List.getElem?_set_ne (by omega), List.getElem?_set_ne (by omega), List.getElem?_set_ne (by omega), List.getElem?_set_ne (by omega), List.getElem?_set_ne (by omega), List.getElem?_set_self (by simp only [List.length_set]; omega)]
        rfl
      · show ((((((((((((fl plL xs).set (k * 10) (.int .i64 0)).set (k * 10 + 1) (.int .i64 0)).set (k * 10 + 2) (.int .i64 0)).set (k * 10 + 3) (.int .u32 0)).set (k * 10 + 4) (.int .u32 0)).set (k * 10 + 5) (.int .i64 0)).set (k * 10 + 6) (.int .i64 0)).set (k * 10 + 7) (.int .u32 0)).set (k * 10 + 8) (.int .i64 0)).set (k * 10 + 9) (.int .i64 0)))[k * 10 + 2]? = _
        rw [List.getElem?_set_ne (by omega), List.getElem?_set_ne (by omega), List.getElem?_set_ne (by omega), List.getElem?_set_ne (by omega), List.getElem?_set_ne (by omega), List.getElem?_set_ne (by omega), List.getElem?_set_ne (by omega), List.getElem?_set_self (by simp only [List.length_set]; omega)]
        rfl
      · show ((((((((((((fl plL xs).set (k * 10) (.int .i64 0)).set (k * 10 + 1) (.int .i64 0)).set (k * 10 + 2) (.int .i64 0)).set (k * 10 + 3) (.int .u32 0)).set (k * 10 + 4) (.int .u32 0)).set (k * 10 + 5) (.int .i64 0)).set (k * 10 + 6) (.int .i64 0)).set (k * 10 + 7) (.int .u32 0)).set (k * 10 + 8) (.int .i64 0)).set (k * 10 + 9) (.int .i64 0)))[k * 10 + 3]? = _
        rw [List.getElem?_set_ne (by omega), List.getElem?_set_ne (by omega), List.getElem?_set_ne (by omega), List.getElem?_set_ne (by omega), List.getElem?_set_ne (by omega), List.getElem?_set_ne (by omega), List.getElem?_set_self (by simp only [List.length_set]; omega)]
        rfl
      · show ((((((((((((fl plL xs).set (k * 10) (.int .i64 0)).set (k * 10 + 1) (.int .i64 0)).set (k * 10 + 2) (.int .i64 0)).set (k * 10 + 3) (.int .u32 0)).set (k * 10 + 4) (.int .u32 0)).set (k * 10 + 5) (.int .i64 0)).set (k * 10 + 6) (.int .i64 0)).set (k * 10 + 7) (.int .u32 0)).set (k * 10 + 8) (.int .i64 0)).set (k * 10 + 9) (.int .i64 0)))[k * 10 + 4]? = _
        rw [List.getElem?_set_ne (by omega), List.getElem?_set_ne (by omega), List.getElem?_set_ne (by omega), List.getElem?_set_ne (by omega), List.getElem?_set_ne (by omega), List.getElem?_set_self (by simp only [List.length_set]; omega)]
        rfl
      · show ((((((((((((fl plL xs).set (k * 10) (.int .i64 0)).set (k * 10 + 1) (.int .i64 0)).set (k * 10 + 2) (.int .i64 0)).set (k * 10 + 3) (.int .u32 0)).set (k * 10 + 4) (.int .u32 0)).set (k * 10 + 5) (.int .i64 0)).set (k * 10 + 6) (.int .i64 0)).set (k * 10 + 7) (.int .u32 0)).set (k * 10 + 8) (.int .i64 0)).set (k * 10 + 9) (.int .i64 0)))[k * 10 + 5]? = _
        rw [List.getElem?_set_ne (by omega), List.getElem?_set_ne (by omega), List.getElem?_set_ne (by omega), List.getElem?_set_ne (by omega), List.getElem?_set_self (by simp only [List.length_set]; omega)]
        rfl
      · show ((((((((((((fl plL xs).set (k * 10) (.int .i64 0)).set (k * 10 + 1) (.int .i64 0)).set (k * 10 + 2) (.int .i64 0)).set (k * 10 + 3) (.int .u32 0)).set (k * 10 + 4) (.int .u32 0)).set (k * 10 + 5) (.int .i64 0)).set (k * 10 + 6) (.int .i64 0)).set (k * 10 + 7) (.int .u32 0)).set (k * 10 + 8) (.int .i64 0)).set (k * 10 + 9) (.int .i64 0)))[k * 10 + 6]? = _
        rw [List.getElem?_set_ne (by omega), List.getElem?_set_ne (by omega), List.getElem?_set_ne (by omega), List.getElem?_set_self (by simp only [List.length_set]; omega)]
        rfl
      · show ((((((((((((fl plL xs).set (k * 10) (.int .i64 0)).set (k * 10 + 1) (.int .i64 0)).set (k * 10 + 2) (.int .i64 0)).set (k * 10 + 3) (.int .u32 0)).set (k * 10 + 4) (.int .u32 0)).set (k * 10 + 5) (.int .i64 0)).set (k * 10 + 6) (.int .i64 0)).set (k * 10 + 7) (.int .u32 0)).set (k * 10 + 8) (.int .i64 0)).set (k * 10 + 9) (.int .i64 0)))[k * 10 + 7]? = _
        rw [List.getElem?_set_ne (by omega), List.getElem?_set_ne (by omega), List.getElem?_set_self (by simp only [List.length_set]; omega)]
        rfl
      · show ((((((((((((fl plL xs).set (k * 10) (.int .i64 0)).set (k * 10 + 1) (.int .i64 0)).set (k * 10 + 2) (.int .i64 0)).set (k * 10 + 3) (.int .u32 0)).set (k * 10 + 4) (.int .u32 0)).set (k * 10 + 5) (.int .i64 0)).set (k * 10 + 6) (.int .i64 0)).set (k * 10 + 7) (.int .u32 0)).set (k * 10 + 8) (.int .i64 0)).set (k * 10 + 9) (.int .i64 0)))[k * 10 + 8]? = _
        rw [List.getElem?_set_ne (by omega), List.getElem?_set_self (by simp only [List.length_set]; omega)]
        rfl
      · show ((((((((((((fl plL xs).set (k * 10) (.int .i64 0)).set (k * 10 + 1) (.int .i64 0)).set (k * 10 + 2) (.int .i64 0)).set (k * 10 + 3) (.int .u32 0)).set (k * 10 + 4) (.int .u32 0)).set (k * 10 + 5) (.int .i64 0)).set (k * 10 + 6) (.int .i64 0)).set (k * 10 + 7) (.int .u32 0)).set (k * 10 + 8) (.int .i64 0)).set (k * 10 + 9) (.int .i64 0)))[k * 10 + 9]? = _
        rw [List.getElem?_set_self (by simp only [List.length_set]; omega)]
        rfl
    · have hi2 : i < k * 10 ∨ k * 10 + 10 ≤ i := hi
      rw [List.getElem?_set_ne (by omega), List.getElem?_set_ne (by omega), List.getElem?_set_ne (by omega), List.getElem?_set_ne (by omega), List.getElem?_set_ne (by omega), List.getElem?_set_ne (by omega), List.getElem?_set_ne (by omega), List.getElem?_set_ne (by omega), List.getElem?_set_ne (by omega), List.getElem?_set_ne (by omega)]
  show World.ownsRow _ _ _ _ _ (xs.set k _).length _
  rw [List.length_set, ← e]
  exact h9
end Go.Proofs.YtbmchgjilkoplaaDoor

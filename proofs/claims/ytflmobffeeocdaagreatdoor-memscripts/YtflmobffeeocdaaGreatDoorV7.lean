/- Walks of the scripts: begin. -/
import Derived.Test.YtflmobffeeocdaaGreatDoorV5
import Derived.Test.YtflmobffeeocdaaGreatDoorV6
namespace Go.Proofs.YtflmobffeeocdaaGreatDoor
open Go.ChangeShapes Go.WideShapes Go.ChangeAt Go.RowKit
open Go.Vx

/-- The store's block. -/
def SbAt (w : World) (sb : Nat) : Prop := ∃ cs : Array Value, w.heap[sb]? = some (.cells cs 44 (0, 0)) ∧ cs.size = 74 ∧ ∀ j, 68 ≤ j → j < 74 → cs[j]? = some (.slice none 0 0)
theorem SbAt.only {S : Nat → Prop} {w w' : World} {sb : Nat} (h : SbAt w sb) (ho : Only S w w') (hS : ¬ S sb) : SbAt w' sb := by
  obtain ⟨cs, h1, h2, h3⟩ := h
  exact ⟨cs, by rw [ho.block sb (lt_of_some h1) hS]; exact h1, h2, h3⟩
theorem SbAt.bk {w : World} {sb : Nat} (h : SbAt w sb) : BkAt w sb := by
  obtain ⟨cs, h1, h2, h3⟩ := h
  have e : ∀ j, w.cell? ⟨sb, j, none⟩ = cs[j]? := fun j => cell_of_row _ _ j _ _ (0, 0) h1
  exact ⟨by rw [e]; exact h3 _ (by decide) (by decide), by rw [e]; exact h3 _ (by decide) (by decide), by rw [e]; exact h3 _ (by decide) (by decide), by rw [e]; exact h3 _ (by decide) (by decide), by rw [e]; exact h3 _ (by decide) (by decide), by rw [e]; exact h3 _ (by decide) (by decide)⟩
theorem SbAt.lt {w : World} {sb : Nat} (h : SbAt w sb) : sb < w.heap.size := by
  obtain ⟨cs, h1, _⟩ := h
  exact lt_of_some h1
theorem SbAt.some {w : World} {sb : Nat} (h : SbAt w sb) (j : Nat) (hj : j < 74) : (∃ v, w.cell? ⟨sb, j, none⟩ = some v) ∧ w.frozen? ⟨sb, j, none⟩ = false := by
  obtain ⟨cs, h1, h2, _⟩ := h
  refine ⟨⟨cs[j], ?_⟩, by simp [World.frozen?, h1]⟩
  rw [cell_of_row _ _ j _ _ (0, 0) h1]
  exact Array.getElem?_eq_getElem (by omega)
theorem SbAt.set {w : World} {sb : Nat} (h : SbAt w sb) (j : Nat) (hj : j < 68) (v : Value) : SbAt (w.setCell ⟨sb, j, none⟩ v) sb := by
  obtain ⟨cs, h1, h2, h3⟩ := h
  refine ⟨cs.setIfInBounds j v, heap_setCell_same _ _ _ _ _ _ h1, by simp [h2], fun i hi hi2 => ?_⟩
  rw [Array.getElem?_setIfInBounds, if_neg (by omega)]
  exact h3 i hi hi2
theorem begin_no {w : World} {sb : Nat} (n : Int) (hn : n < 1 ∨ 256 < n) :
    Calls Tryz.prog 8 #[.pointer (some ⟨sb, 0, none⟩), .int .i64 n] w fun e w' => e = .returned (.bool true) ∧ w' = w := by
  have H1 := Vx.hid (new_no n hn w)
  have H2 := Vx.hid (newRef_no n hn w)
  clear hn
  go_enter Tryz.func8, Tryz.ntmps8
  go_wp2_with fail
  refine H1.out.mono ?_
  rintro e w' ⟨rfl, h⟩
  have h2 := h.symm; clear h; subst h2
  go_wp2_with fail
  refine H2.out.mono ?_
  rintro e w' ⟨rfl, h⟩
  have h2 := h.symm; clear h; subst h2
  go_wp2_with fail
  all_goals
    go_ret
    exact ⟨rfl, rfl⟩
/-- What begin leaves. -/
def BgR (U : Nat → Prop) (w : World) (sb n : Nat) (w' : World) : Prop := ∃ bm br bb, w.heap.size ≤ bb ∧ w.heap.size ≤ br ∧ StAt (fun k => (U k ∨ k = bb) ∨ k = br) w' sb bm br bb n (fun _ => 0) (fun _ => 0) ∧ SbAt w' sb ∧ Only (fun k => k = sb) w w'
theorem only_cell (w : World) (p : Addr) (v : Value) : Only (fun k => k = p.block) w (w.setCell p v) := Only.setCell (S := fun k => k = p.block) (Only.refl _ w) (Or.inl rfl) v
theorem begin_end {U : Nat → Prop} {w w1 : World} {o1 o2 : Obj} {sb bm n : Nat} (hsb : SbAt w sb) (hus : U sb) (ho1 : Only (fun _ => False) w w1) (hm : MemAt U w1 bm n (fun _ => 0)) (hr : RefAt ((w1.alloc o1).alloc o2) (w1.heap.size + 1) w1.heap.size n (fun _ => 0)) :
    BgR U w sb n ((((w1.alloc o1).alloc o2).setCell ⟨sb, 0, none⟩ (.pointer (some ⟨bm, 0, none⟩))).setCell ⟨sb, 1, none⟩ (.pointer (some ⟨w1.heap.size + 1, 0, none⟩))) := by
  have hl := hsb.lt
  have hs1 := ho1.size
  have ho2 : Only (fun _ => False) w ((w1.alloc o1).alloc o2) := (ho1.alloc o1).alloc o2
  have hsb2 : SbAt ((w1.alloc o1).alloc o2) sb := hsb.only ho2 (fun h => h)
  have hm2 : MemAt (fun k => (U k ∨ k = w1.heap.size) ∨ k = w1.heap.size + 1) ((w1.alloc o1).alloc o2) bm n (fun _ => 0) := by
    have := (hm.beside o1).beside o2
    simpa using this
  generalize hw2 : (w1.alloc o1).alloc o2 = w2 at *
  have hsz : w1.heap.size + 2 = w2.heap.size := by rw [← hw2]; simp
  have o3 : Only (fun k => k = sb) w2 (w2.setCell ⟨sb, 0, none⟩ (.pointer (some ⟨bm, 0, none⟩))) := only_cell w2 ⟨sb, 0, none⟩ _
  have o4 : Only (fun k => k = sb) (w2.setCell ⟨sb, 0, none⟩ (.pointer (some ⟨bm, 0, none⟩))) ((w2.setCell ⟨sb, 0, none⟩ (.pointer (some ⟨bm, 0, none⟩))).setCell ⟨sb, 1, none⟩ (.pointer (some ⟨w1.heap.size + 1, 0, none⟩))) := only_cell _ ⟨sb, 1, none⟩ _
  have o5 := o3.trans o4
  have hsb3 := hsb2.set 0 (by decide) (.pointer (some ⟨bm, 0, none⟩))
  have hsb4 := hsb3.set 1 (by decide) (.pointer (some ⟨w1.heap.size + 1, 0, none⟩))
  obtain ⟨⟨v0, c0⟩, _⟩ := hsb2.some 0 (by decide)
  obtain ⟨⟨v1, c1⟩, _⟩ := hsb3.some 1 (by decide)
  refine ⟨bm, w1.heap.size + 1, w1.heap.size, hs1, by omega, ⟨?_, ?_, hsb4.lt, ?_, ?_, Or.inl (Or.inl hus), Or.inr rfl, Or.inl (Or.inr rfl), by omega⟩, hsb4, (ho2.mono (fun _ _ h => h.elim)).trans o5⟩
  · rw [World.cell?_setCell_other _ _ _ _ (by intro e; injection e with _ e2; omega)]
    exact World.cell?_setCell_same _ _ _ c0
  · exact World.cell?_setCell_same _ _ _ c1
  · exact hm2.only o5 (fun k hk _ => by rw [hk]; exact Or.inl (Or.inl hus))
  · exact hr.only o5 (by omega) (by omega)
theorem begin_ok {U : Nat → Prop} {w : World} {sb : Nat} (hsb : SbAt w sb) (hus : U sb) (hU : ∀ k, U k → k < w.heap.size) (n : Nat) (h1 : 1 ≤ n) (h2 : n ≤ 256) :
    Calls Tryz.prog 8 #[.pointer (some ⟨sb, 0, none⟩), .int .i64 (n : Int)] w fun e w' => e = .returned (.bool true) ∧ BgR U w sb n w' := by
  have HSB := Vx.hid hsb
  have HUS := Vx.hid hus
  have HU := Vx.hid hU
  have H1 := Vx.hid (new_ok n h1 h2 w)
  have H2 := Vx.hid (fun wv => newRef_ok n h1 h2 wv)
  clear hsb hus hU h1 h2
  go_enter Tryz.func8, Tryz.ntmps8
  go_wp2_with fail
  refine H1.out.mono ?_
  rintro e w1 ⟨bm, rfl, _, _, ho1, hm1⟩
  have HM1 := Vx.hid (hm1 U HU.out)
  have HO1 := Vx.hid ho1
  clear hm1 ho1
  go_wp2_with fail
  refine (H2.out w1).mono ?_
  rintro e w2 ⟨rfl, hr, o1, o2, hw2⟩
  have HR := Vx.hid hr
  have HW2 := Vx.hid hw2
  have HPG : Hid (Calls Tryz.prog 19 #[.pointer (some ⟨bm, 0, none⟩)] w2 fun e w' => e = .returned (.int .i64 (n : Int)) ∧ w' = w2) := by
    refine pages_any (HM1.out.only (S := fun _ => False) ?_ (fun _ h _ => h.elim))
    rw [hw2]; exact ((Only.refl _ w1).alloc o1).alloc o2
  have hsb2 : SbAt w2 sb := HSB.out.only (S := fun _ => False) (by rw [hw2]; exact (HO1.out.alloc o1).alloc o2) (fun h => h)
  obtain ⟨⟨v0, c0⟩, f0⟩ := hsb2.some 0 (by decide)
  obtain ⟨⟨v1, c1⟩, f1⟩ := (hsb2.set 0 (by decide) (.pointer (some ⟨bm, 0, none⟩))).some 1 (by decide)
  have HFIN : Hid (BgR U w sb n ((w2.setCell ⟨sb, 0, none⟩ (.pointer (some ⟨bm, 0, none⟩))).setCell ⟨sb, 1, none⟩ (.pointer (some ⟨w1.heap.size + 1, 0, none⟩)))) := by
    have h5 := HR.out
    rw [hw2] at h5
    have := begin_end HSB.out HUS.out HO1.out HM1.out h5
    rw [← hw2] at this
    exact this
  clear hr hw2 HW2 HR hsb2 HM1 HO1 HU
  generalize w1.heap.size + 1 = br at *
  go_wp2_with fail
  refine HPG.out.mono ?_
  rintro e w' ⟨rfl, h⟩
  have h2 := h.symm; clear h; subst h2
  go_wp2_with fail
  all_goals
    go_ret
    exact ⟨by simp, HFIN.out⟩
end Go.Proofs.YtflmobffeeocdaaGreatDoor

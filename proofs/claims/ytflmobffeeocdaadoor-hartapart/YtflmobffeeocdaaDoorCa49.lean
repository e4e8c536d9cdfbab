import Derived.Test.YtflmobffeeocdaaDoorCa48
import Derived.Test.YtflmobffeeocdaaDoorCa46
/- HartApart: what stands between its statements. -/
namespace Go.Proofs.YtflmobffeeocdaaDoor
open Go.ChangeShapes Go.WideShapes Go.ChangeAt Go.RowKit
open Go.Vx
set_option linter.unusedVariables false

/-- A row of twelve truths. -/
def boL (g : Nat → Bool) : List Value := (List.range 12).map fun i => .bool (g i)
theorem length_boL (g : Nat → Bool) : (boL g).length = 12 := by simp [boL]
theorem get_boL (g : Nat → Bool) (j : Nat) (h : j < 12) : (boL g)[j]? = some (.bool (g j)) := by simp [boL, h]
structure BoAt (w : World) (b : Nat) (g : Nat → Bool) : Prop where
  b : w.heap[b]? = some (.cells (boL g).toArray 33 (0, 0))
theorem BoAt.only {S : Nat → Prop} {w w' : World} {b : Nat} {g : Nat → Bool} (h : BoAt w b g) (ho : Only S w w') (hS : ¬ S b) : BoAt w' b g := ⟨by rw [ho.block b (lt_of_some h.b) hS]; exact h.b⟩
theorem BoAt.cell {w : World} {b : Nat} {g : Nat → Bool} (h : BoAt w b g) (i : Nat) (hi : i < 12) : w.cell? ⟨b, i, none⟩ = some (.bool (g i)) := by
  rw [cell_of_row _ _ i _ _ (0, 0) h.b, List.getElem?_toArray]
  exact get_boL g i hi
theorem BoAt.fz {w : World} {b : Nat} {g : Nat → Bool} (h : BoAt w b g) (j : Nat) : w.frozen? ⟨b, j, none⟩ = false := by
  have h1 := h.b
  simp [World.frozen?, h1]
theorem BoAt.set {w : World} {b : Nat} {g : Nat → Bool} (h : BoAt w b g) (i : Nat) (hi : i < 12) (x : Bool) {g' : Nat → Bool} (hg : ∀ p, p < 12 → g' p = if p = i then x else g p) : BoAt (w.setCell ⟨b, i, none⟩ (.bool x)) b g' := by
  have hb := heap_setCell_same _ _ i _ _ (.bool x) h.b
  refine ⟨hb.trans ?_⟩
  congr 2
  refine Array.ext_getElem? (fun j => ?_)
  rw [Array.getElem?_setIfInBounds]
  by_cases hj : j < 12
  · rw [List.getElem?_toArray, List.getElem?_toArray, get_boL _ _ hj, get_boL _ _ hj, hg j hj]
    by_cases e : i = j
    · rw [if_pos e, if_pos (by rw [List.size_toArray, length_boL]; exact hi), if_pos e.symm]
    · rw [if_neg e, if_neg (fun h => e h.symm)]
  · rw [if_neg (by omega), List.getElem?_toArray, List.getElem?_toArray, List.getElem?_eq_none (by rw [length_boL]; omega), List.getElem?_eq_none (by rw [length_boL]; omega)]
/-- A context of its own. -/
structure KxAt (w : World) (cb : Nat) (R : Nat → Nat) (pc : Nat) : Prop where
  b : w.heap[cb]? = some (.cells (ctxL R pc).toArray 26 (0, 0))
theorem KxAt.only {S : Nat → Prop} {w w' : World} {cb : Nat} {R : Nat → Nat} {pc : Nat} (h : KxAt w cb R pc) (ho : Only S w w') (hS : ¬ S cb) : KxAt w' cb R pc := ⟨by rw [ho.block cb (lt_of_some h.b) hS]; exact h.b⟩
theorem KxAt.cx {w : World} {cb : Nat} {R : Nat → Nat} {pc : Nat} (h : KxAt w cb R pc) : CxAt w cb 0 26 (ctxL R pc).toArray R pc := CxAt.made h.b
theorem KxAt.of {w : World} {cb : Nat} {cs : Array Value} {R R0 : Nat → Nat} {pc p0 : Nat} (h : CxAt w cb 0 26 cs R pc) (hb : Beside (ctxL R0 p0).toArray cs 0) : KxAt w cb R pc := by
  have hs : cs.size = 33 := by rw [hb.1, List.size_toArray, length_ctxL]
  have e : cs = (ctxL R pc).toArray := by
    refine Array.ext_getElem? (fun j => ?_)
    rw [show (ctxL R pc).toArray[j]? = (ctxL R pc)[j]? from List.getElem?_toArray]
    by_cases h1 : j < 32
    · rw [ctxL_r _ _ _ h1]
      have := h.r j h1
      rw [Nat.zero_add] at this
      exact this
    · by_cases h2 : j = 32
      · subst h2; rw [ctxL_p]; exact h.p
      · rw [List.getElem?_eq_none (by rw [length_ctxL]; omega), Array.getElem?_eq_none (by omega)]
  exact ⟨by rw [← e]; exact h.b⟩
theorem ctxL_cells (R : Nat → Nat) (pc : Nat) : (ctxL R pc).toArray = #[.int .u32 (R 0 : Nat), .int .u32 (R 1 : Nat), .int .u32 (R 2 : Nat), .int .u32 (R 3 : Nat), .int .u32 (R 4 : Nat), .int .u32 (R 5 : Nat), .int .u32 (R 6 : Nat), .int .u32 (R 7 : Nat), .int .u32 (R 8 : Nat), .int .u32 (R 9 : Nat), .int .u32 (R 10 : Nat), .int .u32 (R 11 : Nat), .int .u32 (R 12 : Nat), .int .u32 (R 13 : Nat), .int .u32 (R 14 : Nat), .int .u32 (R 15 : Nat), .int .u32 (R 16 : Nat), .int .u32 (R 17 : Nat), .int .u32 (R 18 : Nat), .int .u32 (R 19 : Nat), .int .u32 (R 20 : Nat), .int .u32 (R 21 : Nat), .int .u32 (R 22 : Nat), .int .u32 (R 23 : Nat), .int .u32 (R 24 : Nat), .int .u32 (R 25 : Nat), .int .u32 (R 26 : Nat), .int .u32 (R 27 : Nat), .int .u32 (R 28 : Nat), .int .u32 (R 29 : Nat), .int .u32 (R 30 : Nat), .int .u32 (R 31 : Nat), .int .u32 (pc : Int)] := rfl
theorem KxAt.cellR {w : World} {cb : Nat} {R : Nat → Nat} {pc : Nat} (h : KxAt w cb R pc) (i : Nat) (hi : i < 32) : w.cell? ⟨cb, i, none⟩ = some (.int .u32 (R i : Nat)) := by
  rw [cell_of_row _ _ i _ _ (0, 0) h.b]; simpa using ctxL_r R pc i hi
theorem KxAt.cellP {w : World} {cb : Nat} {R : Nat → Nat} {pc : Nat} (h : KxAt w cb R pc) : w.cell? ⟨cb, 32, none⟩ = some (.int .u32 (pc : Int)) := by
  rw [cell_of_row _ _ 32 _ _ (0, 0) h.b]; simpa using ctxL_p R pc
theorem KxAt.load {w : World} {cb : Nat} {R : Nat → Nat} {pc : Nat} (h : KxAt w cb R pc) : (loadCellsFrom ⟨cb, 0, none⟩ 0 33 #[]).run Tryd.prog w = .ok (ctxL R pc).toArray w := by
  have := run_loadCells_list (P := Tryd.prog) w ⟨cb, 0, none⟩ (ctxL R pc) (fun j v hv => by
    have hadd : (⟨cb, 0, none⟩ : Addr).add j = ⟨cb, j, none⟩ := by unfold Addr.add; split <;> simp_all
    rw [hadd, cell_of_row _ _ j _ _ (0, 0) h.b]
    simpa using hv)
  rw [length_ctxL] at this
  simpa [loadCells] using this
/-- What stands between the statements. -/
structure ApR (W : World) (V : Nat → Prop) (b1 b2 hb sn op cb : Nat) (H : Nat → Nat × Nat) (g1 g2 : Nat → Bool) (f1 f2 : Nat → UInt8) (R : Nat → Nat) (pc : Nat) (wr : World) : Prop where
  two : Two V wr b1 b2 12 f1 f2
  h : HvAt wr hb H
  s : BoAt wr sn g1
  o : BoAt wr op g2
  c : KxAt wr cb R pc
  vs : V hb ∧ V sn ∧ V op ∧ V cb
  ne : hb ≠ sn ∧ hb ≠ op ∧ hb ≠ cb ∧ sn ≠ op ∧ sn ≠ cb ∧ op ≠ cb
  wv : ∀ k, k < W.heap.size → V k
  be : Below W.heap.size W wr
  ge : W.heap.size ≤ hb ∧ W.heap.size ≤ sn ∧ W.heap.size ≤ op ∧ W.heap.size ≤ cb
theorem ApR.only {W : World} {V : Nat → Prop} {b1 b2 hb sn op cb : Nat} {H : Nat → Nat × Nat} {g1 g2 : Nat → Bool} {f1 f2 : Nat → UInt8} {R : Nat → Nat} {pc : Nat} {wr wx : World} (h : ApR W V b1 b2 hb sn op cb H g1 g2 f1 f2 R pc wr) (ho : Only (fun _ => False) wr wx) : ApR W V b1 b2 hb sn op cb H g1 g2 f1 f2 R pc wx := by
  exact ⟨h.two.only ho (fun _ _ h => h.elim), h.h.only ho (fun h => h), h.s.only ho (fun h => h), h.o.only ho (fun h => h), h.c.only ho (fun h => h), h.vs, h.ne, h.wv, h.be.trans (ho.below h.be.size (fun _ _ h => h)), h.ge⟩
theorem ApR.setS {W : World} {V : Nat → Prop} {b1 b2 hb sn op cb : Nat} {H : Nat → Nat × Nat} {g1 g2 : Nat → Bool} {f1 f2 : Nat → UInt8} {R : Nat → Nat} {pc : Nat} {wr : World} (h : ApR W V b1 b2 hb sn op cb H g1 g2 f1 f2 R pc wr) (i : Nat) (hi : i < 12) (x : Bool) {g' : Nat → Bool} (hg : ∀ p, p < 12 → g' p = if p = i then x else g1 p) : ApR W V b1 b2 hb sn op cb H g' g2 f1 f2 R pc (wr.setCell ⟨sn, i, none⟩ (.bool x)) := by
  have ho : Only (fun k => k = sn) wr (wr.setCell ⟨sn, i, none⟩ (.bool x)) := Only.setCell (S := fun k => k = sn) (Only.refl _ wr) (Or.inl rfl) _
  obtain ⟨n1, n2, n3, n4, n5, n6⟩ := h.ne
  exact ⟨h.two.only ho (fun k _ e => by rw [e]; exact h.vs.2.1), h.h.only ho n1, h.s.set i hi x hg, h.o.only ho (fun e => n4 e.symm), h.c.only ho (fun e => n5 e.symm), h.vs, h.ne, h.wv, h.be.trans (ho.below h.be.size (fun k hk e => by have := h.ge.2.1; omega)), h.ge⟩
theorem ApR.setO {W : World} {V : Nat → Prop} {b1 b2 hb sn op cb : Nat} {H : Nat → Nat × Nat} {g1 g2 : Nat → Bool} {f1 f2 : Nat → UInt8} {R : Nat → Nat} {pc : Nat} {wr : World} (h : ApR W V b1 b2 hb sn op cb H g1 g2 f1 f2 R pc wr) (i : Nat) (hi : i < 12) (x : Bool) {g' : Nat → Bool} (hg : ∀ p, p < 12 → g' p = if p = i then x else g2 p) : ApR W V b1 b2 hb sn op cb H g1 g' f1 f2 R pc (wr.setCell ⟨op, i, none⟩ (.bool x)) := by
  have ho : Only (fun k => k = op) wr (wr.setCell ⟨op, i, none⟩ (.bool x)) := Only.setCell (S := fun k => k = op) (Only.refl _ wr) (Or.inl rfl) _
  obtain ⟨n1, n2, n3, n4, n5, n6⟩ := h.ne
  exact ⟨h.two.only ho (fun k _ e => by rw [e]; exact h.vs.2.2.1), h.h.only ho n2, h.s.only ho n4, h.o.set i hi x hg, h.c.only ho (fun e => n6 e.symm), h.vs, h.ne, h.wv, h.be.trans (ho.below h.be.size (fun k hk e => by have := h.ge.2.2.1; omega)), h.ge⟩
/-- A call that changes the first memory. -/
theorem ApR.fst {W : World} {V : Nat → Prop} {b1 b2 hb sn op cb : Nat} {H : Nat → Nat × Nat} {g1 g2 : Nat → Bool} {f1 f2 : Nat → UInt8} {R : Nat → Nat} {pc : Nat} {wr wx : World} (h : ApR W V b1 b2 hb sn op cb H g1 g2 f1 f2 R pc wr) {f1' f2' : Nat → UInt8} (ht : Two V wx b1 b2 12 f1' f2') (ho : Only (fun k => ¬ V k) wr wx) : ApR W V b1 b2 hb sn op cb H g1 g2 f1' f2' R pc wx := by
  exact ⟨ht, h.h.only ho (fun e => e h.vs.1), h.s.only ho (fun e => e h.vs.2.1), h.o.only ho (fun e => e h.vs.2.2.1), h.c.only ho (fun e => e h.vs.2.2.2), h.vs, h.ne, h.wv, h.be.trans (ho.below h.be.size (fun k hk e => e (h.wv k hk))), h.ge⟩
end Go.Proofs.YtflmobffeeocdaaDoor

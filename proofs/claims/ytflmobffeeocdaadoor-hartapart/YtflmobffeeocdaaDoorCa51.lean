import Derived.Test.YtflmobffeeocdaaDoorCa50
/- HartApart: the steps of both. -/
namespace Go.Proofs.YtflmobffeeocdaaDoor
open Go.ChangeShapes Go.WideShapes Go.ChangeAt Go.RowKit
open Go.Vx
set_option linter.unusedVariables false

/-- What stands between the steps: the memories, what is open, both contexts. -/
structure ApS (W : World) (V : Nat → Prop) (b1 b2 op cb db : Nat) (g : Nat → Bool) (f1 f2 : Nat → UInt8) (R1 : Nat → Nat) (p1 : Nat) (R2 : Nat → Nat) (p2 : Nat) (wr : World) : Prop where
  two : Two V wr b1 b2 12 f1 f2
  o : BoAt wr op g
  c : KxAt wr cb R1 p1
  d : KxAt wr db R2 p2
  vs : V op ∧ V cb ∧ V db
  ne : op ≠ cb ∧ op ≠ db ∧ cb ≠ db
  wv : ∀ k, k < W.heap.size → V k
  be : Below W.heap.size W wr
  ge : W.heap.size ≤ op ∧ W.heap.size ≤ cb ∧ W.heap.size ≤ db
theorem ApS.only {W : World} {V : Nat → Prop} {b1 b2 op cb db : Nat} {g : Nat → Bool} {f1 f2 : Nat → UInt8} {R1 : Nat → Nat} {p1 : Nat} {R2 : Nat → Nat} {p2 : Nat} {wr wx : World} (h : ApS W V b1 b2 op cb db g f1 f2 R1 p1 R2 p2 wr) (ho : Only (fun _ => False) wr wx) : ApS W V b1 b2 op cb db g f1 f2 R1 p1 R2 p2 wx :=
  ⟨h.two.only ho (fun _ _ h => h.elim), h.o.only ho (fun h => h), h.c.only ho (fun h => h), h.d.only ho (fun h => h), h.vs, h.ne, h.wv, h.be.trans (ho.below h.be.size (fun _ _ h => h)), h.ge⟩
/-- A block more that is neither's. -/
theorem ApS.more {W : World} {V : Nat → Prop} {b1 b2 op cb db : Nat} {g : Nat → Bool} {f1 f2 : Nat → UInt8} {R1 : Nat → Nat} {p1 : Nat} {R2 : Nat → Nat} {p2 : Nat} {wr : World} (h : ApS W V b1 b2 op cb db g f1 f2 R1 p1 R2 p2 wr) (o : Obj) : ∃ V' : Nat → Prop, V' wr.heap.size ∧ db ≠ wr.heap.size ∧ ApS W V' b1 b2 op cb db g f1 f2 R1 p1 R2 p2 (wr.alloc o) := by
  have ho : Only (fun _ => False) wr (wr.alloc o) := (Only.refl _ wr).alloc _
  have hz : (wr.alloc o).heap.size = wr.heap.size + 1 := by simp
  have l1 := lt_of_some h.d.b
  exact ⟨_, Or.inr ⟨Nat.le_refl _, by omega⟩, by omega, h.two.wide ho (fun _ _ h => h.elim), h.o.only ho (fun h => h), h.c.only ho (fun h => h), h.d.only ho (fun h => h), ⟨Or.inl h.vs.1, Or.inl h.vs.2.1, Or.inl h.vs.2.2⟩, h.ne, fun k hk => Or.inl (h.wv k hk), h.be.trans (ho.below h.be.size (fun _ _ h => h)), h.ge⟩
/-- The copy of the context. -/
theorem ApR.copy {W : World} {V : Nat → Prop} {b1 b2 hb sn op cb : Nat} {H : Nat → Nat × Nat} {g1 g2 : Nat → Bool} {f1 f2 : Nat → UInt8} {R : Nat → Nat} {pc : Nat} {wr wx : World} (h : ApR W V b1 b2 hb sn op cb H g1 g2 f1 f2 R pc wr) (hx : wx = wr.alloc (.cells (ctxL R pc).toArray 26)) :
    ∃ V', ApS W V' b1 b2 op cb wr.heap.size g2 f1 f2 R pc R pc wx := by
  have ho : Only (fun _ => False) wr wx := by rw [hx]; exact (Only.refl _ wr).alloc _
  have hz : wx.heap.size = wr.heap.size + 1 := by rw [hx]; simp
  have hd : wx.heap[wr.heap.size]? = some (.cells (ctxL R pc).toArray 26 (0, 0)) := by rw [hx]; exact heap_alloc_last _ _
  have l1 := lt_of_some h.o.b
  have l2 := lt_of_some h.c.b
  obtain ⟨n1, n2, n3, n4, n5, n6⟩ := h.ne
  exact ⟨_, h.two.wide ho (fun _ _ h => h.elim), h.o.only ho (fun h => h), h.c.only ho (fun h => h), ⟨hd⟩, ⟨Or.inl h.vs.2.2.1, Or.inl h.vs.2.2.2, Or.inr ⟨Nat.le_refl _, by omega⟩⟩, ⟨n6, by omega, by omega⟩, fun k hk => Or.inl (h.wv k hk), h.be.trans (ho.below h.be.size (fun _ _ h => h)), ⟨h.ge.2.2.1, h.ge.2.2.2, h.be.size⟩⟩
theorem ApS.glob {W : World} {V : Nat → Prop} {b1 b2 op cb db : Nat} {g : Nat → Bool} {f1 f2 : Nat → UInt8} {R1 : Nat → Nat} {p1 : Nat} {R2 : Nat → Nat} {p2 : Nat} {wr : World} (h : ApS W V b1 b2 op cb db g f1 f2 R1 p1 R2 p2 wr) (hg : UsesAt W ∧ MisAt W ∧ FormsAt W) : UsesAt wr ∧ MisAt wr ∧ FormsAt wr := by
  have ho : Only (fun _ => False) W wr := Only.of_below h.be (fun k hk hB => by omega)
  exact ⟨hg.1.only ho (fun h => h), hg.2.1.only ho (fun h => h), hg.2.2.only ho (fun h => h)⟩
/-- A step of both: what each call answers, and what stands behind it. -/
theorem ApS.steps {W : World} {V : Nat → Prop} {b1 b2 op cb db : Nat} {g : Nat → Bool} {H : Nat → Nat × Nat} {f0 f1 f2 : Nat → UInt8} {R : Nat → Nat} {pc : Nat} {wr : World} (h : ApS W V b1 b2 op cb db g f1 f2 R pc R pc wr) (hg : UsesAt W ∧ MisAt W ∧ FormsAt W) (hok : ∀ v, v < 12 → okE (H v)) (ha : Ag H f0 f1 f2) (hr : RegOk R pc) :
    ∃ (b : Bool) (c : Int) (t : Nat) (f1' f2' : Nat → UInt8) (R' : Nat → Nat) (pc' : Nat), Ag H f0 f1' f2' ∧ RegOk R' pc' ∧
      (∀ wv, ApS W V b1 b2 op cb db g f1 f2 R pc R pc wv → Calls Tryd.prog 9 #[.pointer (some ⟨b1, 0, none⟩), .int .i64 1, .pointer (some ⟨cb, 0, none⟩)] wv fun e w' => e = .returned (.agg #[.bool b, .int .i64 c, .int .u32 (t : Int)]) ∧ RowKit.Hid (ApS W V b1 b2 op cb db g f1' f2 R' pc' R pc w')) ∧
      (∀ V' wv, ApS W V' b1 b2 op cb db g f1' f2 R' pc' R pc wv → Calls Tryd.prog 9 #[.pointer (some ⟨b2, 0, none⟩), .int .i64 1, .pointer (some ⟨db, 0, none⟩)] wv fun e w' => e = .returned (.agg #[.bool b, .int .i64 c, .int .u32 (t : Int)]) ∧ RowKit.Hid (ApS W V' b1 b2 op cb db g f1' f2' R' pc' R' pc' w' ∧ Only (fun k => ¬ V' k ∨ k = db) wv w')) := by
  rcases step_apart hok ha R pc hr.2 with ⟨c, t, e1, e2⟩ | ⟨h1, h2, R', pc', e1, e2, hag⟩
  · refine ⟨true, c, t, f1, f2, R, pc, ha, hr, fun wv hv => ?_, fun V' wv hv => ?_⟩
    · obtain ⟨u1, u2, u3⟩ := hv.glob hg
      refine (hv.two.step u1 u2 u3 hv.c.cx hv.vs.2.1 hr.2 hr.1).mono ?_
      rintro e w' ⟨q1, q2⟩
      obtain ⟨rfl, ho⟩ := q1 c t e1
      exact ⟨rfl, hv.only ho⟩
    · obtain ⟨u1, u2, u3⟩ := hv.glob hg
      refine (hv.two.symm.step u1 u2 u3 hv.d.cx hv.vs.2.2 hr.2 hr.1).mono ?_
      rintro e w' ⟨q1, q2⟩
      obtain ⟨rfl, ho⟩ := q1 c t e2
      exact ⟨rfl, hv.only ho, ho.mono (fun _ _ h => h.elim)⟩
  · refine ⟨false, 0, 0, h1, h2, R', pc', hag, (step_ok hr e1).1, fun wv hv => ?_, fun V' wv hv => ?_⟩
    · obtain ⟨u1, u2, u3⟩ := hv.glob hg
      refine (hv.two.step u1 u2 u3 hv.c.cx hv.vs.2.1 hr.2 hr.1).mono ?_
      rintro e w' ⟨q1, q2⟩
      obtain ⟨rfl, ht, ⟨cs, hc, hbe⟩, ho⟩ := q2 _ _ _ e1
      refine ⟨rfl, ht, hv.o.only ho ?_, KxAt.of hc hbe, hv.d.only ho ?_, hv.vs, hv.ne, hv.wv, hv.be.trans (ho.below hv.be.size ?_), hv.ge⟩
      · rintro (hx | hx)
        · exact hx hv.vs.1
        · exact hv.ne.1 hx
      · rintro (hx | hx)
        · exact hx hv.vs.2.2
        · exact hv.ne.2.2 hx.symm
      · rintro k hk (hx | hx)
        · exact hx (hv.wv k hk)
        · have := hv.ge.2.1; omega
    · obtain ⟨u1, u2, u3⟩ := hv.glob hg
      refine (hv.two.symm.step u1 u2 u3 hv.d.cx hv.vs.2.2 hr.2 hr.1).mono ?_
      rintro e w' ⟨q1, q2⟩
      obtain ⟨rfl, ht, ⟨cs, hc, hbe⟩, ho⟩ := q2 _ _ _ e2
      refine ⟨rfl, ⟨ht.symm, hv.o.only ho ?_, hv.c.only ho ?_, KxAt.of hc hbe, hv.vs, hv.ne, hv.wv, hv.be.trans (ho.below hv.be.size ?_), hv.ge⟩, ho⟩
      · rintro (hx | hx)
        · exact hx hv.vs.1
        · exact hv.ne.2.1 hx
      · rintro (hx | hx)
        · exact hx hv.vs.2.1
        · exact hv.ne.2.2 hx
      · rintro k hk (hx | hx)
        · exact hx (hv.wv k hk)
        · have := hv.ge.2.2; omega
theorem evx_cells {w : World} {eb : Nat} {a b c : Value} {T : TypeId} (h : w.heap[eb]? = some (.cells #[a, b, c] T (0, 0))) : (w.cell? ⟨eb, 0, none⟩ = some a ∧ w.cell? ⟨eb, 1, none⟩ = some b ∧ w.cell? ⟨eb, 2, none⟩ = some c) ∧ ∀ j, w.frozen? ⟨eb, j, none⟩ = false :=
  ⟨⟨(cell_of_row _ _ 0 _ _ (0, 0) h).trans rfl, (cell_of_row _ _ 1 _ _ (0, 0) h).trans rfl, (cell_of_row _ _ 2 _ _ (0, 0) h).trans rfl⟩, fun j => by simp [World.frozen?, h]⟩
end Go.Proofs.YtflmobffeeocdaaDoor

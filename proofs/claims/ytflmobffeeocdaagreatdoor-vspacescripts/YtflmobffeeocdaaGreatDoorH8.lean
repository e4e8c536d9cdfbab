/- Walks of the scripts with books: begin; what stands between the steps. -/
import Derived.Test.YtflmobffeeocdaaGreatDoorV8
import Derived.Test.YtflmobffeeocdaaGreatDoorG11
namespace Go.Proofs.YtflmobffeeocdaaGreatDoor
open Go.ChangeShapes Go.WideShapes Go.ChangeAt Go.RowKit
open Go.Vx

/-- The six books, but for one empty. -/
def bkV (v : Value) (j : Nat) : Value := if j = 70 then v else .slice none 0 0
/-- The store's block; v: the book of mappings. -/
def SbM (w : World) (sb : Nat) (v : Value) : Prop := ∃ cs : Array Value, w.heap[sb]? = some (.cells cs 44 (0, 0)) ∧ cs.size = 74 ∧ ∀ j, 68 ≤ j → j < 74 → cs[j]? = some (bkV v j)
theorem SbM.only {S : Nat → Prop} {w w' : World} {sb : Nat} {v : Value} (h : SbM w sb v) (ho : Only S w w') (hS : ¬ S sb) : SbM w' sb v := by
  obtain ⟨cs, h1, h2, h3⟩ := h
  exact ⟨cs, by rw [ho.block sb (lt_of_some h1) hS]; exact h1, h2, h3⟩
theorem SbM.lt {w : World} {sb : Nat} {v : Value} (h : SbM w sb v) : sb < w.heap.size := by
  obtain ⟨cs, h1, _⟩ := h
  exact lt_of_some h1
theorem SbM.has {w : World} {sb : Nat} {v : Value} (h : SbM w sb v) (j : Nat) (hj : j < 74) : (∃ u, w.cell? ⟨sb, j, none⟩ = some u) ∧ w.frozen? ⟨sb, j, none⟩ = false := by
  obtain ⟨cs, h1, h2, _⟩ := h
  refine ⟨⟨cs[j], ?_⟩, by simp [World.frozen?, h1]⟩
  rw [cell_of_row _ _ j _ _ (0, 0) h1]
  exact Array.getElem?_eq_getElem (by omega)
theorem SbM.set {w : World} {sb : Nat} {v : Value} (h : SbM w sb v) (j : Nat) (hj : j < 68) (u : Value) : SbM (w.setCell ⟨sb, j, none⟩ u) sb v := by
  obtain ⟨cs, h1, h2, h3⟩ := h
  refine ⟨cs.setIfInBounds j u, heap_setCell_same _ _ _ _ _ _ h1, by simp [h2], fun i hi hi2 => ?_⟩
  rw [Array.getElem?_setIfInBounds, if_neg (by omega)]
  exact h3 i hi hi2
theorem SbM.setV {w : World} {sb : Nat} {v : Value} (h : SbM w sb v) (u : Value) : SbM (w.setCell ⟨sb, 70, none⟩ u) sb u := by
  obtain ⟨cs, h1, h2, h3⟩ := h
  refine ⟨cs.setIfInBounds 70 u, heap_setCell_same _ _ _ _ _ _ h1, by simp [h2], fun i hi hi2 => ?_⟩
  rw [Array.getElem?_setIfInBounds]
  by_cases h : 70 = i
  · rw [if_pos h, if_pos (by omega)]
    unfold bkV
    rw [if_pos h.symm]
  · rw [if_neg h, h3 i hi hi2]
    unfold bkV
    rw [if_neg (fun e => h e.symm), if_neg (fun e => h e.symm)]
theorem SbM.cell {w : World} {sb : Nat} {v : Value} (h : SbM w sb v) (j : Nat) (h1 : 68 ≤ j) (h2 : j < 74) : w.cell? ⟨sb, j, none⟩ = some (bkV v j) := by
  obtain ⟨cs, g1, g2, g3⟩ := h
  rw [cell_of_row _ _ j _ _ (0, 0) g1]
  exact g3 j h1 h2
theorem BkM.re {B : Nat → Prop} {w w' : World} {sb : Nat} {v : Value} {ss : List Value} (h : BkM B w sb v ss) (ho : Only (fun k => k = sb) w w') (hB : ¬ B sb) (hs : SbM w' sb v) : BkM B w' sb v ss := by
  have hS : ∀ k, B k → ¬ k = sb := fun k hk e => hB (by rw [← e]; exact hk)
  refine ⟨⟨h.own.1, h.own.2.imp (fun h => h) (fun ⟨g, cap, cur, a, b, c, d⟩ => ⟨g, cap, cur, a, b, ?_, d⟩)⟩, h.inB, fun i hi => (h.marks i hi).only ho hS (fun _ h => h), h.even, hs.cell 68 (by decide) (by decide), hs.cell 69 (by decide) (by decide), hs.cell 70 (by decide) (by decide), hs.cell 71 (by decide) (by decide), hs.cell 72 (by decide) (by decide), hs.cell 73 (by decide) (by decide)⟩
  rw [ho.block g (lt_of_some c) (hS g (h.inB g (by rw [a]; rfl)))]
  exact c
theorem SbM.ne_ref {w : World} {sb br bb n : Nat} {v : Value} {f : Nat → UInt8} (h : SbM w sb v) (hr : RefAt w br bb n f) : br ≠ sb := by
  obtain ⟨cs, h1, _⟩ := h
  intro e
  have h2 := hr.r
  rw [e, h1] at h2
  simp at h2
/-- What begin leaves. -/
def BgM (U : Nat → Prop) (w : World) (sb : Nat) (v : Value) (n : Nat) (w' : World) : Prop := ∃ bm br bb, w.heap.size ≤ bb ∧ w.heap.size ≤ br ∧ StAt (fun k => (U k ∨ k = bb) ∨ k = br) w' sb bm br bb n (fun _ => 0) (fun _ => 0) ∧ SbM w' sb v ∧ Only (fun k => k = sb) w w'
theorem begin_endM {U : Nat → Prop} {w w1 : World} {o1 o2 : Obj} {sb bm n : Nat} {v : Value} (hsb : SbM w sb v) (hus : U sb) (ho1 : Only (fun _ => False) w w1) (hm : MemAt U w1 bm n (fun _ => 0)) (hr : RefAt ((w1.alloc o1).alloc o2) (w1.heap.size + 1) w1.heap.size n (fun _ => 0)) :
    BgM U w sb v n ((((w1.alloc o1).alloc o2).setCell ⟨sb, 0, none⟩ (.pointer (some ⟨bm, 0, none⟩))).setCell ⟨sb, 1, none⟩ (.pointer (some ⟨w1.heap.size + 1, 0, none⟩))) := by
  have hl := hsb.lt
  have hs1 := ho1.size
  have ho2 : Only (fun _ => False) w ((w1.alloc o1).alloc o2) := (ho1.alloc o1).alloc o2
  have hsb2 : SbM ((w1.alloc o1).alloc o2) sb v := hsb.only ho2 (fun h => h)
  have hm2 : MemAt (fun k => (U k ∨ k = w1.heap.size) ∨ k = w1.heap.size + 1) ((w1.alloc o1).alloc o2) bm n (fun _ => 0) := by
    have := (hm.beside o1).beside o2
    simpa using this
  generalize hw2 : (w1.alloc o1).alloc o2 = w2 at *
  have hsz : w1.heap.size + 2 = w2.heap.size := by rw [← hw2]; simp
  have o3 : Only (fun k => k = sb) w2 (w2.setCell ⟨sb, 0, none⟩ (.pointer (some ⟨bm, 0, none⟩))) := only_cell w2 ⟨sb, 0, none⟩ _
  have o4 : Only (fun k => k = sb) (w2.setCell ⟨sb, 0, none⟩ (.pointer (some ⟨bm, 0, none⟩))) ((w2.setCell ⟨sb, 0, none⟩ (.pointer (some ⟨bm, 0, none⟩))).setCell ⟨sb, 1, none⟩ (.pointer (some ⟨w1.heap.size + 1, 0, none⟩))) := only_cell _ ⟨sb, 1, none⟩ _
  have o5 := o3.trans o4
  have hsb3 := hsb2.set 0 (by decide) (.pointer (some ⟨bm, 0, none⟩))
  have hsb4 := hsb3.set 1 (by decide) (.pointer (some ⟨w1.heap.size + 1, 0, none⟩))
  obtain ⟨⟨v0, c0⟩, _⟩ := hsb2.has 0 (by decide)
  obtain ⟨⟨v1, c1⟩, _⟩ := hsb3.has 1 (by decide)
  refine ⟨bm, w1.heap.size + 1, w1.heap.size, hs1, by omega, ⟨?_, ?_, hsb4.lt, ?_, ?_, Or.inl (Or.inl hus), Or.inr rfl, Or.inl (Or.inr rfl), by omega⟩, hsb4, (ho2.mono (fun _ _ h => h.elim)).trans o5⟩
  · rw [World.cell?_setCell_other _ _ _ _ (by intro e; injection e with _ e2; omega)]
    exact World.cell?_setCell_same _ _ _ c0
  · exact World.cell?_setCell_same _ _ _ c1
  · exact hm2.only o5 (fun k hk _ => by rw [hk]; exact Or.inl (Or.inl hus))
  · exact hr.only o5 (by omega) (by omega)
theorem begin_okM {U : Nat → Prop} {w : World} {sb : Nat} {v : Value} (hsb : SbM w sb v) (hus : U sb) (hU : ∀ k, U k → k < w.heap.size) (n : Nat) (h1 : 1 ≤ n) (h2 : n ≤ 256) :
    Calls Tryz.prog 8 #[.pointer (some ⟨sb, 0, none⟩), .int .i64 (n : Int)] w fun e w' => e = .returned (.bool true) ∧ BgM U w sb v n w' := by
  have HSB := Vx.hid hsb
  have HUS := Vx.hid hus
  have HU := Vx.hid hU
  have H1 := Vx.hid (new_ok n h1 h2 w)
  have H2 := Vx.hid (fun wv => newRef_ok n h1 h2 wv)
  clear hsb hus hU h1 h2
  go_enter Tryz.func8, Tryz.ntmps8
  go_wp2_with fail
  refine H1.out.mono ?_
  rintro e w1 ⟨bm, rfl, _, _, ho1, hm1⟩
  have HM1 := Vx.hid (hm1 U HU.out)
  have HO1 := Vx.hid ho1
  clear hm1 ho1
  go_wp2_with fail
  refine (H2.out w1).mono ?_
  rintro e w2 ⟨rfl, hr, o1, o2, hw2⟩
  have HR := Vx.hid hr
  have HW2 := Vx.hid hw2
  have HPG : Hid (Calls Tryz.prog 19 #[.pointer (some ⟨bm, 0, none⟩)] w2 fun e w' => e = .returned (.int .i64 (n : Int)) ∧ w' = w2) := by
    refine pages_any (HM1.out.only (S := fun _ => False) ?_ (fun _ h _ => h.elim))
    rw [hw2]; exact ((Only.refl _ w1).alloc o1).alloc o2
  have hsb2 : SbM w2 sb v := HSB.out.only (S := fun _ => False) (by rw [hw2]; exact (HO1.out.alloc o1).alloc o2) (fun h => h)
  obtain ⟨⟨v0, c0⟩, f0⟩ := hsb2.has 0 (by decide)
  obtain ⟨⟨v1, c1⟩, f1⟩ := (hsb2.set 0 (by decide) (.pointer (some ⟨bm, 0, none⟩))).has 1 (by decide)
  have HFIN : Hid (BgM U w sb v n ((w2.setCell ⟨sb, 0, none⟩ (.pointer (some ⟨bm, 0, none⟩))).setCell ⟨sb, 1, none⟩ (.pointer (some ⟨w1.heap.size + 1, 0, none⟩)))) := by
    have h5 := HR.out
    rw [hw2] at h5
    have := begin_endM HSB.out HUS.out HO1.out HM1.out h5
    rw [← hw2] at this
    exact this
  clear hr hw2 HW2 HR hsb2 HM1 HO1 HU
  generalize w1.heap.size + 1 = br at *
  go_wp2_with fail
  refine HPG.out.mono ?_
  rintro e w' ⟨rfl, h⟩
  have h2 := h.symm; clear h; subst h2
  go_wp2_with fail
  all_goals
    go_ret
    exact ⟨by simp, HFIN.out⟩
/-- What stands between the steps of a script whose lists are kept in a book. -/
structure ScM (W : World) (sb bz bpz : Nat) (qz : Nat → Option Nat) (fz : Nat → UInt8) (cnt : Nat) (wr : World) : Prop where
  ex : ∃ B v ss Uc bm br bb n f, StAt Uc wr sb bm br bb n f f ∧ (∀ k, BaseU W sb bz bpz qz k → Uc k) ∧ ¬ BaseU W sb bz bpz qz bb ∧ SbM wr sb v ∧ BkM B wr sb v ss ∧ (∀ k, B k → Uc k ∧ ¬ BaseU W sb bz bpz qz k ∧ k ≠ br ∧ k ≠ bb) ∧ ss.length ≤ 2 * cnt
  z : MemIs (fun _ => False) wr bz bpz 3 qz fz
  be : Below W.heap.size W wr
  wsb : W.heap.size ≤ sb
  nz : ¬ OwnM bz bpz qz sb
theorem ScM.of {W : World} {sb bz bpz : Nat} {qz : Nat → Option Nat} {fz : Nat → UInt8} {wr : World} (h : ScR W sb bz bpz qz fz wr) : ScM W sb bz bpz qz fz 0 wr := by
  obtain ⟨Uc, bm, br, bb, n, f, h1, h2, h3⟩ := h.ex
  have hb := h.sat.bk
  obtain ⟨cs, g1, g2, g3⟩ := h.sat
  refine ⟨⟨fun _ => False, .slice none 0 0, [], Uc, bm, br, bb, n, f, h1, h2, h3, ⟨cs, g1, g2, fun j h1 h2 => by rw [g3 j h1 h2]; unfold bkV; split <;> rfl⟩, ⟨World.ownsRow_nil _ _ _ _, (fun k hk => by cases hk), (fun i hi => by simp at hi), rfl, hb.b0, hb.b1, hb.b2, hb.b3, hb.b4, hb.b5⟩, fun _ h => h.elim, Nat.zero_le _⟩, h.z, h.be, h.wsb, h.nz⟩
theorem ScM.more {W : World} {sb bz bpz : Nat} {qz : Nat → Option Nat} {fz : Nat → UInt8} {cnt : Nat} {wr : World} (h : ScM W sb bz bpz qz fz cnt wr) : ScM W sb bz bpz qz fz (cnt + 1) wr := by
  obtain ⟨B, v, ss, Uc, bm, br, bb, n, f, h1, h2, h3, h4, h5, h6, h7⟩ := h.ex
  exact ⟨⟨B, v, ss, Uc, bm, br, bb, n, f, h1, h2, h3, h4, h5, h6, by omega⟩, h.z, h.be, h.wsb, h.nz⟩
theorem ScM.quiet {W : World} {sb bz bpz : Nat} {qz : Nat → Option Nat} {fz : Nat → UInt8} {cnt : Nat} {wr wx : World} (h : ScM W sb bz bpz qz fz cnt wr) (ho : Only (fun _ => False) wr wx) : ScM W sb bz bpz qz fz cnt wx := by
  obtain ⟨B, v, ss, Uc, bm, br, bb, n, f, h1, h2, h3, h4, h5, h6, h7⟩ := h.ex
  exact ⟨⟨B, v, ss, Uc, bm, br, bb, n, f, h1.only ho, h2, h3, h4.only ho (fun h => h), h5.only ho (fun _ _ h => h) (fun h => h), h6, h7⟩, h.z.keep ho.size (fun k hk => ho.block k (h.z.own_lt hk) (fun h => h)), h.be.trans (ho.below h.be.size (fun _ _ h => h)), h.wsb, h.nz⟩
theorem ScM.base {W : World} {sb bz bpz : Nat} {qz : Nat → Option Nat} {fz : Nat → UInt8} {cnt : Nat} {wr : World} (h : ScM W sb bz bpz qz fz cnt wr) : ∀ k, BaseU W sb bz bpz qz k → k < wr.heap.size := fun k hk => by
  obtain ⟨B, v, ss, Uc, bm, br, bb, n, f, h1, h2, h3, h4, h5, h6, h7⟩ := h.ex
  rcases hk with hk | hk | hk
  · exact Nat.lt_of_lt_of_le hk h.be.size
  · rw [hk]; exact h4.lt
  · exact h.z.own_lt hk
/-- A step that changes the memories alone. -/
theorem ScM.moved {W : World} {sb bz bpz : Nat} {qz : Nat → Option Nat} {fz : Nat → UInt8} {cnt : Nat} {wr wx : World} (h : ScM W sb bz bpz qz fz cnt wr) {B : Nat → Prop} {v : Value} {ss : List Value} {Uc : Nat → Prop} {bm br bb n : Nat} (h2 : ∀ k, BaseU W sb bz bpz qz k → Uc k) (h3 : ¬ BaseU W sb bz bpz qz bb) (h4 : SbM wr sb v) (h5 : BkM B wr sb v ss) (h6 : ∀ k, B k → Uc k ∧ ¬ BaseU W sb bz bpz qz k ∧ k ≠ br ∧ k ≠ bb) (h7 : ss.length ≤ 2 * cnt) (hm : MvR Uc wr sb bm br bb n wx) : ScM W sb bz bpz qz fz cnt wx := by
  obtain ⟨⟨f, hst⟩, ho⟩ := hm
  have hS : ∀ k, BaseU W sb bz bpz qz k → ¬ (¬ Uc k ∨ k = bb) := fun k hk hs => by
    rcases hs with hs | hs
    · exact absurd (h2 k hk) hs
    · subst hs; exact absurd hk h3
  have hB : ∀ k, B k → ¬ (¬ Uc k ∨ k = bb) := fun k hk hs => by
    rcases hs with hs | hs
    · exact hs (h6 k hk).1
    · exact (h6 k hk).2.2.2 hs
  have hsb := hS sb (Or.inr (Or.inl rfl))
  exact ⟨⟨B, v, ss, Uc, bm, br, bb, n, f, hst, h2, h3, h4.only ho hsb, h5.only ho hB hsb, h6, h7⟩, h.z.keep ho.size (fun k hk => ho.block k (h.z.own_lt hk) (hS k (Or.inr (Or.inr hk)))), h.be.trans (ho.below h.be.size (fun k hk => hS k (Or.inl hk))), h.wsb, h.nz⟩
theorem ScM.begin {W : World} {sb bz bpz : Nat} {qz : Nat → Option Nat} {fz : Nat → UInt8} {cnt : Nat} {wr : World} (h : ScM W sb bz bpz qz fz cnt wr) (n : Int) :
    Calls Tryz.prog 8 #[.pointer (some ⟨sb, 0, none⟩), .int .i64 n] wr fun e w' => e = .returned (.bool true) ∧ ScM W sb bz bpz qz fz cnt w' := by
  by_cases hn : n < 1 ∨ 256 < n
  · refine (begin_no n hn).mono ?_
    rintro e w' ⟨rfl, rfl⟩
    exact ⟨rfl, h⟩
  · obtain ⟨m, rfl⟩ : ∃ m : Nat, n = (m : Int) := ⟨n.toNat, by omega⟩
    have hbs := h.base
    obtain ⟨B, v, ss, Uc, bm0, br0, bb0, n0, f0, h1, h2, h3, h4, h5, h6, h7⟩ := h.ex
    obtain ⟨bp0, q0, hm0⟩ := h1.m
    have hBl : ∀ k, B k → k < wr.heap.size := fun k hk => hm0.low k (h6 k hk).1
    refine (begin_okM (U := fun k => BaseU W sb bz bpz qz k ∨ B k) h4 (Or.inl (Or.inr (Or.inl rfl))) (fun k hk => hk.elim (hbs k) (hBl k)) m (by omega) (by omega)).mono ?_
    rintro e w' ⟨rfl, bm, br, bb, hb1, hb2, hst, hsb, ho⟩
    have hBs : ¬ B sb := fun hk => (h6 sb hk).2.1 (Or.inr (Or.inl rfl))
    refine ⟨rfl, ⟨⟨B, v, ss, _, bm, br, bb, m, _, hst, fun k hk => Or.inl (Or.inl (Or.inl hk)), fun hk => ?_, hsb, h5.re ho hBs hsb, fun k hk => ⟨Or.inl (Or.inl (Or.inr hk)), (h6 k hk).2.1, ?_, ?_⟩, h7⟩, h.z.keep ho.size (fun k hk => ho.block k (h.z.own_lt hk) (fun e => h.nz (by rw [← e]; exact hk))), h.be.trans (ho.below h.be.size (fun k hk e => by have := h.wsb; omega)), h.wsb, h.nz⟩⟩
    · have := hbs bb hk
      omega
    · have := hBl k hk
      omega
    · have := hBl k hk
      omega
theorem ScM.moves {W : World} {sb bz bpz : Nat} {qz : Nat → Option Nat} {fz : Nat → UInt8} {cnt : Nat} {wr : World} (h : ScM W sb bz bpz qz fz cnt wr) (K A B C D : Int) (hK : K ≤ 7) (hA : I64 A) (hB : I64 B) (s : List UInt8) (hs : s.length ≤ 9223372036854775807) :
    Calls Tryz.prog 12 #[.pointer (some ⟨sb, 0, none⟩), .agg (opv K A B C D ⟨s.toArray⟩)] wr fun e w' => e = .returned (.bool true) ∧ ScM W sb bz bpz qz fz cnt w' := by
  obtain ⟨BB, v, ss, Uc, bm, br, bb, n, f, h1, h2, h3, h4, h5, h6, h7⟩ := h.ex
  refine (moves_any h1 K A B C D hK hA hB s hs).mono ?_
  rintro e w' ⟨rfl, hm⟩
  exact ⟨rfl, h.moved h2 h3 h4 h5 h6 h7 hm⟩
theorem ScM.reads {W : World} {sb bz bpz : Nat} {qz : Nat → Option Nat} {fz : Nat → UInt8} {cnt : Nat} {wr : World} (h : ScM W sb bz bpz qz fz cnt wr) (hc : cnt ≤ 300000) :
    Calls Tryz.prog 15 #[.pointer (some ⟨sb, 68, none⟩)] wr fun e w' => e = .returned (.bool true) ∧ w' = wr := by
  obtain ⟨BB, v, ss, Uc, bm, br, bb, n, f, h1, h2, h3, h4, h5, h6, h7⟩ := h.ex
  exact reads_m h5 (by omega)
theorem ScM.whole {W : World} {sb bz bpz : Nat} {qz : Nat → Option Nat} {fz : Nat → UInt8} {cnt : Nat} {wr : World} (h : ScM W sb bz bpz qz fz cnt wr) :
    Calls Tryz.prog 17 #[.pointer (some ⟨sb, 0, none⟩)] wr fun e w' => e = .returned (.bool true) ∧ ScM W sb bz bpz qz fz cnt w' := by
  obtain ⟨BB, v, ss, Uc, bm, br, bb, n, f, h1, h2, h3, h4, h5, h6, h7⟩ := h.ex
  refine (whole_ok h1).mono ?_
  rintro e w' ⟨rfl, ho⟩
  exact ⟨rfl, h.quiet ho⟩
/-- A step that puts two lists into the book. -/
theorem ScM.listed {W : World} {sb bz bpz : Nat} {qz : Nat → Option Nat} {fz : Nat → UInt8} {cnt : Nat} {wr w3 wx : World} (h : ScM W sb bz bpz qz fz cnt wr) {B : Nat → Prop} {v l : Value} {ss : List Value} {Uc : Nat → Prop} {bm br bb n : Nat} {f : Nat → UInt8} (h1 : StAt Uc wr sb bm br bb n f f) (h2 : ∀ k, BaseU W sb bz bpz qz k → Uc k) (h3 : ¬ BaseU W sb bz bpz qz bb) (h4 : SbM wr sb v) (h6 : ∀ k, B k → Uc k ∧ ¬ BaseU W sb bz bpz qz k ∧ k ≠ br ∧ k ≠ bb) (h7 : ss.length ≤ 2 * cnt)
    (h5 : BkM B wr sb v ss) (ho : Only (fun _ => False) wr w3) (hl : ∀ k, l.ownBlock = some k → wr.heap.size ≤ k) (hl2 : ∀ k, l.ownBlock = some k → k < w3.heap.size) (hom : OmR B w3 sb v l ss wx) : ScM W sb bz bpz qz fz (cnt + 1) wx := by
  have hbs := h.base
  obtain ⟨bp, q, hm⟩ := h1.m
  have hBl : ∀ k, B k → k < wr.heap.size := fun k hk => hm.low k (h6 k hk).1
  obtain ⟨w4, v', s1, s2, ho4, hwx, hbk⟩ := hom
  have hvB : ∀ k, v.ownBlock = some k → B k := h5.inB
  have hBs : ¬ B sb := fun hk => (h6 sb hk).2.1 (Or.inr (Or.inl rfl))
  have hS : ∀ k, k < wr.heap.size → ¬ B k → ¬ (v.ownBlock = some k ∨ l.ownBlock = some k) := fun k hk hb hs => by
    rcases hs with hs | hs
    · exact hb (hvB k hs)
    · have := hl k hs; omega
  have hsz := ho.size
  have hsz4 := ho4.size
  have hwsz : wx.heap.size = w4.heap.size := by rw [hwx]; simp [World.setCell]
  have hkeep : ∀ k, k < wr.heap.size → ¬ B k → k ≠ sb → wx.heap[k]? = wr.heap[k]? := fun k hk hb hne => by
    rw [hwx, RowKit.Below.heap_setCell _ _ _ _ (fun e => hne e), ho4.block k (by omega) (hS k hk hb)]
    exact ho.block k hk (fun h => h)
  have hsb4 : SbM w4 sb v := (h4.only ho (fun h => h)).only ho4 (hS sb h4.lt hBs)
  have hsbx : SbM wx sb v' := by rw [hwx]; exact hsb4.setV v'
  have hc : ∀ j, j ≠ 70 → wx.cell? ⟨sb, j, none⟩ = wr.cell? ⟨sb, j, none⟩ := fun j hj => by
    rw [hwx, World.cell?_setCell_other _ _ _ _ (by intro e; injection e with _ e2; exact hj (by omega)), ho4.cell (p := ⟨sb, j, none⟩) (by have := h4.lt; show sb < _; omega) (hS sb h4.lt hBs)]
    exact ho.cell (p := ⟨sb, j, none⟩) h4.lt (fun h => h)
  have hub : ∀ k, ¬ Uc k → ¬ B k ∧ k ≠ sb := fun k hk => ⟨fun hb => hk (h6 k hb).1, fun e => hk (by rw [e]; exact h1.us)⟩
  have hnew : ∀ k, k < wr.heap.size → ¬ Uc k → ¬ (Uc k ∨ B k ∨ l.ownBlock = some k ∨ (w3.heap.size ≤ k ∧ k < wx.heap.size)) := fun k hk hu hs => by
    rcases hs with hs | hs | hs | hs
    · exact hu hs
    · exact (hub k hu).1 hs
    · have := hl k hs; omega
    · omega
  refine ⟨⟨fun k => B k ∨ l.ownBlock = some k ∨ (w3.heap.size ≤ k ∧ k < wx.heap.size), v', ss ++ [s1, s2], fun k => k < wx.heap.size ∧ (Uc k ∨ B k ∨ l.ownBlock = some k ∨ (w3.heap.size ≤ k ∧ k < wx.heap.size)), bm, br, bb, n, f, ⟨?_, ?_, ?_, ?_, ?_, ?_, ?_, ?_, h1.ne⟩, fun k hk => ⟨by have := hbs k hk; omega, Or.inl (h2 k hk)⟩, h3, hsbx, hbk, fun k hk => ?_, by simp; omega⟩, ?_, ?_, h.wsb, h.nz⟩
  · rw [hc 0 (by decide)]; exact h1.c0
  · rw [hc 1 (by decide)]; exact h1.c1
  · have := h4.lt; omega
  · have hk : ∀ b o, wr.heap[b]? = some o → ¬ Uc b → wx.heap[b]? = some o := fun b o hb hu => by rw [hkeep b (lt_of_some hb) (hub b hu).1 (hub b hu).2]; exact hb
    exact ⟨bp, q, hm.pos, hm.top, hk _ _ hm.m hm.um, hk _ _ hm.p hm.up, hm.nil, fun i hi b hb => hk _ _ (hm.pg i hi b hb) (hm.ug i b hi hb), hm.inj, fun hs => hnew _ (lt_of_some hm.m) hm.um hs.2, fun hs => hnew _ (lt_of_some hm.p) hm.up hs.2, fun i b hi hb hs => hnew _ (lt_of_some (hm.pg i hi b hb)) (hm.ug i b hi hb) hs.2, fun k hk => hk.1⟩
  · have hbr := hkeep br (lt_of_some h1.r.r) (fun hb => (h6 br hb).2.2.1 rfl) (h4.ne_ref h1.r)
    have hbb := hkeep bb (lt_of_some h1.r.b) (fun hb => (h6 bb hb).2.2.2 rfl) (fun e => h1.ne e.symm)
    exact ⟨h1.r.pos, h1.r.top, by rw [hbr]; exact h1.r.r, by rw [hbb]; exact h1.r.b⟩
  · exact ⟨by have := h4.lt; omega, Or.inl h1.us⟩
  · exact ⟨by have := lt_of_some h1.r.r; omega, Or.inl h1.ur⟩
  · exact ⟨by have := lt_of_some h1.r.b; omega, Or.inl h1.ub⟩
  · have hlt : k < wx.heap.size := by
      rcases hk with hk | hk | hk
      · have := hBl k hk; omega
      · have := hl2 k hk; omega
      · exact hk.2
    have hge : B k ∨ wr.heap.size ≤ k := by
      rcases hk with hk | hk | hk
      · exact Or.inl hk
      · exact Or.inr (hl k hk)
      · exact Or.inr (by omega)
    refine ⟨⟨hlt, Or.inr hk⟩, fun hb => ?_, fun e => ?_, fun e => ?_⟩
    · rcases hge with hg | hg
      · exact (h6 k hg).2.1 hb
      · have := hbs k hb; omega
    · rcases hge with hg | hg
      · exact (h6 k hg).2.2.1 e
      · have := lt_of_some h1.r.r; omega
    · rcases hge with hg | hg
      · exact (h6 k hg).2.2.2 e
      · have := lt_of_some h1.r.b; omega
  · refine h.z.keep (by omega) (fun k hk => hkeep k (h.z.own_lt hk) (fun hb => (h6 k hb).2.1 (Or.inr (Or.inr hk))) (fun e => h.nz (by rw [← e]; exact hk)))
  · have hW : Below W.heap.size wr wx := by
      refine ⟨?_, ?_, ?_, by omega, fun k hk => hkeep k (by have := h.be.size; omega) (fun hb => (h6 k hb).2.1 (Or.inl hk)) (fun e => by have := h.wsb; omega)⟩
      · rw [hwx]; exact ho4.os.trans ho.os
      · rw [hwx]; exact ho4.tape.trans ho.tape
      · rw [hwx]; exact ho4.output.trans ho.output
    exact h.be.trans hW
end Go.Proofs.YtflmobffeeocdaaGreatDoor

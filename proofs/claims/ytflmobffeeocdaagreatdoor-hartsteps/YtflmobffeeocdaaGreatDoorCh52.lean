import Derived.Test.YtflmobffeeocdaaGreatDoorCh50
import Derived.Deep.CutRange
/- HartSteps: steps of both harts, in a row. -/
namespace Go.Proofs.YtflmobffeeocdaaGreatDoor
open Go.ChangeShapes Go.WideShapes Go.ChangeAt Go.RowKit
open Go.Vx
set_option linter.unusedVariables false

/-- What stands between two steps in a row. -/
structure LpS (U : Nat → Prop) (w : World) (sb bm br bb n ob : Nat) (A B C D : Int) (s : List UInt8) (f : Nat → UInt8) (R : Nat → Nat) (pc : Nat) (wr : World) : Prop where
  hs : HsAt (fun k => U k ∨ k = ob) wr sb bm br bb n f f R pc R pc
  ok : RegOk R pc
  z : R 0 = 0
  op : OpAt wr ob 15 A B C D s
  on : Only (fun k => ¬ U k ∨ k = bb ∨ k = sb) w wr
  gl : UsesAt wr ∧ MisAt wr ∧ FormsAt wr
  nb : ob ≠ bb ∧ ob ≠ sb ∧ w.heap.size ≤ ob
/-- Behind the program's step. -/
def Md1 (U : Nat → Prop) (w W : World) (sb bm br bb n ob eb : Nat) (A B C D : Int) (s : List UInt8) (f f1 : Nat → UInt8) (R R1 : Nat → Nat) (pc pc1 : Nat) (b : Bool) (c : Int) (t : Nat) (wx : World) : Prop :=
  HsAt (fun k => U k ∨ k = ob) wx sb bm br bb n f1 f R1 pc1 R pc ∧ Only (fun k => ¬ (U k ∨ k = ob) ∨ k = sb) W wx ∧ W.heap.size ≤ eb ∧ wx.heap[eb]? = some (.cells (evC b c t) 93 (0, 0))
/-- Behind both. -/
def Md2 (U : Nat → Prop) (w W : World) (sb bm br bb n ob eb ec : Nat) (A B C D : Int) (s : List UInt8) (f1 : Nat → UInt8) (R1 : Nat → Nat) (pc1 : Nat) (b : Bool) (c : Int) (t : Nat) (wx : World) : Prop :=
  HsAt (fun k => U k ∨ k = ob) wx sb bm br bb n f1 f1 R1 pc1 R1 pc1 ∧ Only (fun k => ¬ (U k ∨ k = ob) ∨ k = bb ∨ k = sb) W wx ∧ wx.heap[eb]? = some (.cells (evC b c t) 93 (0, 0)) ∧ wx.heap[ec]? = some (.cells (evC b c t) 93 (0, 0))
theorem LpS.next {U : Nat → Prop} {w W wx : World} {sb bm br bb n ob : Nat} {A B C D : Int} {s : List UInt8} {f f1 : Nat → UInt8} {R R1 : Nat → Nat} {pc pc1 : Nat} (h : LpS U w sb bm br bb n ob A B C D s f R pc W) (hg : U 0 ∧ U 1 ∧ U 2) (hgn : (0 ≠ bb ∧ 0 ≠ sb) ∧ (1 ≠ bb ∧ 1 ≠ sb) ∧ (2 ≠ bb ∧ 2 ≠ sb)) (hs : HsAt (fun k => U k ∨ k = ob) wx sb bm br bb n f1 f1 R1 pc1 R1 pc1) (ho : Only (fun k => ¬ (U k ∨ k = ob) ∨ k = bb ∨ k = sb) W wx) (ok : RegOk R1 pc1) (z : R1 0 = 0) : LpS U w sb bm br bb n ob A B C D s f1 R1 pc1 wx := by
  refine ⟨hs, ok, z, h.op.only ho ?_, h.on.trans (ho.mono (fun k _ hk => ?_)), ⟨h.gl.1.only ho ?_, h.gl.2.1.only ho ?_, h.gl.2.2.only ho ?_⟩, h.nb⟩
  · rintro (hx | hx | hx)
    · exact hx (Or.inr rfl)
    · exact h.nb.1 hx
    · exact h.nb.2.1 hx
  · rcases hk with hk | hk
    · exact Or.inl (fun hu => hk (Or.inl hu))
    · exact Or.inr hk
  · rintro (hx | hx | hx)
    · exact hx (Or.inl hg.1)
    · exact hgn.1.1 hx
    · exact hgn.1.2 hx
  · rintro (hx | hx | hx)
    · exact hx (Or.inl hg.2.1)
    · exact hgn.2.1.1 hx
    · exact hgn.2.1.2 hx
  · rintro (hx | hx | hx)
    · exact hx (Or.inl hg.2.2)
    · exact hgn.2.2.1 hx
    · exact hgn.2.2.2 hx
theorem md1_A {U : Nat → Prop} {w wr wv w3 : World} {sb bm br bb n ob : Nat} {A B C D : Int} {s : List UInt8} {f f1 : Nat → UInt8} {R R1 : Nat → Nat} {pc pc1 : Nat} {b : Bool} {c : Int} {t : Nat} (h0 : HsAt (fun k => U k ∨ k = ob) wr sb bm br bb n f f R pc R pc) (h : HsAt (fun k => (U k ∨ k = ob) ∨ (wr.heap.size ≤ k ∧ k < wv.heap.size)) w3 sb bm br bb n f1 f R1 pc1 R pc) (ho : Only (fun k => ¬ (U k ∨ k = ob) ∨ k = sb) wr w3) : Md1 U w wr sb bm br bb n ob w3.heap.size A B C D s f f1 R R1 pc pc1 b c t (w3.alloc (.cells #[.bool b, .int .i64 c, .int .u32 (t : Int)] 93)) :=
  ⟨(h0.less h (fun k hk => Or.inl hk)).only ((Only.refl _ _).alloc _), ho.alloc _, ho.size, Array.getElem?_push_size⟩
theorem md1_B {U : Nat → Prop} {w wr wv w3 : World} {sb bm br bb n ob : Nat} {A B C D : Int} {s : List UInt8} {f f1 : Nat → UInt8} {R R1 : Nat → Nat} {pc pc1 : Nat} {b : Bool} {c : Int} {t : Nat} (h0 : HsAt (fun k => U k ∨ k = ob) wr sb bm br bb n f f R pc R pc) (h : HsAt (fun k => (U k ∨ k = ob) ∨ (wr.heap.size ≤ k ∧ k < wv.heap.size)) w3 sb bm br bb n f1 f R1 pc1 R pc) (ho : Only (fun k => ¬ (U k ∨ k = ob) ∨ k = sb) wr w3) (hv : wr.heap.size < wv.heap.size) {x y z : Value} (hz : w3.heap[wr.heap.size]? = some (.cells #[x, y, z] 93 (0, 0))) : Md1 U w wr sb bm br bb n ob wr.heap.size A B C D s f f1 R R1 pc pc1 b c t (((w3.setCell ⟨wr.heap.size, 0, none⟩ (.bool b)).setCell ⟨wr.heap.size, 1, none⟩ (.int .i64 c)).setCell ⟨wr.heap.size, 2, none⟩ (.int .u32 (t : Int))) := by
  have e := ev3_set hz (.bool b) (.int .i64 c) (.int .u32 (t : Int))
  have h1 := h0.st.sbl
  have h2 := lt_of_some h0.st.r.r
  have h3 := lt_of_some h0.st.r.b
  exact ⟨h0.less (h.side e.2 (Or.inr ⟨Nat.le_refl _, hv⟩) (by omega) (by omega) (by omega)) (fun k hk => Or.inl hk), Only.setCell (Only.setCell (Only.setCell ho (Or.inr (Nat.le_refl _)) _) (Or.inr (Nat.le_refl _)) _) (Or.inr (Nat.le_refl _)) _, Nat.le_refl _, e.1⟩
/-- What the document's step leaves. -/
def Pd (U : Nat → Prop) (wc wv : World) (sb bm br bb n ob eb : Nat) (f1 : Nat → UInt8) (R1 : Nat → Nat) (pc1 : Nat) (w' : World) : Prop :=
  HsAt (fun k => (U k ∨ k = ob) ∨ (wc.heap.size ≤ k ∧ k < wv.heap.size)) w' sb bm br bb n f1 f1 R1 pc1 R1 pc1 ∧ Only (fun k => k = bb ∨ k = sb) wc w' ∧ ∀ k, wc.heap.size ≤ k → k < wv.heap.size → w'.heap[k]? = wv.heap[k]?
theorem doc_form {U : Nat → Prop} {w wr wc : World} {sb bm br bb n ob eb : Nat} {A B C D : Int} {s : List UInt8} {f f1 : Nat → UInt8} {R R1 : Nat → Nat} {pc pc1 : Nat} {b : Bool} {c : Int} {t : Nat} {root : Int} (h : Md1 U w wr sb bm br bb n ob eb A B C D s f f1 R R1 pc pc1 b c t wc)
    (hD : ∀ V w2, HsAt V w2 sb bm br bb n f1 f R1 pc1 R pc → Calls Tryz.prog 54 #[.pointer (some ⟨br, 0, none⟩), .int .i64 root, .pointer (some ⟨sb, 35, none⟩)] w2 fun e w' => e = .returned (.agg #[.bool b, .int .i64 c, .int .u32 (t : Int)]) ∧ RowKit.Hid (HsAt V w' sb bm br bb n f1 f1 R1 pc1 R1 pc1 ∧ Only (fun k => k = bb ∨ k = sb) w2 w')) :
    ∀ wv, Only (fun _ => False) wc wv → Calls Tryz.prog 54 #[.pointer (some ⟨br, 0, none⟩), .int .i64 root, .pointer (some ⟨sb, 35, none⟩)] wv fun e w' => e = .returned (.agg #[.bool b, .int .i64 c, .int .u32 (t : Int)]) ∧ RowKit.Hid (Pd U wc wv sb bm br bb n ob eb f1 R1 pc1 w') := by
  intro wv hv
  have h1 := h.1.st.sbl
  have h3 := lt_of_some h.1.st.r.b
  refine (hD _ wv (h.1.more hv)).mono ?_
  rintro e w' ⟨rfl, HS⟩
  refine ⟨rfl, HS.out.1, (hv.mono (fun _ _ h => h.elim)).trans HS.out.2, fun k h4 h5 => HS.out.2.block k h5 ?_⟩
  rintro (rfl | rfl) <;> omega
theorem md2_on {U : Nat → Prop} {w wr wc w3 : World} {sb bm br bb n ob eb : Nat} {A B C D : Int} {s : List UInt8} {f f1 : Nat → UInt8} {R R1 : Nat → Nat} {pc pc1 : Nat} {b : Bool} {c : Int} {t : Nat} (h0 : HsAt (fun k => U k ∨ k = ob) wr sb bm br bb n f f R pc R pc) (h : Md1 U w wr sb bm br bb n ob eb A B C D s f f1 R R1 pc pc1 b c t wc) (ho : Only (fun k => k = bb ∨ k = sb) wc w3) : Only (fun k => ¬ (U k ∨ k = ob) ∨ k = bb ∨ k = sb) wr w3 ∧ w3.heap[eb]? = some (.cells (evC b c t) 93 (0, 0)) ∧ wr.heap.size ≤ wc.heap.size := by
  have h1 := h0.st.sbl
  have h3 := lt_of_some h0.st.r.b
  have h4 := h.2.2.1
  refine ⟨(h.2.1.mono (fun k _ hk => hk.elim Or.inl (fun h => Or.inr (Or.inr h)))).trans (ho.mono (fun k _ hk => Or.inr hk)), ?_, h.2.1.size⟩
  rw [ho.block eb (lt_of_some h.2.2.2) (by rintro (rfl | rfl) <;> omega)]
  exact h.2.2.2
theorem md2_A {U : Nat → Prop} {w wr wc wv w3 : World} {sb bm br bb n ob eb : Nat} {A B C D : Int} {s : List UInt8} {f f1 : Nat → UInt8} {R R1 : Nat → Nat} {pc pc1 : Nat} {b : Bool} {c : Int} {t : Nat} (h0 : HsAt (fun k => U k ∨ k = ob) wr sb bm br bb n f f R pc R pc) (h : Md1 U w wr sb bm br bb n ob eb A B C D s f f1 R R1 pc pc1 b c t wc) (hp : Pd U wc wv sb bm br bb n ob eb f1 R1 pc1 w3) : Md2 U w wr sb bm br bb n ob eb w3.heap.size A B C D s f1 R1 pc1 b c t (w3.alloc (.cells #[.bool b, .int .i64 c, .int .u32 (t : Int)] 93)) := by
  obtain ⟨o1, o2, o3⟩ := md2_on h0 h hp.2.1
  have ha : Only (fun _ => False) w3 (w3.alloc (.cells #[.bool b, .int .i64 c, .int .u32 (t : Int)] 93)) := (Only.refl _ _).alloc _
  exact ⟨(h0.less hp.1 (fun k hk => Or.inl hk)).only ha, o1.alloc _, by rw [ha.block eb (lt_of_some o2) (fun h => h)]; exact o2, Array.getElem?_push_size⟩
theorem md2_B {U : Nat → Prop} {w wr wc wv w3 : World} {sb bm br bb n ob eb : Nat} {A B C D : Int} {s : List UInt8} {f f1 : Nat → UInt8} {R R1 : Nat → Nat} {pc pc1 : Nat} {b : Bool} {c : Int} {t : Nat} (h0 : HsAt (fun k => U k ∨ k = ob) wr sb bm br bb n f f R pc R pc) (h : Md1 U w wr sb bm br bb n ob eb A B C D s f f1 R R1 pc pc1 b c t wc) (hp : Pd U wc wv sb bm br bb n ob eb f1 R1 pc1 w3) (hv : wc.heap.size < wv.heap.size) {x y z : Value} (hz : w3.heap[wc.heap.size]? = some (.cells #[x, y, z] 93 (0, 0))) : Md2 U w wr sb bm br bb n ob eb wc.heap.size A B C D s f1 R1 pc1 b c t (((w3.setCell ⟨wc.heap.size, 0, none⟩ (.bool b)).setCell ⟨wc.heap.size, 1, none⟩ (.int .i64 c)).setCell ⟨wc.heap.size, 2, none⟩ (.int .u32 (t : Int))) := by
  obtain ⟨o1, o2, o3⟩ := md2_on h0 h hp.2.1
  have e := ev3_set hz (.bool b) (.int .i64 c) (.int .u32 (t : Int))
  have h1 := h0.st.sbl
  have h2 := lt_of_some h0.st.r.r
  have h3 := lt_of_some h0.st.r.b
  have h4 := lt_of_some h.2.2.2
  exact ⟨h0.less (hp.1.side e.2 (Or.inr ⟨Nat.le_refl _, hv⟩) (by omega) (by omega) (by omega)) (fun k hk => Or.inl hk), Only.setCell (Only.setCell (Only.setCell o1 (Or.inr o3) _) (Or.inr o3) _) (Or.inr o3) _, by rw [e.2.block eb (lt_of_some o2) (by omega)]; exact o2, e.1⟩
theorem drew_lt (w : World) (o : Obj) : w.heap.size < (w.drew.alloc o).heap.size := by show _ < (Array.push w.heap o).size; rw [Array.size_push]; omega
theorem ev_kept {wr w3 : World} {o : Obj} (h : ∀ k, wr.heap.size ≤ k → k < (wr.drew.alloc o).heap.size → w3.heap[k]? = (wr.drew.alloc o).heap[k]?) : w3.heap[wr.heap.size]? = some o := by
  rw [h _ (Nat.le_refl _) (by show _ < (Array.push wr.heap o).size; rw [Array.size_push]; omega)]
  show (Array.push wr.heap o)[wr.heap.size]? = some o
  exact Array.getElem?_push_size
set_option maxRecDepth 100000 in
set_option maxHeartbeats 4000000 in
theorem steps_loop {U : Nat → Prop} {w W : World} {sb bm br bb n : Nat} {f : Nat → UInt8} {R : Nat → Nat} {pc : Nat} (A B C D : Int) (hA : I64 A) (hC : I64 C) (s : List UInt8) (h0 : LpS U w sb bm br bb n w.heap.size A B C D s f R pc (w.alloc (.cells (opv 15 A B C D ⟨s.toArray⟩) 51))) (hg : U 0 ∧ U 1 ∧ U 2) (hgn : (0 ≠ bb ∧ 0 ≠ sb) ∧ (1 ≠ bb ∧ 1 ≠ sb) ∧ (2 ≠ bb ∧ 2 ≠ sb)) :
    Calls Tryz.prog 14 #[.pointer (some ⟨sb, 0, none⟩), .agg (opv 15 A B C D ⟨s.toArray⟩)] w fun e w' => e = .returned (.bool true) ∧ ∃ f1 R1 pc1, LpS U w sb bm br bb n w.heap.size A B C D s f1 R1 pc1 w' := by
  have HPK := Vx.hid (fun wv => pickL_any 20 (by decide) (by decide) C hC.1 hC.2 wv)
  have hpl : pickL C 20 < 20 := Nat.mod_lt _ (by decide)
  generalize pickL C 20 = P at HPK hpl
  have hw1 : IntKind.i64.wrap (1 + (P : Int)) = 1 + (P : Int) := by rw [IntKind.wrap_i64]; omega
  have HG := Vx.hid (⟨hg, hgn⟩ : _ ∧ _)
  have HA := Vx.hid hA
  have HL0 := Vx.hid h0
  have hc0 : (w.alloc (.cells (opv 15 A B C D ⟨s.toArray⟩) 51)).cell? ⟨w.heap.size, 0, none⟩ = some (.int .i64 15) := (cell_of_row _ _ 0 _ _ (0, 0) h0.op.o).trans rfl
  obtain ⟨wA, hwA⟩ : ∃ wA, wA = w.alloc (.cells (opv 15 A B C D ⟨s.toArray⟩) 51) := ⟨_, rfl⟩
  rw [← hwA] at HL0 hc0
  obtain ⟨p, hp⟩ : ∃ p : ByteArray, p = ⟨s.toArray⟩ := ⟨_, rfl⟩
  have HP := Vx.hid hp
  rw [← hp] at hwA ⊢
  clear h0 hA hC hg hgn hp
  unfold opv at *
  go_enter Tryz.func14, Tryz.ntmps14
  go_wp2_with fail
  rw [← hwA]
  clear hwA
  obtain ⟨ob, hob⟩ : ∃ ob, ob = w.heap.size := ⟨_, rfl⟩
  rw [← hob] at HL0 hc0
  have HOB := Vx.hid hob
  simp only [← hob]
  clear hob
  go_loopw [5] (fun d wr => ∃ (k : Nat) (f : Nat → UInt8) (R : Nat → Nat) (pc : Nat), d = .int .i64 (k : Int) ∧ k ≤ 20 ∧ Hid (LpS U w sb bm br bb n ob A B C D s f R pc wr)) (fun d _ => 21 - (intOf d).toNat)
  case atStart => exact ⟨0, f, R, pc, rfl, by omega, HL0⟩
  case round =>
    clear HL0 hc0
    obtain ⟨k, f, R, pc, rfl, hk, HL⟩ := hrel
    have hoc := (HL.out.op.cells).2.2.1
    by_cases hlt : k < 1 + P
    · obtain ⟨b, c, t, f1, R1, pc1, ok1, z1, hP, hD⟩ := HL.out.hs.both HL.out.gl.1 HL.out.gl.2.1 HL.out.gl.2.2 ⟨Or.inl HG.out.1.1, Or.inl HG.out.1.2.1, Or.inl HG.out.1.2.2⟩ HL.out.ok HL.out.z (nearF A n)
      have HPP := Vx.hid hP
      have HDD := Vx.hid hD
      have HOK := Vx.hid (⟨ok1, z1⟩ : _ ∧ _)
      have h1 : (k : Int) < 1 + (P : Int) := by omega
      clear ok1 z1 hP hD hlt
      have HPG : Hid (∀ wv, Only (fun _ => False) wr wv → Calls Tryz.prog 33 #[.pointer (some ⟨sb, 0, none⟩), .int .i64 A] wv fun e w' => e = .returned (.int .i64 (nearF A n)) ∧ w' = wv) := fun wv hv => pageL_any (HL.out.hs.st.only hv) A HA.out
      have c0 := HL.out.hs.st.c0
      have oA := (HL.out.op.cells).1
      have hsl := HL.out.hs.st.sbl
      have hol : ob < wr.heap.size := lt_of_some HL.out.op.o
      have g1 : ¬ wr.heap.size = sb := by omega
      have g2 : ¬ sb = wr.heap.size := by omega
      have g3 : ¬ wr.heap.size = ob := by omega
      have g4 : ¬ ob = wr.heap.size := by omega
      go_upto_region 13 with (refine (HPK.out _).mono ?_; rintro e w' ⟨rfl, h⟩; have h2 := h.symm; clear h; subst h2)
      go_cut [6] from 59 to 101 (fun v6 wx => ∃ eb, v6 = .pointer (some ⟨eb, 0, none⟩) ∧ Hid (Md1 U w wr sb bm br bb n ob eb A B C D s f f1 R R1 pc pc1 b c t wx))
      case first =>
        go_region_with (first
          | (go_at_call 33; refine (HPG.out _ (by repeat' (first | exact Only.refl _ _ | refine Only.drew ?_ | refine Only.alloc ?_ _))).mono ?_; rintro e w' ⟨rfl, h⟩; have h2 := h.symm; clear h; subst h2)
          | (go_at_call 53; refine (HPP.out _ (by repeat' (first | exact Only.refl _ _ | refine Only.drew ?_ | refine Only.alloc ?_ _))).mono ?_; rintro e w3 ⟨rfl, HS⟩; first | (have HZ := Vx.hid (ev_kept HS.out.2.2.1); obtain ⟨⟨z0, z1, z2⟩, zf⟩ := ev3_cells HZ.out) | skip))
        all_goals (go_wp2_with fail; go_meet)
        all_goals first
          | exact ⟨_, rfl, md1_A HL.out.hs HS.out.1 HS.out.2.1⟩
          | exact ⟨_, rfl, md1_B HL.out.hs HS.out.1 HS.out.2.1 (drew_lt _ _) HZ.out⟩
      case rest =>
        clear c0 oA hsl hol g1 g2 g3 g4 HPG HPP
        obtain ⟨eb, rfl, HM⟩ := hcut
        have HD2 := Vx.hid (doc_form HM.out HDD.out)
        clear HDD
        have HPG : Hid (∀ wv, Only (fun _ => False) wc wv → Calls Tryz.prog 33 #[.pointer (some ⟨sb, 0, none⟩), .int .i64 A] wv fun e w' => e = .returned (.int .i64 (nearF A n)) ∧ w' = wv) := fun wv hv => pageL_any (HM.out.1.st.only hv) A HA.out
        have c1 := HM.out.1.st.c1
        have HOP : Hid (OpAt wc ob 15 A B C D s) := HL.out.op.only HM.out.2.1 (fun hx => hx.elim (fun h => h (Or.inr rfl)) (fun h => HL.out.nb.2.1 h))
        have oA := (HOP.out.cells).1
        have hsl := HM.out.1.st.sbl
        have hol : ob < wc.heap.size := lt_of_some HOP.out.o
        have g1 : ¬ wc.heap.size = sb := by omega
        have g2 : ¬ sb = wc.heap.size := by omega
        have g3 : ¬ wc.heap.size = ob := by omega
        have g4 : ¬ ob = wc.heap.size := by omega
        clear hoc
        obtain ⟨wq, hwq⟩ : ∃ wq, wq = wc := ⟨_, rfl⟩
        subst hwq
        go_upto_region 14 with fail
        go_cut [7] from 59 to 101 (fun v7 wx => ∃ ec, v7 = .pointer (some ⟨ec, 0, none⟩) ∧ Hid (Md2 U w wr sb bm br bb n ob eb ec A B C D s f1 R1 pc1 b c t wx))
        case first =>
          go_region_with (first
            | (go_at_call 33; refine (HPG.out _ (by repeat' (first | exact Only.refl _ _ | refine Only.drew ?_ | refine Only.alloc ?_ _))).mono ?_; rintro e w' ⟨rfl, h⟩; have h2 := h.symm; clear h; subst h2)
            | (go_at_call 54; refine (HD2.out _ (by repeat' (first | exact Only.refl _ _ | refine Only.drew ?_ | refine Only.alloc ?_ _))).mono ?_; rintro e w3 ⟨rfl, HS⟩; first | (have HZ := Vx.hid (ev_kept HS.out.2.2); obtain ⟨⟨z0, z1, z2⟩, zf⟩ := ev3_cells HZ.out) | skip))
          all_goals (go_wp2_with fail; go_meet)
          all_goals first
            | exact ⟨_, rfl, md2_A HL.out.hs HM.out HS.out⟩
            | exact ⟨_, rfl, md2_B HL.out.hs HM.out HS.out (drew_lt _ _) HZ.out⟩
        case rest =>
          clear c1 oA hsl hol g1 g2 g3 g4 HPG HD2 HOP
          obtain ⟨ec, rfl, HN⟩ := hcut
          have HRG := Vx.hid (regs_ok (HN.out.1.hx) HOK.out.1)
          go_wp2_with fail
          refine HRG.out.mono ?_
          rintro e w6 ⟨rfl, ho⟩
          have HO := Vx.hid ho
          obtain ⟨⟨x0, x1, x2⟩, xf⟩ := ev3_cells ((ho.block eb (lt_of_some HN.out.2.2.1) (fun h => h)).trans HN.out.2.2.1)
          obtain ⟨⟨y0, y1, y2⟩, yf⟩ := ev3_cells ((ho.block ec (lt_of_some HN.out.2.2.2) (fun h => h)).trans HN.out.2.2.2)
          have HNX : Hid (LpS U w sb bm br bb n ob A B C D s f1 R1 pc1 w6) := HL.out.next HG.out.1 HG.out.2 (HN.out.1.only ho) (HN.out.2.1.trans (ho.mono (fun _ _ h => h.elim))) HOK.out.1 HOK.out.2
          clear ho
          cases b
          · go_wp2_with fail
            exact ⟨⟨k + 1, f1, R1, pc1, by rw [Int.natCast_add]; rfl, by omega, HNX⟩, by show 21 - ((k : Int) + 1).toNat < 21 - ((k : Nat) : Int).toNat; omega⟩
          · go_wp2_with fail
            go_ret
            exact ⟨rfl, f1, R1, pc1, HOB.out ▸ HNX.out⟩
    · have h1 : ¬ (k : Int) < 1 + (P : Int) := by omega
      clear hlt
      go_wp2_with fail
      refine (HPK.out _).mono ?_
      rintro e w' ⟨rfl, h⟩
      have h2 := h.symm; clear h; subst h2
      go_wp2_with fail
      all_goals
        go_ret
        exact ⟨rfl, f, R, pc, HOB.out ▸ HL.out⟩
end Go.Proofs.YtflmobffeeocdaaGreatDoor

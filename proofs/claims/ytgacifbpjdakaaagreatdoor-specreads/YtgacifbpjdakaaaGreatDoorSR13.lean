/- Package spec's reader: part (gen_sr13.py). -/
import Derived.Test.YtgacifbpjdakaaaGreatDoorSR12
import Derived.Test.YtgacifbpjdakaaaGreatDoorSR3
namespace Go.Proofs.YtgacifbpjdakaaaGreatDoor
open Go.ChangeShapes Go.WideShapes Go.ChangeAt Go.RowKit
open Go.Vx
set_option linter.unusedVariables false
set_option linter.unusedSimpArgs false
variable {W w w2 : World} {rb cb : Nat} {V : Rv} {vw : Value} {ws : List (List UInt8)} {T : Tx} {x : List UInt8} {e : En}

theorem en_size (e : En) : (enL.cf e).toArray.size = 12 := rfl
theorem infoC : (Tryz.prog.info? 84).map (·.size) = some 12 := by kernel_rfl
/-- A capability on its way. -/
def CsAt (w : World) (cb : Nat) (e : En) : Prop := w.heap[cb]? = some (.cells (enL.cf e).toArray 84 (0, 0))
theorem CsAt.cell (h : CsAt w cb e) (r : Nat) (hr : r < 12) : ∃ x, w.cell? ⟨cb, r, none⟩ = some x := by
  have h1 := cell_of_row _ _ r _ _ (0, 0) h
  exact ⟨_, h1.trans (Array.getElem?_eq_getElem (by rw [en_size]; exact hr))⟩
theorem CsAt.set (h : CsAt w cb e) (i : Nat) (v : Value) (e' : En) (he : (enL.cf e).toArray.setIfInBounds i v = (enL.cf e').toArray) : CsAt (w.setCell ⟨cb, i, none⟩ v) cb e' := by
  unfold CsAt at h ⊢
  rw [heap_setCell_same _ _ i _ _ _ h, he]
theorem CsAt.keep {S : Nat → Prop} (h : CsAt w cb e) (ho : Only S w w2) (hS : ¬ S cb) : CsAt w2 cb e := (ho.block cb (lt_of_some h) hS).trans h
theorem run_load_cp (h : CsAt w cb e) : (Instr.loadAt 84 (.pointer (some ⟨cb, 0, none⟩))).run Tryz.prog w = .ok (.agg (enL.cf e).toArray) w := by
  have h1 := run_loadVar_row (P := Tryz.prog) w cb 84 84 (enL.cf e).toArray (0, 0) _ h Tryz.underlying84 rfl (by rw [infoC, en_size])
  simp only [Instr.loadAt, Instr.sureAddr, Sem.run_bind, Sem.run_pure, Result.andThen]
  exact h1
theorem ld_cp {o : Oper} {act : Act} (x : Operand) (ho : o.op = .load 84 x) (hx : act.eval x = .pointer (some ⟨cb, 0, none⟩)) (h : CsAt w cb e) : (execOp act.eval o).run Tryz.prog w = .ok (.value (.agg (enL.cf e).toArray)) w := by
  have hrun := run_load_cp h
  generalize (enL.cf e).toArray = c at hrun
  simp only [execOp, ho, hx]
  simp [hrun, Result.andThen]
set_option maxRecDepth 20000 in
theorem run_row_cp (e : En) (w : World) : (Instr.buildSlice 26 1 #[(0, .agg (enL.cf e).toArray)]).run Tryz.prog w = .ok (.slice (some ⟨w.heap.size, 0, none⟩) 1 1) (w.alloc (.cells (enL.cf e).toArray 84)) := by
  kernel_rfl
theorem row_cp {o : Oper} {act : Act} {K : Act → World → Prop} {Q : Exit → Act → World → Prop} (x : Operand) (d : Nat) (ho : o.op = .buildSlice 26 1 #[(0, x)]) (hd : o.dst = some d) (hx : act.eval x = .agg (enL.cf e).toArray) (h : K (act.put (some d) (.slice (some ⟨w.heap.size, 0, none⟩) 1 1)) (w.alloc (.cells (enL.cf e).toArray 84))) : Oper.wp Tryz.prog o act w K Q := by
  have hrun := run_row_cp e w
  generalize (enL.cf e).toArray = c at hrun hx h
  unfold Oper.wp
  simp only [execOp, ho]
  simp [hx, hrun, Result.andThen]
  rw [Oper.upon_value, hd]
  exact h
/-- The reader and a capability on its way. -/
structure StC (W w : World) (rb : Nat) (V : Rv) (ws : List (List UInt8)) (T : Tx) (cb : Nat) (e : En) : Prop where
  x : ∃ vw', RdAt W w rb V vw' ws T
  t : CsAt w cb e
  f : FrR rb V cb
  b : W.heap.size ≤ cb
theorem StC.call {ws' : List (List UInt8)} (h : StC W w rb V ws T cb e) (hp : RdP W w rb V ws' T w2) : StC W w2 rb V ws' T cb e := ⟨hp.2, h.t.keep hp.1 h.f.1, h.f, h.b⟩
theorem StC.put {e' : En} (h : StC W w rb V ws T cb e) (ho : Only (fun k => k = cb) w w2) (ht : CsAt w2 cb e') : StC W w2 rb V ws T cb e' := by
  obtain ⟨vw', hx⟩ := h.x
  exact ⟨⟨vw', hx.apart h.t (by decide) h.f h.b ho⟩, ht, h.f, h.b⟩
theorem StC.set1 {e' : En} (h : StC W w rb V ws T cb e) (i : Nat) (v : Value) (he : (enL.cf e).toArray.setIfInBounds i v = (enL.cf e').toArray) : StC W (w.setCell ⟨cb, i, none⟩ v) rb V ws T cb e' := h.put (only1' _ _ _ _) (h.t.set i v e' he)
theorem StC.set2 {e' e2 : En} (h : StC W w rb V ws T cb e) (i j : Nat) (v u : Value) (he : (enL.cf e).toArray.setIfInBounds i v = (enL.cf e2).toArray) (he2 : (enL.cf e2).toArray.setIfInBounds j u = (enL.cf e').toArray) : StC W ((w.setCell ⟨cb, i, none⟩ v).setCell ⟨cb, j, none⟩ u) rb V ws T cb e' := (h.set1 i v he).set1 j u he2
/-- Behind a part of a capability. -/
def PtP (W w : World) (rb : Nat) (V : Rv) (ws : List (List UInt8)) (T : Tx) (cb : Nat) (e : En) (w' : World) : Prop := Only (fun k => k = rb ∨ k = cb) w w' ∧ StC W w' rb V ws T cb e
theorem lift_r {a b : World} (h : Only (fun k => k = rb) a b) : Only (fun k => k = rb ∨ k = cb) a b := h.mono (fun _ _ h => Or.inl h)
theorem lift_c {a b : World} (h : Only (fun k => k = cb) a b) : Only (fun k => k = rb ∨ k = cb) a b := h.mono (fun _ _ h => Or.inr h)
set_option maxRecDepth 20000 in
set_option maxHeartbeats 1000000 in
theorem part_badge (n : Nat) (hn : n < 4294967296) (h : StC W w rb V ([98, 97, 100, 103, 101] :: Lib.decDigits n :: ws) T cb e) (hl : ws.length ≤ 10000) :
    Calls Tryz.prog 79 #[.pointer (some ⟨rb, 0, none⟩), .pointer (some ⟨cb, 0, none⟩)] w fun x w' => x = .returned (.string ⟨#[98, 97, 100, 103, 101]⟩) ∧ Hid (PtP W w rb V ws T cb { e with cap := { e.cap with badge := (n : Int) } } w') := by
  have HI0 := Vx.hid h
  have HLL := Vx.hid hl
  have HN := Vx.hid hn
  have hwr : IntKind.u32.wrap (n : Int) = (n : Int) := by rw [IntKind.wrap_u32]; omega
  clear hn
  clear h hl
  obtain ⟨vw0, hx0⟩ := HI0.out.x
  go_enter Tryz.func79, Tryz.ntmps79
  go_wp2_with fail
  refine (word_ok hx0 (by have := HLL.out; simp; omega)).mono ?_
  rintro e9 w1 ⟨rfl, H1⟩
  have HI1 := Vx.hid (HI0.out.call H1.out)
  have HO1 := Vx.hid H1.out.1
  clear H1 hx0
  obtain ⟨vw1, hx1⟩ := HI1.out.x
  go_wp2_with fail
  refine (number_ok n HN.out hx1 (by have := HLL.out; omega)).mono ?_
  rintro e9 w2 ⟨rfl, H2⟩
  have HI2 := Vx.hid (HI1.out.call H2.out)
  have HO2 := Vx.hid (HO1.out.trans H2.out.1)
  clear H2 hx1
  obtain ⟨q2_5, c2_5⟩ := HI2.out.t.cell 5 (by decide)
  have f2_5 := froz HI2.out.t 5
  go_wp2_with fail
  go_ret
  exact ⟨rfl, (lift_r HO2.out).trans (lift_c (only1' _ _ _ _)), HI2.out.set1 5 _ rfl⟩
set_option maxRecDepth 20000 in
set_option maxHeartbeats 1000000 in
theorem part_guard (n : Nat) (hn : n < 4294967296) (h : StC W w rb V ([103, 117, 97, 114, 100] :: [48, 120, 55] :: Lib.decDigits n :: ws) T cb e) (hl : ws.length ≤ 10000) :
    Calls Tryz.prog 79 #[.pointer (some ⟨rb, 0, none⟩), .pointer (some ⟨cb, 0, none⟩)] w fun x w' => x = .returned (.string ⟨#[103, 117, 97, 114, 100]⟩) ∧ Hid (PtP W w rb V ws T cb { e with cap := { e.cap with guard := 7, gbits := (n : Int) } } w') := by
  have HI0 := Vx.hid h
  have HLL := Vx.hid hl
  have HN := Vx.hid hn
  clear hn
  clear h hl
  obtain ⟨vw0, hx0⟩ := HI0.out.x
  go_enter Tryz.func79, Tryz.ntmps79
  go_wp2_with fail
  refine (word_ok hx0 (by have := HLL.out; simp; omega)).mono ?_
  rintro e9 w1 ⟨rfl, H1⟩
  have HI1 := Vx.hid (HI0.out.call H1.out)
  have HO1 := Vx.hid H1.out.1
  clear H1 hx0
  obtain ⟨vw1, hx1⟩ := HI1.out.x
  go_wp2_with fail
  refine (number_hex hx1 (by have := HLL.out; simp; omega)).mono ?_
  rintro e9 w2 ⟨rfl, H2⟩
  have HI2 := Vx.hid (HI1.out.call H2.out)
  have HO2 := Vx.hid (HO1.out.trans H2.out.1)
  clear H2 hx1
  obtain ⟨q2_6, c2_6⟩ := HI2.out.t.cell 6 (by decide)
  have f2_6 := froz HI2.out.t 6
  obtain ⟨w3, hw3⟩ : ∃ w3, w3 = w2.setCell ⟨cb, 6, none⟩ (.int .u32 7) := ⟨_, rfl⟩
  have HI3 := Vx.hid (show StC W (w2.setCell ⟨cb, 6, none⟩ (.int .u32 7)) rb V _ T cb { e with cap := { e.cap with guard := 7 } } from HI2.out.set1 6 _ rfl)
  rw [← hw3] at HI3
  have HO3 : Hid (Only (fun k => k = rb ∨ k = cb) w w3) := by rw [hw3]; exact (lift_r HO2.out).trans (lift_c (only1' _ _ _ _))
  obtain ⟨vw3, hx3⟩ := HI3.out.x
  go_wp2_with fail
  rw [← hw3]
  clear c2_6 f2_6 hw3
  refine (number_ok n HN.out hx3 (by have := HLL.out; omega)).mono ?_
  rintro e9 w4 ⟨rfl, H4⟩
  have HI4 := Vx.hid (HI3.out.call H4.out)
  have HO4 := Vx.hid (HO3.out.trans (lift_r H4.out.1))
  clear H4 hx3
  obtain ⟨q4_7, c4_7⟩ := HI4.out.t.cell 7 (by decide)
  have f4_7 := froz HI4.out.t 7
  go_wp2_with fail
  go_ret
  exact ⟨rfl, HO4.out.trans (lift_c (only1' _ _ _ _)), HI4.out.set1 7 _ rfl⟩
set_option maxRecDepth 20000 in
set_option maxHeartbeats 1000000 in
theorem part_from {y : List UInt8} (k : Int) (b : Int) (fy : Fnd T y (k, b)) (hk : k = 5 ∨ k = 6) (n : Nat) (hn : n < 4294967296) (h : StC W w rb V ([102, 114, 111, 109] :: y :: Lib.decDigits n :: ws) T cb e) (hl : ws.length ≤ 10000) :
    Calls Tryz.prog 79 #[.pointer (some ⟨rb, 0, none⟩), .pointer (some ⟨cb, 0, none⟩)] w fun x w' => x = .returned (.string ⟨#[102, 114, 111, 109]⟩) ∧ Hid (PtP W w rb V ws T cb { e with from' := (b, (n : Int)) } w') := by
  have HI0 := Vx.hid h
  have HLL := Vx.hid hl
  have HN : Hid (Fnd T y (k, b) ∧ ((k, b).1 = 5 ∨ (k, b).1 = 6) ∧ n < 4294967296) := ⟨fy, hk, hn⟩
  clear hn fy hk
  clear h hl
  obtain ⟨vw0, hx0⟩ := HI0.out.x
  go_enter Tryz.func79, Tryz.ntmps79
  go_wp2_with fail
  refine (word_ok hx0 (by have := HLL.out; simp; omega)).mono ?_
  rintro e9 w1 ⟨rfl, H1⟩
  have HI1 := Vx.hid (HI0.out.call H1.out)
  have HO1 := Vx.hid H1.out.1
  clear H1 hx0
  obtain ⟨vw1, hx1⟩ := HI1.out.x
  go_wp2_with fail
  refine (slot_f HN.out.1 HN.out.2.1 n HN.out.2.2 hx1 (by have := HLL.out; omega)).mono ?_
  rintro e9 w2 ⟨rfl, H2⟩
  have HI2 := Vx.hid (HI1.out.call H2.out)
  have HO2 := Vx.hid (HO1.out.trans H2.out.1)
  clear H2 hx1
  obtain ⟨q2_10, c2_10⟩ := HI2.out.t.cell 10 (by decide)
  have f2_10 := froz HI2.out.t 10
  obtain ⟨q2_11, c2_11⟩ := HI2.out.t.cell 11 (by decide)
  have f2_11 := froz HI2.out.t 11
  go_wp2_with fail
  go_ret
  exact ⟨rfl, (lift_r HO2.out).trans (lift_c ((only1' _ _ _ _).trans (only1' _ _ _ _))), HI2.out.set2 (e2 := { e with from' := (b, e.from'.2) }) 10 11 _ _ rfl rfl⟩
end Go.Proofs.YtgacifbpjdakaaaGreatDoor

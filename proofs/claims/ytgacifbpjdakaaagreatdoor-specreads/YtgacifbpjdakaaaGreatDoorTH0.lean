/- A thread (37 cells): as it lies; set, loaded, built (gen_th0.py). -/
import Derived.Test.YtgacifbpjdakaaaGreatDoorTD1
import Derived.Deep.MidRow
import Derived.OrdersHeld
namespace Go.Proofs.YtgacifbpjdakaaaGreatDoor
open Go.ChangeShapes Go.WideShapes Go.ChangeAt Go.RowKit
open Go.Vx
set_option linter.unusedVariables false
set_option linter.unusedSimpArgs false
variable {w w2 : World}
theorem th_all (a : Th) : (thL.cf a).toArray.all (·.oneCell') = true := by
  rw [Array.all_eq_true_iff_forall_mem]
  intro u hu
  exact thL.one a u (by simpa using hu)
theorem th_size (a : Th) : (thL.cf a).toArray.size = 37 := rfl
theorem infoT : (Tryz.prog.info? 91).map (·.size) = some 37 := by kernel_rfl
def zth : Th := ⟨0, 0, 0, false, fun _ => 0, 0⟩
/-- A thread on its way. -/
def ThAt (w : World) (sb : Nat) (a : Th) : Prop := w.heap[sb]? = some (.cells (thL.cf a).toArray 91 (0, 0))
theorem th_set (a : Th) (b : Int) : ∀ (r : Nat), r < 32 → (thL.cf a).toArray.setIfInBounds (4 + r) (.int .u32 b) = (thL.cf { a with reg := fun j => if j = r then b else a.reg j }).toArray
  | 0, _ => rfl
  | 1, _ => rfl
  | 2, _ => rfl
  | 3, _ => rfl
  | 4, _ => rfl
  | 5, _ => rfl
  | 6, _ => rfl
  | 7, _ => rfl
  | 8, _ => rfl
  | 9, _ => rfl
  | 10, _ => rfl
  | 11, _ => rfl
  | 12, _ => rfl
  | 13, _ => rfl
  | 14, _ => rfl
  | 15, _ => rfl
  | 16, _ => rfl
  | 17, _ => rfl
  | 18, _ => rfl
  | 19, _ => rfl
  | 20, _ => rfl
  | 21, _ => rfl
  | 22, _ => rfl
  | 23, _ => rfl
  | 24, _ => rfl
  | 25, _ => rfl
  | 26, _ => rfl
  | 27, _ => rfl
  | 28, _ => rfl
  | 29, _ => rfl
  | 30, _ => rfl
  | 31, _ => rfl
  | (n + 32), h => by omega
theorem set_row {g : Nat} {t : TypeId} : ∀ (vs pre suf : List Value) (w : World), suf.length = vs.length → w.heap[g]? = some (.cells (pre ++ suf).toArray t (0, 0)) → (w.setCells g pre.length vs).heap[g]? = some (.cells (pre ++ vs).toArray t (0, 0)) ∧ Only (fun k => k = g) w (w.setCells g pre.length vs)
  | [], pre, suf, w, hl, h => by
    have : suf = [] := List.length_eq_zero_iff.1 hl
    subst this
    exact ⟨h, Only.refl _ w⟩
  | v :: r, pre, [], w, hl, h => by cases hl
  | v :: r, pre, s :: suf, w, hl, h => by
    have h1 := heap_setCell_same w g pre.length _ _ v h
    have e1 : (pre ++ s :: suf).toArray.setIfInBounds pre.length v = ((pre ++ [v]) ++ suf).toArray := by
      simp
    rw [e1] at h1
    obtain ⟨h2, h3⟩ := set_row r (pre ++ [v]) suf _ (by simpa using hl) h1
    have e2 : (pre ++ [v]).length = pre.length + 1 := by simp
    rw [e2] at h2 h3
    refine ⟨?_, (Only.setCell (S := fun k => k = g) (Only.refl _ w) (p := ⟨g, pre.length, none⟩) (Or.inl rfl) v).trans h3⟩
    rw [List.append_assoc] at h2
    exact h2
theorem there_of {g : Nat} {cs : Array Value} {t : TypeId} (h : w.heap[g]? = some (.cells cs t (0, 0))) : w.there g 0 cs.size := fun j hj => by
  rw [Nat.zero_add]
  refine ⟨?_, froz h j⟩
  rw [cell_of_row _ _ j _ _ (0, 0) h, Array.getElem?_eq_getElem hj]
  rfl
theorem ThAt.set {a : Th} {sb : Nat} (h : ThAt w sb a) (b : Int) (r : Nat) (hr : r < 32) : ThAt (w.setCell ⟨sb, 4 + r, none⟩ (.int .u32 b)) sb { a with reg := fun j => if j = r then b else a.reg j } := by
  unfold ThAt at h ⊢
  rw [heap_setCell_same _ _ (4 + r) _ _ _ h, th_set a b r hr]
theorem ThAt.cell {a : Th} {sb : Nat} (h : ThAt w sb a) (r : Nat) (hr : r < 37) : ∃ x, w.cell? ⟨sb, r, none⟩ = some x := by
  have h1 := cell_of_row _ _ r _ _ (0, 0) h
  exact ⟨_, h1.trans (Array.getElem?_eq_getElem (by rw [th_size]; exact hr))⟩
theorem ThAt.keep {S : Nat → Prop} {a : Th} {sb : Nat} (h : ThAt w sb a) (ho : Only S w w2) (hS : ¬ S sb) : ThAt w2 sb a := (ho.block sb (lt_of_some h) hS).trans h
theorem ThAt.set_num {a : Th} {sb : Nat} (h : ThAt w sb a) (b : Int) : ThAt (w.setCell ⟨sb, 0, none⟩ (.int .i64 b)) sb { a with num := b } := by
  unfold ThAt at h ⊢
  rw [heap_setCell_same _ _ 0 _ _ _ h]
  rfl
theorem ThAt.set_dom {a : Th} {sb : Nat} (h : ThAt w sb a) (b : Int) : ThAt (w.setCell ⟨sb, 1, none⟩ (.int .i64 b)) sb { a with dom := b } := by
  unfold ThAt at h ⊢
  rw [heap_setCell_same _ _ 1 _ _ _ h]
  rfl
theorem ThAt.set_pri {a : Th} {sb : Nat} (h : ThAt w sb a) (b : Int) : ThAt (w.setCell ⟨sb, 2, none⟩ (.int .i64 b)) sb { a with pri := b } := by
  unfold ThAt at h ⊢
  rw [heap_setCell_same _ _ 2 _ _ _ h]
  rfl
theorem ThAt.set_pc {a : Th} {sb : Nat} (h : ThAt w sb a) (b : Int) : ThAt (w.setCell ⟨sb, 36, none⟩ (.int .u32 b)) sb { a with pc := b } := by
  unfold ThAt at h ⊢
  rw [heap_setCell_same _ _ 36 _ _ _ h]
  rfl
theorem ThAt.set_rdy {a : Th} {sb : Nat} (h : ThAt w sb a) (b : Bool) : ThAt (w.setCell ⟨sb, 3, none⟩ (.bool b)) sb { a with rdy := b } := by
  unfold ThAt at h ⊢
  rw [heap_setCell_same _ _ 3 _ _ _ h]
  rfl
theorem run_load_th {a : Th} {sb : Nat} (h : ThAt w sb a) : (Instr.loadAt 91 (.pointer (some ⟨sb, 0, none⟩))).run Tryz.prog w = .ok (.agg (thL.cf a).toArray) w := by
  have h1 := run_loadVar_row (P := Tryz.prog) w sb 91 91 (thL.cf a).toArray (0, 0) _ h Tryz.underlying91 rfl (by rw [infoT, th_size])
  simp only [Instr.loadAt, Instr.sureAddr, Sem.run_bind, Sem.run_pure, Result.andThen]
  exact h1
/-- A thread loaded whole, an operation. -/
theorem ld_th {o : Oper} {act : Act} (x : Operand) (ho : o.op = .load 91 x) {a : Th} {sb : Nat} (hx : act.eval x = .pointer (some ⟨sb, 0, none⟩)) (h : ThAt w sb a) : (execOp act.eval o).run Tryz.prog w = .ok (.value (.agg (thL.cf a).toArray)) w := by
  have hrun := run_load_th h
  generalize (thL.cf a).toArray = c at hrun
  simp only [execOp, ho, hx]
  simp [hrun, Result.andThen]
set_option maxRecDepth 20000 in
theorem run_row_th (a : Th) (w : World) : (Instr.buildSlice 28 1 #[(0, .agg (thL.cf a).toArray)]).run Tryz.prog w = .ok (.slice (some ⟨w.heap.size, 0, none⟩) 1 1) (w.alloc (.cells (thL.cf a).toArray 91)) := by
  kernel_rfl
/-- A row of one thread made, an operation. -/
theorem row_th {o : Oper} {act : Act} {K : Act → World → Prop} {Q : Exit → Act → World → Prop} (x : Operand) (d : Nat) (ho : o.op = .buildSlice 28 1 #[(0, x)]) (hd : o.dst = some d) {a : Th} (hx : act.eval x = .agg (thL.cf a).toArray) (h : K (act.put (some d) (.slice (some ⟨w.heap.size, 0, none⟩) 1 1)) (w.alloc (.cells (thL.cf a).toArray 91))) : Oper.wp Tryz.prog o act w K Q := by
  have hrun := run_row_th a w
  generalize (thL.cf a).toArray = c at hrun hx h
  unfold Oper.wp
  simp only [execOp, ho]
  simp [hx, hrun, Result.andThen]
  rw [Oper.upon_value, hd]
  exact h
set_option maxRecDepth 20000 in
theorem run_build_th (n d p : Int) (r : Bool) (pc : Int) (w : World) : (Instr.build 91 #[(0, .int .i64 n), (1, .int .i64 d), (2, .int .i64 p), (3, .bool r), (4, .agg (((List.replicate 32 (Value.int .u32 0)) ++ [Value.int .u32 pc]).toArray))]).run Tryz.prog w = .ok (.agg (thL.cf ⟨n, d, p, r, fun _ => 0, pc⟩).toArray) w := by
  kernel_rfl
theorem run_build_ctx (pc : Int) (w : World) : (Instr.build 89 #[(1, .int .u32 pc)]).run Tryz.prog w = .ok (.agg (((List.replicate 32 (Value.int .u32 0)) ++ [Value.int .u32 pc]).toArray)) w := by
  kernel_rfl
theorem bd_ctx {o : Oper} {act : Act} (x : Operand) (ho : o.op = .build 89 #[(1, x)]) {pc : Int} (hx : act.eval x = .int .u32 pc) : (execOp act.eval o).run Tryz.prog w = .ok (.value (.agg (((List.replicate 32 (Value.int .u32 0)) ++ [Value.int .u32 pc]).toArray))) w := by
  have hrun := run_build_ctx pc w
  generalize (((List.replicate 32 (Value.int .u32 0)) ++ [Value.int .u32 pc]).toArray) = c at hrun
  simp only [execOp, ho]
  simp [hx, hrun, Result.andThen]
theorem bd_th {o : Oper} {act : Act} (x0 x1 x2 x3 x4 : Operand) (ho : o.op = .build 91 #[(0, x0), (1, x1), (2, x2), (3, x3), (4, x4)]) {n d p pc : Int} {r : Bool} (h0 : act.eval x0 = .int .i64 n) (h1 : act.eval x1 = .int .i64 d) (h2 : act.eval x2 = .int .i64 p) (h3 : act.eval x3 = .bool r) (h4 : act.eval x4 = .agg (((List.replicate 32 (Value.int .u32 0)) ++ [Value.int .u32 pc]).toArray)) : (execOp act.eval o).run Tryz.prog w = .ok (.value (.agg (thL.cf ⟨n, d, p, r, fun _ => 0, pc⟩).toArray)) w := by
  have hrun := run_build_th n d p r pc w
  generalize (((List.replicate 32 (Value.int .u32 0)) ++ [Value.int .u32 pc]).toArray) = c at hrun h4
  generalize (thL.cf ⟨n, d, p, r, fun _ => 0, pc⟩).toArray = e at hrun
  simp only [execOp, ho]
  simp [h0, h1, h2, h3, h4, hrun, Result.andThen]
/-- A thread stored whole, an operation. -/
theorem st_th {o : Oper} {act : Act} {K : Act → World → Prop} {Q : Exit → Act → World → Prop} (x y : Operand) (ho : o.op = .store 91 x y) (hd : o.dst = none) {a0 a : Th} {sb : Nat} (hx : act.eval x = .pointer (some ⟨sb, 0, none⟩)) (hy : act.eval y = .agg (thL.cf a).toArray) (h0 : ThAt w sb a0) (h : K act (w.setCells sb 0 (thL.cf a))) : Oper.wp Tryz.prog o act w K Q := by
  have ht : w.there sb 0 (thL.cf a).toArray.size := by
    have h9 : w.there sb 0 (thL.cf a0).toArray.size := there_of h0
    rw [th_size] at h9 ⊢
    exact h9
  refine wp_store_mid 91 x y ho sb 0 _ hx hy ht (by rw [infoT, th_size]) (th_all a) ?_
  rw [hd]
  exact h
theorem ThAt.whole {a0 a : Th} {sb : Nat} (h0 : ThAt w sb a0) : ThAt (w.setCells sb 0 (thL.cf a)) sb a ∧ Only (fun k => k = sb) w (w.setCells sb 0 (thL.cf a)) := set_row (thL.cf a) [] (thL.cf a0) w rfl h0
end Go.Proofs.YtgacifbpjdakaaaGreatDoor

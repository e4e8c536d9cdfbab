/- Elements of lists, loaded and compared with themselves (gen_sm0.py). -/
import Derived.Test.YtgacifbpjdakaaaGreatDoorTH0
import Derived.Test.YtgacifbpjdakaaaGreatDoorEQ0
import Derived.Test.YtgacifbpjdakaaaGreatDoorGC
namespace Go.Proofs.YtgacifbpjdakaaaGreatDoor
open Go.ChangeShapes Go.WideShapes Go.ChangeAt Go.RowKit
open Go.Vx
set_option linter.unusedVariables false
set_option linter.unusedSimpArgs false
variable {w w2 : World}
/-- An element where it lies. -/
theorem own_el {α : Type} {L : Lay α} {B : Nat} {e : TypeId} {v : Value} {xs : List α} (h : OwnL L w B e v xs) (k : Nat) (hk : k < xs.length) : ∃ g c, v = .slice (some ⟨g, 0, none⟩) xs.length c ∧ g < w.heap.size ∧ w.rangeAt g (k * L.sz) (L.cf (xs[k])) := by
  obtain ⟨p, c, hv, _, _, hg⟩ := h.form
  obtain ⟨g, rfl, _, hlt, hb⟩ := hg (by omega)
  refine ⟨g, c, hv, hlt, fun j u hj => ?_⟩
  have hjl : j < L.sz := by have := (List.getElem?_eq_some_iff.1 hj).1; rw [L.len] at this; exact this
  have hlt2 : k * L.sz + j < xs.length * L.sz := by
    have h1 : (k + 1) * L.sz ≤ xs.length * L.sz := Nat.mul_le_mul_right _ hk
    rw [Nat.add_mul] at h1
    omega
  rw [hv] at h
  have h9 := World.ownsRow.cellAt h (k * L.sz + j) hlt2
  rw [h9, ← get_part, ← hj]
  rw [List.drop_eq_getElem_cons hk, fl_cons, List.getElem?_append_left (by rw [L.len]; exact hjl)]
theorem range_keep {g off : Nat} {cs : List Value} (h : w.rangeAt g off cs) (hg : g < w.heap.size) (ho : Only (fun _ => False) w w2) : w2.rangeAt g off cs := fun j u hj => by
  rw [ho.cell (p := ⟨g, off + j, none⟩) hg (fun h => h)]
  exact h j u hj
theorem eq_regs (d : Nat) (w : World) (xs : Array Value) (h : ∀ i, i < 32 → ∃ a : Int, xs[i]? = some (.int .u32 a)) : (Op.equalIn (d + 3) 87 (.agg xs) (.agg xs)).run Tryz.prog w = .ok true w := by
  obtain ⟨i, hi⟩ := Option.isSome_iff_exists.1 infoU32
  rw [run_equalIn_array w (d + 2) xs xs Tryz.underlying87 hi, cU32w]
  exact eqItems_same (d + 1) xs w _ (fun i hi => h i (List.mem_range.1 hi))
theorem ld_t {o : Oper} {act : Act} (x : Operand) (ho : o.op = .load 76 x) {g off : Nat} {e : Sl} (hx : act.eval x = .pointer (some ⟨g, off, none⟩)) (h : w.rangeAt g off (slL.cf e)) : (execOp act.eval o).run Tryz.prog w = .ok (.value (.agg (slL.cf e).toArray)) w := by
  have hrun := run_loadAt_mid (P := Tryz.prog) w g off 76 (slL.cf e) _ h Tryz.underlying76 rfl (by kernel_rfl)
  generalize (slL.cf e).toArray = c at hrun
  simp only [execOp, ho, hx]
  simp [hrun, Result.andThen]
theorem eq_t {o : Oper} {act : Act} (x y : Operand) (t' : TypeId) (ho : o.op = .binOp .eql 76 x y t') {e : Sl} (hx : act.eval x = .agg (slL.cf e).toArray) (hy : act.eval y = .agg (slL.cf e).toArray) : (execOp act.eval o).run Tryz.prog w = .ok (.value (.bool true)) w := by
  simp only [execOp, ho, hx, hy]
  simp [go_sem, eqGuard, slL, slC]
theorem ld_o {o : Oper} {act : Act} (x : Operand) (ho : o.op = .load 58 x) {g off : Nat} {e : Ob} (hx : act.eval x = .pointer (some ⟨g, off, none⟩)) (h : w.rangeAt g off (obL.cf e)) : (execOp act.eval o).run Tryz.prog w = .ok (.value (.agg (obL.cf e).toArray)) w := by
  have hrun := run_loadAt_mid (P := Tryz.prog) w g off 58 (obL.cf e) _ h Tryz.underlying58 rfl (by kernel_rfl)
  generalize (obL.cf e).toArray = c at hrun
  simp only [execOp, ho, hx]
  simp [hrun, Result.andThen]
theorem eq_o {o : Oper} {act : Act} (x y : Operand) (t' : TypeId) (ho : o.op = .binOp .eql 58 x y t') {e : Ob} (hx : act.eval x = .agg (obL.cf e).toArray) (hy : act.eval y = .agg (obL.cf e).toArray) : (execOp act.eval o).run Tryz.prog w = .ok (.value (.bool true)) w := by
  simp only [execOp, ho, hx, hy]
  simp [go_sem, eqGuard, obL]
theorem ld_c {o : Oper} {act : Act} (x : Operand) (ho : o.op = .load 84 x) {g off : Nat} {e : En} (hx : act.eval x = .pointer (some ⟨g, off, none⟩)) (h : w.rangeAt g off (enL.cf e)) : (execOp act.eval o).run Tryz.prog w = .ok (.value (.agg (enL.cf e).toArray)) w := by
  have hrun := run_loadAt_mid (P := Tryz.prog) w g off 84 (enL.cf e) _ h Tryz.underlying84 rfl (by kernel_rfl)
  generalize (enL.cf e).toArray = c at hrun
  simp only [execOp, ho, hx]
  simp [hrun, Result.andThen]
theorem eq_c {o : Oper} {act : Act} (x y : Operand) (t' : TypeId) (ho : o.op = .binOp .eql 84 x y t') {e : En} (hx : act.eval x = .agg (enL.cf e).toArray) (hy : act.eval y = .agg (enL.cf e).toArray) : (execOp act.eval o).run Tryz.prog w = .ok (.value (.bool true)) w := by
  simp only [execOp, ho, hx, hy]
  simp [go_sem, eqGuard, enL, enC, slC, cpC]
theorem ld_m {o : Oper} {act : Act} (x : Operand) (ho : o.op = .load 86 x) {g off : Nat} {e : Mq} (hx : act.eval x = .pointer (some ⟨g, off, none⟩)) (h : w.rangeAt g off (mqL.cf e)) : (execOp act.eval o).run Tryz.prog w = .ok (.value (.agg (mqL.cf e).toArray)) w := by
  have hrun := run_loadAt_mid (P := Tryz.prog) w g off 86 (mqL.cf e) _ h Tryz.underlying86 rfl (by kernel_rfl)
  generalize (mqL.cf e).toArray = c at hrun
  simp only [execOp, ho, hx]
  simp [hrun, Result.andThen]
theorem eq_m {o : Oper} {act : Act} (x y : Operand) (t' : TypeId) (ho : o.op = .binOp .eql 86 x y t') {e : Mq} (hx : act.eval x = .agg (mqL.cf e).toArray) (hy : act.eval y = .agg (mqL.cf e).toArray) : (execOp act.eval o).run Tryz.prog w = .ok (.value (.bool true)) w := by
  simp only [execOp, ho, hx, hy]
  simp [go_sem, eqGuard, mqL]
theorem ld_h {o : Oper} {act : Act} (x : Operand) (ho : o.op = .load 91 x) {g off : Nat} {e : Th} (hx : act.eval x = .pointer (some ⟨g, off, none⟩)) (h : w.rangeAt g off (thL.cf e)) : (execOp act.eval o).run Tryz.prog w = .ok (.value (.agg (thL.cf e).toArray)) w := by
  have hrun := run_loadAt_mid (P := Tryz.prog) w g off 91 (thL.cf e) _ h Tryz.underlying91 rfl (by kernel_rfl)
  generalize (thL.cf e).toArray = c at hrun
  simp only [execOp, ho, hx]
  simp [hrun, Result.andThen]
theorem ld_i {o : Oper} {act : Act} (x : Operand) (ho : o.op = .load 93 x) {g off : Nat} {e : Ob} (hx : act.eval x = .pointer (some ⟨g, off, none⟩)) (h : w.rangeAt g off (irL.cf e)) : (execOp act.eval o).run Tryz.prog w = .ok (.value (.agg (irL.cf e).toArray)) w := by
  have hrun := run_loadAt_mid (P := Tryz.prog) w g off 93 (irL.cf e) _ h Tryz.underlying93 rfl (by kernel_rfl)
  generalize (irL.cf e).toArray = c at hrun
  simp only [execOp, ho, hx]
  simp [hrun, Result.andThen]
theorem eq_i {o : Oper} {act : Act} (x y : Operand) (t' : TypeId) (ho : o.op = .binOp .eql 93 x y t') {e : Ob} (hx : act.eval x = .agg (irL.cf e).toArray) (hy : act.eval y = .agg (irL.cf e).toArray) : (execOp act.eval o).run Tryz.prog w = .ok (.value (.bool true)) w := by
  simp only [execOp, ho, hx, hy]
  simp [go_sem, eqGuard, irL]
theorem regs_at (e : Th) : ∀ i, i < 32 → ∃ a : Int, (#[.int .u32 (e.reg 0), .int .u32 (e.reg 1), .int .u32 (e.reg 2), .int .u32 (e.reg 3), .int .u32 (e.reg 4), .int .u32 (e.reg 5), .int .u32 (e.reg 6), .int .u32 (e.reg 7), .int .u32 (e.reg 8), .int .u32 (e.reg 9), .int .u32 (e.reg 10), .int .u32 (e.reg 11), .int .u32 (e.reg 12), .int .u32 (e.reg 13), .int .u32 (e.reg 14), .int .u32 (e.reg 15), .int .u32 (e.reg 16), .int .u32 (e.reg 17), .int .u32 (e.reg 18), .int .u32 (e.reg 19), .int .u32 (e.reg 20), .int .u32 (e.reg 21), .int .u32 (e.reg 22), .int .u32 (e.reg 23), .int .u32 (e.reg 24), .int .u32 (e.reg 25), .int .u32 (e.reg 26), .int .u32 (e.reg 27), .int .u32 (e.reg 28), .int .u32 (e.reg 29), .int .u32 (e.reg 30), .int .u32 (e.reg 31)] : Array Value)[i]? = some (.int .u32 a) := fun i hi => by
  rcases (show i = 0 ∨ i = 1 ∨ i = 2 ∨ i = 3 ∨ i = 4 ∨ i = 5 ∨ i = 6 ∨ i = 7 ∨ i = 8 ∨ i = 9 ∨ i = 10 ∨ i = 11 ∨ i = 12 ∨ i = 13 ∨ i = 14 ∨ i = 15 ∨ i = 16 ∨ i = 17 ∨ i = 18 ∨ i = 19 ∨ i = 20 ∨ i = 21 ∨ i = 22 ∨ i = 23 ∨ i = 24 ∨ i = 25 ∨ i = 26 ∨ i = 27 ∨ i = 28 ∨ i = 29 ∨ i = 30 ∨ i = 31 by omega) with rfl | rfl | rfl | rfl | rfl | rfl | rfl | rfl | rfl | rfl | rfl | rfl | rfl | rfl | rfl | rfl | rfl | rfl | rfl | rfl | rfl | rfl | rfl | rfl | rfl | rfl | rfl | rfl | rfl | rfl | rfl | rfl
  · exact ⟨e.reg 0, rfl⟩
  · exact ⟨e.reg 1, rfl⟩
  · exact ⟨e.reg 2, rfl⟩
  · exact ⟨e.reg 3, rfl⟩
  · exact ⟨e.reg 4, rfl⟩
  · exact ⟨e.reg 5, rfl⟩
  · exact ⟨e.reg 6, rfl⟩
  · exact ⟨e.reg 7, rfl⟩
  · exact ⟨e.reg 8, rfl⟩
  · exact ⟨e.reg 9, rfl⟩
  · exact ⟨e.reg 10, rfl⟩
  · exact ⟨e.reg 11, rfl⟩
  · exact ⟨e.reg 12, rfl⟩
  · exact ⟨e.reg 13, rfl⟩
  · exact ⟨e.reg 14, rfl⟩
  · exact ⟨e.reg 15, rfl⟩
  · exact ⟨e.reg 16, rfl⟩
  · exact ⟨e.reg 17, rfl⟩
  · exact ⟨e.reg 18, rfl⟩
  · exact ⟨e.reg 19, rfl⟩
  · exact ⟨e.reg 20, rfl⟩
  · exact ⟨e.reg 21, rfl⟩
  · exact ⟨e.reg 22, rfl⟩
  · exact ⟨e.reg 23, rfl⟩
  · exact ⟨e.reg 24, rfl⟩
  · exact ⟨e.reg 25, rfl⟩
  · exact ⟨e.reg 26, rfl⟩
  · exact ⟨e.reg 27, rfl⟩
  · exact ⟨e.reg 28, rfl⟩
  · exact ⟨e.reg 29, rfl⟩
  · exact ⟨e.reg 30, rfl⟩
  · exact ⟨e.reg 31, rfl⟩
set_option maxRecDepth 100000 in
set_option maxHeartbeats 4000000 in
theorem eq_h {o : Oper} {act : Act} (x y : Operand) (t' : TypeId) (ho : o.op = .binOp .eql 91 x y t') {e : Th} (hx : act.eval x = .agg (thL.cf e).toArray) (hy : act.eval y = .agg (thL.cf e).toArray) : (execOp act.eval o).run Tryz.prog w = .ok (.value (.bool true)) w := by
  have hq := eq_regs 9995 w #[.int .u32 (e.reg 0), .int .u32 (e.reg 1), .int .u32 (e.reg 2), .int .u32 (e.reg 3), .int .u32 (e.reg 4), .int .u32 (e.reg 5), .int .u32 (e.reg 6), .int .u32 (e.reg 7), .int .u32 (e.reg 8), .int .u32 (e.reg 9), .int .u32 (e.reg 10), .int .u32 (e.reg 11), .int .u32 (e.reg 12), .int .u32 (e.reg 13), .int .u32 (e.reg 14), .int .u32 (e.reg 15), .int .u32 (e.reg 16), .int .u32 (e.reg 17), .int .u32 (e.reg 18), .int .u32 (e.reg 19), .int .u32 (e.reg 20), .int .u32 (e.reg 21), .int .u32 (e.reg 22), .int .u32 (e.reg 23), .int .u32 (e.reg 24), .int .u32 (e.reg 25), .int .u32 (e.reg 26), .int .u32 (e.reg 27), .int .u32 (e.reg 28), .int .u32 (e.reg 29), .int .u32 (e.reg 30), .int .u32 (e.reg 31)] (regs_at e)
  simp only [execOp, ho, hx, hy]
  simp [go_sem, eqGuard, thL, hq]
end Go.Proofs.YtgacifbpjdakaaaGreatDoor

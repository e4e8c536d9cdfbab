/- The names of the instructions, their shapes, and walks of the two functions that tell them. -/
import Derived.Test.YtmfookpigilccaaGreatDoorBase
import Derived.ChangeKeysEq
namespace Go.Vx
variable {P : Program} {w : World}

/-- An array by value, indexed inside its bounds: elements of one cell. -/
theorem run_index_arr (t e n : Nat) (cs : Array Value) (k : IntKind) (i : Int) (h : P.underlying t = some (.array n e)) (he : P.plainKey e = true)
    (hc : P.cellsOf e = 1) (h0 : 0 ≤ i) (h1 : i < n) (hn : cs.size = n) :
    (Instr.index t (.agg cs) (.int k i)).run P w = .ok (pickAt cs i.toNat) w := by
  have hlt : i.toNat < cs.size := by omega
  obtain ⟨v, hv⟩ : ∃ v, cs[i.toNat]? = some v := ⟨cs[i.toNat], by simp [hlt]⟩
  have hr : pickAt cs i.toNat = v := by simp [pickAt, hv]
  rw [hr]
  cases hti : P.info? e with
  | none => simp [Program.cellsOf, hti] at hc
  | some ti =>
    unfold Program.plainKey at he
    cases hu : P.underlying e with
    | none => simp [hu] at he
    | some d => cases d <;> simp [hu] at he <;> simp [Instr.index, asIntOf, run_underlying h, h0, h1, run_sizeOf w hti, hc, part, isAgg, run_underlying hu, hv]

/-- The instructions' names. -/
def namesB : List (List UInt8) := [
  [],
  [108, 117, 105],
  [97, 117, 105, 112, 99],
  [106, 97, 108],
  [106, 97, 108, 114],
  [98, 101, 113],
  [98, 110, 101],
  [98, 108, 116],
  [98, 103, 101],
  [98, 108, 116, 117],
  [98, 103, 101, 117],
  [108, 98],
  [108, 104],
  [108, 119],
  [108, 98, 117],
  [108, 104, 117],
  [115, 98],
  [115, 104],
  [115, 119],
  [97, 100, 100, 105],
  [115, 108, 116, 105],
  [115, 108, 116, 105, 117],
  [120, 111, 114, 105],
  [111, 114, 105],
  [97, 110, 100, 105],
  [115, 108, 108, 105],
  [115, 114, 108, 105],
  [115, 114, 97, 105],
  [97, 100, 100],
  [115, 117, 98],
  [115, 108, 108],
  [115, 108, 116],
  [115, 108, 116, 117],
  [120, 111, 114],
  [115, 114, 108],
  [115, 114, 97],
  [111, 114],
  [97, 110, 100],
  [102, 101, 110, 99, 101],
  [101, 99, 97, 108, 108],
  [101, 98, 114, 101, 97, 107],
  [109, 117, 108],
  [109, 117, 108, 104],
  [109, 117, 108, 104, 115, 117],
  [109, 117, 108, 104, 117],
  [100, 105, 118],
  [100, 105, 118, 117],
  [114, 101, 109],
  [114, 101, 109, 117]]
def nameB (op : Int) : List UInt8 := namesB.getD op.toNat []
theorem pickAt_names (n : Nat) (h : n < 49) : pickAt (namesB.map fun l => Value.string ⟨l.toArray⟩).toArray n = .string ⟨(namesB.getD n []).toArray⟩ := by
  have hl : n < namesB.length := by simpa [namesB] using h
  simp only [pickAt, List.getD_eq_getElem?_getD, List.getElem?_map]
  rw [List.getElem?_eq_getElem hl]
  rfl
/-- The shape of an instruction's operands: by its kind, but for the jumps through a register and the loads. -/
def shapeB (op : Int) : List UInt8 :=
  if op = 1 ∨ op = 2 then [100, 105]
  else if op = 3 then [100, 106]
  else if op = 4 ∨ (11 ≤ op ∧ op ≤ 15) then [100, 109]
  else if 5 ≤ op ∧ op ≤ 10 then [115, 116, 106]
  else if 16 ≤ op ∧ op ≤ 18 then [116, 109]
  else if (19 ≤ op ∧ op ≤ 27) ∨ op = 38 then [100, 115, 105]
  else if op = 39 ∨ op = 40 ∨ op < 1 ∨ 48 < op then []
  else [100, 115, 116]
end Go.Vx
namespace Go.Proofs.YtmfookpigilccaaGreatDoor
open Go.ChangeShapes Go.WideShapes Go.ChangeAt Go.RowKit

set_option maxRecDepth 100000 in
set_option maxHeartbeats 1000000 in
theorem name_any (op : Int) (h1 : 1 ≤ op) (h2 : op ≤ 48) (w : World) :
    Calls Tryz.prog 23 #[.int .i64 op] w fun e w' => e = .returned (.string ⟨(Vx.nameB op).toArray⟩) ∧ w' = w := by
  have hix := fun (cs : Array Value) (hn : cs.size = 49) (w : World) => Vx.run_index_arr (P := Tryz.prog) (w := w) 98 9 49 cs .i64 op Tryz.underlying98 (by kernel_rfl) (by kernel_rfl) (by omega) (by omega) hn
  have HP : Hid (Vx.pickAt (Vx.namesB.map fun l => Value.string ⟨l.toArray⟩).toArray op.toNat = .string ⟨(Vx.nameB op).toArray⟩) := Vx.pickAt_names op.toNat (by omega)
  go_enter Tryz.func23, Tryz.ntmps23
  go_wp2
  go_ret
  exact ⟨ret_val HP.out, rfl⟩

set_option maxHeartbeats 4000000 in
theorem shape_any (op : Int) (h1 : 1 ≤ op) (h2 : op ≤ 48) (w : World) :
    Calls Tryz.prog 24 #[.int .i64 op] w fun e w' => e = .returned (.string ⟨(Vx.shapeB op).toArray⟩) ∧ w' = w := by
  have hc : op = 1 ∨ op = 2 ∨ op = 3 ∨ op = 4 ∨ (11 ≤ op ∧ op ≤ 15) ∨ (5 ≤ op ∧ op ≤ 10) ∨ (16 ≤ op ∧ op ≤ 18) ∨ (19 ≤ op ∧ op ≤ 27) ∨ op = 38 ∨ op = 39 ∨ op = 40 ∨ (28 ≤ op ∧ op ≤ 37) ∨ (41 ≤ op ∧ op ≤ 48) := by omega
  rcases hc with rfl | rfl | rfl | rfl | ⟨a, b⟩ | ⟨a, b⟩ | ⟨a, b⟩ | ⟨a, b⟩ | rfl | rfl | rfl | ⟨a, b⟩ | ⟨a, b⟩
  · go_enter Tryz.func24, Tryz.ntmps24
    go_wp2
    go_ret
    exact ⟨ret_val rfl, rfl⟩
  · go_enter Tryz.func24, Tryz.ntmps24
    go_wp2
    go_ret
    exact ⟨ret_val rfl, rfl⟩
  · go_enter Tryz.func24, Tryz.ntmps24
    go_wp2
    go_ret
    exact ⟨ret_val rfl, rfl⟩
  · go_enter Tryz.func24, Tryz.ntmps24
    go_wp2
    go_ret
    exact ⟨ret_val rfl, rfl⟩
  · have HS : Hid (Vx.shapeB op = [100, 109]) := by
      show Vx.shapeB op = _
      unfold Vx.shapeB
      rw [if_neg (by omega), if_neg (by omega), if_pos (by omega)]
    have e1 : (op == 1) = false := beq_eq_false_iff_ne.2 (by omega)
    have e2 : (op == 2) = false := beq_eq_false_iff_ne.2 (by omega)
    have e3 : (op == 3) = false := beq_eq_false_iff_ne.2 (by omega)
    have e4 : (op == 4) = false := beq_eq_false_iff_ne.2 (by omega)
    have e38 : (op == 38) = false := beq_eq_false_iff_ne.2 (by omega)
    have e39 : (op == 39) = false := beq_eq_false_iff_ne.2 (by omega)
    have e40 : (op == 40) = false := beq_eq_false_iff_ne.2 (by omega)
    go_enter Tryz.func24, Tryz.ntmps24
    go_wp2
    go_ret
    refine ⟨?_, rfl⟩
    rw [HS.out]
    rfl
  · have HS : Hid (Vx.shapeB op = [115, 116, 106]) := by
      show Vx.shapeB op = _
      unfold Vx.shapeB
      rw [if_neg (by omega), if_neg (by omega), if_neg (by omega), if_pos (by omega)]
    have e1 : (op == 1) = false := beq_eq_false_iff_ne.2 (by omega)
    have e2 : (op == 2) = false := beq_eq_false_iff_ne.2 (by omega)
    have e3 : (op == 3) = false := beq_eq_false_iff_ne.2 (by omega)
    have e4 : (op == 4) = false := beq_eq_false_iff_ne.2 (by omega)
    have e38 : (op == 38) = false := beq_eq_false_iff_ne.2 (by omega)
    have e39 : (op == 39) = false := beq_eq_false_iff_ne.2 (by omega)
    have e40 : (op == 40) = false := beq_eq_false_iff_ne.2 (by omega)
    go_enter Tryz.func24, Tryz.ntmps24
    go_wp2
    go_ret
    refine ⟨?_, rfl⟩
    rw [HS.out]
    rfl
  · have HS : Hid (Vx.shapeB op = [116, 109]) := by
      show Vx.shapeB op = _
      unfold Vx.shapeB
      rw [if_neg (by omega), if_neg (by omega), if_neg (by omega), if_neg (by omega), if_pos (by omega)]
    have e1 : (op == 1) = false := beq_eq_false_iff_ne.2 (by omega)
    have e2 : (op == 2) = false := beq_eq_false_iff_ne.2 (by omega)
    have e3 : (op == 3) = false := beq_eq_false_iff_ne.2 (by omega)
    have e4 : (op == 4) = false := beq_eq_false_iff_ne.2 (by omega)
    have e38 : (op == 38) = false := beq_eq_false_iff_ne.2 (by omega)
    have e39 : (op == 39) = false := beq_eq_false_iff_ne.2 (by omega)
    have e40 : (op == 40) = false := beq_eq_false_iff_ne.2 (by omega)
    go_enter Tryz.func24, Tryz.ntmps24
    go_wp2
    go_ret
    refine ⟨?_, rfl⟩
    rw [HS.out]
    rfl
  · have HS : Hid (Vx.shapeB op = [100, 115, 105]) := by
      show Vx.shapeB op = _
      unfold Vx.shapeB
      rw [if_neg (by omega), if_neg (by omega), if_neg (by omega), if_neg (by omega), if_neg (by omega), if_pos (by omega)]
    have e1 : (op == 1) = false := beq_eq_false_iff_ne.2 (by omega)
    have e2 : (op == 2) = false := beq_eq_false_iff_ne.2 (by omega)
    have e3 : (op == 3) = false := beq_eq_false_iff_ne.2 (by omega)
    have e4 : (op == 4) = false := beq_eq_false_iff_ne.2 (by omega)
    have e38 : (op == 38) = false := beq_eq_false_iff_ne.2 (by omega)
    have e39 : (op == 39) = false := beq_eq_false_iff_ne.2 (by omega)
    have e40 : (op == 40) = false := beq_eq_false_iff_ne.2 (by omega)
    go_enter Tryz.func24, Tryz.ntmps24
    go_wp2
    go_ret
    refine ⟨?_, rfl⟩
    rw [HS.out]
    rfl
  · go_enter Tryz.func24, Tryz.ntmps24
    go_wp2
    go_ret
    exact ⟨ret_val rfl, rfl⟩
  · go_enter Tryz.func24, Tryz.ntmps24
    go_wp2
    go_ret
    exact ⟨ret_val rfl, rfl⟩
  · go_enter Tryz.func24, Tryz.ntmps24
    go_wp2
    go_ret
    exact ⟨ret_val rfl, rfl⟩
  · have HS : Hid (Vx.shapeB op = [100, 115, 116]) := by
      show Vx.shapeB op = _
      unfold Vx.shapeB
      rw [if_neg (by omega), if_neg (by omega), if_neg (by omega), if_neg (by omega), if_neg (by omega), if_neg (by omega), if_neg (by omega)]
    have e1 : (op == 1) = false := beq_eq_false_iff_ne.2 (by omega)
    have e2 : (op == 2) = false := beq_eq_false_iff_ne.2 (by omega)
    have e3 : (op == 3) = false := beq_eq_false_iff_ne.2 (by omega)
    have e4 : (op == 4) = false := beq_eq_false_iff_ne.2 (by omega)
    have e38 : (op == 38) = false := beq_eq_false_iff_ne.2 (by omega)
    have e39 : (op == 39) = false := beq_eq_false_iff_ne.2 (by omega)
    have e40 : (op == 40) = false := beq_eq_false_iff_ne.2 (by omega)
    go_enter Tryz.func24, Tryz.ntmps24
    go_wp2
    go_ret
    refine ⟨?_, rfl⟩
    rw [HS.out]
    rfl
  · have HS : Hid (Vx.shapeB op = [100, 115, 116]) := by
      show Vx.shapeB op = _
      unfold Vx.shapeB
      rw [if_neg (by omega), if_neg (by omega), if_neg (by omega), if_neg (by omega), if_neg (by omega), if_neg (by omega), if_neg (by omega)]
    have e1 : (op == 1) = false := beq_eq_false_iff_ne.2 (by omega)
    have e2 : (op == 2) = false := beq_eq_false_iff_ne.2 (by omega)
    have e3 : (op == 3) = false := beq_eq_false_iff_ne.2 (by omega)
    have e4 : (op == 4) = false := beq_eq_false_iff_ne.2 (by omega)
    have e38 : (op == 38) = false := beq_eq_false_iff_ne.2 (by omega)
    have e39 : (op == 39) = false := beq_eq_false_iff_ne.2 (by omega)
    have e40 : (op == 40) = false := beq_eq_false_iff_ne.2 (by omega)
    go_enter Tryz.func24, Tryz.ntmps24
    go_wp2
    go_ret
    refine ⟨?_, rfl⟩
    rw [HS.out]
    rfl
end Go.Proofs.YtmfookpigilccaaGreatDoor

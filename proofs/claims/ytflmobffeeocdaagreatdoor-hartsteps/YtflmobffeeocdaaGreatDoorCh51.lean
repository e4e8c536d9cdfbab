import Derived.Test.YtflmobffeeocdaaGreatDoorCh50
/- HartSteps: registers and the pc are set. -/
namespace Go.Proofs.YtflmobffeeocdaaGreatDoor
open Go.ChangeShapes Go.WideShapes Go.ChangeAt Go.RowKit
open Go.Vx
set_option linter.unusedVariables false

theorem HxAt.setPc {w : World} {sb : Nat} {R : Nat → Nat} {pc : Nat} (h : HxAt w sb R pc) (x : Nat) : HxAt ((w.setCell ⟨sb, 34, none⟩ (.int .u32 (x : Int))).setCell ⟨sb, 67, none⟩ (.int .i64 (x : Int))) sb R x := by
  obtain ⟨cs, h1, h2⟩ := h
  have l1 : 34 < cs.size := (Array.getElem?_eq_some_iff.1 h1.p).1
  have l2 : 67 < cs.size := (Array.getElem?_eq_some_iff.1 h2.p).1
  have hb := heap_setCell_same _ _ 67 _ _ (.int .i64 (x : Int)) (heap_setCell_same _ _ 34 _ _ (.int .u32 (x : Int)) h1.b)
  refine ⟨_, ⟨hb, fun i hi => ?_, ?_⟩, ⟨hb, fun i hi => ?_, ?_⟩⟩
  · rw [Array.getElem?_setIfInBounds, if_neg (by omega), Array.getElem?_setIfInBounds, if_neg (by omega)]; exact h1.r i hi
  · rw [Array.getElem?_setIfInBounds, if_neg (by omega), Array.getElem?_setIfInBounds, if_pos (by omega), if_pos (by omega)]
  · rw [Array.getElem?_setIfInBounds, if_neg (by omega), Array.getElem?_setIfInBounds, if_neg (by omega)]; exact h2.r i hi
  · rw [Array.getElem?_setIfInBounds, if_pos (by omega), if_pos (by simp; omega)]
theorem HxAt.setR {w : World} {sb : Nat} {R : Nat → Nat} {pc : Nat} (h : HxAt w sb R pc) (rd x : Nat) (h0 : rd ≠ 0) (hr : rd < 32) : HxAt ((w.setCell ⟨sb, 2 + rd, none⟩ (.int .u32 (x : Int))).setCell ⟨sb, 35 + rd, none⟩ (.int .i64 (x : Int))) sb (Vx.setR R rd x) pc := by
  obtain ⟨cs, h1, h2⟩ := h
  have l2 : 67 < cs.size := (Array.getElem?_eq_some_iff.1 h2.p).1
  have hb := heap_setCell_same _ _ (35 + rd) _ _ (.int .i64 (x : Int)) (heap_setCell_same _ _ (2 + rd) _ _ (.int .u32 (x : Int)) h1.b)
  have hs : ∀ i, Vx.setR R rd x i = if i = rd then x else R i := fun i => by unfold Vx.setR; rw [if_neg h0]
  refine ⟨_, ⟨hb, fun i hi => ?_, ?_⟩, ⟨hb, fun i hi => ?_, ?_⟩⟩
  · rw [hs, Array.getElem?_setIfInBounds, if_neg (by omega), Array.getElem?_setIfInBounds]
    by_cases hi2 : i = rd
    · rw [if_pos (by omega), if_pos (by omega), if_pos hi2]
    · rw [if_neg (by omega), if_neg hi2]; exact h1.r i hi
  · rw [Array.getElem?_setIfInBounds, if_neg (by omega), Array.getElem?_setIfInBounds, if_neg (by omega)]; exact h1.p
  · rw [hs, Array.getElem?_setIfInBounds]
    by_cases hi2 : i = rd
    · rw [if_pos (by omega), if_pos (by simp; omega), if_pos hi2]
    · rw [if_neg (by omega), Array.getElem?_setIfInBounds, if_neg (by omega), if_neg hi2]; exact h2.r i hi
  · rw [Array.getElem?_setIfInBounds, if_neg (by omega), Array.getElem?_setIfInBounds, if_neg (by omega)]; exact h2.p
theorem ScH.setTwo {W : World} {sb bz bpz : Nat} {qz : Nat → Option Nat} {fz : Nat → UInt8} {wr : World} (h : ScH W sb bz bpz qz fz wr) (i j : Nat) (hi : 2 ≤ i ∧ i < 68) (hj : 2 ≤ j ∧ j < 68) (u v : Value) (hx : ∃ R pc, HxAt ((wr.setCell ⟨sb, i, none⟩ u).setCell ⟨sb, j, none⟩ v) sb R pc ∧ RegOk R pc ∧ R 0 = 0) : ScH W sb bz bpz qz fz ((wr.setCell ⟨sb, i, none⟩ u).setCell ⟨sb, j, none⟩ v) := by
  have ho : Only (fun k => k = sb) wr ((wr.setCell ⟨sb, i, none⟩ u).setCell ⟨sb, j, none⟩ v) := (only_cell wr ⟨sb, i, none⟩ u).trans (only_cell _ ⟨sb, j, none⟩ v)
  obtain ⟨Uc, bm, br, bb, n, f, h1, h2, h3⟩ := h.r.ex
  have hsat := (h.r.sat.set i hi.2 u).set j hj.2 v
  refine ⟨h.r.step ho (fun k _ hs => hs) hsat ⟨Uc, bm, br, bb, n, f, ⟨?_, ?_, hsat.lt, h1.m.only ho (fun k hk _ => by rw [hk]; exact h1.us), h1.r.only ho (fun e => sat_ne h.r.sat h1.r e.symm) (fun e => h1.ne e.symm), h1.us, h1.ur, h1.ub, h1.ne⟩, h2, h3⟩, hx⟩
  · rw [World.cell?_setCell_other _ _ _ _ (by intro e; injection e with _ e2; omega), World.cell?_setCell_other _ _ _ _ (by intro e; injection e with _ e2; omega)]; exact h1.c0
  · rw [World.cell?_setCell_other _ _ _ _ (by intro e; injection e with _ e2; omega), World.cell?_setCell_other _ _ _ _ (by intro e; injection e with _ e2; omega)]; exact h1.c1
set_option maxRecDepth 100000 in
set_option maxHeartbeats 2000000 in
theorem steps_pc {W : World} {sb bz bpz : Nat} {qz : Nat → Option Nat} {fz : Nat → UInt8} {wr : World} (h : ScH W sb bz bpz qz fz wr) (A B C D : Int) (s : List UInt8) :
    Calls Tryz.prog 14 #[.pointer (some ⟨sb, 0, none⟩), .agg (opv 17 A B C D ⟨s.toArray⟩)] wr fun e w' => e = .returned (.bool true) ∧ ScH W sb bz bpz qz fz w' := by
  obtain ⟨R, pc, hx, hr, h0⟩ := h.x
  have hx1 : IntKind.u32.wrap A = (m32 A : Nat) := wrap_u32_m A
  have hml := m32_lt A
  obtain ⟨x, hxe⟩ : ∃ x, x = m32 A := ⟨_, rfl⟩
  rw [← hxe] at hx1 hml
  have hx2 : IntKind.i64.wrap (x : Int) = (x : Int) := by rw [IntKind.wrap_i64]; omega
  have HFI : Hid (∀ o, ScH W sb bz bpz qz fz (((wr.setCell ⟨sb, 34, none⟩ (.int .u32 (x : Int))).setCell ⟨sb, 67, none⟩ (.int .i64 (x : Int))).alloc o)) := fun o => (h.setTwo 34 67 ⟨by decide, by decide⟩ ⟨by decide, by decide⟩ _ _ ⟨R, x, hx.setPc x, ⟨hr.1, hml⟩, h0⟩).quiet ((Only.refl _ _).alloc o)
  obtain ⟨cs, h1, h2⟩ := hx
  have c34 : wr.cell? ⟨sb, 34, none⟩ = some (.int .u32 (pc : Int)) := h1.ctx.p
  have c67 : wr.cell? ⟨sb, 67, none⟩ = some (.int .i64 (pc : Int)) := h2.cp
  have f34 := h1.fz 34
  have f67 := h1.fz 67
  have hsl : sb < wr.heap.size := lt_of_some h1.b
  obtain ⟨p, hp⟩ : ∃ p : ByteArray, p = ⟨s.toArray⟩ := ⟨_, rfl⟩
  rw [← hp]
  clear h hr h0 hml hxe h1 h2 hp
  unfold opv
  go_enter Tryz.func14, Tryz.ntmps14
  go_wp2_with fail
  all_goals
    go_ret
    exact ⟨rfl, HFI.out _⟩
set_option maxRecDepth 100000 in
set_option maxHeartbeats 2000000 in
theorem steps_reg {W : World} {sb bz bpz : Nat} {qz : Nat → Option Nat} {fz : Nat → UInt8} {wr : World} (h : ScH W sb bz bpz qz fz wr) (A B C D : Int) (hA : I64 A) (s : List UInt8) :
    Calls Tryz.prog 14 #[.pointer (some ⟨sb, 0, none⟩), .agg (opv 16 A B C D ⟨s.toArray⟩)] wr fun e w' => e = .returned (.bool true) ∧ ScH W sb bz bpz qz fz w' := by
  have HPK := Vx.hid (fun wv => pickL_any 32 (by decide) (by decide) A hA.1 hA.2 wv)
  have hpl : pickL A 32 < 32 := Nat.mod_lt _ (by decide)
  obtain ⟨rd, hrd⟩ : ∃ rd, rd = pickL A 32 := ⟨_, rfl⟩
  rw [← hrd] at HPK hpl
  obtain ⟨p, hp⟩ : ∃ p : ByteArray, p = ⟨s.toArray⟩ := ⟨_, rfl⟩
  rw [← hp]
  clear hrd hp
  by_cases hz : rd = 0
  · subst hz
    have HFI : Hid (∀ o, ScH W sb bz bpz qz fz (wr.alloc o)) := fun o => h.quiet ((Only.refl _ _).alloc o)
    clear h hpl
    unfold opv
    go_enter Tryz.func14, Tryz.ntmps14
    go_wp2_with fail
    refine (HPK.out _).mono ?_
    rintro e w' ⟨rfl, h⟩
    have h2 := h.symm; clear h; subst h2
    go_wp2_with fail
    all_goals
      go_ret
      exact ⟨rfl, HFI.out _⟩
  · obtain ⟨R, pc, hx, hr, h0⟩ := h.x
    have hx1 : IntKind.u32.wrap B = (m32 B : Nat) := wrap_u32_m B
    have hml := m32_lt B
    obtain ⟨x, hxe⟩ : ∃ x, x = m32 B := ⟨_, rfl⟩
    rw [← hxe] at hx1 hml
    have hx2 : IntKind.i64.wrap (x : Int) = (x : Int) := by rw [IntKind.wrap_i64]; omega
    have HFI : Hid (ScH W sb bz bpz qz fz ((wr.setCell ⟨sb, 2 + rd, none⟩ (.int .u32 (x : Int))).setCell ⟨sb, 35 + rd, none⟩ (.int .i64 (x : Int)))) := by
      have hs := hr.set rd x pc hml hr.2
      exact h.setTwo (2 + rd) (35 + rd) ⟨by omega, by omega⟩ ⟨by omega, by omega⟩ _ _ ⟨_, pc, hx.setR rd x hz hpl, hs.1, hs.2.trans h0⟩
    obtain ⟨cs, h1, h2⟩ := hx
    have ca : wr.cell? ⟨sb, 2 + rd, none⟩ = some (.int .u32 (R rd : Nat)) := h1.ctx.r rd hpl
    have cb : wr.cell? ⟨sb, 35 + rd, none⟩ = some (.int .i64 (R rd : Nat)) := h2.cr rd hpl
    have cb2 : ∀ v, (wr.setCell ⟨sb, 2 + rd, none⟩ v).cell? ⟨sb, 35 + rd, none⟩ = some (.int .i64 (R rd : Nat)) := fun v => by
      rw [World.cell?_setCell_other _ _ _ _ (by intro e; injection e with _ e2; omega)]; exact cb
    have fa := h1.fz (2 + rd)
    have fb := h1.fz (35 + rd)
    have hsl : sb < wr.heap.size := lt_of_some h1.b
    have hgt : (0 : Int) < (rd : Int) := by omega
    have hidx : 0 ≤ (rd : Int) ∧ (rd : Int) < 32 := by omega
    have hne : ¬ wr.heap.size = sb := by omega
    have hne2 : ¬ sb = wr.heap.size := by omega
    clear h hr h0 hml hxe h1 h2 hpl hz
    unfold opv
    go_enter Tryz.func14, Tryz.ntmps14
    go_wp2_with fail
    refine (HPK.out _).mono ?_
    rintro e w' ⟨rfl, h⟩
    have h2 := h.symm; clear h; subst h2
    go_wp2_with fail
    go_region_with (go_at_call 24; refine (HPK.out _).mono ?_; rintro e w' ⟨rfl, h⟩; have h2 := h.symm; clear h; subst h2)
    all_goals
      go_wp2_with fail
      go_region_with (go_at_call 24; refine (HPK.out _).mono ?_; rintro e w' ⟨rfl, h⟩; have h2 := h.symm; clear h; subst h2)
      all_goals
        go_wp2_with fail
        all_goals
          go_ret
          exact ⟨rfl, HFI.out.quiet ((((Only.refl _ _).alloc _).drew).drew)⟩
end Go.Proofs.YtflmobffeeocdaaGreatDoor

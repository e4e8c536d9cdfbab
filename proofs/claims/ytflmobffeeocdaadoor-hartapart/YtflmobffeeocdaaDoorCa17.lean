import Derived.Test.YtflmobffeeocdaaDoorCa16
import Derived.Test.YtflmobffeeocdaaDoorCa10
/- Walks of package hart: target, register, place. -/
namespace Go.Vx
def misC (u : Nat) : Nat := if u = 0 then 0 else if u = 1 then 4 else 6
/-- Where bytes at an address lie, or the trap. -/
def placeG (va len u : Nat) (W : Nat × Int) : Except (Int × Nat) Nat :=
  if va % len ≠ 0 then .error ((misC u : Nat), va) else if W.2 ≠ -1 then .error (W.2, va) else .ok W.1
end Go.Vx
namespace Go.Proofs.YtflmobffeeocdaaDoor
open Go.ChangeShapes Go.WideShapes Go.ChangeAt Go.RowKit
open Go.Vx

/-- What a step gives up with. -/
def trapP (c : Int) (t : Nat) : List PanicEntry := [{ v := .iface 81 (.agg #[.int .i64 c, .int .u32 (t : Int)]), recovered := false }]
theorem target_ok (va : Nat) (h4 : va % 4 = 0) (w : World) :
    Calls Tryd.prog 33 #[.int .u32 (va : Int)] w fun e w' => e = .returned (.int .u32 (va : Int)) ∧ w' = w := by
  have t1 : Int.tmod (va : Int) 4 = 0 := by rw [Int.tmod_eq_emod_of_nonneg (by omega)]; omega
  have t2 : (va : Int) % 4 = 0 := by omega
  clear h4
  go_enter Tryd.func33, Tryd.ntmps33
  go_wp2_with fail
  all_goals
    go_ret
    exact ⟨rfl, rfl⟩
theorem target_no (va : Nat) (h4 : va % 4 ≠ 0) (w : World) :
    Calls Tryd.prog 33 #[.int .u32 (va : Int)] w fun e w' => e = .panicked (trapP 0 va) ∧ w' = w := by
  obtain ⟨r, hr⟩ : ∃ r : Nat, r = va % 4 := ⟨_, rfl⟩
  have t1 : Int.tmod (va : Int) 4 = (r : Int) := by rw [Int.tmod_eq_emod_of_nonneg (by omega)]; omega
  have t2 : (va : Int) % 4 = (r : Int) := by omega
  have r0 : ¬ (r : Int) = 0 := by omega
  have b0 : ((r : Int) != 0) = true := by simp; omega
  have w0 : IntKind.u32.wrap (r : Int) = (r : Int) := wrap_u32_n r (by omega)
  clear h4 hr
  go_enter Tryd.func33, Tryd.ntmps33
  go_wp2_with fail
  all_goals
    exact ⟨rfl, rfl, rfl⟩
/-- A register's number. -/
def regF (R : Nat → Nat) (r : Nat) : Nat := if r = 0 then 0 else R r
/-- A hart's registers and pc, at a place. -/
structure CtxAt (w : World) (cb off : Nat) (R : Nat → Nat) (pc : Nat) : Prop where
  r : ∀ i, i < 32 → w.cell? ⟨cb, off + i, none⟩ = some (.int .u32 (R i : Nat))
  p : w.cell? ⟨cb, off + 32, none⟩ = some (.int .u32 (pc : Int))
theorem register_any {w : World} {cb off : Nat} {R : Nat → Nat} {pc : Nat} (h : CtxAt w cb off R pc) (m : Value) (root : Int) (r : Nat) (hr : r < 32) :
    Calls Tryd.prog 31 #[.agg #[m, .int .i64 root, .pointer (some ⟨cb, off, none⟩)], .int .i64 (r : Int)] w fun e w' => e = .returned (.int .u32 (regF R r : Nat)) ∧ Only (fun _ => False) w w' := by
  by_cases h0 : r = 0
  · subst h0
    go_enter Tryd.func31, Tryd.ntmps31
    go_wp2_with fail
    all_goals
      go_ret
      exact ⟨rfl, (Only.refl _ w).alloc _⟩
  · have HR : Hid (regF R r = R r) := if_neg h0
    have hc := h.r r hr
    have hl : cb < w.heap.size := World.block_lt_of_cell? w _ hc
    have c0 : ¬ (r : Int) = 0 := by omega
    have hi : 0 ≤ (r : Int) ∧ (r : Int) < 32 := by omega
    clear h h0
    go_enter Tryd.func31, Tryd.ntmps31
    go_wp2_with fail
    all_goals
      go_ret
      rw [HR.out]
      exact ⟨rfl, (Only.refl _ w).alloc _⟩
/-- The table of causes, where it lies. -/
def MisAt (w : World) : Prop := ∀ u, u < 3 → w.cell? ⟨1, u, none⟩ = some (.int .i64 (misC u : Nat))
theorem MisAt.only {S : Nat → Prop} {w w' : World} (h : MisAt w) (ho : Only S w w') (hS : ¬ S 1) : MisAt w' := by
  have hlt : 1 < w.heap.size := World.block_lt_of_cell? w _ (h 0 (by decide))
  intro u hu
  rw [ho.cell (p := ⟨1, u, none⟩) hlt hS]
  exact h u hu
/-- Where bytes at an address lie, or the trap. -/
def placeF (f : Nat → UInt8) (n : Nat) (root : Int) (va len u : Nat) : Except (Int × Nat) Nat := placeG va len u (walkF f n root va u)
theorem hplace_any {U : Nat → Prop} {w : World} {bm n : Nat} {f : Nat → UInt8} (h : MemAt U w bm n f) (hus : UsesAt w) (hmi : MisAt w) (root : Int) (cp : Addr) (va : Nat) (hva : va < 4294967296) (len : Nat) (hl : 1 ≤ len) (hl4 : len ≤ 4) (u : Nat) (hu : u < 3) :
    Calls Tryd.prog 44 #[.agg #[.pointer (some ⟨bm, 0, none⟩), .int .i64 root, .pointer (some cp)], .int .u32 (va : Int), .int .u32 (len : Int), .int .i64 (u : Int)] w fun e w' => ((∃ c t, placeF f n root va len u = .error (c, t) ∧ e = .panicked (trapP c t)) ∨ ∃ a, placeF f n root va len u = .ok a ∧ e = .returned (.int .i64 (a : Nat))) ∧ Only (fun _ => False) w w' := by
  have HM := Vx.hid h
  have HUS := Vx.hid hus
  have t1 : Int.tmod (va : Int) (len : Int) = ((va % len : Nat) : Int) := by rw [Int.tmod_eq_emod_of_nonneg (by omega)]; rfl
  have t2 : (va : Int) % (len : Int) = ((va % len : Nat) : Int) := rfl
  have z1 : ¬ (len : Int) = 0 := by omega
  have hr : va % len < 4 := by have := Nat.mod_lt va (show len > 0 by omega); omega
  have HW := Vx.hid (fun wv (hv : Only (fun _ => False) w wv) => walk_ok (HM.out.only hv (fun _ h _ => h.elim)) (HUS.out.only hv (fun h => h)) root va hva u hu)
  have HPF : Hid (placeF f n root va len u = placeG va len u (walkF f n root va u)) := rfl
  have hmc := hmi u hu
  have hgl : 1 < w.heap.size := World.block_lt_of_cell? w _ hmc
  have hi : 0 ≤ (u : Int) ∧ (u : Int) < 3 := by omega
  generalize walkF f n root va u = WF at HW HPF
  generalize placeF f n root va len u = PF at HPF
  obtain ⟨pa, cs⟩ := WF
  obtain ⟨r, hrr⟩ : ∃ r, va % len = r := ⟨_, rfl⟩
  rw [hrr] at t1 t2 hr
  have w0 : IntKind.u32.wrap (r : Int) = (r : Int) := wrap_u32_n r (by omega)
  have HRR := Vx.hid hrr
  clear h hus hva hl hl4 hu hrr hmi
  by_cases h0 : r = 0
  · subst h0
    by_cases hcs : cs = -1
    · subst hcs
      have HA : Hid (PF = .ok pa) := by show _ = _; rw [HPF.out]; unfold placeG; rw [if_neg (by have := HRR.out; omega), if_neg (by simp)]
      clear HPF HRR hr
      go_enter Tryd.func44, Tryd.ntmps44
      go_wp2_with fail
      refine (HW.out _ ((Only.refl _ w).alloc _)).mono ?_
      rintro z w5 ⟨rfl, ho⟩
      have HO := Vx.hid (((Only.refl (fun _ => False) w).alloc (.cells #[.pointer (some ⟨bm, 0, none⟩), .int .i64 root, .pointer (some cp)] 61)).trans ho)
      clear ho
      go_wp2_with fail
      all_goals
        go_ret
        exact ⟨Or.inr ⟨pa, HA.out, rfl⟩, HO.out⟩
    · have HA : Hid (PF = .error (cs, va)) := by show _ = _; rw [HPF.out]; unfold placeG; rw [if_neg (by have := HRR.out; omega), if_pos hcs]
      have b1 : (cs != -1) = true := by simpa using hcs
      clear HPF HRR hr
      go_enter Tryd.func44, Tryd.ntmps44
      go_wp2_with fail
      refine (HW.out _ ((Only.refl _ w).alloc _)).mono ?_
      rintro z w5 ⟨rfl, ho⟩
      have HO := Vx.hid (((Only.refl (fun _ => False) w).alloc (.cells #[.pointer (some ⟨bm, 0, none⟩), .int .i64 root, .pointer (some cp)] 61)).trans ho)
      clear ho
      go_wp2_with fail
      all_goals
        exact ⟨rfl, Or.inl ⟨cs, va, HA.out, rfl⟩, HO.out⟩
  · have HA : Hid (PF = .error ((misC u : Nat), va)) := by show _ = _; rw [HPF.out]; unfold placeG; rw [if_pos (by have := HRR.out; omega)]
    have b1 : ((r : Int) != 0) = true := by simp; omega
    have b2 : ¬ (r : Int) = 0 := by omega
    clear HPF HRR hr HW
    go_enter Tryd.func44, Tryd.ntmps44
    go_wp2_with fail
    all_goals
      exact ⟨rfl, Or.inl ⟨_, va, HA.out, rfl⟩, (Only.refl _ w).alloc _⟩
end Go.Proofs.YtflmobffeeocdaaDoor

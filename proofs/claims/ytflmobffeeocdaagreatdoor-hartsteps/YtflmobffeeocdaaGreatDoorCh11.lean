import Derived.Test.YtflmobffeeocdaaGreatDoorCh8
import Derived.Test.YtflmobffeeocdaaGreatDoorCh10
/- Walks of package mmu: Walk. -/
namespace Go.Vx
def needN (u : Nat) : Nat := if u = 0 then 8 else if u = 1 then 2 else 132
def pageC (u : Nat) : Nat := if u = 0 then 12 else if u = 1 then 13 else 15
def accC (u : Nat) : Nat := if u = 0 then 1 else if u = 1 then 5 else 7
end Go.Vx
namespace Go.Proofs.YtflmobffeeocdaaGreatDoor
open Go.ChangeShapes Go.WideShapes Go.ChangeAt Go.RowKit
open Go.Vx

/-- The table of uses, where it lies. -/
def UsesAt (w : World) : Prop := ∀ u, u < 3 → w.cell? ⟨0, u * 3, none⟩ = some (.int .u32 (needN u : Nat)) ∧ w.cell? ⟨0, u * 3 + 1, none⟩ = some (.int .i64 (pageC u : Nat)) ∧ w.cell? ⟨0, u * 3 + 2, none⟩ = some (.int .i64 (accC u : Nat))
theorem UsesAt.only {S : Nat → Prop} {w w' : World} (h : UsesAt w) (ho : Only S w w') (hS : ¬ S 0) : UsesAt w' := by
  have hlt : 0 < w.heap.size := World.block_lt_of_cell? w _ (h 0 (by decide)).1
  intro u hu
  obtain ⟨h0, h1, h2⟩ := h u hu
  exact ⟨by rw [ho.cell (p := ⟨0, u * 3, none⟩) hlt hS]; exact h0, by rw [ho.cell (p := ⟨0, u * 3 + 1, none⟩) hlt hS]; exact h1, by rw [ho.cell (p := ⟨0, u * 3 + 2, none⟩) hlt hS]; exact h2⟩
theorem UsesAt.below {B : Nat} {w w' : World} (h : UsesAt w) (hb : Below B w w') (hB : 0 < B) : UsesAt w' := by
  intro u hu
  obtain ⟨h0, h1, h2⟩ := h u hu
  exact ⟨by rw [hb.cell (p := ⟨0, u * 3, none⟩) hB]; exact h0, by rw [hb.cell (p := ⟨0, u * 3 + 1, none⟩) hB]; exact h1, by rw [hb.cell (p := ⟨0, u * 3 + 2, none⟩) hB]; exact h2⟩
/-- What a leaf says of an address. -/
def endF (n u va : Nat) (e S : Nat) : Nat × Int :=
  if (okB u e && wholeB e S) = false then (0, (pageC u : Nat)) else if 4096 * n ≤ e / 1024 * 4096 + va % S then (0, (accC u : Nat)) else (e / 1024 * 4096 + va % S, -1)
/-- Walk. -/
def walkF (f : Nat → UInt8) (n : Nat) (root : Int) (va : Nat) (use : Int) : Nat × Int :=
  if use < 0 ∨ 3 ≤ use then (0, 2)
  else if (leafF f n root va).2.2 ≠ 0 then (0, (accC use.toNat : Nat)) else endF n use.toNat va (leafF f n root va).1 (leafF f n root va).2.1
theorem leaf_size (f : Nat → UInt8) (n : Nat) (root : Int) (va : Nat) : (leafF f n root va).2.1 = 4096 ∨ (leafF f n root va).2.1 = 4194304 := by
  rw [leafF_eq]
  split
  · exact Or.inr rfl
  · exact Or.inl rfl
theorem leaf_lt (f : Nat → UInt8) (n : Nat) (root : Int) (va : Nat) : (leafF f n root va).1 < 4294967296 := by
  rw [leafF_eq]
  split
  · exact entF_lt _ _ _ _
  · exact entF_lt _ _ _ _
theorem leaf_err (f : Nat → UInt8) (n : Nat) (root : Int) (va : Nat) : (leafF f n root va).2.2 = 0 ∨ (leafF f n root va).2.2 = 1 := by
  rw [leafF_eq]
  split
  · exact entF_err _ _ _ _
  · exact entF_err _ _ _ _
theorem allows_any (u e S : Nat) (hu : u < 3) (he : e < 4294967296) (hS : S = 4096 ∨ S = 4194304) (w : World) :
    Calls Tryz.prog 62 #[.int .u32 (e : Int), .int .u32 (S : Int), .int .u32 (needN u : Nat)] w fun x w' => x = .returned (.bool (okB u e && wholeB e S)) ∧ w' = w := by
  have h3 : u = 0 ∨ u = 1 ∨ u = 2 := by omega
  refine allows_gen e S (needN u) (need1 u) (need2 u) he hS (need1_lt u) (need2_lt u) ?_ ?_ (okB u e) (ok_bits u e hu) w
  · rcases h3 with rfl | rfl | rfl <;> kernel_rfl
  · rcases h3 with rfl | rfl | rfl <;> kernel_rfl
set_option maxRecDepth 100000 in
theorem walk_ok {U : Nat → Prop} {w : World} {bm n : Nat} {f : Nat → UInt8} (h : MemAt U w bm n f) (hus : UsesAt w) (root : Int) (va : Nat) (hva : va < 4294967296) (u : Nat) (hu : u < 3) :
    Calls Tryz.prog 37 #[.pointer (some ⟨bm, 0, none⟩), .int .i64 root, .int .u32 (va : Int), .int .i64 (u : Int)] w fun x w' => x = .returned (.tuple #[.int .i64 ((walkF f n root va u).1 : Nat), .int .i64 (walkF f n root va u).2]) ∧ Only (fun _ => False) w w' := by
  obtain ⟨hc0, hc1, hc2⟩ := hus u hu
  have hlt : 0 < w.heap.size := World.block_lt_of_cell? w _ hc0
  have HM := Vx.hid h
  have hn : n ≤ 256 := by obtain ⟨bp, q, h⟩ := h; exact h.top
  have HLF := Vx.hid (fun wv (hv : Only (fun _ => False) w wv) => leaf_any (HM.out.only hv (fun _ h _ => h.elim)) root va hva)
  have HAL := Vx.hid (fun wv => allows_any u (leafF f n root va).1 (leafF f n root va).2.1 hu (leaf_lt f n root va) (leaf_size f n root va) wv)
  have HPG := Vx.hid (fun wv => page_any (leafF f n root va).1 (leaf_lt f n root va) wv)
  have HPS := Vx.hid (fun wv (hv : Only (fun _ => False) w wv) => pages_any (HM.out.only hv (fun _ h _ => h.elim)))
  have hS := leaf_size f n root va
  have hr := leaf_err f n root va
  have hpb : (leafF f n root va).1 / 1024 < 4194304 := by have := leaf_lt f n root va; omega
  have HWF : Hid (walkF f n root va u = if (leafF f n root va).2.2 ≠ 0 then (0, ((accC u : Nat) : Int)) else if (okB u (leafF f n root va).1 && wholeB (leafF f n root va).1 (leafF f n root va).2.1) = false then (0, ((pageC u : Nat) : Int)) else if 4096 * n ≤ (leafF f n root va).1 / 1024 * 4096 + va % (leafF f n root va).2.1 then (0, ((accC u : Nat) : Int)) else ((leafF f n root va).1 / 1024 * 4096 + va % (leafF f n root va).2.1, -1)) := by
    show walkF f n root va u = _
    unfold walkF endF
    rw [if_neg (by omega)]
    rfl
  generalize walkF f n root va u = WF at HWF
  generalize (okB u (leafF f n root va).1 && wholeB (leafF f n root va).1 (leafF f n root va).2.1) = B at HAL HWF
  generalize (leafF f n root va).1 / 1024 = pg at HPG hpb HWF
  generalize (leafF f n root va).2.2 = c at HLF hr HWF
  generalize (leafF f n root va).2.1 = S at HLF HAL hS HWF
  generalize (leafF f n root va).1 = e at HLF HAL HPG
  have hmS : va % S < S := Nat.mod_lt _ (by omega)
  have t1 : Int.tmod (va : Int) (S : Int) = ((va % S : Nat) : Int) := by rw [Int.tmod_eq_emod_of_nonneg (by omega)]; rfl
  have t2 : (va : Int) % (S : Int) = ((va % S : Nat) : Int) := rfl
  have hS0 : ¬ (S : Int) = 0 := by omega
  have hS2 : ¬ S = 0 := by omega
  have w1 : IntKind.i64.wrap ((pg : Int) * 4096) = (pg : Int) * 4096 := by rw [IntKind.wrap_i64]; omega
  have w2 : IntKind.i64.wrap ((va % S : Nat) : Int) = ((va % S : Nat) : Int) := by rw [IntKind.wrap_i64]; omega
  have w3 : IntKind.i64.wrap ((n : Int) * 4096) = (n : Int) * 4096 := by rw [IntKind.wrap_i64]; omega
  have hrb : va % S < 4194304 := by omega
  generalize va % S = r at t1 t2 w2 hmS hrb HWF
  have w4 : IntKind.i64.wrap ((pg : Int) * 4096 + (r : Int)) = (pg : Int) * 4096 + (r : Int) := by rw [IntKind.wrap_i64]; omega
  have hi1 : 0 ≤ (u : Int) ∧ (u : Int) < 3 := by omega
  have d0 : decide ((u : Int) < 0) = false := decide_eq_false (by omega)
  have d1 : ¬ 3 ≤ (u : Int) := by omega
  have HU := Vx.hid hu
  have HB := Vx.hid (And.intro hpb (And.intro hmS hn))
  generalize needN u = N0 at hc0 HAL
  generalize pageC u = PC at hc1 HWF
  generalize accC u = AC at hc2 HWF
  clear h hus hva hu hS hmS hn hpb hrb
  go_enter Tryz.func37, Tryz.ntmps37
  go_wp2_with fail
  refine (HLF.out _ ((Only.refl _ w).alloc _)).mono ?_
  rintro z w5 ⟨rfl, ho⟩
  have HO := Vx.hid ((((Only.refl (fun _ => False) w).alloc (.cells #[Value.int .u32 (N0 : Int), .int .i64 (PC : Int), .int .i64 (AC : Int)] 110)).trans ho))
  have hblk : w5.heap[w.heap.size]? = some (.cells #[Value.int .u32 (N0 : Int), .int .i64 (PC : Int), .int .i64 (AC : Int)] 110 (0, 0)) := by
    rw [ho.block w.heap.size (by simp) (fun h => h)]; exact heap_alloc_last w _
  have g0 : w5.cell? ⟨w.heap.size, 0, none⟩ = some (.int .u32 (N0 : Int)) := by rw [cell_of_row _ _ 0 _ _ (0, 0) hblk]; rfl
  have g1 : w5.cell? ⟨w.heap.size, 1, none⟩ = some (.int .i64 (PC : Int)) := by rw [cell_of_row _ _ 1 _ _ (0, 0) hblk]; rfl
  have g2 : w5.cell? ⟨w.heap.size, 2, none⟩ = some (.int .i64 (AC : Int)) := by rw [cell_of_row _ _ 2 _ _ (0, 0) hblk]; rfl
  have g1' : w5.drew.cell? ⟨w.heap.size, 1, none⟩ = some (.int .i64 (PC : Int)) := g1
  have g2' : w5.drew.cell? ⟨w.heap.size, 2, none⟩ = some (.int .i64 (AC : Int)) := g2
  have g2'' : w5.drew.drew.cell? ⟨w.heap.size, 2, none⟩ = some (.int .i64 (AC : Int)) := g2
  clear ho hblk
  generalize w.heap.size = g at g0 g1 g2 g1' g2' g2'' hlt
  clear hlt
  rcases hr with rfl | rfl
  · cases B with
    | false =>
      have HW2 : Hid (WF = (0, (PC : Int))) := by show _ = _; rw [HWF.out]; rfl
      clear HWF
      go_wp2_with fail
      refine (HAL.out _).mono ?_
      rintro z w' ⟨rfl, h⟩
      have h2 := h.symm; clear h; subst h2
      go_wp2_with fail
      go_region
      all_goals
        go_wp2_with fail
        go_ret2
        rw [HW2.out]
        exact ⟨rfl, HO.out.drew⟩
    | true =>
      have HW2 : Hid (WF = if 4096 * n ≤ pg * 4096 + r then (0, (AC : Int)) else (pg * 4096 + r, -1)) := by show _ = _; rw [HWF.out]; rfl
      clear HWF
      go_wp2_with fail
      refine (HAL.out _).mono ?_
      rintro z w' ⟨rfl, h⟩
      have h2 := h.symm; clear h; subst h2
      go_wp2_with fail
      have HPD := Vx.hid (HPG.out w5.drew)
      go_region_law (refine Vx.step_call rfl 63 #[.tmp 44] #[28] rfl #[.int .u32 (e : Int)] (by simp [Act.eval, Act.put]) (by simp [go_sem]) HPD.out ?_; rintro z w' ⟨rfl, h⟩; have h2 := h.symm; clear h; subst h2; refine ⟨_, rfl, ?_⟩)
      all_goals
        go_wp2_with fail
        refine (HPS.out _ HO.out.drew).mono ?_
        rintro z w' ⟨rfl, h⟩
        have h2 := h.symm; clear h; subst h2
        by_cases hge : 4096 * n ≤ pg * 4096 + r
        · have c1 : (n : Int) * 4096 ≤ (pg : Int) * 4096 + (r : Int) := by omega
          have HW3 : Hid (WF = (0, (AC : Int))) := by show _ = _; rw [HW2.out, if_pos hge]
          clear hge HW2
          go_wp2_with fail
          go_region
          all_goals
            go_wp2_with fail
            go_ret2
            rw [HW3.out]
            exact ⟨rfl, HO.out.drew.drew⟩
        · have c1 : ¬ (n : Int) * 4096 ≤ (pg : Int) * 4096 + (r : Int) := by omega
          have HW3 : Hid (WF = (pg * 4096 + r, -1)) := by show _ = _; rw [HW2.out, if_neg hge]
          clear hge HW2
          go_wp2_with fail
          all_goals
            go_ret2
            rw [HW3.out]
            exact ⟨rfl, HO.out.drew⟩
  · have HW2 : Hid (WF = (0, (AC : Int))) := by show _ = _; rw [HWF.out]; rfl
    clear HWF
    go_wp2_with fail
    go_region
    all_goals
      go_wp2_with fail
      go_ret2
      rw [HW2.out]
      exact ⟨rfl, HO.out.drew⟩
end Go.Proofs.YtflmobffeeocdaaGreatDoor

/- Walks of package hart: target, register, place. -/
namespace Go.Vx
def misC (u : Nat) : Nat := if u = 0 then 0 else if u = 1 then 4 else 6
/-- Where bytes at an address lie, or the trap. -/
def placeG (va len u : Nat) (W : Nat × Int) : Except (Int × Nat) Nat :=
  if va % len ≠ 0 then .error ((misC u : Nat), va) else if W.2 ≠ -1 then .error (W.2, va) else .ok W.1
end Go.Vx
namespace Go.Proofs.YtflmobffeeocdaaGreatDoor
open Go.ChangeShapes Go.WideShapes Go.ChangeAt Go.RowKit
open Go.Vx

/-- What a step gives up with. -/
def trapP (c : Int) (t : Nat) : List PanicEntry := [{ v := .iface 149 (.agg #[.int .i64 c, .int .u32 (t : Int)]), recovered := false }]
theorem target_ok (va : Nat) (h4 : va % 4 = 0) (w : World) :
    Calls Tryz.prog 91 #[.int .u32 (va : Int)] w fun e w' => e = .returned (.int .u32 (va : Int)) ∧ w' = w := by
  have t1 : Int.tmod (va : Int) 4 = 0 := by rw [Int.tmod_eq_emod_of_nonneg (by omega)]; omega
  have t2 : (va : Int) % 4 = 0 := by omega
  clear h4
  go_enter Tryz.func91, Tryz.ntmps91
  go_wp2_with fail
  all_goals
    go_ret
    exact ⟨rfl, rfl⟩
theorem target_no (va : Nat) (h4 : va % 4 ≠ 0) (w : World) :
    Calls Tryz.prog 91 #[.int .u32 (va : Int)] w fun e w' => e = .panicked (trapP 0 va) ∧ w' = w := by
  obtain ⟨r, hr⟩ : ∃ r : Nat, r = va % 4 := ⟨_, rfl⟩
  have t1 : Int.tmod (va : Int) 4 = (r : Int) := by rw [Int.tmod_eq_emod_of_nonneg (by omega)]; omega
  have t2 : (va : Int) % 4 = (r : Int) := by omega
  have r0 : ¬ (r : Int) = 0 := by omega
  have b0 : ((r : Int) != 0) = true := by simp; omega
  have w0 : IntKind.u32.wrap (r : Int) = (r : Int) := wrap_u32_n r (by omega)
  clear h4 hr
  go_enter Tryz.func91, Tryz.ntmps91
  go_wp2_with fail
  all_goals
    exact ⟨rfl, rfl, rfl⟩
/-- A register's number. -/
def regF (R : Nat → Nat) (r : Nat) : Nat := if r = 0 then 0 else R r
/-- A hart's registers and pc, at a place. -/
structure CtxAt (w : World) (cb off : Nat) (R : Nat → Nat) (pc : Nat) : Prop where
  r : ∀ i, i < 32 → w.cell? ⟨cb, off + i, none⟩ = some (.int .u32 (R i : Nat))
  p : w.cell? ⟨cb, off + 32, none⟩ = some (.int .u32 (pc : Int))
theorem register_any {w : World} {cb off : Nat} {R : Nat → Nat} {pc : Nat} (h : CtxAt w cb off R pc) (m : Value) (root : Int) (r : Nat) (hr : r < 32) :
    Calls Tryz.prog 89 #[.agg #[m, .int .i64 root, .pointer (some ⟨cb, off, none⟩)], .int .i64 (r : Int)] w fun e w' => e = .returned (.int .u32 (regF R r : Nat)) ∧ Only (fun _ => False) w w' := by
  by_cases h0 : r = 0
  · subst h0
    go_enter Tryz.func89, Tryz.ntmps89
    go_wp2_with fail
    all_goals
      go_ret
      exact ⟨rfl, (Only.refl _ w).alloc _⟩
  · have HR : Hid (regF R r = R r) := if_neg h0
    have hc := h.r r hr
    have hl : cb < w.heap.size := World.block_lt_of_cell? w _ hc
    have c0 : ¬ (r : Int) = 0 := by omega
    have hi : 0 ≤ (r : Int) ∧ (r : Int) < 32 := by omega
    clear h h0
    go_enter Tryz.func89, Tryz.ntmps89
    go_wp2_with fail
    all_goals
      go_ret
      rw [HR.out]
      exact ⟨rfl, (Only.refl _ w).alloc _⟩
/-- The table of causes, where it lies. -/
def MisAt (w : World) : Prop := ∀ u, u < 3 → w.cell? ⟨1, u, none⟩ = some (.int .i64 (misC u : Nat))
theorem MisAt.only {S : Nat → Prop} {w w' : World} (h : MisAt w) (ho : Only S w w') (hS : ¬ S 1) : MisAt w' := by
  have hlt : 1 < w.heap.size := World.block_lt_of_cell? w _ (h 0 (by decide))
  intro u hu
  rw [ho.cell (p := ⟨1, u, none⟩) hlt hS]
  exact h u hu
/-- Where bytes at an address lie, or the trap. -/
def placeF (f : Nat → UInt8) (n : Nat) (root : Int) (va len u : Nat) : Except (Int × Nat) Nat := placeG va len u (walkF f n root va u)
theorem hplace_any {U : Nat → Prop} {w : World} {bm n : Nat} {f : Nat → UInt8} (h : MemAt U w bm n f) (hus : UsesAt w) (hmi : MisAt w) (root : Int) (cp : Addr) (va : Nat) (hva : va < 4294967296) (len : Nat) (hl : 1 ≤ len) (hl4 : len ≤ 4) (u : Nat) (hu : u < 3) :
    Calls Tryz.prog 101 #[.agg #[.pointer (some ⟨bm, 0, none⟩), .int .i64 root, .pointer (some cp)], .int .u32 (va : Int), .int .u32 (len : Int), .int .i64 (u : Int)] w fun e w' => ((∃ c t, placeF f n root va len u = .error (c, t) ∧ e = .panicked (trapP c t)) ∨ ∃ a, placeF f n root va len u = .ok a ∧ e = .returned (.int .i64 (a : Nat))) ∧ Only (fun _ => False) w w' := by
  have HM := Vx.hid h
  have HUS := Vx.hid hus
  have t1 : Int.tmod (va : Int) (len : Int) = ((va % len : Nat) : Int) := by rw [Int.tmod_eq_emod_of_nonneg (by omega)]; rfl
  have t2 : (va : Int) % (len : Int) = ((va % len : Nat) : Int) := rfl
  have z1 : ¬ (len : Int) = 0 := by omega
  have hr : va % len < 4 := by have := Nat.mod_lt va (show len > 0 by omega); omega
  have HW := Vx.hid (fun wv (hv : Only (fun _ => False) w wv) => walk_ok (HM.out.only hv (fun _ h _ => h.elim)) (HUS.out.only hv (fun h => h)) root va hva u hu)
  have HPF : Hid (placeF f n root va len u = placeG va len u (walkF f n root va u)) := rfl
  have hmc := hmi u hu
  have hgl : 1 < w.heap.size := World.block_lt_of_cell? w _ hmc
  have hi : 0 ≤ (u : Int) ∧ (u : Int) < 3 := by omega
  generalize walkF f n root va u = WF at HW HPF
  generalize placeF f n root va len u = PF at HPF
  obtain ⟨pa, cs⟩ := WF
  obtain ⟨r, hrr⟩ : ∃ r, va % len = r := ⟨_, rfl⟩
  rw [hrr] at t1 t2 hr
  have w0 : IntKind.u32.wrap (r : Int) = (r : Int) := wrap_u32_n r (by omega)
  have HRR := Vx.hid hrr
  clear h hus hva hl hl4 hu hrr hmi
  by_cases h0 : r = 0
  · subst h0
    by_cases hcs : cs = -1
    · subst hcs
      have HA : Hid (PF = .ok pa) := by show _ = _; rw [HPF.out]; unfold placeG; rw [if_neg (by have := HRR.out; omega), if_neg (by simp)]
      clear HPF HRR hr
      go_enter Tryz.func101, Tryz.ntmps101
      go_wp2_with fail
      refine (HW.out _ ((Only.refl _ w).alloc _)).mono ?_
      rintro z w5 ⟨rfl, ho⟩
      have HO := Vx.hid (((Only.refl (fun _ => False) w).alloc (.cells #[.pointer (some ⟨bm, 0, none⟩), .int .i64 root, .pointer (some cp)] 125)).trans ho)
      clear ho
      go_wp2_with fail
      all_goals
        go_ret
        exact ⟨Or.inr ⟨pa, HA.out, rfl⟩, HO.out⟩
    · have HA : Hid (PF = .error (cs, va)) := by show _ = _; rw [HPF.out]; unfold placeG; rw [if_neg (by have := HRR.out; omega), if_pos hcs]
      have b1 : (cs != -1) = true := by simpa using hcs
      clear HPF HRR hr
      go_enter Tryz.func101, Tryz.ntmps101
      go_wp2_with fail
      refine (HW.out _ ((Only.refl _ w).alloc _)).mono ?_
      rintro z w5 ⟨rfl, ho⟩
      have HO := Vx.hid (((Only.refl (fun _ => False) w).alloc (.cells #[.pointer (some ⟨bm, 0, none⟩), .int .i64 root, .pointer (some cp)] 125)).trans ho)
      clear ho
      go_wp2_with fail
      all_goals
        exact ⟨rfl, Or.inl ⟨cs, va, HA.out, rfl⟩, HO.out⟩
  · have HA : Hid (PF = .error ((misC u : Nat), va)) := by show _ = _; rw [HPF.out]; unfold placeG; rw [if_pos (by have := HRR.out; omega)]
    have b1 : ((r : Int) != 0) = true := by simp; omega
    have b2 : ¬ (r : Int) = 0 := by omega
    clear HPF HRR hr HW
    go_enter Tryz.func101, Tryz.ntmps101
    go_wp2_with fail
    all_goals
      exact ⟨rfl, Or.inl ⟨_, va, HA.out, rfl⟩, (Only.refl _ w).alloc _⟩
end Go.Proofs.YtflmobffeeocdaaGreatDoor

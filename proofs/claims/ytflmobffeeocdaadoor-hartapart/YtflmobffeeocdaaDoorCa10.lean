import Derived.Test.YtflmobffeeocdaaDoorCa9
/- Walks of package mmu: Walk. -/
namespace Go.Vx
def needN (u : Nat) : Nat := if u = 0 then 8 else if u = 1 then 2 else 132
def pageC (u : Nat) : Nat := if u = 0 then 12 else if u = 1 then 13 else 15
def accC (u : Nat) : Nat := if u = 0 then 1 else if u = 1 then 5 else 7
end Go.Vx
namespace Go.Proofs.YtflmobffeeocdaaDoor
open Go.ChangeShapes Go.WideShapes Go.ChangeAt Go.RowKit
open Go.Vx

/-- The table of uses, where it lies. -/
def UsesAt (w : World) : Prop := ∀ u, u < 3 → w.cell? ⟨2, u * 3, none⟩ = some (.int .u32 (needN u : Nat)) ∧ w.cell? ⟨2, u * 3 + 1, none⟩ = some (.int .i64 (pageC u : Nat)) ∧ w.cell? ⟨2, u * 3 + 2, none⟩ = some (.int .i64 (accC u : Nat))
theorem UsesAt.only {S : Nat → Prop} {w w' : World} (h : UsesAt w) (ho : Only S w w') (hS : ¬ S 2) : UsesAt w' := by
  have hlt : 2 < w.heap.size := World.block_lt_of_cell? w _ (h 0 (by decide)).1
  intro u hu
  obtain ⟨h0, h1, h2⟩ := h u hu
  exact ⟨by rw [ho.cell (p := ⟨2, u * 3, none⟩) hlt hS]; exact h0, by rw [ho.cell (p := ⟨2, u * 3 + 1, none⟩) hlt hS]; exact h1, by rw [ho.cell (p := ⟨2, u * 3 + 2, none⟩) hlt hS]; exact h2⟩
theorem UsesAt.below {B : Nat} {w w' : World} (h : UsesAt w) (hb : Below B w w') (hB : 2 < B) : UsesAt w' := by
  intro u hu
  obtain ⟨h0, h1, h2⟩ := h u hu
  exact ⟨by rw [hb.cell (p := ⟨2, u * 3, none⟩) hB]; exact h0, by rw [hb.cell (p := ⟨2, u * 3 + 1, none⟩) hB]; exact h1, by rw [hb.cell (p := ⟨2, u * 3 + 2, none⟩) hB]; exact h2⟩
/-- What a leaf says of an address. -/
def endF (n u va : Nat) (e S : Nat) : Nat × Int :=
  if (okB u e && wholeB e S) = false then (0, (pageC u : Nat)) else if 4096 * n ≤ e / 1024 * 4096 + va % S then (0, (accC u : Nat)) else (e / 1024 * 4096 + va % S, -1)
/-- Walk. -/
def walkF (f : Nat → UInt8) (n : Nat) (root : Int) (va : Nat) (use : Int) : Nat × Int :=
  if use < 0 ∨ 3 ≤ use then (0, 2)
  else if (leafF f n root va).2.2 ≠ 0 then (0, (accC use.toNat : Nat)) else endF n use.toNat va (leafF f n root va).1 (leafF f n root va).2.1
theorem walk_no (p : Value) (root : Int) (va : Int) (use : Int) (h : use < 0 ∨ 3 ≤ use) (w : World) :
    Calls Tryd.prog 52 #[p, .int .i64 root, .int .u32 va, .int .i64 use] w fun x w' => x = .returned (.tuple #[.int .i64 0, .int .i64 2]) ∧ w' = w := by
  by_cases h0 : use < 0
  · have d0 : decide (use < 0) = true := decide_eq_true h0
    clear h
    go_enter Tryd.func52, Tryd.ntmps52
    go_wp2_with fail
    all_goals
      go_ret2
      exact ⟨rfl, rfl⟩
  · have d0 : decide (use < 0) = false := decide_eq_false h0
    have h1 : 3 ≤ use := by omega
    clear h
    go_enter Tryd.func52, Tryd.ntmps52
    go_wp2_with fail
    all_goals
      go_ret2
      exact ⟨rfl, rfl⟩
theorem leaf_size (f : Nat → UInt8) (n : Nat) (root : Int) (va : Nat) : (leafF f n root va).2.1 = 4096 ∨ (leafF f n root va).2.1 = 4194304 := by
  rw [leafF_eq]
  split
  · exact Or.inr rfl
  · exact Or.inl rfl
theorem leaf_lt (f : Nat → UInt8) (n : Nat) (root : Int) (va : Nat) : (leafF f n root va).1 < 4294967296 := by
  rw [leafF_eq]
  split
  · exact entF_lt _ _ _ _
  · exact entF_lt _ _ _ _
theorem leaf_err (f : Nat → UInt8) (n : Nat) (root : Int) (va : Nat) : (leafF f n root va).2.2 = 0 ∨ (leafF f n root va).2.2 = 1 := by
  rw [leafF_eq]
  split
  · exact entF_err _ _ _ _
  · exact entF_err _ _ _ _
theorem allows_any (u e S : Nat) (hu : u < 3) (he : e < 4294967296) (hS : S = 4096 ∨ S = 4194304) (w : World) :
    Calls Tryd.prog 56 #[.int .u32 (e : Int), .int .u32 (S : Int), .int .u32 (needN u : Nat)] w fun x w' => x = .returned (.bool (okB u e && wholeB e S)) ∧ w' = w := by
  have h3 : u = 0 ∨ u = 1 ∨ u = 2 := by omega
  refine allows_gen e S (needN u) (need1 u) (need2 u) he hS (need1_lt u) (need2_lt u) ?_ ?_ (okB u e) (ok_bits u e hu) w
  · rcases h3 with rfl | rfl | rfl <;> kernel_rfl
  · rcases h3 with rfl | rfl | rfl <;> kernel_rfl
set_option maxRecDepth 100000 in
theorem walk_ok {U : Nat → Prop} {w : World} {bm n : Nat} {f : Nat → UInt8} (h : MemAt U w bm n f) (hus : UsesAt w) (root : Int) (va : Nat) (hva : va < 4294967296) (u : Nat) (hu : u < 3) :
    Calls Tryd.prog 52 #[.pointer (some ⟨bm, 0, none⟩), .int .i64 root, .int .u32 (va : Int), .int .i64 (u : Int)] w fun x w' => x = .returned (.tuple #[.int .i64 ((walkF f n root va u).1 : Nat), .int .i64 (walkF f n root va u).2]) ∧ Only (fun _ => False) w w' := by
  obtain ⟨hc0, hc1, hc2⟩ := hus u hu
  have hlt : 2 < w.heap.size := World.block_lt_of_cell? w _ hc0
  have HM := Vx.hid h
  have hn : n ≤ 256 := by obtain ⟨bp, q, h⟩ := h; exact h.top
  have HLF := Vx.hid (fun wv (hv : Only (fun _ => False) w wv) => leaf_any (HM.out.only hv (fun _ h _ => h.elim)) root va hva)
  have HAL := Vx.hid (fun wv => allows_any u (leafF f n root va).1 (leafF f n root va).2.1 hu (leaf_lt f n root va) (leaf_size f n root va) wv)
  have HPG := Vx.hid (fun wv => page_any (leafF f n root va).1 (leaf_lt f n root va) wv)
  have HPS := Vx.hid (fun wv (hv : Only (fun _ => False) w wv) => pages_any (HM.out.only hv (fun _ h _ => h.elim)))
  have hS := leaf_size f n root va
  have hr := leaf_err f n root va
  have hpb : (leafF f n root va).1 / 1024 < 4194304 := by have := leaf_lt f n root va; omega
  have HWF : Hid (walkF f n root va u = if (leafF f n root va).2.2 ≠ 0 then (0, ((accC u : Nat) : Int)) else if (okB u (leafF f n root va).1 && wholeB (leafF f n root va).1 (leafF f n root va).2.1) = false then (0, ((pageC u : Nat) : Int)) else if 4096 * n ≤ (leafF f n root va).1 / 1024 * 4096 + va % (leafF f n root va).2.1 then (0, ((accC u : Nat) : Int)) else ((leafF f n root va).1 / 1024 * 4096 + va % (leafF f n root va).2.1, -1)) := by
    show walkF f n root va u = _
    unfold walkF endF
    rw [if_neg (by omega)]
    rfl
  generalize walkF f n root va u = WF at HWF
  generalize (okB u (leafF f n root va).1 && wholeB (leafF f n root va).1 (leafF f n root va).2.1) = B at HAL HWF
  generalize (leafF f n root va).1 / 1024 = pg at HPG hpb HWF
  generalize (leafF f n root va).2.2 = c at HLF hr HWF
  generalize (leafF f n root va).2.1 = S at HLF HAL hS HWF
  generalize (leafF f n root va).1 = e at HLF HAL HPG
  have hmS : va % S < S := Nat.mod_lt _ (by omega)
  have t1 : Int.tmod (va : Int) (S : Int) = ((va % S : Nat) : Int) := by rw [Int.tmod_eq_emod_of_nonneg (by omega)]; rfl
  have t2 : (va : Int) % (S : Int) = ((va % S : Nat) : Int) := rfl
  have hS0 : ¬ (S : Int) = 0 := by omega
  have hS2 : ¬ S = 0 := by omega
  have w1 : IntKind.i64.wrap ((pg : Int) * 4096) = (pg : Int) * 4096 := by rw [IntKind.wrap_i64]; omega
  have w2 : IntKind.i64.wrap ((va % S : Nat) : Int) = ((va % S : Nat) : Int) := by rw [IntKind.wrap_i64]; omega
  have w3 : IntKind.i64.wrap ((n : Int) * 4096) = (n : Int) * 4096 := by rw [IntKind.wrap_i64]; omega
  have hrb : va % S < 4194304 := by omega
  generalize va % S = r at t1 t2 w2 hmS hrb HWF
  have w4 : IntKind.i64.wrap ((pg : Int) * 4096 + (r : Int)) = (pg : Int) * 4096 + (r : Int) := by rw [IntKind.wrap_i64]; omega
  have hi1 : 0 ≤ (u : Int) ∧ (u : Int) < 3 := by omega
  have d0 : decide ((u : Int) < 0) = false := decide_eq_false (by omega)
  have d1 : ¬ 3 ≤ (u : Int) := by omega
  have HU := Vx.hid hu
  have HB := Vx.hid (And.intro hpb (And.intro hmS hn))
  generalize needN u = N0 at hc0 HAL
  generalize pageC u = PC at hc1 HWF
  generalize accC u = AC at hc2 HWF
  clear h hus hva hu hS hmS hn hpb hrb
  go_enter Tryd.func52, Tryd.ntmps52
  go_wp2_with fail
  refine (HLF.out _ ((Only.refl _ w).alloc _)).mono ?_
  rintro z w5 ⟨rfl, ho⟩
  have HO := Vx.hid ((((Only.refl (fun _ => False) w).alloc (.cells #[Value.int .u32 (N0 : Int), .int .i64 (PC : Int), .int .i64 (AC : Int)] 109)).trans ho))
  have hblk : w5.heap[w.heap.size]? = some (.cells #[Value.int .u32 (N0 : Int), .int .i64 (PC : Int), .int .i64 (AC : Int)] 109 (0, 0)) := by
    rw [ho.block w.heap.size (by simp) (fun h => h)]; exact heap_alloc_last w _
  have g0 : w5.cell? ⟨w.heap.size, 0, none⟩ = some (.int .u32 (N0 : Int)) := by rw [cell_of_row _ _ 0 _ _ (0, 0) hblk]; rfl
  have g1 : w5.cell? ⟨w.heap.size, 1, none⟩ = some (.int .i64 (PC : Int)) := by rw [cell_of_row _ _ 1 _ _ (0, 0) hblk]; rfl
  have g2 : w5.cell? ⟨w.heap.size, 2, none⟩ = some (.int .i64 (AC : Int)) := by rw [cell_of_row _ _ 2 _ _ (0, 0) hblk]; rfl
  have g1' : w5.drew.cell? ⟨w.heap.size, 1, none⟩ = some (.int .i64 (PC : Int)) := g1
  have g2' : w5.drew.cell? ⟨w.heap.size, 2, none⟩ = some (.int .i64 (AC : Int)) := g2
  have g2'' : w5.drew.drew.cell? ⟨w.heap.size, 2, none⟩ = some (.int .i64 (AC : Int)) := g2
  clear ho hblk
  generalize w.heap.size = g at g0 g1 g2 g1' g2' g2'' hlt
  clear hlt
  rcases hr with rfl | rfl
  · cases B with
    | false =>
      have HW2 : Hid (WF = (0, (PC : Int))) := by show _ = _; rw [HWF.out]; rfl
      clear HWF
      go_wp2_with fail
      refine (HAL.out _).mono ?_
      rintro z w' ⟨rfl, h⟩
      have h2 := h.symm; clear h; subst h2
      go_wp2_with fail
      go_region
      all_goals
        go_wp2_with fail
        go_ret2
        rw [HW2.out]
        exact ⟨rfl, HO.out.drew⟩
    | true =>
      have HW2 : Hid (WF = if 4096 * n ≤ pg * 4096 + r then (0, (AC : Int)) else (pg * 4096 + r, -1)) := by show _ = _; rw [HWF.out]; rfl
      clear HWF
      go_wp2_with fail
      refine (HAL.out _).mono ?_
      rintro z w' ⟨rfl, h⟩
      have h2 := h.symm; clear h; subst h2
      go_wp2_with fail
      have HPD := Vx.hid (HPG.out w5.drew)
      go_region_law (refine Vx.step_call rfl 57 #[.tmp 44] #[23] rfl #[.int .u32 (e : Int)] (by simp [Act.eval, Act.put]) (by simp [go_sem]) HPD.out ?_; rintro z w' ⟨rfl, h⟩; have h2 := h.symm; clear h; subst h2; refine ⟨_, rfl, ?_⟩)
      all_goals
        go_wp2_with fail
        refine (HPS.out _ HO.out.drew).mono ?_
        rintro z w' ⟨rfl, h⟩
        have h2 := h.symm; clear h; subst h2
        by_cases hge : 4096 * n ≤ pg * 4096 + r
        · have c1 : (n : Int) * 4096 ≤ (pg : Int) * 4096 + (r : Int) := by omega
          have HW3 : Hid (WF = (0, (AC : Int))) := by show _ = _; rw [HW2.out, if_pos hge]
          clear hge HW2
          go_wp2_with fail
          go_region
          all_goals
            go_wp2_with fail
            go_ret2
            rw [HW3.out]
            exact ⟨rfl, HO.out.drew.drew⟩
        · have c1 : ¬ (n : Int) * 4096 ≤ (pg : Int) * 4096 + (r : Int) := by omega
          have HW3 : Hid (WF = (pg * 4096 + r, -1)) := by show _ = _; rw [HW2.out, if_neg hge]
          clear hge HW2
          go_wp2_with fail
          all_goals
            go_ret2
            rw [HW3.out]
            exact ⟨rfl, HO.out.drew⟩
  · have HW2 : Hid (WF = (0, (AC : Int))) := by show _ = _; rw [HWF.out]; rfl
    clear HWF
    go_wp2_with fail
    go_region
    all_goals
      go_wp2_with fail
      go_ret2
      rw [HW2.out]
      exact ⟨rfl, HO.out.drew⟩
end Go.Proofs.YtflmobffeeocdaaDoor

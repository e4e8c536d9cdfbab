/- Walks of the scripts: the steps of chapter 5 that change memory (made by gen_h9.py). -/
import Derived.Test.YtflmobffeeocdaaGreatDoorV2
import Derived.Test.YtflmobffeeocdaaGreatDoorK4
import Derived.Test.YtflmobffeeocdaaGreatDoorK5
import Derived.Test.YtflmobffeeocdaaGreatDoorG5
namespace Go.Proofs.YtflmobffeeocdaaGreatDoor
open Go.ChangeShapes Go.WideShapes Go.ChangeAt Go.RowKit
open Go.Vx

theorem OpAt.cellD {w : World} {ob : Nat} {K A B C D : Int} {s : List UInt8} (h : OpAt w ob K A B C D s) : w.cell? ⟨ob, 4, none⟩ = some (.int .i64 D) := by
  rw [cell_of_row _ _ 4 _ _ (0, 0) h.o]; rfl

set_option maxRecDepth 100000 in
set_option maxHeartbeats 4000000 in
theorem spaces_table {U : Nat → Prop} {w : World} {sb bm br bb n : Nat} {f : Nat → UInt8} (h : StAt U w sb bm br bb n f f) (A B C D : Int) (hA : I64 A) (hC : I64 C) (_hD : I64 D) (s : List UInt8) :
    Calls Tryz.prog 13 #[.pointer (some ⟨sb, 0, none⟩), .agg (opv 9 A B C D ⟨s.toArray⟩)] w fun e w' => e = .returned (.bool true) ∧ MvR U w sb bm br bb n w' := by
  have hB0 := MvI.begin h 9 A B C D s
  obtain ⟨wA, hwA⟩ : ∃ wA, wA = w.alloc (.cells (opv 9 A B C D ⟨s.toArray⟩) 51) := ⟨_, rfl⟩
  rw [← hwA] at hB0
  obtain ⟨x, hxe, hxl⟩ : ∃ x : Nat, IntKind.u32.wrap B = (x : Int) ∧ x < 4294967296 := ⟨(B % 4294967296).toNat, by rw [IntKind.wrap_u32]; omega, by omega⟩
  have HPA := Vx.hid (pageL_any hB0.st A hA)
  have HPC := Vx.hid (pageL_any hB0.st C hC)
  generalize nearF A n = pa at HPA
  generalize nearF C n = pc at HPC
  have HM : Hid (∀ wv, MvI U w sb bm br bb n w.heap.size 9 A B C D s wv f f → Calls Tryz.prog 39 #[.pointer (some ⟨bm, 0, none⟩), .int .i64 pa, .int .u32 (x : Int), .int .i64 pc] wv fun e w1 => e = .returned (.int .i64 ((tableR f n pa x pc).2 : Nat)) ∧ Hid (MvI U w sb bm br bb n w.heap.size 9 A B C D s w1 (tableR f n pa x pc).1 f)) := fun wv hv => by
    refine (putTable_any hv.st.m pa x hxl pc).mono ?_
    rintro e w1 ⟨rfl, hm, ho⟩
    exact ⟨rfl, hv.mem ho hm⟩
  have HR : Hid (∀ wv, MvI U w sb bm br bb n w.heap.size 9 A B C D s wv (tableR f n pa x pc).1 f → Calls Tryz.prog 40 #[.pointer (some ⟨br, 0, none⟩), .int .i64 pa, .int .i64 (x : Int), .int .i64 pc] wv fun e w1 => e = .returned (.int .i64 ((tableR f n pa x pc).2 : Nat)) ∧ Hid (MvI U w sb bm br bb n w.heap.size 9 A B C D s w1 (tableR f n pa x pc).1 (tableR f n pa x pc).1)) := fun wv hv => by
    refine (refPut_any hv.st.r pa x hxl pc).mono ?_
    rintro e w1 ⟨rfl, hr, ho⟩
    exact ⟨rfl, hv.ref ho hr⟩
  have HFIN : Hid (∀ wv, MvI U w sb bm br bb n w.heap.size 9 A B C D s wv (tableR f n pa x pc).1 (tableR f n pa x pc).1 → MvR U w sb bm br bb n wv) := fun wv h => h.fin
  have HCE : Hid (∀ wv f g, MvI U w sb bm br bb n w.heap.size 9 A B C D s wv f g → wv.cell? ⟨sb, 0, none⟩ = some (.pointer (some ⟨bm, 0, none⟩)) ∧ wv.cell? ⟨sb, 1, none⟩ = some (.pointer (some ⟨br, 0, none⟩)) ∧ wv.cell? ⟨w.heap.size, 4, none⟩ = some (.int .i64 D)) := fun wv f g h => ⟨h.st.c0, h.st.c1, h.op.cellD⟩
  generalize (tableR f n pa x pc).2 = rc at HM HR
  generalize (tableR f n pa x pc).1 = rf at HM HR HFIN
  have hxw : IntKind.i64.wrap (x : Int) = (x : Int) := by rw [IntKind.wrap_i64]; omega
  have hk0 : wA.cell? ⟨w.heap.size, 0, none⟩ = some (.int .i64 9) := by rw [hwA, cell_of_row _ _ 0 _ _ (0, 0) (heap_alloc_last w _)]; rfl
  obtain ⟨hk1, hk2, hk3, _⟩ := hB0.op.cells
  have HB0 := Vx.hid hB0
  obtain ⟨p, hp⟩ : ∃ p : ByteArray, p = ⟨s.toArray⟩ := ⟨_, rfl⟩
  rw [← hp] at hwA ⊢
  clear h hB0 hA hC _hD hp hxl
  unfold opv at *
  go_enter Tryz.func13, Tryz.ntmps13
  go_wp2_with fail
  rw [← hwA]
  refine HPA.out.mono ?_
  rintro e w' ⟨rfl, h⟩
  have h2 := h.symm; clear h; subst h2
  clear hwA
  generalize w.heap.size = ob at *
  go_wp2_with fail
  refine HPC.out.mono ?_
  rintro e w' ⟨rfl, h⟩
  have h2 := h.symm; clear h; subst h2
  obtain ⟨c0, _, _⟩ := HCE.out _ _ _ HB0.out
  go_wp2_with fail
  refine (HM.out _ HB0.out).mono ?_
  rintro e w2 ⟨rfl, HI2⟩
  obtain ⟨_, c1, _⟩ := HCE.out _ _ _ HI2.out
  go_wp2_with fail
  refine (HR.out _ HI2.out).mono ?_
  rintro e w3 ⟨rfl, HI3⟩
  go_wp2_with fail
  all_goals
    go_ret
    exact ⟨rfl, HFIN.out _ HI3.out⟩
set_option maxRecDepth 100000 in
set_option maxHeartbeats 4000000 in
theorem spaces_none {U : Nat → Prop} {w : World} {sb bm br bb n : Nat} {f : Nat → UInt8} (h : StAt U w sb bm br bb n f f) (A B C D : Int) (hA : I64 A) (hC : I64 C) (_hD : I64 D) (s : List UInt8) :
    Calls Tryz.prog 13 #[.pointer (some ⟨sb, 0, none⟩), .agg (opv 10 A B C D ⟨s.toArray⟩)] w fun e w' => e = .returned (.bool true) ∧ MvR U w sb bm br bb n w' := by
  have hB0 := MvI.begin h 10 A B C D s
  obtain ⟨wA, hwA⟩ : ∃ wA, wA = w.alloc (.cells (opv 10 A B C D ⟨s.toArray⟩) 51) := ⟨_, rfl⟩
  rw [← hwA] at hB0
  obtain ⟨x, hxe, hxl⟩ : ∃ x : Nat, IntKind.u32.wrap B = (x : Int) ∧ x < 4294967296 := ⟨(B % 4294967296).toNat, by rw [IntKind.wrap_u32]; omega, by omega⟩
  have HPA := Vx.hid (pageL_any hB0.st A hA)
  have HPC := Vx.hid (pageL_any hB0.st C hC)
  generalize nearF A n = pa at HPA
  generalize nearF C n = pc at HPC
  have HM : Hid (∀ wv, MvI U w sb bm br bb n w.heap.size 10 A B C D s wv f f → Calls Tryz.prog 41 #[.pointer (some ⟨bm, 0, none⟩), .int .i64 pa, .int .u32 (x : Int), .int .i64 pc] wv fun e w1 => e = .returned (.int .i64 ((noTableR f n pa x pc).2 : Nat)) ∧ Hid (MvI U w sb bm br bb n w.heap.size 10 A B C D s w1 (noTableR f n pa x pc).1 f)) := fun wv hv => by
    refine (noTable_any hv.st.m pa x hxl pc).mono ?_
    rintro e w1 ⟨rfl, hm, ho⟩
    exact ⟨rfl, hv.mem ho hm⟩
  have HR : Hid (∀ wv, MvI U w sb bm br bb n w.heap.size 10 A B C D s wv (noTableR f n pa x pc).1 f → Calls Tryz.prog 42 #[.pointer (some ⟨br, 0, none⟩), .int .i64 pa, .int .i64 (x : Int), .int .i64 pc] wv fun e w1 => e = .returned (.int .i64 ((noTableR f n pa x pc).2 : Nat)) ∧ Hid (MvI U w sb bm br bb n w.heap.size 10 A B C D s w1 (noTableR f n pa x pc).1 (noTableR f n pa x pc).1)) := fun wv hv => by
    refine (refNo_any hv.st.r pa x hxl pc).mono ?_
    rintro e w1 ⟨rfl, hr, ho⟩
    exact ⟨rfl, hv.ref ho hr⟩
  have HFIN : Hid (∀ wv, MvI U w sb bm br bb n w.heap.size 10 A B C D s wv (noTableR f n pa x pc).1 (noTableR f n pa x pc).1 → MvR U w sb bm br bb n wv) := fun wv h => h.fin
  have HCE : Hid (∀ wv f g, MvI U w sb bm br bb n w.heap.size 10 A B C D s wv f g → wv.cell? ⟨sb, 0, none⟩ = some (.pointer (some ⟨bm, 0, none⟩)) ∧ wv.cell? ⟨sb, 1, none⟩ = some (.pointer (some ⟨br, 0, none⟩)) ∧ wv.cell? ⟨w.heap.size, 4, none⟩ = some (.int .i64 D)) := fun wv f g h => ⟨h.st.c0, h.st.c1, h.op.cellD⟩
  generalize (noTableR f n pa x pc).2 = rc at HM HR
  generalize (noTableR f n pa x pc).1 = rf at HM HR HFIN
  have hxw : IntKind.i64.wrap (x : Int) = (x : Int) := by rw [IntKind.wrap_i64]; omega
  have hk0 : wA.cell? ⟨w.heap.size, 0, none⟩ = some (.int .i64 10) := by rw [hwA, cell_of_row _ _ 0 _ _ (0, 0) (heap_alloc_last w _)]; rfl
  obtain ⟨hk1, hk2, hk3, _⟩ := hB0.op.cells
  have HB0 := Vx.hid hB0
  obtain ⟨p, hp⟩ : ∃ p : ByteArray, p = ⟨s.toArray⟩ := ⟨_, rfl⟩
  rw [← hp] at hwA ⊢
  clear h hB0 hA hC _hD hp hxl
  unfold opv at *
  go_enter Tryz.func13, Tryz.ntmps13
  go_wp2_with fail
  rw [← hwA]
  refine HPA.out.mono ?_
  rintro e w' ⟨rfl, h⟩
  have h2 := h.symm; clear h; subst h2
  clear hwA
  generalize w.heap.size = ob at *
  go_wp2_with fail
  refine HPC.out.mono ?_
  rintro e w' ⟨rfl, h⟩
  have h2 := h.symm; clear h; subst h2
  obtain ⟨c0, _, _⟩ := HCE.out _ _ _ HB0.out
  go_wp2_with fail
  refine (HM.out _ HB0.out).mono ?_
  rintro e w2 ⟨rfl, HI2⟩
  obtain ⟨_, c1, _⟩ := HCE.out _ _ _ HI2.out
  go_wp2_with fail
  refine (HR.out _ HI2.out).mono ?_
  rintro e w3 ⟨rfl, HI3⟩
  go_wp2_with fail
  all_goals
    go_ret
    exact ⟨rfl, HFIN.out _ HI3.out⟩
set_option maxRecDepth 100000 in
set_option maxHeartbeats 4000000 in
theorem spaces_map {U : Nat → Prop} {w : World} {sb bm br bb n : Nat} {f : Nat → UInt8} (h : StAt U w sb bm br bb n f f) (A B C D : Int) (hA : I64 A) (hC : I64 C) (_hD : I64 D) (s : List UInt8) :
    Calls Tryz.prog 13 #[.pointer (some ⟨sb, 0, none⟩), .agg (opv 11 A B C D ⟨s.toArray⟩)] w fun e w' => e = .returned (.bool true) ∧ MvR U w sb bm br bb n w' := by
  have hB0 := MvI.begin h 11 A B C D s
  obtain ⟨wA, hwA⟩ : ∃ wA, wA = w.alloc (.cells (opv 11 A B C D ⟨s.toArray⟩) 51) := ⟨_, rfl⟩
  rw [← hwA] at hB0
  obtain ⟨x, hxe, hxl⟩ : ∃ x : Nat, IntKind.u32.wrap B = (x : Int) ∧ x < 4294967296 := ⟨(B % 4294967296).toNat, by rw [IntKind.wrap_u32]; omega, by omega⟩
  have HPA := Vx.hid (pageL_any hB0.st A hA)
  have HPC := Vx.hid (pageL_any hB0.st C hC)
  generalize nearF A n = pa at HPA
  generalize nearF C n = pc at HPC
  have HND := Vx.hid (fun wv => near_any D _hD 8 (by decide) wv)
  generalize nearF D 8 = dd at HND
  have HM : Hid (∀ wv, MvI U w sb bm br bb n w.heap.size 11 A B C D s wv f f → Calls Tryz.prog 43 #[.pointer (some ⟨bm, 0, none⟩), .int .i64 pa, .int .u32 (x : Int), .int .i64 pc, .int .i64 dd] wv fun e w1 => e = .returned (.int .i64 ((mapR f n pa x pc dd).2 : Nat)) ∧ Hid (MvI U w sb bm br bb n w.heap.size 11 A B C D s w1 (mapR f n pa x pc dd).1 f)) := fun wv hv => by
    refine (map_any hv.st.m pa x hxl pc dd).mono ?_
    rintro e w1 ⟨rfl, hm, ho⟩
    exact ⟨rfl, hv.mem ho hm⟩
  have HR : Hid (∀ wv, MvI U w sb bm br bb n w.heap.size 11 A B C D s wv (mapR f n pa x pc dd).1 f → Calls Tryz.prog 44 #[.pointer (some ⟨br, 0, none⟩), .int .i64 pa, .int .i64 (x : Int), .int .i64 pc, .int .i64 dd] wv fun e w1 => e = .returned (.int .i64 ((mapR f n pa x pc dd).2 : Nat)) ∧ Hid (MvI U w sb bm br bb n w.heap.size 11 A B C D s w1 (mapR f n pa x pc dd).1 (mapR f n pa x pc dd).1)) := fun wv hv => by
    refine (refMap_any hv.st.r pa x hxl pc dd).mono ?_
    rintro e w1 ⟨rfl, hr, ho⟩
    exact ⟨rfl, hv.ref ho hr⟩
  have HFIN : Hid (∀ wv, MvI U w sb bm br bb n w.heap.size 11 A B C D s wv (mapR f n pa x pc dd).1 (mapR f n pa x pc dd).1 → MvR U w sb bm br bb n wv) := fun wv h => h.fin
  have HCE : Hid (∀ wv f g, MvI U w sb bm br bb n w.heap.size 11 A B C D s wv f g → wv.cell? ⟨sb, 0, none⟩ = some (.pointer (some ⟨bm, 0, none⟩)) ∧ wv.cell? ⟨sb, 1, none⟩ = some (.pointer (some ⟨br, 0, none⟩)) ∧ wv.cell? ⟨w.heap.size, 4, none⟩ = some (.int .i64 D)) := fun wv f g h => ⟨h.st.c0, h.st.c1, h.op.cellD⟩
  generalize (mapR f n pa x pc dd).2 = rc at HM HR
  generalize (mapR f n pa x pc dd).1 = rf at HM HR HFIN
  have hxw : IntKind.i64.wrap (x : Int) = (x : Int) := by rw [IntKind.wrap_i64]; omega
  have hk0 : wA.cell? ⟨w.heap.size, 0, none⟩ = some (.int .i64 11) := by rw [hwA, cell_of_row _ _ 0 _ _ (0, 0) (heap_alloc_last w _)]; rfl
  obtain ⟨hk1, hk2, hk3, _⟩ := hB0.op.cells
  have HB0 := Vx.hid hB0
  obtain ⟨p, hp⟩ : ∃ p : ByteArray, p = ⟨s.toArray⟩ := ⟨_, rfl⟩
  rw [← hp] at hwA ⊢
  clear h hB0 hA hC _hD hp hxl
  unfold opv at *
  go_enter Tryz.func13, Tryz.ntmps13
  go_wp2_with fail
  rw [← hwA]
  refine HPA.out.mono ?_
  rintro e w' ⟨rfl, h⟩
  have h2 := h.symm; clear h; subst h2
  clear hwA
  generalize w.heap.size = ob at *
  go_wp2_with fail
  refine HPC.out.mono ?_
  rintro e w' ⟨rfl, h⟩
  have h2 := h.symm; clear h; subst h2
  have HI0 := Vx.hid HB0.out.drew
  have HS0 := Vx.hid (HCE.out _ _ _ HI0.out)
  go_wp2_with fail
  go_region_held3 (fun wv => wv.cell? ⟨sb, 0, none⟩ = some (.pointer (some ⟨bm, 0, none⟩)) ∧ wv.cell? ⟨sb, 1, none⟩ = some (.pointer (some ⟨br, 0, none⟩)) ∧ wv.cell? ⟨ob, 4, none⟩ = some (.int .i64 D)) (first | exact HS0.out | exact HS1.out) (first | (go_at_call 11; refine (HND.out _).mono ?_; rintro e w' ⟨rfl, h⟩; have h3 := h.symm; clear h; subst h3) | (go_at_call 43; refine (HM.out _ HI0.out).mono ?_; rintro e w1 ⟨rfl, HI1⟩; have HS1 := Vx.hid (HCE.out _ _ _ HI1.out)))
  all_goals
    go_wp2_with fail
    have HI2 := Vx.hid HI1.out.drew
    have HS2 := Vx.hid (HCE.out _ _ _ HI2.out)
    go_region_held3 (fun wv => wv.cell? ⟨sb, 0, none⟩ = some (.pointer (some ⟨bm, 0, none⟩)) ∧ wv.cell? ⟨sb, 1, none⟩ = some (.pointer (some ⟨br, 0, none⟩)) ∧ wv.cell? ⟨ob, 4, none⟩ = some (.int .i64 D)) (first | exact HS2.out | exact HS3.out) (first | (go_at_call 11; refine (HND.out _).mono ?_; rintro e w' ⟨rfl, h⟩; have h3 := h.symm; clear h; subst h3) | (go_at_call 44; refine (HR.out _ HI2.out).mono ?_; rintro e w2 ⟨rfl, HI3⟩; have HS3 := Vx.hid (HCE.out _ _ _ HI3.out)))
    all_goals
      go_wp2_with fail
      all_goals
        go_ret
        exact ⟨rfl, HFIN.out _ HI3.out⟩
set_option maxRecDepth 100000 in
set_option maxHeartbeats 4000000 in
theorem spaces_unmap {U : Nat → Prop} {w : World} {sb bm br bb n : Nat} {f : Nat → UInt8} (h : StAt U w sb bm br bb n f f) (A B C D : Int) (hA : I64 A) (hC : I64 C) (_hD : I64 D) (s : List UInt8) :
    Calls Tryz.prog 13 #[.pointer (some ⟨sb, 0, none⟩), .agg (opv 12 A B C D ⟨s.toArray⟩)] w fun e w' => e = .returned (.bool true) ∧ MvR U w sb bm br bb n w' := by
  have hB0 := MvI.begin h 12 A B C D s
  obtain ⟨wA, hwA⟩ : ∃ wA, wA = w.alloc (.cells (opv 12 A B C D ⟨s.toArray⟩) 51) := ⟨_, rfl⟩
  rw [← hwA] at hB0
  obtain ⟨x, hxe, hxl⟩ : ∃ x : Nat, IntKind.u32.wrap B = (x : Int) ∧ x < 4294967296 := ⟨(B % 4294967296).toNat, by rw [IntKind.wrap_u32]; omega, by omega⟩
  have HPA := Vx.hid (pageL_any hB0.st A hA)
  have HPC := Vx.hid (pageL_any hB0.st C hC)
  generalize nearF A n = pa at HPA
  generalize nearF C n = pc at HPC
  have HM : Hid (∀ wv, MvI U w sb bm br bb n w.heap.size 12 A B C D s wv f f → Calls Tryz.prog 45 #[.pointer (some ⟨bm, 0, none⟩), .int .i64 pa, .int .u32 (x : Int), .int .i64 pc] wv fun e w1 => e = .returned (.int .i64 ((unmapR f n pa x pc).2 : Nat)) ∧ Hid (MvI U w sb bm br bb n w.heap.size 12 A B C D s w1 (unmapR f n pa x pc).1 f)) := fun wv hv => by
    refine (unmap_any hv.st.m pa x hxl pc).mono ?_
    rintro e w1 ⟨rfl, hm, ho⟩
    exact ⟨rfl, hv.mem ho hm⟩
  have HR : Hid (∀ wv, MvI U w sb bm br bb n w.heap.size 12 A B C D s wv (unmapR f n pa x pc).1 f → Calls Tryz.prog 46 #[.pointer (some ⟨br, 0, none⟩), .int .i64 pa, .int .i64 (x : Int), .int .i64 pc] wv fun e w1 => e = .returned (.int .i64 ((unmapR f n pa x pc).2 : Nat)) ∧ Hid (MvI U w sb bm br bb n w.heap.size 12 A B C D s w1 (unmapR f n pa x pc).1 (unmapR f n pa x pc).1)) := fun wv hv => by
    refine (refUnmap_any hv.st.r pa x hxl pc).mono ?_
    rintro e w1 ⟨rfl, hr, ho⟩
    exact ⟨rfl, hv.ref ho hr⟩
  have HFIN : Hid (∀ wv, MvI U w sb bm br bb n w.heap.size 12 A B C D s wv (unmapR f n pa x pc).1 (unmapR f n pa x pc).1 → MvR U w sb bm br bb n wv) := fun wv h => h.fin
  have HCE : Hid (∀ wv f g, MvI U w sb bm br bb n w.heap.size 12 A B C D s wv f g → wv.cell? ⟨sb, 0, none⟩ = some (.pointer (some ⟨bm, 0, none⟩)) ∧ wv.cell? ⟨sb, 1, none⟩ = some (.pointer (some ⟨br, 0, none⟩)) ∧ wv.cell? ⟨w.heap.size, 4, none⟩ = some (.int .i64 D)) := fun wv f g h => ⟨h.st.c0, h.st.c1, h.op.cellD⟩
  generalize (unmapR f n pa x pc).2 = rc at HM HR
  generalize (unmapR f n pa x pc).1 = rf at HM HR HFIN
  have hxw : IntKind.i64.wrap (x : Int) = (x : Int) := by rw [IntKind.wrap_i64]; omega
  have hk0 : wA.cell? ⟨w.heap.size, 0, none⟩ = some (.int .i64 12) := by rw [hwA, cell_of_row _ _ 0 _ _ (0, 0) (heap_alloc_last w _)]; rfl
  obtain ⟨hk1, hk2, hk3, _⟩ := hB0.op.cells
  have HB0 := Vx.hid hB0
  obtain ⟨p, hp⟩ : ∃ p : ByteArray, p = ⟨s.toArray⟩ := ⟨_, rfl⟩
  rw [← hp] at hwA ⊢
  clear h hB0 hA hC _hD hp hxl
  unfold opv at *
  go_enter Tryz.func13, Tryz.ntmps13
  go_wp2_with fail
  rw [← hwA]
  refine HPA.out.mono ?_
  rintro e w' ⟨rfl, h⟩
  have h2 := h.symm; clear h; subst h2
  clear hwA
  generalize w.heap.size = ob at *
  go_wp2_with fail
  refine HPC.out.mono ?_
  rintro e w' ⟨rfl, h⟩
  have h2 := h.symm; clear h; subst h2
  obtain ⟨c0, _, _⟩ := HCE.out _ _ _ HB0.out
  go_wp2_with fail
  refine (HM.out _ HB0.out).mono ?_
  rintro e w2 ⟨rfl, HI2⟩
  obtain ⟨_, c1, _⟩ := HCE.out _ _ _ HI2.out
  go_wp2_with fail
  refine (HR.out _ HI2.out).mono ?_
  rintro e w3 ⟨rfl, HI3⟩
  go_wp2_with fail
  all_goals
    go_ret
    exact ⟨rfl, HFIN.out _ HI3.out⟩
end Go.Proofs.YtflmobffeeocdaaGreatDoor

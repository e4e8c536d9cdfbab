/- The document's Walk, whole; the walk of MmuWalks. -/
import Derived.Test.YtflmobffeeocdaaGreatDoorOpA
import Derived.Test.YtflmobffeeocdaaGreatDoorX2
import Derived.Test.YtflmobffeeocdaaGreatDoorYW0
import Derived.Test.YtflmobffeeocdaaGreatDoorYW1
import Derived.Test.YtflmobffeeocdaaGreatDoorYW2
namespace Go.Proofs.YtflmobffeeocdaaGreatDoor
open Go.ChangeShapes Go.WideShapes Go.ChangeAt Go.RowKit
open Go.Vx

theorem refWalk_any {w : World} {br bb n : Nat} {f : Nat → UInt8} (h : RefAt w br bb n f) (root : Int) (va : Nat) (hva : va < 4294967296) (use : Int) :
    Calls Tryz.prog 38 #[.pointer (some ⟨br, 0, none⟩), .int .i64 root, .int .i64 (va : Int), .int .i64 use] w fun x w' => x = .returned (.tuple #[.int .i64 ((walkF f n root va use).1 : Nat), .int .i64 (walkF f n root va use).2]) ∧ Only (fun _ => False) w w' := by
  have hn := h.top
  by_cases hu : use < 0 ∨ 2 < use
  · have e : walkF f n root va use = (0, 2) := if_pos (by omega)
    rw [e]
    refine (refUse_no _ _ _ use hu w).mono ?_
    rintro x w' ⟨rfl, rfl⟩
    exact ⟨rfl, Only.refl _ _⟩
  · have hc : use = 0 ∨ use = 1 ∨ use = 2 := by omega
    by_cases hr : root < 0 ∨ (n : Int) ≤ root
    · rcases hc with rfl | rfl | rfl
      · have e : walkF f n root va 0 = (0, 1) := (walkF_eq f n root va 0 (by decide)).trans (if_pos hr)
        rw [e]; exact refRoot_0 h root va hva hr
      · have e : walkF f n root va 1 = (0, 5) := (walkF_eq f n root va 1 (by decide)).trans (if_pos hr)
        rw [e]; exact refRoot_1 h root va hva hr
      · have e : walkF f n root va 2 = (0, 7) := (walkF_eq f n root va 2 (by decide)).trans (if_pos hr)
        rw [e]; exact refRoot_2 h root va hva hr
    · obtain ⟨r, rfl⟩ : ∃ r : Nat, root = (r : Int) := ⟨root.toNat, by omega⟩
      rcases hc with rfl | rfl | rfl
      · exact refWalk_0 h r (by omega) va hva
      · exact refWalk_1 h r (by omega) va hva
      · exact refWalk_2 h r (by omega) va hva
theorem walk_any {U : Nat → Prop} {w : World} {bm n : Nat} {f : Nat → UInt8} (h : MemAt U w bm n f) (hus : UsesAt w) (root : Int) (va : Nat) (hva : va < 4294967296) (use : Int) :
    Calls Tryz.prog 37 #[.pointer (some ⟨bm, 0, none⟩), .int .i64 root, .int .u32 (va : Int), .int .i64 use] w fun x w' => x = .returned (.tuple #[.int .i64 ((walkF f n root va use).1 : Nat), .int .i64 (walkF f n root va use).2]) ∧ Only (fun _ => False) w w' := by
  by_cases hu : use < 0 ∨ 3 ≤ use
  · have e : walkF f n root va use = (0, 2) := if_pos hu
    rw [e]
    refine (walk_no _ _ _ use hu w).mono ?_
    rintro x w' ⟨rfl, rfl⟩
    exact ⟨rfl, Only.refl _ _⟩
  · obtain ⟨u, rfl⟩ : ∃ u : Nat, use = (u : Int) := ⟨use.toNat, by omega⟩
    exact walk_ok h hus root va hva u (by omega)
set_option maxRecDepth 100000 in
set_option maxHeartbeats 4000000 in
theorem spaces_walk {U : Nat → Prop} {w : World} {sb bm br bb n : Nat} {f : Nat → UInt8} (h : StAt U w sb bm br bb n f f) (hus : UsesAt w) (A B C D : Int) (hA : I64 A) (hC : I64 C) (s : List UInt8) :
    Calls Tryz.prog 13 #[.pointer (some ⟨sb, 0, none⟩), .agg (opv 8 A B C D ⟨s.toArray⟩)] w fun e w' => e = .returned (.bool true) ∧ MvR U w sb bm br bb n w' := by
  have hB0 := MvI.begin h 8 A B C D s
  obtain ⟨wA, hwA⟩ : ∃ wA, wA = w.alloc (.cells (opv 8 A B C D ⟨s.toArray⟩) 51) := ⟨_, rfl⟩
  rw [← hwA] at hB0
  have hUA : UsesAt wA := by rw [hwA]; exact hus.only ((Only.refl (fun _ => False) w).alloc _) (fun h => h)
  have HFIN : Hid (∀ wv, Only (fun _ => False) wA wv → MvR U w sb bm br bb n wv) := fun wv hv => (hB0.quiet hv).fin
  have HC := Vx.hid hB0.op.cells
  have c0 := hB0.st.c0
  obtain ⟨x, hxe, hxl⟩ : ∃ x : Nat, IntKind.u32.wrap B = (x : Int) ∧ x < 4294967296 := ⟨(B % 4294967296).toNat, by rw [IntKind.wrap_u32]; omega, by omega⟩
  have HPA := Vx.hid (pageL_any hB0.st A hA)
  have HPC := Vx.hid (pageL_any hB0.st C hC)
  have HNC := Vx.hid (near_any C hC 3 (by decide) wA)
  generalize nearF C 3 = us at HNC
  generalize nearF C n = pc at HPC
  have HWM := Vx.hid (walk_any hB0.st.m hUA (nearF A n) x hxl us)
  have HWR : Hid (∀ wv, Only (fun _ => False) wA wv → Calls Tryz.prog 38 #[.pointer (some ⟨br, 0, none⟩), .int .i64 (nearF A n), .int .i64 (x : Int), .int .i64 us] wv fun y w' => y = .returned (.tuple #[.int .i64 ((walkF f n (nearF A n) x us).1 : Nat), .int .i64 (walkF f n (nearF A n) x us).2]) ∧ Only (fun _ => False) wA w') := fun wv hv => by
    refine (refWalk_any (hB0.st.only hv).r (nearF A n) x hxl us).mono ?_
    rintro y w' ⟨rfl, ho⟩
    exact ⟨rfl, hv.trans ho⟩
  have HC1 : Hid (∀ wv, Only (fun _ => False) wA wv → wv.cell? ⟨sb, 1, none⟩ = some (.pointer (some ⟨br, 0, none⟩))) := fun wv hv => (hB0.st.only hv).c1
  generalize nearF A n = pa at HPA HWM HWR
  generalize (walkF f n pa x us).1 = r1 at HWM HWR
  generalize (walkF f n pa x us).2 = r2 at HWM HWR
  have hxw : IntKind.i64.wrap (x : Int) = (x : Int) := by rw [IntKind.wrap_i64]; omega
  have hk0 : wA.cell? ⟨w.heap.size, 0, none⟩ = some (.int .i64 8) := by rw [hwA, cell_of_row _ _ 0 _ _ (0, 0) (heap_alloc_last w _)]; rfl
  have hk1 := HC.out.1
  have hk2 := HC.out.2.1
  have hk3 := HC.out.2.2.1
  obtain ⟨p, hp⟩ : ∃ p : ByteArray, p = ⟨s.toArray⟩ := ⟨_, rfl⟩
  rw [← hp] at hwA ⊢
  clear h hus hB0 hUA hA hC hp HC hxl
  unfold opv at *
  go_enter Tryz.func13, Tryz.ntmps13
  go_wp2_with fail
  rw [← hwA]
  refine HPA.out.mono ?_
  rintro e w' ⟨rfl, h⟩
  have h2 := h.symm; clear h; subst h2
  clear hwA
  generalize w.heap.size = ob at *
  go_wp2_with fail
  refine HPC.out.mono ?_
  rintro e w' ⟨rfl, h⟩
  have h2 := h.symm; clear h; subst h2
  go_wp2_with fail
  refine HNC.out.mono ?_
  rintro e w' ⟨rfl, h⟩
  have h2 := h.symm; clear h; subst h2
  go_wp2_with fail
  refine HWM.out.mono ?_
  rintro e w2 ⟨rfl, ho⟩
  have HO := Vx.hid ho
  have c1 := HC1.out w2 ho
  clear ho
  go_wp2_with fail
  refine (HWR.out w2 HO.out).mono ?_
  rintro e w3 ⟨rfl, ho⟩
  have HO3 := Vx.hid ho
  clear ho
  go_wp2_with fail
  all_goals
    go_ret
    exact ⟨rfl, HFIN.out _ HO3.out⟩
theorem mmuWalks_call (W : World) (hus : UsesAt W) (pa : Option Addr) (len cap : Nat) (zs : List Stp) (hlen : zs.length = len) (hlc : len ≤ cap) (hcm : cap ≤ maxLen) (hp : ScAt W pa zs) (hz : ∀ z ∈ zs, z.ok) :
    Calls Tryz.prog 4 #[.slice pa len cap] W fun e w' => e = .returned (.bool true) ∧ Below W.heap.size W w' := by
  have hg : 0 < W.heap.size := World.block_lt_of_cell? W _ (hus 0 (by decide)).1
  have hsp : SpC 8 W := fun _ wr U sb bm br bb n f hb h z hok _ => spaces_walk h (hus.below hb hg) z.a z.b z.c z.d hok.2.1 hok.2.2.2.1 z.s
  have H := Vx.hid (stored_ok 8 (Or.inr rfl) W hsp pa len cap zs hlen hlc hcm hp hz)
  clear hlen hlc hcm hp hz hsp hg hus
  go_enter Tryz.func4, Tryz.ntmps4
  go_wp2_with fail
  refine H.out.mono ?_
  rintro e w1 ⟨rfl, hb⟩
  have HB := Vx.hid hb
  clear hb
  go_wp2_with fail
  all_goals
    go_ret
    exact ⟨rfl, HB.out⟩
end Go.Proofs.YtflmobffeeocdaaGreatDoor

/- Walks of the scripts: moves. -/
import Derived.Test.YtflmobffeeocdaaGreatDoorV2
namespace Go.Proofs.YtflmobffeeocdaaGreatDoor
open Go.ChangeShapes Go.WideShapes Go.ChangeAt Go.RowKit
open Go.Vx

theorem wordR_lt (f : Nat → UInt8) (n : Nat) (a : Int) : (wordR f n a).1 < 4294967296 := by
  unfold wordR
  split
  · exact wordF_lt _ _
  · show 0 < 4294967296; decide
set_option maxRecDepth 100000 in
set_option maxHeartbeats 4000000 in
theorem moves_word {U : Nat → Prop} {w : World} {sb bm br bb n : Nat} {f : Nat → UInt8} (h : StAt U w sb bm br bb n f f) (A B C D : Int) (_hA : I64 A) (_hB : I64 B) (s : List UInt8) (_hs : s.length ≤ 9223372036854775807) :
    Calls Tryz.prog 12 #[.pointer (some ⟨sb, 0, none⟩), .agg (opv 4 A B C D ⟨s.toArray⟩)] w fun e w' => e = .returned (.bool true) ∧ MvR U w sb bm br bb n w' := by
  have HB0 := Vx.hid (MvI.begin h 4 A B C D s)
  have HFIN : Hid (∀ wv f, MvI U w sb bm br bb n w.heap.size 4 A B C D s wv f f → MvR U w sb bm br bb n wv) := fun wv f h => h.fin
  obtain ⟨p, hp⟩ : ∃ p : ByteArray, p = ⟨s.toArray⟩ := ⟨_, rfl⟩
  have HPP := Vx.hid hp
  have HCE : Hid (∀ wv f g, MvI U w sb bm br bb n w.heap.size 4 A B C D s wv f g → _) := fun wv f g h => h.cells hp
  have HPA := Vx.hid (fun wv f g (h : MvI U w sb bm br bb n w.heap.size 4 A B C D s wv f g) => place_any h.st A _hA)
  have hiA := near_i64 _hA (4096 * n) (by have := h.r.top; omega)
  generalize nearF A (4096 * n) = pl at HPA hiA ⊢
  have HM : Hid (∀ wv, MvI U w sb bm br bb n w.heap.size 4 A B C D s wv f f → Calls Tryz.prog 16 #[.pointer (some ⟨bm, 0, none⟩), .int .i64 pl] wv fun e w1 => e = .returned (.tuple #[.int .u32 ((wordR f n pl).1 : Nat), .int .i64 ((wordR f n pl).2 : Nat)]) ∧ Hid (MvI U w sb bm br bb n w.heap.size 4 A B C D s w1 f f)) := fun wv hv => by
    refine (word_any hv.st.m pl).mono ?_
    rintro e w1 ⟨rfl, ho⟩
    exact ⟨rfl, hv.quiet ho⟩
  have HR : Hid (∀ wv, MvI U w sb bm br bb n w.heap.size 4 A B C D s wv f f → Calls Tryz.prog 30 #[.pointer (some ⟨br, 0, none⟩), .int .i64 pl] wv fun e w1 => e = .returned (.tuple #[.int .i64 ((wordR f n pl).1 : Nat), .int .i64 ((wordR f n pl).2 : Nat)]) ∧ Hid (MvI U w sb bm br bb n w.heap.size 4 A B C D s w1 f f)) := fun wv hv => by
    refine (refWord_any hv.st.r pl).mono ?_
    rintro e w1 ⟨rfl, ho⟩
    exact ⟨rfl, hv.quiet ho⟩
  have hxb : (wordR f n pl).1 < 4294967296 := wordR_lt f n pl
  generalize (wordR f n pl).2 = rc at HM HR
  generalize (wordR f n pl).1 = x at HM HR hxb
  have hxw : IntKind.i64.wrap (x : Int) = (x : Int) := by rw [IntKind.wrap_i64]; omega
  clear hxb
  rw [← hp] at HB0 ⊢
  clear h hp _hA _hB _hs hiA
  unfold opv at *
  go_enter Tryz.func12, Tryz.ntmps12
  obtain ⟨wA, hwA⟩ : ∃ wA, wA = w.alloc (.cells #[Value.int .i64 4, .int .i64 A, .int .i64 B, .int .i64 C, .int .i64 D, .string p] 51) := ⟨_, rfl⟩
  have hk0 : wA.cell? ⟨w.heap.size, 0, none⟩ = some (.int .i64 4) := by rw [hwA, cell_of_row _ _ 0 _ _ (0, 0) (heap_alloc_last w _)]; rfl
  rw [← hwA] at HB0
  go_wp2_with fail
  rw [← hwA]
  clear hwA
  generalize w.heap.size = ob at *
  have HI0 := Vx.hid HB0.out.drew
  have HS0 := Vx.hid (HCE.out _ _ _ HI0.out)
  go_region_held3 (fun wv => wv.cell? ⟨sb, 0, none⟩ = some (.pointer (some ⟨bm, 0, none⟩)) ∧ wv.cell? ⟨sb, 1, none⟩ = some (.pointer (some ⟨br, 0, none⟩)) ∧ wv.cell? ⟨ob, 1, none⟩ = some (.int .i64 A) ∧ wv.cell? ⟨ob, 2, none⟩ = some (.int .i64 B) ∧ wv.cell? ⟨ob, 5, none⟩ = some (.string p)) (first | exact HS0.out | exact HS1.out) (first | (go_at_call 26; refine (HPA.out _ _ _ HI0.out).mono ?_; rintro e w' ⟨rfl, h⟩; have h3 := h.symm; clear h; subst h3) | (go_at_call 16; refine (HM.out _ HI0.out).mono ?_; rintro e w1 ⟨rfl, HI1⟩; have HS1 := Vx.hid (HCE.out _ _ _ HI1.out)))
  all_goals
    go_wp2_with fail
    have HI2 := Vx.hid HI1.out.drew
    have HS2 := Vx.hid (HCE.out _ _ _ HI2.out)
    go_region_held3 (fun wv => wv.cell? ⟨sb, 0, none⟩ = some (.pointer (some ⟨bm, 0, none⟩)) ∧ wv.cell? ⟨sb, 1, none⟩ = some (.pointer (some ⟨br, 0, none⟩)) ∧ wv.cell? ⟨ob, 1, none⟩ = some (.int .i64 A) ∧ wv.cell? ⟨ob, 2, none⟩ = some (.int .i64 B) ∧ wv.cell? ⟨ob, 5, none⟩ = some (.string p)) (first | exact HS2.out | exact HS3.out) (first | (go_at_call 26; refine (HPA.out _ _ _ HI2.out).mono ?_; rintro e w' ⟨rfl, h⟩; have h3 := h.symm; clear h; subst h3) | (go_at_call 30; refine (HR.out _ HI2.out).mono ?_; rintro e w2 ⟨rfl, HI3⟩; have HS3 := Vx.hid (HCE.out _ _ _ HI3.out)))
    all_goals
      go_wp2_with fail
      all_goals
        go_ret
        exact ⟨rfl, HFIN.out _ _ HI3.out⟩
set_option maxRecDepth 100000 in
set_option maxHeartbeats 4000000 in
theorem moves_set {U : Nat → Prop} {w : World} {sb bm br bb n : Nat} {f : Nat → UInt8} (h : StAt U w sb bm br bb n f f) (A B C D : Int) (_hA : I64 A) (_hB : I64 B) (s : List UInt8) (_hs : s.length ≤ 9223372036854775807) :
    Calls Tryz.prog 12 #[.pointer (some ⟨sb, 0, none⟩), .agg (opv 5 A B C D ⟨s.toArray⟩)] w fun e w' => e = .returned (.bool true) ∧ MvR U w sb bm br bb n w' := by
  have HB0 := Vx.hid (MvI.begin h 5 A B C D s)
  have HFIN : Hid (∀ wv f, MvI U w sb bm br bb n w.heap.size 5 A B C D s wv f f → MvR U w sb bm br bb n wv) := fun wv f h => h.fin
  obtain ⟨p, hp⟩ : ∃ p : ByteArray, p = ⟨s.toArray⟩ := ⟨_, rfl⟩
  have HPP := Vx.hid hp
  have HCE : Hid (∀ wv f g, MvI U w sb bm br bb n w.heap.size 5 A B C D s wv f g → _) := fun wv f g h => h.cells hp
  have HPA := Vx.hid (fun wv f g (h : MvI U w sb bm br bb n w.heap.size 5 A B C D s wv f g) => place_any h.st A _hA)
  have hiA := near_i64 _hA (4096 * n) (by have := h.r.top; omega)
  obtain ⟨x, hxe, hxl⟩ : ∃ x : Nat, IntKind.u32.wrap B = (x : Int) ∧ x < 4294967296 := ⟨(B % 4294967296).toNat, by rw [IntKind.wrap_u32]; omega, by omega⟩
  generalize nearF A (4096 * n) = pl at HPA hiA ⊢
  have HM : Hid (∀ wv, MvI U w sb bm br bb n w.heap.size 5 A B C D s wv f f → Calls Tryz.prog 10 #[.pointer (some ⟨bm, 0, none⟩), .int .i64 pl, .int .u32 (x : Int)] wv fun e w1 => e = .returned (.int .i64 ((setWF f n pl x).2 : Nat)) ∧ Hid (MvI U w sb bm br bb n w.heap.size 5 A B C D s w1 (setWF f n pl x).1 f)) := fun wv hv => by
    refine (setWord_any hv.st.m pl x hxl).mono ?_
    rintro e w1 ⟨rfl, hm, ho⟩
    exact ⟨rfl, hv.mem ho hm⟩
  have HR : Hid (∀ wv, MvI U w sb bm br bb n w.heap.size 5 A B C D s wv (setWF f n pl x).1 f → Calls Tryz.prog 31 #[.pointer (some ⟨br, 0, none⟩), .int .i64 pl, .int .i64 (x : Int)] wv fun e w1 => e = .returned (.int .i64 ((setWF f n pl x).2 : Nat)) ∧ Hid (MvI U w sb bm br bb n w.heap.size 5 A B C D s w1 (setWF f n pl x).1 (setWF f n pl x).1)) := fun wv hv => by
    refine (refSetWord_any hv.st.r pl x hxl).mono ?_
    rintro e w1 ⟨rfl, hr, ho⟩
    exact ⟨rfl, hv.ref ho hr⟩
  generalize (setWF f n pl x).2 = rc at HM HR
  generalize (setWF f n pl x).1 = f1 at HM HR
  have hxw : IntKind.i64.wrap (x : Int) = (x : Int) := by rw [IntKind.wrap_i64]; omega
  clear hxl
  rw [← hp] at HB0 ⊢
  clear h hp _hA _hB _hs hiA
  unfold opv at *
  go_enter Tryz.func12, Tryz.ntmps12
  obtain ⟨wA, hwA⟩ : ∃ wA, wA = w.alloc (.cells #[Value.int .i64 5, .int .i64 A, .int .i64 B, .int .i64 C, .int .i64 D, .string p] 51) := ⟨_, rfl⟩
  have hk0 : wA.cell? ⟨w.heap.size, 0, none⟩ = some (.int .i64 5) := by rw [hwA, cell_of_row _ _ 0 _ _ (0, 0) (heap_alloc_last w _)]; rfl
  rw [← hwA] at HB0
  go_wp2_with fail
  rw [← hwA]
  clear hwA
  generalize w.heap.size = ob at *
  have HI0 := Vx.hid HB0.out.drew
  have HS0 := Vx.hid (HCE.out _ _ _ HI0.out)
  go_region_held3 (fun wv => wv.cell? ⟨sb, 0, none⟩ = some (.pointer (some ⟨bm, 0, none⟩)) ∧ wv.cell? ⟨sb, 1, none⟩ = some (.pointer (some ⟨br, 0, none⟩)) ∧ wv.cell? ⟨ob, 1, none⟩ = some (.int .i64 A) ∧ wv.cell? ⟨ob, 2, none⟩ = some (.int .i64 B) ∧ wv.cell? ⟨ob, 5, none⟩ = some (.string p)) (first | exact HS0.out | exact HS1.out) (first | (go_at_call 26; refine (HPA.out _ _ _ HI0.out).mono ?_; rintro e w' ⟨rfl, h⟩; have h3 := h.symm; clear h; subst h3) | (go_at_call 10; refine (HM.out _ HI0.out).mono ?_; rintro e w1 ⟨rfl, HI1⟩; have HS1 := Vx.hid (HCE.out _ _ _ HI1.out)))
  all_goals
    go_wp2_with fail
    have HI2 := Vx.hid HI1.out.drew
    have HS2 := Vx.hid (HCE.out _ _ _ HI2.out)
    go_region_held3 (fun wv => wv.cell? ⟨sb, 0, none⟩ = some (.pointer (some ⟨bm, 0, none⟩)) ∧ wv.cell? ⟨sb, 1, none⟩ = some (.pointer (some ⟨br, 0, none⟩)) ∧ wv.cell? ⟨ob, 1, none⟩ = some (.int .i64 A) ∧ wv.cell? ⟨ob, 2, none⟩ = some (.int .i64 B) ∧ wv.cell? ⟨ob, 5, none⟩ = some (.string p)) (first | exact HS2.out | exact HS3.out) (first | (go_at_call 26; refine (HPA.out _ _ _ HI2.out).mono ?_; rintro e w' ⟨rfl, h⟩; have h3 := h.symm; clear h; subst h3) | (go_at_call 31; refine (HR.out _ HI2.out).mono ?_; rintro e w2 ⟨rfl, HI3⟩; have HS3 := Vx.hid (HCE.out _ _ _ HI3.out)))
    all_goals
      go_wp2_with fail
      all_goals
        go_ret
        exact ⟨rfl, HFIN.out _ _ HI3.out⟩
end Go.Proofs.YtflmobffeeocdaaGreatDoor

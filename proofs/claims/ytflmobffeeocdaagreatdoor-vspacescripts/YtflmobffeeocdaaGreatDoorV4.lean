/- Walks of the scripts: moves. -/
import Derived.Test.YtflmobffeeocdaaGreatDoorV2
namespace Go.Proofs.YtflmobffeeocdaaGreatDoor
open Go.ChangeShapes Go.WideShapes Go.ChangeAt Go.RowKit
open Go.Vx

set_option maxRecDepth 100000 in
set_option maxHeartbeats 4000000 in
theorem moves_zero {U : Nat → Prop} {w : World} {sb bm br bb n : Nat} {f : Nat → UInt8} (h : StAt U w sb bm br bb n f f) (A B C D : Int) (_hA : I64 A) (_hB : I64 B) (s : List UInt8) (_hs : s.length ≤ 9223372036854775807) :
    Calls Tryz.prog 12 #[.pointer (some ⟨sb, 0, none⟩), .agg (opv 6 A B C D ⟨s.toArray⟩)] w fun e w' => e = .returned (.bool true) ∧ MvR U w sb bm br bb n w' := by
  have HB0 := Vx.hid (MvI.begin h 6 A B C D s)
  have HFIN : Hid (∀ wv f, MvI U w sb bm br bb n w.heap.size 6 A B C D s wv f f → MvR U w sb bm br bb n wv) := fun wv f h => h.fin
  obtain ⟨p, hp⟩ : ∃ p : ByteArray, p = ⟨s.toArray⟩ := ⟨_, rfl⟩
  have HPP := Vx.hid hp
  have HCE : Hid (∀ wv f g, MvI U w sb bm br bb n w.heap.size 6 A B C D s wv f g → _) := fun wv f g h => h.cells hp
  have HPA := Vx.hid (fun wv f g (h : MvI U w sb bm br bb n w.heap.size 6 A B C D s wv f g) => pageL_any h.st A _hA)
  have hiA := near_i64 _hA (n) (by have := h.r.top; omega)
  generalize nearF A (n) = pl at HPA hiA ⊢
  have HM : Hid (∀ wv, MvI U w sb bm br bb n w.heap.size 6 A B C D s wv f f → Calls Tryz.prog 32 #[.pointer (some ⟨bm, 0, none⟩), .int .i64 pl] wv fun e w1 => e = .returned (.int .i64 ((zeroR f n pl).2 : Nat)) ∧ Hid (MvI U w sb bm br bb n w.heap.size 6 A B C D s w1 (zeroR f n pl).1 f)) := fun wv hv => by
    refine (zero_any hv.st.m pl).mono ?_
    rintro e w1 ⟨rfl, hm, ho⟩
    exact ⟨rfl, hv.mem ho hm⟩
  have HR : Hid (∀ wv, MvI U w sb bm br bb n w.heap.size 6 A B C D s wv (zeroR f n pl).1 f → Calls Tryz.prog 34 #[.pointer (some ⟨br, 0, none⟩), .int .i64 pl] wv fun e w1 => e = .returned (.int .i64 ((zeroR f n pl).2 : Nat)) ∧ Hid (MvI U w sb bm br bb n w.heap.size 6 A B C D s w1 (zeroR f n pl).1 (zeroR f n pl).1)) := fun wv hv => by
    refine (refZero_any hv.st.r pl).mono ?_
    rintro e w1 ⟨rfl, hr, ho⟩
    exact ⟨rfl, hv.ref ho hr⟩
  generalize (zeroR f n pl).2 = rc at HM HR
  generalize (zeroR f n pl).1 = f1 at HM HR
  rw [← hp] at HB0 ⊢
  clear h hp _hA _hB _hs hiA
  unfold opv at *
  go_enter Tryz.func12, Tryz.ntmps12
  obtain ⟨wA, hwA⟩ : ∃ wA, wA = w.alloc (.cells #[Value.int .i64 6, .int .i64 A, .int .i64 B, .int .i64 C, .int .i64 D, .string p] 51) := ⟨_, rfl⟩
  have hk0 : wA.cell? ⟨w.heap.size, 0, none⟩ = some (.int .i64 6) := by rw [hwA, cell_of_row _ _ 0 _ _ (0, 0) (heap_alloc_last w _)]; rfl
  rw [← hwA] at HB0
  go_wp2_with fail
  rw [← hwA]
  clear hwA
  generalize w.heap.size = ob at *
  have HI0 := Vx.hid HB0.out.drew
  have HS0 := Vx.hid (HCE.out _ _ _ HI0.out)
  go_region_held3 (fun wv => wv.cell? ⟨sb, 0, none⟩ = some (.pointer (some ⟨bm, 0, none⟩)) ∧ wv.cell? ⟨sb, 1, none⟩ = some (.pointer (some ⟨br, 0, none⟩)) ∧ wv.cell? ⟨ob, 1, none⟩ = some (.int .i64 A) ∧ wv.cell? ⟨ob, 2, none⟩ = some (.int .i64 B) ∧ wv.cell? ⟨ob, 5, none⟩ = some (.string p)) (first | exact HS0.out | exact HS1.out) (first | (go_at_call 33; refine (HPA.out _ _ _ HI0.out).mono ?_; rintro e w' ⟨rfl, h⟩; have h3 := h.symm; clear h; subst h3) | (go_at_call 32; refine (HM.out _ HI0.out).mono ?_; rintro e w1 ⟨rfl, HI1⟩; have HS1 := Vx.hid (HCE.out _ _ _ HI1.out)))
  all_goals
    go_wp2_with fail
    have HI2 := Vx.hid HI1.out.drew
    have HS2 := Vx.hid (HCE.out _ _ _ HI2.out)
    go_region_held3 (fun wv => wv.cell? ⟨sb, 0, none⟩ = some (.pointer (some ⟨bm, 0, none⟩)) ∧ wv.cell? ⟨sb, 1, none⟩ = some (.pointer (some ⟨br, 0, none⟩)) ∧ wv.cell? ⟨ob, 1, none⟩ = some (.int .i64 A) ∧ wv.cell? ⟨ob, 2, none⟩ = some (.int .i64 B) ∧ wv.cell? ⟨ob, 5, none⟩ = some (.string p)) (first | exact HS2.out | exact HS3.out) (first | (go_at_call 33; refine (HPA.out _ _ _ HI2.out).mono ?_; rintro e w' ⟨rfl, h⟩; have h3 := h.symm; clear h; subst h3) | (go_at_call 34; refine (HR.out _ HI2.out).mono ?_; rintro e w2 ⟨rfl, HI3⟩; have HS3 := Vx.hid (HCE.out _ _ _ HI3.out)))
    all_goals
      go_wp2_with fail
      all_goals
        go_ret
        exact ⟨rfl, HFIN.out _ _ HI3.out⟩
set_option maxRecDepth 100000 in
set_option maxHeartbeats 4000000 in
theorem moves_same {U : Nat → Prop} {w : World} {sb bm br bb n : Nat} {f : Nat → UInt8} (h : StAt U w sb bm br bb n f f) (A B C D : Int) (_hA : I64 A) (_hB : I64 B) (s : List UInt8) (_hs : s.length ≤ 9223372036854775807) :
    Calls Tryz.prog 12 #[.pointer (some ⟨sb, 0, none⟩), .agg (opv 7 A B C D ⟨s.toArray⟩)] w fun e w' => e = .returned (.bool true) ∧ MvR U w sb bm br bb n w' := by
  have HB0 := Vx.hid (MvI.begin h 7 A B C D s)
  have HFIN : Hid (∀ wv f, MvI U w sb bm br bb n w.heap.size 7 A B C D s wv f f → MvR U w sb bm br bb n wv) := fun wv f h => h.fin
  obtain ⟨p, hp⟩ : ∃ p : ByteArray, p = ⟨s.toArray⟩ := ⟨_, rfl⟩
  have HPP := Vx.hid hp
  have HCE : Hid (∀ wv f g, MvI U w sb bm br bb n w.heap.size 7 A B C D s wv f g → _) := fun wv f g h => h.cells hp
  have HPX : Hid (∀ wv f g, MvI U w sb bm br bb n w.heap.size 7 A B C D s wv f g → ∀ z, (z = A ∨ z = B) → Calls Tryz.prog 33 #[.pointer (some ⟨sb, 0, none⟩), .int .i64 z] wv fun e w' => e = .returned (.int .i64 (nearF z n)) ∧ w' = wv) := fun wv f g h z hz => by
    rcases hz with rfl | rfl
    · exact pageL_any h.st _ _hA
    · exact pageL_any h.st _ _hB
  have HM : Hid (∀ wv, MvI U w sb bm br bb n w.heap.size 7 A B C D s wv f f → Calls Tryz.prog 35 #[.pointer (some ⟨bm, 0, none⟩), .int .i64 (nearF A n), .int .i64 (nearF B n)] wv fun e w1 => e = .returned (.tuple #[.bool (sameR f n (nearF A n) (nearF B n)).1, .int .i64 ((sameR f n (nearF A n) (nearF B n)).2 : Nat)]) ∧ Hid (MvI U w sb bm br bb n w.heap.size 7 A B C D s w1 f f)) := fun wv hv => by
    refine (same_any hv.st.m (nearF A n) (nearF B n)).mono ?_
    rintro e w1 ⟨rfl, ho⟩
    exact ⟨rfl, hv.quiet ho⟩
  have HR : Hid (∀ wv, MvI U w sb bm br bb n w.heap.size 7 A B C D s wv f f → Calls Tryz.prog 36 #[.pointer (some ⟨br, 0, none⟩), .int .i64 (nearF A n), .int .i64 (nearF B n)] wv fun e w1 => e = .returned (.tuple #[.bool (sameR f n (nearF A n) (nearF B n)).1, .int .i64 ((sameR f n (nearF A n) (nearF B n)).2 : Nat)]) ∧ Hid (MvI U w sb bm br bb n w.heap.size 7 A B C D s w1 f f)) := fun wv hv => by
    refine (refSame_any hv.st.r (nearF A n) (nearF B n)).mono ?_
    rintro e w1 ⟨rfl, ho⟩
    exact ⟨rfl, hv.quiet ho⟩
  generalize (sameR f n (nearF A n) (nearF B n)).2 = rc at HM HR
  generalize (sameR f n (nearF A n) (nearF B n)).1 = x at HM HR
  rw [← hp] at HB0 ⊢
  clear h hp _hA _hB _hs
  unfold opv at *
  go_enter Tryz.func12, Tryz.ntmps12
  obtain ⟨wA, hwA⟩ : ∃ wA, wA = w.alloc (.cells #[Value.int .i64 7, .int .i64 A, .int .i64 B, .int .i64 C, .int .i64 D, .string p] 51) := ⟨_, rfl⟩
  have hk0 : wA.cell? ⟨w.heap.size, 0, none⟩ = some (.int .i64 7) := by rw [hwA, cell_of_row _ _ 0 _ _ (0, 0) (heap_alloc_last w _)]; rfl
  rw [← hwA] at HB0
  go_wp2_with fail
  rw [← hwA]
  clear hwA
  generalize w.heap.size = ob at *
  have HI0 := Vx.hid HB0.out.drew
  have HS0 := Vx.hid (HCE.out _ _ _ HI0.out)
  go_region_held3 (fun wv => wv.cell? ⟨sb, 0, none⟩ = some (.pointer (some ⟨bm, 0, none⟩)) ∧ wv.cell? ⟨sb, 1, none⟩ = some (.pointer (some ⟨br, 0, none⟩)) ∧ wv.cell? ⟨ob, 1, none⟩ = some (.int .i64 A) ∧ wv.cell? ⟨ob, 2, none⟩ = some (.int .i64 B) ∧ wv.cell? ⟨ob, 5, none⟩ = some (.string p)) (first | exact HS0.out | exact HS1.out) (first | (go_at_call 33; refine (HPX.out _ _ _ HI0.out _ ?_).mono ?_; (first | exact Or.inl rfl | exact Or.inr rfl); rintro e w' ⟨rfl, h⟩; have h3 := h.symm; clear h; subst h3) | (go_at_call 35; refine (HM.out _ HI0.out).mono ?_; rintro e w1 ⟨rfl, HI1⟩; have HS1 := Vx.hid (HCE.out _ _ _ HI1.out)))
  all_goals
    go_wp2_with fail
    have HI2 := Vx.hid HI1.out.drew
    have HS2 := Vx.hid (HCE.out _ _ _ HI2.out)
    go_region_held3 (fun wv => wv.cell? ⟨sb, 0, none⟩ = some (.pointer (some ⟨bm, 0, none⟩)) ∧ wv.cell? ⟨sb, 1, none⟩ = some (.pointer (some ⟨br, 0, none⟩)) ∧ wv.cell? ⟨ob, 1, none⟩ = some (.int .i64 A) ∧ wv.cell? ⟨ob, 2, none⟩ = some (.int .i64 B) ∧ wv.cell? ⟨ob, 5, none⟩ = some (.string p)) (first | exact HS2.out | exact HS3.out) (first | (go_at_call 33; refine (HPX.out _ _ _ HI2.out _ ?_).mono ?_; (first | exact Or.inl rfl | exact Or.inr rfl); rintro e w' ⟨rfl, h⟩; have h3 := h.symm; clear h; subst h3) | (go_at_call 36; refine (HR.out _ HI2.out).mono ?_; rintro e w2 ⟨rfl, HI3⟩; have HS3 := Vx.hid (HCE.out _ _ _ HI3.out)))
    all_goals
      go_wp2_with fail
      all_goals
        go_ret
        exact ⟨rfl, HFIN.out _ _ HI3.out⟩
end Go.Proofs.YtflmobffeeocdaaGreatDoor

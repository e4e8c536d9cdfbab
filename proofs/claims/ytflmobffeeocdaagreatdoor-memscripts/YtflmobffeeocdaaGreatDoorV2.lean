/- Walks of the scripts: moves. -/
import Derived.Test.YtflmobffeeocdaaGreatDoorV1
namespace Go.Proofs.YtflmobffeeocdaaGreatDoor
open Go.ChangeShapes Go.WideShapes Go.ChangeAt Go.RowKit
open Go.Vx

/-- What a step leaves. -/
def MvR (U : Nat → Prop) (w : World) (sb bm br bb n : Nat) (w' : World) : Prop := (∃ f, StAt U w' sb bm br bb n f f) ∧ Only (fun k => ¬ U k ∨ k = bb) w w'
def opv (K A B C D : Int) (p : ByteArray) : Array Value := #[.int .i64 K, .int .i64 A, .int .i64 B, .int .i64 C, .int .i64 D, .string p]
/-- A step under way. -/
structure MvI (U : Nat → Prop) (w : World) (sb bm br bb n ob : Nat) (K A B C D : Int) (s : List UInt8) (wv : World) (f g : Nat → UInt8) : Prop where
  st : StAt (fun k => U k ∨ k = ob) wv sb bm br bb n f g
  op : OpAt wv ob K A B C D s
  on : Only (fun k => ¬ U k ∨ k = bb) w wv
  u : U sb ∧ U br ∧ U bb
  nb : ob ≠ bb
  nw : w.heap.size ≤ ob
theorem MvI.begin {U : Nat → Prop} {w : World} {sb bm br bb n : Nat} {f g : Nat → UInt8} (h : StAt U w sb bm br bb n f g) (K A B C D : Int) (s : List UInt8) :
    MvI U w sb bm br bb n w.heap.size K A B C D s (w.alloc (.cells (opv K A B C D ⟨s.toArray⟩) 51)) f g :=
  ⟨h.beside _, ⟨heap_alloc_last _ _⟩, (Only.refl _ w).alloc _, ⟨h.us, h.ur, h.ub⟩, Nat.ne_of_gt (lt_of_some h.r.b), Nat.le_refl _⟩
theorem MvI.quiet {U : Nat → Prop} {w : World} {sb bm br bb n ob : Nat} {K A B C D : Int} {s : List UInt8} {wv wx : World} {f g : Nat → UInt8} (h : MvI U w sb bm br bb n ob K A B C D s wv f g) (ho : Only (fun _ => False) wv wx) : MvI U w sb bm br bb n ob K A B C D s wx f g :=
  ⟨h.st.only ho, h.op.only ho (fun h => h), h.on.trans (ho.mono (fun _ _ h => h.elim)), h.u, h.nb, h.nw⟩
theorem MvI.drew {U : Nat → Prop} {w : World} {sb bm br bb n ob : Nat} {K A B C D : Int} {s : List UInt8} {wv : World} {f g : Nat → UInt8} (h : MvI U w sb bm br bb n ob K A B C D s wv f g) : MvI U w sb bm br bb n ob K A B C D s wv.drew f g :=
  h.quiet ((Only.refl _ _).drew)
theorem MvI.mem {U : Nat → Prop} {w : World} {sb bm br bb n ob : Nat} {K A B C D : Int} {s : List UInt8} {wv wx : World} {f f' g : Nat → UInt8} (h : MvI U w sb bm br bb n ob K A B C D s wv f g) (ho : Only (fun k => ¬ (U k ∨ k = ob)) wv wx) (hm : MemAt (fun k => U k ∨ k = ob) wx bm n f') : MvI U w sb bm br bb n ob K A B C D s wx f' g :=
  ⟨h.st.mem ho hm, h.op.only ho (fun hn => hn (Or.inr rfl)), h.on.trans (ho.mono (fun _ _ hn => Or.inl (fun hu => hn (Or.inl hu)))), h.u, h.nb, h.nw⟩
theorem MvI.ref {U : Nat → Prop} {w : World} {sb bm br bb n ob : Nat} {K A B C D : Int} {s : List UInt8} {wv wx : World} {f g g' : Nat → UInt8} (h : MvI U w sb bm br bb n ob K A B C D s wv f g) (ho : Only (fun k => k = bb) wv wx) (hr : RefAt wx br bb n g') : MvI U w sb bm br bb n ob K A B C D s wx f g' :=
  ⟨h.st.ref ho hr, h.op.only ho h.nb, h.on.trans (ho.mono (fun _ _ hn => Or.inr hn)), h.u, h.nb, h.nw⟩
theorem MvI.cells {U : Nat → Prop} {w : World} {sb bm br bb n ob : Nat} {K A B C D : Int} {s : List UInt8} {wv : World} {f g : Nat → UInt8} (h : MvI U w sb bm br bb n ob K A B C D s wv f g) {p : ByteArray} (hp : p = ⟨s.toArray⟩) :
    wv.cell? ⟨sb, 0, none⟩ = some (.pointer (some ⟨bm, 0, none⟩)) ∧ wv.cell? ⟨sb, 1, none⟩ = some (.pointer (some ⟨br, 0, none⟩)) ∧ wv.cell? ⟨ob, 1, none⟩ = some (.int .i64 A) ∧ wv.cell? ⟨ob, 2, none⟩ = some (.int .i64 B) ∧ wv.cell? ⟨ob, 5, none⟩ = some (.string p) := by
  have h2 := h.op.cells
  rw [hp]
  exact ⟨h.st.c0, h.st.c1, h2.1, h2.2.1, h2.2.2.2⟩
theorem MvI.fin {U : Nat → Prop} {w : World} {sb bm br bb n ob : Nat} {K A B C D : Int} {s : List UInt8} {wv : World} {f : Nat → UInt8} (h : MvI U w sb bm br bb n ob K A B C D s wv f f) : MvR U w sb bm br bb n wv :=
  ⟨⟨f, h.st.c0, h.st.c1, h.st.sbl, h.st.m.weaken (fun _ hk => Or.inl hk), h.st.r, h.u.1, h.u.2.1, h.u.2.2, h.st.ne⟩, h.on⟩
set_option maxRecDepth 100000 in
set_option maxHeartbeats 4000000 in
theorem moves_read {U : Nat → Prop} {w : World} {sb bm br bb n : Nat} {f : Nat → UInt8} (h : StAt U w sb bm br bb n f f) (A B C D : Int) (_hA : I64 A) (_hB : I64 B) (s : List UInt8) (_hs : s.length ≤ 9223372036854775807) :
    Calls Tryz.prog 12 #[.pointer (some ⟨sb, 0, none⟩), .agg (opv 2 A B C D ⟨s.toArray⟩)] w fun e w' => e = .returned (.bool true) ∧ MvR U w sb bm br bb n w' := by
  have HB0 := Vx.hid (MvI.begin h 2 A B C D s)
  have HFIN : Hid (∀ wv f, MvI U w sb bm br bb n w.heap.size 2 A B C D s wv f f → MvR U w sb bm br bb n wv) := fun wv f h => h.fin
  obtain ⟨p, hp⟩ : ∃ p : ByteArray, p = ⟨s.toArray⟩ := ⟨_, rfl⟩
  have HPP := Vx.hid hp
  have HCE : Hid (∀ wv f g, MvI U w sb bm br bb n w.heap.size 2 A B C D s wv f g → _) := fun wv f g h => h.cells hp
  have HPA := Vx.hid (fun wv f g (h : MvI U w sb bm br bb n w.heap.size 2 A B C D s wv f g) => place_any h.st A _hA)
  have hiA := near_i64 _hA (4096 * n) (by have := h.r.top; omega)
  have HNR := Vx.hid (fun wv => near_any B _hB 64 (by decide) wv)
  have hbB := near_i64 _hB 64 (by decide)
  generalize nearF B 64 = nb at HNR hbB
  generalize nearF A (4096 * n) = pl at HPA hiA ⊢
  have HM : Hid (∀ wv, MvI U w sb bm br bb n w.heap.size 2 A B C D s wv f f → Calls Tryz.prog 25 #[.pointer (some ⟨bm, 0, none⟩), .int .i64 pl, .int .i64 nb] wv fun e w1 => e = .returned (.tuple #[.string ⟨(readF f n pl nb).1.toArray⟩, .int .i64 ((readF f n pl nb).2 : Nat)]) ∧ Hid (MvI U w sb bm br bb n w.heap.size 2 A B C D s w1 f f)) := fun wv hv => by
    refine (read_any hv.st.m pl nb).mono ?_
    rintro e w1 ⟨rfl, ho⟩
    exact ⟨rfl, hv.quiet ho⟩
  have HR : Hid (∀ wv, MvI U w sb bm br bb n w.heap.size 2 A B C D s wv f f → Calls Tryz.prog 27 #[.pointer (some ⟨br, 0, none⟩), .int .i64 pl, .int .i64 nb] wv fun e w1 => e = .returned (.tuple #[.string ⟨(readF f n pl nb).1.toArray⟩, .int .i64 ((readF f n pl nb).2 : Nat)]) ∧ Hid (MvI U w sb bm br bb n w.heap.size 2 A B C D s w1 f f)) := fun wv hv => by
    refine (refRead_any hv.st.r pl nb hbB.2).mono ?_
    rintro e w1 ⟨rfl, rfl⟩
    exact ⟨rfl, hv⟩
  generalize (readF f n pl nb).2 = rc at HM HR
  generalize (readF f n pl nb).1 = rs at HM HR
  clear hbB
  rw [← hp] at HB0 ⊢
  clear h hp _hA _hB _hs hiA
  unfold opv at *
  go_enter Tryz.func12, Tryz.ntmps12
  obtain ⟨wA, hwA⟩ : ∃ wA, wA = w.alloc (.cells #[Value.int .i64 2, .int .i64 A, .int .i64 B, .int .i64 C, .int .i64 D, .string p] 51) := ⟨_, rfl⟩
  have hk0 : wA.cell? ⟨w.heap.size, 0, none⟩ = some (.int .i64 2) := by rw [hwA, cell_of_row _ _ 0 _ _ (0, 0) (heap_alloc_last w _)]; rfl
  rw [← hwA] at HB0
  go_wp2_with fail
  refine (HNR.out _).mono ?_
  rintro e w' ⟨rfl, h⟩
  have h3 := h.symm; clear h; subst h3
  rw [← hwA]
  clear hwA
  generalize w.heap.size = ob at *
  have HI0 := Vx.hid HB0.out.drew
  have HS0 := Vx.hid (HCE.out _ _ _ HI0.out)
  go_wp2_with fail
  go_region_held3 (fun wv => wv.cell? ⟨sb, 0, none⟩ = some (.pointer (some ⟨bm, 0, none⟩)) ∧ wv.cell? ⟨sb, 1, none⟩ = some (.pointer (some ⟨br, 0, none⟩)) ∧ wv.cell? ⟨ob, 1, none⟩ = some (.int .i64 A) ∧ wv.cell? ⟨ob, 2, none⟩ = some (.int .i64 B) ∧ wv.cell? ⟨ob, 5, none⟩ = some (.string p)) (first | exact HS0.out | exact HS1.out) (first | (go_at_call 26; refine (HPA.out _ _ _ HI0.out).mono ?_; rintro e w' ⟨rfl, h⟩; have h3 := h.symm; clear h; subst h3) | (go_at_call 25; refine (HM.out _ HI0.out).mono ?_; rintro e w1 ⟨rfl, HI1⟩; have HS1 := Vx.hid (HCE.out _ _ _ HI1.out)))
  all_goals
    go_wp2_with fail
    have HI2 := Vx.hid HI1.out.drew
    have HS2 := Vx.hid (HCE.out _ _ _ HI2.out)
    go_region_held3 (fun wv => wv.cell? ⟨sb, 0, none⟩ = some (.pointer (some ⟨bm, 0, none⟩)) ∧ wv.cell? ⟨sb, 1, none⟩ = some (.pointer (some ⟨br, 0, none⟩)) ∧ wv.cell? ⟨ob, 1, none⟩ = some (.int .i64 A) ∧ wv.cell? ⟨ob, 2, none⟩ = some (.int .i64 B) ∧ wv.cell? ⟨ob, 5, none⟩ = some (.string p)) (first | exact HS2.out | exact HS3.out) (first | (go_at_call 26; refine (HPA.out _ _ _ HI2.out).mono ?_; rintro e w' ⟨rfl, h⟩; have h3 := h.symm; clear h; subst h3) | (go_at_call 27; refine (HR.out _ HI2.out).mono ?_; rintro e w2 ⟨rfl, HI3⟩; have HS3 := Vx.hid (HCE.out _ _ _ HI3.out)))
    all_goals
      go_wp2_with fail
      all_goals
        go_ret
        exact ⟨rfl, HFIN.out _ _ HI3.out⟩
set_option maxRecDepth 100000 in
set_option maxHeartbeats 4000000 in
theorem moves_write {U : Nat → Prop} {w : World} {sb bm br bb n : Nat} {f : Nat → UInt8} (h : StAt U w sb bm br bb n f f) (A B C D : Int) (_hA : I64 A) (_hB : I64 B) (s : List UInt8) (_hs : s.length ≤ 9223372036854775807) :
    Calls Tryz.prog 12 #[.pointer (some ⟨sb, 0, none⟩), .agg (opv 3 A B C D ⟨s.toArray⟩)] w fun e w' => e = .returned (.bool true) ∧ MvR U w sb bm br bb n w' := by
  have HB0 := Vx.hid (MvI.begin h 3 A B C D s)
  have HFIN : Hid (∀ wv f, MvI U w sb bm br bb n w.heap.size 3 A B C D s wv f f → MvR U w sb bm br bb n wv) := fun wv f h => h.fin
  obtain ⟨p, hp⟩ : ∃ p : ByteArray, p = ⟨s.toArray⟩ := ⟨_, rfl⟩
  have HPP := Vx.hid hp
  have HCE : Hid (∀ wv f g, MvI U w sb bm br bb n w.heap.size 3 A B C D s wv f g → _) := fun wv f g h => h.cells hp
  have HPA := Vx.hid (fun wv f g (h : MvI U w sb bm br bb n w.heap.size 3 A B C D s wv f g) => place_any h.st A _hA)
  have hiA := near_i64 _hA (4096 * n) (by have := h.r.top; omega)
  generalize nearF A (4096 * n) = pl at HPA hiA ⊢
  have HM : Hid (∀ wv, MvI U w sb bm br bb n w.heap.size 3 A B C D s wv f f → Calls Tryz.prog 28 #[.pointer (some ⟨bm, 0, none⟩), .int .i64 pl, .string ⟨s.toArray⟩] wv fun e w1 => e = .returned (.int .i64 ((writeF f n pl s).2 : Nat)) ∧ Hid (MvI U w sb bm br bb n w.heap.size 3 A B C D s w1 (writeF f n pl s).1 f)) := fun wv hv => by
    refine (write_any hv.st.m pl s).mono ?_
    rintro e w1 ⟨rfl, hm, ho⟩
    exact ⟨rfl, hv.mem ho hm⟩
  have HR : Hid (∀ wv, MvI U w sb bm br bb n w.heap.size 3 A B C D s wv (writeF f n pl s).1 f → Calls Tryz.prog 29 #[.pointer (some ⟨br, 0, none⟩), .int .i64 pl, .string ⟨s.toArray⟩] wv fun e w1 => e = .returned (.int .i64 ((writeF f n pl s).2 : Nat)) ∧ Hid (MvI U w sb bm br bb n w.heap.size 3 A B C D s w1 (writeF f n pl s).1 (writeF f n pl s).1)) := fun wv hv => by
    refine (refWrite_any hv.st.r pl s _hs).mono ?_
    rintro e w1 ⟨rfl, hr, ho⟩
    exact ⟨rfl, hv.ref ho hr⟩
  generalize (writeF f n pl s).2 = rc at HM HR
  generalize (writeF f n pl s).1 = f1 at HM HR
  rw [← hp] at HB0 HM HR ⊢
  clear h hp _hA _hB _hs hiA
  unfold opv at *
  go_enter Tryz.func12, Tryz.ntmps12
  obtain ⟨wA, hwA⟩ : ∃ wA, wA = w.alloc (.cells #[Value.int .i64 3, .int .i64 A, .int .i64 B, .int .i64 C, .int .i64 D, .string p] 51) := ⟨_, rfl⟩
  have hk0 : wA.cell? ⟨w.heap.size, 0, none⟩ = some (.int .i64 3) := by rw [hwA, cell_of_row _ _ 0 _ _ (0, 0) (heap_alloc_last w _)]; rfl
  rw [← hwA] at HB0
  go_wp2_with fail
  rw [← hwA]
  clear hwA
  generalize w.heap.size = ob at *
  have HI0 := Vx.hid HB0.out.drew
  have HS0 := Vx.hid (HCE.out _ _ _ HI0.out)
  go_region_held3 (fun wv => wv.cell? ⟨sb, 0, none⟩ = some (.pointer (some ⟨bm, 0, none⟩)) ∧ wv.cell? ⟨sb, 1, none⟩ = some (.pointer (some ⟨br, 0, none⟩)) ∧ wv.cell? ⟨ob, 1, none⟩ = some (.int .i64 A) ∧ wv.cell? ⟨ob, 2, none⟩ = some (.int .i64 B) ∧ wv.cell? ⟨ob, 5, none⟩ = some (.string p)) (first | exact HS0.out | exact HS1.out) (first | (go_at_call 26; refine (HPA.out _ _ _ HI0.out).mono ?_; rintro e w' ⟨rfl, h⟩; have h3 := h.symm; clear h; subst h3) | (go_at_call 28; refine (HM.out _ HI0.out).mono ?_; rintro e w1 ⟨rfl, HI1⟩; have HS1 := Vx.hid (HCE.out _ _ _ HI1.out)))
  all_goals
    go_wp2_with fail
    have HI2 := Vx.hid HI1.out.drew
    have HS2 := Vx.hid (HCE.out _ _ _ HI2.out)
    go_region_held3 (fun wv => wv.cell? ⟨sb, 0, none⟩ = some (.pointer (some ⟨bm, 0, none⟩)) ∧ wv.cell? ⟨sb, 1, none⟩ = some (.pointer (some ⟨br, 0, none⟩)) ∧ wv.cell? ⟨ob, 1, none⟩ = some (.int .i64 A) ∧ wv.cell? ⟨ob, 2, none⟩ = some (.int .i64 B) ∧ wv.cell? ⟨ob, 5, none⟩ = some (.string p)) (first | exact HS2.out | exact HS3.out) (first | (go_at_call 26; refine (HPA.out _ _ _ HI2.out).mono ?_; rintro e w' ⟨rfl, h⟩; have h3 := h.symm; clear h; subst h3) | (go_at_call 29; refine (HR.out _ HI2.out).mono ?_; rintro e w2 ⟨rfl, HI3⟩; have HS3 := Vx.hid (HCE.out _ _ _ HI3.out)))
    all_goals
      go_wp2_with fail
      all_goals
        go_ret
        exact ⟨rfl, HFIN.out _ _ HI3.out⟩
end Go.Proofs.YtflmobffeeocdaaGreatDoor

import Derived.Test.YtflmobffeeocdaaGreatDoorCh7
import Derived.Test.YtflmobffeeocdaaGreatDoorCh11
import Derived.Deep.SlicePairs
import Derived.ChangeMaps5
import Derived.Test.YtflmobffeeocdaaGreatDoorCards
import Derived.Test.YtflmobffeeocdaaGreatDoorTie
import Derived.ProofKit
import Derived.LaidMore
import Derived.OpenShut
import Derived.Stop.Joined
import Derived.SevenTiedAt
import Derived.Deep.Strs
/- Walks of the scripts: a step that does nothing; the books; whole. -/
namespace Go.Proofs.YtflmobffeeocdaaGreatDoor
open Go.ChangeShapes Go.WideShapes Go.ChangeAt Go.RowKit
open Go.Vx

set_option maxRecDepth 100000 in
set_option maxHeartbeats 4000000 in
theorem moves_other {U : Nat → Prop} {w : World} {sb bm br bb n : Nat} {f : Nat → UInt8} (h : StAt U w sb bm br bb n f f) (K A B C D : Int) (hK : K < 2 ∨ 7 < K) (s : List UInt8) :
    Calls Tryz.prog 12 #[.pointer (some ⟨sb, 0, none⟩), .agg (opv K A B C D ⟨s.toArray⟩)] w fun e w' => e = .returned (.bool true) ∧ MvR U w sb bm br bb n w' := by
  have HB0 := Vx.hid (MvI.begin h K A B C D s).fin
  obtain ⟨p, hp⟩ : ∃ p : ByteArray, p = ⟨s.toArray⟩ := ⟨_, rfl⟩
  rw [← hp] at HB0 ⊢
  have k2 : ¬ K = 2 := by omega
  have k3 : ¬ K = 3 := by omega
  have k4 : ¬ K = 4 := by omega
  have k5 : ¬ K = 5 := by omega
  have k6 : ¬ K = 6 := by omega
  have k7 : ¬ K = 7 := by omega
  clear h hp hK
  unfold opv at *
  go_enter Tryz.func12, Tryz.ntmps12
  go_wp2_with fail
  all_goals
    go_ret
    exact ⟨rfl, HB0.out⟩
/-- The books, empty. -/
structure BkAt (w : World) (sb : Nat) : Prop where
  b0 : w.cell? ⟨sb, 68, none⟩ = some (.slice none 0 0)
  b1 : w.cell? ⟨sb, 69, none⟩ = some (.slice none 0 0)
  b2 : w.cell? ⟨sb, 70, none⟩ = some (.slice none 0 0)
  b3 : w.cell? ⟨sb, 71, none⟩ = some (.slice none 0 0)
  b4 : w.cell? ⟨sb, 72, none⟩ = some (.slice none 0 0)
  b5 : w.cell? ⟨sb, 73, none⟩ = some (.slice none 0 0)
theorem readsMore_ok {w : World} {sb : Nat} (h : BkAt w sb) :
    Calls Tryz.prog 56 #[.pointer (some ⟨sb, 68, none⟩)] w fun e w' => e = .returned (.bool true) ∧ w' = w := by
  have h3 := h.b3
  have h4 := h.b4
  have h5 := h.b5
  clear h
  go_enter Tryz.func56, Tryz.ntmps56
  go_wp2_with fail
  go_loopw [3] (fun i wr => i = .int .i64 0 ∧ wr = w) (fun _ _ => 0)
  case atStart => exact ⟨rfl, rfl⟩
  case round =>
    obtain ⟨rfl, rfl⟩ := hrel
    go_wp2_with fail
    go_loopw [5] (fun i wx => i = .int .i64 0 ∧ wx = wr) (fun _ _ => 0)
    case atStart => exact ⟨rfl, rfl⟩
    case round =>
      obtain ⟨rfl, rfl⟩ := hrel
      go_wp2_with fail
      go_loopw [7] (fun i wx => i = .int .i64 0 ∧ wx = wr) (fun _ _ => 0)
      case atStart => exact ⟨rfl, rfl⟩
      case round =>
        obtain ⟨rfl, rfl⟩ := hrel
        go_wp2_with fail
        all_goals
          go_ret
          exact ⟨rfl, rfl⟩
theorem reads_ok {w : World} {sb : Nat} (h : BkAt w sb) :
    Calls Tryz.prog 15 #[.pointer (some ⟨sb, 68, none⟩)] w fun e w' => e = .returned (.bool true) ∧ w' = w := by
  have h3 := h.b0
  have h4 := h.b1
  have h5 := h.b2
  have HM := Vx.hid (readsMore_ok h)
  clear h
  go_enter Tryz.func15, Tryz.ntmps15
  go_wp2_with fail
  go_loopw [3] (fun i wr => i = .int .i64 0 ∧ wr = w) (fun _ _ => 0)
  case atStart => exact ⟨rfl, rfl⟩
  case round =>
    obtain ⟨rfl, rfl⟩ := hrel
    go_wp2_with fail
    go_loopw [5] (fun i wx => i = .int .i64 0 ∧ wx = wr) (fun _ _ => 0)
    case atStart => exact ⟨rfl, rfl⟩
    case round =>
      obtain ⟨rfl, rfl⟩ := hrel
      go_wp2_with fail
      go_loopw [7] (fun i wx => i = .int .i64 0 ∧ wx = wr) (fun _ _ => 0)
      case atStart => exact ⟨rfl, rfl⟩
      case round =>
        obtain ⟨rfl, rfl⟩ := hrel
        go_wp2_with fail
        refine HM.out.mono ?_
        rintro e w' ⟨rfl, h⟩
        have h2 := h.symm; clear h; subst h2
        go_wp2_with fail
        all_goals
          go_ret
          exact ⟨rfl, rfl⟩
end Go.Proofs.YtflmobffeeocdaaGreatDoor

/- Walks of the scripts: whole. -/
namespace Go.Proofs.YtflmobffeeocdaaGreatDoor
open Go.ChangeShapes Go.WideShapes Go.ChangeAt Go.RowKit
open Go.Vx

theorem ref_text {w : World} {br bb n : Nat} {f : Nat → UInt8} (h : RefAt w br bb n f) {N : Nat} (hN : N = 4096 * n) : (convert 66 9 (.slice (some ⟨bb, 0, none⟩) N N)).run Tryz.prog w = .ok (.string ⟨(rowL f 0 N).toArray⟩) w := by
  have hl := length_rowL f 0 N
  have h := run_convert_bytes_back (P := Tryz.prog) w 66 9 5 ⟨bb, 0, none⟩ N (rowL f 0 N) Tryz.underlying66 Tryz.underlying5 Tryz.underlying9 (fun j hj => by
    rw [hl] at hj
    rw [addr_add, Nat.zero_add, h.cb (by omega)]
    have h2 : (rowL f 0 N)[j] = f j := by
      have := get_rowL f 0 N j hj
      rw [List.getElem?_eq_getElem (by rw [hl]; exact hj), Nat.zero_add] at this
      exact Option.some.inj this
    rw [h2]
    rfl)
  rw [hl] at h
  exact h
set_option maxRecDepth 100000 in
set_option maxHeartbeats 4000000 in
theorem whole_ok {U : Nat → Prop} {w : World} {sb bm br bb n : Nat} {f : Nat → UInt8} (h : StAt U w sb bm br bb n f f) :
    Calls Tryz.prog 17 #[.pointer (some ⟨sb, 0, none⟩)] w fun e w' => e = .returned (.bool true) ∧ Only (fun _ => False) w w' := by
  obtain ⟨N, hN⟩ : ∃ N, N = 4096 * n := ⟨_, rfl⟩
  have HCE : Hid (∀ wv, Only (fun _ => False) w wv → wv.cell? ⟨sb, 0, none⟩ = some (.pointer (some ⟨bm, 0, none⟩)) ∧ wv.cell? ⟨sb, 1, none⟩ = some (.pointer (some ⟨br, 0, none⟩)) ∧ wv.cell? ⟨br, 0, none⟩ = some (.slice (some ⟨bb, 0, none⟩) N N)) := fun wv hv => by
    have h1 := h.only hv
    rw [hN]
    exact ⟨h1.c0, h1.c1, h1.r.cr⟩
  have HRD : Hid (∀ wv, Only (fun _ => False) w wv → Calls Tryz.prog 25 #[.pointer (some ⟨bm, 0, none⟩), .int .i64 0, .int .i64 (N : Int)] wv fun e w' => e = .returned (.tuple #[.string ⟨(rowL f 0 N).toArray⟩, .int .i64 0]) ∧ Only (fun _ => False) w w') := fun wv hv => by
    refine (read_ok (h.only hv).m 0 N (by omega)).mono ?_
    rintro e w' ⟨rfl, ho⟩
    exact ⟨rfl, hv.trans ho⟩
  have HCV : Hid (∀ wv, Only (fun _ => False) w wv → (convert 66 9 (.slice (some ⟨bb, 0, none⟩) N N)).run Tryz.prog wv = .ok (.string ⟨(rowL f 0 N).toArray⟩) wv) := fun wv hv => ref_text (h.only hv).r hN
  generalize (rowL f 0 N).toArray = t at HRD HCV
  have HO0 : Hid (Only (fun _ => False) w w.drew) := (Only.refl _ _).drew
  have HS0 := Vx.hid (HCE.out _ HO0.out)
  clear h hN
  go_enter Tryz.func17, Tryz.ntmps17
  go_wp2_with fail
  go_region_held3 (fun wv => wv.cell? ⟨sb, 0, none⟩ = some (.pointer (some ⟨bm, 0, none⟩)) ∧ wv.cell? ⟨sb, 1, none⟩ = some (.pointer (some ⟨br, 0, none⟩)) ∧ wv.cell? ⟨br, 0, none⟩ = some (.slice (some ⟨bb, 0, none⟩) N N)) (first | exact HS0.out | exact HS1.out) (first | (go_at_call 25; refine (HRD.out _ HO0.out).mono ?_; rintro e w1 ⟨rfl, ho1⟩; have HO1 := Vx.hid ho1; have HS1 := Vx.hid (HCE.out w1 HO1.out); clear ho1))
  all_goals
    have hc1 := HS1.out.2.1
    have hc2 := HS1.out.2.2
    have hcv := HCV.out w1 HO1.out
    go_wp2_with fail
    all_goals
      go_ret
      exact ⟨rfl, HO1.out⟩
end Go.Proofs.YtflmobffeeocdaaGreatDoor

/- Walks of the scripts: begin. -/
namespace Go.Proofs.YtflmobffeeocdaaGreatDoor
open Go.ChangeShapes Go.WideShapes Go.ChangeAt Go.RowKit
open Go.Vx

/-- The store's block. -/
def SbAt (w : World) (sb : Nat) : Prop := ∃ cs : Array Value, w.heap[sb]? = some (.cells cs 44 (0, 0)) ∧ cs.size = 74 ∧ ∀ j, 68 ≤ j → j < 74 → cs[j]? = some (.slice none 0 0)
theorem SbAt.only {S : Nat → Prop} {w w' : World} {sb : Nat} (h : SbAt w sb) (ho : Only S w w') (hS : ¬ S sb) : SbAt w' sb := by
  obtain ⟨cs, h1, h2, h3⟩ := h
  exact ⟨cs, by rw [ho.block sb (lt_of_some h1) hS]; exact h1, h2, h3⟩
theorem SbAt.bk {w : World} {sb : Nat} (h : SbAt w sb) : BkAt w sb := by
  obtain ⟨cs, h1, h2, h3⟩ := h
  have e : ∀ j, w.cell? ⟨sb, j, none⟩ = cs[j]? := fun j => cell_of_row _ _ j _ _ (0, 0) h1
  exact ⟨by rw [e]; exact h3 _ (by decide) (by decide), by rw [e]; exact h3 _ (by decide) (by decide), by rw [e]; exact h3 _ (by decide) (by decide), by rw [e]; exact h3 _ (by decide) (by decide), by rw [e]; exact h3 _ (by decide) (by decide), by rw [e]; exact h3 _ (by decide) (by decide)⟩
theorem SbAt.lt {w : World} {sb : Nat} (h : SbAt w sb) : sb < w.heap.size := by
  obtain ⟨cs, h1, _⟩ := h
  exact lt_of_some h1
theorem SbAt.some {w : World} {sb : Nat} (h : SbAt w sb) (j : Nat) (hj : j < 74) : (∃ v, w.cell? ⟨sb, j, none⟩ = some v) ∧ w.frozen? ⟨sb, j, none⟩ = false := by
  obtain ⟨cs, h1, h2, _⟩ := h
  refine ⟨⟨cs[j], ?_⟩, by simp [World.frozen?, h1]⟩
  rw [cell_of_row _ _ j _ _ (0, 0) h1]
  exact Array.getElem?_eq_getElem (by omega)
theorem SbAt.set {w : World} {sb : Nat} (h : SbAt w sb) (j : Nat) (hj : j < 68) (v : Value) : SbAt (w.setCell ⟨sb, j, none⟩ v) sb := by
  obtain ⟨cs, h1, h2, h3⟩ := h
  refine ⟨cs.setIfInBounds j v, heap_setCell_same _ _ _ _ _ _ h1, by simp [h2], fun i hi hi2 => ?_⟩
  rw [Array.getElem?_setIfInBounds, if_neg (by omega)]
  exact h3 i hi hi2
theorem begin_no {w : World} {sb : Nat} (n : Int) (hn : n < 1 ∨ 256 < n) :
    Calls Tryz.prog 8 #[.pointer (some ⟨sb, 0, none⟩), .int .i64 n] w fun e w' => e = .returned (.bool true) ∧ w' = w := by
  have H1 := Vx.hid (new_no n hn w)
  have H2 := Vx.hid (newRef_no n hn w)
  clear hn
  go_enter Tryz.func8, Tryz.ntmps8
  go_wp2_with fail
  refine H1.out.mono ?_
  rintro e w' ⟨rfl, h⟩
  have h2 := h.symm; clear h; subst h2
  go_wp2_with fail
  refine H2.out.mono ?_
  rintro e w' ⟨rfl, h⟩
  have h2 := h.symm; clear h; subst h2
  go_wp2_with fail
  all_goals
    go_ret
    exact ⟨rfl, rfl⟩
/-- What begin leaves. -/
def BgR (U : Nat → Prop) (w : World) (sb n : Nat) (w' : World) : Prop := ∃ bm br bb, w.heap.size ≤ bb ∧ w.heap.size ≤ br ∧ StAt (fun k => (U k ∨ k = bb) ∨ k = br) w' sb bm br bb n (fun _ => 0) (fun _ => 0) ∧ SbAt w' sb ∧ Only (fun k => k = sb) w w'
theorem only_cell (w : World) (p : Addr) (v : Value) : Only (fun k => k = p.block) w (w.setCell p v) := Only.setCell (S := fun k => k = p.block) (Only.refl _ w) (Or.inl rfl) v
theorem begin_end {U : Nat → Prop} {w w1 : World} {o1 o2 : Obj} {sb bm n : Nat} (hsb : SbAt w sb) (hus : U sb) (ho1 : Only (fun _ => False) w w1) (hm : MemAt U w1 bm n (fun _ => 0)) (hr : RefAt ((w1.alloc o1).alloc o2) (w1.heap.size + 1) w1.heap.size n (fun _ => 0)) :
    BgR U w sb n ((((w1.alloc o1).alloc o2).setCell ⟨sb, 0, none⟩ (.pointer (some ⟨bm, 0, none⟩))).setCell ⟨sb, 1, none⟩ (.pointer (some ⟨w1.heap.size + 1, 0, none⟩))) := by
  have hl := hsb.lt
  have hs1 := ho1.size
  have ho2 : Only (fun _ => False) w ((w1.alloc o1).alloc o2) := (ho1.alloc o1).alloc o2
  have hsb2 : SbAt ((w1.alloc o1).alloc o2) sb := hsb.only ho2 (fun h => h)
  have hm2 : MemAt (fun k => (U k ∨ k = w1.heap.size) ∨ k = w1.heap.size + 1) ((w1.alloc o1).alloc o2) bm n (fun _ => 0) := by
    have := (hm.beside o1).beside o2
    simpa using this
  generalize hw2 : (w1.alloc o1).alloc o2 = w2 at *
  have hsz : w1.heap.size + 2 = w2.heap.size := by rw [← hw2]; simp
  have o3 : Only (fun k => k = sb) w2 (w2.setCell ⟨sb, 0, none⟩ (.pointer (some ⟨bm, 0, none⟩))) := only_cell w2 ⟨sb, 0, none⟩ _
  have o4 : Only (fun k => k = sb) (w2.setCell ⟨sb, 0, none⟩ (.pointer (some ⟨bm, 0, none⟩))) ((w2.setCell ⟨sb, 0, none⟩ (.pointer (some ⟨bm, 0, none⟩))).setCell ⟨sb, 1, none⟩ (.pointer (some ⟨w1.heap.size + 1, 0, none⟩))) := only_cell _ ⟨sb, 1, none⟩ _
  have o5 := o3.trans o4
  have hsb3 := hsb2.set 0 (by decide) (.pointer (some ⟨bm, 0, none⟩))
  have hsb4 := hsb3.set 1 (by decide) (.pointer (some ⟨w1.heap.size + 1, 0, none⟩))
  obtain ⟨⟨v0, c0⟩, _⟩ := hsb2.some 0 (by decide)
  obtain ⟨⟨v1, c1⟩, _⟩ := hsb3.some 1 (by decide)
  refine ⟨bm, w1.heap.size + 1, w1.heap.size, hs1, by omega, ⟨?_, ?_, hsb4.lt, ?_, ?_, Or.inl (Or.inl hus), Or.inr rfl, Or.inl (Or.inr rfl), by omega⟩, hsb4, (ho2.mono (fun _ _ h => h.elim)).trans o5⟩
  · rw [World.cell?_setCell_other _ _ _ _ (by intro e; injection e with _ e2; omega)]
    exact World.cell?_setCell_same _ _ _ c0
  · exact World.cell?_setCell_same _ _ _ c1
  · exact hm2.only o5 (fun k hk _ => by rw [hk]; exact Or.inl (Or.inl hus))
  · exact hr.only o5 (by omega) (by omega)
end Go.Proofs.YtflmobffeeocdaaGreatDoor

/- Walks of the scripts: moves. -/
namespace Go.Proofs.YtflmobffeeocdaaGreatDoor
open Go.ChangeShapes Go.WideShapes Go.ChangeAt Go.RowKit
open Go.Vx

theorem wordR_lt (f : Nat → UInt8) (n : Nat) (a : Int) : (wordR f n a).1 < 4294967296 := by
  unfold wordR
  split
  · exact wordF_lt _ _
  · show 0 < 4294967296; decide
set_option maxRecDepth 100000 in
set_option maxHeartbeats 4000000 in
theorem moves_word {U : Nat → Prop} {w : World} {sb bm br bb n : Nat} {f : Nat → UInt8} (h : StAt U w sb bm br bb n f f) (A B C D : Int) (_hA : I64 A) (_hB : I64 B) (s : List UInt8) (_hs : s.length ≤ 9223372036854775807) :
    Calls Tryz.prog 12 #[.pointer (some ⟨sb, 0, none⟩), .agg (opv 4 A B C D ⟨s.toArray⟩)] w fun e w' => e = .returned (.bool true) ∧ MvR U w sb bm br bb n w' := by
  have HB0 := Vx.hid (MvI.begin h 4 A B C D s)
  have HFIN : Hid (∀ wv f, MvI U w sb bm br bb n w.heap.size 4 A B C D s wv f f → MvR U w sb bm br bb n wv) := fun wv f h => h.fin
  obtain ⟨p, hp⟩ : ∃ p : ByteArray, p = ⟨s.toArray⟩ := ⟨_, rfl⟩
  have HPP := Vx.hid hp
  have HCE : Hid (∀ wv f g, MvI U w sb bm br bb n w.heap.size 4 A B C D s wv f g → _) := fun wv f g h => h.cells hp
  have HPA := Vx.hid (fun wv f g (h : MvI U w sb bm br bb n w.heap.size 4 A B C D s wv f g) => place_any h.st A _hA)
  have hiA := near_i64 _hA (4096 * n) (by have := h.r.top; omega)
  generalize nearF A (4096 * n) = pl at HPA hiA ⊢
  have HM : Hid (∀ wv, MvI U w sb bm br bb n w.heap.size 4 A B C D s wv f f → Calls Tryz.prog 16 #[.pointer (some ⟨bm, 0, none⟩), .int .i64 pl] wv fun e w1 => e = .returned (.tuple #[.int .u32 ((wordR f n pl).1 : Nat), .int .i64 ((wordR f n pl).2 : Nat)]) ∧ Hid (MvI U w sb bm br bb n w.heap.size 4 A B C D s w1 f f)) := fun wv hv => by
    refine (word_any hv.st.m pl).mono ?_
    rintro e w1 ⟨rfl, ho⟩
    exact ⟨rfl, hv.quiet ho⟩
  have HR : Hid (∀ wv, MvI U w sb bm br bb n w.heap.size 4 A B C D s wv f f → Calls Tryz.prog 30 #[.pointer (some ⟨br, 0, none⟩), .int .i64 pl] wv fun e w1 => e = .returned (.tuple #[.int .i64 ((wordR f n pl).1 : Nat), .int .i64 ((wordR f n pl).2 : Nat)]) ∧ Hid (MvI U w sb bm br bb n w.heap.size 4 A B C D s w1 f f)) := fun wv hv => by
    refine (refWord_any hv.st.r pl).mono ?_
    rintro e w1 ⟨rfl, ho⟩
    exact ⟨rfl, hv.quiet ho⟩
  have hxb : (wordR f n pl).1 < 4294967296 := wordR_lt f n pl
  generalize (wordR f n pl).2 = rc at HM HR
  generalize (wordR f n pl).1 = x at HM HR hxb
  have hxw : IntKind.i64.wrap (x : Int) = (x : Int) := by rw [IntKind.wrap_i64]; omega
  clear hxb
  rw [← hp] at HB0 ⊢
  clear h hp _hA _hB _hs hiA
  unfold opv at *
  go_enter Tryz.func12, Tryz.ntmps12
  obtain ⟨wA, hwA⟩ : ∃ wA, wA = w.alloc (.cells #[Value.int .i64 4, .int .i64 A, .int .i64 B, .int .i64 C, .int .i64 D, .string p] 51) := ⟨_, rfl⟩
  have hk0 : wA.cell? ⟨w.heap.size, 0, none⟩ = some (.int .i64 4) := by rw [hwA, cell_of_row _ _ 0 _ _ (0, 0) (heap_alloc_last w _)]; rfl
  rw [← hwA] at HB0
  go_wp2_with fail
  rw [← hwA]
  clear hwA
  generalize w.heap.size = ob at *
  have HI0 := Vx.hid HB0.out.drew
  have HS0 := Vx.hid (HCE.out _ _ _ HI0.out)
  go_region_held3 (fun wv => wv.cell? ⟨sb, 0, none⟩ = some (.pointer (some ⟨bm, 0, none⟩)) ∧ wv.cell? ⟨sb, 1, none⟩ = some (.pointer (some ⟨br, 0, none⟩)) ∧ wv.cell? ⟨ob, 1, none⟩ = some (.int .i64 A) ∧ wv.cell? ⟨ob, 2, none⟩ = some (.int .i64 B) ∧ wv.cell? ⟨ob, 5, none⟩ = some (.string p)) (first | exact HS0.out | exact HS1.out) (first | (go_at_call 26; refine (HPA.out _ _ _ HI0.out).mono ?_; rintro e w' ⟨rfl, h⟩; have h3 := h.symm; clear h; subst h3) | (go_at_call 16; refine (HM.out _ HI0.out).mono ?_; rintro e w1 ⟨rfl, HI1⟩; have HS1 := Vx.hid (HCE.out _ _ _ HI1.out)))
  all_goals
    go_wp2_with fail
    have HI2 := Vx.hid HI1.out.drew
    have HS2 := Vx.hid (HCE.out _ _ _ HI2.out)
    go_region_held3 (fun wv => wv.cell? ⟨sb, 0, none⟩ = some (.pointer (some ⟨bm, 0, none⟩)) ∧ wv.cell? ⟨sb, 1, none⟩ = some (.pointer (some ⟨br, 0, none⟩)) ∧ wv.cell? ⟨ob, 1, none⟩ = some (.int .i64 A) ∧ wv.cell? ⟨ob, 2, none⟩ = some (.int .i64 B) ∧ wv.cell? ⟨ob, 5, none⟩ = some (.string p)) (first | exact HS2.out | exact HS3.out) (first | (go_at_call 26; refine (HPA.out _ _ _ HI2.out).mono ?_; rintro e w' ⟨rfl, h⟩; have h3 := h.symm; clear h; subst h3) | (go_at_call 30; refine (HR.out _ HI2.out).mono ?_; rintro e w2 ⟨rfl, HI3⟩; have HS3 := Vx.hid (HCE.out _ _ _ HI3.out)))
    all_goals
      go_wp2_with fail
      all_goals
        go_ret
        exact ⟨rfl, HFIN.out _ _ HI3.out⟩
set_option maxRecDepth 100000 in
set_option maxHeartbeats 4000000 in
theorem moves_set {U : Nat → Prop} {w : World} {sb bm br bb n : Nat} {f : Nat → UInt8} (h : StAt U w sb bm br bb n f f) (A B C D : Int) (_hA : I64 A) (_hB : I64 B) (s : List UInt8) (_hs : s.length ≤ 9223372036854775807) :
    Calls Tryz.prog 12 #[.pointer (some ⟨sb, 0, none⟩), .agg (opv 5 A B C D ⟨s.toArray⟩)] w fun e w' => e = .returned (.bool true) ∧ MvR U w sb bm br bb n w' := by
  have HB0 := Vx.hid (MvI.begin h 5 A B C D s)
  have HFIN : Hid (∀ wv f, MvI U w sb bm br bb n w.heap.size 5 A B C D s wv f f → MvR U w sb bm br bb n wv) := fun wv f h => h.fin
  obtain ⟨p, hp⟩ : ∃ p : ByteArray, p = ⟨s.toArray⟩ := ⟨_, rfl⟩
  have HPP := Vx.hid hp
  have HCE : Hid (∀ wv f g, MvI U w sb bm br bb n w.heap.size 5 A B C D s wv f g → _) := fun wv f g h => h.cells hp
  have HPA := Vx.hid (fun wv f g (h : MvI U w sb bm br bb n w.heap.size 5 A B C D s wv f g) => place_any h.st A _hA)
  have hiA := near_i64 _hA (4096 * n) (by have := h.r.top; omega)
  obtain ⟨x, hxe, hxl⟩ : ∃ x : Nat, IntKind.u32.wrap B = (x : Int) ∧ x < 4294967296 := ⟨(B % 4294967296).toNat, by rw [IntKind.wrap_u32]; omega, by omega⟩
  generalize nearF A (4096 * n) = pl at HPA hiA ⊢
  have HM : Hid (∀ wv, MvI U w sb bm br bb n w.heap.size 5 A B C D s wv f f → Calls Tryz.prog 10 #[.pointer (some ⟨bm, 0, none⟩), .int .i64 pl, .int .u32 (x : Int)] wv fun e w1 => e = .returned (.int .i64 ((setWF f n pl x).2 : Nat)) ∧ Hid (MvI U w sb bm br bb n w.heap.size 5 A B C D s w1 (setWF f n pl x).1 f)) := fun wv hv => by
    refine (setWord_any hv.st.m pl x hxl).mono ?_
    rintro e w1 ⟨rfl, hm, ho⟩
    exact ⟨rfl, hv.mem ho hm⟩
  have HR : Hid (∀ wv, MvI U w sb bm br bb n w.heap.size 5 A B C D s wv (setWF f n pl x).1 f → Calls Tryz.prog 31 #[.pointer (some ⟨br, 0, none⟩), .int .i64 pl, .int .i64 (x : Int)] wv fun e w1 => e = .returned (.int .i64 ((setWF f n pl x).2 : Nat)) ∧ Hid (MvI U w sb bm br bb n w.heap.size 5 A B C D s w1 (setWF f n pl x).1 (setWF f n pl x).1)) := fun wv hv => by
    refine (refSetWord_any hv.st.r pl x hxl).mono ?_
    rintro e w1 ⟨rfl, hr, ho⟩
    exact ⟨rfl, hv.ref ho hr⟩
  generalize (setWF f n pl x).2 = rc at HM HR
  generalize (setWF f n pl x).1 = f1 at HM HR
  have hxw : IntKind.i64.wrap (x : Int) = (x : Int) := by rw [IntKind.wrap_i64]; omega
  clear hxl
  rw [← hp] at HB0 ⊢
  clear h hp _hA _hB _hs hiA
  unfold opv at *
  go_enter Tryz.func12, Tryz.ntmps12
  obtain ⟨wA, hwA⟩ : ∃ wA, wA = w.alloc (.cells #[Value.int .i64 5, .int .i64 A, .int .i64 B, .int .i64 C, .int .i64 D, .string p] 51) := ⟨_, rfl⟩
  have hk0 : wA.cell? ⟨w.heap.size, 0, none⟩ = some (.int .i64 5) := by rw [hwA, cell_of_row _ _ 0 _ _ (0, 0) (heap_alloc_last w _)]; rfl
  rw [← hwA] at HB0
  go_wp2_with fail
  rw [← hwA]
  clear hwA
  generalize w.heap.size = ob at *
  have HI0 := Vx.hid HB0.out.drew
  have HS0 := Vx.hid (HCE.out _ _ _ HI0.out)
  go_region_held3 (fun wv => wv.cell? ⟨sb, 0, none⟩ = some (.pointer (some ⟨bm, 0, none⟩)) ∧ wv.cell? ⟨sb, 1, none⟩ = some (.pointer (some ⟨br, 0, none⟩)) ∧ wv.cell? ⟨ob, 1, none⟩ = some (.int .i64 A) ∧ wv.cell? ⟨ob, 2, none⟩ = some (.int .i64 B) ∧ wv.cell? ⟨ob, 5, none⟩ = some (.string p)) (first | exact HS0.out | exact HS1.out) (first | (go_at_call 26; refine (HPA.out _ _ _ HI0.out).mono ?_; rintro e w' ⟨rfl, h⟩; have h3 := h.symm; clear h; subst h3) | (go_at_call 10; refine (HM.out _ HI0.out).mono ?_; rintro e w1 ⟨rfl, HI1⟩; have HS1 := Vx.hid (HCE.out _ _ _ HI1.out)))
  all_goals
    go_wp2_with fail
    have HI2 := Vx.hid HI1.out.drew
    have HS2 := Vx.hid (HCE.out _ _ _ HI2.out)
    go_region_held3 (fun wv => wv.cell? ⟨sb, 0, none⟩ = some (.pointer (some ⟨bm, 0, none⟩)) ∧ wv.cell? ⟨sb, 1, none⟩ = some (.pointer (some ⟨br, 0, none⟩)) ∧ wv.cell? ⟨ob, 1, none⟩ = some (.int .i64 A) ∧ wv.cell? ⟨ob, 2, none⟩ = some (.int .i64 B) ∧ wv.cell? ⟨ob, 5, none⟩ = some (.string p)) (first | exact HS2.out | exact HS3.out) (first | (go_at_call 26; refine (HPA.out _ _ _ HI2.out).mono ?_; rintro e w' ⟨rfl, h⟩; have h3 := h.symm; clear h; subst h3) | (go_at_call 31; refine (HR.out _ HI2.out).mono ?_; rintro e w2 ⟨rfl, HI3⟩; have HS3 := Vx.hid (HCE.out _ _ _ HI3.out)))
    all_goals
      go_wp2_with fail
      all_goals
        go_ret
        exact ⟨rfl, HFIN.out _ _ HI3.out⟩
end Go.Proofs.YtflmobffeeocdaaGreatDoor

/- Walks of the scripts: moves. -/
namespace Go.Proofs.YtflmobffeeocdaaGreatDoor
open Go.ChangeShapes Go.WideShapes Go.ChangeAt Go.RowKit
open Go.Vx

set_option maxRecDepth 100000 in
set_option maxHeartbeats 4000000 in
theorem moves_zero {U : Nat → Prop} {w : World} {sb bm br bb n : Nat} {f : Nat → UInt8} (h : StAt U w sb bm br bb n f f) (A B C D : Int) (_hA : I64 A) (_hB : I64 B) (s : List UInt8) (_hs : s.length ≤ 9223372036854775807) :
    Calls Tryz.prog 12 #[.pointer (some ⟨sb, 0, none⟩), .agg (opv 6 A B C D ⟨s.toArray⟩)] w fun e w' => e = .returned (.bool true) ∧ MvR U w sb bm br bb n w' := by
  have HB0 := Vx.hid (MvI.begin h 6 A B C D s)
  have HFIN : Hid (∀ wv f, MvI U w sb bm br bb n w.heap.size 6 A B C D s wv f f → MvR U w sb bm br bb n wv) := fun wv f h => h.fin
  obtain ⟨p, hp⟩ : ∃ p : ByteArray, p = ⟨s.toArray⟩ := ⟨_, rfl⟩
  have HPP := Vx.hid hp
  have HCE : Hid (∀ wv f g, MvI U w sb bm br bb n w.heap.size 6 A B C D s wv f g → _) := fun wv f g h => h.cells hp
  have HPA := Vx.hid (fun wv f g (h : MvI U w sb bm br bb n w.heap.size 6 A B C D s wv f g) => pageL_any h.st A _hA)
  have hiA := near_i64 _hA (n) (by have := h.r.top; omega)
  generalize nearF A (n) = pl at HPA hiA ⊢
  have HM : Hid (∀ wv, MvI U w sb bm br bb n w.heap.size 6 A B C D s wv f f → Calls Tryz.prog 32 #[.pointer (some ⟨bm, 0, none⟩), .int .i64 pl] wv fun e w1 => e = .returned (.int .i64 ((zeroR f n pl).2 : Nat)) ∧ Hid (MvI U w sb bm br bb n w.heap.size 6 A B C D s w1 (zeroR f n pl).1 f)) := fun wv hv => by
    refine (zero_any hv.st.m pl).mono ?_
    rintro e w1 ⟨rfl, hm, ho⟩
    exact ⟨rfl, hv.mem ho hm⟩
  have HR : Hid (∀ wv, MvI U w sb bm br bb n w.heap.size 6 A B C D s wv (zeroR f n pl).1 f → Calls Tryz.prog 34 #[.pointer (some ⟨br, 0, none⟩), .int .i64 pl] wv fun e w1 => e = .returned (.int .i64 ((zeroR f n pl).2 : Nat)) ∧ Hid (MvI U w sb bm br bb n w.heap.size 6 A B C D s w1 (zeroR f n pl).1 (zeroR f n pl).1)) := fun wv hv => by
    refine (refZero_any hv.st.r pl).mono ?_
    rintro e w1 ⟨rfl, hr, ho⟩
    exact ⟨rfl, hv.ref ho hr⟩
  generalize (zeroR f n pl).2 = rc at HM HR
  generalize (zeroR f n pl).1 = f1 at HM HR
  rw [← hp] at HB0 ⊢
  clear h hp _hA _hB _hs hiA
  unfold opv at *
  go_enter Tryz.func12, Tryz.ntmps12
  obtain ⟨wA, hwA⟩ : ∃ wA, wA = w.alloc (.cells #[Value.int .i64 6, .int .i64 A, .int .i64 B, .int .i64 C, .int .i64 D, .string p] 51) := ⟨_, rfl⟩
  have hk0 : wA.cell? ⟨w.heap.size, 0, none⟩ = some (.int .i64 6) := by rw [hwA, cell_of_row _ _ 0 _ _ (0, 0) (heap_alloc_last w _)]; rfl
  rw [← hwA] at HB0
  go_wp2_with fail
  rw [← hwA]
  clear hwA
  generalize w.heap.size = ob at *
  have HI0 := Vx.hid HB0.out.drew
  have HS0 := Vx.hid (HCE.out _ _ _ HI0.out)
  go_region_held3 (fun wv => wv.cell? ⟨sb, 0, none⟩ = some (.pointer (some ⟨bm, 0, none⟩)) ∧ wv.cell? ⟨sb, 1, none⟩ = some (.pointer (some ⟨br, 0, none⟩)) ∧ wv.cell? ⟨ob, 1, none⟩ = some (.int .i64 A) ∧ wv.cell? ⟨ob, 2, none⟩ = some (.int .i64 B) ∧ wv.cell? ⟨ob, 5, none⟩ = some (.string p)) (first | exact HS0.out | exact HS1.out) (first | (go_at_call 33; refine (HPA.out _ _ _ HI0.out).mono ?_; rintro e w' ⟨rfl, h⟩; have h3 := h.symm; clear h; subst h3) | (go_at_call 32; refine (HM.out _ HI0.out).mono ?_; rintro e w1 ⟨rfl, HI1⟩; have HS1 := Vx.hid (HCE.out _ _ _ HI1.out)))
  all_goals
    go_wp2_with fail
    have HI2 := Vx.hid HI1.out.drew
    have HS2 := Vx.hid (HCE.out _ _ _ HI2.out)
    go_region_held3 (fun wv => wv.cell? ⟨sb, 0, none⟩ = some (.pointer (some ⟨bm, 0, none⟩)) ∧ wv.cell? ⟨sb, 1, none⟩ = some (.pointer (some ⟨br, 0, none⟩)) ∧ wv.cell? ⟨ob, 1, none⟩ = some (.int .i64 A) ∧ wv.cell? ⟨ob, 2, none⟩ = some (.int .i64 B) ∧ wv.cell? ⟨ob, 5, none⟩ = some (.string p)) (first | exact HS2.out | exact HS3.out) (first | (go_at_call 33; refine (HPA.out _ _ _ HI2.out).mono ?_; rintro e w' ⟨rfl, h⟩; have h3 := h.symm; clear h; subst h3) | (go_at_call 34; refine (HR.out _ HI2.out).mono ?_; rintro e w2 ⟨rfl, HI3⟩; have HS3 := Vx.hid (HCE.out _ _ _ HI3.out)))
    all_goals
      go_wp2_with fail
      all_goals
        go_ret
        exact ⟨rfl, HFIN.out _ _ HI3.out⟩
set_option maxRecDepth 100000 in
set_option maxHeartbeats 4000000 in
theorem moves_same {U : Nat → Prop} {w : World} {sb bm br bb n : Nat} {f : Nat → UInt8} (h : StAt U w sb bm br bb n f f) (A B C D : Int) (_hA : I64 A) (_hB : I64 B) (s : List UInt8) (_hs : s.length ≤ 9223372036854775807) :
    Calls Tryz.prog 12 #[.pointer (some ⟨sb, 0, none⟩), .agg (opv 7 A B C D ⟨s.toArray⟩)] w fun e w' => e = .returned (.bool true) ∧ MvR U w sb bm br bb n w' := by
  have HB0 := Vx.hid (MvI.begin h 7 A B C D s)
  have HFIN : Hid (∀ wv f, MvI U w sb bm br bb n w.heap.size 7 A B C D s wv f f → MvR U w sb bm br bb n wv) := fun wv f h => h.fin
  obtain ⟨p, hp⟩ : ∃ p : ByteArray, p = ⟨s.toArray⟩ := ⟨_, rfl⟩
  have HPP := Vx.hid hp
  have HCE : Hid (∀ wv f g, MvI U w sb bm br bb n w.heap.size 7 A B C D s wv f g → _) := fun wv f g h => h.cells hp
  have HPX : Hid (∀ wv f g, MvI U w sb bm br bb n w.heap.size 7 A B C D s wv f g → ∀ z, (z = A ∨ z = B) → Calls Tryz.prog 33 #[.pointer (some ⟨sb, 0, none⟩), .int .i64 z] wv fun e w' => e = .returned (.int .i64 (nearF z n)) ∧ w' = wv) := fun wv f g h z hz => by
    rcases hz with rfl | rfl
    · exact pageL_any h.st _ _hA
    · exact pageL_any h.st _ _hB
  have HM : Hid (∀ wv, MvI U w sb bm br bb n w.heap.size 7 A B C D s wv f f → Calls Tryz.prog 35 #[.pointer (some ⟨bm, 0, none⟩), .int .i64 (nearF A n), .int .i64 (nearF B n)] wv fun e w1 => e = .returned (.tuple #[.bool (sameR f n (nearF A n) (nearF B n)).1, .int .i64 ((sameR f n (nearF A n) (nearF B n)).2 : Nat)]) ∧ Hid (MvI U w sb bm br bb n w.heap.size 7 A B C D s w1 f f)) := fun wv hv => by
    refine (same_any hv.st.m (nearF A n) (nearF B n)).mono ?_
    rintro e w1 ⟨rfl, ho⟩
    exact ⟨rfl, hv.quiet ho⟩
  have HR : Hid (∀ wv, MvI U w sb bm br bb n w.heap.size 7 A B C D s wv f f → Calls Tryz.prog 36 #[.pointer (some ⟨br, 0, none⟩), .int .i64 (nearF A n), .int .i64 (nearF B n)] wv fun e w1 => e = .returned (.tuple #[.bool (sameR f n (nearF A n) (nearF B n)).1, .int .i64 ((sameR f n (nearF A n) (nearF B n)).2 : Nat)]) ∧ Hid (MvI U w sb bm br bb n w.heap.size 7 A B C D s w1 f f)) := fun wv hv => by
    refine (refSame_any hv.st.r (nearF A n) (nearF B n)).mono ?_
    rintro e w1 ⟨rfl, ho⟩
    exact ⟨rfl, hv.quiet ho⟩
  generalize (sameR f n (nearF A n) (nearF B n)).2 = rc at HM HR
  generalize (sameR f n (nearF A n) (nearF B n)).1 = x at HM HR
  rw [← hp] at HB0 ⊢
  clear h hp _hA _hB _hs
  unfold opv at *
  go_enter Tryz.func12, Tryz.ntmps12
  obtain ⟨wA, hwA⟩ : ∃ wA, wA = w.alloc (.cells #[Value.int .i64 7, .int .i64 A, .int .i64 B, .int .i64 C, .int .i64 D, .string p] 51) := ⟨_, rfl⟩
  have hk0 : wA.cell? ⟨w.heap.size, 0, none⟩ = some (.int .i64 7) := by rw [hwA, cell_of_row _ _ 0 _ _ (0, 0) (heap_alloc_last w _)]; rfl
  rw [← hwA] at HB0
  go_wp2_with fail
  rw [← hwA]
  clear hwA
  generalize w.heap.size = ob at *
  have HI0 := Vx.hid HB0.out.drew
  have HS0 := Vx.hid (HCE.out _ _ _ HI0.out)
  go_region_held3 (fun wv => wv.cell? ⟨sb, 0, none⟩ = some (.pointer (some ⟨bm, 0, none⟩)) ∧ wv.cell? ⟨sb, 1, none⟩ = some (.pointer (some ⟨br, 0, none⟩)) ∧ wv.cell? ⟨ob, 1, none⟩ = some (.int .i64 A) ∧ wv.cell? ⟨ob, 2, none⟩ = some (.int .i64 B) ∧ wv.cell? ⟨ob, 5, none⟩ = some (.string p)) (first | exact HS0.out | exact HS1.out) (first | (go_at_call 33; refine (HPX.out _ _ _ HI0.out _ ?_).mono ?_; (first | exact Or.inl rfl | exact Or.inr rfl); rintro e w' ⟨rfl, h⟩; have h3 := h.symm; clear h; subst h3) | (go_at_call 35; refine (HM.out _ HI0.out).mono ?_; rintro e w1 ⟨rfl, HI1⟩; have HS1 := Vx.hid (HCE.out _ _ _ HI1.out)))
  all_goals
    go_wp2_with fail
    have HI2 := Vx.hid HI1.out.drew
    have HS2 := Vx.hid (HCE.out _ _ _ HI2.out)
    go_region_held3 (fun wv => wv.cell? ⟨sb, 0, none⟩ = some (.pointer (some ⟨bm, 0, none⟩)) ∧ wv.cell? ⟨sb, 1, none⟩ = some (.pointer (some ⟨br, 0, none⟩)) ∧ wv.cell? ⟨ob, 1, none⟩ = some (.int .i64 A) ∧ wv.cell? ⟨ob, 2, none⟩ = some (.int .i64 B) ∧ wv.cell? ⟨ob, 5, none⟩ = some (.string p)) (first | exact HS2.out | exact HS3.out) (first | (go_at_call 33; refine (HPX.out _ _ _ HI2.out _ ?_).mono ?_; (first | exact Or.inl rfl | exact Or.inr rfl); rintro e w' ⟨rfl, h⟩; have h3 := h.symm; clear h; subst h3) | (go_at_call 36; refine (HR.out _ HI2.out).mono ?_; rintro e w2 ⟨rfl, HI3⟩; have HS3 := Vx.hid (HCE.out _ _ _ HI3.out)))
    all_goals
      go_wp2_with fail
      all_goals
        go_ret
        exact ⟨rfl, HFIN.out _ _ HI3.out⟩
end Go.Proofs.YtflmobffeeocdaaGreatDoor

/- The relation of a script's loop. -/
namespace Go.Proofs.YtflmobffeeocdaaGreatDoor
open Go.ChangeShapes Go.WideShapes Go.ChangeAt Go.RowKit
open Go.Vx

theorem moves_any {U : Nat → Prop} {w : World} {sb bm br bb n : Nat} {f : Nat → UInt8} (h : StAt U w sb bm br bb n f f) (K A B C D : Int) (hK : K ≤ 7) (hA : I64 A) (hB : I64 B) (s : List UInt8) (hs : s.length ≤ 9223372036854775807) :
    Calls Tryz.prog 12 #[.pointer (some ⟨sb, 0, none⟩), .agg (opv K A B C D ⟨s.toArray⟩)] w fun e w' => e = .returned (.bool true) ∧ MvR U w sb bm br bb n w' := by
  have hc : K < 2 ∨ K = 2 ∨ K = 3 ∨ K = 4 ∨ K = 5 ∨ K = 6 ∨ K = 7 := by omega
  rcases hc with hc | rfl | rfl | rfl | rfl | rfl | rfl
  · exact moves_other h K A B C D (Or.inl hc) s
  · exact moves_read h A B C D hA hB s hs
  · exact moves_write h A B C D hA hB s hs
  · exact moves_word h A B C D hA hB s hs
  · exact moves_set h A B C D hA hB s hs
  · exact moves_zero h A B C D hA hB s hs
  · exact moves_same h A B C D hA hB s hs
/-- The blocks of a memory of three pages. -/
def OwnM (bz bpz : Nat) (qz : Nat → Option Nat) (k : Nat) : Prop := k = bz ∨ k = bpz ∨ ∃ i, i < 3 ∧ qz i = some k
theorem MemIs.keep {U : Nat → Prop} {w w' : World} {bz bpz : Nat} {qz : Nat → Option Nat} {f : Nat → UInt8} (h : MemIs U w bz bpz 3 qz f) (hs : w.heap.size ≤ w'.heap.size) (hk : ∀ k, OwnM bz bpz qz k → w'.heap[k]? = w.heap[k]?) : MemIs U w' bz bpz 3 qz f :=
  ⟨h.pos, h.top, by rw [hk _ (Or.inl rfl)]; exact h.m, by rw [hk _ (Or.inr (Or.inl rfl))]; exact h.p, h.nil, fun i hi b hb => by rw [hk b (Or.inr (Or.inr ⟨i, hi, hb⟩))]; exact h.pg i hi b hb, h.inj, h.um, h.up, h.ug, fun k hu => Nat.lt_of_lt_of_le (h.low k hu) hs⟩
theorem MemIs.own_lt {U : Nat → Prop} {w : World} {bz bpz : Nat} {qz : Nat → Option Nat} {f : Nat → UInt8} (h : MemIs U w bz bpz 3 qz f) {k : Nat} (hk : OwnM bz bpz qz k) : k < w.heap.size := by
  rcases hk with rfl | rfl | ⟨i, hi, hq⟩
  · exact lt_of_some h.m
  · exact lt_of_some h.p
  · exact lt_of_some (h.pg i hi k hq)
theorem MemIs.own_out {U : Nat → Prop} {w : World} {bz bpz : Nat} {qz : Nat → Option Nat} {f : Nat → UInt8} (h : MemIs U w bz bpz 3 qz f) {k : Nat} (hk : OwnM bz bpz qz k) : ¬ U k := by
  rcases hk with rfl | rfl | ⟨i, hi, hq⟩
  · exact h.um
  · exact h.up
  · exact h.ug i k hi hq
/-- What a script's step may not touch. -/
def BaseU (W : World) (sb bz bpz : Nat) (qz : Nat → Option Nat) (k : Nat) : Prop := k < W.heap.size ∨ k = sb ∨ OwnM bz bpz qz k
structure ScR (W : World) (sb bz bpz : Nat) (qz : Nat → Option Nat) (fz : Nat → UInt8) (wr : World) : Prop where
  ex : ∃ Uc bm br bb n f, StAt Uc wr sb bm br bb n f f ∧ (∀ k, BaseU W sb bz bpz qz k → Uc k) ∧ ¬ BaseU W sb bz bpz qz bb
  sat : SbAt wr sb
  z : MemIs (fun _ => False) wr bz bpz 3 qz fz
  be : Below W.heap.size W wr
  wsb : W.heap.size ≤ sb
  nz : ¬ OwnM bz bpz qz sb
theorem ScR.quiet {W : World} {sb bz bpz : Nat} {qz : Nat → Option Nat} {fz : Nat → UInt8} {wr wx : World} (h : ScR W sb bz bpz qz fz wr) (ho : Only (fun _ => False) wr wx) : ScR W sb bz bpz qz fz wx := by
  obtain ⟨Uc, bm, br, bb, n, f, h1, h2, h3⟩ := h.ex
  exact ⟨⟨Uc, bm, br, bb, n, f, h1.only ho, h2, h3⟩, h.sat.only ho (fun h => h), h.z.keep ho.size (fun k hk => ho.block k (h.z.own_lt hk) (fun h => h)), h.be.trans (ho.below h.be.size (fun _ _ h => h)), h.wsb, h.nz⟩
/-- A step that keeps the base. -/
theorem ScR.step {W : World} {sb bz bpz : Nat} {qz : Nat → Option Nat} {fz : Nat → UInt8} {wr wx : World} (h : ScR W sb bz bpz qz fz wr) {S : Nat → Prop} (ho : Only S wr wx) (hS : ∀ k, BaseU W sb bz bpz qz k → S k → k = sb) (hsb : SbAt wx sb) (hex : ∃ Uc bm br bb n f, StAt Uc wx sb bm br bb n f f ∧ (∀ k, BaseU W sb bz bpz qz k → Uc k) ∧ ¬ BaseU W sb bz bpz qz bb) : ScR W sb bz bpz qz fz wx := by
  refine ⟨hex, hsb, h.z.keep ho.size (fun k hk => ho.block k (h.z.own_lt hk) (fun hs => ?_)), h.be.trans (ho.below h.be.size (fun k hk hs => ?_)), h.wsb, h.nz⟩
  · have := hS k (Or.inr (Or.inr hk)) hs
    subst this
    exact h.nz hk
  · have := hS k (Or.inl hk) hs
    have := h.wsb
    omega
theorem ScR.moved {W : World} {sb bz bpz : Nat} {qz : Nat → Option Nat} {fz : Nat → UInt8} {wr wx : World} (h : ScR W sb bz bpz qz fz wr) {Uc : Nat → Prop} {bm br bb n : Nat} (h2 : ∀ k, BaseU W sb bz bpz qz k → Uc k) (h3 : ¬ BaseU W sb bz bpz qz bb) (hm : MvR Uc wr sb bm br bb n wx) : ScR W sb bz bpz qz fz wx := by
  obtain ⟨⟨f, hst⟩, ho⟩ := hm
  have hS : ∀ k, BaseU W sb bz bpz qz k → (¬ Uc k ∨ k = bb) → k = sb := fun k hk hs => by
    rcases hs with hs | hs
    · exact absurd (h2 k hk) hs
    · subst hs; exact absurd hk h3
  refine h.step ho hS (h.sat.only ho (fun hs => ?_)) ⟨Uc, bm, br, bb, n, f, hst, h2, h3⟩
  rcases hs with hs | hs
  · exact hs (h2 sb (Or.inr (Or.inl rfl)))
  · exact h3 (by rw [← hs]; exact Or.inr (Or.inl rfl))
theorem ScR.begun {W : World} {sb bz bpz : Nat} {qz : Nat → Option Nat} {fz : Nat → UInt8} {wr wx : World} (h : ScR W sb bz bpz qz fz wr) {n : Nat} (hb : BgR (BaseU W sb bz bpz qz) wr sb n wx) : ScR W sb bz bpz qz fz wx := by
  obtain ⟨bm, br, bb, h1, h2, hst, hsb, ho⟩ := hb
  refine h.step ho (fun k _ hs => hs) hsb ⟨_, bm, br, bb, n, _, hst, fun k hk => Or.inl (Or.inl hk), fun hk => ?_⟩
  rcases hk with hk | hk | hk
  · have := h.be.size
    omega
  · have := h.sat.lt
    omega
  · have := h.z.own_lt hk
    omega
theorem ScR.base {W : World} {sb bz bpz : Nat} {qz : Nat → Option Nat} {fz : Nat → UInt8} {wr : World} (h : ScR W sb bz bpz qz fz wr) : ∀ k, BaseU W sb bz bpz qz k → k < wr.heap.size := fun k hk => by
  rcases hk with hk | hk | hk
  · exact Nat.lt_of_lt_of_le hk h.be.size
  · rw [hk]; exact h.sat.lt
  · exact h.z.own_lt hk
theorem ScR.reads {W : World} {sb bz bpz : Nat} {qz : Nat → Option Nat} {fz : Nat → UInt8} {wr : World} (h : ScR W sb bz bpz qz fz wr) :
    Calls Tryz.prog 15 #[.pointer (some ⟨sb, 68, none⟩)] wr fun e w' => e = .returned (.bool true) ∧ w' = wr := reads_ok h.sat.bk
/-- The three that stand ahead of the loop. -/
theorem ScR.start {W w1 w2 w3 : World} {sb bz bpz : Nat} {qz : Nat → Option Nat} {fz : Nat → UInt8} (hw : W.heap.size ≤ sb) (h0 : ∃ w0, Only (fun _ => False) W w0 ∧ w0.heap.size = sb + 1 ∧ BgR (fun k => k < W.heap.size ∨ k = sb) w0 sb 4 w1)
    (ho2 : Only (fun _ => False) w1 w2) (ho3 : Only (fun k => ¬ k < w1.heap.size) w2 w3) (hz : MemIs (fun k => k < w1.heap.size) w3 bz bpz 3 qz fz) : ScR W sb bz bpz qz fz w3 := by
  obtain ⟨w0, hW, hs0, bm, br, bb, hb1, hb2, hst, hsb, ho1⟩ := h0
  have hz' : MemIs (fun _ => False) w3 bz bpz 3 qz fz := ⟨hz.pos, hz.top, hz.m, hz.p, hz.nil, hz.pg, hz.inj, fun h => h, fun h => h, fun _ _ _ _ h => h, fun _ h => h.elim⟩
  have hout : ∀ k, OwnM bz bpz qz k → w1.heap.size ≤ k := fun k hk => by have := hz.own_out hk; omega
  have hbel : Below w1.heap.size w1 w3 := (ho2.below (Nat.le_refl _) (fun _ _ h => h)).trans (ho3.below ho2.size (fun k hk hn => hn hk))
  have hsl := hsb.lt
  have hbb : bb < w1.heap.size := lt_of_some hst.r.b
  have hbr : br < w1.heap.size := lt_of_some hst.r.r
  have hc : ∀ b j, b < w1.heap.size → w3.cell? ⟨b, j, none⟩ = w1.cell? ⟨b, j, none⟩ := fun b j hb => hbel.cell (p := ⟨b, j, none⟩) hb
  obtain ⟨bp, q, hm⟩ := hst.m
  have hk : ∀ b o, w1.heap[b]? = some o → w3.heap[b]? = some o := fun b o hb => by rw [hbel.block b (lt_of_some hb)]; exact hb
  have hu : ∀ b o, w1.heap[b]? = some o → ¬ ((((b < W.heap.size ∨ b = sb) ∨ b = bb) ∨ b = br)) → ¬ ((((b < W.heap.size ∨ b = sb) ∨ b = bb) ∨ b = br) ∨ OwnM bz bpz qz b) := fun b o hb hn h => by
    rcases h with h | h
    · exact hn h
    · have := hout b h
      have := lt_of_some hb
      omega
  refine ⟨⟨fun k => (((k < W.heap.size ∨ k = sb) ∨ k = bb) ∨ k = br) ∨ OwnM bz bpz qz k, bm, br, bb, 4, fun _ => 0, ⟨?_, ?_, Nat.lt_of_lt_of_le hsl hbel.size, ?_, ?_, Or.inl (Or.inl (Or.inl (Or.inr rfl))), Or.inl (Or.inr rfl), Or.inl (Or.inl (Or.inr rfl)), hst.ne⟩, ?_, ?_⟩, ?_, hz', ?_, hw, ?_⟩
  · rw [hc sb 0 hsl]; exact hst.c0
  · rw [hc sb 1 hsl]; exact hst.c1
  · exact ⟨bp, q, hm.pos, hm.top, hk _ _ hm.m, hk _ _ hm.p, hm.nil, fun i hi b hb => hk _ _ (hm.pg i hi b hb), hm.inj, hu _ _ hm.m hm.um, hu _ _ hm.p hm.up, fun i b hi hb => hu _ _ (hm.pg i hi b hb) (hm.ug i b hi hb), fun k hk => by
      rcases hk with hk | hk
      · exact Nat.lt_of_lt_of_le (hm.low k hk) hbel.size
      · exact hz.own_lt hk⟩
  · exact ⟨hst.r.pos, hst.r.top, hk _ _ hst.r.r, hk _ _ hst.r.b⟩
  · intro k hk
    rcases hk with hk | hk | hk
    · exact Or.inl (Or.inl (Or.inl (Or.inl hk)))
    · exact Or.inl (Or.inl (Or.inl (Or.inr hk)))
    · exact Or.inr hk
  · intro hk
    rcases hk with hk | hk | hk
    · have := hW.size
      omega
    · omega
    · have := hout bb hk
      omega
  · obtain ⟨cs, h1, h2, h3⟩ := hsb
    exact ⟨cs, hk _ _ h1, h2, h3⟩
  · have hW1 : Below W.heap.size W w1 := (hW.below (Nat.le_refl _) (fun _ _ h => h)).trans (ho1.below hW.size (fun k hk hs => by omega))
    exact hW1.trans (hbel.mono hW1.size)
  · intro hk
    have := hout sb hk
    omega
end Go.Proofs.YtflmobffeeocdaaGreatDoor

/- The walk of a script. -/
namespace Go.Proofs.YtflmobffeeocdaaGreatDoor
open Go.ChangeShapes Go.WideShapes Go.ChangeAt Go.RowKit
open Go.Vx

/-- A step of a script. -/
structure Stp where
  k : Int
  a : Int
  b : Int
  c : Int
  d : Int
  s : List UInt8
def Stp.ok (z : Stp) : Prop := I64 z.k ∧ I64 z.a ∧ I64 z.b ∧ I64 z.c ∧ I64 z.d ∧ z.s.length ≤ 9223372036854775807
/-- A script, where it lies. -/
def ScAt (w : World) (pa : Option Addr) (zs : List Stp) : Prop :=
  zs = [] ∨ ∃ ab ao, pa = some ⟨ab, ao, none⟩ ∧ ∀ (j : Nat) (h : j < zs.length), w.cell? ⟨ab, ao + j * 6, none⟩ = some (.int .i64 (zs[j]).k) ∧ w.cell? ⟨ab, ao + j * 6 + 1, none⟩ = some (.int .i64 (zs[j]).a) ∧ w.cell? ⟨ab, ao + j * 6 + 2, none⟩ = some (.int .i64 (zs[j]).b) ∧ w.cell? ⟨ab, ao + j * 6 + 3, none⟩ = some (.int .i64 (zs[j]).c) ∧ w.cell? ⟨ab, ao + j * 6 + 4, none⟩ = some (.int .i64 (zs[j]).d) ∧ w.cell? ⟨ab, ao + j * 6 + 5, none⟩ = some (.string ⟨(zs[j]).s.toArray⟩)
/-- What spaces is asked for here. -/
def SpC (l : Int) (W : World) : Prop := l = 8 → ∀ (wr : World) (U : Nat → Prop) (sb bm br bb n : Nat) (f : Nat → UInt8), Below W.heap.size W wr → StAt U wr sb bm br bb n f f → ∀ z : Stp, z.ok → z.k = 8 →
  Calls Tryz.prog 13 #[.pointer (some ⟨sb, 0, none⟩), .agg (opv 8 z.a z.b z.c z.d ⟨z.s.toArray⟩)] wr fun e w' => e = .returned (.bool true) ∧ MvR U wr sb bm br bb n w'
/-- An empty store. -/
def storeZ (P : Program) : Array Value := match P.info? 44 with | some i => (match i.zero with | some (.agg z) => z | _ => #[]) | none => #[]
theorem storeZ_info : (Tryz.prog.info? 44).map (fun i => (i.zero, i.size)) = some (some (.agg (storeZ Tryz.prog)), 74) := by kernel_rfl
theorem storeZ_size : (storeZ Tryz.prog).size = 74 := by kernel_rfl
theorem storeZ_68 : (storeZ Tryz.prog)[68]? = some (.slice none 0 0) := by kernel_rfl
theorem storeZ_69 : (storeZ Tryz.prog)[69]? = some (.slice none 0 0) := by kernel_rfl
theorem storeZ_70 : (storeZ Tryz.prog)[70]? = some (.slice none 0 0) := by kernel_rfl
theorem storeZ_71 : (storeZ Tryz.prog)[71]? = some (.slice none 0 0) := by kernel_rfl
theorem storeZ_72 : (storeZ Tryz.prog)[72]? = some (.slice none 0 0) := by kernel_rfl
theorem storeZ_73 : (storeZ Tryz.prog)[73]? = some (.slice none 0 0) := by kernel_rfl
theorem word77 : wordF (putF (fun _ => 0) 4 (fourB 77)) 4 = 77 := by decide +kernel
end Go.Proofs.YtflmobffeeocdaaGreatDoor

/- Small facts of the program and of values. -/
namespace Go.Proofs.YtflmobffeeocdaaGreatDoor
open Go.ChangeShapes Go.WideShapes Go.ChangeAt Go.RowKit Go.Deep
open Go.Vx

theorem own : ownKnob Tryz.prog.godebug = none := by kernel_rfl
theorem laidOut : laidOutB Tryz.prog = true := by kernel_rfl
theorem cInt : Tryz.prog.cellsOf 3 = 1 := by kernel_rfl
theorem cStr : Tryz.prog.cellsOf 9 = 1 := by kernel_rfl
def numOf : Value → Int
  | .int _ n => n
  | _ => 0
def strOf : Value → List UInt8
  | .string s => s.data.toList
  | _ => []
end Go.Proofs.YtflmobffeeocdaaGreatDoor

/- From the tied condition to the table of uses; the door's heap has it. -/
namespace Go.Proofs.YtflmobffeeocdaaGreatDoor
open Go.ChangeShapes Go.WideShapes Go.ChangeAt Go.RowKit Go.Deep
open Go.Vx

theorem gUses : Tryz.prog.globalNamed "vault/mmu.uses" = some 0 := by kernel_rfl
theorem tUses : (Tryz.prog.globals[0]?).map (·.type) = some 111 := by kernel_rfl
theorem cUse : Tryz.prog.cellsOf 110 = 3 := by kernel_rfl
theorem cU32 : Tryz.prog.cellsOf 28 = 1 := by kernel_rfl
theorem uses_datum : (Rows.laid_vault_mmu_uses : DataW Unit) = .agg ((List.range 3).map fun i => .agg [.lit (.int .u32 (needN i : Nat)), .lit (.int .i64 (pageC i : Nat)), .lit (.int .i64 (accC i : Nat))]) := by kernel_rfl
theorem uses_cells {W : World} {fuel : Nat} {sp : Nat → Bool} {enc : TypeId × Value → Unit} {base : Nat} {held : Bool} {cs : Array Value} {q : List MemPlace}
    (h : DataW.trod enc Tryz.prog W base sp held fuel 111 cs.toList = some (Rows.laid_vault_mmu_uses, q)) (i : Nat) (hi : i < 3) :
    cs[i * 3]? = some (.int .u32 (needN i : Nat)) ∧ cs[i * 3 + 1]? = some (.int .i64 (pageC i : Nat)) ∧ cs[i * 3 + 2]? = some (.int .i64 (accC i : Nat)) := by
  obtain ⟨xs, m, _, hx, _, hlen, hel⟩ := DataW.trod_array Tryz.underlying111 h
  rw [uses_datum] at hx
  simp only [Prod.mk.injEq, DataW.agg.injEq] at hx
  have hy := hel i hi
  have hd : (xs.map (·.1))[i]? = some (.agg [.lit (.int .u32 (needN i : Nat)), .lit (.int .i64 (pageC i : Nat)), .lit (.int .i64 (accC i : Nat))]) := by
    rw [← hx.1, List.getElem?_map, List.getElem?_range hi]
    rfl
  rw [List.getElem?_map] at hd
  rw [List.getElem?_eq_getElem (by omega)] at hy hd
  simp only [Option.map_some, Option.some.injEq] at hd
  generalize xs[i] = y at hy hd
  rw [cUse] at hy
  obtain ⟨y0, y1, y2, n, hyy, _, e0, e1, e2⟩ := trod_struct3 Tryz.underlying110 hy
  subst hyy
  simp only [DataW.agg.injEq, List.cons.injEq, and_true] at hd
  obtain ⟨d0, d1, d2⟩ := hd
  simp only [cU32, cInt] at e0 e1 e2
  obtain ⟨a, ea, rfl, _⟩ := DataW.trod_int Tryz.underlying28 e0
  obtain ⟨b, eb, rfl, _⟩ := DataW.trod_int Tryz.underlying3 e1
  obtain ⟨c, ec, rfl, _⟩ := DataW.trod_int Tryz.underlying3 e2
  simp only [DataW.lit.injEq, Lit.int.injEq, true_and] at d0 d1 d2
  subst d0 d1 d2
  refine ⟨?_, ?_, ?_⟩
  · have := congrArg (·[0]?) ea
    simpa [List.getElem?_take, List.getElem?_drop] using this
  · have := congrArg (·[0]?) eb
    simpa [List.getElem?_take, List.getElem?_drop] using this
  · have := congrArg (·[0]?) ec
    simpa [List.getElem?_take, List.getElem?_drop] using this
/-- The three listed tables. -/
abbrev laid3 : List (String × DataW Unit) := [("vault/mmu.uses", Rows.laid_vault_mmu_uses), ("vault/isa.forms", Rows.laid_vault_isa_forms), ("vault/hart.misaligned", Rows.laid_vault_hart_misaligned)]
/-- The first of them. -/
theorem usesAt_of_laid3 {W : World} (h : laidMetH Tryz.prog laid3 W) : UsesAt W := by
  rw [MakeChecks.laidMetH_plain _ _ _ (by kernel_rfl)] at h
  obtain ⟨ps, ⟨g0, t0, cs0, f0, p0, q0, hg0, ht0, hv0, hd0, _⟩, _⟩ := h
  obtain rfl := Option.some.inj (gUses.symm.trans hg0)
  obtain rfl := Option.some.inj (tUses.symm.trans ht0)
  have hc := World.var?_cell gUses hv0
  intro u hu
  rw [hc, hc, hc]
  exact uses_cells hd0 u hu
/-- The door's own heap meets the condition on the three. -/
theorem laid3_met (os : Os) (args : Array Value) : laidMetH Tryz.prog laid3 ((World.doorLaid Tryz.prog 400 os).forCall (fun _ _ => 0) ⟨#[], args, []⟩).memory :=
  laidMetH_of_parts3 (fuel := 8) (laidMet_of_run' 8 (by kernel_rfl) (by kernel_rfl)) (by kernel_rfl) (by kernel_rfl)
end Go.Proofs.YtflmobffeeocdaaGreatDoor

/- A script as an argument. -/
namespace Go.Proofs.YtflmobffeeocdaaGreatDoor
open Go.ChangeShapes Go.WideShapes Go.ChangeAt Go.RowKit Go.Deep
open Go.Vx

theorem six_of {α : Type} : ∀ (l : List α), l.length = 6 → ∃ a b c d e f, l = [a, b, c, d, e, f]
  | [a, b, c, d, e, f], _ => ⟨a, b, c, d, e, f, rfl⟩
  | [], h => by simp at h
  | [_], h => by simp at h
  | [_, _], h => by simp at h
  | [_, _, _], h => by simp at h
  | [_, _, _, _], h => by simp at h
  | [_, _, _, _, _], h => by simp at h
  | _ :: _ :: _ :: _ :: _ :: _ :: _ :: _, h => by simp at h
theorem cOp : Tryz.prog.cellsOf 51 = 6 := by kernel_rfl
theorem open_ops {H : Type} {enc : TypeId × Value → H} {W : World} {a0 : Option Addr} {len cap fuel : Nat} {x : DataW H × List MemPlace} (hf : DataW.trod enc Tryz.prog W 0 (fun _ => true) true fuel 22 (Value.slice a0 len cap).cells.toList = some x) :
    ∃ zs : List Stp, zs.length = len ∧ len ≤ cap ∧ cap ≤ maxLen ∧ ScAt W a0 zs ∧ ∀ z ∈ zs, z.ok := by
  rcases open_slice Tryz.underlying22 hf with ⟨hc, _⟩ | ⟨a, len', cap', m, n, D, Pl, hc, _, hl, hm, hmm, _, hx⟩
  · simp [Value.cells] at hc
    obtain ⟨rfl, rfl, rfl⟩ := hc
    exact ⟨[], rfl, Nat.le_refl _, by decide, Or.inl rfl, by simp⟩
  · simp [Value.cells] at hc
    obtain ⟨rfl, rfl, rfl⟩ := hc
    simp only [if_true] at hmm
    subst hmm
    have each : ∀ i, i < m → ∃ z : Stp, z.ok ∧ W.cell? (a.add (i * 6)) = some (.int .i64 z.k) ∧ W.cell? (a.add (i * 6 + 1)) = some (.int .i64 z.a) ∧ W.cell? (a.add (i * 6 + 2)) = some (.int .i64 z.b) ∧ W.cell? (a.add (i * 6 + 3)) = some (.int .i64 z.c) ∧ W.cell? (a.add (i * 6 + 4)) = some (.int .i64 z.d) ∧ W.cell? (a.add (i * 6 + 5)) = some (.string ⟨z.s.toArray⟩) := by
      intro i hi
      obtain ⟨cs', h1, h2⟩ := hx i hi
      rw [cOp] at h1
      obtain ⟨_, hlen, hcell⟩ := World.cells?_some h1
      obtain ⟨xs, k, hk, hxy, _, hxl, hfld⟩ := DataW.trod_struct Tryz.underlying51 h2
      obtain ⟨y0, y1, y2, y3, y4, y5, rfl⟩ := six_of xs hxl
      obtain ⟨v0, v1, v2, v3, v4, v5, rfl⟩ := six_of cs' hlen
      have g0 := hfld 0 _ rfl
      have g1 := hfld 1 _ rfl
      have g2 := hfld 2 _ rfl
      have g3 := hfld 3 _ rfl
      have g4 := hfld 4 _ rfl
      have g5 := hfld 5 _ rfl
      simp [cInt, cStr] at g0 g1 g2 g3 g4 g5
      obtain ⟨n0, q0, _, b0⟩ := DataW.trod_int Tryz.underlying3 g0
      obtain ⟨n1, q1, _, b1⟩ := DataW.trod_int Tryz.underlying3 g1
      obtain ⟨n2, q2, _, b2⟩ := DataW.trod_int Tryz.underlying3 g2
      obtain ⟨n3, q3, _, b3⟩ := DataW.trod_int Tryz.underlying3 g3
      obtain ⟨n4, q4, _, b4⟩ := DataW.trod_int Tryz.underlying3 g4
      obtain ⟨t, q5, _, b5⟩ := DataW.trod_string Tryz.underlying9 g5
      simp only [List.cons.injEq, and_true] at q0 q1 q2 q3 q4 q5
      subst q0 q1 q2 q3 q4 q5
      have e0 := hcell 0 (by decide)
      have e1 := hcell 1 (by decide)
      have e2 := hcell 2 (by decide)
      have e3 := hcell 3 (by decide)
      have e4 := hcell 4 (by decide)
      have e5 := hcell 5 (by decide)
      rw [add_add] at e0 e1 e2 e3 e4 e5
      refine ⟨⟨n0, n1, n2, n3, n4, t.data.toList⟩, ⟨bounds_i64 b0, bounds_i64 b1, bounds_i64 b2, bounds_i64 b3, bounds_i64 b4, ?_⟩, by simpa using e0, by simpa using e1, by simpa using e2, by simpa using e3, by simpa using e4, ?_⟩
      · show t.data.toList.length ≤ 9223372036854775807
        rw [Array.length_toList]
        exact b5
      · rw [show (⟨t.data.toList.toArray⟩ : ByteArray) = t by simp only [Array.toArray_toList]]
        simpa using e5
    haveI : Inhabited Stp := ⟨⟨0, 0, 0, 0, 0, []⟩⟩
    obtain ⟨Z, hZ⟩ := choose_lt each
    refine ⟨(List.range len).map Z, by simp, hl, hm, ?_, ?_⟩
    · by_cases hz : len = 0
      · subst hz
        exact Or.inl rfl
      · right
        obtain ⟨ab, ao, sp⟩ := a
        have hspot : sp = none := by simpa [Addr.add] using World.cell?_spot (hZ 0 (by omega)).2.1
        subst hspot
        refine ⟨ab, ao, rfl, fun j hj => ?_⟩
        have hj' : j < len := by simpa using hj
        have hh := (hZ j (by omega)).2
        simp only [addr_add, ← Nat.add_assoc] at hh
        simp only [List.getElem_map, List.getElem_range]
        exact hh
    · intro z hz
      simp only [List.mem_map, List.mem_range] at hz
      obtain ⟨i, hi, rfl⟩ := hz
      exact (hZ i (by omega)).1
end Go.Proofs.YtflmobffeeocdaaGreatDoor

/- Walks of the scripts: a step that does nothing; the books; whole. -/
import Derived.Test.YtflmobffeeocdaaGreatDoorV2
namespace Go.Proofs.YtflmobffeeocdaaGreatDoor
open Go.ChangeShapes Go.WideShapes Go.ChangeAt Go.RowKit
open Go.Vx

set_option maxRecDepth 100000 in
set_option maxHeartbeats 4000000 in
theorem moves_other {U : Nat → Prop} {w : World} {sb bm br bb n : Nat} {f : Nat → UInt8} (h : StAt U w sb bm br bb n f f) (K A B C D : Int) (hK : K < 2 ∨ 7 < K) (s : List UInt8) :
    Calls Tryz.prog 12 #[.pointer (some ⟨sb, 0, none⟩), .agg (opv K A B C D ⟨s.toArray⟩)] w fun e w' => e = .returned (.bool true) ∧ MvR U w sb bm br bb n w' := by
  have HB0 := Vx.hid (MvI.begin h K A B C D s).fin
  obtain ⟨p, hp⟩ : ∃ p : ByteArray, p = ⟨s.toArray⟩ := ⟨_, rfl⟩
  rw [← hp] at HB0 ⊢
  have k2 : ¬ K = 2 := by omega
  have k3 : ¬ K = 3 := by omega
  have k4 : ¬ K = 4 := by omega
  have k5 : ¬ K = 5 := by omega
  have k6 : ¬ K = 6 := by omega
  have k7 : ¬ K = 7 := by omega
  clear h hp hK
  unfold opv at *
  go_enter Tryz.func12, Tryz.ntmps12
  go_wp2_with fail
  all_goals
    go_ret
    exact ⟨rfl, HB0.out⟩
/-- The books, empty. -/
structure BkAt (w : World) (sb : Nat) : Prop where
  b0 : w.cell? ⟨sb, 68, none⟩ = some (.slice none 0 0)
  b1 : w.cell? ⟨sb, 69, none⟩ = some (.slice none 0 0)
  b2 : w.cell? ⟨sb, 70, none⟩ = some (.slice none 0 0)
  b3 : w.cell? ⟨sb, 71, none⟩ = some (.slice none 0 0)
  b4 : w.cell? ⟨sb, 72, none⟩ = some (.slice none 0 0)
  b5 : w.cell? ⟨sb, 73, none⟩ = some (.slice none 0 0)
theorem BkAt.only {S : Nat → Prop} {w w' : World} {sb : Nat} (h : BkAt w sb) (ho : Only S w w') (hS : ¬ S sb) : BkAt w' sb := by
  have hl : sb < w.heap.size := World.block_lt_of_cell? w ⟨sb, 68, none⟩ h.b0
  have e : ∀ j, w'.cell? ⟨sb, j, none⟩ = w.cell? ⟨sb, j, none⟩ := fun j => ho.cell (p := ⟨sb, j, none⟩) hl hS
  exact ⟨by rw [e]; exact h.b0, by rw [e]; exact h.b1, by rw [e]; exact h.b2, by rw [e]; exact h.b3, by rw [e]; exact h.b4, by rw [e]; exact h.b5⟩
theorem BkAt.set {w : World} {sb j : Nat} (h : BkAt w sb) (hj : j < 68) (v : Value) : BkAt (w.setCell ⟨sb, j, none⟩ v) sb := by
  have e : ∀ i, 68 ≤ i → (w.setCell ⟨sb, j, none⟩ v).cell? ⟨sb, i, none⟩ = w.cell? ⟨sb, i, none⟩ := fun i hi =>
    World.cell?_setCell_other _ _ _ _ (by intro e; injection e with _ e2; omega)
  exact ⟨by rw [e _ (by decide)]; exact h.b0, by rw [e _ (by decide)]; exact h.b1, by rw [e _ (by decide)]; exact h.b2, by rw [e _ (by decide)]; exact h.b3, by rw [e _ (by decide)]; exact h.b4, by rw [e _ (by decide)]; exact h.b5⟩
theorem readsMore_ok {w : World} {sb : Nat} (h : BkAt w sb) :
    Calls Tryz.prog 56 #[.pointer (some ⟨sb, 68, none⟩)] w fun e w' => e = .returned (.bool true) ∧ w' = w := by
  have h3 := h.b3
  have h4 := h.b4
  have h5 := h.b5
  clear h
  go_enter Tryz.func56, Tryz.ntmps56
  go_wp2_with fail
  go_loopw [3] (fun i wr => i = .int .i64 0 ∧ wr = w) (fun _ _ => 0)
  case atStart => exact ⟨rfl, rfl⟩
  case round =>
    obtain ⟨rfl, rfl⟩ := hrel
    go_wp2_with fail
    go_loopw [5] (fun i wx => i = .int .i64 0 ∧ wx = wr) (fun _ _ => 0)
    case atStart => exact ⟨rfl, rfl⟩
    case round =>
      obtain ⟨rfl, rfl⟩ := hrel
      go_wp2_with fail
      go_loopw [7] (fun i wx => i = .int .i64 0 ∧ wx = wr) (fun _ _ => 0)
      case atStart => exact ⟨rfl, rfl⟩
      case round =>
        obtain ⟨rfl, rfl⟩ := hrel
        go_wp2_with fail
        all_goals
          go_ret
          exact ⟨rfl, rfl⟩
theorem reads_ok {w : World} {sb : Nat} (h : BkAt w sb) :
    Calls Tryz.prog 15 #[.pointer (some ⟨sb, 68, none⟩)] w fun e w' => e = .returned (.bool true) ∧ w' = w := by
  have h3 := h.b0
  have h4 := h.b1
  have h5 := h.b2
  have HM := Vx.hid (readsMore_ok h)
  clear h
  go_enter Tryz.func15, Tryz.ntmps15
  go_wp2_with fail
  go_loopw [3] (fun i wr => i = .int .i64 0 ∧ wr = w) (fun _ _ => 0)
  case atStart => exact ⟨rfl, rfl⟩
  case round =>
    obtain ⟨rfl, rfl⟩ := hrel
    go_wp2_with fail
    go_loopw [5] (fun i wx => i = .int .i64 0 ∧ wx = wr) (fun _ _ => 0)
    case atStart => exact ⟨rfl, rfl⟩
    case round =>
      obtain ⟨rfl, rfl⟩ := hrel
      go_wp2_with fail
      go_loopw [7] (fun i wx => i = .int .i64 0 ∧ wx = wr) (fun _ _ => 0)
      case atStart => exact ⟨rfl, rfl⟩
      case round =>
        obtain ⟨rfl, rfl⟩ := hrel
        go_wp2_with fail
        refine HM.out.mono ?_
        rintro e w' ⟨rfl, h⟩
        have h2 := h.symm; clear h; subst h2
        go_wp2_with fail
        all_goals
          go_ret
          exact ⟨rfl, rfl⟩
end Go.Proofs.YtflmobffeeocdaaGreatDoor

/- Walks of VspaceWalks: reached. -/
import Derived.Test.YthcngafjklihcaaDoorJ1
namespace Go.Proofs.YthcngafjklihcaaDoor
open Go.ChangeShapes Go.WideShapes Go.ChangeAt Go.RowKit
open Go.Vx

theorem mayU_false {u r : Nat} (hu : u = 0 ∨ u = 1 ∨ u = 2) (hr : r = 0 ∨ r = 1 ∨ r = 3 ∨ r = 4 ∨ r = 5 ∨ r = 7) : bits .and .i64 (r : Int) (rgtN u : Nat) = if mayU u r = true then ((rgtN u : Nat) : Int) else 0 := by
  rcases hu with rfl | rfl | rfl <;> rcases hr with rfl | rfl | rfl | rfl | rfl | rfl <;> decide
theorem reached_any {U : Nat → Prop} {w : World} {bm : Nat} {H : Nat → Nat × Nat} (h : MemAt U w bm 12 (laidF H)) (hus : UsesAt w) (v o u : Nat) (hv : v < 12) (ho : o < 4096) (hu : u < 3) (hok : okE (H v)) (x : Int) :
    Calls Tryd.prog 10 #[.pointer (some ⟨bm, 0, none⟩), .agg #[.int .i64 x, .int .i64 ((H v).1 : Nat), .int .i64 ((H v).2 : Nat)], .int .i64 ((4096 * v + o : Nat) : Int), .int .i64 (u : Int), .int .i64 (rgtN u : Nat), .int .i64 (pageC u : Nat)] w fun e w' => e = .returned (.bool true) ∧ Only (fun _ => False) w w' := by
  have HM := Vx.hid h
  have HUS := Vx.hid hus
  have HWK : Hid (∀ wv, Only (fun _ => False) w wv → Calls Tryd.prog 26 #[.pointer (some ⟨bm, 0, none⟩), .int .i64 1, .int .u32 ((4096 * v + o : Nat) : Int), .int .i64 (u : Int)] wv fun e w' => e = .returned (.tuple #[.int .i64 ((if mayU u (H v).2 = true then 4096 * (H v).1 + o else 0 : Nat) : Int), .int .i64 (if mayU u (H v).2 = true then -1 else ((pageC u : Nat) : Int))]) ∧ Hid (Only (fun _ => False) wv w')) := fun wv hv2 => by
    refine (walk_ok (h.quiet hv2) (hus.only hv2 (fun h => h)) 1 (4096 * v + o) (by omega) u hu).mono ?_
    rintro e w' ⟨rfl, ho2⟩
    rw [walk_laid H v o u hv ho hu hok]
    refine ⟨?_, ho2⟩
    cases mayU u (H v).2 <;> rfl
  have hr : (H v).2 = 0 ∨ (H v).2 = 1 ∨ (H v).2 = 3 ∨ (H v).2 = 4 ∨ (H v).2 = 5 ∨ (H v).2 = 7 := by
    rcases okE_cases hok with h | ⟨_, _, h⟩
    · rw [h]; exact Or.inl rfl
    · omega
  have hf : (H v).1 < 12 := by
    rcases okE_cases hok with h | ⟨_, h, _⟩
    · rw [h]; decide
    · exact h
  have hb := mayU_false (u := u) (by omega) hr
  have w0 : IntKind.u32.wrap ((4096 * v + o : Nat) : Int) = ((4096 * v + o : Nat) : Int) := by rw [IntKind.wrap_u32]; omega
  have t1 : Int.tmod ((4096 * v + o : Nat) : Int) 4096 = (o : Int) := by rw [Int.tmod_eq_emod_of_nonneg (by omega)]; omega
  have t2 : ((4096 * v + o : Nat) : Int) % 4096 = (o : Int) := by omega
  have hr0 : ¬ ((rgtN u : Nat) : Int) = 0 := by
    unfold rgtN
    split
    · decide
    · split <;> decide
  have hc0 : (((pageC u : Nat) : Int) == -1) = false := by simp
  generalize 4096 * v + o = va at HWK w0 t1 t2
  generalize (H v).1 = fr at HWK hf
  generalize (H v).2 = r at HWK hb
  generalize pageC u = pc at HWK hc0
  generalize rgtN u = rg at hb hr0
  have w1 : IntKind.i64.wrap ((fr : Int) * 4096) = (fr : Int) * 4096 := by rw [IntKind.wrap_i64]; omega
  have w2 : IntKind.i64.wrap ((fr : Int) * 4096 + (o : Int)) = (fr : Int) * 4096 + (o : Int) := by rw [IntKind.wrap_i64]; omega
  have w3 : IntKind.i64.wrap (o : Int) = (o : Int) := by rw [IntKind.wrap_i64]; omega
  have HO0 : Hid (Only (fun _ => False) w (w.alloc (.cells #[.int .i64 x, .int .i64 (fr : Int), .int .i64 (r : Int)] 28))) := (Only.refl _ w).alloc _
  clear h hus hv ho hu hok hr hf
  cases hm : mayU u r with
  | true =>
    rw [hm] at hb HWK
    simp only [if_true] at hb HWK
    obtain ⟨X, hX⟩ : ∃ X : Nat, X = 4096 * fr + o := ⟨_, rfl⟩
    have hX2 : (fr : Int) * 4096 + (o : Int) = (X : Int) := by omega
    rw [← hX] at HWK
    rw [hX2] at w2
    clear hm hX
    go_enter Tryd.func10, Tryd.ntmps10
    go_wp2_with fail
    refine (HWK.out _ HO0.out).mono ?_
    rintro e w2 ⟨rfl, HO⟩
    have hblk : w2.heap[w.heap.size]? = some (.cells #[.int .i64 x, .int .i64 (fr : Int), .int .i64 (r : Int)] 28 (0, 0)) := by
      rw [HO.out.block w.heap.size (by simp) (fun h => h)]; exact heap_alloc_last w _
    have g1 : w2.cell? ⟨w.heap.size, 1, none⟩ = some (.int .i64 (fr : Int)) := by rw [cell_of_row _ _ 1 _ _ (0, 0) hblk]; rfl
    have g2 : w2.cell? ⟨w.heap.size, 2, none⟩ = some (.int .i64 (r : Int)) := by rw [cell_of_row _ _ 2 _ _ (0, 0) hblk]; rfl
    have HF := Vx.hid (HO0.out.trans HO.out)
    clear hblk HO HO0
    generalize w.heap.size = g at g1 g2
    go_wp2_with fail
    all_goals
      go_ret
      exact ⟨rfl, HF.out⟩
  | false =>
    rw [hm] at hb HWK
    simp only [Bool.false_eq_true, if_false] at hb HWK
    clear hm
    go_enter Tryd.func10, Tryd.ntmps10
    go_wp2_with fail
    refine (HWK.out _ HO0.out).mono ?_
    rintro e w2 ⟨rfl, HO⟩
    have hblk : w2.heap[w.heap.size]? = some (.cells #[.int .i64 x, .int .i64 (fr : Int), .int .i64 (r : Int)] 28 (0, 0)) := by
      rw [HO.out.block w.heap.size (by simp) (fun h => h)]; exact heap_alloc_last w _
    have g1 : w2.cell? ⟨w.heap.size, 1, none⟩ = some (.int .i64 (fr : Int)) := by rw [cell_of_row _ _ 1 _ _ (0, 0) hblk]; rfl
    have g2 : w2.cell? ⟨w.heap.size, 2, none⟩ = some (.int .i64 (r : Int)) := by rw [cell_of_row _ _ 2 _ _ (0, 0) hblk]; rfl
    have HF := Vx.hid (HO0.out.trans HO.out)
    clear hblk HO HO0
    generalize w.heap.size = g at g1 g2
    go_wp2_with fail
    all_goals
      go_ret
      exact ⟨rfl, HF.out⟩
end Go.Proofs.YthcngafjklihcaaDoor

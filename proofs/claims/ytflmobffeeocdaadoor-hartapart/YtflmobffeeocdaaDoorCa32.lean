import Derived.Test.YtflmobffeeocdaaDoorCa31
import Derived.Test.YtflmobffeeocdaaDoorCa11
/- Walks of VspaceWalks: reached. -/
namespace Go.Proofs.YtflmobffeeocdaaDoor
open Go.ChangeShapes Go.WideShapes Go.ChangeAt Go.RowKit
open Go.Vx

theorem mayU_false {u r : Nat} (hu : u = 0 ∨ u = 1 ∨ u = 2) (hr : r = 0 ∨ r = 1 ∨ r = 3 ∨ r = 4 ∨ r = 5 ∨ r = 7) : bits .and .i64 (r : Int) (rgtN u : Nat) = if mayU u r = true then ((rgtN u : Nat) : Int) else 0 := by
  rcases hu with rfl | rfl | rfl <;> rcases hr with rfl | rfl | rfl | rfl | rfl | rfl <;> decide
end Go.Proofs.YtflmobffeeocdaaDoor
/- Walks of VspaceWalks: the row of frames; the arguments. -/
namespace Go.Proofs.YtflmobffeeocdaaDoor
open Go.ChangeShapes Go.WideShapes Go.ChangeAt Go.RowKit
open Go.Vx

def hvN (H : Nat → Nat × Nat) (j : Nat) : Int := if j % 3 = 0 then (if (H (j / 3)).2 = 0 then 0 else ((j / 3 : Nat) : Int)) else if j % 3 = 1 then ((H (j / 3)).1 : Int) else ((H (j / 3)).2 : Int)
def hvL (H : Nat → Nat × Nat) : List Value := (List.range 36).map fun j => .int .i64 (hvN H j)
theorem length_hvL (H : Nat → Nat × Nat) : (hvL H).length = 36 := by simp [hvL]
theorem get_hvL (H : Nat → Nat × Nat) (j : Nat) (h : j < 36) : (hvL H)[j]? = some (.int .i64 (hvN H j)) := by simp [hvL, h]
theorem hvL_zero : (hvL (fun _ => (0, 0))).toArray = #[.int .i64 0, .int .i64 0, .int .i64 0, .int .i64 0, .int .i64 0, .int .i64 0, .int .i64 0, .int .i64 0, .int .i64 0, .int .i64 0, .int .i64 0, .int .i64 0, .int .i64 0, .int .i64 0, .int .i64 0, .int .i64 0, .int .i64 0, .int .i64 0, .int .i64 0, .int .i64 0, .int .i64 0, .int .i64 0, .int .i64 0, .int .i64 0, .int .i64 0, .int .i64 0, .int .i64 0, .int .i64 0, .int .i64 0, .int .i64 0, .int .i64 0, .int .i64 0, .int .i64 0, .int .i64 0, .int .i64 0, .int .i64 0] := rfl
theorem oneCell_hv (H : Nat → Nat × Nat) : ∀ v ∈ hvL H, v.oneCell' = true := by
  intro v hv
  simp only [hvL, List.mem_map] at hv
  obtain ⟨b, _, rfl⟩ := hv
  rfl
theorem hvL_set (H : Nat → Nat × Nat) (v p r : Nat) (hv : v < 12) (a : Int) (ha : a = if r = 0 then 0 else (v : Int)) : (((hvL H).set (v * 3) (.int .i64 a)).set (v * 3 + 1) (.int .i64 (p : Int))).set (v * 3 + 2) (.int .i64 (r : Int)) = hvL (updH H v (p, r)) := by
  apply List.ext_getElem?
  intro j
  rw [List.getElem?_set, List.getElem?_set, List.getElem?_set]
  simp only [List.length_set, length_hvL]
  by_cases hj : j < 36
  · rw [get_hvL _ _ hj, get_hvL _ _ hj]
    by_cases h2 : v * 3 + 2 = j
    · subst h2
      rw [if_pos rfl, if_pos hj]
      simp only [hvN, show (v * 3 + 2) % 3 = 2 by omega, show (v * 3 + 2) / 3 = v by omega, updH, if_true]
      rfl
    · rw [if_neg h2]
      by_cases h1 : v * 3 + 1 = j
      · subst h1
        rw [if_pos rfl, if_pos hj]
        simp only [hvN, show (v * 3 + 1) % 3 = 1 by omega, show (v * 3 + 1) / 3 = v by omega, updH, if_true]
        rfl
      · rw [if_neg h1]
        by_cases h0 : v * 3 = j
        · subst h0
          rw [if_pos rfl, if_pos hj, ha]
          simp only [hvN, show (v * 3) % 3 = 0 by omega, show (v * 3) / 3 = v by omega, updH, if_true]
        · rw [if_neg h0]
          have : ¬ j / 3 = v := by omega
          simp only [hvN, updH, if_neg this]
  · rw [List.getElem?_eq_none (l := hvL (updH H v (p, r))) (by rw [length_hvL]; omega)]
    rw [if_neg (by omega), if_neg (by omega), if_neg (by omega), List.getElem?_eq_none (by rw [length_hvL]; omega)]
/-- The row, where it lies. -/
structure HvAt (w : World) (hb : Nat) (H : Nat → Nat × Nat) : Prop where
  b : w.heap[hb]? = some (.cells (hvL H).toArray 30 (0, 0))
theorem HvAt.only {S : Nat → Prop} {w w' : World} {hb : Nat} {H : Nat → Nat × Nat} (h : HvAt w hb H) (ho : Only S w w') (hS : ¬ S hb) : HvAt w' hb H := ⟨by rw [ho.block hb (lt_of_some h.b) hS]; exact h.b⟩
theorem HvAt.cells {w : World} {hb : Nat} {H : Nat → Nat × Nat} (h : HvAt w hb H) (v : Nat) (hv : v < 12) :
    w.cell? ⟨hb, v * 3, none⟩ = some (.int .i64 (if (H v).2 = 0 then 0 else (v : Int))) ∧ w.cell? ⟨hb, v * 3 + 1, none⟩ = some (.int .i64 ((H v).1 : Nat)) ∧ w.cell? ⟨hb, v * 3 + 2, none⟩ = some (.int .i64 ((H v).2 : Nat)) := by
  refine ⟨?_, ?_, ?_⟩
  · rw [cell_of_row _ _ (v * 3) _ _ (0, 0) h.b]
    have := get_hvL H (v * 3) (by omega)
    simp only [hvN, show (v * 3) % 3 = 0 by omega, show (v * 3) / 3 = v by omega, if_true] at this
    simpa using this
  · rw [cell_of_row _ _ (v * 3 + 1) _ _ (0, 0) h.b]
    have := get_hvL H (v * 3 + 1) (by omega)
    simp only [hvN, show (v * 3 + 1) % 3 = 1 by omega, show (v * 3 + 1) / 3 = v by omega] at this
    simpa using this
  · rw [cell_of_row _ _ (v * 3 + 2) _ _ (0, 0) h.b]
    have := get_hvL H (v * 3 + 2) (by omega)
    simp only [hvN, show (v * 3 + 2) % 3 = 2 by omega, show (v * 3 + 2) / 3 = v by omega] at this
    simpa using this
theorem HvAt.fz {w : World} {hb : Nat} {H : Nat → Nat × Nat} (h : HvAt w hb H) (j : Nat) : w.frozen? ⟨hb, j, none⟩ = false := by
  have h1 := h.b
  simp [World.frozen?, h1]
theorem HvAt.store {w : World} {hb : Nat} {H : Nat → Nat × Nat} (h : HvAt w hb H) (v p r : Nat) (hv : v < 12) (a : Int) (ha : a = if r = 0 then 0 else (v : Int)) :
    HvAt (((w.setCell ⟨hb, v * 3, none⟩ (.int .i64 a)).setCell ⟨hb, v * 3 + 1, none⟩ (.int .i64 (p : Int))).setCell ⟨hb, v * 3 + 2, none⟩ (.int .i64 (r : Int))) hb (updH H v (p, r)) ∧
    Only (fun k => k = hb) w (((w.setCell ⟨hb, v * 3, none⟩ (.int .i64 a)).setCell ⟨hb, v * 3 + 1, none⟩ (.int .i64 (p : Int))).setCell ⟨hb, v * 3 + 2, none⟩ (.int .i64 (r : Int))) := by
  have o1 : Only (fun k => k = hb) w (w.setCell ⟨hb, v * 3, none⟩ (.int .i64 a)) := Only.setCell (S := fun k => k = hb) (Only.refl _ w) (Or.inl rfl) _
  have o2 := Only.setCell (S := fun k => k = hb) o1 (p := ⟨hb, v * 3 + 1, none⟩) (Or.inl rfl) (.int .i64 (p : Int))
  have o3 := Only.setCell (S := fun k => k = hb) o2 (p := ⟨hb, v * 3 + 2, none⟩) (Or.inl rfl) (.int .i64 (r : Int))
  refine ⟨⟨?_⟩, o3⟩
  have h1 := heap_setCell_same _ hb (v * 3 + 2) _ _ (.int .i64 (r : Int)) (heap_setCell_same _ hb (v * 3 + 1) _ _ (.int .i64 (p : Int)) (heap_setCell_same w hb (v * 3) _ _ (.int .i64 a) h.b))
  rw [h1, ← hvL_set H v p r hv a ha]
  simp
/-- The arguments, where they lie. -/
def LaAt (w : World) (pa : Option Addr) (zs : List (Int × Int × Int)) : Prop :=
  zs = [] ∨ ∃ ab ao, pa = some ⟨ab, ao, none⟩ ∧ ∀ (j : Nat) (h : j < zs.length), w.cell? ⟨ab, ao + j * 3, none⟩ = some (.int .i64 (zs[j]).1) ∧ w.cell? ⟨ab, ao + j * 3 + 1, none⟩ = some (.int .i64 (zs[j]).2.1) ∧ w.cell? ⟨ab, ao + j * 3 + 2, none⟩ = some (.int .i64 (zs[j]).2.2)
def in64 (n : Int) : Prop := -9223372036854775808 ≤ n ∧ n ≤ 9223372036854775807
/-- What laid has made so far. -/
structure LdR (W : World) (bm hb : Nat) (H : Nat → Nat × Nat) (wr : World) : Prop where
  m : MemAt (fun k => k < W.heap.size + 2) wr bm 12 (laidF H)
  h : HvAt wr hb H
  z : HvAt wr W.heap.size (fun _ => (0, 0))
  ok : ∀ v, v < 12 → okE (H v)
  be : Below W.heap.size W wr
  sz : W.heap.size + 2 ≤ wr.heap.size
  eb : hb = W.heap.size + 1
theorem LdR.map {W : World} {bm hb : Nat} {H : Nat → Nat × Nat} {wr : World} (h : LdR W bm hb H wr) (v p r : Nat) (hv : v < 12) (hp : 4 ≤ p) (hp2 : p < 12) (hr : r ≠ 0) :
    Calls Tryd.prog 13 #[.pointer (some ⟨bm, 0, none⟩), .int .i64 1, .int .u32 ((4096 * v : Nat) : Int), .int .i64 (p : Int), .int .i64 (r : Int)] wr fun e w' =>
      (mayB (r : Int) = false → e = .returned (.int .i64 13) ∧ LdR W bm hb H w') ∧ (mayB (r : Int) = true → (H v).2 ≠ 0 → e = .returned (.int .i64 7) ∧ LdR W bm hb H w') ∧
      (mayB (r : Int) = true → (H v).2 = 0 → e = .returned (.int .i64 0) ∧ (∃ x, w'.cell? ⟨hb, v * 3, none⟩ = some x) ∧ (∃ x, w'.cell? ⟨hb, v * 3 + 1, none⟩ = some x) ∧ w'.cell? ⟨hb, v * 3 + 2, none⟩ = some (.int .i64 0) ∧ (∀ j, w'.frozen? ⟨hb, j, none⟩ = false) ∧
        LdR W bm hb (updH H v (p, r)) (((w'.setCell ⟨hb, v * 3, none⟩ (.int .i64 (v : Int))).setCell ⟨hb, v * 3 + 1, none⟩ (.int .i64 (p : Int))).setCell ⟨hb, v * 3 + 2, none⟩ (.int .i64 (r : Int)))) := by
  refine (map_any h.m 1 (4096 * v) (by omega) (p : Int) (r : Int)).mono ?_
  rintro e w' ⟨rfl, hm, ho⟩
  rw [mapR_laid H v p r hv hp2 (h.ok v hv) hr] at hm ⊢
  have hU : ∀ k, k < W.heap.size + 2 → ¬ ¬ (k < W.heap.size + 2) := fun k hk hn => hn hk
  have hh : HvAt w' hb H := h.h.only ho (hU _ (by rw [h.eb]; omega))
  have hz : HvAt w' W.heap.size (fun _ => (0, 0)) := h.z.only ho (hU _ (by omega))
  have hb' : Below W.heap.size W w' := h.be.trans (ho.below h.be.size (fun k hk => hU k (by omega)))
  refine ⟨fun hn => ?_, fun hy hn => ?_, fun hy hn => ?_⟩
  · rw [if_neg (by rw [hn]; decide)] at hm ⊢
    exact ⟨rfl, hm, hh, hz, h.ok, hb', Nat.le_trans h.sz ho.size, h.eb⟩
  · rw [if_pos hy, if_neg hn] at hm ⊢
    exact ⟨rfl, hm, hh, hz, h.ok, hb', Nat.le_trans h.sz ho.size, h.eb⟩
  · rw [if_pos hy, if_pos hn] at hm ⊢
    obtain ⟨c0, c1, c2⟩ := hh.cells v hv
    obtain ⟨s1, s2⟩ := hh.store v p r hv (v : Int) (by rw [if_neg hr])
    rw [hn] at c2
    refine ⟨rfl, ⟨_, c0⟩, ⟨_, c1⟩, c2, hh.fz, ⟨hm.only s2 (fun k hk _ => by show k < _; rw [hk, h.eb]; omega), s1, hz.only s2 (by rw [h.eb]; omega), fun i hi => ?_, hb'.trans (s2.below hb'.size (fun k hk hs => by have := h.eb; omega)), Nat.le_trans (Nat.le_trans h.sz ho.size) s2.size, h.eb⟩⟩
    unfold updH
    split
    · exact Or.inr ⟨hp, hp2, hy⟩
    · exact h.ok i hi
end Go.Proofs.YtflmobffeeocdaaDoor

/- Walk of vaultkeep's pick. -/
namespace Go.Proofs.YtflmobffeeocdaaDoor
open Go.ChangeShapes Go.WideShapes Go.ChangeAt Go.RowKit
open Go.Vx

/-- The number that pick makes. -/
def pickN (n : Int) (m : Nat) : Nat := (if n < 0 then (-(n + 1)).toNat else n.toNat) % m
theorem pick_any (m : Nat) (hm : 1 ≤ m) (hm2 : m ≤ 1048576) (n : Int) (h0 : -9223372036854775808 ≤ n) (h1 : n ≤ 9223372036854775807) (w : World) :
    Calls Tryd.prog 8 #[.int .i64 n, .int .i64 (m : Int)] w fun e w' => e = .returned (.int .i64 (pickN n m : Nat)) ∧ w' = w := by
  have hz : ¬ (m : Int) = 0 := by omega
  have hz1 : ¬ (m : Int) = -1 := by omega
  by_cases hn : n < 0
  · have hr : -(n + 1).tmod (m : Int) = (pickN n m : Nat) := by
      rw [← Int.neg_tmod, Int.tmod_eq_emod_of_nonneg (by omega)]
      unfold pickN
      rw [if_pos hn, Int.natCast_emod, Int.toNat_of_nonneg (by omega)]
    have HR := Vx.hid hr
    clear hr
    generalize pickN n m = k at HR
    go_enter Tryd.func8, Tryd.ntmps8
    go_wp2
    all_goals
      go_ret
      refine ⟨?_, rfl⟩
      show Ending.returned (Value.int .i64 (-(n + 1).tmod (m : Int))) = _
      rw [HR.out]
  · have hr : n.tmod (m : Int) = (pickN n m : Nat) := by
      rw [Int.tmod_eq_emod_of_nonneg (by omega)]
      unfold pickN
      rw [if_neg hn, Int.natCast_emod, Int.toNat_of_nonneg (by omega)]
    have hk : (pickN n m) < m := Nat.mod_lt _ (by omega)
    generalize pickN n m = k at hr hk
    have hw3 : IntKind.i64.wrap (k : Int) = (k : Int) := by rw [IntKind.wrap_i64]; omega
    go_enter Tryd.func8, Tryd.ntmps8
    go_wp2
    all_goals
      go_ret
      first | exact ⟨rfl, rfl⟩ | skip
end Go.Proofs.YtflmobffeeocdaaDoor

import Derived.Test.YtflmobffeeocdaaGreatDoorCh11
import Derived.Test.YtflmobffeeocdaaGreatDoorCh17
import Derived.Deep.RegionHeld3
import Derived.RegionDies
/- Walks of package hart: fetch. -/
namespace Go.Proofs.YtflmobffeeocdaaGreatDoor
open Go.ChangeShapes Go.WideShapes Go.ChangeAt Go.RowKit
open Go.Vx

theorem place_in {f : Nat → UInt8} {n : Nat} {root : Int} {va len u a : Nat} (hl : len = 1 ∨ len = 2 ∨ len = 4) (h : placeF f n root va len u = .ok a) : a % len = 0 ∧ a + len ≤ 4096 * n := by
  unfold placeF placeG at h
  split at h
  · cases h
  · rename_i h1
    split at h
    · cases h
    · rename_i h2
      injection h with h
      subst h
      have h3 : (walkF f n root va u).2 = -1 := by simpa using h2
      have h4 : va % len = 0 := by simpa using h1
      unfold walkF at h3 ⊢
      split at h3
      · omega
      · rename_i h5
        rw [if_neg h5]
        split at h3
        · omega
        · rename_i h6
          rw [if_neg h6]
          unfold endF at h3 ⊢
          split at h3
          · simp only at h3; omega
          · rename_i h7
            rw [if_neg h7]
            split at h3
            · simp only at h3; omega
            · rename_i h8
              rw [if_neg h8]
              simp only
              have hS := leaf_size f n root va
              generalize (leafF f n root va).2.1 = S at h8 hS ⊢
              generalize (leafF f n root va).1 / 1024 = q at h8 ⊢
              rcases hS with rfl | rfl <;> rcases hl with rfl | rfl | rfl <;> omega
set_option maxRecDepth 100000 in
set_option maxHeartbeats 4000000 in
theorem fetch_trap {U : Nat → Prop} {w : World} {bm n cb off pc : Nat} {R : Nat → Nat} {f : Nat → UInt8} (h : MemAt U w bm n f) (hus : UsesAt w) (hmi : MisAt w) (hc : CtxAt w cb off R pc) (hpc : pc < 4294967296) (root : Int) (c : Int) (t : Nat) (hp : placeF f n root pc 4 0 = .error (c, t)) :
    Calls Tryz.prog 88 #[.agg #[.pointer (some ⟨bm, 0, none⟩), .int .i64 root, .pointer (some ⟨cb, off, none⟩)]] w fun e w' => e = .panicked (trapP c t) ∧ Only (fun _ => False) w w' := by
  have HC := Vx.hid hc
  have HPL : Hid (∀ wv, Only (fun _ => False) w wv → Calls Tryz.prog 101 #[.agg #[.pointer (some ⟨bm, 0, none⟩), .int .i64 root, .pointer (some ⟨cb, off, none⟩)], .int .u32 (pc : Int), .int .u32 4, .int .i64 0] wv fun e w' => e = .panicked (trapP c t) ∧ Hid (Only (fun _ => False) w w')) := fun wv hv => by
    refine (hplace_any (h.only hv (fun _ h _ => h.elim)) (hus.only hv (fun h => h)) (hmi.only hv (fun h => h)) root ⟨cb, off, none⟩ pc hpc 4 (by decide) (by decide) 0 (by decide)).mono ?_
    rintro e w' ⟨⟨c', t', h1, rfl⟩ | ⟨a, h1, _⟩, ho⟩
    · rw [hp] at h1
      injection h1 with h1
      injection h1 with h1 h2
      subst h1 h2
      exact ⟨rfl, hv.trans ho⟩
    · rw [hp] at h1; cases h1
  have hl : cb < w.heap.size := World.block_lt_of_cell? w _ hc.p
  have hcp := hc.p
  clear h hus hmi hc hpc hp
  go_enter Tryz.func88, Tryz.ntmps88
  go_wp2_with fail
  obtain ⟨W1, hW1⟩ : ∃ W1, W1 = ((w.alloc (.cells #[.pointer (some ⟨bm, 0, none⟩), .int .i64 root, .pointer (some ⟨cb, off, none⟩)] 125)).alloc (.cells #[.int .i64 0, .int .i64 0, .int .i64 0, .int .i64 0, .int .i64 0] 129)) := ⟨_, rfl⟩
  have HO1 : Hid (Only (fun _ => False) w W1) := by rw [hW1]; exact ((Only.refl _ w).alloc _).alloc _
  have hb : W1.heap[w.heap.size]? = some (.cells #[.pointer (some ⟨bm, 0, none⟩), .int .i64 root, .pointer (some ⟨cb, off, none⟩)] 125 (0, 0)) := by
    rw [hW1, RowKit.Below.heap_alloc _ _ _ (by simp)]; exact heap_alloc_last w _
  have g0 : W1.cell? ⟨w.heap.size, 0, none⟩ = some (.pointer (some ⟨bm, 0, none⟩)) := by rw [cell_of_row _ _ 0 _ _ (0, 0) hb]; rfl
  have g1 : W1.cell? ⟨w.heap.size, 1, none⟩ = some (.int .i64 root) := by rw [cell_of_row _ _ 1 _ _ (0, 0) hb]; rfl
  have g2 : W1.cell? ⟨w.heap.size, 2, none⟩ = some (.pointer (some ⟨cb, off, none⟩)) := by rw [cell_of_row _ _ 2 _ _ (0, 0) hb]; rfl
  have g3 : W1.cell? ⟨cb, off + 32, none⟩ = some (.int .u32 (pc : Int)) := by rw [HO1.out.cell (p := ⟨cb, off + 32, none⟩) hl (fun h => h)]; exact hcp
  rw [← hW1]
  clear hW1 hb hcp HC
  generalize w.heap.size = g at g0 g1 g2 hl ⊢
  go_region_dies
  all_goals
    refine (HPL.out _ HO1.out.drew).mono ?_
    rintro e w5 ⟨rfl, hb5⟩
    exact ⟨rfl, rfl, hb5⟩
end Go.Proofs.YtflmobffeeocdaaGreatDoor

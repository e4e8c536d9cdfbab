import Derived.Test.YtflmobffeeocdaaGreatDoorCh16
import Derived.Test.YtflmobffeeocdaaGreatDoorCh18
/- Walks of package hart: load, store. -/
namespace Go.Proofs.YtflmobffeeocdaaGreatDoor
open Go.ChangeShapes Go.WideShapes Go.ChangeAt Go.RowKit
open Go.Vx

theorem bytes_cases (op : Nat) : bytesF op = 1 ∨ bytesF op = 2 ∨ bytesF op = 4 := by
  unfold bytesF
  split
  · exact Or.inr (Or.inr rfl)
  · split
    · exact Or.inr (Or.inl rfl)
    · exact Or.inl rfl
set_option maxRecDepth 100000 in
set_option maxHeartbeats 4000000 in
theorem load_trap {U : Nat → Prop} {w : World} {bm n cb off : Nat} {f : Nat → UInt8} (h : MemAt U w bm n f) (hus : UsesAt w) (hmi : MisAt w) (root : Int) (op : Nat) (ho : 11 ≤ op) (ho2 : op ≤ 15) (va : Nat) (hva : va < 4294967296) (c : Int) (t : Nat) (hp : placeF f n root va (bytesF op) 1 = .error (c, t)) :
    Calls Tryz.prog 93 #[.agg #[.pointer (some ⟨bm, 0, none⟩), .int .i64 root, .pointer (some ⟨cb, off, none⟩)], .int .i64 (op : Int), .int .u32 (va : Int)] w fun e w' => e = .panicked (trapP c t) ∧ Only (fun _ => False) w w' := by
  have HLN := Vx.hid (fun wv => length_any op ho (by omega) wv)
  have hb := bytes_cases op
  have HPL : Hid (∀ wv, Only (fun _ => False) w wv → Calls Tryz.prog 101 #[.agg #[.pointer (some ⟨bm, 0, none⟩), .int .i64 root, .pointer (some ⟨cb, off, none⟩)], .int .u32 (va : Int), .int .u32 (bytesF op : Nat), .int .i64 1] wv fun e w' => e = .panicked (trapP c t) ∧ Hid (Only (fun _ => False) w w')) := fun wv hv => by
    refine (hplace_any (h.only hv (fun _ h _ => h.elim)) (hus.only hv (fun h => h)) (hmi.only hv (fun h => h)) root ⟨cb, off, none⟩ va hva (bytesF op) (by omega) (by omega) 1 (by decide)).mono ?_
    rintro e w' ⟨⟨c', t', h1, rfl⟩ | ⟨a, h1, _⟩, ho⟩
    · rw [hp] at h1
      injection h1 with h1
      injection h1 with h1 h2
      subst h1 h2
      exact ⟨rfl, hv.trans ho⟩
    · rw [hp] at h1; cases h1
  have hw8 : IntKind.i64.wrap ((bytesF op : Nat) : Int) = ((bytesF op : Nat) : Int) := by rw [IntKind.wrap_i64]; omega
  generalize bytesF op = len at HLN HPL hw8
  clear h hus hmi hva hp hb ho ho2
  go_enter Tryz.func93, Tryz.ntmps93
  go_wp2_with fail
  refine (HLN.out _).mono ?_
  rintro e w' ⟨rfl, h⟩
  have h2 := h.symm; clear h; subst h2
  go_wp2_with fail
  obtain ⟨W1, hW1⟩ : ∃ W1, W1 = w.alloc (.cells #[.pointer (some ⟨bm, 0, none⟩), .int .i64 root, .pointer (some ⟨cb, off, none⟩)] 125) := ⟨_, rfl⟩
  have HO1 : Hid (Only (fun _ => False) w W1) := by rw [hW1]; exact (Only.refl _ w).alloc _
  have hb : W1.heap[w.heap.size]? = some (.cells #[.pointer (some ⟨bm, 0, none⟩), .int .i64 root, .pointer (some ⟨cb, off, none⟩)] 125 (0, 0)) := by
    rw [hW1]; exact heap_alloc_last w _
  have g0 : W1.cell? ⟨w.heap.size, 0, none⟩ = some (.pointer (some ⟨bm, 0, none⟩)) := by rw [cell_of_row _ _ 0 _ _ (0, 0) hb]; rfl
  have g1 : W1.cell? ⟨w.heap.size, 1, none⟩ = some (.int .i64 root) := by rw [cell_of_row _ _ 1 _ _ (0, 0) hb]; rfl
  have g2 : W1.cell? ⟨w.heap.size, 2, none⟩ = some (.pointer (some ⟨cb, off, none⟩)) := by rw [cell_of_row _ _ 2 _ _ (0, 0) hb]; rfl
  rw [← hW1]
  clear hW1 hb
  generalize w.heap.size = g at g0 g1 g2 ⊢
  go_region_dies
  all_goals
    refine (HPL.out _ HO1.out.drew).mono ?_
    rintro e w5 ⟨rfl, hb5⟩
    exact ⟨rfl, rfl, hb5⟩
end Go.Proofs.YtflmobffeeocdaaGreatDoor

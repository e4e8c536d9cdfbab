/- Package spec: sayings (gen_sr17.py). -/
import Derived.Test.YtgacifbpjdakaaaGreatDoorSR1
namespace Go.Proofs.YtgacifbpjdakaaaGreatDoor
open Go.ChangeShapes Go.WideShapes Go.ChangeAt Go.RowKit
open Go.Vx
set_option linter.unusedVariables false
set_option linter.unusedSimpArgs false

theorem mkOne (k : Int) (w : World) : Calls Tryz.prog 31 #[.int .i64 k] w fun e w' => ∃ kb, e = .returned (.func (.func 65) #[] #[.pointer (some ⟨kb, 0, none⟩)]) ∧ Hid (KbAt w' kb k ∧ Only (fun _ => False) w w') := by
  have hmf : ∀ (fn : Fn) (first cap : Array Value) (w : World), (Instr.makeFunc fn first cap).run Tryz.prog w = .ok (.func fn first cap) w := fun _ _ _ _ => rfl
  have HO : Hid (KbAt (w.alloc (.cells #[.int .i64 k] 3)) w.heap.size k ∧ Only (fun _ => False) w (w.alloc (.cells #[.int .i64 k] 3))) := ⟨heap_alloc_last w _, (Only.refl _ w).alloc _⟩
  go_enter Tryz.func31, Tryz.ntmps31
  go_wp2_with fail
  go_ret
  exact ⟨_, rfl, HO.out⟩
theorem mkName (k c : Int) (w : World) : Calls Tryz.prog 34 #[.int .i64 k, .int .i64 c] w fun e w' => ∃ cb kb, e = .returned (.func (.func 69) #[] #[.pointer (some ⟨cb, 0, none⟩), .pointer (some ⟨kb, 0, none⟩)]) ∧ Hid (KbAt w' cb c ∧ KbAt w' kb k ∧ Only (fun _ => False) w w') := by
  have hmf : ∀ (fn : Fn) (first cap : Array Value) (w : World), (Instr.makeFunc fn first cap).run Tryz.prog w = .ok (.func fn first cap) w := fun _ _ _ _ => rfl
  have HO : Hid (KbAt ((w.alloc (.cells #[.int .i64 k] 3)).alloc (.cells #[.int .i64 c] 3)) (w.heap.size + 1) c ∧ KbAt ((w.alloc (.cells #[.int .i64 k] 3)).alloc (.cells #[.int .i64 c] 3)) w.heap.size k ∧ Only (fun _ => False) w ((w.alloc (.cells #[.int .i64 k] 3)).alloc (.cells #[.int .i64 c] 3))) := by
    refine ⟨?_, keepB ((Only.refl (fun _ => False) _).alloc _) (heap_alloc_last w _) (fun h => h), ((Only.refl _ w).alloc _).alloc _⟩
    have h9 := heap_alloc_last (w.alloc (.cells #[.int .i64 k] 3)) (.cells #[.int .i64 c] 3)
    rw [show (w.alloc (.cells #[.int .i64 k] 3)).heap.size = w.heap.size + 1 by simp] at h9
    exact h9
  go_enter Tryz.func34, Tryz.ntmps34
  go_wp2_with fail
  go_ret
  exact ⟨_, _, rfl, HO.out⟩
/-- The row of sorts. -/
def syR (k3 k4 k5 k6 k7 k8 k11 k12 c11 c12 : Nat) : List Value := [.string ⟨#[112, 97, 103, 101, 115]⟩, .func (.func 28) #[] #[], .string ⟨#[116, 117, 114, 110]⟩, .func (.func 29) #[] #[], .string ⟨#[99, 97, 108, 108, 115]⟩, .func (.func 30) #[] #[], .string ⟨#[102, 114, 97, 109, 101]⟩, .func (.func 65) #[] #[.pointer (some ⟨k3, 0, none⟩)], .string ⟨#[116, 97, 98, 108, 101]⟩, .func (.func 65) #[] #[.pointer (some ⟨k4, 0, none⟩)], .string ⟨#[114, 111, 111, 116]⟩, .func (.func 65) #[] #[.pointer (some ⟨k5, 0, none⟩)], .string ⟨#[116, 104, 114, 101, 97, 100]⟩, .func (.func 65) #[] #[.pointer (some ⟨k6, 0, none⟩)], .string ⟨#[101, 110, 100]⟩, .func (.func 65) #[] #[.pointer (some ⟨k7, 0, none⟩)], .string ⟨#[98, 101, 108, 108]⟩, .func (.func 65) #[] #[.pointer (some ⟨k8, 0, none⟩)], .string ⟨#[98, 111, 120]⟩, .func (.func 32) #[] #[], .string ⟨#[117, 110, 116, 121, 112, 101, 100]⟩, .func (.func 33) #[] #[], .string ⟨#[105, 114, 113]⟩, .func (.func 69) #[] #[.pointer (some ⟨c11, 0, none⟩), .pointer (some ⟨k11, 0, none⟩)], .string ⟨#[112, 111, 114, 116]⟩, .func (.func 69) #[] #[.pointer (some ⟨c12, 0, none⟩), .pointer (some ⟨k12, 0, none⟩)], .string ⟨#[99, 111, 100, 101]⟩, .func (.func 35) #[] #[], .string ⟨#[98, 121, 116, 101, 115]⟩, .func (.func 36) #[] #[], .string ⟨#[99, 97, 112]⟩, .func (.func 37) #[] #[], .string ⟨#[109, 97, 112]⟩, .func (.func 38) #[] #[], .string ⟨#[115, 116, 97, 114, 116]⟩, .func (.func 39) #[] #[], .string ⟨#[98, 105, 110, 100]⟩, .func (.func 40) #[] #[]]
theorem sy_made (k3 k4 k5 k6 k7 k8 k11 k12 c11 c12 : Nat) (w : World) (h3 : KbAt w k3 2) (h4 : KbAt w k4 3) (h5 : KbAt w k5 4) (h6 : KbAt w k6 6) (h7 : KbAt w k7 7) (h8 : KbAt w k8 8) (h11 : KbAt w k11 9) (h12 : KbAt w k12 10) (g11 : KbAt w c11 8) (g12 : KbAt w c12 8) : SyAt (w.alloc (.cells (syR k3 k4 k5 k6 k7 k8 k11 k12 c11 c12).toArray 103)) (.slice (some ⟨w.heap.size, 0, none⟩) 19 19) := by
  have ho : Only (fun _ => False) w (w.alloc (.cells (syR k3 k4 k5 k6 k7 k8 k11 k12 c11 c12).toArray 103)) := (Only.refl _ w).alloc _
  have hk : ∀ kb k, KbAt w kb k → KbAt (w.alloc (.cells (syR k3 k4 k5 k6 k7 k8 k11 k12 c11 c12).toArray 103)) kb k := fun kb k h9 => keepB ho h9 (fun h => h)
  refine ⟨w.heap.size, _, rfl, heap_alloc_last w _, fun j hj => ?_⟩
  rcases (show j = 0 ∨ j = 1 ∨ j = 2 ∨ j = 3 ∨ j = 4 ∨ j = 5 ∨ j = 6 ∨ j = 7 ∨ j = 8 ∨ j = 9 ∨ j = 10 ∨ j = 11 ∨ j = 12 ∨ j = 13 ∨ j = 14 ∨ j = 15 ∨ j = 16 ∨ j = 17 ∨ j = 18 by omega) with rfl | rfl | rfl | rfl | rfl | rfl | rfl | rfl | rfl | rfl | rfl | rfl | rfl | rfl | rfl | rfl | rfl | rfl | rfl
  · exact ⟨rfl, _, rfl, rfl⟩
  · exact ⟨rfl, _, rfl, rfl⟩
  · exact ⟨rfl, _, rfl, rfl⟩
  · exact ⟨rfl, _, rfl, k3, rfl, hk _ _ h3⟩
  · exact ⟨rfl, _, rfl, k4, rfl, hk _ _ h4⟩
  · exact ⟨rfl, _, rfl, k5, rfl, hk _ _ h5⟩
  · exact ⟨rfl, _, rfl, k6, rfl, hk _ _ h6⟩
  · exact ⟨rfl, _, rfl, k7, rfl, hk _ _ h7⟩
  · exact ⟨rfl, _, rfl, k8, rfl, hk _ _ h8⟩
  · exact ⟨rfl, _, rfl, rfl⟩
  · exact ⟨rfl, _, rfl, rfl⟩
  · exact ⟨rfl, _, rfl, c11, k11, rfl, hk _ _ g11, hk _ _ h11⟩
  · exact ⟨rfl, _, rfl, c12, k12, rfl, hk _ _ g12, hk _ _ h12⟩
  · exact ⟨rfl, _, rfl, rfl⟩
  · exact ⟨rfl, _, rfl, rfl⟩
  · exact ⟨rfl, _, rfl, rfl⟩
  · exact ⟨rfl, _, rfl, rfl⟩
  · exact ⟨rfl, _, rfl, rfl⟩
  · exact ⟨rfl, _, rfl, rfl⟩
set_option maxRecDepth 100000 in
set_option maxHeartbeats 4000000 in
theorem sayings_ok (w : World) : Calls Tryz.prog 12 #[] w fun e w' => ∃ vs, e = .returned vs ∧ Hid (SyAt w' vs ∧ Only (fun _ => False) w w') := by
  go_enter Tryz.func12, Tryz.ntmps12
  go_wp2_with fail
  refine (mkOne 2 _).mono ?_
  rintro e w3 ⟨k3, rfl, H3⟩
  go_wp2_with fail
  refine (mkOne 3 _).mono ?_
  rintro e w4 ⟨k4, rfl, H4⟩
  go_wp2_with fail
  refine (mkOne 4 _).mono ?_
  rintro e w5 ⟨k5, rfl, H5⟩
  go_wp2_with fail
  refine (mkOne 6 _).mono ?_
  rintro e w6 ⟨k6, rfl, H6⟩
  go_wp2_with fail
  refine (mkOne 7 _).mono ?_
  rintro e w7 ⟨k7, rfl, H7⟩
  go_wp2_with fail
  refine (mkOne 8 _).mono ?_
  rintro e w8 ⟨k8, rfl, H8⟩
  go_wp2_with fail
  refine (mkName 9 8 _).mono ?_
  rintro e w11 ⟨c11, k11, rfl, H11⟩
  go_wp2_with fail
  refine (mkName 10 8 _).mono ?_
  rintro e w12 ⟨c12, k12, rfl, H12⟩
  have h3 : KbAt w12 k3 2 := keepB (H12.out.2.2) (keepB (H11.out.2.2) (keepB (H8.out.2) (keepB (H7.out.2) (keepB (H6.out.2) (keepB (H5.out.2) (keepB (H4.out.2) (H3.out.1) (fun h => h)) (fun h => h)) (fun h => h)) (fun h => h)) (fun h => h)) (fun h => h)) (fun h => h)
  have h4 : KbAt w12 k4 3 := keepB (H12.out.2.2) (keepB (H11.out.2.2) (keepB (H8.out.2) (keepB (H7.out.2) (keepB (H6.out.2) (keepB (H5.out.2) (H4.out.1) (fun h => h)) (fun h => h)) (fun h => h)) (fun h => h)) (fun h => h)) (fun h => h)
  have h5 : KbAt w12 k5 4 := keepB (H12.out.2.2) (keepB (H11.out.2.2) (keepB (H8.out.2) (keepB (H7.out.2) (keepB (H6.out.2) (H5.out.1) (fun h => h)) (fun h => h)) (fun h => h)) (fun h => h)) (fun h => h)
  have h6 : KbAt w12 k6 6 := keepB (H12.out.2.2) (keepB (H11.out.2.2) (keepB (H8.out.2) (keepB (H7.out.2) (H6.out.1) (fun h => h)) (fun h => h)) (fun h => h)) (fun h => h)
  have h7 : KbAt w12 k7 7 := keepB (H12.out.2.2) (keepB (H11.out.2.2) (keepB (H8.out.2) (H7.out.1) (fun h => h)) (fun h => h)) (fun h => h)
  have h8 : KbAt w12 k8 8 := keepB (H12.out.2.2) (keepB (H11.out.2.2) (H8.out.1) (fun h => h)) (fun h => h)
  have h11 : KbAt w12 k11 9 := keepB (H12.out.2.2) (H11.out.2.1) (fun h => h)
  have g11 : KbAt w12 c11 8 := keepB (H12.out.2.2) (H11.out.1) (fun h => h)
  have h12 : KbAt w12 k12 10 := H12.out.2.1
  have g12 : KbAt w12 c12 8 := H12.out.1
  have ho : Only (fun _ => False) w w12 := (((((((H3.out.2).trans (H4.out.2)).trans (H5.out.2)).trans (H6.out.2)).trans (H7.out.2)).trans (H8.out.2)).trans (H11.out.2.2)).trans (H12.out.2.2)
  have HSY := Vx.hid (sy_made k3 k4 k5 k6 k7 k8 k11 k12 c11 c12 w12 h3 h4 h5 h6 h7 h8 h11 h12 g11 g12)
  have HO := Vx.hid ho
  clear h3 H3 h4 H4 h5 H5 h6 H6 h7 H7 h8 H8 h11 H11 h12 H12 g11 g12 ho
  go_wp2_with fail
  go_ret
  exact ⟨_, rfl, HSY.out, HO.out.trans ((Only.refl _ _).alloc _)⟩
end Go.Proofs.YtgacifbpjdakaaaGreatDoor

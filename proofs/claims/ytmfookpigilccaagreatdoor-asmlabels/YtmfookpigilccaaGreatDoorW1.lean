/- Walks of isa's small functions: registers, spread, gather, loose. -/
import Derived.Test.YtmfookpigilccaaGreatDoorBase
namespace Go.Proofs.YtmfookpigilccaaGreatDoor
open Go.ChangeShapes Go.WideShapes Go.ChangeAt Go.RowKit
open Go.Vx (regMask spreadOf gatherOf looseMask)

set_option maxHeartbeats 1000000 in
theorem reg_any (k : Int) (h0 : 0 ≤ k) (h1 : k ≤ 7) (w : World) :
    Calls Tryz.prog 50 #[.int .i64 k] w fun e w' => e = .returned (.int .u32 (regMask k.toNat)) ∧ w' = w := by
  have hk : k = 0 ∨ k = 1 ∨ k = 2 ∨ k = 3 ∨ k = 4 ∨ k = 5 ∨ k = 6 ∨ k = 7 := by omega
  rcases hk with rfl | rfl | rfl | rfl | rfl | rfl | rfl | rfl
  all_goals
    go_enter Tryz.func50, Tryz.ntmps50
    go_wp2
    go_ret
    exact ⟨ret_int (by decide), rfl⟩

set_option maxHeartbeats 1000000 in
theorem spread_any (k x : Int) (h0 : 0 ≤ k) (h1 : k ≤ 7) (hx0 : 0 ≤ x) (hx1 : x < 4294967296) (w : World) :
    Calls Tryz.prog 51 #[.int .i64 k, .int .u32 x] w fun e w' => e = .returned (.int .u32 (spreadOf k.toNat x)) ∧ w' = w := by
  have hk : k = 0 ∨ k = 1 ∨ k = 2 ∨ k = 3 ∨ k = 4 ∨ k = 5 ∨ k = 6 ∨ k = 7 := by omega
  rcases hk with rfl | rfl | rfl | rfl | rfl | rfl | rfl | rfl
  all_goals
    go_enter Tryz.func51, Tryz.ntmps51
    go_wp2
    go_ret
  · exact ⟨ret_int rfl, rfl⟩
  · exact ⟨ret_int (Vx.spread_1 x hx0 hx1), rfl⟩
  · exact ⟨ret_int (Vx.spread_2 x hx0 hx1), rfl⟩
  · exact ⟨ret_int (Vx.spread_3 x hx0 hx1), rfl⟩
  · exact ⟨ret_int (Vx.spread_4 x hx0 hx1), rfl⟩
  · exact ⟨ret_int rfl, rfl⟩
  · exact ⟨ret_int (Vx.spread_6 x hx0 hx1), rfl⟩
  · exact ⟨ret_int (Vx.spread_7 x hx0 hx1), rfl⟩

set_option maxHeartbeats 1000000 in
theorem gather_any (k x : Int) (h0 : 0 ≤ k) (h1 : k ≤ 7) (hx0 : 0 ≤ x) (hx1 : x < 4294967296) (w : World) :
    Calls Tryz.prog 66 #[.int .i64 k, .int .u32 x] w fun e w' => e = .returned (.int .i64 (gatherOf k.toNat x)) ∧ w' = w := by
  have hk : k = 0 ∨ k = 1 ∨ k = 2 ∨ k = 3 ∨ k = 4 ∨ k = 5 ∨ k = 6 ∨ k = 7 := by omega
  rcases hk with rfl | rfl | rfl | rfl | rfl | rfl | rfl | rfl
  all_goals
    go_enter Tryz.func66, Tryz.ntmps66
    go_wp2
    go_ret
  · exact ⟨ret_int rfl, rfl⟩
  · exact ⟨ret_int (Vx.gather_1 x hx0 hx1), rfl⟩
  · exact ⟨ret_int (Vx.gather_2 x hx0 hx1), rfl⟩
  · exact ⟨ret_int (Vx.gather_3 x hx0 hx1), rfl⟩
  · exact ⟨ret_int (Vx.gather_4 x hx0 hx1), rfl⟩
  · exact ⟨ret_int rfl, rfl⟩
  · exact ⟨ret_int (Vx.gather_6 x hx0 hx1), rfl⟩
  · exact ⟨ret_int (Vx.gather_7 x hx0 hx1), rfl⟩

theorem loose_num (k : Int) (h0 : 0 ≤ k) (h1 : k ≤ 7) : bits .or .u32 (regMask k.toNat) (spreadOf k.toNat 4294967295) = looseMask k.toNat := by
  have hk : k = 0 ∨ k = 1 ∨ k = 2 ∨ k = 3 ∨ k = 4 ∨ k = 5 ∨ k = 6 ∨ k = 7 := by omega
  rcases hk with rfl | rfl | rfl | rfl | rfl | rfl | rfl | rfl <;> decide

set_option maxHeartbeats 1000000 in
theorem loose_any (k : Int) (h0 : 0 ≤ k) (h1 : k ≤ 7) (w : World) :
    Calls Tryz.prog 45 #[.int .i64 k] w fun e w' => e = .returned (.int .u32 (looseMask k.toNat)) ∧ w' = w := by
  go_enter Tryz.func45, Tryz.ntmps45
  go_wp2_with (first | (go_at_call 50; refine (reg_any _ h0 h1 _).mono ?_; rintro e w' ⟨rfl, rfl⟩) | (go_at_call 51; refine (spread_any _ _ h0 h1 (by omega) (by omega) _).mono ?_; rintro e w' ⟨rfl, rfl⟩))
  go_ret
  exact ⟨ret_int (loose_num k h0 h1), rfl⟩
end Go.Proofs.YtmfookpigilccaaGreatDoor

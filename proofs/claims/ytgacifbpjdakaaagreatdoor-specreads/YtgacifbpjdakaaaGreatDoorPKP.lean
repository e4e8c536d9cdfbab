/- vaultkeep's pick. -/
import Derived.Test.YtgacifbpjdakaaaGreatDoorPL
namespace Go.Proofs.YtgacifbpjdakaaaGreatDoor
open Go.ChangeShapes Go.WideShapes Go.ChangeAt Go.RowKit
open Go.Vx

theorem pickK_any (m : Nat) (hm : 1 ≤ m) (hm2 : m ≤ 4398046511104) (n : Int) (h0 : -9223372036854775808 ≤ n) (h1 : n ≤ 9223372036854775807) (w : World) :
    Calls Tryz.prog 19 #[.int .i64 n, .int .i64 (m : Int)] w fun e w' => e = .returned (.int .i64 (pickL n m : Nat)) ∧ w' = w := by
  have hz : ¬ (m : Int) = 0 := by omega
  have hz1 : ¬ (m : Int) = -1 := by omega
  by_cases hn : n < 0
  · have hr : -(n + 1).tmod (m : Int) = (pickL n m : Nat) := by
      rw [← Int.neg_tmod, Int.tmod_eq_emod_of_nonneg (by omega)]
      unfold pickL
      rw [if_pos hn, Int.natCast_emod, Int.toNat_of_nonneg (by omega)]
    have HR := Vx.hid hr
    clear hr
    generalize pickL n m = k at HR
    go_enter Tryz.func19, Tryz.ntmps19
    go_wp2
    all_goals
      go_ret
      refine ⟨?_, rfl⟩
      show Ending.returned (Value.int .i64 (-(n + 1).tmod (m : Int))) = _
      rw [HR.out]
  · have hr : n.tmod (m : Int) = (pickL n m : Nat) := by
      rw [Int.tmod_eq_emod_of_nonneg (by omega)]
      unfold pickL
      rw [if_neg hn, Int.natCast_emod, Int.toNat_of_nonneg (by omega)]
    have hk : (pickL n m) < m := Nat.mod_lt _ (by omega)
    generalize pickL n m = k at hr hk
    have hw3 : IntKind.i64.wrap (k : Int) = (k : Int) := by rw [IntKind.wrap_i64]; omega
    go_enter Tryz.func19, Tryz.ntmps19
    go_wp2
    all_goals
      go_ret
      first | exact ⟨rfl, rfl⟩ | skip
end Go.Proofs.YtgacifbpjdakaaaGreatDoor

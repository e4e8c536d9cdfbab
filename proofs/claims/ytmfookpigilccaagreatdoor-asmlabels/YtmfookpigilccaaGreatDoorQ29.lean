/- AsmLabels: the walk. -/
import Derived.Test.YtmfookpigilccaaGreatDoorQ28
import Derived.Test.YtmfookpigilccaaGreatDoorQ23
import Derived.Deep.RegionWith
import Derived.Deep.CutRange
namespace Go.Proofs.YtmfookpigilccaaGreatDoor
open Go.ChangeShapes Go.WideShapes Go.ChangeAt Go.RowKit Go.Maps
open Go.Vx (Only fourB wordOf insV jalL ecallL preL)

theorem pick_any (n : Int) (h0 : -9223372036854775808 ≤ n) (h1 : n ≤ 9223372036854775807) (w : World) :
    Calls Tryz.prog 10 #[.int .i64 n, .int .i64 900] w fun e w' => (∃ k : Nat, k < 900 ∧ e = .returned (.int .i64 k)) ∧ w' = w := by
  by_cases hn : n < 0
  · have hr : 0 ≤ -(n + 1).tmod 900 ∧ -(n + 1).tmod 900 < 900 := by
      rw [← Int.neg_tmod, Int.tmod_eq_emod_of_nonneg (by omega)]; omega
    go_enter Tryz.func10, Tryz.ntmps10
    go_wp2
    go_ret
    refine ⟨⟨(-(n + 1).tmod 900).toNat, by omega, ?_⟩, rfl⟩
    show Ending.returned (Value.int .i64 (-(n + 1).tmod 900)) = _
    rw [Int.toNat_of_nonneg hr.1]
  · have hr : 0 ≤ n % 900 ∧ n % 900 < 900 := by omega
    go_enter Tryz.func10, Tryz.ntmps10
    go_wp2
    go_ret
    refine ⟨⟨(n % 900).toNat, by omega, ?_⟩, rfl⟩
    show Ending.returned (Value.int .i64 (n % 900)) = _
    rw [Int.toNat_of_nonneg hr.1]
theorem cat3 (a b c : List UInt8) : (⟨a.toArray⟩ : ByteArray) ++ ⟨b.toArray⟩ ++ ⟨c.toArray⟩ = ⟨(a ++ b ++ c).toArray⟩ := by
  rw [cat a b]; exact cat (a ++ b) c
theorem xw_jal (js : Nat → Bool) (i0 j : Nat) (d : Int) (hj : js j = true) (hd : 4 * (i0 : Int) - 4 * (j : Int) = d) : xw js i0 j = wordOf (JalI d) := by
  unfold xw; rw [if_pos hj, hd]
/-- The word of the jump, told by package isa. -/
theorem enc_jal (js : Nat → Bool) (i0 j : Nat) (d : Int) (hj : js j = true) (hd : 4 * (i0 : Int) - 4 * (j : Int) = d) (h0 : -3600 ≤ d) (h1 : d ≤ 3604) (w : World) (hF : FormsAt w) :
    Calls Tryz.prog 11 #[.agg #[.int .i64 3, .int .i64 7, .int .i64 0, .int .i64 0, .int .i64 d]] w fun e w' => e = .returned (.tuple #[.int .u32 (((xw js i0 j).toNat : Nat) : Int), .int .i64 0]) ∧ Below w.heap.size w w' := by
  have hx : (((xw js i0 j).toNat : Nat) : Int) = wordOf (JalI d) := by
    rw [← xw_jal js i0 j d hj hd]
    have := (xw_bound js i0 j).1
    omega
  rw [hx]
  exact encode_ok (JalI d) (by show (1 : Int) ≤ 3; decide) (by show (3 : Int) ≤ 48; decide) (jal_dec d h0 h1 (by omega)) w hF
theorem four_at (js : Nat → Bool) (i0 j N : Nat) (h : j < N) (z : Int) (hz : z = 4 * (j : Int) + 4) (y : Int) (hy : y = 4 * (j : Int)) (wv : World) :
    (Instr.slice 9 (.string ⟨(codeG js i0 N).toArray⟩) (some (.int .i64 y)) (some (.int .i64 z)) none).run Tryz.prog wv = .ok (.string ⟨(fourB (xw js i0 j).toNat).toArray⟩) wv := by
  have h := slice_at _ (codeG js i0 N) rfl (4 * j) (4 * j + 4) (by omega) (by rw [codeG_len]; omega) z (by omega) wv
  rw [show 4 * j + 4 - 4 * j = 4 by omega, codeG_at js i0 j N (by assumption), show ((4 * j : Nat) : Int) = y by omega] at h
  exact h
theorem fourX (js : Nat → Bool) (i0 j : Nat) (w : World) :
    Calls Tryz.prog 9 #[.int .u32 (((xw js i0 j).toNat : Nat) : Int)] w fun e w' => e = .returned (.string ⟨(fourB (xw js i0 j).toNat).toArray⟩) ∧ Below w.heap.size w w' :=
  fourK_any _ (by have := xw_bound js i0 j; omega) w
end Go.Proofs.YtmfookpigilccaaGreatDoor

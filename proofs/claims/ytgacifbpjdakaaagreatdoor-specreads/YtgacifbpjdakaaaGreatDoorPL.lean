/- The law's pick and near. -/
import Derived.Test.YtgacifbpjdakaaaGreatDoorM0
namespace Go.Proofs.YtgacifbpjdakaaaGreatDoor
open Go.ChangeShapes Go.WideShapes Go.ChangeAt Go.RowKit
open Go.Vx

/-- The number that pick makes. -/
def pickL (n : Int) (m : Nat) : Nat := (if n < 0 then (-(n + 1)).toNat else n.toNat) % m
/-- A number of 64 bits. -/
def I64 (n : Int) : Prop := -9223372036854775808 ≤ n ∧ n ≤ 9223372036854775807
def nearF (c : Int) (n : Nat) : Int := if c.tmod 31 = 30 then c else (pickL c (n + 2) : Nat) - 1
theorem near_i64 {c : Int} (h : I64 c) (n : Nat) (hn : n ≤ 1048576) : I64 (nearF c n) := by
  unfold nearF
  split
  · exact h
  · have : pickL c (n + 2) < n + 2 := Nat.mod_lt _ (by omega)
    unfold I64
    omega
end Go.Proofs.YtgacifbpjdakaaaGreatDoor
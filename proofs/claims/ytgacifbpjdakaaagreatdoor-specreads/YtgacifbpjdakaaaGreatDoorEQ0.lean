/- Arrays of words compared with themselves. -/
import Derived.Test.YtgacifbpjdakaaaGreatDoorM0
import Derived.ChangeKeysEq
namespace Go.Proofs.YtgacifbpjdakaaaGreatDoor
open Go.ChangeShapes Go.WideShapes Go.ChangeAt Go.RowKit
open Go.Vx
set_option linter.unusedVariables false

theorem part_u32 (xs : Array Value) (i : Nat) (a : Int) (h : xs[i]? = some (.int .u32 a)) (w : World) : (part 23 xs i).run Tryz.prog w = .ok (.int .u32 a) w := by
  simp [part, go_sem, h]
theorem eqItems_same (d : Nat) (xs : Array Value) (w : World) : ∀ (is : List Nat), (∀ i ∈ is, ∃ a : Int, xs[i]? = some (.int .u32 a)) → (Op.eqItems (d + 1) 23 1 xs xs is).run Tryz.prog w = .ok true w
  | [], _ => by simp [Op.eqItems]
  | i :: is, h => by
    obtain ⟨a, ha⟩ := h i (by simp)
    have hp : (part 23 xs (i * 1)).run Tryz.prog w = .ok (.int .u32 a) w := by rw [Nat.mul_one]; exact part_u32 xs i a ha w
    have he : (Op.equalIn (d + 1) 23 (.int .u32 a) (.int .u32 a)).run Tryz.prog w = .ok true w := by
      rw [run_equalIn_int w d 23 .u32 .u32 a a Tryz.underlying23]
      simp
    have ih := eqItems_same d xs w is (fun j hj => h j (by simp [hj]))
    simp only [Op.eqItems, Sem.run_bind, hp, he, Result.andThen_ok, Bool.not_true, Bool.false_eq_true, if_false]
    exact ih
theorem infoU32 : (Tryz.prog.info? 23).isSome = true := by kernel_rfl
theorem cU32w : Tryz.prog.cellsOf 23 = 1 := by kernel_rfl
end Go.Proofs.YtgacifbpjdakaaaGreatDoor
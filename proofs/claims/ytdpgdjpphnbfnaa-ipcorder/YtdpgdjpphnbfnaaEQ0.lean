/- Arrays of words compared with themselves. -/
import Derived.Test.YtdpgdjpphnbfnaaM0
import Derived.ChangeKeysEq
namespace Go.Proofs.Ytdpgdjpphnbfnaa
open Go.ChangeShapes Go.WideShapes Go.ChangeAt Go.RowKit
open Go.Vx
set_option linter.unusedVariables false

theorem part_u32 (xs : Array Value) (i : Nat) (a : Int) (h : xs[i]? = some (.int .u32 a)) (w : World) : (part 32 xs i).run Try.prog w = .ok (.int .u32 a) w := by
  simp [part, go_sem, h]
theorem eqItems_same (d : Nat) (xs : Array Value) (w : World) : ∀ (is : List Nat), (∀ i ∈ is, ∃ a : Int, xs[i]? = some (.int .u32 a)) → (Op.eqItems (d + 1) 32 1 xs xs is).run Try.prog w = .ok true w
  | [], _ => by simp [Op.eqItems]
  | i :: is, h => by
    obtain ⟨a, ha⟩ := h i (by simp)
    have hp : (part 32 xs (i * 1)).run Try.prog w = .ok (.int .u32 a) w := by rw [Nat.mul_one]; exact part_u32 xs i a ha w
    have he : (Op.equalIn (d + 1) 32 (.int .u32 a) (.int .u32 a)).run Try.prog w = .ok true w := by
      rw [run_equalIn_int w d 32 .u32 .u32 a a Try.underlying32]
      simp
    have ih := eqItems_same d xs w is (fun j hj => h j (by simp [hj]))
    simp only [Op.eqItems, Sem.run_bind, hp, he, Result.andThen_ok, Bool.not_true, Bool.false_eq_true, if_false]
    exact ih
theorem infoU32 : (Try.prog.info? 32).isSome = true := by kernel_rfl
theorem cU32w : Try.prog.cellsOf 32 = 1 := by kernel_rfl
theorem run_equal_words (w : World) (a b c d : Int) : (Op.equalIn 9998 33 (.agg #[.int .u32 a, .int .u32 b, .int .u32 c, .int .u32 d]) (.agg #[.int .u32 a, .int .u32 b, .int .u32 c, .int .u32 d])).run Try.prog w = .ok true w := by
  obtain ⟨i, hi⟩ := Option.isSome_iff_exists.1 infoU32
  rw [run_equalIn_array w 9997 _ _ Try.underlying33 hi, cU32w]
  refine eqItems_same 9996 _ w _ (fun i hi => ?_)
  have h4 : i < 4 := List.mem_range.1 hi
  rcases (by omega : i = 0 ∨ i = 1 ∨ i = 2 ∨ i = 3) with rfl | rfl | rfl | rfl
  · exact ⟨a, rfl⟩
  · exact ⟨b, rfl⟩
  · exact ⟨c, rfl⟩
  · exact ⟨d, rfl⟩
end Go.Proofs.Ytdpgdjpphnbfnaa

import Derived.WalkKit
import Derived.ProofKit
import Derived.ChangeKeysEq
namespace Go.Vx
variable {P : Program} {w : World}

/-- An array by value, indexed inside its bounds: elements of one cell. -/
theorem run_index_arr (t e n : Nat) (cs : Array Value) (k : IntKind) (i : Int) (h : P.underlying t = some (.array n e)) (he : P.plainKey e = true)
    (hc : P.cellsOf e = 1) (h0 : 0 ≤ i) (h1 : i < n) (hn : cs.size = n) :
    (Instr.index t (.agg cs) (.int k i)).run P w = .ok (cs.toList.getD i.toNat (.bool false)) w := by
  have hlt : i.toNat < cs.size := by omega
  obtain ⟨v, hv⟩ : ∃ v, cs[i.toNat]? = some v := ⟨cs[i.toNat], by simp [hlt]⟩
  have hr : cs.toList.getD i.toNat (.bool false) = v := by simp [hv]
  rw [hr]
  cases hti : P.info? e with
  | none => simp [Program.cellsOf, hti] at hc
  | some ti =>
    unfold Program.plainKey at he
    cases hu : P.underlying e with
    | none => simp [hu] at he
    | some d => cases d <;> simp [hu] at he <;> simp [Instr.index, asIntOf, run_underlying h, h0, h1, run_sizeOf w hti, hc, part, isAgg, run_underlying hu, hv]
end Go.Vx

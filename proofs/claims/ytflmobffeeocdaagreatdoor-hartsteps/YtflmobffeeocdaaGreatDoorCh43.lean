import Derived.Test.YtflmobffeeocdaaGreatDoorCh17
import Derived.ProofKit
import Derived.LaidMore
import Derived.OpenShut
import Derived.Stop.Joined
/- From the tied condition to the table of forms. -/
namespace Go.Proofs.YtflmobffeeocdaaGreatDoor
open Go.ChangeShapes Go.WideShapes Go.ChangeAt Go.RowKit
open Go.Vx (kindOf formOf kinds forms)

theorem gForms : Tryz.prog.globalNamed "vault/isa.forms" = some 2 := by kernel_rfl
theorem tForms : (Tryz.prog.globals[2]?).map (·.type) = some 168 := by kernel_rfl
theorem c39 : Tryz.prog.cellsOf 167 = 2 := by kernel_rfl
theorem c37 : Tryz.prog.cellsOf 165 = 1 := by kernel_rfl
theorem c22 : Tryz.prog.cellsOf 28 = 1 := by kernel_rfl
theorem forms_datum : (Rows.laid_vault_isa_forms : DataW Unit) = .agg ((List.range 49).map fun i => .agg [.lit (.int .i64 (kinds.getD i 0 : Nat)), .lit (.int .u32 (forms.getD i 0 : Nat))]) := by kernel_rfl

theorem forms_cells {W : World} {fuel : Nat} {sp : Nat → Bool} {enc : TypeId × Value → Unit} {base : Nat} {held : Bool} {cs : Array Value} {q : List MemPlace}
    (h : DataW.trod enc Tryz.prog W base sp held fuel 168 cs.toList = some (Rows.laid_vault_isa_forms, q)) (i : Nat) (hi : i < 49) :
    cs[i * 2]? = some (.int .i64 (kinds.getD i 0 : Nat)) ∧ cs[i * 2 + 1]? = some (.int .u32 (forms.getD i 0 : Nat)) := by
  obtain ⟨xs, m, _, hx, _, hlen, hel⟩ := DataW.trod_array Tryz.underlying168 h
  rw [forms_datum] at hx
  simp only [Prod.mk.injEq, DataW.agg.injEq] at hx
  have hy := hel i hi
  have hd : (xs.map (·.1))[i]? = some (.agg [.lit (.int .i64 (kinds.getD i 0 : Nat)), .lit (.int .u32 (forms.getD i 0 : Nat))]) := by
    rw [← hx.1, List.getElem?_map, List.getElem?_range hi]
    rfl
  rw [List.getElem?_map] at hd
  rw [List.getElem?_eq_getElem (by omega)] at hy hd
  simp only [Option.map_some, Option.some.injEq] at hd
  generalize xs[i] = y at hy hd
  rw [c39] at hy
  obtain ⟨y0, y1, n, hyy, _, e0, e1⟩ := trod_struct2 Tryz.underlying167 hy
  subst hyy
  simp only [DataW.agg.injEq, List.cons.injEq, and_true] at hd
  obtain ⟨d0, d1⟩ := hd
  simp only [c37, c22] at e0 e1
  obtain ⟨a, ea, rfl, _⟩ := DataW.trod_int Tryz.underlying165 e0
  obtain ⟨b, eb, rfl, _⟩ := DataW.trod_int Tryz.underlying28 e1
  simp only [DataW.lit.injEq, Lit.int.injEq, true_and] at d0 d1
  subst d0 d1
  constructor
  · have := congrArg (·[0]?) ea
    simpa [List.getElem?_take, List.getElem?_drop] using this
  · have := congrArg (·[0]?) eb
    simpa [List.getElem?_take, List.getElem?_drop] using this

/-- The variable's cells are the table's. -/
theorem formsAt_of_cells {W : World} {cs : Array Value} (hv : W.var? Tryz.prog "vault/isa.forms" = some cs)
    (h : ∀ i, i < 49 → cs[i * 2]? = some (.int .i64 (kinds.getD i 0 : Nat)) ∧ cs[i * 2 + 1]? = some (.int .u32 (forms.getD i 0 : Nat))) : FormsAt W := by
  have hc := World.var?_cell gForms hv
  refine ⟨?_, fun op h0 h1 => ?_⟩
  · have h1 := (h 0 (by omega)).1
    have h2 := hc 0
    rw [show cs[0]? = some (.int .i64 (kinds.getD 0 0 : Nat)) from h1] at h2
    rcases Nat.lt_or_ge 2 W.heap.size with h3 | h3
    · exact h3
    · have : W.heap[2]? = none := Array.getElem?_eq_none h3
      simp [World.cell?, this] at h2
  · rw [hc, hc]
    exact h op.toNat (by omega)

end Go.Proofs.YtflmobffeeocdaaGreatDoor

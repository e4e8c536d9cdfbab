/- From the tied condition to the table of uses; the door's heap has it. -/
import Derived.Test.YtflmobffeeocdaaGreatDoorN5
import Derived.Test.YtflmobffeeocdaaGreatDoorPat0
import Derived.Test.YtflmobffeeocdaaGreatDoorCards
import Derived.Test.YtflmobffeeocdaaGreatDoorTie
import Derived.ProofKit
import Derived.LaidMore
import Derived.OpenShut
import Derived.Stop.Joined
import Derived.SevenTiedAt
import Derived.Deep.Strs
namespace Go.Proofs.YtflmobffeeocdaaGreatDoor
open Go.ChangeShapes Go.WideShapes Go.ChangeAt Go.RowKit Go.Deep
open Go.Vx

theorem gUses : Tryz.prog.globalNamed "vault/mmu.uses" = some 0 := by kernel_rfl
theorem tUses : (Tryz.prog.globals[0]?).map (·.type) = some 111 := by kernel_rfl
theorem cUse : Tryz.prog.cellsOf 110 = 3 := by kernel_rfl
theorem cU32 : Tryz.prog.cellsOf 28 = 1 := by kernel_rfl
theorem uses_datum : (Rows.laid_vault_mmu_uses : DataW Unit) = .agg ((List.range 3).map fun i => .agg [.lit (.int .u32 (needN i : Nat)), .lit (.int .i64 (pageC i : Nat)), .lit (.int .i64 (accC i : Nat))]) := by kernel_rfl
theorem uses_cells {W : World} {fuel : Nat} {sp : Nat → Bool} {enc : TypeId × Value → Unit} {base : Nat} {held : Bool} {cs : Array Value} {q : List MemPlace}
    (h : DataW.trod enc Tryz.prog W base sp held fuel 111 cs.toList = some (Rows.laid_vault_mmu_uses, q)) (i : Nat) (hi : i < 3) :
    cs[i * 3]? = some (.int .u32 (needN i : Nat)) ∧ cs[i * 3 + 1]? = some (.int .i64 (pageC i : Nat)) ∧ cs[i * 3 + 2]? = some (.int .i64 (accC i : Nat)) := by
  obtain ⟨xs, m, _, hx, _, hlen, hel⟩ := DataW.trod_array Tryz.underlying111 h
  rw [uses_datum] at hx
  simp only [Prod.mk.injEq, DataW.agg.injEq] at hx
  have hy := hel i hi
  have hd : (xs.map (·.1))[i]? = some (.agg [.lit (.int .u32 (needN i : Nat)), .lit (.int .i64 (pageC i : Nat)), .lit (.int .i64 (accC i : Nat))]) := by
    rw [← hx.1, List.getElem?_map, List.getElem?_range hi]
    rfl
  rw [List.getElem?_map] at hd
  rw [List.getElem?_eq_getElem (by omega)] at hy hd
  simp only [Option.map_some, Option.some.injEq] at hd
  generalize xs[i] = y at hy hd
  rw [cUse] at hy
  obtain ⟨y0, y1, y2, n, hyy, _, e0, e1, e2⟩ := trod_struct3 Tryz.underlying110 hy
  subst hyy
  simp only [DataW.agg.injEq, List.cons.injEq, and_true] at hd
  obtain ⟨d0, d1, d2⟩ := hd
  simp only [cU32, cInt] at e0 e1 e2
  obtain ⟨a, ea, rfl, _⟩ := DataW.trod_int Tryz.underlying28 e0
  obtain ⟨b, eb, rfl, _⟩ := DataW.trod_int Tryz.underlying3 e1
  obtain ⟨c, ec, rfl, _⟩ := DataW.trod_int Tryz.underlying3 e2
  simp only [DataW.lit.injEq, Lit.int.injEq, true_and] at d0 d1 d2
  subst d0 d1 d2
  refine ⟨?_, ?_, ?_⟩
  · have := congrArg (·[0]?) ea
    simpa [List.getElem?_take, List.getElem?_drop] using this
  · have := congrArg (·[0]?) eb
    simpa [List.getElem?_take, List.getElem?_drop] using this
  · have := congrArg (·[0]?) ec
    simpa [List.getElem?_take, List.getElem?_drop] using this
theorem usesAt_of_laid {W : World} (h : laidMetH Tryz.prog [("vault/mmu.uses", Rows.laid_vault_mmu_uses)] W) : UsesAt W := by
  rw [MakeChecks.laidMetH_plain _ _ _ (by kernel_rfl)] at h
  obtain ⟨ps, ⟨g0, t0, cs0, f0, p0, q0, hg0, ht0, hv0, hd0, _⟩, _⟩ := h
  obtain rfl := Option.some.inj (gUses.symm.trans hg0)
  obtain rfl := Option.some.inj (tUses.symm.trans ht0)
  have hc := World.var?_cell gUses hv0
  intro u hu
  rw [hc, hc, hc]
  exact uses_cells hd0 u hu
/-- The door's own heap meets the condition. -/
theorem uses_met (os : Os) (args : Array Value) : laidMetH Tryz.prog [("vault/mmu.uses", Rows.laid_vault_mmu_uses)] ((World.doorLaid Tryz.prog 400 os).forCall (fun _ _ => 0) ⟨#[], args, []⟩).memory :=
  laidMetH_of_parts3 (fuel := 8) (laidMet_of_run' 8 (by kernel_rfl) (by kernel_rfl)) (by kernel_rfl) (by kernel_rfl)
/-- The three listed tables. -/
abbrev laid3 : List (String × DataW Unit) := [("vault/mmu.uses", Rows.laid_vault_mmu_uses), ("vault/isa.forms", Rows.laid_vault_isa_forms), ("vault/hart.misaligned", Rows.laid_vault_hart_misaligned)]
/-- The first of them. -/
theorem usesAt_of_laid3 {W : World} (h : laidMetH Tryz.prog laid3 W) : UsesAt W := by
  rw [MakeChecks.laidMetH_plain _ _ _ (by kernel_rfl)] at h
  obtain ⟨ps, ⟨g0, t0, cs0, f0, p0, q0, hg0, ht0, hv0, hd0, _⟩, _⟩ := h
  obtain rfl := Option.some.inj (gUses.symm.trans hg0)
  obtain rfl := Option.some.inj (tUses.symm.trans ht0)
  have hc := World.var?_cell gUses hv0
  intro u hu
  rw [hc, hc, hc]
  exact uses_cells hd0 u hu
/-- The door's own heap meets the condition on the three. -/
theorem laid3_met (os : Os) (args : Array Value) : laidMetH Tryz.prog laid3 ((World.doorLaid Tryz.prog 400 os).forCall (fun _ _ => 0) ⟨#[], args, []⟩).memory :=
  laidMetH_of_parts3 (fuel := 8) (laidMet_of_run' 8 (by kernel_rfl) (by kernel_rfl)) (by kernel_rfl) (by kernel_rfl)
end Go.Proofs.YtflmobffeeocdaaGreatDoor

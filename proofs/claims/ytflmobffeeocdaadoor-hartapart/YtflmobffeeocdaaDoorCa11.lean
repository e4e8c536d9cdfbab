import Derived.Test.YtflmobffeeocdaaDoorCa6
import Derived.Deep.SlicePairs
import Derived.ChangeMaps5
import Derived.Test.YtflmobffeeocdaaDoorCa10
import Derived.Test.YtflmobffeeocdaaDoorCards
import Derived.Test.YtflmobffeeocdaaDoorTie
import Derived.ProofKit
import Derived.LaidMore
import Derived.OpenShut
import Derived.Stop.Joined
import Derived.SevenTiedAt
import Derived.Deep.Strs
/- MemLast's walk: the law's own bytes beside the memory's. -/
namespace Go.Vx
/-- copy out of a string, as one operation. -/
theorem wpList_copy_str {P : Program} {w : World} {ops : Array Oper} {rest : List Oper} {o : Oper} {a : Act} {Q : Exit → Act → World → Prop} (hgd : o.guard = none) (d x : Operand) (dT sT : TypeId)
    (ho : o.op = .call { callee := .builtin .copy, args := #[d, x], argTypes := #[dT, sT] }) (elem : TypeId) (hu : P.underlying dT = some (.slice elem)) (hsz : (P.info? elem).map (·.size) = some 1)
    (g off dLen dCap : Nat) (s : List UInt8) (hd : a.eval d = .slice (some ⟨g, off, none⟩) dLen dCap) (hs : a.eval x = .string ⟨s.toArray⟩)
    (cur : List Value) (t : TypeId) (hg : w.heap[g]? = some (.cells cur.toArray t (0, 0))) (hfit : off + (s.take dLen).length ≤ cur.length)
    (c : Nat) (hc : (s.take dLen).length = c) (R : World → Prop) (hR : R (w.setRow g (splice cur off ((s.take dLen).map byteV)).toArray)) (h : ∀ w', R w' → wpList P ops Q rest (a.put o.dst (goInt c)) w') : wpList P ops Q (o :: rest) a w := by
  refine wpList_plain hgd fun K hK => ?_
  have hrun := run_copy_str (P := P) w dT sT o.type elem g off dLen dCap s cur t hu hsz hg hfit
  rw [hc] at hrun
  generalize w.setRow g (splice cur off ((s.take dLen).map byteV)).toArray = w2 at hrun hR
  unfold Oper.wp
  simp [execOp, ho, resolve, invoke, builtin, hd, hs, hrun, Result.andThen]
  exact hK _ _ (h _ hR)
end Go.Vx
namespace Go.Proofs.YtflmobffeeocdaaDoor
open Go.ChangeShapes Go.WideShapes Go.ChangeAt Go.RowKit
open Go.Vx

/-- Patches where they lie. -/
def PatAt (w : World) (pa : Option Addr) (zs : List (Int × List UInt8)) : Prop :=
  zs = [] ∨ ∃ ab ao, pa = some ⟨ab, ao, none⟩ ∧ ∀ (j : Nat) (h : j < zs.length), w.cell? ⟨ab, ao + j * 2, none⟩ = some (.int .i64 (zs[j]).1) ∧ w.cell? ⟨ab, ao + j * 2 + 1, none⟩ = some (.string ⟨(zs[j]).2.toArray⟩)
/-- A block that was made behind a memory is none of its own. -/
theorem MemAt.beside {U : Nat → Prop} {w : World} {bm n : Nat} {f : Nat → UInt8} (h : MemAt U w bm n f) (o : Obj) : MemAt (fun k => U k ∨ k = w.heap.size) (w.alloc o) bm n f := by
  obtain ⟨bp, q, h⟩ := h
  have hk : ∀ b x, w.heap[b]? = some x → (w.alloc o).heap[b]? = some x := fun b x hb => by
    rw [RowKit.Below.heap_alloc _ _ _ (lt_of_some hb)]; exact hb
  have hs : ∀ b x, w.heap[b]? = some x → ¬ U b → ¬ (U b ∨ b = w.heap.size) := fun b x hb hu hc => by
    have := lt_of_some hb
    rcases hc with hc | hc
    · exact hu hc
    · omega
  refine ⟨bp, q, h.pos, h.top, hk _ _ h.m, hk _ _ h.p, h.nil, fun i hi b hb => hk _ _ (h.pg i hi b hb), h.inj, hs _ _ h.m h.um, hs _ _ h.p h.up, fun i b hi hb => hs _ _ (h.pg i hi b hb) (h.ug i b hi hb), ?_⟩
  intro k hk
  simp
  rcases hk with hk | hk
  · have := h.low k hk; omega
  · omega
end Go.Proofs.YtflmobffeeocdaaDoor

/- Small facts of the program and of values. -/
namespace Go.Proofs.YtflmobffeeocdaaDoor
open Go.ChangeShapes Go.WideShapes Go.ChangeAt Go.RowKit Go.Deep
open Go.Vx

theorem own : ownKnob Tryd.prog.godebug = none := by kernel_rfl
theorem laidOut : laidOutB Tryd.prog = true := by kernel_rfl
theorem cInt : Tryd.prog.cellsOf 3 = 1 := by kernel_rfl
theorem cStr : Tryd.prog.cellsOf 9 = 1 := by kernel_rfl
def numOf : Value → Int
  | .int _ n => n
  | _ => 0
def strOf : Value → List UInt8
  | .string s => s.data.toList
  | _ => []
end Go.Proofs.YtflmobffeeocdaaDoor

/- From the tied condition to the table of uses; the door's heap has it. -/
namespace Go.Proofs.YtflmobffeeocdaaDoor
open Go.ChangeShapes Go.WideShapes Go.ChangeAt Go.RowKit Go.Deep
open Go.Vx

theorem gUses : Tryd.prog.globalNamed "vault/mmu.uses" = some 2 := by kernel_rfl
theorem tUses : (Tryd.prog.globals[2]?).map (·.type) = some 110 := by kernel_rfl
theorem cUse : Tryd.prog.cellsOf 109 = 3 := by kernel_rfl
theorem cU32 : Tryd.prog.cellsOf 23 = 1 := by kernel_rfl
theorem uses_datum : (Rows.laid_vault_mmu_uses : DataW Unit) = .agg ((List.range 3).map fun i => .agg [.lit (.int .u32 (needN i : Nat)), .lit (.int .i64 (pageC i : Nat)), .lit (.int .i64 (accC i : Nat))]) := by kernel_rfl
theorem uses_cells {W : World} {fuel : Nat} {sp : Nat → Bool} {enc : TypeId × Value → Unit} {base : Nat} {held : Bool} {cs : Array Value} {q : List MemPlace}
    (h : DataW.trod enc Tryd.prog W base sp held fuel 110 cs.toList = some (Rows.laid_vault_mmu_uses, q)) (i : Nat) (hi : i < 3) :
    cs[i * 3]? = some (.int .u32 (needN i : Nat)) ∧ cs[i * 3 + 1]? = some (.int .i64 (pageC i : Nat)) ∧ cs[i * 3 + 2]? = some (.int .i64 (accC i : Nat)) := by
  obtain ⟨xs, m, _, hx, _, hlen, hel⟩ := DataW.trod_array Tryd.underlying110 h
  rw [uses_datum] at hx
  simp only [Prod.mk.injEq, DataW.agg.injEq] at hx
  have hy := hel i hi
  have hd : (xs.map (·.1))[i]? = some (.agg [.lit (.int .u32 (needN i : Nat)), .lit (.int .i64 (pageC i : Nat)), .lit (.int .i64 (accC i : Nat))]) := by
    rw [← hx.1, List.getElem?_map, List.getElem?_range hi]
    rfl
  rw [List.getElem?_map] at hd
  rw [List.getElem?_eq_getElem (by omega)] at hy hd
  simp only [Option.map_some, Option.some.injEq] at hd
  generalize xs[i] = y at hy hd
  rw [cUse] at hy
  obtain ⟨y0, y1, y2, n, hyy, _, e0, e1, e2⟩ := trod_struct3 Tryd.underlying109 hy
  subst hyy
  simp only [DataW.agg.injEq, List.cons.injEq, and_true] at hd
  obtain ⟨d0, d1, d2⟩ := hd
  simp only [cU32, cInt] at e0 e1 e2
  obtain ⟨a, ea, rfl, _⟩ := DataW.trod_int Tryd.underlying23 e0
  obtain ⟨b, eb, rfl, _⟩ := DataW.trod_int Tryd.underlying3 e1
  obtain ⟨c, ec, rfl, _⟩ := DataW.trod_int Tryd.underlying3 e2
  simp only [DataW.lit.injEq, Lit.int.injEq, true_and] at d0 d1 d2
  subst d0 d1 d2
  refine ⟨?_, ?_, ?_⟩
  · have := congrArg (·[0]?) ea
    simpa [List.getElem?_take, List.getElem?_drop] using this
  · have := congrArg (·[0]?) eb
    simpa [List.getElem?_take, List.getElem?_drop] using this
  · have := congrArg (·[0]?) ec
    simpa [List.getElem?_take, List.getElem?_drop] using this
theorem usesAt_of_laid {W : World} (h : laidMetH Tryd.prog [("vault/mmu.uses", Rows.laid_vault_mmu_uses)] W) : UsesAt W := by
  rw [MakeChecks.laidMetH_plain _ _ _ (by kernel_rfl)] at h
  obtain ⟨ps, ⟨g0, t0, cs0, f0, p0, q0, hg0, ht0, hv0, hd0, _⟩, _⟩ := h
  obtain rfl := Option.some.inj (gUses.symm.trans hg0)
  obtain rfl := Option.some.inj (tUses.symm.trans ht0)
  have hc := World.var?_cell gUses hv0
  intro u hu
  rw [hc, hc, hc]
  exact uses_cells hd0 u hu
/-- The door's own heap meets the condition. -/
theorem uses_met (os : Os) (args : Array Value) : laidMetH Tryd.prog [("vault/mmu.uses", Rows.laid_vault_mmu_uses)] ((World.doorLaid Tryd.prog 400 os).forCall (fun _ _ => 0) ⟨#[], args, []⟩).memory :=
  laidMetH_of_parts3 (fuel := 8) (laidMet_of_run' 8 (by kernel_rfl) (by kernel_rfl)) (by kernel_rfl) (by kernel_rfl)
/-- The three listed tables. -/
abbrev laid3 : List (String × DataW Unit) := [("vault/mmu.uses", Rows.laid_vault_mmu_uses), ("vault/isa.forms", Rows.laid_vault_isa_forms), ("vault/hart.misaligned", Rows.laid_vault_hart_misaligned)]
/-- The first of them. -/
theorem usesAt_of_laid3 {W : World} (h : laidMetH Tryd.prog laid3 W) : UsesAt W := by
  rw [MakeChecks.laidMetH_plain _ _ _ (by kernel_rfl)] at h
  obtain ⟨ps, ⟨g0, t0, cs0, f0, p0, q0, hg0, ht0, hv0, hd0, _⟩, _⟩ := h
  obtain rfl := Option.some.inj (gUses.symm.trans hg0)
  obtain rfl := Option.some.inj (tUses.symm.trans ht0)
  have hc := World.var?_cell gUses hv0
  intro u hu
  rw [hc, hc, hc]
  exact uses_cells hd0 u hu
/-- The door's own heap meets the condition on the three. -/
theorem laid3_met (os : Os) (args : Array Value) : laidMetH Tryd.prog laid3 ((World.doorLaid Tryd.prog 400 os).forCall (fun _ _ => 0) ⟨#[], args, []⟩).memory :=
  laidMetH_of_parts3 (fuel := 8) (laidMet_of_run' 8 (by kernel_rfl) (by kernel_rfl)) (by kernel_rfl) (by kernel_rfl)
end Go.Proofs.YtflmobffeeocdaaDoor

/- From the listed variables to what the walks ask; the wrap that hands the world's shape on. -/
import Derived.Test.YtmfookpigilccaaGreatDoorQ23
import Derived.Test.YtmfookpigilccaaGreatDoorLaid
import Derived.Test.YtmfookpigilccaaGreatDoorCards
import Derived.Test.YtmfookpigilccaaGreatDoorTie
import Derived.Lay
import Derived.LaidOnce
import Derived.SevenTiedAt
import Derived.HandedShaped
import Derived.Shelf.Vars
import Derived.Lib.LaidU8
import Derived.ChangeSlices
import Derived.Carry
namespace Go.Vx
variable {H : Type} {enc : TypeId × Value → H}
theorem handed_shaped_and {a : Assume} {C : Checked} {os : Os} {f : FuncId} {fn : Func} {s : ChangeSpec} {conds : List PathCond} {apart fresh handsOn again : Bool} {X : World → Array Value → Prop}
    (hX : ∀ (w w' : World) (args : Array Value), w.heap = w'.heap → X w args → X w' args)
    (own : ownKnob C.prog.godebug = none) (started : os.Started) (noInit : C.prog.inits.idxOf? f = none) (hfn : C.prog.funcs[f]? = some fn)
    (witness : ∃ (w : World) (tape : Tape) (i : Input), w.os = os ∧ (w.forCall tape i).Shaped C.prog ∧ i.vars = [] ∧ Input.okWide C.prog (w.forCall tape i) .any w.heap.size f i ∧
      ((s.pre enc C.prog fn conds apart (w.forCall tape i).memory i.args ∧ X (w.forCall tape i).memory i.args) ∧ sizedMet enc C.prog fn (OpenSpec.ofChange s) apart (w.forCall tape i).memory i.args) ∧ a.holds C.prog (lone (Frame.enter C.prog f i.args .normal) [] (w.forCall tape i)))
    (contract : ∀ (W : World) (base : Nat) (args : Array Value) (ds gs : List (DataW H)) (before : List MemPlace),
      (∀ (j : Nat) t v, fn.params[j]? = some t → args[j]? = some v → Value.okWide C.prog W .any base t v) →
      DataW.Whole enc C.prog fn.params.toList s.vars apart W args.toList ds gs before → X W args → W.ShapedOpen C.prog →
      Calls C.prog f args W fun e W' => ∃ v, e = .returned v ∧ s.post enc C.prog fn apart fresh handsOn again W args v W') :
    ReturnsInHanded a C os f .any (fun w args => (s.pre enc C.prog fn conds apart w args ∧ X w args) ∧ sizedMet enc C.prog fn (OpenSpec.ofChange s) apart w args) (s.post enc C.prog fn apart fresh handsOn again) := by
  refine returnsInHanded_of_calls own started noInit witness ?_
  intro w tape i _ hsh _ hok hpre _
  obtain ⟨_, _, _, fn', hfn', _, _, _, _, hval⟩ := hok
  have e : fn' = fn := Option.some.inj (hfn'.symm.trans hfn)
  subst e
  obtain ⟨⟨⟨ds, gs, before, hw, _⟩, hx⟩, _⟩ := hpre
  have hw' := DataW.Whole.of_heap (w' := w.forCall tape i) (by rfl) hw
  refine (contract (w.forCall tape i) w.heap.size i.args ds gs before hval hw' (hX _ _ _ (by rfl) hx) hsh).mono fun e W' ⟨v, he, hp⟩ => ?_
  subst he
  exact ChangeSpec.post_blind hp
end Go.Vx
namespace Go.Proofs.YtmfookpigilccaaGreatDoor
open Go.ChangeShapes Go.WideShapes Go.ChangeAt Go.RowKit Go.Sort Go.Shelf

abbrev laid8 : List (String × DataW Unit) := Rows.asmRoundRow.laid
theorem tPow8 : (Tryz.prog.globals[2]?).map (·.type) = some 131 := by kernel_rfl
theorem pow_datum8 : (Rows.laid_internal_strconv_uint64pow10 : DataW Unit) = Lib.tabData .u64 Lib.pow10Tab := by kernel_rfl
theorem of_laid8 {W : World} (h : laidMetH Tryz.prog laid8 W) : FormsAt W ∧ PowAt W := by
  rw [MakeChecks.laidMetH_plain _ _ _ (by kernel_rfl)] at h
  obtain ⟨g3, t3, cs3, f3, p3, hg3, ht3, hv3, hd3⟩ := Lib.laidMet.reads h (n := "vault/isa.forms") (d := Rows.laid_vault_isa_forms) (by simp [laid8, Rows.asmRoundRow])
  obtain ⟨g2, t2, cs2, f2, p2, hg2, ht2, hv2, hd2⟩ := Lib.laidMet.reads h (n := "internal/strconv.uint64pow10") (d := Rows.laid_internal_strconv_uint64pow10) (by simp [laid8, Rows.asmRoundRow])
  obtain rfl := Option.some.inj (gForms.symm.trans hg3)
  obtain rfl := Option.some.inj (tForms.symm.trans ht3)
  obtain rfl := Option.some.inj (gPow.symm.trans hg2)
  obtain rfl := Option.some.inj (tPow8.symm.trans ht2)
  refine ⟨formsAt_of_cells hv3 (forms_cells hd3), ?_⟩
  rw [pow_datum8] at hd2
  have := Lib.cells_of_tab Tryz.underlying131 Tryz.underlying62 (by kernel_rfl) (by kernel_rfl) hd2
  show W.var? Tryz.prog "internal/strconv.uint64pow10" = some (Lib.pow10Tab.map fun z => Value.int .u64 z).toArray
  rw [hv2, ← this]
theorem max_of_shape {W : World} (h : W.ShapedOpen Tryz.prog) : ∃ m, MaxAt m W :=
  cell_of_shapedOpen_int (t := 3) (zero := #[.int .i64 0]) h (by decide) (by kernel_rfl) rfl (by kernel_rfl) (by kernel_rfl) Tryz.underlying3
theorem cells28 : Tryz.prog.cellsOf 28 = 1 := by kernel_rfl
theorem laidOut : laidOutB Tryz.prog = true := by kernel_rfl
/-- AsmRound, with what is listed. -/
theorem asmRound_call (W : World) (hF : FormsAt W) (hP : PowAt W) (hsh : W.ShapedOpen Tryz.prog) (pa : Option Addr) (len cap : Nat) (zs : List Int) (hl : len ≤ zs.length) (hcap : len ≤ cap) (hm : cap ≤ maxLen)
    (hcell : len = 0 ∨ ∃ a, pa = some a ∧ ∀ i, i < zs.length → W.cell? (a.add i) = some (.int .u32 (zs.getD i 0))) (hwz : ∀ n ∈ zs, (Lit.int .u32 n).wf = true) :
    Calls Tryz.prog 4 #[.slice pa len cap] W fun e w' => e = .returned (.bool true) ∧ Below W.heap.size W w' := by
  obtain ⟨mx, hmx⟩ := max_of_shape hsh
  have hg : 1 < W.heap.size := World.block_lt_of_cell? W ⟨1, 0, none⟩ hmx
  have hb : ∀ z ∈ zs, 0 ≤ z ∧ z < 4294967296 := fun z hz => by
    have := bounds_u32 (hwz z hz)
    omega
  have hlen : ((zs.take len).map Int.toNat).length = len := by simp; omega
  have h := asmRound_walk ((zs.take len).map Int.toNat) (fun x hx => by
      rw [List.mem_map] at hx
      obtain ⟨z, hz, rfl⟩ := hx
      have := hb z (List.mem_of_mem_take hz)
      omega) pa cap (by rw [hlen]; exact hcap) (by unfold maxLen at hm; omega) mx W (by
      rcases hcell with h0 | ⟨a, ha, hc⟩
      · left; rw [h0]; simp
      · refine Or.inr ⟨a, ha, fun j hj => ?_⟩
        have hj2 : j < len := by rw [hlen] at hj; exact hj
        have hjz : j < zs.length := by omega
        rw [hc j hjz]
        have hz := hb zs[j] (List.getElem_mem _)
        simp [List.getD, List.getElem?_eq_getElem hjz]
        omega) hF hP hmx hg
  rw [hlen] at h
  exact h
end Go.Proofs.YtmfookpigilccaaGreatDoor

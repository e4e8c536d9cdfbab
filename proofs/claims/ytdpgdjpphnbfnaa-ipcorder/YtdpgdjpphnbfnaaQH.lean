/- A list of numbers that grows in a box, round by round of a range over a function. -/
import Derived.Test.YtdpgdjpphnbfnaaMP
import Derived.RangeFuncNested
import Derived.RangeFuncBound
import Derived.RangeFuncCalls
import Derived.RangeFuncLeaves
import Derived.Shelf.Abstract
import Derived.Shelf.RegionOpen
import Derived.WalkKit
import Derived.OwnWalkIn
import Derived.TacticsInMore
import Derived.LoopNIn
import Derived.LoopIn
import Derived.RegionIn
namespace Go.Proofs.Ytdpgdjpphnbfnaa
open Go.ChangeShapes Go.WideShapes Go.ChangeAt Go.RowKit Go.Shelf
open Go.Vx
set_option linter.unusedVariables false
attribute [local go_sem] Oper.semAt_some
theorem inK : Kind Try.prog inL 51 3 := kind_of (z := .int .i64 0) (b := 8) Try.underlying51 (by kernel_rfl) rfl (by decide)
theorem only_of_row {W W2 : World} {row : Option Nat} (hg : W.grownBy W2 row) : Only (fun k => row = some k) W W2 := ⟨hg.os, hg.tape, hg.output, hg.size, fun k hk hn => hg.block k hk (fun e => hn e.symm)⟩
theorem cells_of_own {α : Type} {L : Lay α} {W : World} {base k : Nat} {e : TypeId} {v : Value} {xs : List α} (h : OwnL L W base e v xs) (hk : v.ownBlock = some k) {o : Obj} (ho : W.heap[k]? = some o) : o.isCells = true := by
  obtain ⟨cur, hc⟩ := own_tag h hk
  rw [hc] at ho
  injection ho with ho
  subst ho
  rfl
/-- What stands between the rounds. -/
structure QuI (w4 : World) (lb : Nat) (ns : List Int) (W : World) : Prop where
  on : Only (fun k => k = lb) w4 W
  bx : ∃ v, W.heap[lb]? = some (.cells #[v] 51 (0, 0)) ∧ OwnL inL W w4.heap.size 3 v ns
theorem QuI.grow {w4 W W2 : World} {lb : Nat} {ns : List Int} {row : Option Nat} (h : QuI w4 lb ns W) (hg : W.grownBy W2 row) (hr : ∀ r, row = some r → w4.heap.size ≤ r ∧ ∃ o : Obj, W.heap[r]? = some o ∧ o.isCells = false) : QuI w4 lb ns W2 := by
  have ho := only_of_row hg
  obtain ⟨v, hb, hv⟩ := h.bx
  refine ⟨⟨ho.os.trans h.on.os, ho.tape.trans h.on.tape, ho.output.trans h.on.output, Nat.le_trans h.on.size ho.size, fun k hk hn => (ho.block k (Nat.lt_of_lt_of_le hk h.on.size) (fun e => by have := (hr k e).1; omega)).trans (h.on.block k hk hn)⟩, v, Only.keep ho hb (fun e => ?_), hv.kept ho (fun k hk e => ?_)⟩
  · obtain ⟨_, o, ho1, ho2⟩ := hr lb e
    rw [hb] at ho1
    injection ho1 with ho1
    subst ho1
    cases ho2
  · obtain ⟨_, o, ho1, ho2⟩ := hr k e
    rw [cells_of_own hv hk ho1] at ho2
    cases ho2
/-- One round. -/
theorem QuI.push {w4 W : World} {lb : Nat} {ns : List Int} (h : QuI w4 lb ns W) (hn : ns.length ≤ 1000000) (x : Int) : ∃ q m c v' W1, W.cell? ⟨lb, 0, none⟩ = some (.slice q m c) ∧ lb < W.heap.size ∧ (∀ ty, (Builtin.append_ #[51, 51] ty #[.slice q m c, .slice (some ⟨W.heap.size, 0, none⟩) 1 1]).run Try.prog (W.drew.alloc (.cells #[.int .i64 x] 3)) = .ok v' W1) ∧ (∃ y, W1.cell? ⟨lb, 0, none⟩ = some y) ∧ W1.frozen? ⟨lb, 0, none⟩ = false ∧ (∃ q m c, v' = .slice q m c) ∧ QuI w4 lb (ns ++ [x]) (W1.setCell ⟨lb, 0, none⟩ v') ∧ (∀ b c t, W.heap[b]? = some (.cells c t (0, 0)) → b ≠ lb → t ≠ 3 → (W1.setCell ⟨lb, 0, none⟩ v').heap[b]? = W.heap[b]?) ∧ KeepsFrom w4.heap.size W (W1.setCell ⟨lb, 0, none⟩ v') := by
  obtain ⟨v, hb, hv⟩ := h.bx
  obtain ⟨q, c, rfl, _⟩ := hv.form
  have ha : Only (fun _ => False) W (W.drew.alloc (.cells #[.int .i64 x] 3)) := ((Only.refl _ W).drew).alloc _
  have hva := hv.kept ha (fun _ _ h => h)
  have hcx : (W.drew.alloc (.cells #[.int .i64 x] 3)).heap[W.heap.size]? = some (.cells #[.int .i64 x] 3 (0, 0)) := heap_alloc_last W.drew _
  have hrn := fun ty => run_append_many inK (W.drew.alloc (.cells #[.int .i64 x] 3)) ty w4.heap.size _ ns hva (some ⟨W.heap.size, 0, none⟩) 1 [x] (fun _ => ⟨_, rfl, fun j u hj => by
    have e1 : fl inL [x] = [.int .i64 x] := rfl
    rw [e1] at hj
    rw [addr_add, Nat.zero_add, cell_of_row _ _ j _ _ (0, 0) hcx]
    simpa using hj⟩) (by simp; omega) (Nat.le_trans h.on.size ha.size)
  obtain ⟨v', W1, hr0, h2, h3, h4⟩ := hrn 0
  have hrun : ∀ ty, (Builtin.append_ #[51, 51] ty #[.slice q ns.length c, .slice (some ⟨W.heap.size, 0, none⟩) 1 1]).run Try.prog (W.drew.alloc (.cells #[.int .i64 x] 3)) = .ok v' W1 := fun ty => hr0
  have hbn : ∀ k, (Value.slice q ns.length c).ownBlock = some k → k ≠ lb := fun k hk e => by
    obtain ⟨cur, hc⟩ := own_tag hv hk
    exact tag_ne hc hb (by decide) e
  have o1 := (ha.mono (fun _ _ h => h.elim)).trans h3
  have hb1 := Only.keep o1 hb (fun e => hbn lb e rfl)
  have o2 : Only (fun k => k = lb) W1 (W1.setCell ⟨lb, 0, none⟩ v') := Only.setCell (S := fun k => k = lb) (Only.refl _ _) (Or.inl rfl) _
  have hlies := lies_of h4
  have hvn : ∀ k, v'.ownBlock = some k → k ≠ lb := fun k hk e => by
    obtain ⟨cur, hc⟩ := own_tag h2 hk
    exact tag_ne hc hb1 (by decide) e
  obtain ⟨q', c', hv', _⟩ := h2.form
  have oo : Only (fun k => k = lb ∨ (Value.slice q ns.length c).ownBlock = some k) W (W1.setCell ⟨lb, 0, none⟩ v') := (o1.mono (fun _ _ h => Or.inr h)).trans (o2.mono (fun _ _ h => Or.inl h))
  refine ⟨q, ns.length, c, v', W1, (cell_of_row _ _ 0 _ _ (0, 0) hb).trans rfl, lt_of_some hb, hrun, ⟨_, (cell_of_row _ _ 0 _ _ (0, 0) hb1).trans rfl⟩, by simp [World.frozen?, hb1], ⟨_, _, _, hv'⟩, ⟨⟨oo.os.trans h.on.os, oo.tape.trans h.on.tape, oo.output.trans h.on.output, Nat.le_trans h.on.size oo.size, fun k hk hn => ?_⟩, v', ?_, ?_⟩, fun b cc t hbb hne ht => ?_, ⟨oo.size, fun k o hBk hk hoc => ?_⟩⟩
  · refine (oo.block k (Nat.lt_of_lt_of_le hk h.on.size) (fun e => ?_)).trans (h.on.block k hk hn)
    rcases e with e | e
    · exact hn e
    · have := (own_lt hv e).1
      omega
  · rw [heap_setCell_same _ _ 0 _ _ v' hb1]; rfl
  · exact OwnL.kept h2 o2 (fun k hk e => hvn k hk e)
  · refine oo.block b (lt_of_some hbb) (fun e => ?_)
    rcases e with e | e
    · exact hne e
    · obtain ⟨cur, hc⟩ := own_tag hv e
      exact tag_ne hbb hc ht rfl
  · rw [oo.block k (lt_of_some hk) (fun e => by
      rcases e with e | e
      · rw [e, hb] at hk
        injection hk with hk
        subst hk
        cases hoc
      · rw [cells_of_own hv e hk] at hoc
        cases hoc)]
    exact hk
theorem stepIn_append_run {F : Fence} {n : Nat} {P : Program} {w : World} {ops : Array Oper} {o : Oper} {a : Act} {K : Act → World → Prop} {Q : Exit → Act → World → Prop} {E : Prop}
    (hg : o.guard = none) (s x : Operand) (t : TypeId) (hop : o.op = Op.call { callee := Callee.builtin Builtin.append, args := #[s, x], argTypes := #[t, t] })
    (v xv v2 : Value) (w2 : World) (hs : a.eval s = v) (hx : a.eval x = xv) (hrun : (Builtin.append_ #[t, t] o.type #[v, xv]).run P w = .ok v2 w2) (hK : K (a.put o.dst v2) w2) :
    if Region.wanted o (yielded ops a.tmps) = true then Oper.wpIn F n P o a w K Q else E := by
  have hw : Region.wanted o (yielded ops a.tmps) = true := by simp [Region.wanted, hg]
  rw [if_pos hw]
  unfold Oper.wpIn
  refine ⟨?_, ?_⟩
  · simp [Oper.about, hop, resolve, Target.leads, Sem.run_pure]
  · rw [Oper.semAt_plain F _ _ (by rw [hop]; intro c hc'; cases hc')]
    simp [execOp, hop, resolve, invoke, builtin, hs, hx, hrun, Result.andThen]
    exact hK
end Go.Proofs.Ytdpgdjpphnbfnaa

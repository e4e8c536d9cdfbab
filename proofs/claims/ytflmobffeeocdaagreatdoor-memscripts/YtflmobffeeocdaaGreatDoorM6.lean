/- MemLast's walk: the law's own bytes beside the memory's. -/
import Derived.Test.YtflmobffeeocdaaGreatDoorM5
namespace Go.Vx
/-- copy out of a string, as one operation. -/
theorem wpList_copy_str {P : Program} {w : World} {ops : Array Oper} {rest : List Oper} {o : Oper} {a : Act} {Q : Exit → Act → World → Prop} (hgd : o.guard = none) (d x : Operand) (dT sT : TypeId)
    (ho : o.op = .call { callee := .builtin .copy, args := #[d, x], argTypes := #[dT, sT] }) (elem : TypeId) (hu : P.underlying dT = some (.slice elem)) (hsz : (P.info? elem).map (·.size) = some 1)
    (g off dLen dCap : Nat) (s : List UInt8) (hd : a.eval d = .slice (some ⟨g, off, none⟩) dLen dCap) (hs : a.eval x = .string ⟨s.toArray⟩)
    (cur : List Value) (t : TypeId) (hg : w.heap[g]? = some (.cells cur.toArray t (0, 0))) (hfit : off + (s.take dLen).length ≤ cur.length)
    (c : Nat) (hc : (s.take dLen).length = c) (R : World → Prop) (hR : R (w.setRow g (splice cur off ((s.take dLen).map byteV)).toArray)) (h : ∀ w', R w' → wpList P ops Q rest (a.put o.dst (goInt c)) w') : wpList P ops Q (o :: rest) a w := by
  refine wpList_plain hgd fun K hK => ?_
  have hrun := run_copy_str (P := P) w dT sT o.type elem g off dLen dCap s cur t hu hsz hg hfit
  rw [hc] at hrun
  generalize w.setRow g (splice cur off ((s.take dLen).map byteV)).toArray = w2 at hrun hR
  unfold Oper.wp
  simp [execOp, ho, resolve, invoke, builtin, hd, hs, hrun, Result.andThen]
  exact hK _ _ (h _ hR)
end Go.Vx
namespace Go.Proofs.YtflmobffeeocdaaGreatDoor
open Go.ChangeShapes Go.WideShapes Go.ChangeAt Go.RowKit
open Go.Vx

/-- Patches where they lie. -/
def PatAt (w : World) (pa : Option Addr) (zs : List (Int × List UInt8)) : Prop :=
  zs = [] ∨ ∃ ab ao, pa = some ⟨ab, ao, none⟩ ∧ ∀ (j : Nat) (h : j < zs.length), w.cell? ⟨ab, ao + j * 2, none⟩ = some (.int .i64 (zs[j]).1) ∧ w.cell? ⟨ab, ao + j * 2 + 1, none⟩ = some (.string ⟨(zs[j]).2.toArray⟩)
/-- A block that was made behind a memory is none of its own. -/
theorem MemAt.beside {U : Nat → Prop} {w : World} {bm n : Nat} {f : Nat → UInt8} (h : MemAt U w bm n f) (o : Obj) : MemAt (fun k => U k ∨ k = w.heap.size) (w.alloc o) bm n f := by
  obtain ⟨bp, q, h⟩ := h
  have hk : ∀ b x, w.heap[b]? = some x → (w.alloc o).heap[b]? = some x := fun b x hb => by
    rw [RowKit.Below.heap_alloc _ _ _ (lt_of_some hb)]; exact hb
  have hs : ∀ b x, w.heap[b]? = some x → ¬ U b → ¬ (U b ∨ b = w.heap.size) := fun b x hb hu hc => by
    have := lt_of_some hb
    rcases hc with hc | hc
    · exact hu hc
    · omega
  refine ⟨bp, q, h.pos, h.top, hk _ _ h.m, hk _ _ h.p, h.nil, fun i hi b hb => hk _ _ (h.pg i hi b hb), h.inj, hs _ _ h.m h.um, hs _ _ h.p h.up, fun i b hi hb => hs _ _ (h.pg i hi b hb) (h.ug i b hi hb), ?_⟩
  intro k hk
  simp
  rcases hk with hk | hk
  · have := h.low k hk; omega
  · omega
end Go.Proofs.YtflmobffeeocdaaGreatDoor

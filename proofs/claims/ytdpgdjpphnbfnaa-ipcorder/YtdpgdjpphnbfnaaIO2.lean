/- IpcOrder: an outcome laid; Line in the law's state. -/
import Derived.Test.YtdpgdjpphnbfnaaIO1
namespace Go.Proofs.Ytdpgdjpphnbfnaa
open Go.ChangeShapes Go.WideShapes Go.ChangeAt Go.RowKit
open Go.Vx
set_option linter.unusedVariables false
variable {W w : World} {xb : Nat} {vl vw : Value} {ll mm : List Int} {s : Bs}

theorem oc_setA {w : World} {b : Nat} (h : w.heap[b]? = some (.cells oc0A 37 (0, 0))) (a0 a1 a2 a3 a4 a5 a6 a7 a8 a9 a10 : Value) : (((((((((((w.setCell ⟨b, 0, none⟩ a0).setCell ⟨b, 1, none⟩ a1).setCell ⟨b, 2, none⟩ a2).setCell ⟨b, 3, none⟩ a3).setCell ⟨b, 4, none⟩ a4).setCell ⟨b, 5, none⟩ a5).setCell ⟨b, 6, none⟩ a6).setCell ⟨b, 7, none⟩ a7).setCell ⟨b, 8, none⟩ a8).setCell ⟨b, 9, none⟩ a9).setCell ⟨b, 10, none⟩ a10).heap[b]? = some (.cells #[a0, a1, a2, a3, a4, a5, a6, a7, a8, a9, a10] 37 (0, 0)) := by
  have h0 : (w.setCell ⟨b, 0, none⟩ a0).heap[b]? = some (.cells #[a0, .int .i64 0, .int .u32 0, .int .u32 0, .int .u32 0, .int .u32 0, .int .u32 0, .int .u32 0, .bool false, .bool false, .bool false] 37 (0, 0)) := by rw [heap_setCell_same _ _ 0 _ _ a0 h]; rfl
  have h1 : ((w.setCell ⟨b, 0, none⟩ a0).setCell ⟨b, 1, none⟩ a1).heap[b]? = some (.cells #[a0, a1, .int .u32 0, .int .u32 0, .int .u32 0, .int .u32 0, .int .u32 0, .int .u32 0, .bool false, .bool false, .bool false] 37 (0, 0)) := by rw [heap_setCell_same _ _ 1 _ _ a1 h0]; rfl
  have h2 : (((w.setCell ⟨b, 0, none⟩ a0).setCell ⟨b, 1, none⟩ a1).setCell ⟨b, 2, none⟩ a2).heap[b]? = some (.cells #[a0, a1, a2, .int .u32 0, .int .u32 0, .int .u32 0, .int .u32 0, .int .u32 0, .bool false, .bool false, .bool false] 37 (0, 0)) := by rw [heap_setCell_same _ _ 2 _ _ a2 h1]; rfl
  have h3 : ((((w.setCell ⟨b, 0, none⟩ a0).setCell ⟨b, 1, none⟩ a1).setCell ⟨b, 2, none⟩ a2).setCell ⟨b, 3, none⟩ a3).heap[b]? = some (.cells #[a0, a1, a2, a3, .int .u32 0, .int .u32 0, .int .u32 0, .int .u32 0, .bool false, .bool false, .bool false] 37 (0, 0)) := by rw [heap_setCell_same _ _ 3 _ _ a3 h2]; rfl
  have h4 : (((((w.setCell ⟨b, 0, none⟩ a0).setCell ⟨b, 1, none⟩ a1).setCell ⟨b, 2, none⟩ a2).setCell ⟨b, 3, none⟩ a3).setCell ⟨b, 4, none⟩ a4).heap[b]? = some (.cells #[a0, a1, a2, a3, a4, .int .u32 0, .int .u32 0, .int .u32 0, .bool false, .bool false, .bool false] 37 (0, 0)) := by rw [heap_setCell_same _ _ 4 _ _ a4 h3]; rfl
  have h5 : ((((((w.setCell ⟨b, 0, none⟩ a0).setCell ⟨b, 1, none⟩ a1).setCell ⟨b, 2, none⟩ a2).setCell ⟨b, 3, none⟩ a3).setCell ⟨b, 4, none⟩ a4).setCell ⟨b, 5, none⟩ a5).heap[b]? = some (.cells #[a0, a1, a2, a3, a4, a5, .int .u32 0, .int .u32 0, .bool false, .bool false, .bool false] 37 (0, 0)) := by rw [heap_setCell_same _ _ 5 _ _ a5 h4]; rfl
  have h6 : (((((((w.setCell ⟨b, 0, none⟩ a0).setCell ⟨b, 1, none⟩ a1).setCell ⟨b, 2, none⟩ a2).setCell ⟨b, 3, none⟩ a3).setCell ⟨b, 4, none⟩ a4).setCell ⟨b, 5, none⟩ a5).setCell ⟨b, 6, none⟩ a6).heap[b]? = some (.cells #[a0, a1, a2, a3, a4, a5, a6, .int .u32 0, .bool false, .bool false, .bool false] 37 (0, 0)) := by rw [heap_setCell_same _ _ 6 _ _ a6 h5]; rfl
  have h7 : ((((((((w.setCell ⟨b, 0, none⟩ a0).setCell ⟨b, 1, none⟩ a1).setCell ⟨b, 2, none⟩ a2).setCell ⟨b, 3, none⟩ a3).setCell ⟨b, 4, none⟩ a4).setCell ⟨b, 5, none⟩ a5).setCell ⟨b, 6, none⟩ a6).setCell ⟨b, 7, none⟩ a7).heap[b]? = some (.cells #[a0, a1, a2, a3, a4, a5, a6, a7, .bool false, .bool false, .bool false] 37 (0, 0)) := by rw [heap_setCell_same _ _ 7 _ _ a7 h6]; rfl
  have h8 : (((((((((w.setCell ⟨b, 0, none⟩ a0).setCell ⟨b, 1, none⟩ a1).setCell ⟨b, 2, none⟩ a2).setCell ⟨b, 3, none⟩ a3).setCell ⟨b, 4, none⟩ a4).setCell ⟨b, 5, none⟩ a5).setCell ⟨b, 6, none⟩ a6).setCell ⟨b, 7, none⟩ a7).setCell ⟨b, 8, none⟩ a8).heap[b]? = some (.cells #[a0, a1, a2, a3, a4, a5, a6, a7, a8, .bool false, .bool false] 37 (0, 0)) := by rw [heap_setCell_same _ _ 8 _ _ a8 h7]; rfl
  have h9 : ((((((((((w.setCell ⟨b, 0, none⟩ a0).setCell ⟨b, 1, none⟩ a1).setCell ⟨b, 2, none⟩ a2).setCell ⟨b, 3, none⟩ a3).setCell ⟨b, 4, none⟩ a4).setCell ⟨b, 5, none⟩ a5).setCell ⟨b, 6, none⟩ a6).setCell ⟨b, 7, none⟩ a7).setCell ⟨b, 8, none⟩ a8).setCell ⟨b, 9, none⟩ a9).heap[b]? = some (.cells #[a0, a1, a2, a3, a4, a5, a6, a7, a8, a9, .bool false] 37 (0, 0)) := by rw [heap_setCell_same _ _ 9 _ _ a9 h8]; rfl
  have h10 : (((((((((((w.setCell ⟨b, 0, none⟩ a0).setCell ⟨b, 1, none⟩ a1).setCell ⟨b, 2, none⟩ a2).setCell ⟨b, 3, none⟩ a3).setCell ⟨b, 4, none⟩ a4).setCell ⟨b, 5, none⟩ a5).setCell ⟨b, 6, none⟩ a6).setCell ⟨b, 7, none⟩ a7).setCell ⟨b, 8, none⟩ a8).setCell ⟨b, 9, none⟩ a9).setCell ⟨b, 10, none⟩ a10).heap[b]? = some (.cells #[a0, a1, a2, a3, a4, a5, a6, a7, a8, a9, a10] 37 (0, 0)) := by rw [heap_setCell_same _ _ 10 _ _ a10 h9]; rfl
  exact h10
theorem OrI.line {i : Nat} (h : OrI W xb vl vw ll mm s w) (ho : OrS s i) : Calls Try.prog 9 #[.pointer (some ⟨xb, 0, none⟩), .int .i64 5] w fun e w' => ∃ v, e = .returned (.tuple #[v, .int .i64 0]) ∧ Hid (OrI W xb vl vw ll mm s w' ∧ OwnL inL w' w.heap.size 3 v (s.ws.map (·.thr))) := by
  refine (xline_ok h.x 5 (by unfold I64; omega)).mono ?_
  rintro e w' ⟨v, rfl, hl, hon⟩
  rw [ho.lineE]
  rw [ho.lineR] at hl
  exact ⟨v, rfl, h.quiet hon, hl⟩
theorem own_at {base g n c : Nat} {xs : List Int} (h : OwnL inL w base 3 (.slice (some ⟨g, 0, none⟩) n c) xs) (k : Nat) (hk : k < xs.length) : w.cell? ⟨g, k, none⟩ = some (.int .i64 xs[k]) := by
  have := h.cell k 0 hk (by decide)
  have e : inL.sz = 1 := rfl
  rw [e, Nat.mul_one, Nat.add_zero] at this
  exact this
theorem OrI.cutL (h : OrI W xb vl vw ll mm s w) (i : Nat) (hi : i < ll.length) (hn : ll.length ≤ 1000000) : Calls Try.prog 14 #[vl, .int .i64 (i : Int)] w fun e w' => ∃ v, e = .returned v ∧ Hid (OrI W xb v vw (cuI ll i) mm s w') := by
  refine (cutk_ok h.l i hi hn).mono ?_
  rintro e w' ⟨v, rfl, hv, ho⟩
  exact ⟨v, rfl, h.putL (own_lower hv h.be.size) (ho.mono (fun _ _ h => h.elim)) (fun j hj => Or.inr (own_lt hv hj).1)⟩
theorem OrI.cutM (h : OrI W xb vl vw ll mm s w) (i : Nat) (hi : i < mm.length) (hn : mm.length ≤ 1000000) : Calls Try.prog 14 #[vw, .int .i64 (i : Int)] w fun e w' => ∃ v, e = .returned v ∧ Hid (OrI W xb vl v ll (cuI mm i) s w') := by
  refine (cutk_ok h.m i hi hn).mono ?_
  rintro e w' ⟨v, rfl, hv, ho⟩
  exact ⟨v, rfl, h.putM (own_lower hv h.be.size) (ho.mono (fun _ _ h => h.elim)) (fun j hj => Or.inr (own_lt hv hj).1)⟩
end Go.Proofs.Ytdpgdjpphnbfnaa

/- The walk of package asm's instruction. -/
import Derived.Test.YtmfookpigilccaaGreatDoorQ4
import Derived.Lib.OthersKept
namespace Go.Vx
def regT (n : Int) : List UInt8 := 120 :: Lib.decDigits n.toNat
/-- The tokens of an operand. -/
def opT (i : Ins) (lab : List UInt8) (c : UInt8) : List (List UInt8) :=
  if c = 100 then [regT i.rd] else if c = 115 then [regT i.rs1] else if c = 116 then [regT i.rs2]
  else if c = 105 then [Lib.itoa i.imm] else if c = 106 then [if lab = [] then Lib.itoa i.imm else lab]
  else [Lib.itoa i.imm, [40], regT i.rs1, [41]]
/-- The tokens of the operands from here on. -/
def argT (i : Ins) (lab : List UInt8) : Bool → List UInt8 → List (List UInt8)
  | _, [] => []
  | f, c :: cs => (if f then [] else [[44]]) ++ opT i lab c ++ argT i lab false cs
def putI (i : Ins) (lab : List UInt8) (a : Ins × List UInt8) (c : UInt8) : Ins × List UInt8 :=
  if c = 100 then ({ a.1 with rd := i.rd }, a.2) else if c = 115 then ({ a.1 with rs1 := i.rs1 }, a.2) else if c = 116 then ({ a.1 with rs2 := i.rs2 }, a.2)
  else if c = 105 then ({ a.1 with imm := i.imm }, a.2) else if c = 106 then ({ a.1 with imm := i.imm }, lab)
  else ({ a.1 with imm := i.imm, rs1 := i.rs1 }, a.2)
def RegOk (n : Int) : Prop := 0 ≤ n ∧ n < 32
/-- What the operands of an instruction may be. -/
structure ArgOk (i : Ins) (lab : List UInt8) : Prop where
  op0 : 1 ≤ i.op
  op1 : i.op ≤ 48
  rd : RegOk i.rd
  rs1 : RegOk i.rs1
  rs2 : RegOk i.rs2
  im0 : -4294967296 ≤ i.imm
  im1 : i.imm ≤ 4294967296
  labOk : lab = [] ∨ (∃ c l, lab = c :: l ∧ labN (c :: l) = true ∧ l.length ≤ 20000 ∧ i.imm = 0)
  all : (shapeB i.op).foldl (putI i lab) (⟨i.op, 0, 0, 0, 0⟩, []) = (i, lab)
def letOk (c : UInt8) : Prop := c = 100 ∨ c = 115 ∨ c = 116 ∨ c = 105 ∨ c = 106 ∨ c = 109
theorem shape_let (op : Int) : (shapeB op).length ≤ 3 ∧ ∀ c ∈ shapeB op, letOk c := by
  unfold shapeB letOk
  split
  · decide
  split
  · decide
  split
  · decide
  split
  · decide
  split
  · decide
  split
  · decide
  split
  · simp
  · decide
theorem argT_len (i : Ins) (lab : List UInt8) : ∀ (f : Bool) (l : List UInt8), (argT i lab f l).length ≤ 5 * l.length
  | _, [] => by simp [argT]
  | f, c :: l => by
    have h := argT_len i lab false l
    have h2 : (opT i lab c).length ≤ 4 := by
      unfold opT
      split; simp; split; simp; split; simp; split; simp; split <;> simp
    have h3 : (if f then ([] : List (List UInt8)) else [[44]]).length ≤ 1 := by cases f <;> simp
    simp only [argT, List.length_append, List.length_cons]
    omega
end Go.Vx
namespace Go.Proofs.YtmfookpigilccaaGreatDoor
open Go.ChangeShapes Go.WideShapes Go.ChangeAt Go.RowKit
open Go.Vx (tokB tokF spanN strV labB labN digitB Only Ins insV shapeB opT argT putI RegOk ArgOk regT letOk)

/-- An instruction in memory. -/
structure InsAt (w : World) (s : Nat) (a : Ins × List UInt8) : Prop where
  lt : s < w.heap.size
  c0 : w.cell? ⟨s, 0, none⟩ = some (.int .i64 a.1.op)
  c1 : w.cell? ⟨s, 1, none⟩ = some (.int .i64 a.1.rd)
  c2 : w.cell? ⟨s, 2, none⟩ = some (.int .i64 a.1.rs1)
  c3 : w.cell? ⟨s, 3, none⟩ = some (.int .i64 a.1.rs2)
  c4 : w.cell? ⟨s, 4, none⟩ = some (.int .i64 a.1.imm)
  c5 : w.cell? ⟨s, 5, none⟩ = some (.string ⟨a.2.toArray⟩)
  fz : ∀ o, w.frozen? ⟨s, o, none⟩ = false
theorem InsAt.only {S : Nat → Prop} {w w' : World} {s : Nat} {a : Ins × List UInt8} (h : InsAt w s a) (ho : Only S w w') (hS : ¬ S s) : InsAt w' s a := by
  have hc : ∀ o, w'.cell? ⟨s, o, none⟩ = w.cell? ⟨s, o, none⟩ := fun o => ho.cell (p := ⟨s, o, none⟩) h.lt hS
  refine ⟨Nat.lt_of_lt_of_le h.lt ho.size, ?_, ?_, ?_, ?_, ?_, ?_, fun o => ?_⟩
  · rw [hc]; exact h.c0
  · rw [hc]; exact h.c1
  · rw [hc]; exact h.c2
  · rw [hc]; exact h.c3
  · rw [hc]; exact h.c4
  · rw [hc]; exact h.c5
  · rw [ho.frozen (p := ⟨s, o, none⟩) h.lt hS]; exact h.fz o
theorem size_set (w : World) (p : Addr) (v : Value) : (w.setCell p v).heap.size = w.heap.size := by simp [World.setCell]
theorem frz_set (w : World) (p q : Addr) (v : Value) (h : w.frozen? q = false) : (w.setCell p v).frozen? q = false := by simp [go_sem]; exact h
theorem other {w : World} {p q : Addr} {v : Value} (h : q ≠ p) : (w.setCell p v).cell? q = w.cell? q := World.cell?_setCell_other _ _ _ _ h.symm
theorem same {w : World} {p : Addr} {v u : Value} (h : w.cell? p = some u) : (w.setCell p v).cell? p = some v := World.cell?_setCell_same _ _ _ (by rw [h])
theorem InsAt.set_rd {w : World} {s : Nat} {a : Ins × List UInt8} (h : InsAt w s a) (v : Int) : InsAt (w.setCell ⟨s, 1, none⟩ (.int .i64 v)) s ({ a.1 with rd := v }, a.2) := by
  refine ⟨by rw [size_set]; exact h.lt, ?_, ?_, ?_, ?_, ?_, ?_, fun o => frz_set _ _ _ _ (h.fz o)⟩
  · rw [other (by simp)]; exact h.c0
  · exact same h.c1
  · rw [other (by simp)]; exact h.c2
  · rw [other (by simp)]; exact h.c3
  · rw [other (by simp)]; exact h.c4
  · rw [other (by simp)]; exact h.c5
theorem InsAt.set_rs1 {w : World} {s : Nat} {a : Ins × List UInt8} (h : InsAt w s a) (v : Int) : InsAt (w.setCell ⟨s, 2, none⟩ (.int .i64 v)) s ({ a.1 with rs1 := v }, a.2) := by
  refine ⟨by rw [size_set]; exact h.lt, ?_, ?_, ?_, ?_, ?_, ?_, fun o => frz_set _ _ _ _ (h.fz o)⟩
  · rw [other (by simp)]; exact h.c0
  · rw [other (by simp)]; exact h.c1
  · exact same h.c2
  · rw [other (by simp)]; exact h.c3
  · rw [other (by simp)]; exact h.c4
  · rw [other (by simp)]; exact h.c5
theorem InsAt.set_rs2 {w : World} {s : Nat} {a : Ins × List UInt8} (h : InsAt w s a) (v : Int) : InsAt (w.setCell ⟨s, 3, none⟩ (.int .i64 v)) s ({ a.1 with rs2 := v }, a.2) := by
  refine ⟨by rw [size_set]; exact h.lt, ?_, ?_, ?_, ?_, ?_, ?_, fun o => frz_set _ _ _ _ (h.fz o)⟩
  · rw [other (by simp)]; exact h.c0
  · rw [other (by simp)]; exact h.c1
  · rw [other (by simp)]; exact h.c2
  · exact same h.c3
  · rw [other (by simp)]; exact h.c4
  · rw [other (by simp)]; exact h.c5
theorem InsAt.set_imm {w : World} {s : Nat} {a : Ins × List UInt8} (h : InsAt w s a) (v : Int) : InsAt (w.setCell ⟨s, 4, none⟩ (.int .i64 v)) s ({ a.1 with imm := v }, a.2) := by
  refine ⟨by rw [size_set]; exact h.lt, ?_, ?_, ?_, ?_, ?_, ?_, fun o => frz_set _ _ _ _ (h.fz o)⟩
  · rw [other (by simp)]; exact h.c0
  · rw [other (by simp)]; exact h.c1
  · rw [other (by simp)]; exact h.c2
  · rw [other (by simp)]; exact h.c3
  · exact same h.c4
  · rw [other (by simp)]; exact h.c5
theorem InsAt.set_op {w : World} {s : Nat} {a : Ins × List UInt8} (h : InsAt w s a) (v : Int) : InsAt (w.setCell ⟨s, 0, none⟩ (.int .i64 v)) s ({ a.1 with op := v }, a.2) := by
  refine ⟨by rw [size_set]; exact h.lt, ?_, ?_, ?_, ?_, ?_, ?_, fun o => frz_set _ _ _ _ (h.fz o)⟩
  · exact same h.c0
  · rw [other (by simp)]; exact h.c1
  · rw [other (by simp)]; exact h.c2
  · rw [other (by simp)]; exact h.c3
  · rw [other (by simp)]; exact h.c4
  · rw [other (by simp)]; exact h.c5
theorem InsAt.set_lab {w : World} {s : Nat} {a : Ins × List UInt8} (h : InsAt w s a) (l : List UInt8) : InsAt (w.setCell ⟨s, 5, none⟩ (.string ⟨l.toArray⟩)) s (a.1, l) := by
  refine ⟨by rw [size_set]; exact h.lt, ?_, ?_, ?_, ?_, ?_, ?_, fun o => frz_set _ _ _ _ (h.fz o)⟩
  · rw [other (by simp)]; exact h.c0
  · rw [other (by simp)]; exact h.c1
  · rw [other (by simp)]; exact h.c2
  · rw [other (by simp)]; exact h.c3
  · rw [other (by simp)]; exact h.c4
  · exact same h.c5

/-- Where the loop over a shape stands. -/
structure LoopSt (w : World) (b : Nat) (sh : List UInt8) (wr : World) (k : Nat) (acc : Ins × List UInt8) (ts : List (List UInt8)) : Prop where
  bl : b < w.heap.size
  rd : RdAt wr b ts
  ins : InsAt wr (w.heap.size + 1) acc
  res : InsAt wr w.heap.size (⟨0, 0, 0, 0, 0⟩, [])
  it : wr.heap[w.heap.size + 2]? = some (.stringIter ⟨sh.toArray⟩ k)
  on : Only (fun x => x = b) w wr
theorem LoopSt.step {w : World} {b : Nat} {sh : List UInt8} {wr w2 : World} {k : Nat} {acc : Ins × List UInt8} {ts ts' : List (List UInt8)} (h : LoopSt w b sh wr k acc ts) (hr : RdAt w2 b ts') (ho : Only (fun x => x = b) wr w2) : LoopSt w b sh w2 k acc ts' := by
  have hb := h.bl
  have hi := h.it
  have hil : w.heap.size + 2 < wr.heap.size := (Array.getElem?_eq_some_iff.1 hi).1
  refine ⟨hb, hr, h.ins.only ho (by omega), h.res.only ho (by omega), ?_, h.on.trans ho⟩
  rw [ho.block _ hil (by omega)]
  exact hi
theorem LoopSt.put {w : World} {b : Nat} {sh : List UInt8} {wr : World} {k : Nat} {acc acc' : Ins × List UInt8} {ts : List (List UInt8)} (h : LoopSt w b sh wr k acc ts) (o : Nat) (v : Value) (hi : InsAt (wr.setCell ⟨w.heap.size + 1, o, none⟩ v) (w.heap.size + 1) acc') : LoopSt w b sh (wr.setCell ⟨w.heap.size + 1, o, none⟩ v) k acc' ts := by
  have hb := h.bl
  have ho : Only (fun x => x = w.heap.size + 1) wr (wr.setCell ⟨w.heap.size + 1, o, none⟩ v) := Only.setCell (S := fun x => x = w.heap.size + 1) (Only.refl _ _) (p := ⟨w.heap.size + 1, o, none⟩) (Or.inl rfl) v
  have hil : w.heap.size + 2 < wr.heap.size := (Array.getElem?_eq_some_iff.1 h.it).1
  refine ⟨hb, h.rd.only ho (fun k hk => by omega), hi, h.res.only ho (by omega), ?_, ?_⟩
  · rw [ho.block _ hil (by omega)]; exact h.it
  · exact Only.setCell (S := fun x => x = b) h.on (p := ⟨w.heap.size + 1, o, none⟩) (Or.inr (by show w.heap.size ≤ w.heap.size + 1; omega)) v
theorem iter_only (wr : World) (n : Nat) (s : ByteArray) (p : Nat) : Only (fun x => x = n) wr (wr.iterAt n s p) := by
  refine ⟨rfl, rfl, rfl, by rw [Lib.iterAt_size]; exact Nat.le_refl _, fun k hk hn => ?_⟩
  exact Lib.iterAt_other wr n k s p hn
theorem LoopSt.next {w : World} {b : Nat} {sh : List UInt8} {wr : World} {k : Nat} {acc : Ins × List UInt8} {ts : List (List UInt8)} (h : LoopSt w b sh wr k acc ts) : LoopSt w b sh (wr.iterAt (w.heap.size + 2) ⟨sh.toArray⟩ (k + 1)) (k + 1) acc ts := by
  have hb := h.bl
  have ho := iter_only wr (w.heap.size + 2) ⟨sh.toArray⟩ (k + 1)
  refine ⟨hb, h.rd.only ho (fun k hk => by omega), h.ins.only ho (by omega), h.res.only ho (by omega), Lib.iterAt_heap wr _ _ k (k + 1) h.it, ?_⟩
  exact ⟨h.on.os, h.on.tape, h.on.output, Nat.le_trans h.on.size ho.size, fun x hx hn => (ho.block x (Nat.lt_of_lt_of_le hx h.on.size) (by omega)).trans (h.on.block x hx hn)⟩
end Go.Proofs.YtmfookpigilccaaGreatDoor

import Derived.Test.YtflmobffeeocdaaDoorCs4
import Derived.Deep.RegionLaw
import Derived.Deep.CutRange
/- Walks of package mem: Write. -/
namespace Go.Vx
/-- A call of a function by its contract, as one step of a region that draws. -/
theorem step_call {P : Program} {ops : Array Oper} {o : Oper} {a : Act} {w : World} {K : Act → World → Prop} {Q : Exit → Act → World → Prop} {E : Prop} {R : Ending → World → Prop}
    (hg : o.guard = none) (f : FuncId) (args : Array Operand) (ats : Array TypeId) (hop : o.op = Op.call { callee := Callee.value (.func f), args := args, argTypes := ats }) (vals : Array Value) (hv : args.map a.eval = vals)
    (hcf : (callFunc f vals).run P w = .ok (.enter f vals) w) (hC : Calls P f vals w R) (hR : ∀ e w', R e w' → ∃ v, e = .returned v ∧ K (a.put o.dst v) w') :
    if Region.wanted o (yielded ops a.tmps) = true then Oper.wp P o a w K Q else E := by
  have hw : Region.wanted o (yielded ops a.tmps) = true := by simp [Region.wanted, hg]
  rw [if_pos hw]
  unfold Oper.wp
  simp [execOp, hop, resolve, invoke, hv, hcf, Act.eval, Deferred.ofValue]
  refine hC.mono ?_
  intro e w' h
  obtain ⟨v, rfl, hk⟩ := hR e w' h
  exact hk
theorem str_cells (s : List UInt8) (m : Nat) : (((⟨s.toArray⟩ : ByteArray).extract 0 m).data.map fun b => Value.int .u8 (b.toNat : Int)).toList = (s.take m).map byteV := by
  have h : ((⟨s.toArray⟩ : ByteArray).extract 0 m).data.toList = s.take m := by
    rw [ByteArray.data_extract]
    simp
  rw [Array.toList_map, h]
  rfl
/-- copy out of a string. -/
theorem run_copy_str {P : Program} (w : World) (dT sT ty elem : TypeId) (g o dLen dCap : Nat) (s : List UInt8) (cur : List Value) (t : TypeId) (hu : P.underlying dT = some (.slice elem)) (hs : (P.info? elem).map (·.size) = some 1)
    (hg : w.heap[g]? = some (.cells cur.toArray t (0, 0))) (hfit : o + (s.take dLen).length ≤ cur.length) :
    (Builtin.copy_ #[dT, sT] ty #[.slice (some ⟨g, o, none⟩) dLen dCap, .string ⟨s.toArray⟩]).run P w = .ok (goInt ((s.take dLen).length : Nat)) (w.setRow g (splice cur o ((s.take dLen).map byteV)).toArray) := by
  have hm : Nat.min (ByteArray.mk s.toArray).size dLen = (s.take dLen).length := by
    rw [List.length_take]
    show min _ _ = _
    have : (ByteArray.mk s.toArray).size = s.length := by simp [ByteArray.size]
    rw [this]; omega
  have hcs : (s.take (s.take dLen).length) = s.take dLen := by
    rw [List.length_take]
    apply List.take_eq_take_iff.2
    omega
  have hst := run_storeCells_at P g o t ((s.take dLen).map byteV) 0 cur.toArray w hg (by simpa using hfit) (oneCell_bytes _)
  have hso : (sizeOf elem).run P w = .ok 1 w := by
    cases hq : P.info? elem with
    | none => simp [hq] at hs
    | some i => simp [hq] at hs; simp [sizeOf, typeInfo, hq, hs]
  have h3 : ((s.take (s.take dLen).length).map byteV) = (s.take dLen).map byteV := by rw [hcs]
  simp only [Builtin.copy_, List.getElem?_toArray, List.getElem?_cons_zero, List.getElem?_cons_succ, Sem.run_bind, run_underlying hu, Result.andThen, Builtin.lenOf, Sem.run_pure, Builtin.firstCells, hso, hm]
  rw [str_cells, h3, hst]
  simp only [splice, List.append_assoc, Nat.add_zero, List.length_map]
/-- The same as one step of a region that draws. -/
theorem step_copy_str {P : Program} {ops : Array Oper} {o : Oper} {a : Act} {w : World} {K : Act → World → Prop} {Q : Exit → Act → World → Prop} {E : Prop} (hgd : o.guard = none) (d x : Operand) (dT sT : TypeId)
    (ho : o.op = .call { callee := .builtin .copy, args := #[d, x], argTypes := #[dT, sT] }) (elem : TypeId) (hu : P.underlying dT = some (.slice elem)) (hsz : (P.info? elem).map (·.size) = some 1)
    (g off dLen dCap : Nat) (s : List UInt8) (hd : a.eval d = .slice (some ⟨g, off, none⟩) dLen dCap) (hs : a.eval x = .string ⟨s.toArray⟩)
    (cur : List Value) (t : TypeId) (hg : w.heap[g]? = some (.cells cur.toArray t (0, 0))) (hfit : off + (s.take dLen).length ≤ cur.length)
    (c : Nat) (hc : (s.take dLen).length = c) (R : World → Prop) (hR : R (w.setRow g (splice cur off ((s.take dLen).map byteV)).toArray)) (h : ∀ w', R w' → K (a.put o.dst (goInt c)) w') :
    if Region.wanted o (yielded ops a.tmps) = true then Oper.wp P o a w K Q else E := by
  have hw : Region.wanted o (yielded ops a.tmps) = true := by simp [Region.wanted, hgd]
  rw [if_pos hw]
  have hrun := run_copy_str (P := P) w dT sT o.type elem g off dLen dCap s cur t hu hsz hg hfit
  rw [hc] at hrun
  generalize w.setRow g (splice cur off ((s.take dLen).map byteV)).toArray = w2 at hrun hR
  unfold Oper.wp
  simp [execOp, ho, resolve, invoke, builtin, hd, hs, hrun, Result.andThen]
  exact h _ hR
end Go.Vx
namespace Go.Proofs.YtflmobffeeocdaaDoor
open Go.ChangeShapes Go.WideShapes Go.ChangeAt Go.RowKit
open Go.Vx

theorem sizeByte : (Tryd.prog.info? 5).map (·.size) = some 1 := by kernel_rfl
/-- A world with bytes in a page. -/
theorem MemIs.put {U : Nat → Prop} {w : World} {bm bp n : Nat} {q : Nat → Option Nat} {f : Nat → UInt8} (h : MemIs U w bm bp n q f) {p b : Nat} (hp : p < n) (hq : q p = some b) (o : Nat) (t : List UInt8) (ht : o + t.length ≤ 4096) :
    MemIs U (w.setRow b (rowV (putF f (4096 * p + o) t) (4096 * p) 4096).toArray) bm bp n q (putF f (4096 * p + o) t) ∧ Only (fun k => ¬ U k) w (w.setRow b (rowV (putF f (4096 * p + o) t) (4096 * p) 4096).toArray) := by
  have hn : ∀ k x, w.heap[k]? = some x → k ≠ b → (w.setRow b (rowV (putF f (4096 * p + o) t) (4096 * p) 4096).toArray).heap[k]? = some x := fun k x hk hne => by
    rw [setRow_other w b k _ hne]; exact hk
  have hne := h.pne hp hq
  refine ⟨⟨h.pos, h.top, hn _ _ h.m hne.1.symm, hn _ _ h.p hne.2.symm, ?_, ?_, h.inj, h.um, h.up, h.ug, ?_⟩, (Only.refl _ w).setRow (Or.inl (h.ug p b hp hq)) _⟩
  · intro i hi hqi j hj
    have hip : i ≠ p := fun e => by rw [e, hq] at hqi; cases hqi
    rw [← h.nil i hi hqi j hj]
    unfold putF
    rw [if_neg]
    omega
  · intro i hi c hc
    by_cases hip : i = p
    · subst hip
      obtain rfl : b = c := by rw [hq] at hc; simpa using hc
      exact setRow_heap w b _ _ _ _ (h.pg i hi b hq)
    · have hcb : c ≠ b := fun e => hip (h.inj i p b hi hp (by rw [hc, e]) hq)
      rw [row_out f (4096 * i) 4096 (4096 * p + o) t (by rcases Nat.lt_or_gt_of_ne hip with h1 | h1 <;> omega)]
      exact hn _ _ (h.pg i hi c hc) hcb
  · intro k hk
    have := h.low k hk
    simp [World.setRow]
    omega
theorem page_from (b o : Nat) (ho : o < 4096) (w : World) : (Instr.sliceAt 79 (.pointer (some ⟨b, 0, none⟩)) (some (.int .i64 (o : Int))) none none).run Tryd.prog w = .ok (.slice (some ⟨b, o, none⟩) (4096 - o) (4096 - o)) w := by
  have h0 : ¬ 4096 = o := by omega
  have hl : Tryd.prog.arrayLen 79 = 4096 := by kernel_rfl
  have he : Tryd.prog.elem 79 = 5 := by kernel_rfl
  have hu : Tryd.prog.underlying 79 = some (.array (Tryd.prog.arrayLen 79) (Tryd.prog.elem 79)) := by kernel_rfl
  have hsz : (sizeOf 5).run Tryd.prog w = .ok 1 w := by
    have := sizeByte
    cases hq : Tryd.prog.info? 5 with
    | none => rw [hq] at this; simp at this
    | some i => rw [hq] at this; simp at this; simp [sizeOf, typeInfo, hq, this]
  rw [run_sliceAt_array_l w 79 ⟨b, 0, none⟩ hu .i64 (o : Int) (by omega) (by rw [hl]; omega), he, hsz, hl]
  simp [slicedAt, h0, Addr.add]
  omega
theorem str_from (p : ByteArray) (s : List UInt8) (hp : p = ⟨s.toArray⟩) (k : Nat) (hk : k ≤ s.length) (w : World) : (Instr.slice 9 (.string p) (some (.int .i64 (k : Int))) none none).run Tryd.prog w = .ok (.string ⟨(s.drop k).toArray⟩) w := by
  subst hp
  have hs : (ByteArray.mk s.toArray).size = s.length := by simp [ByteArray.size]
  rw [run_slice_string_l w 9 _ Tryd.underlying9 .i64 (k : Int) (by omega) (by omega)]
  simp only [Int.toNat_natCast]
  have : (ByteArray.mk s.toArray).extract k (ByteArray.mk s.toArray).size = ⟨(s.drop k).toArray⟩ := by
    rw [hs]
    apply ByteArray.ext
    rw [ByteArray.data_extract]
    apply Array.ext'
    simp
    exact List.take_of_length_le (by simp)
  rw [this]
end Go.Proofs.YtflmobffeeocdaaDoor

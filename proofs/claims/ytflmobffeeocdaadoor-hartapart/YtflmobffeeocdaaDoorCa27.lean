import Derived.Test.YtflmobffeeocdaaDoorCa21
import Derived.ChangeKeysEq
/- Walks of package mem: has, Zero, Same. -/
namespace Go.Proofs.YtflmobffeeocdaaDoor
open Go.ChangeShapes Go.WideShapes Go.ChangeAt Go.RowKit
open Go.Vx

/-- Is there such a page? -/
def hasB (n : Nat) (p : Int) : Bool := decide (0 ≤ p) && decide (p < (n : Int))
/-- A page of zeros. -/
def zeroF (f : Nat → UInt8) (p : Nat) : Nat → UInt8 := fun x => if 4096 * p ≤ x ∧ x < 4096 * p + 4096 then 0 else f x
def noughts (N : Nat) : List UInt8 := List.replicate N 0
theorem length_noughts (N : Nat) : (noughts N).length = N := by simp [noughts]
theorem zeroF_put (f : Nat → UInt8) (p N : Nat) (hN : N = 4096) : putF f (4096 * p + 0) (noughts N) = zeroF f p := by
  funext x
  unfold putF zeroF
  rw [length_noughts, Nat.add_zero]
  subst hN
  by_cases h : 4096 * p ≤ x ∧ x < 4096 * p + 4096
  · rw [if_pos h, if_pos h, noughts, List.getD_eq_getElem?_getD, List.getElem?_replicate, if_pos (by omega)]
    rfl
  · rw [if_neg h, if_neg h]
theorem zeroF_id (f : Nat → UInt8) (p : Nat) (h : ∀ j, j < 4096 → f (4096 * p + j) = 0) : zeroF f p = f := by
  funext x
  unfold zeroF
  split
  · rename_i hx
    have := h (x - 4096 * p) (by omega)
    rw [show 4096 * p + (x - 4096 * p) = x by omega] at this
    exact this.symm
  · rfl
theorem page_all (b : Nat) (w : World) : (Instr.sliceAt 79 (.pointer (some ⟨b, 0, none⟩)) none none none).run Tryd.prog w = .ok (.slice (some ⟨b, 0, none⟩) 4096 4096) w := by
  have hl : Tryd.prog.arrayLen 79 = 4096 := by kernel_rfl
  have he : Tryd.prog.elem 79 = 5 := by kernel_rfl
  have hu : Tryd.prog.underlying 79 = some (.array (Tryd.prog.arrayLen 79) (Tryd.prog.elem 79)) := by kernel_rfl
  have hsz : (sizeOf 5).run Tryd.prog w = .ok 1 w := by
    have := sizeByte
    cases hq : Tryd.prog.info? 5 with
    | none => rw [hq] at this; simp at this
    | some i => rw [hq] at this; simp at this; simp [sizeOf, typeInfo, hq, this]
  rw [run_sliceAt_array_all w 79 ⟨b, 0, none⟩ hu, he, hsz, hl]
  rfl
theorem zero_byte (w : World) : (zeroValue 5).run Tryd.prog w = .ok (.int .u8 0) w := by
  have hi := infoByte
  cases hq : Tryd.prog.info? 5 with
  | none => rw [hq] at hi; simp at hi
  | some i =>
    rw [hq] at hi
    simp only [Option.map_some, Option.some.injEq, Prod.mk.injEq] at hi
    simp [zeroValue, typeInfo, hq, hi.1]
theorem zero_cells (N : Nat) : (Builtin.zeroCells #[Value.int .u8 0] N).toList = (noughts N).map byteV := by
  apply List.ext_getElem?
  intro j
  unfold Builtin.zeroCells noughts
  by_cases hj : j < N
  · simp [hj, Nat.mod_one, byteV]
  · simp [hj]
theorem run_clear_page (w : World) (b N : Nat) (hN : 0 < N) (cur : List Value) (hg : w.heap[b]? = some (.cells cur.toArray 79 (0, 0))) (hl : cur.length = N) (ty : TypeId) :
    (Builtin.clear_ #[57] ty #[.slice (some ⟨b, 0, none⟩) N N]).run Tryd.prog w = .ok (.tuple #[]) (w.setRow b (splice cur 0 ((noughts N).map byteV)).toArray) := by
  have hst := run_storeCells_at Tryd.prog b 0 79 ((noughts N).map byteV) 0 cur.toArray w hg (by rw [List.length_map, length_noughts, List.size_toArray, hl]; omega) (oneCell_bytes _)
  obtain ⟨M, rfl⟩ : ∃ M, N = M + 1 := ⟨N - 1, by omega⟩
  simp only [Builtin.clear_, List.getElem?_toArray, List.getElem?_cons_zero, Sem.run_bind, run_underlying Tryd.underlying57, Result.andThen, zero_byte, Value.cells]
  rw [zero_cells, hst]
  simp only [Sem.run_pure, splice, List.append_assoc, Nat.add_zero, List.length_map]
/-- clear of a page, as one operation. -/
theorem wpList_clear_page {w : World} {ops : Array Oper} {rest : List Oper} {o : Oper} {a : Act} {Q : Exit → Act → World → Prop} (hgd : o.guard = none) (x : Operand)
    (ho : o.op = .call { callee := .builtin .clear, args := #[x], argTypes := #[57] }) (b N : Nat) (hN : 0 < N) (hx : a.eval x = .slice (some ⟨b, 0, none⟩) N N) (cur : List Value) (hg : w.heap[b]? = some (.cells cur.toArray 79 (0, 0))) (hl : cur.length = N)
    (R : World → Prop) (hR : R (w.setRow b (splice cur 0 ((noughts N).map byteV)).toArray)) (h : ∀ w', R w' → wpList Tryd.prog ops Q rest (a.put o.dst (.tuple #[])) w') : wpList Tryd.prog ops Q (o :: rest) a w := by
  refine wpList_plain hgd fun K hK => ?_
  have hrun := run_clear_page w b N hN cur hg hl o.type
  generalize w.setRow b (splice cur 0 ((noughts N).map byteV)).toArray = w2 at hrun hR
  unfold Oper.wp
  simp [execOp, ho, resolve, invoke, builtin, hx, hrun, Result.andThen]
  exact hK _ _ (h _ hR)
end Go.Proofs.YtflmobffeeocdaaDoor
/- The calls of package mem, at any arguments. -/
namespace Go.Vx
/-- A load whose outcome is known, as one step of a region that draws. -/
theorem step_load {P : Program} {ops : Array Oper} {o : Oper} {a : Act} {w : World} {K : Act → World → Prop} {Q : Exit → Act → World → Prop} {E : Prop} (hg : o.guard = none) (t : TypeId) (x : Operand) (hop : o.op = .load t x) (ad : Addr) (hx : a.eval x = .pointer (some ad)) (v : Value)
    (hrun : (Instr.loadAt t (.pointer (some ad))).run P w = .ok v w) (h : K (a.put o.dst v) w) : if Region.wanted o (yielded ops a.tmps) = true then Oper.wp P o a w K Q else E := by
  have hw : Region.wanted o (yielded ops a.tmps) = true := by simp [Region.wanted, hg]
  rw [if_pos hw]
  unfold Oper.wp
  simp [execOp, hop, hx, hrun, Result.andThen]
  exact h
/-- A comparison of arrays whose outcome is known, as one step of a region that draws. -/
theorem step_eql {P : Program} {ops : Array Oper} {o : Oper} {a : Act} {w : World} {K : Act → World → Prop} {Q : Exit → Act → World → Prop} {E : Prop} (hg : o.guard = none) (t t' : TypeId) (x y : Operand) (hop : o.op = .binOp .eql t x y t') (xs ys : Array Value) (hx : a.eval x = .agg xs) (hy : a.eval y = .agg ys) (B : Bool)
    (hrun : (Op.equal t (.agg xs) (.agg ys)).run P w = .ok B w) (hgd : (eqGuard .eql t x y (.agg xs) (.agg ys)).run P w = .ok () w) (h : K (a.put o.dst (.bool B)) w) : if Region.wanted o (yielded ops a.tmps) = true then Oper.wp P o a w K Q else E := by
  have hw : Region.wanted o (yielded ops a.tmps) = true := by simp [Region.wanted, hg]
  rw [if_pos hw]
  unfold Oper.wp
  simp [execOp, hop, hx, hy, hgd, binOp, hrun, Result.andThen]
  exact h
end Go.Vx
namespace Go.Proofs.YtflmobffeeocdaaDoor
open Go.ChangeShapes Go.WideShapes Go.ChangeAt Go.RowKit
open Go.Vx

/-- What Read tells. -/
def readF (f : Nat → UInt8) (n : Nat) (a k : Int) : List UInt8 × Nat := if insB n a k = true then (rowL f a.toNat k.toNat, 0) else ([], 1)
theorem insB_nat {n : Nat} {a k : Int} (h : insB n a k = true) : ∃ x y : Nat, a = (x : Int) ∧ k = (y : Int) ∧ x + y ≤ 4096 * n := by
  simp [insB] at h
  exact ⟨a.toNat, k.toNat, by omega, by omega, by omega⟩
theorem read_any {U : Nat → Prop} {w : World} {bm n : Nat} {f : Nat → UInt8} (h : MemAt U w bm n f) (a k : Int) :
    Calls Tryd.prog 7 #[.pointer (some ⟨bm, 0, none⟩), .int .i64 a, .int .i64 k] w fun e w' => e = .returned (.tuple #[.string ⟨(readF f n a k).1.toArray⟩, .int .i64 ((readF f n a k).2 : Nat)]) ∧ Only (fun _ => False) w w' := by
  unfold readF
  by_cases hi : insB n a k = true
  · obtain ⟨x, y, rfl, rfl, hin⟩ := insB_nat hi
    rw [if_pos hi]
    exact read_ok h x y hin
  · rw [if_neg hi]
    refine (read_no h a k (by simpa using hi)).mono ?_
    rintro e w' ⟨rfl, rfl⟩
    exact ⟨rfl, Only.refl _ _⟩
/-- What Write makes of the bytes, and tells. -/
def writeF (f : Nat → UInt8) (n : Nat) (a : Int) (s : List UInt8) : (Nat → UInt8) × Nat := if insB n a (s.length : Nat) = true then (putF f a.toNat s, 0) else (f, 1)
theorem write_any {U : Nat → Prop} {w : World} {bm n : Nat} {f : Nat → UInt8} (h : MemAt U w bm n f) (a : Int) (s : List UInt8) :
    Calls Tryd.prog 6 #[.pointer (some ⟨bm, 0, none⟩), .int .i64 a, .string ⟨s.toArray⟩] w fun e w' => e = .returned (.int .i64 ((writeF f n a s).2 : Nat)) ∧ MemAt U w' bm n (writeF f n a s).1 ∧ Only (fun k => ¬ U k) w w' := by
  unfold writeF
  by_cases hi : insB n a (s.length : Nat) = true
  · obtain ⟨x, y, rfl, hy, hin⟩ := insB_nat hi
    rw [if_pos hi]
    obtain ⟨bp, q, hm⟩ := h
    exact write_ok hm x s (by omega)
  · rw [if_neg hi]
    refine (write_no h a s (by simpa using hi)).mono ?_
    rintro e w' ⟨rfl, rfl⟩
    exact ⟨rfl, h, Only.refl _ _⟩
/-- What Word tells. -/
def wordR (f : Nat → UInt8) (n : Nat) (a : Int) : Nat × Nat := if insB n a 4 = true ∧ a.tmod 4 = 0 then (wordF f a.toNat, 0) else (0, 1)
theorem word_any {U : Nat → Prop} {w : World} {bm n : Nat} {f : Nat → UInt8} (h : MemAt U w bm n f) (a : Int) :
    Calls Tryd.prog 42 #[.pointer (some ⟨bm, 0, none⟩), .int .i64 a] w fun e w' => e = .returned (.tuple #[.int .u32 ((wordR f n a).1 : Nat), .int .i64 ((wordR f n a).2 : Nat)]) ∧ Only (fun _ => False) w w' := by
  unfold wordR
  by_cases hi : insB n a 4 = true ∧ a.tmod 4 = 0
  · rw [if_pos hi]
    obtain ⟨x, y, rfl, hy, hin⟩ := insB_nat hi.1
    have h4 := hi.2
    rw [Int.tmod_eq_emod_of_nonneg (by omega)] at h4
    exact word_ok h x (by omega) (by omega)
  · rw [if_neg hi]
    refine (word_no h a ?_).mono ?_
    · by_cases h4 : a.tmod 4 = 0
      · right
        by_cases h5 : insB n a 4 = true
        · exact absurd ⟨h5, h4⟩ hi
        · simpa using h5
      · exact Or.inl h4
    · rintro e w' ⟨rfl, rfl⟩
      exact ⟨rfl, Only.refl _ _⟩
/-- What SetWord makes of the bytes, and tells. -/
def setWF (f : Nat → UInt8) (n : Nat) (a : Int) (x : Nat) : (Nat → UInt8) × Nat := if insB n a 4 = true ∧ a.tmod 4 = 0 then (putF f a.toNat (fourB x), 0) else (f, 1)
theorem setWord_any {U : Nat → Prop} {w : World} {bm n : Nat} {f : Nat → UInt8} (h : MemAt U w bm n f) (a : Int) (x : Nat) (hx : x < 4294967296) :
    Calls Tryd.prog 21 #[.pointer (some ⟨bm, 0, none⟩), .int .i64 a, .int .u32 (x : Int)] w fun e w' => e = .returned (.int .i64 ((setWF f n a x).2 : Nat)) ∧ MemAt U w' bm n (setWF f n a x).1 ∧ Only (fun k => ¬ U k) w w' := by
  unfold setWF
  by_cases hi : insB n a 4 = true ∧ a.tmod 4 = 0
  · rw [if_pos hi]
    obtain ⟨y, z, rfl, hz, hin⟩ := insB_nat hi.1
    have h4 := hi.2
    rw [Int.tmod_eq_emod_of_nonneg (by omega)] at h4
    obtain ⟨bp, q, hm⟩ := h
    refine (setWord_ok hm y x hx (by omega) (by omega)).mono ?_
    rintro e w' ⟨rfl, ⟨q', h1⟩, h2⟩
    exact ⟨rfl, ⟨bp, q', h1⟩, h2⟩
  · rw [if_neg hi]
    refine (setWord_no h a (x : Int) ?_).mono ?_
    · by_cases h4 : a.tmod 4 = 0
      · right
        by_cases h5 : insB n a 4 = true
        · exact absurd ⟨h5, h4⟩ hi
        · simpa using h5
      · exact Or.inl h4
    · rintro e w' ⟨rfl, rfl⟩
      exact ⟨rfl, h, Only.refl _ _⟩
def zeroR (f : Nat → UInt8) (n : Nat) (p : Int) : (Nat → UInt8) × Nat := if hasB n p = true then (zeroF f p.toNat, 0) else (f, 1)
theorem hasB_nat {n : Nat} {p : Int} (h : hasB n p = true) : ∃ x : Nat, p = (x : Int) ∧ x < n := by
  simp [hasB] at h
  exact ⟨p.toNat, by omega, by omega⟩
theorem MemAt.weaken {U V : Nat → Prop} {w : World} {bm n : Nat} {f : Nat → UInt8} (h : MemAt V w bm n f) (hUV : ∀ k, U k → V k) : MemAt U w bm n f := by
  obtain ⟨bp, q, h⟩ := h
  exact ⟨bp, q, h.pos, h.top, h.m, h.p, h.nil, h.pg, h.inj, fun hu => h.um (hUV _ hu), fun hu => h.up (hUV _ hu), fun i b hi hb hu => h.ug i b hi hb (hUV _ hu), fun k hk => h.low k (hUV k hk)⟩
end Go.Proofs.YtflmobffeeocdaaDoor

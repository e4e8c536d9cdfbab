import Derived.Test.YtflmobffeeocdaaGreatDoorCh3
import Derived.ChangeKeysEq
/- Walks of package mem: has, Zero, Same. -/
namespace Go.Proofs.YtflmobffeeocdaaGreatDoor
open Go.ChangeShapes Go.WideShapes Go.ChangeAt Go.RowKit
open Go.Vx

/-- Is there such a page? -/
def hasB (n : Nat) (p : Int) : Bool := decide (0 ≤ p) && decide (p < (n : Int))
theorem has_any {U : Nat → Prop} {w : World} {bm n : Nat} {f : Nat → UInt8} (h : MemAt U w bm n f) (p : Int) :
    Calls Tryz.prog 60 #[.pointer (some ⟨bm, 0, none⟩), .int .i64 p] w fun e w' => e = .returned (.bool (hasB n p)) ∧ w' = w := by
  obtain ⟨bp, q, h⟩ := h
  have hcm := h.cm
  clear h
  by_cases h0 : 0 ≤ p
  · have d0 : decide (0 ≤ p) = true := decide_eq_true h0
    have HB : Hid (hasB n p = decide (p < (n : Int))) := by show hasB n p = _; unfold hasB; rw [d0]; rfl
    go_enter Tryz.func60, Tryz.ntmps60
    go_wp2_with fail
    all_goals
      go_ret
      rw [HB.out]
      refine ⟨?_, rfl⟩
      first | rfl | simp
  · have d0 : decide (0 ≤ p) = false := decide_eq_false h0
    have HB : Hid (hasB n p = false) := by show hasB n p = _; unfold hasB; rw [d0]; rfl
    go_enter Tryz.func60, Tryz.ntmps60
    go_wp2_with fail
    all_goals
      go_ret
      rw [HB.out]
      exact ⟨rfl, rfl⟩
/-- A page of zeros. -/
def zeroF (f : Nat → UInt8) (p : Nat) : Nat → UInt8 := fun x => if 4096 * p ≤ x ∧ x < 4096 * p + 4096 then 0 else f x
def noughts (N : Nat) : List UInt8 := List.replicate N 0
theorem length_noughts (N : Nat) : (noughts N).length = N := by simp [noughts]
theorem zeroF_put (f : Nat → UInt8) (p N : Nat) (hN : N = 4096) : putF f (4096 * p + 0) (noughts N) = zeroF f p := by
  funext x
  unfold putF zeroF
  rw [length_noughts, Nat.add_zero]
  subst hN
  by_cases h : 4096 * p ≤ x ∧ x < 4096 * p + 4096
  · rw [if_pos h, if_pos h, noughts, List.getD_eq_getElem?_getD, List.getElem?_replicate, if_pos (by omega)]
    rfl
  · rw [if_neg h, if_neg h]
theorem zeroF_id (f : Nat → UInt8) (p : Nat) (h : ∀ j, j < 4096 → f (4096 * p + j) = 0) : zeroF f p = f := by
  funext x
  unfold zeroF
  split
  · rename_i hx
    have := h (x - 4096 * p) (by omega)
    rw [show 4096 * p + (x - 4096 * p) = x by omega] at this
    exact this.symm
  · rfl
theorem page_all (b : Nat) (w : World) : (Instr.sliceAt 108 (.pointer (some ⟨b, 0, none⟩)) none none none).run Tryz.prog w = .ok (.slice (some ⟨b, 0, none⟩) 4096 4096) w := by
  have hl : Tryz.prog.arrayLen 108 = 4096 := by kernel_rfl
  have he : Tryz.prog.elem 108 = 5 := by kernel_rfl
  have hu : Tryz.prog.underlying 108 = some (.array (Tryz.prog.arrayLen 108) (Tryz.prog.elem 108)) := by kernel_rfl
  have hsz : (sizeOf 5).run Tryz.prog w = .ok 1 w := by
    have := sizeByte
    cases hq : Tryz.prog.info? 5 with
    | none => rw [hq] at this; simp at this
    | some i => rw [hq] at this; simp at this; simp [sizeOf, typeInfo, hq, this]
  rw [run_sliceAt_array_all w 108 ⟨b, 0, none⟩ hu, he, hsz, hl]
  rfl
theorem zero_byte (w : World) : (zeroValue 5).run Tryz.prog w = .ok (.int .u8 0) w := by
  have hi := infoByte
  cases hq : Tryz.prog.info? 5 with
  | none => rw [hq] at hi; simp at hi
  | some i =>
    rw [hq] at hi
    simp only [Option.map_some, Option.some.injEq, Prod.mk.injEq] at hi
    simp [zeroValue, typeInfo, hq, hi.1]
theorem zero_cells (N : Nat) : (Builtin.zeroCells #[Value.int .u8 0] N).toList = (noughts N).map byteV := by
  apply List.ext_getElem?
  intro j
  unfold Builtin.zeroCells noughts
  by_cases hj : j < N
  · simp [hj, Nat.mod_one, byteV]
  · simp [hj]
theorem run_clear_page (w : World) (b N : Nat) (hN : 0 < N) (cur : List Value) (hg : w.heap[b]? = some (.cells cur.toArray 108 (0, 0))) (hl : cur.length = N) (ty : TypeId) :
    (Builtin.clear_ #[66] ty #[.slice (some ⟨b, 0, none⟩) N N]).run Tryz.prog w = .ok (.tuple #[]) (w.setRow b (splice cur 0 ((noughts N).map byteV)).toArray) := by
  have hst := run_storeCells_at Tryz.prog b 0 108 ((noughts N).map byteV) 0 cur.toArray w hg (by rw [List.length_map, length_noughts, List.size_toArray, hl]; omega) (oneCell_bytes _)
  obtain ⟨M, rfl⟩ : ∃ M, N = M + 1 := ⟨N - 1, by omega⟩
  simp only [Builtin.clear_, List.getElem?_toArray, List.getElem?_cons_zero, Sem.run_bind, run_underlying Tryz.underlying66, Result.andThen, zero_byte, Value.cells]
  rw [zero_cells, hst]
  simp only [Sem.run_pure, splice, List.append_assoc, Nat.add_zero, List.length_map]
/-- clear of a page, as one operation. -/
theorem wpList_clear_page {w : World} {ops : Array Oper} {rest : List Oper} {o : Oper} {a : Act} {Q : Exit → Act → World → Prop} (hgd : o.guard = none) (x : Operand)
    (ho : o.op = .call { callee := .builtin .clear, args := #[x], argTypes := #[66] }) (b N : Nat) (hN : 0 < N) (hx : a.eval x = .slice (some ⟨b, 0, none⟩) N N) (cur : List Value) (hg : w.heap[b]? = some (.cells cur.toArray 108 (0, 0))) (hl : cur.length = N)
    (R : World → Prop) (hR : R (w.setRow b (splice cur 0 ((noughts N).map byteV)).toArray)) (h : ∀ w', R w' → wpList Tryz.prog ops Q rest (a.put o.dst (.tuple #[])) w') : wpList Tryz.prog ops Q (o :: rest) a w := by
  refine wpList_plain hgd fun K hK => ?_
  have hrun := run_clear_page w b N hN cur hg hl o.type
  generalize w.setRow b (splice cur 0 ((noughts N).map byteV)).toArray = w2 at hrun hR
  unfold Oper.wp
  simp [execOp, ho, resolve, invoke, builtin, hx, hrun, Result.andThen]
  exact hK _ _ (h _ hR)
theorem zero_no {U : Nat → Prop} {w : World} {bm n : Nat} {f : Nat → UInt8} (h : MemAt U w bm n f) (p : Int) (hi : hasB n p = false) :
    Calls Tryz.prog 32 #[.pointer (some ⟨bm, 0, none⟩), .int .i64 p] w fun e w' => e = .returned (.int .i64 1) ∧ w' = w := by
  have HC := Vx.hid (has_any h p)
  rw [hi] at HC
  clear h hi
  go_enter Tryz.func32, Tryz.ntmps32
  go_wp2_with fail
  refine HC.out.mono ?_
  rintro e w' ⟨rfl, rfl⟩
  go_wp2_with fail
  all_goals
    go_ret
    exact ⟨rfl, rfl⟩
theorem zero_ok {U : Nat → Prop} {w : World} {bm bp n : Nat} {q : Nat → Option Nat} {f : Nat → UInt8} (h : MemIs U w bm bp n q f) (p : Nat) (hp : p < n) :
    Calls Tryz.prog 32 #[.pointer (some ⟨bm, 0, none⟩), .int .i64 (p : Int)] w fun e w' => e = .returned (.int .i64 0) ∧ MemIs U w' bm bp n q (zeroF f p) ∧ Only (fun k => ¬ U k) w w' := by
  have hcm := h.cm
  have hcp := h.cp hp
  have hidx : 0 ≤ (p : Int) ∧ (p : Int) < (n : Int) := by omega
  have HC := Vx.hid (has_any ⟨bp, q, h⟩ (p : Int))
  have : hasB n (p : Int) = true := by simp [hasB, hp]
  rw [this] at HC
  have HM := Vx.hid h
  have HP := Vx.hid hp
  clear h this
  cases hq : q p with
  | none =>
    rw [hq] at hcp
    have hcp2 : w.cell? ⟨bp, p, none⟩ = some (.pointer none) := hcp
    have HQ := Vx.hid hq
    clear hcp hq
    go_enter Tryz.func32, Tryz.ntmps32
    go_wp2_with fail
    refine HC.out.mono ?_
    rintro e w' ⟨rfl, h⟩
    have h2 := h.symm; clear h; subst h2
    go_wp2_with fail
    all_goals
      go_ret
      rw [zeroF_id f p (HM.out.nil p hp HQ.out)]
      exact ⟨rfl, HM.out, Only.refl _ w⟩
  | some b =>
    rw [hq] at hcp
    have hcp2 : w.cell? ⟨bp, p, none⟩ = some (.pointer (some ⟨b, 0, none⟩)) := hcp
    have HQ := Vx.hid hq
    have hpa := fun wv => page_all b wv
    obtain ⟨N, hN⟩ : ∃ N, N = 4096 := ⟨_, rfl⟩
    have HPG := Vx.hid (HM.out.pg p hp b hq)
    rw [← hN] at hpa
    have HRR : Hid (MemIs U (w.setRow b (splice (rowV f (4096 * p) 4096) 0 ((noughts N).map byteV)).toArray) bm bp n q (zeroF f p) ∧ Only (fun k => ¬ U k) w (w.setRow b (splice (rowV f (4096 * p) 4096) 0 ((noughts N).map byteV)).toArray)) := by
      have := HM.out.put hp HQ.out 0 (noughts N) (by rw [length_noughts]; omega)
      rw [splice_row f (4096 * p) 4096 0 (noughts N) (by rw [length_noughts]; omega)]
      rw [zeroF_put f p N hN] at this ⊢
      exact this
    have HLL : Hid ((rowV f (4096 * p) 4096).length = N) := by show _ = _; rw [length_rowV, hN]
    have HNN : Hid (0 < N) := by show 0 < N; omega
    generalize rowV f (4096 * p) 4096 = cur at HPG HRR HLL
    clear hcp hq hN
    go_enter Tryz.func32, Tryz.ntmps32
    go_wp2_with fail
    refine HC.out.mono ?_
    rintro e w' ⟨rfl, h⟩
    have h2 := h.symm; clear h; subst h2
    go_wp2_with (refine wpList_clear_page rfl (.tmp 25) rfl b N HNN.out (by simp [Act.eval]) cur HPG.out HLL.out (fun wx => Hid (MemIs U wx bm bp n q (zeroF f p) ∧ Only (fun k => ¬ U k) w wx)) HRR.out ?_; intro w3 H3)
    all_goals
      go_ret
      exact ⟨rfl, H3.out⟩
end Go.Proofs.YtflmobffeeocdaaGreatDoor

/- The calls of package mem, at any arguments. -/
namespace Go.Vx
/-- A load whose outcome is known, as one step of a region that draws. -/
theorem step_load {P : Program} {ops : Array Oper} {o : Oper} {a : Act} {w : World} {K : Act → World → Prop} {Q : Exit → Act → World → Prop} {E : Prop} (hg : o.guard = none) (t : TypeId) (x : Operand) (hop : o.op = .load t x) (ad : Addr) (hx : a.eval x = .pointer (some ad)) (v : Value)
    (hrun : (Instr.loadAt t (.pointer (some ad))).run P w = .ok v w) (h : K (a.put o.dst v) w) : if Region.wanted o (yielded ops a.tmps) = true then Oper.wp P o a w K Q else E := by
  have hw : Region.wanted o (yielded ops a.tmps) = true := by simp [Region.wanted, hg]
  rw [if_pos hw]
  unfold Oper.wp
  simp [execOp, hop, hx, hrun, Result.andThen]
  exact h
/-- A comparison of arrays whose outcome is known, as one step of a region that draws. -/
theorem step_eql {P : Program} {ops : Array Oper} {o : Oper} {a : Act} {w : World} {K : Act → World → Prop} {Q : Exit → Act → World → Prop} {E : Prop} (hg : o.guard = none) (t t' : TypeId) (x y : Operand) (hop : o.op = .binOp .eql t x y t') (xs ys : Array Value) (hx : a.eval x = .agg xs) (hy : a.eval y = .agg ys) (B : Bool)
    (hrun : (Op.equal t (.agg xs) (.agg ys)).run P w = .ok B w) (hgd : (eqGuard .eql t x y (.agg xs) (.agg ys)).run P w = .ok () w) (h : K (a.put o.dst (.bool B)) w) : if Region.wanted o (yielded ops a.tmps) = true then Oper.wp P o a w K Q else E := by
  have hw : Region.wanted o (yielded ops a.tmps) = true := by simp [Region.wanted, hg]
  rw [if_pos hw]
  unfold Oper.wp
  simp [execOp, hop, hx, hy, hgd, binOp, hrun, Result.andThen]
  exact h
end Go.Vx
namespace Go.Proofs.YtflmobffeeocdaaGreatDoor
open Go.ChangeShapes Go.WideShapes Go.ChangeAt Go.RowKit
open Go.Vx

/-- What Read tells. -/
def readF (f : Nat → UInt8) (n : Nat) (a k : Int) : List UInt8 × Nat := if insB n a k = true then (rowL f a.toNat k.toNat, 0) else ([], 1)
theorem insB_nat {n : Nat} {a k : Int} (h : insB n a k = true) : ∃ x y : Nat, a = (x : Int) ∧ k = (y : Int) ∧ x + y ≤ 4096 * n := by
  simp [insB] at h
  exact ⟨a.toNat, k.toNat, by omega, by omega, by omega⟩
theorem read_any {U : Nat → Prop} {w : World} {bm n : Nat} {f : Nat → UInt8} (h : MemAt U w bm n f) (a k : Int) :
    Calls Tryz.prog 25 #[.pointer (some ⟨bm, 0, none⟩), .int .i64 a, .int .i64 k] w fun e w' => e = .returned (.tuple #[.string ⟨(readF f n a k).1.toArray⟩, .int .i64 ((readF f n a k).2 : Nat)]) ∧ Only (fun _ => False) w w' := by
  unfold readF
  by_cases hi : insB n a k = true
  · obtain ⟨x, y, rfl, rfl, hin⟩ := insB_nat hi
    rw [if_pos hi]
    exact read_ok h x y hin
  · rw [if_neg hi]
    refine (read_no h a k (by simpa using hi)).mono ?_
    rintro e w' ⟨rfl, rfl⟩
    exact ⟨rfl, Only.refl _ _⟩
/-- What Write makes of the bytes, and tells. -/
def writeF (f : Nat → UInt8) (n : Nat) (a : Int) (s : List UInt8) : (Nat → UInt8) × Nat := if insB n a (s.length : Nat) = true then (putF f a.toNat s, 0) else (f, 1)
theorem write_any {U : Nat → Prop} {w : World} {bm n : Nat} {f : Nat → UInt8} (h : MemAt U w bm n f) (a : Int) (s : List UInt8) :
    Calls Tryz.prog 28 #[.pointer (some ⟨bm, 0, none⟩), .int .i64 a, .string ⟨s.toArray⟩] w fun e w' => e = .returned (.int .i64 ((writeF f n a s).2 : Nat)) ∧ MemAt U w' bm n (writeF f n a s).1 ∧ Only (fun k => ¬ U k) w w' := by
  unfold writeF
  by_cases hi : insB n a (s.length : Nat) = true
  · obtain ⟨x, y, rfl, hy, hin⟩ := insB_nat hi
    rw [if_pos hi]
    obtain ⟨bp, q, hm⟩ := h
    exact write_ok hm x s (by omega)
  · rw [if_neg hi]
    refine (write_no h a s (by simpa using hi)).mono ?_
    rintro e w' ⟨rfl, rfl⟩
    exact ⟨rfl, h, Only.refl _ _⟩
/-- What Word tells. -/
def wordR (f : Nat → UInt8) (n : Nat) (a : Int) : Nat × Nat := if insB n a 4 = true ∧ a.tmod 4 = 0 then (wordF f a.toNat, 0) else (0, 1)
theorem word_any {U : Nat → Prop} {w : World} {bm n : Nat} {f : Nat → UInt8} (h : MemAt U w bm n f) (a : Int) :
    Calls Tryz.prog 16 #[.pointer (some ⟨bm, 0, none⟩), .int .i64 a] w fun e w' => e = .returned (.tuple #[.int .u32 ((wordR f n a).1 : Nat), .int .i64 ((wordR f n a).2 : Nat)]) ∧ Only (fun _ => False) w w' := by
  unfold wordR
  by_cases hi : insB n a 4 = true ∧ a.tmod 4 = 0
  · rw [if_pos hi]
    obtain ⟨x, y, rfl, hy, hin⟩ := insB_nat hi.1
    have h4 := hi.2
    rw [Int.tmod_eq_emod_of_nonneg (by omega)] at h4
    exact word_ok h x (by omega) (by omega)
  · rw [if_neg hi]
    refine (word_no h a ?_).mono ?_
    · by_cases h4 : a.tmod 4 = 0
      · right
        by_cases h5 : insB n a 4 = true
        · exact absurd ⟨h5, h4⟩ hi
        · simpa using h5
      · exact Or.inl h4
    · rintro e w' ⟨rfl, rfl⟩
      exact ⟨rfl, Only.refl _ _⟩
/-- What SetWord makes of the bytes, and tells. -/
def setWF (f : Nat → UInt8) (n : Nat) (a : Int) (x : Nat) : (Nat → UInt8) × Nat := if insB n a 4 = true ∧ a.tmod 4 = 0 then (putF f a.toNat (fourB x), 0) else (f, 1)
theorem setWord_any {U : Nat → Prop} {w : World} {bm n : Nat} {f : Nat → UInt8} (h : MemAt U w bm n f) (a : Int) (x : Nat) (hx : x < 4294967296) :
    Calls Tryz.prog 10 #[.pointer (some ⟨bm, 0, none⟩), .int .i64 a, .int .u32 (x : Int)] w fun e w' => e = .returned (.int .i64 ((setWF f n a x).2 : Nat)) ∧ MemAt U w' bm n (setWF f n a x).1 ∧ Only (fun k => ¬ U k) w w' := by
  unfold setWF
  by_cases hi : insB n a 4 = true ∧ a.tmod 4 = 0
  · rw [if_pos hi]
    obtain ⟨y, z, rfl, hz, hin⟩ := insB_nat hi.1
    have h4 := hi.2
    rw [Int.tmod_eq_emod_of_nonneg (by omega)] at h4
    obtain ⟨bp, q, hm⟩ := h
    refine (setWord_ok hm y x hx (by omega) (by omega)).mono ?_
    rintro e w' ⟨rfl, ⟨q', h1⟩, h2⟩
    exact ⟨rfl, ⟨bp, q', h1⟩, h2⟩
  · rw [if_neg hi]
    refine (setWord_no h a (x : Int) ?_).mono ?_
    · by_cases h4 : a.tmod 4 = 0
      · right
        by_cases h5 : insB n a 4 = true
        · exact absurd ⟨h5, h4⟩ hi
        · simpa using h5
      · exact Or.inl h4
    · rintro e w' ⟨rfl, rfl⟩
      exact ⟨rfl, h, Only.refl _ _⟩
def zeroR (f : Nat → UInt8) (n : Nat) (p : Int) : (Nat → UInt8) × Nat := if hasB n p = true then (zeroF f p.toNat, 0) else (f, 1)
theorem hasB_nat {n : Nat} {p : Int} (h : hasB n p = true) : ∃ x : Nat, p = (x : Int) ∧ x < n := by
  simp [hasB] at h
  exact ⟨p.toNat, by omega, by omega⟩
theorem zero_any {U : Nat → Prop} {w : World} {bm n : Nat} {f : Nat → UInt8} (h : MemAt U w bm n f) (p : Int) :
    Calls Tryz.prog 32 #[.pointer (some ⟨bm, 0, none⟩), .int .i64 p] w fun e w' => e = .returned (.int .i64 ((zeroR f n p).2 : Nat)) ∧ MemAt U w' bm n (zeroR f n p).1 ∧ Only (fun k => ¬ U k) w w' := by
  unfold zeroR
  by_cases hi : hasB n p = true
  · obtain ⟨x, rfl, hx⟩ := hasB_nat hi
    rw [if_pos hi]
    obtain ⟨bp, q, hm⟩ := h
    refine (zero_ok hm x hx).mono ?_
    rintro e w' ⟨rfl, h1, h2⟩
    exact ⟨rfl, ⟨bp, q, h1⟩, h2⟩
  · rw [if_neg hi]
    refine (zero_no h p (by simpa using hi)).mono ?_
    rintro e w' ⟨rfl, rfl⟩
    exact ⟨rfl, h, Only.refl _ _⟩
theorem MemAt.weaken {U V : Nat → Prop} {w : World} {bm n : Nat} {f : Nat → UInt8} (h : MemAt V w bm n f) (hUV : ∀ k, U k → V k) : MemAt U w bm n f := by
  obtain ⟨bp, q, h⟩ := h
  exact ⟨bp, q, h.pos, h.top, h.m, h.p, h.nil, h.pg, h.inj, fun hu => h.um (hUV _ hu), fun hu => h.up (hUV _ hu), fun i b hi hb hu => h.ug i b hi hb (hUV _ hu), fun k hk => h.low k (hUV k hk)⟩
end Go.Proofs.YtflmobffeeocdaaGreatDoor

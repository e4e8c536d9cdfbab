import Derived.Test.YtflmobffeeocdaaDoorCa51
import Derived.Test.YtflmobffeeocdaaDoorCa49
import Derived.Test.YtflmobffeeocdaaDoorCa11
import Derived.ChangeKeysEq
/- HartApart: parts of texts; writes as the walk meets them. -/
namespace Go.Proofs.YtflmobffeeocdaaDoor
open Go.ChangeShapes Go.WideShapes Go.ChangeAt Go.RowKit
open Go.Vx
set_option linter.unusedVariables false

theorem str_to (p : ByteArray) (l : List UInt8) (hp : p = ⟨l.toArray⟩) (k : Nat) (hk : k ≤ l.length) (w : World) : (Instr.slice 9 (.string p) none (some (.int .i64 (k : Int))) none).run Tryd.prog w = .ok (.string ⟨(l.take k).toArray⟩) w := by
  subst hp
  have hs : (ByteArray.mk l.toArray).size = l.length := by simp [ByteArray.size]
  rw [run_slice_string_h w 9 _ Tryd.underlying9 .i64 (k : Int) (by omega) (by omega)]
  simp only [Int.toNat_natCast]
  have : (ByteArray.mk l.toArray).extract 0 k = ⟨(l.take k).toArray⟩ := by
    apply ByteArray.ext
    rw [ByteArray.data_extract]
    apply Array.ext'
    simp
  rw [this]
theorem str_mid (p : ByteArray) (l : List UInt8) (hp : p = ⟨l.toArray⟩) (a b : Nat) (h1 : a ≤ b) (h2 : b ≤ l.length) (y z : Int) (hy : y = (a : Int)) (hz : z = (b : Int)) (wv : World) :
    (Instr.slice 9 (.string p) (some (.int .i64 y)) (some (.int .i64 z)) none).run Tryd.prog wv = .ok (.string ⟨((l.drop a).take (b - a)).toArray⟩) wv := by
  have hs : p.size = l.length := by rw [hp]; simp [ByteArray.size]
  have h := run_slice_string (P := Tryd.prog) wv 9 p .i64 .i64 y z Tryd.underlying9 (by omega) (by omega) (by omega)
  rw [h, hy, hz]
  have e : (⟨l.toArray⟩ : ByteArray).extract a b = ⟨((l.drop a).take (b - a)).toArray⟩ := by
    apply ByteArray.ext
    rw [ByteArray.data_extract]
    apply Array.ext'
    simp
  rw [← hp] at e
  simp only [Int.toNat_natCast, e]
theorem row_page (f : Nat → UInt8) (p : Nat) (hp : p < 12) : ((rowL f 0 49152).drop (4096 * p)).take (4096 * (p + 1) - 4096 * p) = rowL f (4096 * p) 4096 := by
  rw [show 4096 * (p + 1) - 4096 * p = 4096 by omega]
  refine List.ext_getElem? (fun j => ?_)
  rw [List.getElem?_take]
  by_cases hj : j < 4096
  · rw [if_pos hj, List.getElem?_drop, get_rowL _ _ _ _ hj, get_rowL _ _ _ _ (by omega), Nat.zero_add]
  · rw [if_neg hj, List.getElem?_eq_none (by rw [length_rowL]; omega)]
theorem page_of (f : Nat → UInt8) (q : ByteArray) (hq : q = ⟨(rowL f 0 49152).toArray⟩) (p : Nat) (hp : p < 12) (y z : Int) (hy : y = (p : Int) * 4096) (hz : z = ((p : Int) + 1) * 4096) (wv : World) :
    (Instr.slice 9 (.string q) (some (.int .i64 y)) (some (.int .i64 z)) none).run Tryd.prog wv = .ok (.string ⟨(rowL f (4096 * p) 4096).toArray⟩) wv := by
  rw [← row_page f p hp]
  exact str_mid q _ hq (4096 * p) (4096 * (p + 1)) (by omega) (by rw [length_rowL]; omega) y z (by omega) (by omega) wv
/-- A text cut at 400, as the walk meets it. -/
theorem cut_or {p q : ByteArray} {l : List UInt8} (hp : p = ⟨l.toArray⟩) (hq : q = ⟨(l.take 400).toArray⟩) : ((400 : Int) < (p.size : Int) ∧ ∀ wv, (Instr.slice 9 (.string p) none (some (.int .i64 400)) none).run Tryd.prog wv = .ok (.string q) wv) ∨ (¬ (400 : Int) < (p.size : Int) ∧ q = p) := by
  have hs : p.size = l.length := by rw [hp]; simp [ByteArray.size]
  by_cases h : 400 < l.length
  · exact Or.inl ⟨by omega, fun wv => by rw [hq]; exact str_to p l hp 400 (by omega) wv⟩
  · exact Or.inr ⟨by omega, by rw [hq, hp, List.take_of_length_le (by omega)]⟩
theorem ApR.lay1 {W : World} {V : Nat → Prop} {b1 b2 hb sn op cb : Nat} {H : Nat → Nat × Nat} {g1 g2 : Nat → Bool} {f f2 : Nat → UInt8} {R : Nat → Nat} {pc : Nat} {wr : World} {a : List UInt8} {k : Nat} (h : ApR W V b1 b2 hb sn op cb H g1 g2 (layP f (fun _ => a.take 400) k) f2 R pc wr) (hk : 4 ≤ k) (hk2 : k < 12) {p : ByteArray} (hp : p = ⟨(a.take 400).toArray⟩) :
    Calls Tryd.prog 6 #[.pointer (some ⟨b1, 0, none⟩), .int .i64 ((k : Int) * 4096), .string p] wr fun e w' => e = .returned (.int .i64 0) ∧ RowKit.Hid (ApR W V b1 b2 hb sn op cb H g1 g2 (layP f (fun _ => a.take 400) (k + 1)) f2 R pc w') := by
  have hl : (a.take 400).length ≤ 400 := by rw [List.length_take]; omega
  have e : ((4096 * k : Nat) : Int) = (k : Int) * 4096 := by omega
  rw [hp, ← e]
  refine (h.write1 (4096 * k) (a.take 400) (by omega)).mono ?_
  rintro e w' ⟨rfl, h1⟩
  rw [layP_succ f (fun _ => a.take 400) k hk (by show (a.take 400).length ≤ 4096; omega)] at h1
  exact ⟨rfl, h1⟩
theorem ApR.lay2 {W : World} {V : Nat → Prop} {b1 b2 hb sn op cb : Nat} {H : Nat → Nat × Nat} {g1 g2 : Nat → Bool} {f f1 : Nat → UInt8} {R : Nat → Nat} {pc : Nat} {wr : World} {x y : List UInt8} {k : Nat} (h : ApR W V b1 b2 hb sn op cb H g1 g2 f1 (layP f (fun q => if g1 q = true then x.take 400 else y.take 400) k) R pc wr) (hk : 4 ≤ k) (hk2 : k < 12) {p q : ByteArray} (hp : p = ⟨(x.take 400).toArray⟩) (hq : q = ⟨(y.take 400).toArray⟩) {b : Bool} (hb' : g1 k = b) :
    Calls Tryd.prog 6 #[.pointer (some ⟨b2, 0, none⟩), .int .i64 ((k : Int) * 4096), .string (if b = true then p else q)] wr fun e w' => e = .returned (.int .i64 0) ∧ RowKit.Hid (ApR W V b1 b2 hb sn op cb H g1 g2 f1 (layP f (fun q => if g1 q = true then x.take 400 else y.take 400) (k + 1)) R pc w') := by
  have hl : ∀ l : List UInt8, (l.take 400).length ≤ 400 := fun l => by rw [List.length_take]; omega
  have hlt : ((if g1 k = true then x.take 400 else y.take 400) : List UInt8).length ≤ 400 := by
    split
    · exact hl x
    · exact hl y
  have e : ((4096 * k : Nat) : Int) = (k : Int) * 4096 := by omega
  have es : (if b = true then p else q) = ⟨((if g1 k = true then x.take 400 else y.take 400) : List UInt8).toArray⟩ := by
    rw [hb', hp, hq]
    cases b <;> rfl
  rw [es, ← e]
  refine (h.write2 (4096 * k) (if g1 k = true then x.take 400 else y.take 400) (by omega)).mono ?_
  rintro e w' ⟨rfl, h1⟩
  rw [layP_succ f (fun q => if g1 q = true then x.take 400 else y.take 400) k hk (by show ((if g1 k = true then x.take 400 else y.take 400) : List UInt8).length ≤ 4096; omega)] at h1
  exact ⟨rfl, h1⟩
theorem ApR.was {W : World} {V : Nat → Prop} {b1 b2 hb sn op cb : Nat} {H : Nat → Nat × Nat} {g1 g2 : Nat → Bool} {f1 f2 : Nat → UInt8} {R : Nat → Nat} {pc : Nat} {wr : World} (h : ApR W V b1 b2 hb sn op cb H g1 g2 f1 f2 R pc wr) {q : ByteArray} (hq : q = ⟨(rowL f1 0 49152).toArray⟩) :
    Calls Tryd.prog 7 #[.pointer (some ⟨b1, 0, none⟩), .int .i64 0, .int .i64 49152] wr fun e w' => e = .returned (.tuple #[.string q, .int .i64 0]) ∧ RowKit.Hid (ApR W V b1 b2 hb sn op cb H g1 g2 f1 f2 R pc w') := by rw [hq]; exact h.read1
theorem ApS.now {W : World} {V : Nat → Prop} {b1 b2 op cb db : Nat} {g : Nat → Bool} {f1 f2 : Nat → UInt8} {R1 : Nat → Nat} {p1 : Nat} {R2 : Nat → Nat} {p2 : Nat} {wr : World} (h : ApS W V b1 b2 op cb db g f1 f2 R1 p1 R2 p2 wr) {q : ByteArray} (hq : q = ⟨(rowL f1 0 49152).toArray⟩) :
    Calls Tryd.prog 7 #[.pointer (some ⟨b1, 0, none⟩), .int .i64 0, .int .i64 49152] wr fun e w' => e = .returned (.tuple #[.string q, .int .i64 0]) ∧ RowKit.Hid (ApS W V b1 b2 op cb db g f1 f2 R1 p1 R2 p2 w') := by
  obtain ⟨U, hm, hU, hT⟩ := h.two.left
  refine (read_ok hm 0 49152 (by decide)).mono ?_
  rintro e w' ⟨rfl, ho⟩
  exact ⟨by rw [hq], h.only ho⟩
end Go.Proofs.YtflmobffeeocdaaDoor

/- HartApart: whole contexts loaded and compared, an operation each. -/
namespace Go.Proofs.YtflmobffeeocdaaDoor
open Go.ChangeShapes Go.WideShapes Go.ChangeAt Go.RowKit
open Go.Vx
set_option linter.unusedVariables false

theorem wpList_load_ctx {ops : Array Oper} {rest : List Oper} {o : Oper} {a : Act} {w : World} {Q : Exit → Act → World → Prop} (x : Operand) (ho : o.op = .load 26 x) {cb : Nat} {R : Nat → Nat} {pc : Nat} (hgd : Region.wanted o (yielded ops a.tmps) = true) (hx : a.eval x = .pointer (some ⟨cb, 0, none⟩)) (hk : KxAt w cb R pc) (h : wpList Tryd.prog ops Q rest (a.put o.dst (.agg (ctxL R pc).toArray)) w) : wpList Tryd.prog ops Q (o :: rest) a w := by
  refine wpList_step fun K hK => ?_
  rw [if_pos hgd]
  have hrun : (Instr.loadAt 26 (.pointer (some ⟨cb, 0, none⟩))).run Tryd.prog w = .ok (.agg (ctxL R pc).toArray) w := by
    have h1 := run_loadVar_row (P := Tryd.prog) w cb 26 26 (ctxL R pc).toArray (0, 0) _ hk.b Tryd.underlying26 rfl (by rw [infoCtx2, List.size_toArray, length_ctxL])
    simp only [Instr.loadAt, Instr.sureAddr, Sem.run_bind, Sem.run_pure, Result.andThen]
    exact h1
  generalize (ctxL R pc).toArray = c at hrun h
  unfold Oper.wp
  simp only [execOp, ho, hx]
  simp [hrun, Result.andThen]
  exact hK _ _ h
theorem wpList_load_ctxL {ops : Array Oper} {rest : List Oper} {o : Oper} {a : Act} {w : World} {Q : Exit → Act → World → Prop} (x : Operand) (ho : o.op = .load 26 x) {cb : Nat} {R : Nat → Nat} {pc : Nat} {L : List Value} (hk : KxAt w cb R pc) (hL : L = ctxL R pc) (hgd : Region.wanted o (yielded ops a.tmps) = true) (hx : a.eval x = .pointer (some ⟨cb, 0, none⟩)) (h : wpList Tryd.prog ops Q rest (a.put o.dst (.agg L.toArray)) w) : wpList Tryd.prog ops Q (o :: rest) a w :=
  wpList_load_ctx x ho hgd hx hk (by rw [← hL]; exact h)
theorem part_u32 (xs : Array Value) (i : Nat) (a : Int) (h : xs[i]? = some (.int .u32 a)) (w : World) : (part 23 xs i).run Tryd.prog w = .ok (.int .u32 a) w := by
  simp [part, go_sem, h]
theorem eqItems_same (d : Nat) (xs : Array Value) (w : World) : ∀ (is : List Nat), (∀ i ∈ is, ∃ a : Int, xs[i]? = some (.int .u32 a)) → (Op.eqItems (d + 1) 23 1 xs xs is).run Tryd.prog w = .ok true w
  | [], _ => by simp [Op.eqItems]
  | i :: is, h => by
    obtain ⟨a, ha⟩ := h i (by simp)
    have hp : (part 23 xs (i * 1)).run Tryd.prog w = .ok (.int .u32 a) w := by rw [Nat.mul_one]; exact part_u32 xs i a ha w
    have he : (Op.equalIn (d + 1) 23 (.int .u32 a) (.int .u32 a)).run Tryd.prog w = .ok true w := by
      rw [run_equalIn_int w d 23 .u32 .u32 a a Tryd.underlying23]
      simp
    have ih := eqItems_same d xs w is (fun j hj => h j (by simp [hj]))
    simp only [Op.eqItems, Sem.run_bind, hp, he, Result.andThen_ok, Bool.not_true, Bool.false_eq_true, if_false]
    exact ih
theorem infoU32 : (Tryd.prog.info? 23).isSome = true := by kernel_rfl
theorem run_equal_regs (w : World) (xs : Array Value) (h : ∀ i, i < 32 → ∃ a : Int, xs[i]? = some (.int .u32 a)) : (Op.equalIn 9999 24 (.agg xs) (.agg xs)).run Tryd.prog w = .ok true w := by
  obtain ⟨i, hi⟩ := Option.isSome_iff_exists.1 infoU32
  rw [run_equalIn_array w 9998 xs xs Tryd.underlying24 hi, cU32]
  exact eqItems_same 9997 xs w _ (fun i hi => h i (List.mem_range.1 hi))
set_option maxRecDepth 100000 in
set_option maxHeartbeats 2000000 in
theorem run_neq_ctx (w : World) (R : Nat → Nat) (pc : Nat) (x y : Operand) : (do eqGuard .neq 26 x y (.agg (ctxL R pc).toArray) (.agg (ctxL R pc).toArray); binOp .neq 26 (.agg (ctxL R pc).toArray) (.agg (ctxL R pc).toArray) : Sem Value).run Tryd.prog w = .ok (.bool false) w := by
  have hq := run_equal_regs w ((ctxL R pc).toArray.extract 0 32) (fun i hi => ⟨(R i : Nat), by
    rw [Array.getElem?_extract, List.size_toArray, length_ctxL, if_pos (by omega), Nat.zero_add, show (ctxL R pc).toArray[i]? = (ctxL R pc)[i]? from List.getElem?_toArray]
    exact ctxL_r R pc i hi⟩)
  rw [ctxL_cells] at hq ⊢
  simp [go_sem] at hq
  simp [go_sem, eqGuard, hq]
theorem wpList_neq_ctx {ops : Array Oper} {rest : List Oper} {o : Oper} {a : Act} {w : World} {Q : Exit → Act → World → Prop} (x y : Operand) {t : TypeId} (ho : o.op = .binOp .neq 26 x y t) {R : Nat → Nat} {pc : Nat} (hgd : Region.wanted o (yielded ops a.tmps) = true) (hx : a.eval x = .agg (ctxL R pc).toArray) (hy : a.eval y = .agg (ctxL R pc).toArray) (h : wpList Tryd.prog ops Q rest (a.put o.dst (.bool false)) w) : wpList Tryd.prog ops Q (o :: rest) a w := by
  refine wpList_step fun K hK => ?_
  rw [if_pos hgd]
  have hrun := run_neq_ctx w R pc x y
  generalize (ctxL R pc).toArray = c at hrun hx hy
  unfold Oper.wp
  simp only [execOp, ho, hx, hy]
  rw [Sem.run_bind, hrun]
  exact hK _ _ h
theorem wpList_neq_ctxL {ops : Array Oper} {rest : List Oper} {o : Oper} {a : Act} {w : World} {Q : Exit → Act → World → Prop} (x y : Operand) {t : TypeId} (ho : o.op = .binOp .neq 26 x y t) {R : Nat → Nat} {pc : Nat} {L : List Value} (hL : L = ctxL R pc) (hgd : Region.wanted o (yielded ops a.tmps) = true) (hx : a.eval x = .agg L.toArray) (hy : a.eval y = .agg L.toArray) (h : wpList Tryd.prog ops Q rest (a.put o.dst (.bool false)) w) : wpList Tryd.prog ops Q (o :: rest) a w :=
  wpList_neq_ctx x y ho hgd (by rw [← hL]; exact hx) (by rw [← hL]; exact hy) h
end Go.Proofs.YtflmobffeeocdaaDoor

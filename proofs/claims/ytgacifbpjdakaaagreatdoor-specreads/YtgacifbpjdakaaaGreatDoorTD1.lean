/- SpecReads' law: a telling as it lies (gen_td1.py). -/
import Derived.Test.YtgacifbpjdakaaaGreatDoorGC
import Derived.Test.YtgacifbpjdakaaaGreatDoorTD0
namespace Go.Vx
set_option linter.unusedVariables false
/-- An object with its size; a line, its bell, its badge. -/
structure Ob where
  kd : Int
  num : Int
  sz : Int
def Ob.df : Ob := ⟨0, 0, 0⟩
/-- A mapping. -/
structure Mq where
  bx : Int
  ix : Int
  rt : Int
  va : Int
  ri : Int
def Mq.df : Mq := ⟨0, 0, 0, 0, 0⟩
/-- A thread. -/
structure Th where
  num : Int
  dom : Int
  pri : Int
  rdy : Bool
  reg : Nat → Int
  pc : Int
/-- A telling. -/
structure Tx where
  t : List UInt8
  tn : List Sl
  ob : List Ob
  cp : List En
  mp : List Mq
  th : List Th
  ir : List Ob
  nm : List (List UInt8)
  ar : List Sl
def obL : Lay Ob := ⟨fun a => [.int .i64 a.kd, .int .i64 a.num, .int .i64 a.sz], 3, fun _ => rfl, fun a u hu => by
  simp only [List.mem_cons, List.not_mem_nil, or_false] at hu
  rcases hu with rfl | rfl | rfl <;> rfl, by decide⟩
def irL : Lay Ob := ⟨fun a => [.int .i64 a.kd, .int .i64 a.num, .int .u32 a.sz], 3, fun _ => rfl, fun a u hu => by
  simp only [List.mem_cons, List.not_mem_nil, or_false] at hu
  rcases hu with rfl | rfl | rfl <;> rfl, by decide⟩
def mqL : Lay Mq := ⟨fun a => [.int .i64 a.bx, .int .i64 a.ix, .int .i64 a.rt, .int .u32 a.va, .int .i64 a.ri], 5, fun _ => rfl, fun a u hu => by
  simp only [List.mem_cons, List.not_mem_nil, or_false] at hu
  rcases hu with rfl | rfl | rfl | rfl | rfl <;> rfl, by decide⟩
def stL : Lay (List UInt8) := ⟨fun a => [.string ⟨a.toArray⟩], 1, fun _ => rfl, fun a u hu => by
  simp only [List.mem_cons, List.not_mem_nil, or_false] at hu
  rcases hu with rfl <;> rfl, by decide⟩
def thL : Lay Th := ⟨fun a => [.int .i64 a.num, .int .i64 a.dom, .int .i64 a.pri, .bool a.rdy, .int .u32 (a.reg 0), .int .u32 (a.reg 1), .int .u32 (a.reg 2), .int .u32 (a.reg 3), .int .u32 (a.reg 4), .int .u32 (a.reg 5), .int .u32 (a.reg 6), .int .u32 (a.reg 7), .int .u32 (a.reg 8), .int .u32 (a.reg 9), .int .u32 (a.reg 10), .int .u32 (a.reg 11), .int .u32 (a.reg 12), .int .u32 (a.reg 13), .int .u32 (a.reg 14), .int .u32 (a.reg 15), .int .u32 (a.reg 16), .int .u32 (a.reg 17), .int .u32 (a.reg 18), .int .u32 (a.reg 19), .int .u32 (a.reg 20), .int .u32 (a.reg 21), .int .u32 (a.reg 22), .int .u32 (a.reg 23), .int .u32 (a.reg 24), .int .u32 (a.reg 25), .int .u32 (a.reg 26), .int .u32 (a.reg 27), .int .u32 (a.reg 28), .int .u32 (a.reg 29), .int .u32 (a.reg 30), .int .u32 (a.reg 31), .int .u32 a.pc], 37, fun _ => rfl, fun a u hu => by
  simp only [List.mem_cons, List.not_mem_nil, or_false] at hu
  rcases hu with rfl | rfl | rfl | rfl | rfl | rfl | rfl | rfl | rfl | rfl | rfl | rfl | rfl | rfl | rfl | rfl | rfl | rfl | rfl | rfl | rfl | rfl | rfl | rfl | rfl | rfl | rfl | rfl | rfl | rfl | rfl | rfl | rfl | rfl | rfl | rfl | rfl <;> rfl, by decide⟩
end Go.Vx
namespace Go.Proofs.YtgacifbpjdakaaaGreatDoor
open Go.ChangeShapes Go.WideShapes Go.ChangeAt Go.RowKit
open Go.Vx
set_option linter.unusedVariables false

theorem tKt : Kind Tryz.prog slL 22 76 := kind_of (z := .agg #[.int .i64 0, .int .i64 0]) (b := 16) Tryz.underlying22 (by kernel_rfl) rfl (by decide)
theorem tKo : Kind Tryz.prog obL 24 58 := kind_of (z := .agg #[.int .i64 0, .int .i64 0, .int .i64 0]) (b := 24) Tryz.underlying24 (by kernel_rfl) rfl (by decide)
theorem tKc : Kind Tryz.prog enL 26 84 := kind_of (z := .agg #[.int .i64 0, .int .i64 0, .int .i64 0, .int .i64 0, .int .i64 0, .int .u32 0, .int .u32 0, .int .i64 0, .int .i64 0, .int .u32 0, .int .i64 0, .int .i64 0]) (b := 88) Tryz.underlying26 (by kernel_rfl) rfl (by decide)
theorem tKm : Kind Tryz.prog mqL 27 86 := kind_of (z := .agg #[.int .i64 0, .int .i64 0, .int .i64 0, .int .u32 0, .int .i64 0]) (b := 40) Tryz.underlying27 (by kernel_rfl) rfl (by decide)
theorem tKh : Kind Tryz.prog thL 28 91 := kind_of (z := .agg #[.int .i64 0, .int .i64 0, .int .i64 0, .bool false, .int .u32 0, .int .u32 0, .int .u32 0, .int .u32 0, .int .u32 0, .int .u32 0, .int .u32 0, .int .u32 0, .int .u32 0, .int .u32 0, .int .u32 0, .int .u32 0, .int .u32 0, .int .u32 0, .int .u32 0, .int .u32 0, .int .u32 0, .int .u32 0, .int .u32 0, .int .u32 0, .int .u32 0, .int .u32 0, .int .u32 0, .int .u32 0, .int .u32 0, .int .u32 0, .int .u32 0, .int .u32 0, .int .u32 0, .int .u32 0, .int .u32 0, .int .u32 0, .int .u32 0]) (b := 160) Tryz.underlying28 (by kernel_rfl) rfl (by decide)
theorem tKi : Kind Tryz.prog irL 29 93 := kind_of (z := .agg #[.int .i64 0, .int .i64 0, .int .u32 0]) (b := 24) Tryz.underlying29 (by kernel_rfl) rfl (by decide)
theorem tKn : Kind Tryz.prog stL 52 9 := kind_of (z := .string ⟨#[]⟩) (b := 16) Tryz.underlying52 (by kernel_rfl) rfl (by decide)
theorem tKa : Kind Tryz.prog slL 53 46 := kind_of (z := .agg #[.int .i64 0, .int .i64 0]) (b := 16) Tryz.underlying53 (by kernel_rfl) rfl (by decide)
/-- A telling, as it lies: all of it is of this call. -/
structure TxAt (W w : World) (xb : Nat) (vt vo vc vm vh vi vn va : Value) (T : Tx) : Prop where
  be : Below W.heap.size W w
  row : w.heap[xb]? = some (.cells #[.string ⟨(T.t).toArray⟩, .int .i64 0, vt, .int .u32 0, vo, .slice none 0 0, vc, vm, vh, vi, vn, va] 55 (0, 0))
  hb : W.heap.size ≤ xb
  lt : OwnL slL w W.heap.size 76 vt T.tn
  lo : OwnL obL w W.heap.size 58 vo T.ob
  lc : OwnL enL w W.heap.size 84 vc T.cp
  lm : OwnL mqL w W.heap.size 86 vm T.mp
  lh : OwnL thL w W.heap.size 91 vh T.th
  li : OwnL irL w W.heap.size 93 vi T.ir
  ln : OwnL stL w W.heap.size 9 vn T.nm
  la : OwnL slL w W.heap.size 46 va T.ar
variable {W w w2 : World} {xb : Nat} {vt vo vc vm vh vi vn va : Value} {T : Tx}
theorem TxAt.quiet (h : TxAt W w xb vt vo vc vm vh vi vn va T) (ho : Only (fun _ => False) w w2) : TxAt W w2 xb vt vo vc vm vh vi vn va T :=
  ⟨h.be.trans (ho.below h.be.size (fun _ _ h => h)), (ho.block xb (lt_of_some h.row) (fun h => h)).trans h.row, h.hb, h.lt.kept ho (fun _ _ h => h), h.lo.kept ho (fun _ _ h => h), h.lc.kept ho (fun _ _ h => h), h.lm.kept ho (fun _ _ h => h), h.lh.kept ho (fun _ _ h => h), h.li.kept ho (fun _ _ h => h), h.ln.kept ho (fun _ _ h => h), h.la.kept ho (fun _ _ h => h)⟩
/-- The text anew. -/
theorem TxAt.text (h : TxAt W w xb vt vo vc vm vh vi vn va T) (t' : List UInt8) : TxAt W (w.setCell ⟨xb, 0, none⟩ (.string ⟨t'.toArray⟩)) xb vt vo vc vm vh vi vn va { T with t := t' } := by
  have ho : Only (fun k => k = xb) w (w.setCell ⟨xb, 0, none⟩ (.string ⟨t'.toArray⟩)) := Only.setCell (S := fun k => k = xb) (Only.refl _ w) (Or.inl rfl) _
  have hx := h.row
  have hb := h.hb
  refine ⟨h.be.trans (ho.below h.be.size (fun k hk h9 => by omega)), ?_, h.hb, h.lt.kept ho (fun k hk h9 => by obtain ⟨cur, h8⟩ := own_tag h.lt hk; exact tag_ne h8 hx (by decide) h9), h.lo.kept ho (fun k hk h9 => by obtain ⟨cur, h8⟩ := own_tag h.lo hk; exact tag_ne h8 hx (by decide) h9), h.lc.kept ho (fun k hk h9 => by obtain ⟨cur, h8⟩ := own_tag h.lc hk; exact tag_ne h8 hx (by decide) h9), h.lm.kept ho (fun k hk h9 => by obtain ⟨cur, h8⟩ := own_tag h.lm hk; exact tag_ne h8 hx (by decide) h9), h.lh.kept ho (fun k hk h9 => by obtain ⟨cur, h8⟩ := own_tag h.lh hk; exact tag_ne h8 hx (by decide) h9), h.li.kept ho (fun k hk h9 => by obtain ⟨cur, h8⟩ := own_tag h.li hk; exact tag_ne h8 hx (by decide) h9), h.ln.kept ho (fun k hk h9 => by obtain ⟨cur, h8⟩ := own_tag h.ln hk; exact tag_ne h8 hx (by decide) h9), h.la.kept ho (fun k hk h9 => by obtain ⟨cur, h8⟩ := own_tag h.la hk; exact tag_ne h8 hx (by decide) h9)⟩
  rw [heap_setCell_same _ _ 0 _ _ _ hx]
  rfl
theorem TxAt.put_t (h : TxAt W w xb vt vo vc vm vh vi vn va T) {v' : Value} {xs : List Sl} (hv : OwnL slL w2 W.heap.size 76 v' xs) (ho : Only (fun k => vt.ownBlock = some k) w w2) : (w2.heap[xb]? = some (.cells #[.string ⟨(T.t).toArray⟩, .int .i64 0, vt, .int .u32 0, vo, .slice none 0 0, vc, vm, vh, vi, vn, va] 55 (0, 0))) ∧ TxAt W (w2.setCell ⟨xb, 2, none⟩ v') xb v' vo vc vm vh vi vn va { T with tn := xs } := by
  have hx := h.row
  have hb := h.hb
  have hx2 : w2.heap[xb]? = _ := (ho.block xb (lt_of_some hx) (fun h9 => by obtain ⟨cur, h8⟩ := own_tag h.lt h9; exact tag_ne h8 hx (by decide) rfl)).trans hx
  have hs : Only (fun k => k = xb) w2 (w2.setCell ⟨xb, 2, none⟩ v') := Only.setCell (S := fun k => k = xb) (Only.refl _ w2) (Or.inl rfl) _
  have hbe : Below W.heap.size W w2 := h.be.trans (ho.below h.be.size (fun k hk h9 => by have := (own_lt h.lt h9).1; omega))
  refine ⟨hx2, hbe.trans (hs.below hbe.size (fun k hk h9 => by omega)), ?_, h.hb, hv.kept hs (fun k hk h9 => by obtain ⟨cur, h8⟩ := own_tag hv hk; exact tag_ne h8 hx2 (by decide) h9),
    (h.lo.kept ho (fun k hk h9 => by obtain ⟨cur, h8⟩ := own_tag h.lo hk; obtain ⟨cur2, h7⟩ := own_tag h.lt h9; exact tag_ne h8 h7 (by decide) rfl)).kept hs (fun k hk h9 => by obtain ⟨cur, h8⟩ := own_tag h.lo hk; exact tag_ne h8 h.row (by decide) h9),
    (h.lc.kept ho (fun k hk h9 => by obtain ⟨cur, h8⟩ := own_tag h.lc hk; obtain ⟨cur2, h7⟩ := own_tag h.lt h9; exact tag_ne h8 h7 (by decide) rfl)).kept hs (fun k hk h9 => by obtain ⟨cur, h8⟩ := own_tag h.lc hk; exact tag_ne h8 h.row (by decide) h9),
    (h.lm.kept ho (fun k hk h9 => by obtain ⟨cur, h8⟩ := own_tag h.lm hk; obtain ⟨cur2, h7⟩ := own_tag h.lt h9; exact tag_ne h8 h7 (by decide) rfl)).kept hs (fun k hk h9 => by obtain ⟨cur, h8⟩ := own_tag h.lm hk; exact tag_ne h8 h.row (by decide) h9),
    (h.lh.kept ho (fun k hk h9 => by obtain ⟨cur, h8⟩ := own_tag h.lh hk; obtain ⟨cur2, h7⟩ := own_tag h.lt h9; exact tag_ne h8 h7 (by decide) rfl)).kept hs (fun k hk h9 => by obtain ⟨cur, h8⟩ := own_tag h.lh hk; exact tag_ne h8 h.row (by decide) h9),
    (h.li.kept ho (fun k hk h9 => by obtain ⟨cur, h8⟩ := own_tag h.li hk; obtain ⟨cur2, h7⟩ := own_tag h.lt h9; exact tag_ne h8 h7 (by decide) rfl)).kept hs (fun k hk h9 => by obtain ⟨cur, h8⟩ := own_tag h.li hk; exact tag_ne h8 h.row (by decide) h9),
    (h.ln.kept ho (fun k hk h9 => by obtain ⟨cur, h8⟩ := own_tag h.ln hk; obtain ⟨cur2, h7⟩ := own_tag h.lt h9; exact tag_ne h8 h7 (by decide) rfl)).kept hs (fun k hk h9 => by obtain ⟨cur, h8⟩ := own_tag h.ln hk; exact tag_ne h8 h.row (by decide) h9),
    (h.la.kept ho (fun k hk h9 => by obtain ⟨cur, h8⟩ := own_tag h.la hk; obtain ⟨cur2, h7⟩ := own_tag h.lt h9; exact tag_ne h8 h7 (by decide) rfl)).kept hs (fun k hk h9 => by obtain ⟨cur, h8⟩ := own_tag h.la hk; exact tag_ne h8 h.row (by decide) h9)⟩
  rw [heap_setCell_same _ _ 2 _ _ _ hx2]
  rfl
theorem TxAt.put_o (h : TxAt W w xb vt vo vc vm vh vi vn va T) {v' : Value} {xs : List Ob} (hv : OwnL obL w2 W.heap.size 58 v' xs) (ho : Only (fun k => vo.ownBlock = some k) w w2) : (w2.heap[xb]? = some (.cells #[.string ⟨(T.t).toArray⟩, .int .i64 0, vt, .int .u32 0, vo, .slice none 0 0, vc, vm, vh, vi, vn, va] 55 (0, 0))) ∧ TxAt W (w2.setCell ⟨xb, 4, none⟩ v') xb vt v' vc vm vh vi vn va { T with ob := xs } := by
  have hx := h.row
  have hb := h.hb
  have hx2 : w2.heap[xb]? = _ := (ho.block xb (lt_of_some hx) (fun h9 => by obtain ⟨cur, h8⟩ := own_tag h.lo h9; exact tag_ne h8 hx (by decide) rfl)).trans hx
  have hs : Only (fun k => k = xb) w2 (w2.setCell ⟨xb, 4, none⟩ v') := Only.setCell (S := fun k => k = xb) (Only.refl _ w2) (Or.inl rfl) _
  have hbe : Below W.heap.size W w2 := h.be.trans (ho.below h.be.size (fun k hk h9 => by have := (own_lt h.lo h9).1; omega))
  refine ⟨hx2, hbe.trans (hs.below hbe.size (fun k hk h9 => by omega)), ?_, h.hb, (h.lt.kept ho (fun k hk h9 => by obtain ⟨cur, h8⟩ := own_tag h.lt hk; obtain ⟨cur2, h7⟩ := own_tag h.lo h9; exact tag_ne h8 h7 (by decide) rfl)).kept hs (fun k hk h9 => by obtain ⟨cur, h8⟩ := own_tag h.lt hk; exact tag_ne h8 h.row (by decide) h9),
    hv.kept hs (fun k hk h9 => by obtain ⟨cur, h8⟩ := own_tag hv hk; exact tag_ne h8 hx2 (by decide) h9),
    (h.lc.kept ho (fun k hk h9 => by obtain ⟨cur, h8⟩ := own_tag h.lc hk; obtain ⟨cur2, h7⟩ := own_tag h.lo h9; exact tag_ne h8 h7 (by decide) rfl)).kept hs (fun k hk h9 => by obtain ⟨cur, h8⟩ := own_tag h.lc hk; exact tag_ne h8 h.row (by decide) h9),
    (h.lm.kept ho (fun k hk h9 => by obtain ⟨cur, h8⟩ := own_tag h.lm hk; obtain ⟨cur2, h7⟩ := own_tag h.lo h9; exact tag_ne h8 h7 (by decide) rfl)).kept hs (fun k hk h9 => by obtain ⟨cur, h8⟩ := own_tag h.lm hk; exact tag_ne h8 h.row (by decide) h9),
    (h.lh.kept ho (fun k hk h9 => by obtain ⟨cur, h8⟩ := own_tag h.lh hk; obtain ⟨cur2, h7⟩ := own_tag h.lo h9; exact tag_ne h8 h7 (by decide) rfl)).kept hs (fun k hk h9 => by obtain ⟨cur, h8⟩ := own_tag h.lh hk; exact tag_ne h8 h.row (by decide) h9),
    (h.li.kept ho (fun k hk h9 => by obtain ⟨cur, h8⟩ := own_tag h.li hk; obtain ⟨cur2, h7⟩ := own_tag h.lo h9; exact tag_ne h8 h7 (by decide) rfl)).kept hs (fun k hk h9 => by obtain ⟨cur, h8⟩ := own_tag h.li hk; exact tag_ne h8 h.row (by decide) h9),
    (h.ln.kept ho (fun k hk h9 => by obtain ⟨cur, h8⟩ := own_tag h.ln hk; obtain ⟨cur2, h7⟩ := own_tag h.lo h9; exact tag_ne h8 h7 (by decide) rfl)).kept hs (fun k hk h9 => by obtain ⟨cur, h8⟩ := own_tag h.ln hk; exact tag_ne h8 h.row (by decide) h9),
    (h.la.kept ho (fun k hk h9 => by obtain ⟨cur, h8⟩ := own_tag h.la hk; obtain ⟨cur2, h7⟩ := own_tag h.lo h9; exact tag_ne h8 h7 (by decide) rfl)).kept hs (fun k hk h9 => by obtain ⟨cur, h8⟩ := own_tag h.la hk; exact tag_ne h8 h.row (by decide) h9)⟩
  rw [heap_setCell_same _ _ 4 _ _ _ hx2]
  rfl
theorem TxAt.put_c (h : TxAt W w xb vt vo vc vm vh vi vn va T) {v' : Value} {xs : List En} (hv : OwnL enL w2 W.heap.size 84 v' xs) (ho : Only (fun k => vc.ownBlock = some k) w w2) : (w2.heap[xb]? = some (.cells #[.string ⟨(T.t).toArray⟩, .int .i64 0, vt, .int .u32 0, vo, .slice none 0 0, vc, vm, vh, vi, vn, va] 55 (0, 0))) ∧ TxAt W (w2.setCell ⟨xb, 6, none⟩ v') xb vt vo v' vm vh vi vn va { T with cp := xs } := by
  have hx := h.row
  have hb := h.hb
  have hx2 : w2.heap[xb]? = _ := (ho.block xb (lt_of_some hx) (fun h9 => by obtain ⟨cur, h8⟩ := own_tag h.lc h9; exact tag_ne h8 hx (by decide) rfl)).trans hx
  have hs : Only (fun k => k = xb) w2 (w2.setCell ⟨xb, 6, none⟩ v') := Only.setCell (S := fun k => k = xb) (Only.refl _ w2) (Or.inl rfl) _
  have hbe : Below W.heap.size W w2 := h.be.trans (ho.below h.be.size (fun k hk h9 => by have := (own_lt h.lc h9).1; omega))
  refine ⟨hx2, hbe.trans (hs.below hbe.size (fun k hk h9 => by omega)), ?_, h.hb, (h.lt.kept ho (fun k hk h9 => by obtain ⟨cur, h8⟩ := own_tag h.lt hk; obtain ⟨cur2, h7⟩ := own_tag h.lc h9; exact tag_ne h8 h7 (by decide) rfl)).kept hs (fun k hk h9 => by obtain ⟨cur, h8⟩ := own_tag h.lt hk; exact tag_ne h8 h.row (by decide) h9),
    (h.lo.kept ho (fun k hk h9 => by obtain ⟨cur, h8⟩ := own_tag h.lo hk; obtain ⟨cur2, h7⟩ := own_tag h.lc h9; exact tag_ne h8 h7 (by decide) rfl)).kept hs (fun k hk h9 => by obtain ⟨cur, h8⟩ := own_tag h.lo hk; exact tag_ne h8 h.row (by decide) h9),
    hv.kept hs (fun k hk h9 => by obtain ⟨cur, h8⟩ := own_tag hv hk; exact tag_ne h8 hx2 (by decide) h9),
    (h.lm.kept ho (fun k hk h9 => by obtain ⟨cur, h8⟩ := own_tag h.lm hk; obtain ⟨cur2, h7⟩ := own_tag h.lc h9; exact tag_ne h8 h7 (by decide) rfl)).kept hs (fun k hk h9 => by obtain ⟨cur, h8⟩ := own_tag h.lm hk; exact tag_ne h8 h.row (by decide) h9),
    (h.lh.kept ho (fun k hk h9 => by obtain ⟨cur, h8⟩ := own_tag h.lh hk; obtain ⟨cur2, h7⟩ := own_tag h.lc h9; exact tag_ne h8 h7 (by decide) rfl)).kept hs (fun k hk h9 => by obtain ⟨cur, h8⟩ := own_tag h.lh hk; exact tag_ne h8 h.row (by decide) h9),
    (h.li.kept ho (fun k hk h9 => by obtain ⟨cur, h8⟩ := own_tag h.li hk; obtain ⟨cur2, h7⟩ := own_tag h.lc h9; exact tag_ne h8 h7 (by decide) rfl)).kept hs (fun k hk h9 => by obtain ⟨cur, h8⟩ := own_tag h.li hk; exact tag_ne h8 h.row (by decide) h9),
    (h.ln.kept ho (fun k hk h9 => by obtain ⟨cur, h8⟩ := own_tag h.ln hk; obtain ⟨cur2, h7⟩ := own_tag h.lc h9; exact tag_ne h8 h7 (by decide) rfl)).kept hs (fun k hk h9 => by obtain ⟨cur, h8⟩ := own_tag h.ln hk; exact tag_ne h8 h.row (by decide) h9),
    (h.la.kept ho (fun k hk h9 => by obtain ⟨cur, h8⟩ := own_tag h.la hk; obtain ⟨cur2, h7⟩ := own_tag h.lc h9; exact tag_ne h8 h7 (by decide) rfl)).kept hs (fun k hk h9 => by obtain ⟨cur, h8⟩ := own_tag h.la hk; exact tag_ne h8 h.row (by decide) h9)⟩
  rw [heap_setCell_same _ _ 6 _ _ _ hx2]
  rfl
theorem TxAt.put_m (h : TxAt W w xb vt vo vc vm vh vi vn va T) {v' : Value} {xs : List Mq} (hv : OwnL mqL w2 W.heap.size 86 v' xs) (ho : Only (fun k => vm.ownBlock = some k) w w2) : (w2.heap[xb]? = some (.cells #[.string ⟨(T.t).toArray⟩, .int .i64 0, vt, .int .u32 0, vo, .slice none 0 0, vc, vm, vh, vi, vn, va] 55 (0, 0))) ∧ TxAt W (w2.setCell ⟨xb, 7, none⟩ v') xb vt vo vc v' vh vi vn va { T with mp := xs } := by
  have hx := h.row
  have hb := h.hb
  have hx2 : w2.heap[xb]? = _ := (ho.block xb (lt_of_some hx) (fun h9 => by obtain ⟨cur, h8⟩ := own_tag h.lm h9; exact tag_ne h8 hx (by decide) rfl)).trans hx
  have hs : Only (fun k => k = xb) w2 (w2.setCell ⟨xb, 7, none⟩ v') := Only.setCell (S := fun k => k = xb) (Only.refl _ w2) (Or.inl rfl) _
  have hbe : Below W.heap.size W w2 := h.be.trans (ho.below h.be.size (fun k hk h9 => by have := (own_lt h.lm h9).1; omega))
  refine ⟨hx2, hbe.trans (hs.below hbe.size (fun k hk h9 => by omega)), ?_, h.hb, (h.lt.kept ho (fun k hk h9 => by obtain ⟨cur, h8⟩ := own_tag h.lt hk; obtain ⟨cur2, h7⟩ := own_tag h.lm h9; exact tag_ne h8 h7 (by decide) rfl)).kept hs (fun k hk h9 => by obtain ⟨cur, h8⟩ := own_tag h.lt hk; exact tag_ne h8 h.row (by decide) h9),
    (h.lo.kept ho (fun k hk h9 => by obtain ⟨cur, h8⟩ := own_tag h.lo hk; obtain ⟨cur2, h7⟩ := own_tag h.lm h9; exact tag_ne h8 h7 (by decide) rfl)).kept hs (fun k hk h9 => by obtain ⟨cur, h8⟩ := own_tag h.lo hk; exact tag_ne h8 h.row (by decide) h9),
    (h.lc.kept ho (fun k hk h9 => by obtain ⟨cur, h8⟩ := own_tag h.lc hk; obtain ⟨cur2, h7⟩ := own_tag h.lm h9; exact tag_ne h8 h7 (by decide) rfl)).kept hs (fun k hk h9 => by obtain ⟨cur, h8⟩ := own_tag h.lc hk; exact tag_ne h8 h.row (by decide) h9),
    hv.kept hs (fun k hk h9 => by obtain ⟨cur, h8⟩ := own_tag hv hk; exact tag_ne h8 hx2 (by decide) h9),
    (h.lh.kept ho (fun k hk h9 => by obtain ⟨cur, h8⟩ := own_tag h.lh hk; obtain ⟨cur2, h7⟩ := own_tag h.lm h9; exact tag_ne h8 h7 (by decide) rfl)).kept hs (fun k hk h9 => by obtain ⟨cur, h8⟩ := own_tag h.lh hk; exact tag_ne h8 h.row (by decide) h9),
    (h.li.kept ho (fun k hk h9 => by obtain ⟨cur, h8⟩ := own_tag h.li hk; obtain ⟨cur2, h7⟩ := own_tag h.lm h9; exact tag_ne h8 h7 (by decide) rfl)).kept hs (fun k hk h9 => by obtain ⟨cur, h8⟩ := own_tag h.li hk; exact tag_ne h8 h.row (by decide) h9),
    (h.ln.kept ho (fun k hk h9 => by obtain ⟨cur, h8⟩ := own_tag h.ln hk; obtain ⟨cur2, h7⟩ := own_tag h.lm h9; exact tag_ne h8 h7 (by decide) rfl)).kept hs (fun k hk h9 => by obtain ⟨cur, h8⟩ := own_tag h.ln hk; exact tag_ne h8 h.row (by decide) h9),
    (h.la.kept ho (fun k hk h9 => by obtain ⟨cur, h8⟩ := own_tag h.la hk; obtain ⟨cur2, h7⟩ := own_tag h.lm h9; exact tag_ne h8 h7 (by decide) rfl)).kept hs (fun k hk h9 => by obtain ⟨cur, h8⟩ := own_tag h.la hk; exact tag_ne h8 h.row (by decide) h9)⟩
  rw [heap_setCell_same _ _ 7 _ _ _ hx2]
  rfl
theorem TxAt.put_h (h : TxAt W w xb vt vo vc vm vh vi vn va T) {v' : Value} {xs : List Th} (hv : OwnL thL w2 W.heap.size 91 v' xs) (ho : Only (fun k => vh.ownBlock = some k) w w2) : (w2.heap[xb]? = some (.cells #[.string ⟨(T.t).toArray⟩, .int .i64 0, vt, .int .u32 0, vo, .slice none 0 0, vc, vm, vh, vi, vn, va] 55 (0, 0))) ∧ TxAt W (w2.setCell ⟨xb, 8, none⟩ v') xb vt vo vc vm v' vi vn va { T with th := xs } := by
  have hx := h.row
  have hb := h.hb
  have hx2 : w2.heap[xb]? = _ := (ho.block xb (lt_of_some hx) (fun h9 => by obtain ⟨cur, h8⟩ := own_tag h.lh h9; exact tag_ne h8 hx (by decide) rfl)).trans hx
  have hs : Only (fun k => k = xb) w2 (w2.setCell ⟨xb, 8, none⟩ v') := Only.setCell (S := fun k => k = xb) (Only.refl _ w2) (Or.inl rfl) _
  have hbe : Below W.heap.size W w2 := h.be.trans (ho.below h.be.size (fun k hk h9 => by have := (own_lt h.lh h9).1; omega))
  refine ⟨hx2, hbe.trans (hs.below hbe.size (fun k hk h9 => by omega)), ?_, h.hb, (h.lt.kept ho (fun k hk h9 => by obtain ⟨cur, h8⟩ := own_tag h.lt hk; obtain ⟨cur2, h7⟩ := own_tag h.lh h9; exact tag_ne h8 h7 (by decide) rfl)).kept hs (fun k hk h9 => by obtain ⟨cur, h8⟩ := own_tag h.lt hk; exact tag_ne h8 h.row (by decide) h9),
    (h.lo.kept ho (fun k hk h9 => by obtain ⟨cur, h8⟩ := own_tag h.lo hk; obtain ⟨cur2, h7⟩ := own_tag h.lh h9; exact tag_ne h8 h7 (by decide) rfl)).kept hs (fun k hk h9 => by obtain ⟨cur, h8⟩ := own_tag h.lo hk; exact tag_ne h8 h.row (by decide) h9),
    (h.lc.kept ho (fun k hk h9 => by obtain ⟨cur, h8⟩ := own_tag h.lc hk; obtain ⟨cur2, h7⟩ := own_tag h.lh h9; exact tag_ne h8 h7 (by decide) rfl)).kept hs (fun k hk h9 => by obtain ⟨cur, h8⟩ := own_tag h.lc hk; exact tag_ne h8 h.row (by decide) h9),
    (h.lm.kept ho (fun k hk h9 => by obtain ⟨cur, h8⟩ := own_tag h.lm hk; obtain ⟨cur2, h7⟩ := own_tag h.lh h9; exact tag_ne h8 h7 (by decide) rfl)).kept hs (fun k hk h9 => by obtain ⟨cur, h8⟩ := own_tag h.lm hk; exact tag_ne h8 h.row (by decide) h9),
    hv.kept hs (fun k hk h9 => by obtain ⟨cur, h8⟩ := own_tag hv hk; exact tag_ne h8 hx2 (by decide) h9),
    (h.li.kept ho (fun k hk h9 => by obtain ⟨cur, h8⟩ := own_tag h.li hk; obtain ⟨cur2, h7⟩ := own_tag h.lh h9; exact tag_ne h8 h7 (by decide) rfl)).kept hs (fun k hk h9 => by obtain ⟨cur, h8⟩ := own_tag h.li hk; exact tag_ne h8 h.row (by decide) h9),
    (h.ln.kept ho (fun k hk h9 => by obtain ⟨cur, h8⟩ := own_tag h.ln hk; obtain ⟨cur2, h7⟩ := own_tag h.lh h9; exact tag_ne h8 h7 (by decide) rfl)).kept hs (fun k hk h9 => by obtain ⟨cur, h8⟩ := own_tag h.ln hk; exact tag_ne h8 h.row (by decide) h9),
    (h.la.kept ho (fun k hk h9 => by obtain ⟨cur, h8⟩ := own_tag h.la hk; obtain ⟨cur2, h7⟩ := own_tag h.lh h9; exact tag_ne h8 h7 (by decide) rfl)).kept hs (fun k hk h9 => by obtain ⟨cur, h8⟩ := own_tag h.la hk; exact tag_ne h8 h.row (by decide) h9)⟩
  rw [heap_setCell_same _ _ 8 _ _ _ hx2]
  rfl
theorem TxAt.put_i (h : TxAt W w xb vt vo vc vm vh vi vn va T) {v' : Value} {xs : List Ob} (hv : OwnL irL w2 W.heap.size 93 v' xs) (ho : Only (fun k => vi.ownBlock = some k) w w2) : (w2.heap[xb]? = some (.cells #[.string ⟨(T.t).toArray⟩, .int .i64 0, vt, .int .u32 0, vo, .slice none 0 0, vc, vm, vh, vi, vn, va] 55 (0, 0))) ∧ TxAt W (w2.setCell ⟨xb, 9, none⟩ v') xb vt vo vc vm vh v' vn va { T with ir := xs } := by
  have hx := h.row
  have hb := h.hb
  have hx2 : w2.heap[xb]? = _ := (ho.block xb (lt_of_some hx) (fun h9 => by obtain ⟨cur, h8⟩ := own_tag h.li h9; exact tag_ne h8 hx (by decide) rfl)).trans hx
  have hs : Only (fun k => k = xb) w2 (w2.setCell ⟨xb, 9, none⟩ v') := Only.setCell (S := fun k => k = xb) (Only.refl _ w2) (Or.inl rfl) _
  have hbe : Below W.heap.size W w2 := h.be.trans (ho.below h.be.size (fun k hk h9 => by have := (own_lt h.li h9).1; omega))
  refine ⟨hx2, hbe.trans (hs.below hbe.size (fun k hk h9 => by omega)), ?_, h.hb, (h.lt.kept ho (fun k hk h9 => by obtain ⟨cur, h8⟩ := own_tag h.lt hk; obtain ⟨cur2, h7⟩ := own_tag h.li h9; exact tag_ne h8 h7 (by decide) rfl)).kept hs (fun k hk h9 => by obtain ⟨cur, h8⟩ := own_tag h.lt hk; exact tag_ne h8 h.row (by decide) h9),
    (h.lo.kept ho (fun k hk h9 => by obtain ⟨cur, h8⟩ := own_tag h.lo hk; obtain ⟨cur2, h7⟩ := own_tag h.li h9; exact tag_ne h8 h7 (by decide) rfl)).kept hs (fun k hk h9 => by obtain ⟨cur, h8⟩ := own_tag h.lo hk; exact tag_ne h8 h.row (by decide) h9),
    (h.lc.kept ho (fun k hk h9 => by obtain ⟨cur, h8⟩ := own_tag h.lc hk; obtain ⟨cur2, h7⟩ := own_tag h.li h9; exact tag_ne h8 h7 (by decide) rfl)).kept hs (fun k hk h9 => by obtain ⟨cur, h8⟩ := own_tag h.lc hk; exact tag_ne h8 h.row (by decide) h9),
    (h.lm.kept ho (fun k hk h9 => by obtain ⟨cur, h8⟩ := own_tag h.lm hk; obtain ⟨cur2, h7⟩ := own_tag h.li h9; exact tag_ne h8 h7 (by decide) rfl)).kept hs (fun k hk h9 => by obtain ⟨cur, h8⟩ := own_tag h.lm hk; exact tag_ne h8 h.row (by decide) h9),
    (h.lh.kept ho (fun k hk h9 => by obtain ⟨cur, h8⟩ := own_tag h.lh hk; obtain ⟨cur2, h7⟩ := own_tag h.li h9; exact tag_ne h8 h7 (by decide) rfl)).kept hs (fun k hk h9 => by obtain ⟨cur, h8⟩ := own_tag h.lh hk; exact tag_ne h8 h.row (by decide) h9),
    hv.kept hs (fun k hk h9 => by obtain ⟨cur, h8⟩ := own_tag hv hk; exact tag_ne h8 hx2 (by decide) h9),
    (h.ln.kept ho (fun k hk h9 => by obtain ⟨cur, h8⟩ := own_tag h.ln hk; obtain ⟨cur2, h7⟩ := own_tag h.li h9; exact tag_ne h8 h7 (by decide) rfl)).kept hs (fun k hk h9 => by obtain ⟨cur, h8⟩ := own_tag h.ln hk; exact tag_ne h8 h.row (by decide) h9),
    (h.la.kept ho (fun k hk h9 => by obtain ⟨cur, h8⟩ := own_tag h.la hk; obtain ⟨cur2, h7⟩ := own_tag h.li h9; exact tag_ne h8 h7 (by decide) rfl)).kept hs (fun k hk h9 => by obtain ⟨cur, h8⟩ := own_tag h.la hk; exact tag_ne h8 h.row (by decide) h9)⟩
  rw [heap_setCell_same _ _ 9 _ _ _ hx2]
  rfl
theorem TxAt.put_n (h : TxAt W w xb vt vo vc vm vh vi vn va T) {v' : Value} {xs : List (List UInt8)} (hv : OwnL stL w2 W.heap.size 9 v' xs) (ho : Only (fun k => vn.ownBlock = some k) w w2) : (w2.heap[xb]? = some (.cells #[.string ⟨(T.t).toArray⟩, .int .i64 0, vt, .int .u32 0, vo, .slice none 0 0, vc, vm, vh, vi, vn, va] 55 (0, 0))) ∧ TxAt W (w2.setCell ⟨xb, 10, none⟩ v') xb vt vo vc vm vh vi v' va { T with nm := xs } := by
  have hx := h.row
  have hb := h.hb
  have hx2 : w2.heap[xb]? = _ := (ho.block xb (lt_of_some hx) (fun h9 => by obtain ⟨cur, h8⟩ := own_tag h.ln h9; exact tag_ne h8 hx (by decide) rfl)).trans hx
  have hs : Only (fun k => k = xb) w2 (w2.setCell ⟨xb, 10, none⟩ v') := Only.setCell (S := fun k => k = xb) (Only.refl _ w2) (Or.inl rfl) _
  have hbe : Below W.heap.size W w2 := h.be.trans (ho.below h.be.size (fun k hk h9 => by have := (own_lt h.ln h9).1; omega))
  refine ⟨hx2, hbe.trans (hs.below hbe.size (fun k hk h9 => by omega)), ?_, h.hb, (h.lt.kept ho (fun k hk h9 => by obtain ⟨cur, h8⟩ := own_tag h.lt hk; obtain ⟨cur2, h7⟩ := own_tag h.ln h9; exact tag_ne h8 h7 (by decide) rfl)).kept hs (fun k hk h9 => by obtain ⟨cur, h8⟩ := own_tag h.lt hk; exact tag_ne h8 h.row (by decide) h9),
    (h.lo.kept ho (fun k hk h9 => by obtain ⟨cur, h8⟩ := own_tag h.lo hk; obtain ⟨cur2, h7⟩ := own_tag h.ln h9; exact tag_ne h8 h7 (by decide) rfl)).kept hs (fun k hk h9 => by obtain ⟨cur, h8⟩ := own_tag h.lo hk; exact tag_ne h8 h.row (by decide) h9),
    (h.lc.kept ho (fun k hk h9 => by obtain ⟨cur, h8⟩ := own_tag h.lc hk; obtain ⟨cur2, h7⟩ := own_tag h.ln h9; exact tag_ne h8 h7 (by decide) rfl)).kept hs (fun k hk h9 => by obtain ⟨cur, h8⟩ := own_tag h.lc hk; exact tag_ne h8 h.row (by decide) h9),
    (h.lm.kept ho (fun k hk h9 => by obtain ⟨cur, h8⟩ := own_tag h.lm hk; obtain ⟨cur2, h7⟩ := own_tag h.ln h9; exact tag_ne h8 h7 (by decide) rfl)).kept hs (fun k hk h9 => by obtain ⟨cur, h8⟩ := own_tag h.lm hk; exact tag_ne h8 h.row (by decide) h9),
    (h.lh.kept ho (fun k hk h9 => by obtain ⟨cur, h8⟩ := own_tag h.lh hk; obtain ⟨cur2, h7⟩ := own_tag h.ln h9; exact tag_ne h8 h7 (by decide) rfl)).kept hs (fun k hk h9 => by obtain ⟨cur, h8⟩ := own_tag h.lh hk; exact tag_ne h8 h.row (by decide) h9),
    (h.li.kept ho (fun k hk h9 => by obtain ⟨cur, h8⟩ := own_tag h.li hk; obtain ⟨cur2, h7⟩ := own_tag h.ln h9; exact tag_ne h8 h7 (by decide) rfl)).kept hs (fun k hk h9 => by obtain ⟨cur, h8⟩ := own_tag h.li hk; exact tag_ne h8 h.row (by decide) h9),
    hv.kept hs (fun k hk h9 => by obtain ⟨cur, h8⟩ := own_tag hv hk; exact tag_ne h8 hx2 (by decide) h9),
    (h.la.kept ho (fun k hk h9 => by obtain ⟨cur, h8⟩ := own_tag h.la hk; obtain ⟨cur2, h7⟩ := own_tag h.ln h9; exact tag_ne h8 h7 (by decide) rfl)).kept hs (fun k hk h9 => by obtain ⟨cur, h8⟩ := own_tag h.la hk; exact tag_ne h8 h.row (by decide) h9)⟩
  rw [heap_setCell_same _ _ 10 _ _ _ hx2]
  rfl
theorem TxAt.put_a (h : TxAt W w xb vt vo vc vm vh vi vn va T) {v' : Value} {xs : List Sl} (hv : OwnL slL w2 W.heap.size 46 v' xs) (ho : Only (fun k => va.ownBlock = some k) w w2) : (w2.heap[xb]? = some (.cells #[.string ⟨(T.t).toArray⟩, .int .i64 0, vt, .int .u32 0, vo, .slice none 0 0, vc, vm, vh, vi, vn, va] 55 (0, 0))) ∧ TxAt W (w2.setCell ⟨xb, 11, none⟩ v') xb vt vo vc vm vh vi vn v' { T with ar := xs } := by
  have hx := h.row
  have hb := h.hb
  have hx2 : w2.heap[xb]? = _ := (ho.block xb (lt_of_some hx) (fun h9 => by obtain ⟨cur, h8⟩ := own_tag h.la h9; exact tag_ne h8 hx (by decide) rfl)).trans hx
  have hs : Only (fun k => k = xb) w2 (w2.setCell ⟨xb, 11, none⟩ v') := Only.setCell (S := fun k => k = xb) (Only.refl _ w2) (Or.inl rfl) _
  have hbe : Below W.heap.size W w2 := h.be.trans (ho.below h.be.size (fun k hk h9 => by have := (own_lt h.la h9).1; omega))
  refine ⟨hx2, hbe.trans (hs.below hbe.size (fun k hk h9 => by omega)), ?_, h.hb, (h.lt.kept ho (fun k hk h9 => by obtain ⟨cur, h8⟩ := own_tag h.lt hk; obtain ⟨cur2, h7⟩ := own_tag h.la h9; exact tag_ne h8 h7 (by decide) rfl)).kept hs (fun k hk h9 => by obtain ⟨cur, h8⟩ := own_tag h.lt hk; exact tag_ne h8 h.row (by decide) h9),
    (h.lo.kept ho (fun k hk h9 => by obtain ⟨cur, h8⟩ := own_tag h.lo hk; obtain ⟨cur2, h7⟩ := own_tag h.la h9; exact tag_ne h8 h7 (by decide) rfl)).kept hs (fun k hk h9 => by obtain ⟨cur, h8⟩ := own_tag h.lo hk; exact tag_ne h8 h.row (by decide) h9),
    (h.lc.kept ho (fun k hk h9 => by obtain ⟨cur, h8⟩ := own_tag h.lc hk; obtain ⟨cur2, h7⟩ := own_tag h.la h9; exact tag_ne h8 h7 (by decide) rfl)).kept hs (fun k hk h9 => by obtain ⟨cur, h8⟩ := own_tag h.lc hk; exact tag_ne h8 h.row (by decide) h9),
    (h.lm.kept ho (fun k hk h9 => by obtain ⟨cur, h8⟩ := own_tag h.lm hk; obtain ⟨cur2, h7⟩ := own_tag h.la h9; exact tag_ne h8 h7 (by decide) rfl)).kept hs (fun k hk h9 => by obtain ⟨cur, h8⟩ := own_tag h.lm hk; exact tag_ne h8 h.row (by decide) h9),
    (h.lh.kept ho (fun k hk h9 => by obtain ⟨cur, h8⟩ := own_tag h.lh hk; obtain ⟨cur2, h7⟩ := own_tag h.la h9; exact tag_ne h8 h7 (by decide) rfl)).kept hs (fun k hk h9 => by obtain ⟨cur, h8⟩ := own_tag h.lh hk; exact tag_ne h8 h.row (by decide) h9),
    (h.li.kept ho (fun k hk h9 => by obtain ⟨cur, h8⟩ := own_tag h.li hk; obtain ⟨cur2, h7⟩ := own_tag h.la h9; exact tag_ne h8 h7 (by decide) rfl)).kept hs (fun k hk h9 => by obtain ⟨cur, h8⟩ := own_tag h.li hk; exact tag_ne h8 h.row (by decide) h9),
    (h.ln.kept ho (fun k hk h9 => by obtain ⟨cur, h8⟩ := own_tag h.ln hk; obtain ⟨cur2, h7⟩ := own_tag h.la h9; exact tag_ne h8 h7 (by decide) rfl)).kept hs (fun k hk h9 => by obtain ⟨cur, h8⟩ := own_tag h.ln hk; exact tag_ne h8 h.row (by decide) h9),
    hv.kept hs (fun k hk h9 => by obtain ⟨cur, h8⟩ := own_tag hv hk; exact tag_ne h8 hx2 (by decide) h9)⟩
  rw [heap_setCell_same _ _ 11 _ _ _ hx2]
  rfl
theorem froz {w : World} {b : Nat} {cs : Array Value} {t : TypeId} (h : w.heap[b]? = some (.cells cs t (0, 0))) (j : Nat) : w.frozen? ⟨b, j, none⟩ = false := by simp [World.frozen?, h]
/-- What a list that was put on leaves to be known (api.Turn). -/
theorem TxAt.st_t (h : TxAt W w xb vt vo vc vm vh vi vn va T) (v' : Value) (w5 : World) (xs : List Sl) (hv : OwnL slL w5 W.heap.size 76 v' xs) (ho : Only (fun k => vt.ownBlock = some k) w w5) :
    (∃ p m c, v' = .slice p m c) ∧ (∃ x, w5.cell? ⟨xb, 2, none⟩ = some x) ∧ w5.frozen? ⟨xb, 2, none⟩ = false ∧ Hid (TxAt W (w5.setCell ⟨xb, 2, none⟩ v') xb v' vo vc vm vh vi vn va { T with tn := xs }) := by
  obtain ⟨p, c, hp, _⟩ := hv.form
  have h1 := h.put_t hv ho
  exact ⟨⟨p, _, c, hp⟩, ⟨_, (cell_of_row _ _ 2 _ _ (0, 0) h1.1).trans rfl⟩, froz h1.1 2, h1.2⟩
/-- What a list that was put on leaves to be known (api.ObjectSpec). -/
theorem TxAt.st_o (h : TxAt W w xb vt vo vc vm vh vi vn va T) (v' : Value) (w5 : World) (xs : List Ob) (hv : OwnL obL w5 W.heap.size 58 v' xs) (ho : Only (fun k => vo.ownBlock = some k) w w5) :
    (∃ p m c, v' = .slice p m c) ∧ (∃ x, w5.cell? ⟨xb, 4, none⟩ = some x) ∧ w5.frozen? ⟨xb, 4, none⟩ = false ∧ Hid (TxAt W (w5.setCell ⟨xb, 4, none⟩ v') xb vt v' vc vm vh vi vn va { T with ob := xs }) := by
  obtain ⟨p, c, hp, _⟩ := hv.form
  have h1 := h.put_o hv ho
  exact ⟨⟨p, _, c, hp⟩, ⟨_, (cell_of_row _ _ 4 _ _ (0, 0) h1.1).trans rfl⟩, froz h1.1 4, h1.2⟩
/-- What a list that was put on leaves to be known (api.CapSpec). -/
theorem TxAt.st_c (h : TxAt W w xb vt vo vc vm vh vi vn va T) (v' : Value) (w5 : World) (xs : List En) (hv : OwnL enL w5 W.heap.size 84 v' xs) (ho : Only (fun k => vc.ownBlock = some k) w w5) :
    (∃ p m c, v' = .slice p m c) ∧ (∃ x, w5.cell? ⟨xb, 6, none⟩ = some x) ∧ w5.frozen? ⟨xb, 6, none⟩ = false ∧ Hid (TxAt W (w5.setCell ⟨xb, 6, none⟩ v') xb vt vo v' vm vh vi vn va { T with cp := xs }) := by
  obtain ⟨p, c, hp, _⟩ := hv.form
  have h1 := h.put_c hv ho
  exact ⟨⟨p, _, c, hp⟩, ⟨_, (cell_of_row _ _ 6 _ _ (0, 0) h1.1).trans rfl⟩, froz h1.1 6, h1.2⟩
/-- What a list that was put on leaves to be known (api.MapSpec). -/
theorem TxAt.st_m (h : TxAt W w xb vt vo vc vm vh vi vn va T) (v' : Value) (w5 : World) (xs : List Mq) (hv : OwnL mqL w5 W.heap.size 86 v' xs) (ho : Only (fun k => vm.ownBlock = some k) w w5) :
    (∃ p m c, v' = .slice p m c) ∧ (∃ x, w5.cell? ⟨xb, 7, none⟩ = some x) ∧ w5.frozen? ⟨xb, 7, none⟩ = false ∧ Hid (TxAt W (w5.setCell ⟨xb, 7, none⟩ v') xb vt vo vc v' vh vi vn va { T with mp := xs }) := by
  obtain ⟨p, c, hp, _⟩ := hv.form
  have h1 := h.put_m hv ho
  exact ⟨⟨p, _, c, hp⟩, ⟨_, (cell_of_row _ _ 7 _ _ (0, 0) h1.1).trans rfl⟩, froz h1.1 7, h1.2⟩
/-- What a list that was put on leaves to be known (api.ThreadSpec). -/
theorem TxAt.st_h (h : TxAt W w xb vt vo vc vm vh vi vn va T) (v' : Value) (w5 : World) (xs : List Th) (hv : OwnL thL w5 W.heap.size 91 v' xs) (ho : Only (fun k => vh.ownBlock = some k) w w5) :
    (∃ p m c, v' = .slice p m c) ∧ (∃ x, w5.cell? ⟨xb, 8, none⟩ = some x) ∧ w5.frozen? ⟨xb, 8, none⟩ = false ∧ Hid (TxAt W (w5.setCell ⟨xb, 8, none⟩ v') xb vt vo vc vm v' vi vn va { T with th := xs }) := by
  obtain ⟨p, c, hp, _⟩ := hv.form
  have h1 := h.put_h hv ho
  exact ⟨⟨p, _, c, hp⟩, ⟨_, (cell_of_row _ _ 8 _ _ (0, 0) h1.1).trans rfl⟩, froz h1.1 8, h1.2⟩
/-- What a list that was put on leaves to be known (api.IrqSpec). -/
theorem TxAt.st_i (h : TxAt W w xb vt vo vc vm vh vi vn va T) (v' : Value) (w5 : World) (xs : List Ob) (hv : OwnL irL w5 W.heap.size 93 v' xs) (ho : Only (fun k => vi.ownBlock = some k) w w5) :
    (∃ p m c, v' = .slice p m c) ∧ (∃ x, w5.cell? ⟨xb, 9, none⟩ = some x) ∧ w5.frozen? ⟨xb, 9, none⟩ = false ∧ Hid (TxAt W (w5.setCell ⟨xb, 9, none⟩ v') xb vt vo vc vm vh v' vn va { T with ir := xs }) := by
  obtain ⟨p, c, hp, _⟩ := hv.form
  have h1 := h.put_i hv ho
  exact ⟨⟨p, _, c, hp⟩, ⟨_, (cell_of_row _ _ 9 _ _ (0, 0) h1.1).trans rfl⟩, froz h1.1 9, h1.2⟩
/-- What a list that was put on leaves to be known (string). -/
theorem TxAt.st_n (h : TxAt W w xb vt vo vc vm vh vi vn va T) (v' : Value) (w5 : World) (xs : List (List UInt8)) (hv : OwnL stL w5 W.heap.size 9 v' xs) (ho : Only (fun k => vn.ownBlock = some k) w w5) :
    (∃ p m c, v' = .slice p m c) ∧ (∃ x, w5.cell? ⟨xb, 10, none⟩ = some x) ∧ w5.frozen? ⟨xb, 10, none⟩ = false ∧ Hid (TxAt W (w5.setCell ⟨xb, 10, none⟩ v') xb vt vo vc vm vh vi v' va { T with nm := xs }) := by
  obtain ⟨p, c, hp, _⟩ := hv.form
  have h1 := h.put_n hv ho
  exact ⟨⟨p, _, c, hp⟩, ⟨_, (cell_of_row _ _ 10 _ _ (0, 0) h1.1).trans rfl⟩, froz h1.1 10, h1.2⟩
/-- What a list that was put on leaves to be known (api.Object). -/
theorem TxAt.st_a (h : TxAt W w xb vt vo vc vm vh vi vn va T) (v' : Value) (w5 : World) (xs : List Sl) (hv : OwnL slL w5 W.heap.size 46 v' xs) (ho : Only (fun k => va.ownBlock = some k) w w5) :
    (∃ p m c, v' = .slice p m c) ∧ (∃ x, w5.cell? ⟨xb, 11, none⟩ = some x) ∧ w5.frozen? ⟨xb, 11, none⟩ = false ∧ Hid (TxAt W (w5.setCell ⟨xb, 11, none⟩ v') xb vt vo vc vm vh vi vn v' { T with ar := xs }) := by
  obtain ⟨p, c, hp, _⟩ := hv.form
  have h1 := h.put_a hv ho
  exact ⟨⟨p, _, c, hp⟩, ⟨_, (cell_of_row _ _ 11 _ _ (0, 0) h1.1).trans rfl⟩, froz h1.1 11, h1.2⟩
end Go.Proofs.YtgacifbpjdakaaaGreatDoor

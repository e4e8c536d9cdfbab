/- SpecReads' law: line, common (gen_td5.py). -/
import Derived.Test.YtgacifbpjdakaaaGreatDoorTD4
namespace Go.Proofs.YtgacifbpjdakaaaGreatDoor
open Go.ChangeShapes Go.WideShapes Go.ChangeAt Go.RowKit
open Go.Vx
set_option linter.unusedVariables false
set_option linter.unusedSimpArgs false

variable {W w w2 : World} {xb ob : Nat} {vt vo vc vm vh vi vn va : Value} {T : Tx} {o : Tl}
/-- What lines keep. -/
structure Bnd (T : Tx) : Prop where
  tn : T.tn.length ≤ 1000
  ob : T.ob.length ≤ 1000
  cp : T.cp.length ≤ 1000
  mp : T.mp.length ≤ 1000
  th : T.th.length ≤ 1000
  ir : T.ir.length ≤ 1000
  nm0 : 1 ≤ T.nm.length
  nm : T.nm.length ≤ 1000
  ar : T.ar.length = T.nm.length
  sh : ∀ x ∈ T.nm, x.length ≤ 40
  t : T.t.length ≤ 900000
/-- A telling, and a line's numbers beside it. -/
structure LnI (W w : World) (xb : Nat) (vt vo vc vm vh vi vn va : Value) (T : Tx) (ob : Nat) (o : Tl) : Prop where
  h : TxAt W w xb vt vo vc vm vh vi vn va T
  te : TeAt w ob o
theorem LnI.quiet (h : LnI W w xb vt vo vc vm vh vi vn va T ob o) (ho : Only (fun _ => False) w w2) : LnI W w2 xb vt vo vc vm vh vi vn va T ob o := ⟨h.h.quiet ho, blk_keep h.te ho (fun h => h)⟩
theorem LnI.text (h : LnI W w xb vt vo vc vm vh vi vn va T ob o) (t' : List UInt8) : LnI W (w.setCell ⟨xb, 0, none⟩ (.string ⟨t'.toArray⟩)) xb vt vo vc vm vh vi vn va { T with t := t' } ob o :=
  ⟨h.h.text t', blk_keep h.te (only1 w xb 0 _) (fun e => tag_ne h.te h.h.row (by decide) e)⟩
theorem pick_lit (m : Nat) (hm : 1 ≤ m) (hm2 : m ≤ 4398046511104) (M : Int) (hM : (m : Int) = M) (n : Int) (h0 : -9223372036854775808 ≤ n) (h1 : n ≤ 9223372036854775807) (w : World) :
    Calls Tryz.prog 19 #[.int .i64 n, .int .i64 M] w fun e w' => e = .returned (.int .i64 ((pickL n m : Nat) : Int)) ∧ w' = w := by
  rw [← hM]; exact pickK_any m hm hm2 n h0 h1 w
theorem LnI.st_t (h : LnI W w xb vt vo vc vm vh vi vn va T ob o) (v' : Value) (w5 : World) (xs : List Sl) (hv : OwnL slL w5 W.heap.size 76 v' xs) (ho : Only (fun k => vt.ownBlock = some k) w w5) :
    (∃ p m c, v' = .slice p m c) ∧ (∃ x, w5.cell? ⟨xb, 2, none⟩ = some x) ∧ w5.frozen? ⟨xb, 2, none⟩ = false ∧ (∀ j, w5.cell? ⟨xb, j, none⟩ = w.cell? ⟨xb, j, none⟩) ∧ (∀ j, w5.cell? ⟨ob, j, none⟩ = w.cell? ⟨ob, j, none⟩) ∧ Hid (LnI W (w5.setCell ⟨xb, 2, none⟩ v') xb v' vo vc vm vh vi vn va { T with tn := xs } ob o) := by
  obtain ⟨h1, h2, h3, h4⟩ := h.h.st_t v' w5 xs hv ho
  have hx : w5.heap[xb]? = w.heap[xb]? := ho.block xb (lt_of_some h.h.row) (fun h9 => by obtain ⟨cur, h8⟩ := own_tag h.h.lt h9; exact tag_ne h8 h.h.row (by decide) rfl)
  have ho2 : w5.heap[ob]? = w.heap[ob]? := ho.block ob (lt_of_some h.te) (fun h9 => by obtain ⟨cur, h8⟩ := own_tag h.h.lt h9; exact tag_ne h8 h.te (by decide) rfl)
  have ht5 : TeAt w5 ob o := ho2.trans h.te
  have hr5 := hx.trans h.h.row
  exact ⟨h1, h2, h3, fun j => World.cell?_of_block (w := w) hx, fun j => World.cell?_of_block (w := w) ho2, h4.out, blk_keep ht5 (only1 w5 xb 2 _) (fun e => tag_ne ht5 hr5 (by decide) e)⟩
theorem LnI.st_o (h : LnI W w xb vt vo vc vm vh vi vn va T ob o) (v' : Value) (w5 : World) (xs : List Ob) (hv : OwnL obL w5 W.heap.size 58 v' xs) (ho : Only (fun k => vo.ownBlock = some k) w w5) :
    (∃ p m c, v' = .slice p m c) ∧ (∃ x, w5.cell? ⟨xb, 4, none⟩ = some x) ∧ w5.frozen? ⟨xb, 4, none⟩ = false ∧ (∀ j, w5.cell? ⟨xb, j, none⟩ = w.cell? ⟨xb, j, none⟩) ∧ (∀ j, w5.cell? ⟨ob, j, none⟩ = w.cell? ⟨ob, j, none⟩) ∧ Hid (LnI W (w5.setCell ⟨xb, 4, none⟩ v') xb vt v' vc vm vh vi vn va { T with ob := xs } ob o) := by
  obtain ⟨h1, h2, h3, h4⟩ := h.h.st_o v' w5 xs hv ho
  have hx : w5.heap[xb]? = w.heap[xb]? := ho.block xb (lt_of_some h.h.row) (fun h9 => by obtain ⟨cur, h8⟩ := own_tag h.h.lo h9; exact tag_ne h8 h.h.row (by decide) rfl)
  have ho2 : w5.heap[ob]? = w.heap[ob]? := ho.block ob (lt_of_some h.te) (fun h9 => by obtain ⟨cur, h8⟩ := own_tag h.h.lo h9; exact tag_ne h8 h.te (by decide) rfl)
  have ht5 : TeAt w5 ob o := ho2.trans h.te
  have hr5 := hx.trans h.h.row
  exact ⟨h1, h2, h3, fun j => World.cell?_of_block (w := w) hx, fun j => World.cell?_of_block (w := w) ho2, h4.out, blk_keep ht5 (only1 w5 xb 4 _) (fun e => tag_ne ht5 hr5 (by decide) e)⟩
theorem LnI.st_c (h : LnI W w xb vt vo vc vm vh vi vn va T ob o) (v' : Value) (w5 : World) (xs : List En) (hv : OwnL enL w5 W.heap.size 84 v' xs) (ho : Only (fun k => vc.ownBlock = some k) w w5) :
    (∃ p m c, v' = .slice p m c) ∧ (∃ x, w5.cell? ⟨xb, 6, none⟩ = some x) ∧ w5.frozen? ⟨xb, 6, none⟩ = false ∧ (∀ j, w5.cell? ⟨xb, j, none⟩ = w.cell? ⟨xb, j, none⟩) ∧ (∀ j, w5.cell? ⟨ob, j, none⟩ = w.cell? ⟨ob, j, none⟩) ∧ Hid (LnI W (w5.setCell ⟨xb, 6, none⟩ v') xb vt vo v' vm vh vi vn va { T with cp := xs } ob o) := by
  obtain ⟨h1, h2, h3, h4⟩ := h.h.st_c v' w5 xs hv ho
  have hx : w5.heap[xb]? = w.heap[xb]? := ho.block xb (lt_of_some h.h.row) (fun h9 => by obtain ⟨cur, h8⟩ := own_tag h.h.lc h9; exact tag_ne h8 h.h.row (by decide) rfl)
  have ho2 : w5.heap[ob]? = w.heap[ob]? := ho.block ob (lt_of_some h.te) (fun h9 => by obtain ⟨cur, h8⟩ := own_tag h.h.lc h9; exact tag_ne h8 h.te (by decide) rfl)
  have ht5 : TeAt w5 ob o := ho2.trans h.te
  have hr5 := hx.trans h.h.row
  exact ⟨h1, h2, h3, fun j => World.cell?_of_block (w := w) hx, fun j => World.cell?_of_block (w := w) ho2, h4.out, blk_keep ht5 (only1 w5 xb 6 _) (fun e => tag_ne ht5 hr5 (by decide) e)⟩
theorem LnI.st_m (h : LnI W w xb vt vo vc vm vh vi vn va T ob o) (v' : Value) (w5 : World) (xs : List Mq) (hv : OwnL mqL w5 W.heap.size 86 v' xs) (ho : Only (fun k => vm.ownBlock = some k) w w5) :
    (∃ p m c, v' = .slice p m c) ∧ (∃ x, w5.cell? ⟨xb, 7, none⟩ = some x) ∧ w5.frozen? ⟨xb, 7, none⟩ = false ∧ (∀ j, w5.cell? ⟨xb, j, none⟩ = w.cell? ⟨xb, j, none⟩) ∧ (∀ j, w5.cell? ⟨ob, j, none⟩ = w.cell? ⟨ob, j, none⟩) ∧ Hid (LnI W (w5.setCell ⟨xb, 7, none⟩ v') xb vt vo vc v' vh vi vn va { T with mp := xs } ob o) := by
  obtain ⟨h1, h2, h3, h4⟩ := h.h.st_m v' w5 xs hv ho
  have hx : w5.heap[xb]? = w.heap[xb]? := ho.block xb (lt_of_some h.h.row) (fun h9 => by obtain ⟨cur, h8⟩ := own_tag h.h.lm h9; exact tag_ne h8 h.h.row (by decide) rfl)
  have ho2 : w5.heap[ob]? = w.heap[ob]? := ho.block ob (lt_of_some h.te) (fun h9 => by obtain ⟨cur, h8⟩ := own_tag h.h.lm h9; exact tag_ne h8 h.te (by decide) rfl)
  have ht5 : TeAt w5 ob o := ho2.trans h.te
  have hr5 := hx.trans h.h.row
  exact ⟨h1, h2, h3, fun j => World.cell?_of_block (w := w) hx, fun j => World.cell?_of_block (w := w) ho2, h4.out, blk_keep ht5 (only1 w5 xb 7 _) (fun e => tag_ne ht5 hr5 (by decide) e)⟩
theorem LnI.st_h (h : LnI W w xb vt vo vc vm vh vi vn va T ob o) (v' : Value) (w5 : World) (xs : List Th) (hv : OwnL thL w5 W.heap.size 91 v' xs) (ho : Only (fun k => vh.ownBlock = some k) w w5) :
    (∃ p m c, v' = .slice p m c) ∧ (∃ x, w5.cell? ⟨xb, 8, none⟩ = some x) ∧ w5.frozen? ⟨xb, 8, none⟩ = false ∧ (∀ j, w5.cell? ⟨xb, j, none⟩ = w.cell? ⟨xb, j, none⟩) ∧ (∀ j, w5.cell? ⟨ob, j, none⟩ = w.cell? ⟨ob, j, none⟩) ∧ Hid (LnI W (w5.setCell ⟨xb, 8, none⟩ v') xb vt vo vc vm v' vi vn va { T with th := xs } ob o) := by
  obtain ⟨h1, h2, h3, h4⟩ := h.h.st_h v' w5 xs hv ho
  have hx : w5.heap[xb]? = w.heap[xb]? := ho.block xb (lt_of_some h.h.row) (fun h9 => by obtain ⟨cur, h8⟩ := own_tag h.h.lh h9; exact tag_ne h8 h.h.row (by decide) rfl)
  have ho2 : w5.heap[ob]? = w.heap[ob]? := ho.block ob (lt_of_some h.te) (fun h9 => by obtain ⟨cur, h8⟩ := own_tag h.h.lh h9; exact tag_ne h8 h.te (by decide) rfl)
  have ht5 : TeAt w5 ob o := ho2.trans h.te
  have hr5 := hx.trans h.h.row
  exact ⟨h1, h2, h3, fun j => World.cell?_of_block (w := w) hx, fun j => World.cell?_of_block (w := w) ho2, h4.out, blk_keep ht5 (only1 w5 xb 8 _) (fun e => tag_ne ht5 hr5 (by decide) e)⟩
theorem LnI.st_i (h : LnI W w xb vt vo vc vm vh vi vn va T ob o) (v' : Value) (w5 : World) (xs : List Ob) (hv : OwnL irL w5 W.heap.size 93 v' xs) (ho : Only (fun k => vi.ownBlock = some k) w w5) :
    (∃ p m c, v' = .slice p m c) ∧ (∃ x, w5.cell? ⟨xb, 9, none⟩ = some x) ∧ w5.frozen? ⟨xb, 9, none⟩ = false ∧ (∀ j, w5.cell? ⟨xb, j, none⟩ = w.cell? ⟨xb, j, none⟩) ∧ (∀ j, w5.cell? ⟨ob, j, none⟩ = w.cell? ⟨ob, j, none⟩) ∧ Hid (LnI W (w5.setCell ⟨xb, 9, none⟩ v') xb vt vo vc vm vh v' vn va { T with ir := xs } ob o) := by
  obtain ⟨h1, h2, h3, h4⟩ := h.h.st_i v' w5 xs hv ho
  have hx : w5.heap[xb]? = w.heap[xb]? := ho.block xb (lt_of_some h.h.row) (fun h9 => by obtain ⟨cur, h8⟩ := own_tag h.h.li h9; exact tag_ne h8 h.h.row (by decide) rfl)
  have ho2 : w5.heap[ob]? = w.heap[ob]? := ho.block ob (lt_of_some h.te) (fun h9 => by obtain ⟨cur, h8⟩ := own_tag h.h.li h9; exact tag_ne h8 h.te (by decide) rfl)
  have ht5 : TeAt w5 ob o := ho2.trans h.te
  have hr5 := hx.trans h.h.row
  exact ⟨h1, h2, h3, fun j => World.cell?_of_block (w := w) hx, fun j => World.cell?_of_block (w := w) ho2, h4.out, blk_keep ht5 (only1 w5 xb 9 _) (fun e => tag_ne ht5 hr5 (by decide) e)⟩
end Go.Proofs.YtgacifbpjdakaaaGreatDoor

/- Package spec's reader, as it lies (gen_sr1.py). -/
import Derived.Test.YtgacifbpjdakaaaGreatDoorTD1
import Derived.Test.YtgacifbpjdakaaaGreatDoorMS
import Derived.Test.YtgacifbpjdakaaaGreatDoorSN
namespace Go.Vx
set_option linter.unusedVariables false
/-- What a reader holds. -/
structure Rv where
  vl : Value
  ls : List (List UInt8)
  ln : Int
  vs : Value
  vt : Value
  vo : Value
  vc : Value
  vm : Value
  vh : Value
  vi : Value
  mb : Nat
  D : DataW Value
  gb : Nat
/-- The first words of lines. -/
def sayN (j : Nat) : List UInt8 := match j with
  | 0 => [112, 97, 103, 101, 115]
  | 1 => [116, 117, 114, 110]
  | 2 => [99, 97, 108, 108, 115]
  | 3 => [102, 114, 97, 109, 101]
  | 4 => [116, 97, 98, 108, 101]
  | 5 => [114, 111, 111, 116]
  | 6 => [116, 104, 114, 101, 97, 100]
  | 7 => [101, 110, 100]
  | 8 => [98, 101, 108, 108]
  | 9 => [98, 111, 120]
  | 10 => [117, 110, 116, 121, 112, 101, 100]
  | 11 => [105, 114, 113]
  | 12 => [112, 111, 114, 116]
  | 13 => [99, 111, 100, 101]
  | 14 => [98, 121, 116, 101, 115]
  | 15 => [99, 97, 112]
  | 16 => [109, 97, 112]
  | 17 => [115, 116, 97, 114, 116]
  | _ => [98, 105, 110, 100]
end Go.Vx
namespace Go.Proofs.YtgacifbpjdakaaaGreatDoor
open Go.ChangeShapes Go.WideShapes Go.ChangeAt Go.RowKit
open Go.Vx
set_option linter.unusedVariables false
theorem keepB {S : Nat → Prop} {w w2 : World} {b : Nat} {o : Obj} (ho : Only S w w2) (h : w.heap[b]? = some o) (hS : ¬ S b) : w2.heap[b]? = some o := (ho.block b (lt_of_some h) hS).trans h
/-- A cell of its own that holds a number. -/
def KbAt (w : World) (kb : Nat) (k : Int) : Prop := w.heap[kb]? = some (.cells #[.int .i64 k] 3 (0, 0))
/-- What reads a line of a sort. -/
def SyF (w : World) (j : Nat) (fv : Value) : Prop := match j with
  | 0 => fv = .func (.func 28) #[] #[]
  | 1 => fv = .func (.func 29) #[] #[]
  | 2 => fv = .func (.func 30) #[] #[]
  | 3 => ∃ kb, fv = .func (.func 65) #[] #[.pointer (some ⟨kb, 0, none⟩)] ∧ KbAt w kb 2
  | 4 => ∃ kb, fv = .func (.func 65) #[] #[.pointer (some ⟨kb, 0, none⟩)] ∧ KbAt w kb 3
  | 5 => ∃ kb, fv = .func (.func 65) #[] #[.pointer (some ⟨kb, 0, none⟩)] ∧ KbAt w kb 4
  | 6 => ∃ kb, fv = .func (.func 65) #[] #[.pointer (some ⟨kb, 0, none⟩)] ∧ KbAt w kb 6
  | 7 => ∃ kb, fv = .func (.func 65) #[] #[.pointer (some ⟨kb, 0, none⟩)] ∧ KbAt w kb 7
  | 8 => ∃ kb, fv = .func (.func 65) #[] #[.pointer (some ⟨kb, 0, none⟩)] ∧ KbAt w kb 8
  | 9 => fv = .func (.func 32) #[] #[]
  | 10 => fv = .func (.func 33) #[] #[]
  | 11 => ∃ cb kb, fv = .func (.func 69) #[] #[.pointer (some ⟨cb, 0, none⟩), .pointer (some ⟨kb, 0, none⟩)] ∧ KbAt w cb 8 ∧ KbAt w kb 9
  | 12 => ∃ cb kb, fv = .func (.func 69) #[] #[.pointer (some ⟨cb, 0, none⟩), .pointer (some ⟨kb, 0, none⟩)] ∧ KbAt w cb 8 ∧ KbAt w kb 10
  | 13 => fv = .func (.func 35) #[] #[]
  | 14 => fv = .func (.func 36) #[] #[]
  | 15 => fv = .func (.func 37) #[] #[]
  | 16 => fv = .func (.func 38) #[] #[]
  | 17 => fv = .func (.func 39) #[] #[]
  | _ => fv = .func (.func 40) #[] #[]
/-- The sorts of lines. -/
def SyAt (w : World) (vs : Value) : Prop := ∃ sb cs, vs = .slice (some ⟨sb, 0, none⟩) 19 19 ∧ w.heap[sb]? = some (.cells cs 103 (0, 0)) ∧ ∀ j, j < 19 → cs[2 * j]? = some (.string ⟨(sayN j).toArray⟩) ∧ ∃ fv, cs[2 * j + 1]? = some fv ∧ SyF w j fv
theorem SyF.kept {S : Nat → Prop} {w w2 : World} {j : Nat} {fv : Value} (h : SyF w j fv) (ho : Only S w w2) (hS : ∀ k c, w.heap[k]? = some (.cells c 3 (0, 0)) → ¬ S k) : SyF w2 j fv := by
  have hk : ∀ kb k, KbAt w kb k → KbAt w2 kb k := fun kb k h9 => by
    unfold KbAt at h9 ⊢
    exact keepB ho h9 (hS kb _ h9)
  unfold SyF at h ⊢
  split at h <;> first | exact h | (obtain ⟨kb, h1, h2⟩ := h; exact ⟨kb, h1, hk _ _ h2⟩) | (obtain ⟨cb, kb, h1, h2, h3⟩ := h; exact ⟨cb, kb, h1, hk _ _ h2, hk _ _ h3⟩)
theorem SyAt.kept {S : Nat → Prop} {w w2 : World} {vs : Value} (h : SyAt w vs) (ho : Only S w w2) (hS : ∀ k c, w.heap[k]? = some (.cells c 3 (0, 0)) → ¬ S k) (hS2 : ∀ k c, w.heap[k]? = some (.cells c 103 (0, 0)) → ¬ S k) : SyAt w2 vs := by
  obtain ⟨sb, cs, h1, h2, h3⟩ := h
  refine ⟨sb, cs, h1, keepB ho h2 (hS2 sb _ h2), fun j hj => ?_⟩
  obtain ⟨h4, fv, h5, h6⟩ := h3 j hj
  exact ⟨h4, fv, h5, h6.kept ho hS⟩
/-- Words where they lie. -/
def WdAt (w : World) (vw : Value) (ws : List (List UInt8)) : Prop := ∃ p n c, vw = .slice p n c ∧ n = ws.length ∧ n ≤ c ∧ (ws = [] ∨ ∃ g o cs, p = some ⟨g, o, none⟩ ∧ w.heap[g]? = some (.cells cs 9 (0, 0)) ∧ ∀ j (h : j < ws.length), w.cell? ⟨g, o + j, none⟩ = some (.string ⟨(ws[j]).toArray⟩))
theorem WdAt.kept {S : Nat → Prop} {w w2 : World} {vw : Value} {ws : List (List UInt8)} (h : WdAt w vw ws) (ho : Only S w w2) (hS : ∀ k c, w.heap[k]? = some (.cells c 9 (0, 0)) → ¬ S k) : WdAt w2 vw ws := by
  obtain ⟨p, n, c, h1, h2, h3, h4⟩ := h
  refine ⟨p, n, c, h1, h2, h3, h4.imp (fun h => h) ?_⟩
  rintro ⟨g, o, cs, h5, h6, h7⟩
  refine ⟨g, o, cs, h5, keepB ho h6 (hS g _ h6), fun j hj => ?_⟩
  rw [ho.cell (p := ⟨g, o + j, none⟩) (lt_of_some h6) (hS g _ h6)]
  exact h7 j hj
theorem WdAt.nil (w : World) (p : Option Addr) (c : Nat) : WdAt w (.slice p 0 c) [] := ⟨p, 0, c, rfl, rfl, Nat.zero_le _, Or.inl rfl⟩
/-- The reader: all of it is of this call. -/
structure RdAt (W w : World) (rb : Nat) (V : Rv) (vw : Value) (ws : List (List UInt8)) (T : Tx) : Prop where
  be : Below W.heap.size W w
  row : w.heap[rb]? = some (.cells #[V.vl, .int .i64 V.ln, vw, V.vs, .int .i64 0, .int .i64 0, .int .i64 0, V.vt, .int .u32 1073741822, V.vo, .slice none 0 0, V.vc, V.vm, V.vh, V.vi, .map (some V.mb)] 68 (0, 0))
  hb : W.heap.size ≤ rb
  lt : OwnL slL w W.heap.size 76 V.vt T.tn
  lo : OwnL obL w W.heap.size 58 V.vo T.ob
  lc : OwnL enL w W.heap.size 84 V.vc T.cp
  lm : OwnL mqL w W.heap.size 86 V.vm T.mp
  lh : OwnL thL w W.heap.size 91 V.vh T.th
  li : OwnL irL w W.heap.size 93 V.vi T.ir
  nm : NmAt w V.mb V.D T.nm T.ar
  hm : W.heap.size ≤ V.mb
  wd : WdAt w vw ws
  ls : WdAt w V.vl V.ls
  sy : SyAt w V.vs
  wdb : ∀ g o n c, vw = .slice (some ⟨g, o, none⟩) n c → g < V.gb
  lsb : ∀ g o n c, V.vl = .slice (some ⟨g, o, none⟩) n c → g < V.gb
variable {W w w2 : World} {rb : Nat} {V : Rv} {vw : Value} {ws : List (List UInt8)} {T : Tx}
theorem RdAt.quiet (h : RdAt W w rb V vw ws T) (ho : Only (fun _ => False) w w2) : RdAt W w2 rb V vw ws T :=
  ⟨h.be.trans (ho.below h.be.size (fun _ _ h => h)), (ho.block rb (lt_of_some h.row) (fun h => h)).trans h.row, h.hb, h.lt.kept ho (fun _ _ h => h), h.lo.kept ho (fun _ _ h => h), h.lc.kept ho (fun _ _ h => h), h.lm.kept ho (fun _ _ h => h), h.lh.kept ho (fun _ _ h => h), h.li.kept ho (fun _ _ h => h), h.nm.keep ho (fun h => h), h.hm, h.wd.kept ho (fun _ _ _ h => h), h.ls.kept ho (fun _ _ _ h => h), h.sy.kept ho (fun _ _ _ h => h) (fun _ _ _ h => h), h.wdb, h.lsb⟩
theorem RdAt.same (h : RdAt W w rb V vw ws T) (v' : Value) (ws' : List (List UInt8)) (hv : WdAt w v' ws') (hvb : ∀ g o n c, v' = .slice (some ⟨g, o, none⟩) n c → g < V.gb) : RdAt W (w.setCell ⟨rb, 2, none⟩ v') rb V v' ws' T := by
  have ho : Only (fun k => k = rb) w (w.setCell ⟨rb, 2, none⟩ v') := Only.setCell (S := fun k => k = rb) (Only.refl _ w) (Or.inl rfl) _
  have hx := h.row
  have hb := h.hb
  refine ⟨h.be.trans (ho.below h.be.size (fun k hk h9 => by omega)), ?_, h.hb, h.lt.kept ho (fun k hk h9 => by obtain ⟨cur, h8⟩ := own_tag h.lt hk; exact tag_ne h8 hx (by decide) h9), h.lo.kept ho (fun k hk h9 => by obtain ⟨cur, h8⟩ := own_tag h.lo hk; exact tag_ne h8 hx (by decide) h9), h.lc.kept ho (fun k hk h9 => by obtain ⟨cur, h8⟩ := own_tag h.lc hk; exact tag_ne h8 hx (by decide) h9), h.lm.kept ho (fun k hk h9 => by obtain ⟨cur, h8⟩ := own_tag h.lm hk; exact tag_ne h8 hx (by decide) h9), h.lh.kept ho (fun k hk h9 => by obtain ⟨cur, h8⟩ := own_tag h.lh hk; exact tag_ne h8 hx (by decide) h9), h.li.kept ho (fun k hk h9 => by obtain ⟨cur, h8⟩ := own_tag h.li hk; exact tag_ne h8 hx (by decide) h9), h.nm.keep ho (fun h9 => h.nm.ne hx h9.symm), h.hm, hv.kept ho (fun k c h8 h9 => tag_ne h8 hx (by decide) h9), h.ls.kept ho (fun k c h8 h9 => tag_ne h8 hx (by decide) h9), h.sy.kept ho (fun k c h8 h9 => tag_ne h8 hx (by decide) h9) (fun k c h8 h9 => tag_ne h8 hx (by decide) h9), hvb, h.lsb⟩
  rw [heap_setCell_same _ _ 2 _ _ _ hx]
  rfl
/-- A thing of the caller's own beside it. -/
def FrR (rb : Nat) (V : Rv) (k : Nat) : Prop := k ≠ rb ∧ k ≠ V.mb ∧ V.vt.ownBlock ≠ some k ∧ V.vo.ownBlock ≠ some k ∧ V.vc.ownBlock ≠ some k ∧ V.vm.ownBlock ≠ some k ∧ V.vh.ownBlock ≠ some k ∧ V.vi.ownBlock ≠ some k
theorem RdAt.fre (h : RdAt W w rb V vw ws T) {k : Nat} (hk : w.heap.size ≤ k) : FrR rb V k :=
  ⟨fun e => by have := lt_of_some h.row; omega, fun e => by have := h.nm.own.lt; omega, fun e => by have := (own_lt h.lt e).2; omega, fun e => by have := (own_lt h.lo e).2; omega, fun e => by have := (own_lt h.lc e).2; omega, fun e => by have := (own_lt h.lm e).2; omega, fun e => by have := (own_lt h.lh e).2; omega, fun e => by have := (own_lt h.li e).2; omega⟩
theorem RdAt.apart (h : RdAt W w rb V vw ws T) {k : Nat} {cs : Array Value} {t : TypeId} (hk : w.heap[k]? = some (.cells cs t (0, 0))) (ht : t ≠ 9 ∧ t ≠ 3 ∧ t ≠ 103) (hf : FrR rb V k) (hW : W.heap.size ≤ k) (ho : Only (fun j => j = k) w w2) : RdAt W w2 rb V vw ws T := by
  obtain ⟨f0, f1, ft, fo, fc, fm, fh, fi⟩ := hf
  refine ⟨h.be.trans (ho.below h.be.size (fun j hj h9 => by omega)), (ho.block rb (lt_of_some h.row) (fun h9 => f0 h9.symm)).trans h.row, h.hb, h.lt.kept ho (fun j hj h9 => ft (h9 ▸ hj)), h.lo.kept ho (fun j hj h9 => fo (h9 ▸ hj)), h.lc.kept ho (fun j hj h9 => fc (h9 ▸ hj)), h.lm.kept ho (fun j hj h9 => fm (h9 ▸ hj)), h.lh.kept ho (fun j hj h9 => fh (h9 ▸ hj)), h.li.kept ho (fun j hj h9 => fi (h9 ▸ hj)), h.nm.keep ho (fun h9 => f1 h9.symm), h.hm, h.wd.kept ho (fun j c h8 h9 => tag_ne hk h8 ht.1 h9.symm), h.ls.kept ho (fun j c h8 h9 => tag_ne hk h8 ht.1 h9.symm), h.sy.kept ho (fun j c h8 h9 => tag_ne hk h8 ht.2.1 h9.symm) (fun j c h8 h9 => tag_ne hk h8 ht.2.2 h9.symm), h.wdb, h.lsb⟩
/-- The line's number anew. -/
theorem RdAt.line (h : RdAt W w rb V vw ws T) (n : Int) : RdAt W (w.setCell ⟨rb, 1, none⟩ (.int .i64 n)) rb { V with ln := n } vw ws T := by
  have ho : Only (fun k => k = rb) w (w.setCell ⟨rb, 1, none⟩ (.int .i64 n)) := Only.setCell (S := fun k => k = rb) (Only.refl _ w) (Or.inl rfl) _
  have hx := h.row
  have hb := h.hb
  refine ⟨h.be.trans (ho.below h.be.size (fun k hk h9 => by omega)), ?_, h.hb, h.lt.kept ho (fun k hk h9 => by obtain ⟨cur, h8⟩ := own_tag h.lt hk; exact tag_ne h8 hx (by decide) h9), h.lo.kept ho (fun k hk h9 => by obtain ⟨cur, h8⟩ := own_tag h.lo hk; exact tag_ne h8 hx (by decide) h9), h.lc.kept ho (fun k hk h9 => by obtain ⟨cur, h8⟩ := own_tag h.lc hk; exact tag_ne h8 hx (by decide) h9), h.lm.kept ho (fun k hk h9 => by obtain ⟨cur, h8⟩ := own_tag h.lm hk; exact tag_ne h8 hx (by decide) h9), h.lh.kept ho (fun k hk h9 => by obtain ⟨cur, h8⟩ := own_tag h.lh hk; exact tag_ne h8 hx (by decide) h9), h.li.kept ho (fun k hk h9 => by obtain ⟨cur, h8⟩ := own_tag h.li hk; exact tag_ne h8 hx (by decide) h9), h.nm.keep ho (fun h9 => h.nm.ne hx h9.symm), h.hm, h.wd.kept ho (fun k c h8 h9 => tag_ne h8 hx (by decide) h9), h.ls.kept ho (fun k c h8 h9 => tag_ne h8 hx (by decide) h9), h.sy.kept ho (fun k c h8 h9 => tag_ne h8 hx (by decide) h9) (fun k c h8 h9 => tag_ne h8 hx (by decide) h9), h.wdb, h.lsb⟩
  rw [heap_setCell_same _ _ 1 _ _ _ hx]
  rfl
/-- The names anew. -/
theorem RdAt.names (h : RdAt W w rb V vw ws T) {D3 : DataW Value} {nm : List (List UInt8)} {ar : List Sl} (hn : NmAt w2 V.mb D3 nm ar) (ho : Only (fun k => k = V.mb) w w2) : RdAt W w2 rb { V with D := D3 } vw ws { T with nm := nm, ar := ar } := by
  have hm := h.hm
  refine ⟨h.be.trans (ho.below h.be.size (fun j hj h9 => by omega)), (ho.block rb (lt_of_some h.row) (fun h9 => h.nm.ne h.row h9)).trans h.row, h.hb, h.lt.kept ho (fun k hk h9 => by obtain ⟨cur, h8⟩ := own_tag h.lt hk; exact h.nm.ne h8 h9), h.lo.kept ho (fun k hk h9 => by obtain ⟨cur, h8⟩ := own_tag h.lo hk; exact h.nm.ne h8 h9), h.lc.kept ho (fun k hk h9 => by obtain ⟨cur, h8⟩ := own_tag h.lc hk; exact h.nm.ne h8 h9), h.lm.kept ho (fun k hk h9 => by obtain ⟨cur, h8⟩ := own_tag h.lm hk; exact h.nm.ne h8 h9), h.lh.kept ho (fun k hk h9 => by obtain ⟨cur, h8⟩ := own_tag h.lh hk; exact h.nm.ne h8 h9), h.li.kept ho (fun k hk h9 => by obtain ⟨cur, h8⟩ := own_tag h.li hk; exact h.nm.ne h8 h9), hn, h.hm, h.wd.kept ho (fun k c h8 h9 => h.nm.ne h8 h9), h.ls.kept ho (fun k c h8 h9 => h.nm.ne h8 h9), h.sy.kept ho (fun k c h8 h9 => h.nm.ne h8 h9) (fun k c h8 h9 => h.nm.ne h8 h9), h.wdb, h.lsb⟩
theorem WdAt.kept' {S : Nat → Prop} {w w2 : World} {vw : Value} {ws : List (List UInt8)} (h : WdAt w vw ws) (ho : Only S w w2) (hS : ∀ g o n c, vw = .slice (some ⟨g, o, none⟩) n c → ¬ S g) : WdAt w2 vw ws := by
  obtain ⟨p, n, c, h1, h2, h3, h4⟩ := h
  refine ⟨p, n, c, h1, h2, h3, h4.imp (fun h => h) ?_⟩
  rintro ⟨g, o, cs, h5, h6, h7⟩
  have hn : ¬ S g := hS g o n c (by rw [h1, h5])
  refine ⟨g, o, cs, h5, keepB ho h6 hn, fun j hj => ?_⟩
  rw [ho.cell (p := ⟨g, o + j, none⟩) (lt_of_some h6) hn]
  exact h7 j hj
/-- Words of the caller's own beside it. -/
theorem RdAt.told (h : RdAt W w rb V vw ws T) {B : Nat} {vt : Value} {xs : List (List UInt8)} (hO : OwnL stL w B 9 vt xs) (hB : V.gb ≤ B) (hW : W.heap.size ≤ B) (ho : Only (fun k => vt.ownBlock = some k) w w2) : RdAt W w2 rb V vw ws T := by
  have hA : ∀ k c9 t, w.heap[k]? = some (.cells c9 t (0, 0)) → t ≠ 9 → ¬ vt.ownBlock = some k := fun k c9 t h8 hn h9 => by
    obtain ⟨cur2, h7⟩ := own_tag hO h9
    exact tag_ne h8 h7 hn rfl
  have hL : ∀ k, vt.ownBlock = some k → B ≤ k := fun k h9 => (own_lt hO h9).1
  have hnb : ¬ vt.ownBlock = some V.mb := fun h9 => by
    obtain ⟨cur2, h7⟩ := own_tag hO h9
    exact h.nm.ne h7 rfl
  exact ⟨h.be.trans (ho.below h.be.size (fun k hk h9 => by have := hL k h9; omega)), keepB ho h.row (hA _ _ _ h.row (by decide)), h.hb, h.lt.kept ho (fun k hk => by obtain ⟨cur, h8⟩ := own_tag h.lt hk; exact hA _ _ _ h8 (by decide)), h.lo.kept ho (fun k hk => by obtain ⟨cur, h8⟩ := own_tag h.lo hk; exact hA _ _ _ h8 (by decide)), h.lc.kept ho (fun k hk => by obtain ⟨cur, h8⟩ := own_tag h.lc hk; exact hA _ _ _ h8 (by decide)), h.lm.kept ho (fun k hk => by obtain ⟨cur, h8⟩ := own_tag h.lm hk; exact hA _ _ _ h8 (by decide)), h.lh.kept ho (fun k hk => by obtain ⟨cur, h8⟩ := own_tag h.lh hk; exact hA _ _ _ h8 (by decide)), h.li.kept ho (fun k hk => by obtain ⟨cur, h8⟩ := own_tag h.li hk; exact hA _ _ _ h8 (by decide)), h.nm.keep ho hnb, h.hm, h.wd.kept' ho (fun g o n c e h9 => by have := h.wdb g o n c e; have := hL g h9; omega), h.ls.kept' ho (fun g o n c e h9 => by have := h.lsb g o n c e; have := hL g h9; omega), h.sy.kept ho (fun k c h8 => hA _ _ _ h8 (by decide)) (fun k c h8 => hA _ _ _ h8 (by decide)), h.wdb, h.lsb⟩
theorem RdAt.put_t (h : RdAt W w rb V vw ws T) {v' : Value} {xs : List Sl} (hv : OwnL slL w2 W.heap.size 76 v' xs) (ho : Only (fun k => V.vt.ownBlock = some k) w w2) : (w2.heap[rb]? = some (.cells #[V.vl, .int .i64 V.ln, vw, V.vs, .int .i64 0, .int .i64 0, .int .i64 0, V.vt, .int .u32 1073741822, V.vo, .slice none 0 0, V.vc, V.vm, V.vh, V.vi, .map (some V.mb)] 68 (0, 0))) ∧ RdAt W (w2.setCell ⟨rb, 7, none⟩ v') rb { V with vt := v' } vw ws { T with tn := xs } := by
  have hx := h.row
  have hb := h.hb
  have hA : ∀ k c9 t, w.heap[k]? = some (.cells c9 t (0, 0)) → t ≠ 76 → ¬ V.vt.ownBlock = some k := fun k c9 t h8 hn h9 => by
    obtain ⟨cur2, h7⟩ := own_tag h.lt h9
    exact tag_ne h8 h7 hn rfl
  have hx2 : w2.heap[rb]? = _ := (ho.block rb (lt_of_some hx) (hA _ _ _ hx (by decide))).trans hx
  have hs : Only (fun k => k = rb) w2 (w2.setCell ⟨rb, 7, none⟩ v') := Only.setCell (S := fun k => k = rb) (Only.refl _ w2) (Or.inl rfl) _
  have hbe : Below W.heap.size W w2 := h.be.trans (ho.below h.be.size (fun k hk h9 => by have := (own_lt h.lt h9).1; omega))
  have hnb : ¬ V.vt.ownBlock = some V.mb := fun h9 => by
    obtain ⟨cur2, h7⟩ := own_tag h.lt h9
    exact h.nm.ne h7 rfl
  refine ⟨hx2, hbe.trans (hs.below hbe.size (fun k hk h9 => by omega)), ?_, h.hb, hv.kept hs (fun k hk h9 => by obtain ⟨cur, h8⟩ := own_tag hv hk; exact tag_ne h8 hx2 (by decide) h9),
    (h.lo.kept ho (fun k hk h9 => by obtain ⟨cur, h8⟩ := own_tag h.lo hk; obtain ⟨cur2, h7⟩ := own_tag h.lt h9; exact tag_ne h8 h7 (by decide) rfl)).kept hs (fun k hk h9 => by obtain ⟨cur, h8⟩ := own_tag h.lo hk; exact tag_ne h8 h.row (by decide) h9),
    (h.lc.kept ho (fun k hk h9 => by obtain ⟨cur, h8⟩ := own_tag h.lc hk; obtain ⟨cur2, h7⟩ := own_tag h.lt h9; exact tag_ne h8 h7 (by decide) rfl)).kept hs (fun k hk h9 => by obtain ⟨cur, h8⟩ := own_tag h.lc hk; exact tag_ne h8 h.row (by decide) h9),
    (h.lm.kept ho (fun k hk h9 => by obtain ⟨cur, h8⟩ := own_tag h.lm hk; obtain ⟨cur2, h7⟩ := own_tag h.lt h9; exact tag_ne h8 h7 (by decide) rfl)).kept hs (fun k hk h9 => by obtain ⟨cur, h8⟩ := own_tag h.lm hk; exact tag_ne h8 h.row (by decide) h9),
    (h.lh.kept ho (fun k hk h9 => by obtain ⟨cur, h8⟩ := own_tag h.lh hk; obtain ⟨cur2, h7⟩ := own_tag h.lt h9; exact tag_ne h8 h7 (by decide) rfl)).kept hs (fun k hk h9 => by obtain ⟨cur, h8⟩ := own_tag h.lh hk; exact tag_ne h8 h.row (by decide) h9),
    (h.li.kept ho (fun k hk h9 => by obtain ⟨cur, h8⟩ := own_tag h.li hk; obtain ⟨cur2, h7⟩ := own_tag h.lt h9; exact tag_ne h8 h7 (by decide) rfl)).kept hs (fun k hk h9 => by obtain ⟨cur, h8⟩ := own_tag h.li hk; exact tag_ne h8 h.row (by decide) h9),
    (h.nm.keep ho hnb).keep hs (fun h9 => (h.nm.keep ho hnb).ne hx2 h9.symm), h.hm, (h.wd.kept ho (fun k c h8 => hA k c _ h8 (by decide))).kept hs (fun k c h8 h9 => tag_ne h8 hx2 (by decide) h9), (h.ls.kept ho (fun k c h8 => hA k c _ h8 (by decide))).kept hs (fun k c h8 h9 => tag_ne h8 hx2 (by decide) h9), (h.sy.kept ho (fun k c h8 => hA k c _ h8 (by decide)) (fun k c h8 => hA k c _ h8 (by decide))).kept hs (fun k c h8 h9 => tag_ne h8 hx2 (by decide) h9) (fun k c h8 h9 => tag_ne h8 hx2 (by decide) h9), h.wdb, h.lsb⟩
  rw [heap_setCell_same _ _ 7 _ _ _ hx2]
  rfl
theorem RdAt.st_t (h : RdAt W w rb V vw ws T) (v' : Value) (w5 : World) (xs : List Sl) (hv : OwnL slL w5 W.heap.size 76 v' xs) (ho : Only (fun k => V.vt.ownBlock = some k) w w5) :
    (∃ p m c, v' = .slice p m c) ∧ (∃ x, w5.cell? ⟨rb, 7, none⟩ = some x) ∧ w5.frozen? ⟨rb, 7, none⟩ = false ∧ (∀ j, w5.cell? ⟨rb, j, none⟩ = w.cell? ⟨rb, j, none⟩) ∧ Hid (RdAt W (w5.setCell ⟨rb, 7, none⟩ v') rb { V with vt := v' } vw ws { T with tn := xs }) := by
  obtain ⟨p, c, hp, _⟩ := hv.form
  have h1 := h.put_t hv ho
  exact ⟨⟨p, _, c, hp⟩, ⟨_, (cell_of_row _ _ 7 _ _ (0, 0) h1.1).trans rfl⟩, froz h1.1 7, fun j => World.cell?_of_block (w := w) (h1.1.trans h.row.symm), h1.2⟩
theorem RdAt.put_o (h : RdAt W w rb V vw ws T) {v' : Value} {xs : List Ob} (hv : OwnL obL w2 W.heap.size 58 v' xs) (ho : Only (fun k => V.vo.ownBlock = some k) w w2) : (w2.heap[rb]? = some (.cells #[V.vl, .int .i64 V.ln, vw, V.vs, .int .i64 0, .int .i64 0, .int .i64 0, V.vt, .int .u32 1073741822, V.vo, .slice none 0 0, V.vc, V.vm, V.vh, V.vi, .map (some V.mb)] 68 (0, 0))) ∧ RdAt W (w2.setCell ⟨rb, 9, none⟩ v') rb { V with vo := v' } vw ws { T with ob := xs } := by
  have hx := h.row
  have hb := h.hb
  have hA : ∀ k c9 t, w.heap[k]? = some (.cells c9 t (0, 0)) → t ≠ 58 → ¬ V.vo.ownBlock = some k := fun k c9 t h8 hn h9 => by
    obtain ⟨cur2, h7⟩ := own_tag h.lo h9
    exact tag_ne h8 h7 hn rfl
  have hx2 : w2.heap[rb]? = _ := (ho.block rb (lt_of_some hx) (hA _ _ _ hx (by decide))).trans hx
  have hs : Only (fun k => k = rb) w2 (w2.setCell ⟨rb, 9, none⟩ v') := Only.setCell (S := fun k => k = rb) (Only.refl _ w2) (Or.inl rfl) _
  have hbe : Below W.heap.size W w2 := h.be.trans (ho.below h.be.size (fun k hk h9 => by have := (own_lt h.lo h9).1; omega))
  have hnb : ¬ V.vo.ownBlock = some V.mb := fun h9 => by
    obtain ⟨cur2, h7⟩ := own_tag h.lo h9
    exact h.nm.ne h7 rfl
  refine ⟨hx2, hbe.trans (hs.below hbe.size (fun k hk h9 => by omega)), ?_, h.hb, (h.lt.kept ho (fun k hk h9 => by obtain ⟨cur, h8⟩ := own_tag h.lt hk; obtain ⟨cur2, h7⟩ := own_tag h.lo h9; exact tag_ne h8 h7 (by decide) rfl)).kept hs (fun k hk h9 => by obtain ⟨cur, h8⟩ := own_tag h.lt hk; exact tag_ne h8 h.row (by decide) h9),
    hv.kept hs (fun k hk h9 => by obtain ⟨cur, h8⟩ := own_tag hv hk; exact tag_ne h8 hx2 (by decide) h9),
    (h.lc.kept ho (fun k hk h9 => by obtain ⟨cur, h8⟩ := own_tag h.lc hk; obtain ⟨cur2, h7⟩ := own_tag h.lo h9; exact tag_ne h8 h7 (by decide) rfl)).kept hs (fun k hk h9 => by obtain ⟨cur, h8⟩ := own_tag h.lc hk; exact tag_ne h8 h.row (by decide) h9),
    (h.lm.kept ho (fun k hk h9 => by obtain ⟨cur, h8⟩ := own_tag h.lm hk; obtain ⟨cur2, h7⟩ := own_tag h.lo h9; exact tag_ne h8 h7 (by decide) rfl)).kept hs (fun k hk h9 => by obtain ⟨cur, h8⟩ := own_tag h.lm hk; exact tag_ne h8 h.row (by decide) h9),
    (h.lh.kept ho (fun k hk h9 => by obtain ⟨cur, h8⟩ := own_tag h.lh hk; obtain ⟨cur2, h7⟩ := own_tag h.lo h9; exact tag_ne h8 h7 (by decide) rfl)).kept hs (fun k hk h9 => by obtain ⟨cur, h8⟩ := own_tag h.lh hk; exact tag_ne h8 h.row (by decide) h9),
    (h.li.kept ho (fun k hk h9 => by obtain ⟨cur, h8⟩ := own_tag h.li hk; obtain ⟨cur2, h7⟩ := own_tag h.lo h9; exact tag_ne h8 h7 (by decide) rfl)).kept hs (fun k hk h9 => by obtain ⟨cur, h8⟩ := own_tag h.li hk; exact tag_ne h8 h.row (by decide) h9),
    (h.nm.keep ho hnb).keep hs (fun h9 => (h.nm.keep ho hnb).ne hx2 h9.symm), h.hm, (h.wd.kept ho (fun k c h8 => hA k c _ h8 (by decide))).kept hs (fun k c h8 h9 => tag_ne h8 hx2 (by decide) h9), (h.ls.kept ho (fun k c h8 => hA k c _ h8 (by decide))).kept hs (fun k c h8 h9 => tag_ne h8 hx2 (by decide) h9), (h.sy.kept ho (fun k c h8 => hA k c _ h8 (by decide)) (fun k c h8 => hA k c _ h8 (by decide))).kept hs (fun k c h8 h9 => tag_ne h8 hx2 (by decide) h9) (fun k c h8 h9 => tag_ne h8 hx2 (by decide) h9), h.wdb, h.lsb⟩
  rw [heap_setCell_same _ _ 9 _ _ _ hx2]
  rfl
theorem RdAt.st_o (h : RdAt W w rb V vw ws T) (v' : Value) (w5 : World) (xs : List Ob) (hv : OwnL obL w5 W.heap.size 58 v' xs) (ho : Only (fun k => V.vo.ownBlock = some k) w w5) :
    (∃ p m c, v' = .slice p m c) ∧ (∃ x, w5.cell? ⟨rb, 9, none⟩ = some x) ∧ w5.frozen? ⟨rb, 9, none⟩ = false ∧ (∀ j, w5.cell? ⟨rb, j, none⟩ = w.cell? ⟨rb, j, none⟩) ∧ Hid (RdAt W (w5.setCell ⟨rb, 9, none⟩ v') rb { V with vo := v' } vw ws { T with ob := xs }) := by
  obtain ⟨p, c, hp, _⟩ := hv.form
  have h1 := h.put_o hv ho
  exact ⟨⟨p, _, c, hp⟩, ⟨_, (cell_of_row _ _ 9 _ _ (0, 0) h1.1).trans rfl⟩, froz h1.1 9, fun j => World.cell?_of_block (w := w) (h1.1.trans h.row.symm), h1.2⟩
theorem RdAt.put_c (h : RdAt W w rb V vw ws T) {v' : Value} {xs : List En} (hv : OwnL enL w2 W.heap.size 84 v' xs) (ho : Only (fun k => V.vc.ownBlock = some k) w w2) : (w2.heap[rb]? = some (.cells #[V.vl, .int .i64 V.ln, vw, V.vs, .int .i64 0, .int .i64 0, .int .i64 0, V.vt, .int .u32 1073741822, V.vo, .slice none 0 0, V.vc, V.vm, V.vh, V.vi, .map (some V.mb)] 68 (0, 0))) ∧ RdAt W (w2.setCell ⟨rb, 11, none⟩ v') rb { V with vc := v' } vw ws { T with cp := xs } := by
  have hx := h.row
  have hb := h.hb
  have hA : ∀ k c9 t, w.heap[k]? = some (.cells c9 t (0, 0)) → t ≠ 84 → ¬ V.vc.ownBlock = some k := fun k c9 t h8 hn h9 => by
    obtain ⟨cur2, h7⟩ := own_tag h.lc h9
    exact tag_ne h8 h7 hn rfl
  have hx2 : w2.heap[rb]? = _ := (ho.block rb (lt_of_some hx) (hA _ _ _ hx (by decide))).trans hx
  have hs : Only (fun k => k = rb) w2 (w2.setCell ⟨rb, 11, none⟩ v') := Only.setCell (S := fun k => k = rb) (Only.refl _ w2) (Or.inl rfl) _
  have hbe : Below W.heap.size W w2 := h.be.trans (ho.below h.be.size (fun k hk h9 => by have := (own_lt h.lc h9).1; omega))
  have hnb : ¬ V.vc.ownBlock = some V.mb := fun h9 => by
    obtain ⟨cur2, h7⟩ := own_tag h.lc h9
    exact h.nm.ne h7 rfl
  refine ⟨hx2, hbe.trans (hs.below hbe.size (fun k hk h9 => by omega)), ?_, h.hb, (h.lt.kept ho (fun k hk h9 => by obtain ⟨cur, h8⟩ := own_tag h.lt hk; obtain ⟨cur2, h7⟩ := own_tag h.lc h9; exact tag_ne h8 h7 (by decide) rfl)).kept hs (fun k hk h9 => by obtain ⟨cur, h8⟩ := own_tag h.lt hk; exact tag_ne h8 h.row (by decide) h9),
    (h.lo.kept ho (fun k hk h9 => by obtain ⟨cur, h8⟩ := own_tag h.lo hk; obtain ⟨cur2, h7⟩ := own_tag h.lc h9; exact tag_ne h8 h7 (by decide) rfl)).kept hs (fun k hk h9 => by obtain ⟨cur, h8⟩ := own_tag h.lo hk; exact tag_ne h8 h.row (by decide) h9),
    hv.kept hs (fun k hk h9 => by obtain ⟨cur, h8⟩ := own_tag hv hk; exact tag_ne h8 hx2 (by decide) h9),
    (h.lm.kept ho (fun k hk h9 => by obtain ⟨cur, h8⟩ := own_tag h.lm hk; obtain ⟨cur2, h7⟩ := own_tag h.lc h9; exact tag_ne h8 h7 (by decide) rfl)).kept hs (fun k hk h9 => by obtain ⟨cur, h8⟩ := own_tag h.lm hk; exact tag_ne h8 h.row (by decide) h9),
    (h.lh.kept ho (fun k hk h9 => by obtain ⟨cur, h8⟩ := own_tag h.lh hk; obtain ⟨cur2, h7⟩ := own_tag h.lc h9; exact tag_ne h8 h7 (by decide) rfl)).kept hs (fun k hk h9 => by obtain ⟨cur, h8⟩ := own_tag h.lh hk; exact tag_ne h8 h.row (by decide) h9),
    (h.li.kept ho (fun k hk h9 => by obtain ⟨cur, h8⟩ := own_tag h.li hk; obtain ⟨cur2, h7⟩ := own_tag h.lc h9; exact tag_ne h8 h7 (by decide) rfl)).kept hs (fun k hk h9 => by obtain ⟨cur, h8⟩ := own_tag h.li hk; exact tag_ne h8 h.row (by decide) h9),
    (h.nm.keep ho hnb).keep hs (fun h9 => (h.nm.keep ho hnb).ne hx2 h9.symm), h.hm, (h.wd.kept ho (fun k c h8 => hA k c _ h8 (by decide))).kept hs (fun k c h8 h9 => tag_ne h8 hx2 (by decide) h9), (h.ls.kept ho (fun k c h8 => hA k c _ h8 (by decide))).kept hs (fun k c h8 h9 => tag_ne h8 hx2 (by decide) h9), (h.sy.kept ho (fun k c h8 => hA k c _ h8 (by decide)) (fun k c h8 => hA k c _ h8 (by decide))).kept hs (fun k c h8 h9 => tag_ne h8 hx2 (by decide) h9) (fun k c h8 h9 => tag_ne h8 hx2 (by decide) h9), h.wdb, h.lsb⟩
  rw [heap_setCell_same _ _ 11 _ _ _ hx2]
  rfl
theorem RdAt.st_c (h : RdAt W w rb V vw ws T) (v' : Value) (w5 : World) (xs : List En) (hv : OwnL enL w5 W.heap.size 84 v' xs) (ho : Only (fun k => V.vc.ownBlock = some k) w w5) :
    (∃ p m c, v' = .slice p m c) ∧ (∃ x, w5.cell? ⟨rb, 11, none⟩ = some x) ∧ w5.frozen? ⟨rb, 11, none⟩ = false ∧ (∀ j, w5.cell? ⟨rb, j, none⟩ = w.cell? ⟨rb, j, none⟩) ∧ Hid (RdAt W (w5.setCell ⟨rb, 11, none⟩ v') rb { V with vc := v' } vw ws { T with cp := xs }) := by
  obtain ⟨p, c, hp, _⟩ := hv.form
  have h1 := h.put_c hv ho
  exact ⟨⟨p, _, c, hp⟩, ⟨_, (cell_of_row _ _ 11 _ _ (0, 0) h1.1).trans rfl⟩, froz h1.1 11, fun j => World.cell?_of_block (w := w) (h1.1.trans h.row.symm), h1.2⟩
theorem RdAt.put_m (h : RdAt W w rb V vw ws T) {v' : Value} {xs : List Mq} (hv : OwnL mqL w2 W.heap.size 86 v' xs) (ho : Only (fun k => V.vm.ownBlock = some k) w w2) : (w2.heap[rb]? = some (.cells #[V.vl, .int .i64 V.ln, vw, V.vs, .int .i64 0, .int .i64 0, .int .i64 0, V.vt, .int .u32 1073741822, V.vo, .slice none 0 0, V.vc, V.vm, V.vh, V.vi, .map (some V.mb)] 68 (0, 0))) ∧ RdAt W (w2.setCell ⟨rb, 12, none⟩ v') rb { V with vm := v' } vw ws { T with mp := xs } := by
  have hx := h.row
  have hb := h.hb
  have hA : ∀ k c9 t, w.heap[k]? = some (.cells c9 t (0, 0)) → t ≠ 86 → ¬ V.vm.ownBlock = some k := fun k c9 t h8 hn h9 => by
    obtain ⟨cur2, h7⟩ := own_tag h.lm h9
    exact tag_ne h8 h7 hn rfl
  have hx2 : w2.heap[rb]? = _ := (ho.block rb (lt_of_some hx) (hA _ _ _ hx (by decide))).trans hx
  have hs : Only (fun k => k = rb) w2 (w2.setCell ⟨rb, 12, none⟩ v') := Only.setCell (S := fun k => k = rb) (Only.refl _ w2) (Or.inl rfl) _
  have hbe : Below W.heap.size W w2 := h.be.trans (ho.below h.be.size (fun k hk h9 => by have := (own_lt h.lm h9).1; omega))
  have hnb : ¬ V.vm.ownBlock = some V.mb := fun h9 => by
    obtain ⟨cur2, h7⟩ := own_tag h.lm h9
    exact h.nm.ne h7 rfl
  refine ⟨hx2, hbe.trans (hs.below hbe.size (fun k hk h9 => by omega)), ?_, h.hb, (h.lt.kept ho (fun k hk h9 => by obtain ⟨cur, h8⟩ := own_tag h.lt hk; obtain ⟨cur2, h7⟩ := own_tag h.lm h9; exact tag_ne h8 h7 (by decide) rfl)).kept hs (fun k hk h9 => by obtain ⟨cur, h8⟩ := own_tag h.lt hk; exact tag_ne h8 h.row (by decide) h9),
    (h.lo.kept ho (fun k hk h9 => by obtain ⟨cur, h8⟩ := own_tag h.lo hk; obtain ⟨cur2, h7⟩ := own_tag h.lm h9; exact tag_ne h8 h7 (by decide) rfl)).kept hs (fun k hk h9 => by obtain ⟨cur, h8⟩ := own_tag h.lo hk; exact tag_ne h8 h.row (by decide) h9),
    (h.lc.kept ho (fun k hk h9 => by obtain ⟨cur, h8⟩ := own_tag h.lc hk; obtain ⟨cur2, h7⟩ := own_tag h.lm h9; exact tag_ne h8 h7 (by decide) rfl)).kept hs (fun k hk h9 => by obtain ⟨cur, h8⟩ := own_tag h.lc hk; exact tag_ne h8 h.row (by decide) h9),
    hv.kept hs (fun k hk h9 => by obtain ⟨cur, h8⟩ := own_tag hv hk; exact tag_ne h8 hx2 (by decide) h9),
    (h.lh.kept ho (fun k hk h9 => by obtain ⟨cur, h8⟩ := own_tag h.lh hk; obtain ⟨cur2, h7⟩ := own_tag h.lm h9; exact tag_ne h8 h7 (by decide) rfl)).kept hs (fun k hk h9 => by obtain ⟨cur, h8⟩ := own_tag h.lh hk; exact tag_ne h8 h.row (by decide) h9),
    (h.li.kept ho (fun k hk h9 => by obtain ⟨cur, h8⟩ := own_tag h.li hk; obtain ⟨cur2, h7⟩ := own_tag h.lm h9; exact tag_ne h8 h7 (by decide) rfl)).kept hs (fun k hk h9 => by obtain ⟨cur, h8⟩ := own_tag h.li hk; exact tag_ne h8 h.row (by decide) h9),
    (h.nm.keep ho hnb).keep hs (fun h9 => (h.nm.keep ho hnb).ne hx2 h9.symm), h.hm, (h.wd.kept ho (fun k c h8 => hA k c _ h8 (by decide))).kept hs (fun k c h8 h9 => tag_ne h8 hx2 (by decide) h9), (h.ls.kept ho (fun k c h8 => hA k c _ h8 (by decide))).kept hs (fun k c h8 h9 => tag_ne h8 hx2 (by decide) h9), (h.sy.kept ho (fun k c h8 => hA k c _ h8 (by decide)) (fun k c h8 => hA k c _ h8 (by decide))).kept hs (fun k c h8 h9 => tag_ne h8 hx2 (by decide) h9) (fun k c h8 h9 => tag_ne h8 hx2 (by decide) h9), h.wdb, h.lsb⟩
  rw [heap_setCell_same _ _ 12 _ _ _ hx2]
  rfl
theorem RdAt.st_m (h : RdAt W w rb V vw ws T) (v' : Value) (w5 : World) (xs : List Mq) (hv : OwnL mqL w5 W.heap.size 86 v' xs) (ho : Only (fun k => V.vm.ownBlock = some k) w w5) :
    (∃ p m c, v' = .slice p m c) ∧ (∃ x, w5.cell? ⟨rb, 12, none⟩ = some x) ∧ w5.frozen? ⟨rb, 12, none⟩ = false ∧ (∀ j, w5.cell? ⟨rb, j, none⟩ = w.cell? ⟨rb, j, none⟩) ∧ Hid (RdAt W (w5.setCell ⟨rb, 12, none⟩ v') rb { V with vm := v' } vw ws { T with mp := xs }) := by
  obtain ⟨p, c, hp, _⟩ := hv.form
  have h1 := h.put_m hv ho
  exact ⟨⟨p, _, c, hp⟩, ⟨_, (cell_of_row _ _ 12 _ _ (0, 0) h1.1).trans rfl⟩, froz h1.1 12, fun j => World.cell?_of_block (w := w) (h1.1.trans h.row.symm), h1.2⟩
theorem RdAt.put_h (h : RdAt W w rb V vw ws T) {v' : Value} {xs : List Th} (hv : OwnL thL w2 W.heap.size 91 v' xs) (ho : Only (fun k => V.vh.ownBlock = some k) w w2) : (w2.heap[rb]? = some (.cells #[V.vl, .int .i64 V.ln, vw, V.vs, .int .i64 0, .int .i64 0, .int .i64 0, V.vt, .int .u32 1073741822, V.vo, .slice none 0 0, V.vc, V.vm, V.vh, V.vi, .map (some V.mb)] 68 (0, 0))) ∧ RdAt W (w2.setCell ⟨rb, 13, none⟩ v') rb { V with vh := v' } vw ws { T with th := xs } := by
  have hx := h.row
  have hb := h.hb
  have hA : ∀ k c9 t, w.heap[k]? = some (.cells c9 t (0, 0)) → t ≠ 91 → ¬ V.vh.ownBlock = some k := fun k c9 t h8 hn h9 => by
    obtain ⟨cur2, h7⟩ := own_tag h.lh h9
    exact tag_ne h8 h7 hn rfl
  have hx2 : w2.heap[rb]? = _ := (ho.block rb (lt_of_some hx) (hA _ _ _ hx (by decide))).trans hx
  have hs : Only (fun k => k = rb) w2 (w2.setCell ⟨rb, 13, none⟩ v') := Only.setCell (S := fun k => k = rb) (Only.refl _ w2) (Or.inl rfl) _
  have hbe : Below W.heap.size W w2 := h.be.trans (ho.below h.be.size (fun k hk h9 => by have := (own_lt h.lh h9).1; omega))
  have hnb : ¬ V.vh.ownBlock = some V.mb := fun h9 => by
    obtain ⟨cur2, h7⟩ := own_tag h.lh h9
    exact h.nm.ne h7 rfl
  refine ⟨hx2, hbe.trans (hs.below hbe.size (fun k hk h9 => by omega)), ?_, h.hb, (h.lt.kept ho (fun k hk h9 => by obtain ⟨cur, h8⟩ := own_tag h.lt hk; obtain ⟨cur2, h7⟩ := own_tag h.lh h9; exact tag_ne h8 h7 (by decide) rfl)).kept hs (fun k hk h9 => by obtain ⟨cur, h8⟩ := own_tag h.lt hk; exact tag_ne h8 h.row (by decide) h9),
    (h.lo.kept ho (fun k hk h9 => by obtain ⟨cur, h8⟩ := own_tag h.lo hk; obtain ⟨cur2, h7⟩ := own_tag h.lh h9; exact tag_ne h8 h7 (by decide) rfl)).kept hs (fun k hk h9 => by obtain ⟨cur, h8⟩ := own_tag h.lo hk; exact tag_ne h8 h.row (by decide) h9),
    (h.lc.kept ho (fun k hk h9 => by obtain ⟨cur, h8⟩ := own_tag h.lc hk; obtain ⟨cur2, h7⟩ := own_tag h.lh h9; exact tag_ne h8 h7 (by decide) rfl)).kept hs (fun k hk h9 => by obtain ⟨cur, h8⟩ := own_tag h.lc hk; exact tag_ne h8 h.row (by decide) h9),
    (h.lm.kept ho (fun k hk h9 => by obtain ⟨cur, h8⟩ := own_tag h.lm hk; obtain ⟨cur2, h7⟩ := own_tag h.lh h9; exact tag_ne h8 h7 (by decide) rfl)).kept hs (fun k hk h9 => by obtain ⟨cur, h8⟩ := own_tag h.lm hk; exact tag_ne h8 h.row (by decide) h9),
    hv.kept hs (fun k hk h9 => by obtain ⟨cur, h8⟩ := own_tag hv hk; exact tag_ne h8 hx2 (by decide) h9),
    (h.li.kept ho (fun k hk h9 => by obtain ⟨cur, h8⟩ := own_tag h.li hk; obtain ⟨cur2, h7⟩ := own_tag h.lh h9; exact tag_ne h8 h7 (by decide) rfl)).kept hs (fun k hk h9 => by obtain ⟨cur, h8⟩ := own_tag h.li hk; exact tag_ne h8 h.row (by decide) h9),
    (h.nm.keep ho hnb).keep hs (fun h9 => (h.nm.keep ho hnb).ne hx2 h9.symm), h.hm, (h.wd.kept ho (fun k c h8 => hA k c _ h8 (by decide))).kept hs (fun k c h8 h9 => tag_ne h8 hx2 (by decide) h9), (h.ls.kept ho (fun k c h8 => hA k c _ h8 (by decide))).kept hs (fun k c h8 h9 => tag_ne h8 hx2 (by decide) h9), (h.sy.kept ho (fun k c h8 => hA k c _ h8 (by decide)) (fun k c h8 => hA k c _ h8 (by decide))).kept hs (fun k c h8 h9 => tag_ne h8 hx2 (by decide) h9) (fun k c h8 h9 => tag_ne h8 hx2 (by decide) h9), h.wdb, h.lsb⟩
  rw [heap_setCell_same _ _ 13 _ _ _ hx2]
  rfl
theorem RdAt.st_h (h : RdAt W w rb V vw ws T) (v' : Value) (w5 : World) (xs : List Th) (hv : OwnL thL w5 W.heap.size 91 v' xs) (ho : Only (fun k => V.vh.ownBlock = some k) w w5) :
    (∃ p m c, v' = .slice p m c) ∧ (∃ x, w5.cell? ⟨rb, 13, none⟩ = some x) ∧ w5.frozen? ⟨rb, 13, none⟩ = false ∧ (∀ j, w5.cell? ⟨rb, j, none⟩ = w.cell? ⟨rb, j, none⟩) ∧ Hid (RdAt W (w5.setCell ⟨rb, 13, none⟩ v') rb { V with vh := v' } vw ws { T with th := xs }) := by
  obtain ⟨p, c, hp, _⟩ := hv.form
  have h1 := h.put_h hv ho
  exact ⟨⟨p, _, c, hp⟩, ⟨_, (cell_of_row _ _ 13 _ _ (0, 0) h1.1).trans rfl⟩, froz h1.1 13, fun j => World.cell?_of_block (w := w) (h1.1.trans h.row.symm), h1.2⟩
theorem RdAt.put_i (h : RdAt W w rb V vw ws T) {v' : Value} {xs : List Ob} (hv : OwnL irL w2 W.heap.size 93 v' xs) (ho : Only (fun k => V.vi.ownBlock = some k) w w2) : (w2.heap[rb]? = some (.cells #[V.vl, .int .i64 V.ln, vw, V.vs, .int .i64 0, .int .i64 0, .int .i64 0, V.vt, .int .u32 1073741822, V.vo, .slice none 0 0, V.vc, V.vm, V.vh, V.vi, .map (some V.mb)] 68 (0, 0))) ∧ RdAt W (w2.setCell ⟨rb, 14, none⟩ v') rb { V with vi := v' } vw ws { T with ir := xs } := by
  have hx := h.row
  have hb := h.hb
  have hA : ∀ k c9 t, w.heap[k]? = some (.cells c9 t (0, 0)) → t ≠ 93 → ¬ V.vi.ownBlock = some k := fun k c9 t h8 hn h9 => by
    obtain ⟨cur2, h7⟩ := own_tag h.li h9
    exact tag_ne h8 h7 hn rfl
  have hx2 : w2.heap[rb]? = _ := (ho.block rb (lt_of_some hx) (hA _ _ _ hx (by decide))).trans hx
  have hs : Only (fun k => k = rb) w2 (w2.setCell ⟨rb, 14, none⟩ v') := Only.setCell (S := fun k => k = rb) (Only.refl _ w2) (Or.inl rfl) _
  have hbe : Below W.heap.size W w2 := h.be.trans (ho.below h.be.size (fun k hk h9 => by have := (own_lt h.li h9).1; omega))
  have hnb : ¬ V.vi.ownBlock = some V.mb := fun h9 => by
    obtain ⟨cur2, h7⟩ := own_tag h.li h9
    exact h.nm.ne h7 rfl
  refine ⟨hx2, hbe.trans (hs.below hbe.size (fun k hk h9 => by omega)), ?_, h.hb, (h.lt.kept ho (fun k hk h9 => by obtain ⟨cur, h8⟩ := own_tag h.lt hk; obtain ⟨cur2, h7⟩ := own_tag h.li h9; exact tag_ne h8 h7 (by decide) rfl)).kept hs (fun k hk h9 => by obtain ⟨cur, h8⟩ := own_tag h.lt hk; exact tag_ne h8 h.row (by decide) h9),
    (h.lo.kept ho (fun k hk h9 => by obtain ⟨cur, h8⟩ := own_tag h.lo hk; obtain ⟨cur2, h7⟩ := own_tag h.li h9; exact tag_ne h8 h7 (by decide) rfl)).kept hs (fun k hk h9 => by obtain ⟨cur, h8⟩ := own_tag h.lo hk; exact tag_ne h8 h.row (by decide) h9),
    (h.lc.kept ho (fun k hk h9 => by obtain ⟨cur, h8⟩ := own_tag h.lc hk; obtain ⟨cur2, h7⟩ := own_tag h.li h9; exact tag_ne h8 h7 (by decide) rfl)).kept hs (fun k hk h9 => by obtain ⟨cur, h8⟩ := own_tag h.lc hk; exact tag_ne h8 h.row (by decide) h9),
    (h.lm.kept ho (fun k hk h9 => by obtain ⟨cur, h8⟩ := own_tag h.lm hk; obtain ⟨cur2, h7⟩ := own_tag h.li h9; exact tag_ne h8 h7 (by decide) rfl)).kept hs (fun k hk h9 => by obtain ⟨cur, h8⟩ := own_tag h.lm hk; exact tag_ne h8 h.row (by decide) h9),
    (h.lh.kept ho (fun k hk h9 => by obtain ⟨cur, h8⟩ := own_tag h.lh hk; obtain ⟨cur2, h7⟩ := own_tag h.li h9; exact tag_ne h8 h7 (by decide) rfl)).kept hs (fun k hk h9 => by obtain ⟨cur, h8⟩ := own_tag h.lh hk; exact tag_ne h8 h.row (by decide) h9),
    hv.kept hs (fun k hk h9 => by obtain ⟨cur, h8⟩ := own_tag hv hk; exact tag_ne h8 hx2 (by decide) h9),
    (h.nm.keep ho hnb).keep hs (fun h9 => (h.nm.keep ho hnb).ne hx2 h9.symm), h.hm, (h.wd.kept ho (fun k c h8 => hA k c _ h8 (by decide))).kept hs (fun k c h8 h9 => tag_ne h8 hx2 (by decide) h9), (h.ls.kept ho (fun k c h8 => hA k c _ h8 (by decide))).kept hs (fun k c h8 h9 => tag_ne h8 hx2 (by decide) h9), (h.sy.kept ho (fun k c h8 => hA k c _ h8 (by decide)) (fun k c h8 => hA k c _ h8 (by decide))).kept hs (fun k c h8 h9 => tag_ne h8 hx2 (by decide) h9) (fun k c h8 h9 => tag_ne h8 hx2 (by decide) h9), h.wdb, h.lsb⟩
  rw [heap_setCell_same _ _ 14 _ _ _ hx2]
  rfl
theorem RdAt.st_i (h : RdAt W w rb V vw ws T) (v' : Value) (w5 : World) (xs : List Ob) (hv : OwnL irL w5 W.heap.size 93 v' xs) (ho : Only (fun k => V.vi.ownBlock = some k) w w5) :
    (∃ p m c, v' = .slice p m c) ∧ (∃ x, w5.cell? ⟨rb, 14, none⟩ = some x) ∧ w5.frozen? ⟨rb, 14, none⟩ = false ∧ (∀ j, w5.cell? ⟨rb, j, none⟩ = w.cell? ⟨rb, j, none⟩) ∧ Hid (RdAt W (w5.setCell ⟨rb, 14, none⟩ v') rb { V with vi := v' } vw ws { T with ir := xs }) := by
  obtain ⟨p, c, hp, _⟩ := hv.form
  have h1 := h.put_i hv ho
  exact ⟨⟨p, _, c, hp⟩, ⟨_, (cell_of_row _ _ 14 _ _ (0, 0) h1.1).trans rfl⟩, froz h1.1 14, fun j => World.cell?_of_block (w := w) (h1.1.trans h.row.symm), h1.2⟩
end Go.Proofs.YtgacifbpjdakaaaGreatDoor

/- SpecReads' law: what lies beside a telling; cap (gen_td4.py). -/
import Derived.Test.YtgacifbpjdakaaaGreatDoorTD3
import Derived.Test.YtgacifbpjdakaaaGreatDoorRL
namespace Go.Proofs.YtgacifbpjdakaaaGreatDoor
open Go.ChangeShapes Go.WideShapes Go.ChangeAt Go.RowKit
open Go.Vx
set_option linter.unusedVariables false
set_option linter.unusedSimpArgs false

variable {W w w2 : World} {xb : Nat} {vt vo vc vm vh vi vn va : Value} {T : Tx}
/-- A block that is none of a telling's. -/
def FreB (xb ob : Nat) (vt vo vc vm vh vi vn va : Value) : Prop := ob ≠ xb ∧ vt.ownBlock ≠ some ob ∧ vo.ownBlock ≠ some ob ∧ vc.ownBlock ≠ some ob ∧ vm.ownBlock ≠ some ob ∧ vh.ownBlock ≠ some ob ∧ vi.ownBlock ≠ some ob ∧ vn.ownBlock ≠ some ob ∧ va.ownBlock ≠ some ob
theorem TxAt.fre (h : TxAt W w xb vt vo vc vm vh vi vn va T) {ob : Nat} (hb : w.heap.size ≤ ob) : FreB xb ob vt vo vc vm vh vi vn va :=
  ⟨fun e => by have := lt_of_some h.row; omega, fun e => by have := (own_lt h.lt e).2; omega, fun e => by have := (own_lt h.lo e).2; omega, fun e => by have := (own_lt h.lc e).2; omega, fun e => by have := (own_lt h.lm e).2; omega, fun e => by have := (own_lt h.lh e).2; omega, fun e => by have := (own_lt h.li e).2; omega, fun e => by have := (own_lt h.ln e).2; omega, fun e => by have := (own_lt h.la e).2; omega⟩
theorem TxAt.apart (h : TxAt W w xb vt vo vc vm vh vi vn va T) {ob : Nat} (hf : FreB xb ob vt vo vc vm vh vi vn va) (hW : W.heap.size ≤ ob) (ho : Only (fun k => k = ob) w w2) : TxAt W w2 xb vt vo vc vm vh vi vn va T := by
  obtain ⟨f0, ft, fo, fc, fm, fh, fi, fn, fa⟩ := hf
  refine ⟨h.be.trans (ho.below h.be.size (fun k hk h9 => by omega)), (ho.block xb (lt_of_some h.row) (fun e => f0 e.symm)).trans h.row, h.hb, h.lt.kept ho (fun k hk h9 => ft (by rw [← h9]; exact hk)), h.lo.kept ho (fun k hk h9 => fo (by rw [← h9]; exact hk)), h.lc.kept ho (fun k hk h9 => fc (by rw [← h9]; exact hk)), h.lm.kept ho (fun k hk h9 => fm (by rw [← h9]; exact hk)), h.lh.kept ho (fun k hk h9 => fh (by rw [← h9]; exact hk)), h.li.kept ho (fun k hk h9 => fi (by rw [← h9]; exact hk)), h.ln.kept ho (fun k hk h9 => fn (by rw [← h9]; exact hk)), h.la.kept ho (fun k hk h9 => fa (by rw [← h9]; exact hk))⟩
/-- A line's numbers, where they lie. -/
def TeAt (w : World) (ob : Nat) (o : Tl) : Prop := w.heap[ob]? = some (.cells #[.int .i64 o.k, .int .i64 o.a, .int .i64 o.b, .int .i64 o.c] 61 (0, 0))
/-- A capability on its way. -/
def CpAt (w : World) (cb : Nat) (e : En) : Prop := w.heap[cb]? = some (.cells (enC e).toArray 84 (0, 0))
theorem blk_keep {S : Nat → Prop} {ob : Nat} {o : Obj} (h : w.heap[ob]? = some o) (ho : Only S w w2) (hS : ¬ S ob) : w2.heap[ob]? = some o := (ho.block ob (lt_of_some h) hS).trans h
theorem tab8_at (j : Nat) (h : j < 8) : [Value.int .i64 0, Value.int .i64 1, Value.int .i64 2, Value.int .i64 3, Value.int .i64 4, Value.int .i64 5, Value.int .i64 6, Value.int .i64 7][j]? = some (.int .i64 (j : Int)) := by
  rcases (show j = 0 ∨ j = 1 ∨ j = 2 ∨ j = 3 ∨ j = 4 ∨ j = 5 ∨ j = 6 ∨ j = 7 by omega) with rfl | rfl | rfl | rfl | rfl | rfl | rfl | rfl <;> rfl
theorem let_len (n : Nat) : (letF n).length ≤ 3 := by
  unfold letF
  split <;> decide
theorem pick_lt (n : Int) (m : Nat) (h : 1 ≤ m) : pickL n m < m := Nat.mod_lt _ h
/-- The telling, a line's numbers, a capability on its way. -/
structure CpI (W w : World) (xb : Nat) (vt vo vc vm vh vi vn va : Value) (T : Tx) (ob cb : Nat) (o : Tl) (tx : List UInt8) (e : En) : Prop where
  h : TxAt W w xb vt vo vc vm vh vi vn va { T with t := tx }
  te : TeAt w ob o
  cp : CpAt w cb e
  f1 : FreB xb ob vt vo vc vm vh vi vn va
  f2 : FreB xb cb vt vo vc vm vh vi vn va
  w1 : W.heap.size ≤ ob
  w2 : W.heap.size ≤ cb
  ne : cb ≠ ob
variable {ob cb : Nat} {o : Tl} {tx : List UInt8} {e : En}
theorem CpI.quiet (h : CpI W w xb vt vo vc vm vh vi vn va T ob cb o tx e) (ho : Only (fun _ => False) w w2) : CpI W w2 xb vt vo vc vm vh vi vn va T ob cb o tx e :=
  ⟨h.h.quiet ho, blk_keep h.te ho (fun h => h), blk_keep h.cp ho (fun h => h), h.f1, h.f2, h.w1, h.w2, h.ne⟩
theorem CpI.text (h : CpI W w xb vt vo vc vm vh vi vn va T ob cb o tx e) (tx' : List UInt8) : CpI W (w.setCell ⟨xb, 0, none⟩ (.string ⟨tx'.toArray⟩)) xb vt vo vc vm vh vi vn va T ob cb o tx' e := by
  have ho : Only (fun k => k = xb) w (w.setCell ⟨xb, 0, none⟩ (.string ⟨tx'.toArray⟩)) := Only.setCell (S := fun k => k = xb) (Only.refl _ w) (Or.inl rfl) _
  exact ⟨h.h.text tx', blk_keep h.te ho (fun e => h.f1.1 e), blk_keep h.cp ho (fun e => h.f2.1 e), h.f1, h.f2, h.w1, h.w2, h.ne⟩
theorem CpI.put (h : CpI W w xb vt vo vc vm vh vi vn va T ob cb o tx e) {e' : En} (ho : Only (fun k => k = cb) w w2) (hc : CpAt w2 cb e') : CpI W w2 xb vt vo vc vm vh vi vn va T ob cb o tx e' :=
  ⟨h.h.apart h.f2 h.w2 ho, blk_keep h.te ho (fun e => h.ne e.symm), hc, h.f1, h.f2, h.w1, h.w2, h.ne⟩
theorem CpAt.from (h : CpAt w cb e) (x y : Int) : CpAt ((w.setCell ⟨cb, 10, none⟩ (.int .i64 x)).setCell ⟨cb, 11, none⟩ (.int .i64 y)) cb { e with from' := (x, y) } := by
  unfold CpAt at h ⊢
  rw [heap_setCell_same _ _ 11 _ _ _ (heap_setCell_same _ _ 10 _ _ _ h)]
  rfl
theorem CpAt.badge (h : CpAt w cb e) (x : Int) : CpAt (w.setCell ⟨cb, 5, none⟩ (.int .u32 x)) cb { e with cap := { e.cap with badge := x } } := by
  unfold CpAt at h ⊢
  rw [heap_setCell_same _ _ 5 _ _ _ h]
  rfl
theorem CpAt.guard (h : CpAt w cb e) (x y : Int) : CpAt ((w.setCell ⟨cb, 7, none⟩ (.int .i64 x)).setCell ⟨cb, 6, none⟩ (.int .u32 y)) cb { e with cap := { e.cap with gbits := x, guard := y } } := by
  unfold CpAt at h ⊢
  rw [heap_setCell_same _ _ 6 _ _ _ (heap_setCell_same _ _ 7 _ _ _ h)]
  rfl
theorem only2 (w : World) (b i j : Nat) (u v : Value) : Only (fun k => k = b) w ((w.setCell ⟨b, i, none⟩ u).setCell ⟨b, j, none⟩ v) :=
  Only.setCell (S := fun k => k = b) (Only.setCell (S := fun k => k = b) (Only.refl _ w) (Or.inl rfl) _) (Or.inl rfl) _
theorem only1 (w : World) (b i : Nat) (u : Value) : Only (fun k => k = b) w (w.setCell ⟨b, i, none⟩ u) := Only.setCell (S := fun k => k = b) (Only.refl _ w) (Or.inl rfl) _
/-- What a line's cap is, up to its tail. -/
def capE (T : Tx) (o : Tl) : En := ⟨(9, (p32 o.b : Nat)), ⟨(T.ar.getD (capI T o) (0, 0)).1, (T.ar.getD (capI T o) (0, 0)).2, (pickL o.c 8 : Nat), 0, 0, 0, 0, 0⟩, (-1, -1)⟩
set_option maxRecDepth 100000 in
set_option maxHeartbeats 2000000 in
theorem cap_any (h : TxAt W w xb vt vo vc vm vh vi vn va T) (o : Tl) (i : TlI o) (hn0 : 1 ≤ T.nm.length) (hl : T.nm.length ≤ 1000) (hl2 : T.ar.length = T.nm.length) (hl3 : T.cp.length ≤ 1000) (hlt : T.t.length ≤ 1000000) (hnm : ∀ x ∈ T.nm, x.length ≤ 40) : Calls Tryz.prog 21 #[.pointer (some ⟨xb, 0, none⟩), .agg #[.int .i64 o.k, .int .i64 o.a, .int .i64 o.b, .int .i64 o.c]] w fun e w' => e = .returned (.tuple #[]) ∧
    Hid (∃ vc', TxAt W w' xb vt vo vc' vm vh vi vn va { T with cp := T.cp ++ [capT T o], t := T.t ++ capL T o }) := by
  obtain ⟨w1, hw1⟩ : ∃ w1, w1 = w.alloc (.cells #[.int .i64 o.k, .int .i64 o.a, .int .i64 o.b, .int .i64 o.c] 61) := ⟨_, rfl⟩
  obtain ⟨ob, hob⟩ : ∃ ob, ob = w.heap.size := ⟨_, rfl⟩
  have ho1 : Only (fun _ => False) w w1 := by rw [hw1]; exact (Only.refl _ w).alloc _
  have HT1 : Hid (TeAt w1 ob o) := by unfold TeAt; show _ = _; rw [hw1, hob]; exact heap_alloc_last w _
  have HH1 := Vx.hid (h.quiet ho1)
  have HF1 := Vx.hid (h.fre (ob := ob) (by omega))
  have hW1 : W.heap.size ≤ ob := by have := h.be.size; omega
  have HP1 := Vx.hid (fun wv => pickK_any T.nm.length hn0 (by omega) o.a i.a.1 i.a.2 wv)
  have HP2 : Hid (∀ wv, Calls Tryz.prog 19 #[.int .i64 o.b, .int .i64 4294967296] wv fun e w' => e = .returned (.int .i64 ((pickL o.b 4294967296 : Nat) : Int)) ∧ w' = wv) := fun wv => by
    have h9 := pickK_any 4294967296 (by omega) (by omega) o.b i.b.1 i.b.2 wv
    rw [show ((4294967296 : Nat) : Int) = 4294967296 by omega] at h9
    exact h9
  have HP3 : Hid (∀ wv, Calls Tryz.prog 19 #[.int .i64 o.c, .int .i64 8] wv fun e w' => e = .returned (.int .i64 ((pickL o.c 8 : Nat) : Int)) ∧ w' = wv) := fun wv => by
    have h9 := pickK_any 8 (by omega) (by omega) o.c i.c.1 i.c.2 wv
    rw [show ((8 : Nat) : Int) = 8 by omega] at h9
    exact h9
  have HP4 : Hid (∀ wv, Calls Tryz.prog 19 #[.int .i64 o.c, .int .i64 4294967296] wv fun e w' => e = .returned (.int .i64 ((pickL o.c 4294967296 : Nat) : Int)) ∧ w' = wv) := fun wv => by
    have h9 := pickK_any 4294967296 (by omega) (by omega) o.c i.c.1 i.c.2 wv
    rw [show ((4294967296 : Nat) : Int) = 4294967296 by omega] at h9
    exact h9
  have HP5 : Hid (∀ wv, Calls Tryz.prog 19 #[.int .i64 o.a, .int .i64 40] wv fun e w' => e = .returned (.int .i64 ((pickL o.a 40 : Nat) : Int)) ∧ w' = wv) := fun wv => by
    have h9 := pickK_any 40 (by omega) (by omega) o.a i.a.1 i.a.2 wv
    rw [show ((40 : Nat) : Int) = 40 by omega] at h9
    exact h9
  have HLE := Vx.hid (fun wv => letters_ok o.c i.c.1 i.c.2 wv)
  have hci : capI T o < T.nm.length := pick_lt _ _ hn0
  obtain ⟨ci, hcie⟩ : ∃ ci, ci = capI T o := ⟨_, rfl⟩
  rw [← hcie] at hci
  have hci2 : ci < T.ar.length := by omega
  obtain ⟨pn, cn, hvn, _, _, hgn⟩ := h.ln.form
  obtain ⟨gn, rfl, _, hgnl, _⟩ := hgn (by omega)
  obtain ⟨pa, ca, hva, _, _, hga⟩ := h.la.form
  obtain ⟨ga, rfl, _, hgal, _⟩ := hga (by omega)
  obtain ⟨nn, hnn⟩ : ∃ nn, nn = T.nm.length := ⟨_, rfl⟩
  rw [← hnn] at hvn
  rw [hl2, ← hnn] at hva
  subst hvn hva
  obtain ⟨⟨k1, n1⟩, hkn⟩ : ∃ kn : Sl, kn = T.ar[ci] := ⟨_, rfl⟩
  obtain ⟨nmi, hnmi⟩ : ∃ nmi, nmi = T.nm[ci] := ⟨_, rfl⟩
  have HNI : Hid (nmi.length ≤ 40) := by show _ ≤ _; rw [hnmi]; exact hnm _ (List.getElem_mem hci)
  have HCA : Hid (∀ wv tx', TxAt W wv xb vt vo vc vm vh vi (.slice (some ⟨gn, 0, none⟩) nn cn) (.slice (some ⟨ga, 0, none⟩) nn ca) { T with t := tx' } → wv.cell? ⟨ga, ci * 2, none⟩ = some (.int .i64 k1) ∧ wv.cell? ⟨ga, ci * 2 + 1, none⟩ = some (.int .i64 n1) ∧ wv.cell? ⟨gn, ci, none⟩ = some (.string ⟨nmi.toArray⟩)) := fun wv tx' hv => by
    have h1 := hv.la.cell ci 0 hci2 (by decide)
    have h2 := hv.la.cell ci 1 hci2 (by decide)
    have h3 := hv.ln.cell ci 0 hci (by decide)
    rw [← hkn] at h1 h2
    rw [← hnmi] at h3
    refine ⟨h1, h2, ?_⟩
    have e : ci * stL.sz + 0 = ci := by show ci * 1 + 0 = ci; omega
    rw [e] at h3
    exact h3
  have hpe : pickL o.a T.nm.length = ci := hcie.symm
  rw [hpe, ← hnn] at HP1
  have HPB := Vx.hid (pick_lt o.b 4294967296 (by decide))
  have HPC := Vx.hid (pick_lt o.c 8 (by decide))
  have hcn : ci < nn := by omega
  have hnb : nn ≤ 1000 := by omega
  obtain ⟨pb, hpb⟩ : ∃ pb, pb = pickL o.b 4294967296 := ⟨_, rfl⟩
  obtain ⟨pc, hpc⟩ : ∃ pc, pc = pickL o.c 8 := ⟨_, rfl⟩
  rw [← hpb] at HP2 HPB
  rw [← hpc] at HP3 HPC HLE
  have HEQ : Hid (capE T o = ⟨(9, (pb : Int)), ⟨k1, n1, (pc : Int), 0, 0, 0, 0, 0⟩, (-1, -1)⟩ ∧ capL T o = [99, 97, 112, 32, 98, 32] ++ (Lib.decDigits pb ++ 32 :: (nmi ++ 9 :: (letF pc ++ (frmL o ++ (bdgL o ++ grdL o)))))) := by
    have e1 : T.ar.getD (capI T o) (0, 0) = (k1, n1) := by rw [← hcie, hkn, List.getD_eq_getElem?_getD, List.getElem?_eq_getElem hci2]; rfl
    have e2 : T.nm.getD (capI T o) [] = nmi := by rw [← hcie, hnmi, List.getD_eq_getElem?_getD, List.getElem?_eq_getElem hci]; rfl
    refine ⟨?_, ?_⟩
    · unfold capE; rw [e1]; show _ = _; rw [hpb, hpc]; rfl
    · unfold capL; rw [e2, hpb, hpc]; rfl
  have HLN : Hid (T.cp.length + 1 ≤ 10000000 ∧ T.t.length ≤ 1000000) := ⟨by omega, hlt⟩
  have hgn1 : gn < w1.heap.size := by have := ho1.size; omega
  have hga1 : ga < w1.heap.size := by have := ho1.size; omega
  clear h ho1 hl hl2 hl3 hlt hnm hpe hcie hnn hkn hnmi hpb hpc hgnl hgal hn0 hgn hga hci hci2
  go_enter Tryz.func21, Tryz.ntmps21
  go_upto_region 1 with fail
  rw [← hw1, ← hob]
  clear hw1 hob
  have c10 := (cell_of_row _ _ 10 _ _ (0, 0) HH1.out.row).trans rfl
  have c1 := (cell_of_row _ _ 1 _ _ (0, 0) HT1.out).trans rfl
  have HS0 := Vx.hid (show w1.drew.cell? ⟨ob, 1, none⟩ = some (.int .i64 o.a) ∧ w1.drew.cell? ⟨xb, 10, none⟩ = some (.slice (some ⟨gn, 0, none⟩) nn cn) from ⟨c1, c10⟩)
  clear c10 c1
  go_region_held3 (fun wv => wv.cell? ⟨ob, 1, none⟩ = some (.int .i64 o.a) ∧ wv.cell? ⟨xb, 10, none⟩ = some (.slice (some ⟨gn, 0, none⟩) nn cn)) (first | with_reducible exact HS0.out) (first | (go_at_call 19; refine (HP1.out _).mono ?_; rintro e w9 ⟨rfl, rfl⟩))
  obtain ⟨w2, hw2⟩ : ∃ w2, w2 = w1.drew := ⟨_, rfl⟩
  have ho2 : Only (fun _ => False) w1 w2 := by rw [hw2]; exact (Only.refl _ w1).drew
  have HH2 := Vx.hid (HH1.out.quiet ho2)
  have HT2 : Hid (TeAt w2 ob o) := blk_keep HT1.out ho2 (fun h => h)
  rw [← hw2]
  clear hw2 ho2 HH1 HT1 HS0
  have c11 := (cell_of_row _ _ 11 _ _ (0, 0) HH2.out.row).trans rfl
  have d2 := (cell_of_row _ _ 2 _ _ (0, 0) HT2.out).trans rfl
  have d3 := (cell_of_row _ _ 3 _ _ (0, 0) HT2.out).trans rfl
  obtain ⟨ea, eb, _⟩ := HCA.out _ T.t HH2.out
  have hxl : xb < w2.heap.size := lt_of_some HH2.out.row
  have hol : ob < w2.heap.size := lt_of_some HT2.out
  have hgl : ga < w2.heap.size := by
    have := own_lt HH2.out.la (k := ga) rfl
    omega
  have h8 := tab8_at pc HPC.out
  have hpc8 : pc ≤ 7 := by have := HPC.out; omega
  go_upto_region 3 with (go_at_call 19; refine (HP2.out _).mono ?_; rintro e w9 ⟨rfl, hw9⟩; have hw8 := hw9.symm; clear hw9; subst hw8)
  go_upto_region 5 with (go_at_call 19; refine (HP3.out _).mono ?_; rintro e w9 ⟨rfl, hw9⟩; have hw8 := hw9.symm; clear hw9; subst hw8)
  clear h8 hpc8 c11 d2 d3 ea eb
  obtain ⟨wa, hwa⟩ : ∃ wa, wa = w2.alloc (.cells #[.int .i64 9, .int .i64 (pb : Int), .int .i64 k1, .int .i64 n1, .int .i64 (pc : Int), .int .u32 0, .int .u32 0, .int .i64 0, .int .i64 0, .int .u32 0, .int .i64 (-1), .int .i64 (-1)] 84) := ⟨_, rfl⟩
  obtain ⟨w3, hw3⟩ : ∃ w3, w3 = wa.alloc (.cells #[.int .i64 0, .int .i64 1, .int .i64 2, .int .i64 3, .int .i64 4, .int .i64 5, .int .i64 6, .int .i64 7] 3) := ⟨_, rfl⟩
  obtain ⟨cb, hcb⟩ : ∃ cb, cb = w2.heap.size := ⟨_, rfl⟩
  have ho3 : Only (fun _ => False) w2 w3 := by rw [hw3, hwa]; exact ((Only.refl _ w2).alloc _).alloc _
  have HH3 := Vx.hid (HH2.out.quiet ho3)
  have HT3 : Hid (TeAt w3 ob o) := blk_keep HT2.out ho3 (fun h => h)
  have HE3 : Hid (CpAt w3 cb ⟨(9, (pb : Int)), ⟨k1, n1, (pc : Int), 0, 0, 0, 0, 0⟩, (-1, -1)⟩) := by
    have h1 : wa.heap[cb]? = some (.cells #[.int .i64 9, .int .i64 (pb : Int), .int .i64 k1, .int .i64 n1, .int .i64 (pc : Int), .int .u32 0, .int .u32 0, .int .i64 0, .int .i64 0, .int .u32 0, .int .i64 (-1), .int .i64 (-1)] 84 (0, 0)) := by rw [hwa, hcb]; exact heap_alloc_last w2 _
    have h2 : Only (fun _ => False) wa w3 := by rw [hw3]; exact (Only.refl _ wa).alloc _
    exact blk_keep h1 h2 (fun h => h)
  have HF3 := Vx.hid (HH2.out.fre (ob := cb) (by omega))
  have hW3 : W.heap.size ≤ cb := by have := HH2.out.be.size; omega
  have HNE : Hid (cb ≠ ob) := fun e => by omega
  rw [← hwa, ← hw3]
  simp only [← hcb]
  clear hwa hw3 hcb ho3 HH2 HT2
  have HI3 : Hid (CpI W w3 xb vt vo vc vm vh vi (.slice (some ⟨gn, 0, none⟩) nn cn) (.slice (some ⟨ga, 0, none⟩) nn ca) T ob cb o T.t ⟨(9, (pb : Int)), ⟨k1, n1, (pc : Int), 0, 0, 0, 0, 0⟩, (-1, -1)⟩) := ⟨HH3.out, HT3.out, HE3.out, HF1.out, HF3.out, hW1, hW3, HNE.out⟩
  clear HH3 HT3 HE3 hxl hol hgl hgn1 hga1
  have HDG := Vx.hid (fun wv => decimal_ok pb (by have := HPB.out; omega) wv)
  have HDL := Vx.hid (dec_len pb (by have := HPB.out; omega))
  have HLL := Vx.hid (let_len pc)
  have HCE : Hid (∀ wv e0, CpI W wv xb vt vo vc vm vh vi (.slice (some ⟨gn, 0, none⟩) nn cn) (.slice (some ⟨ga, 0, none⟩) nn ca) T ob cb o T.t ⟨(9, (pb : Int)), ⟨k1, n1, (pc : Int), 0, 0, 0, 0, 0⟩, e0⟩ → wv.cell? ⟨xb, 0, none⟩ = some (.string ⟨T.t.toArray⟩) ∧ wv.cell? ⟨cb, 1, none⟩ = some (.int .i64 (pb : Int)) ∧ wv.cell? ⟨xb, 10, none⟩ = some (.slice (some ⟨gn, 0, none⟩) nn cn) ∧ wv.cell? ⟨gn, ci, none⟩ = some (.string ⟨nmi.toArray⟩) ∧ wv.cell? ⟨ob, 3, none⟩ = some (.int .i64 o.c)) := fun wv e0 hv => ⟨(cell_of_row _ _ 0 _ _ (0, 0) hv.h.row).trans rfl, (cell_of_row _ _ 1 _ _ (0, 0) hv.cp).trans rfl, (cell_of_row _ _ 10 _ _ (0, 0) hv.h.row).trans rfl, (HCA.out wv _ hv.h).2.2, (cell_of_row _ _ 3 _ _ (0, 0) hv.te).trans rfl⟩
  go_cut [] from 6 (fun wx => Hid (CpI W wx xb vt vo vc vm vh vi (.slice (some ⟨gn, 0, none⟩) nn cn) (.slice (some ⟨ga, 0, none⟩) nn ca) T ob cb o (T.t ++ ([99, 97, 112, 32, 98, 32] ++ (Lib.decDigits pb ++ 32 :: (nmi ++ 9 :: letF pc)))) ⟨(9, (pb : Int)), ⟨k1, n1, (pc : Int), 0, 0, 0, 0, 0⟩, (-1, -1)⟩))
  case first =>
    have HI0 := Vx.hid (HI3.out.quiet ((Only.refl _ w3).drew))
    obtain ⟨d0, d1, d2, d3, d4⟩ := HCE.out _ _ HI3.out
    generalize Lib.decDigits pb = dq at *
    generalize letF pc = lf at *
    have g0 := HLN.out.2
    have gd := HDL.out
    have gl := HLL.out
    have gn' := HNI.out
    have g1 : ¬ 9223372036854775807 < T.t.length + 6 := by omega
    have g2 : ¬ 9223372036854775807 < T.t.length + 6 + dq.length := by omega
    have g3 : ¬ 9223372036854775807 < T.t.length + 6 + dq.length + 1 := by omega
    have g4 : ¬ 9223372036854775807 < T.t.length + 6 + dq.length + 1 + nmi.length := by omega
    have g5 : ¬ 9223372036854775807 < T.t.length + 6 + dq.length + 1 + nmi.length + 1 := by omega
    have g6 : ¬ 9223372036854775807 < T.t.length + 6 + dq.length + 1 + nmi.length + 1 + lf.length := by omega
    clear g0 gd gl gn'
    clear d0 d1 d2 d3 d4
    have HS0 := Vx.hid (HCE.out _ _ HI0.out)
    refine Vx.wp_region_last (S := (fun wv => wv.cell? ⟨xb, 0, none⟩ = some (.string ⟨T.t.toArray⟩) ∧ wv.cell? ⟨cb, 1, none⟩ = some (.int .i64 (pb : Int)) ∧ wv.cell? ⟨xb, 10, none⟩ = some (.slice (some ⟨gn, 0, none⟩) nn cn) ∧ wv.cell? ⟨gn, ci, none⟩ = some (.string ⟨nmi.toArray⟩) ∧ wv.cell? ⟨ob, 3, none⟩ = some (.int .i64 o.c))) 27 (by kernel_rfl) (by simp only [List.getElem?_toArray, List.getElem?_cons_zero, List.getElem?_cons_succ]; rfl) (by kernel_rfl) ?_
    simp only [Vx.offA, Vx.offO, List.setIfInBounds_toArray, List.set_cons_zero, List.set_cons_succ, List.size_toArray, List.length_cons, List.length_nil, Nat.zero_add, Nat.reduceAdd]
    refine wpAnyH_take (i := 0) (v := ?v5_0) (by simp only [List.getElem?_toArray, List.getElem?_cons_zero, List.getElem?_cons_succ]; rfl) (by kernel_rfl) (by kernel_rfl) (by kernel_rfl) (by exact fun _ _ _ h => h) (Or.inl ⟨by rfl, ?hy5_0⟩) HS0.out ?_
    case hy5_0 => (intro wq hSw; (try dsimp only at hSw); go_simp; try (with_reducible rfl))
    try simp only [Act.put, List.setIfInBounds_toArray, List.set_cons_zero, List.set_cons_succ]
    refine wpAnyH_take (i := 1) (v := ?v5_1) (by simp only [List.getElem?_toArray, List.getElem?_cons_zero, List.getElem?_cons_succ]; rfl) (by kernel_rfl) (by kernel_rfl) (by kernel_rfl) (by exact fun _ _ _ h => h) (Or.inl ⟨by rfl, ?hy5_1⟩) HS0.out ?_
    case hy5_1 => (intro wq hSw; (try dsimp only at hSw); go_simp; try (with_reducible rfl))
    try simp only [Act.put, List.setIfInBounds_toArray, List.set_cons_zero, List.set_cons_succ]
    refine wpAnyH_take (i := 2) (v := ?v5_2) (by simp only [List.getElem?_toArray, List.getElem?_cons_zero, List.getElem?_cons_succ]; rfl) (by kernel_rfl) (by kernel_rfl) (by kernel_rfl) (by exact fun _ _ _ h => h) (Or.inl ⟨by rfl, ?hy5_2⟩) HS0.out ?_
    case hy5_2 => (intro wq hSw; (try dsimp only at hSw); go_simp; try (with_reducible rfl))
    try simp only [Act.put, List.setIfInBounds_toArray, List.set_cons_zero, List.set_cons_succ]
    refine wpAnyH_take (i := 3) (v := ?v5_3) (by simp only [List.getElem?_toArray, List.getElem?_cons_zero, List.getElem?_cons_succ]; rfl) (by kernel_rfl) (by kernel_rfl) (by kernel_rfl) (by exact fun _ _ _ h => h) (Or.inl ⟨by rfl, ?hy5_3⟩) HS0.out ?_
    case hy5_3 => (intro wq hSw; (try dsimp only at hSw); go_simp; try (with_reducible rfl))
    try simp only [Act.put, List.setIfInBounds_toArray, List.set_cons_zero, List.set_cons_succ]
    refine wpAnyH_take (i := 4) (v := ?v5_4) (by simp only [List.getElem?_toArray, List.getElem?_cons_zero, List.getElem?_cons_succ]; rfl) (by kernel_rfl) (by kernel_rfl) (by kernel_rfl) (by exact fun _ _ _ h => h) (Or.inl ⟨by rfl, ?hy5_4⟩) HS0.out ?_
    case hy5_4 => (intro wq hSw; (try dsimp only at hSw); go_simp; try (with_reducible rfl))
    try simp only [Act.put, List.setIfInBounds_toArray, List.set_cons_zero, List.set_cons_succ]
    refine wpAnyH_take (i := 5) (v := ?v5_5) (by simp only [List.getElem?_toArray, List.getElem?_cons_zero, List.getElem?_cons_succ]; rfl) (by kernel_rfl) (by kernel_rfl) (by kernel_rfl) (by exact fun _ _ _ h => h) (Or.inl ⟨by rfl, ?hy5_5⟩) HS0.out ?_
    case hy5_5 => (intro wq hSw; (try dsimp only at hSw); go_simp; try (with_reducible rfl))
    try simp only [Act.put, List.setIfInBounds_toArray, List.set_cons_zero, List.set_cons_succ]
    refine wpAnyH_take (i := 6) (v := ?v5_6) (by simp only [List.getElem?_toArray, List.getElem?_cons_zero, List.getElem?_cons_succ]; rfl) (by kernel_rfl) (by kernel_rfl) (by kernel_rfl) (by exact fun _ _ _ h => h) (Or.inl ⟨by rfl, ?hy5_6⟩) HS0.out ?_
    case hy5_6 => (intro wq hSw; (try dsimp only at hSw); go_simp; try (with_reducible rfl))
    try simp only [Act.put, List.setIfInBounds_toArray, List.set_cons_zero, List.set_cons_succ]
    refine wpAnyH_take (i := 7) (v := ?v5_7) (by simp only [List.getElem?_toArray, List.getElem?_cons_zero, List.getElem?_cons_succ]; rfl) (by kernel_rfl) (by kernel_rfl) (by kernel_rfl) (by exact fun _ _ _ h => h) (Or.inl ⟨by rfl, ?hy5_7⟩) HS0.out ?_
    case hy5_7 => (intro wq hSw; (try dsimp only at hSw); go_simp; try (with_reducible rfl))
    try simp only [Act.put, List.setIfInBounds_toArray, List.set_cons_zero, List.set_cons_succ]
    refine wpAnyH_take (i := 8) (v := ?v5_8) (by simp only [List.getElem?_toArray, List.getElem?_cons_zero, List.getElem?_cons_succ]; rfl) (by kernel_rfl) (by kernel_rfl) (by kernel_rfl) (by exact fun _ _ _ h => h) (Or.inl ⟨by rfl, ?hy5_8⟩) HS0.out ?_
    case hy5_8 => (intro wq hSw; (try dsimp only at hSw); go_simp; try (with_reducible rfl))
    try simp only [Act.put, List.setIfInBounds_toArray, List.set_cons_zero, List.set_cons_succ]
    refine wpAnyH_take (i := 12) (v := ?v5_12) (by simp only [List.getElem?_toArray, List.getElem?_cons_zero, List.getElem?_cons_succ]; rfl) (by kernel_rfl) (by kernel_rfl) (by kernel_rfl) (by exact fun _ _ _ h => h) (Or.inl ⟨by rfl, ?hy5_12⟩) HS0.out ?_
    case hy5_12 => (intro wq hSw; (try dsimp only at hSw); go_simp; try (with_reducible rfl))
    try simp only [Act.put, List.setIfInBounds_toArray, List.set_cons_zero, List.set_cons_succ]
    refine wpAnyH_take (i := 13) (v := ?v5_13) (by simp only [List.getElem?_toArray, List.getElem?_cons_zero, List.getElem?_cons_succ]; rfl) (by kernel_rfl) (by kernel_rfl) (by kernel_rfl) (by exact fun _ _ _ h => h) (Or.inl ⟨by rfl, ?hy5_13⟩) HS0.out ?_
    case hy5_13 => (intro wq hSw; (try dsimp only at hSw); go_simp; try (with_reducible rfl))
    try simp only [Act.put, List.setIfInBounds_toArray, List.set_cons_zero, List.set_cons_succ]
    refine wpAnyH_take (i := 14) (v := ?v5_14) (by simp only [List.getElem?_toArray, List.getElem?_cons_zero, List.getElem?_cons_succ]; rfl) (by kernel_rfl) (by kernel_rfl) (by kernel_rfl) (by exact fun _ _ _ h => h) (Or.inl ⟨by rfl, ?hy5_14⟩) HS0.out ?_
    case hy5_14 => (intro wq hSw; (try dsimp only at hSw); go_simp; try (with_reducible rfl))
    try simp only [Act.put, List.setIfInBounds_toArray, List.set_cons_zero, List.set_cons_succ]
    refine wpAnyH_take (i := 15) (v := ?v5_15) (by simp only [List.getElem?_toArray, List.getElem?_cons_zero, List.getElem?_cons_succ]; rfl) (by kernel_rfl) (by kernel_rfl) (by kernel_rfl) (by exact fun _ _ _ h => h) (Or.inl ⟨by rfl, ?hy5_15⟩) HS0.out ?_
    case hy5_15 => (intro wq hSw; (try dsimp only at hSw); go_simp; try (with_reducible rfl))
    try simp only [Act.put, List.setIfInBounds_toArray, List.set_cons_zero, List.set_cons_succ]
    refine wpAnyH_take (i := 16) (v := ?v5_16) (by simp only [List.getElem?_toArray, List.getElem?_cons_zero, List.getElem?_cons_succ]; rfl) (by kernel_rfl) (by kernel_rfl) (by kernel_rfl) (by exact fun _ _ _ h => h) (Or.inl ⟨by rfl, ?hy5_16⟩) HS0.out ?_
    case hy5_16 => (intro wq hSw; (try dsimp only at hSw); go_simp; try (with_reducible rfl))
    try simp only [Act.put, List.setIfInBounds_toArray, List.set_cons_zero, List.set_cons_succ]
    refine wpAnyH_take (i := 17) (v := ?v5_17) (by simp only [List.getElem?_toArray, List.getElem?_cons_zero, List.getElem?_cons_succ]; rfl) (by kernel_rfl) (by kernel_rfl) (by kernel_rfl) (by exact fun _ _ _ h => h) (Or.inl ⟨by rfl, ?hy5_17⟩) HS0.out ?_
    case hy5_17 => (intro wq hSw; (try dsimp only at hSw); go_simp; try (with_reducible rfl))
    try simp only [Act.put, List.setIfInBounds_toArray, List.set_cons_zero, List.set_cons_succ]
    refine wpAnyH_take (i := 18) (v := ?v5_18) (by simp only [List.getElem?_toArray, List.getElem?_cons_zero, List.getElem?_cons_succ]; rfl) (by kernel_rfl) (by kernel_rfl) (by kernel_rfl) (by exact fun _ _ _ h => h) (Or.inl ⟨by rfl, ?hy5_18⟩) HS0.out ?_
    case hy5_18 => (intro wq hSw; (try dsimp only at hSw); go_simp; try (with_reducible rfl))
    try simp only [Act.put, List.setIfInBounds_toArray, List.set_cons_zero, List.set_cons_succ]
    refine wpAnyH_take (i := 21) (v := ?v5_21) (by simp only [List.getElem?_toArray, List.getElem?_cons_zero, List.getElem?_cons_succ]; rfl) (by kernel_rfl) (by kernel_rfl) (by kernel_rfl) (by exact fun _ _ _ h => h) (Or.inl ⟨by rfl, ?hy5_21⟩) HS0.out ?_
    case hy5_21 => (intro wq hSw; (try dsimp only at hSw); go_simp; try (with_reducible rfl))
    try simp only [Act.put, List.setIfInBounds_toArray, List.set_cons_zero, List.set_cons_succ]
    refine wpAnyH_take (i := 22) (v := ?v5_22) (by simp only [List.getElem?_toArray, List.getElem?_cons_zero, List.getElem?_cons_succ]; rfl) (by kernel_rfl) (by kernel_rfl) (by kernel_rfl) (by exact fun _ _ _ h => h) (Or.inl ⟨by rfl, ?hy5_22⟩) HS0.out ?_
    case hy5_22 => (intro wq hSw; (try dsimp only at hSw); go_simp; try (with_reducible rfl))
    try simp only [Act.put, List.setIfInBounds_toArray, List.set_cons_zero, List.set_cons_succ]
    refine wpAnyH_ready (rs := [9]) (by kernel_rfl) (by simp) ?_
    refine AllReadyH.cons (by simp only [List.getElem?_toArray, List.getElem?_cons_zero, List.getElem?_cons_succ]; rfl) (fun K hK => ?_) AllReadyH.nil
    refine Vx.step_callx rfl 22 #[Operand.tmp 45] #[3] rfl #[.int .i64 (pb : Int)] (by first | rfl | simp [Act.eval, go_sem]) (by simp [go_sem]) (HDG.out _) ?_
    rintro e w4 ⟨rfl, hb4⟩
    have HI1 := Vx.hid (HI0.out.quiet (Only.of_below hb4 (fun k hk h9 => by omega)))
    clear hb4
    have HS1 := Vx.hid (HCE.out _ _ HI1.out)
    refine ⟨_, rfl, ?_⟩
    refine hK.out _ _ HS1.out (fun _ => ?_)
    clear hK K
    try simp only [Act.put, List.setIfInBounds_toArray, List.set_cons_zero, List.set_cons_succ]
    refine wpAnyH_take (i := 10) (v := ?v5_10) (by simp only [List.getElem?_toArray, List.getElem?_cons_zero, List.getElem?_cons_succ]; rfl) (by kernel_rfl) (by kernel_rfl) (by kernel_rfl) (by exact fun _ _ _ h => h) (Or.inl ⟨by rfl, ?hy5_10⟩) HS1.out ?_
    case hy5_10 => (intro wq hSw; (try dsimp only at hSw); go_simp; try (with_reducible rfl))
    try simp only [Act.put, List.setIfInBounds_toArray, List.set_cons_zero, List.set_cons_succ]
    refine wpAnyH_take (i := 11) (v := ?v5_11) (by simp only [List.getElem?_toArray, List.getElem?_cons_zero, List.getElem?_cons_succ]; rfl) (by kernel_rfl) (by kernel_rfl) (by kernel_rfl) (by exact fun _ _ _ h => h) (Or.inl ⟨by rfl, ?hy5_11⟩) HS1.out ?_
    case hy5_11 => (intro wq hSw; (try dsimp only at hSw); go_simp; try (with_reducible rfl))
    try simp only [Act.put, List.setIfInBounds_toArray, List.set_cons_zero, List.set_cons_succ]
    refine wpAnyH_take (i := 19) (v := ?v5_19) (by simp only [List.getElem?_toArray, List.getElem?_cons_zero, List.getElem?_cons_succ]; rfl) (by kernel_rfl) (by kernel_rfl) (by kernel_rfl) (by exact fun _ _ _ h => h) (Or.inl ⟨by rfl, ?hy5_19⟩) HS1.out ?_
    case hy5_19 => (intro wq hSw; (try dsimp only at hSw); go_simp; try (with_reducible rfl))
    try simp only [Act.put, List.setIfInBounds_toArray, List.set_cons_zero, List.set_cons_succ]
    refine wpAnyH_take (i := 20) (v := ?v5_20) (by simp only [List.getElem?_toArray, List.getElem?_cons_zero, List.getElem?_cons_succ]; rfl) (by kernel_rfl) (by kernel_rfl) (by kernel_rfl) (by exact fun _ _ _ h => h) (Or.inl ⟨by rfl, ?hy5_20⟩) HS1.out ?_
    case hy5_20 => (intro wq hSw; (try dsimp only at hSw); go_simp; try (with_reducible rfl))
    try simp only [Act.put, List.setIfInBounds_toArray, List.set_cons_zero, List.set_cons_succ]
    refine wpAnyH_ready (rs := [23]) (by kernel_rfl) (by simp) ?_
    refine AllReadyH.cons (by simp only [List.getElem?_toArray, List.getElem?_cons_zero, List.getElem?_cons_succ]; rfl) (fun K hK => ?_) AllReadyH.nil
    refine Vx.step_callx rfl 23 #[Operand.tmp 59] #[3] rfl #[.int .i64 o.c] (by first | rfl | simp [Act.eval, go_sem]) (by simp [go_sem]) (HLE.out _) ?_
    rintro e w5 ⟨rfl, hb5⟩
    have HI2 := Vx.hid (HI1.out.quiet hb5)
    clear hb5
    have HS2 := Vx.hid (HCE.out _ _ HI2.out)
    refine ⟨_, rfl, ?_⟩
    refine hK.out _ _ HS2.out (fun _ => ?_)
    clear hK K
    try simp only [Act.put, List.setIfInBounds_toArray, List.set_cons_zero, List.set_cons_succ]
    refine wpAnyH_take (i := 24) (v := ?v5_24) (by simp only [List.getElem?_toArray, List.getElem?_cons_zero, List.getElem?_cons_succ]; rfl) (by kernel_rfl) (by kernel_rfl) (by kernel_rfl) (by exact fun _ _ _ h => h) (Or.inl ⟨by rfl, ?hy5_24⟩) HS2.out ?_
    case hy5_24 => (intro wq hSw; (try dsimp only at hSw); go_simp; try (with_reducible rfl))
    try simp only [Act.put, List.setIfInBounds_toArray, List.set_cons_zero, List.set_cons_succ]
    refine wpAnyH_take (i := 25) (v := ?v5_25) (by simp only [List.getElem?_toArray, List.getElem?_cons_zero, List.getElem?_cons_succ]; rfl) (by kernel_rfl) (by kernel_rfl) (by kernel_rfl) (by exact fun _ _ _ h => h) (Or.inl ⟨by rfl, ?hy5_25⟩) HS2.out ?_
    case hy5_25 => (intro wq hSw; (try dsimp only at hSw); go_simp; try (with_reducible rfl))
    try simp only [Act.put, List.setIfInBounds_toArray, List.set_cons_zero, List.set_cons_succ]
    refine wpAnyH_take (i := 26) (v := ?v5_26) (by simp only [List.getElem?_toArray, List.getElem?_cons_zero, List.getElem?_cons_succ]; rfl) (by kernel_rfl) (by kernel_rfl) (by kernel_rfl) (by exact fun _ _ _ h => h) (Or.inl ⟨by rfl, ?hy5_26⟩) HS2.out ?_
    case hy5_26 => (intro wq hSw; (try dsimp only at hSw); go_simp; try (with_reducible rfl))
    try simp only [Act.put, List.setIfInBounds_toArray, List.set_cons_zero, List.set_cons_succ]
    refine wpAnyH_take (i := 27) (v := undef) (by simp only [List.getElem?_toArray, List.getElem?_cons_zero, List.getElem?_cons_succ]; rfl) (by kernel_rfl) (by kernel_rfl) (by kernel_rfl) (by exact fun _ _ _ h => h) (Or.inr ⟨by rfl, rfl⟩) HS2.out ?_
    refine wpAnyH_done (by kernel_rfl) ?_ _
    simp only [Vx.upTo]
    have d0 := HS2.out.1
    have f0 := froz HI2.out.h.row 0
    have HFIN : Hid (Hid (CpI W (w5.setCell ⟨xb, 0, none⟩ (.string ((⟨T.t.toArray⟩ : ByteArray) ++ ⟨#[99, 97, 112, 32, 98, 32]⟩ ++ ⟨dq.toArray⟩ ++ ⟨#[32]⟩ ++ ⟨nmi.toArray⟩ ++ ⟨#[9]⟩ ++ ⟨lf.toArray⟩))) xb vt vo vc vm vh vi (.slice (some ⟨gn, 0, none⟩) nn cn) (.slice (some ⟨ga, 0, none⟩) nn ca) T ob cb o (T.t ++ ([99, 97, 112, 32, 98, 32] ++ (dq ++ 32 :: (nmi ++ 9 :: lf)))) ⟨(9, (pb : Int)), ⟨k1, n1, (pc : Int), 0, 0, 0, 0, 0⟩, (-1, -1)⟩)) := by
      have e : (⟨T.t.toArray⟩ : ByteArray) ++ ⟨#[99, 97, 112, 32, 98, 32]⟩ ++ ⟨dq.toArray⟩ ++ ⟨#[32]⟩ ++ ⟨nmi.toArray⟩ ++ ⟨#[9]⟩ ++ ⟨lf.toArray⟩ = ⟨(T.t ++ ([99, 97, 112, 32, 98, 32] ++ (dq ++ 32 :: (nmi ++ 9 :: lf)))).toArray⟩ := by
        simp only [catB, List.append_assoc, List.cons_append, List.nil_append]
      rw [e]
      exact HI2.out.text _
    clear HS0 HS1 HS2 HI0 HI1
    go_wp2_with fail
    go_meet
    case rel => exact HFIN.out
  case rest =>
    have HC0 := hcut
    clear hcut HI3 HCE HCA HDG HLE HP1 HP2 HP3 HDL HLL
    have HT0 : Hid (T.t ++ capL T o = T.t ++ ([99, 97, 112, 32, 98, 32] ++ (Lib.decDigits pb ++ 32 :: (nmi ++ 9 :: letF pc))) ++ frmL o ++ bdgL o ++ grdL o) := by
      show _ = _
      rw [HEQ.out.2]
      simp
    have hl0 : (T.t ++ ([99, 97, 112, 32, 98, 32] ++ (Lib.decDigits pb ++ 32 :: (nmi ++ 9 :: letF pc)))).length ≤ 1000100 := by
      have h1 := HLN.out.2
      have h2 := dec_len pb (by have := HPB.out; omega)
      have h3 := HNI.out
      have h4 := let_len pc
      simp
      omega
    obtain ⟨t0, ht0⟩ : ∃ t0, t0 = T.t ++ ([99, 97, 112, 32, 98, 32] ++ (Lib.decDigits pb ++ 32 :: (nmi ++ 9 :: letF pc))) := ⟨_, rfl⟩
    rw [← ht0] at HC0 HT0 hl0
    have HL0 := Vx.hid hl0
    clear ht0 hl0
    obtain ⟨fr, hfr⟩ : ∃ fr : Sl, fr = if evB o.a then (11, 3) else (-1, -1) := ⟨_, rfl⟩
    have HFR := Vx.hid hfr
    clear hfr
    have a1 := (cell_of_row _ _ 1 _ _ (0, 0) HC0.out.te).trans rfl
    go_upto_if 67 with fail
    go_cut [] from 6 (fun wx => Hid (CpI W wx xb vt vo vc vm vh vi (.slice (some ⟨gn, 0, none⟩) nn cn) (.slice (some ⟨ga, 0, none⟩) nn ca) T ob cb o (t0 ++ frmL o) ⟨(9, (pb : Int)), ⟨k1, n1, (pc : Int), 0, 0, 0, 0, 0⟩, fr⟩))
    case first =>
      by_cases hev : evB o.a = true
      · have e1 : (Int.tmod o.a 2 == 0) = true := by unfold evB at hev; simpa using hev
        have HF2 : Hid (fr = (11, 3) ∧ frmL o = [32, 102, 114, 111, 109, 32, 116, 32, 51]) := ⟨by rw [HFR.out, if_pos hev], by unfold frmL; rw [if_pos hev]⟩
        obtain ⟨wd, hwd⟩ : ∃ wd, wd = (wc.setCell ⟨cb, 10, none⟩ (.int .i64 11)).setCell ⟨cb, 11, none⟩ (.int .i64 3) := ⟨_, rfl⟩
        have HC1 : Hid (CpI W wd xb vt vo vc vm vh vi (.slice (some ⟨gn, 0, none⟩) nn cn) (.slice (some ⟨ga, 0, none⟩) nn ca) T ob cb o t0 ⟨(9, (pb : Int)), ⟨k1, n1, (pc : Int), 0, 0, 0, 0, 0⟩, (11, 3)⟩) := by rw [hwd]; exact HC0.out.put (only2 _ _ _ _ _ _) (HC0.out.cp.from 11 3)
        have b0 : wc.cell? ⟨cb, 10, none⟩ = some (.int .i64 (-1)) := (cell_of_row _ _ 10 _ _ (0, 0) HC0.out.cp).trans rfl
        have b1 : wc.cell? ⟨cb, 11, none⟩ = some (.int .i64 (-1)) := (cell_of_row _ _ 11 _ _ (0, 0) HC0.out.cp).trans rfl
        have g1 := froz HC0.out.cp 11
        have g0 := froz HC0.out.cp 10
        go_upto_region 8 with fail
        rw [← hwd]
        have c0 := (cell_of_row _ _ 0 _ _ (0, 0) HC1.out.h.row).trans rfl
        have f0 := froz HC1.out.h.row 0
        have hl := HL0.out
        clear hwd b0 b1 g0 g1 HC0
        go_wp2_with fail
        go_meet
        case rel =>
          have e : (⟨t0.toArray⟩ : ByteArray) ++ ⟨#[32, 102, 114, 111, 109, 32, 116, 32, 51]⟩ = ⟨(t0 ++ [32, 102, 114, 111, 109, 32, 116, 32, 51]).toArray⟩ := catB _ _
          rw [e, HF2.out.1, HF2.out.2]
          exact HC1.out.text _
      · have hev2 : evB o.a = false := by simpa using hev
        have e1 : (Int.tmod o.a 2 == 0) = false := by unfold evB at hev2; simpa using hev2
        have HF2 : Hid (fr = (-1, -1) ∧ frmL o = []) := ⟨by rw [HFR.out, if_neg hev], by unfold frmL; rw [if_neg hev]⟩
        go_wp2_with fail
        go_meet
        case rel =>
          rw [HF2.out.1, HF2.out.2, List.append_nil]
          exact HC0.out
    case rest =>
      have HC1 := hcut
      clear hcut HC0 a1
      have hl1 : (t0 ++ frmL o).length ≤ 1000110 := by
        have h1 := HL0.out
        unfold frmL
        split <;> simp <;> omega
      obtain ⟨t1, ht1⟩ : ∃ t1, t1 = t0 ++ frmL o := ⟨_, rfl⟩
      rw [← ht1] at HC1 HT0 hl1
      have HL1 := Vx.hid hl1
      clear ht1 hl1 HL0
      have HPQ := Vx.hid (pick_lt o.c 4294967296 (by decide))
      have HPG := Vx.hid (pick_lt o.a 40 (by decide))
      obtain ⟨pq, hpq⟩ : ∃ pq, pq = pickL o.c 4294967296 := ⟨_, rfl⟩
      obtain ⟨pg, hpg⟩ : ∃ pg, pg = pickL o.a 40 := ⟨_, rfl⟩
      rw [← hpq] at HP4 HPQ
      rw [← hpg] at HP5 HPG
      obtain ⟨bd, hbd⟩ : ∃ bd : Int, bd = if evB o.b then (pq : Int) else 0 := ⟨_, rfl⟩
      obtain ⟨gu, hgu⟩ : ∃ gu : Int, gu = if thB o.b then 7 else 0 := ⟨_, rfl⟩
      obtain ⟨gb, hgb⟩ : ∃ gb : Int, gb = if thB o.b then (pg : Int) else 0 := ⟨_, rfl⟩
      have HCT : Hid (capT T o = ⟨(9, (pb : Int)), ⟨k1, n1, (pc : Int), bd, gu, gb, 0, 0⟩, fr⟩) := by
        have h1 : capT T o = { capE T o with cap := { (capE T o).cap with badge := bd, guard := gu, gbits := gb }, from' := fr } := by
          rw [hbd, hgu, hgb, HFR.out, hpq, hpg]; rfl
        show _ = _
        rw [h1, HEQ.out.1]
      have HBL : Hid (bdgL o = if evB o.b then [32, 98, 97, 100, 103, 101, 32] ++ Lib.decDigits pq else []) := by show _ = _; unfold bdgL; rw [hpq]; rfl
      have HGL : Hid (grdL o = if thB o.b then [32, 103, 117, 97, 114, 100, 32, 48, 120, 55, 32] ++ Lib.decDigits pg else []) := by show _ = _; unfold grdL; rw [hpg]
      have HBD := Vx.hid hbd
      have HGU := Vx.hid hgu
      have HGB := Vx.hid hgb
      clear hbd hgu hgb hpq hpg HFR HEQ
      have a2 : wc.cell? ⟨ob, 2, none⟩ = some (.int .i64 o.b) := (cell_of_row _ _ 2 _ _ (0, 0) HC1.out.te).trans rfl
      go_upto_if 81 with fail
      go_cut [] from 6 (fun wx => Hid (CpI W wx xb vt vo vc vm vh vi (.slice (some ⟨gn, 0, none⟩) nn cn) (.slice (some ⟨ga, 0, none⟩) nn ca) T ob cb o (t1 ++ bdgL o) ⟨(9, (pb : Int)), ⟨k1, n1, (pc : Int), bd, 0, 0, 0, 0⟩, fr⟩))
      case first =>
        by_cases hev : evB o.b = true
        · have e1 : (Int.tmod o.b 2 == 0) = true := by unfold evB at hev; simpa using hev
          have HF2 : Hid (bd = (pq : Int) ∧ bdgL o = [32, 98, 97, 100, 103, 101, 32] ++ Lib.decDigits pq) := ⟨by rw [HBD.out, if_pos hev], by rw [HBL.out, if_pos hev]⟩
          obtain ⟨wd, hwd⟩ : ∃ wd, wd = wc.setCell ⟨cb, 5, none⟩ (.int .u32 (pq : Int)) := ⟨_, rfl⟩
          have HC2 : Hid (CpI W wd xb vt vo vc vm vh vi (.slice (some ⟨gn, 0, none⟩) nn cn) (.slice (some ⟨ga, 0, none⟩) nn ca) T ob cb o t1 ⟨(9, (pb : Int)), ⟨k1, n1, (pc : Int), (pq : Int), 0, 0, 0, 0⟩, fr⟩) := by rw [hwd]; exact HC1.out.put (only1 _ _ _ _) (HC1.out.cp.badge (pq : Int))
          have b0 : wc.cell? ⟨cb, 5, none⟩ = some (.int .u32 0) := (cell_of_row _ _ 5 _ _ (0, 0) HC1.out.cp).trans rfl
          have g0 := froz HC1.out.cp 5
          have a3 : wc.cell? ⟨ob, 3, none⟩ = some (.int .i64 o.c) := (cell_of_row _ _ 3 _ _ (0, 0) HC1.out.te).trans rfl
          have hq := HPQ.out
          have hwr : IntKind.u32.wrap (pq : Int) = (pq : Int) := by rw [IntKind.wrap_u32]; omega
          have hwi : IntKind.i64.wrap (pq : Int) = (pq : Int) := by rw [IntKind.wrap_i64]; omega
          go_upto_region 11 with (go_at_call 19; refine (HP4.out _).mono ?_; rintro e w9 ⟨rfl, hw9⟩; have hw8 := hw9.symm; clear hw9; subst hw8)
          rw [← hwd]
          clear hwd b0 g0 a3 HC1 a2 hq
          have HDG := Vx.hid (fun wv => decimal_ok pq (by have := HPQ.out; omega) wv)
          have gd := dec_len pq (by have := HPQ.out; omega)
          have gl := HL1.out
          generalize Lib.decDigits pq = dq at *
          have HCE : Hid (∀ wv, CpI W wv xb vt vo vc vm vh vi (.slice (some ⟨gn, 0, none⟩) nn cn) (.slice (some ⟨ga, 0, none⟩) nn ca) T ob cb o t1 ⟨(9, (pb : Int)), ⟨k1, n1, (pc : Int), (pq : Int), 0, 0, 0, 0⟩, fr⟩ → wv.cell? ⟨xb, 0, none⟩ = some (.string ⟨t1.toArray⟩) ∧ wv.cell? ⟨cb, 5, none⟩ = some (.int .u32 (pq : Int))) := fun wv hv => ⟨(cell_of_row _ _ 0 _ _ (0, 0) hv.h.row).trans rfl, (cell_of_row _ _ 5 _ _ (0, 0) hv.cp).trans rfl⟩
          have HI0 := Vx.hid (HC2.out.quiet ((Only.refl _ wd).drew))
          have HS0 := Vx.hid (HCE.out _ HI0.out)
          have y1 : ¬ 9223372036854775807 < t1.length + 7 := by omega
          have y2 : ¬ 9223372036854775807 < t1.length + 7 + dq.length := by omega
          refine Vx.wp_region_last (S := (fun wv => wv.cell? ⟨xb, 0, none⟩ = some (.string ⟨t1.toArray⟩) ∧ wv.cell? ⟨cb, 5, none⟩ = some (.int .u32 (pq : Int)))) 14 (by kernel_rfl) (by simp only [List.getElem?_toArray, List.getElem?_cons_zero, List.getElem?_cons_succ]; rfl) (by kernel_rfl) ?_
          simp only [Vx.offA, Vx.offO, List.setIfInBounds_toArray, List.set_cons_zero, List.set_cons_succ, List.size_toArray, List.length_cons, List.length_nil, Nat.zero_add, Nat.reduceAdd]
          refine wpAnyH_take (i := 0) (v := ?v11_0) (by simp only [List.getElem?_toArray, List.getElem?_cons_zero, List.getElem?_cons_succ]; rfl) (by kernel_rfl) (by kernel_rfl) (by kernel_rfl) (by exact fun _ _ _ h => h) (Or.inl ⟨by rfl, ?hy11_0⟩) HS0.out ?_
          case hy11_0 => (intro wq hSw; (try dsimp only at hSw); go_simp; try (with_reducible rfl))
          try simp only [Act.put, List.setIfInBounds_toArray, List.set_cons_zero, List.set_cons_succ]
          refine wpAnyH_take (i := 1) (v := ?v11_1) (by simp only [List.getElem?_toArray, List.getElem?_cons_zero, List.getElem?_cons_succ]; rfl) (by kernel_rfl) (by kernel_rfl) (by kernel_rfl) (by exact fun _ _ _ h => h) (Or.inl ⟨by rfl, ?hy11_1⟩) HS0.out ?_
          case hy11_1 => (intro wq hSw; (try dsimp only at hSw); go_simp; try (with_reducible rfl))
          try simp only [Act.put, List.setIfInBounds_toArray, List.set_cons_zero, List.set_cons_succ]
          refine wpAnyH_take (i := 2) (v := ?v11_2) (by simp only [List.getElem?_toArray, List.getElem?_cons_zero, List.getElem?_cons_succ]; rfl) (by kernel_rfl) (by kernel_rfl) (by kernel_rfl) (by exact fun _ _ _ h => h) (Or.inl ⟨by rfl, ?hy11_2⟩) HS0.out ?_
          case hy11_2 => (intro wq hSw; (try dsimp only at hSw); go_simp; try (with_reducible rfl))
          try simp only [Act.put, List.setIfInBounds_toArray, List.set_cons_zero, List.set_cons_succ]
          refine wpAnyH_take (i := 3) (v := ?v11_3) (by simp only [List.getElem?_toArray, List.getElem?_cons_zero, List.getElem?_cons_succ]; rfl) (by kernel_rfl) (by kernel_rfl) (by kernel_rfl) (by exact fun _ _ _ h => h) (Or.inl ⟨by rfl, ?hy11_3⟩) HS0.out ?_
          case hy11_3 => (intro wq hSw; (try dsimp only at hSw); go_simp; try (with_reducible rfl))
          try simp only [Act.put, List.setIfInBounds_toArray, List.set_cons_zero, List.set_cons_succ]
          refine wpAnyH_take (i := 4) (v := ?v11_4) (by simp only [List.getElem?_toArray, List.getElem?_cons_zero, List.getElem?_cons_succ]; rfl) (by kernel_rfl) (by kernel_rfl) (by kernel_rfl) (by exact fun _ _ _ h => h) (Or.inl ⟨by rfl, ?hy11_4⟩) HS0.out ?_
          case hy11_4 => (intro wq hSw; (try dsimp only at hSw); go_simp; try (with_reducible rfl))
          try simp only [Act.put, List.setIfInBounds_toArray, List.set_cons_zero, List.set_cons_succ]
          refine wpAnyH_take (i := 5) (v := ?v11_5) (by simp only [List.getElem?_toArray, List.getElem?_cons_zero, List.getElem?_cons_succ]; rfl) (by kernel_rfl) (by kernel_rfl) (by kernel_rfl) (by exact fun _ _ _ h => h) (Or.inl ⟨by rfl, ?hy11_5⟩) HS0.out ?_
          case hy11_5 => (intro wq hSw; (try dsimp only at hSw); go_simp; try (with_reducible rfl))
          try simp only [Act.put, List.setIfInBounds_toArray, List.set_cons_zero, List.set_cons_succ]
          refine wpAnyH_take (i := 6) (v := ?v11_6) (by simp only [List.getElem?_toArray, List.getElem?_cons_zero, List.getElem?_cons_succ]; rfl) (by kernel_rfl) (by kernel_rfl) (by kernel_rfl) (by exact fun _ _ _ h => h) (Or.inl ⟨by rfl, ?hy11_6⟩) HS0.out ?_
          case hy11_6 => (intro wq hSw; (try dsimp only at hSw); go_simp; try (with_reducible rfl))
          try simp only [Act.put, List.setIfInBounds_toArray, List.set_cons_zero, List.set_cons_succ]
          refine wpAnyH_take (i := 7) (v := ?v11_7) (by simp only [List.getElem?_toArray, List.getElem?_cons_zero, List.getElem?_cons_succ]; rfl) (by kernel_rfl) (by kernel_rfl) (by kernel_rfl) (by exact fun _ _ _ h => h) (Or.inl ⟨by rfl, ?hy11_7⟩) HS0.out ?_
          case hy11_7 => (intro wq hSw; (try dsimp only at hSw); go_simp; try (with_reducible rfl))
          try simp only [Act.put, List.setIfInBounds_toArray, List.set_cons_zero, List.set_cons_succ]
          refine wpAnyH_take (i := 8) (v := ?v11_8) (by simp only [List.getElem?_toArray, List.getElem?_cons_zero, List.getElem?_cons_succ]; rfl) (by kernel_rfl) (by kernel_rfl) (by kernel_rfl) (by exact fun _ _ _ h => h) (Or.inl ⟨by rfl, ?hy11_8⟩) HS0.out ?_
          case hy11_8 => (intro wq hSw; (try dsimp only at hSw); go_simp; try (with_reducible rfl))
          try simp only [Act.put, List.setIfInBounds_toArray, List.set_cons_zero, List.set_cons_succ]
          refine wpAnyH_take (i := 9) (v := ?v11_9) (by simp only [List.getElem?_toArray, List.getElem?_cons_zero, List.getElem?_cons_succ]; rfl) (by kernel_rfl) (by kernel_rfl) (by kernel_rfl) (by exact fun _ _ _ h => h) (Or.inl ⟨by rfl, ?hy11_9⟩) HS0.out ?_
          case hy11_9 => (intro wq hSw; (try dsimp only at hSw); go_simp; try (with_reducible rfl))
          try simp only [Act.put, List.setIfInBounds_toArray, List.set_cons_zero, List.set_cons_succ]
          refine wpAnyH_ready (rs := [10]) (by kernel_rfl) (by simp) ?_
          refine AllReadyH.cons (by simp only [List.getElem?_toArray, List.getElem?_cons_zero, List.getElem?_cons_succ]; rfl) (fun K hK => ?_) AllReadyH.nil
          refine Vx.step_callx rfl 22 #[Operand.tmp 97] #[3] rfl #[.int .i64 (pq : Int)] (by first | rfl | simp [Act.eval, go_sem]) (by simp [go_sem]) (HDG.out _) ?_
          rintro e w4 ⟨rfl, hb4⟩
          have HI1 := Vx.hid (HI0.out.quiet (Only.of_below hb4 (fun k hk h9 => by omega)))
          clear hb4
          have HS1 := Vx.hid (HCE.out _ HI1.out)
          refine ⟨_, rfl, ?_⟩
          refine hK.out _ _ HS1.out (fun _ => ?_)
          clear hK K
          try simp only [Act.put, List.setIfInBounds_toArray, List.set_cons_zero, List.set_cons_succ]
          refine wpAnyH_take (i := 11) (v := ?v11_11) (by simp only [List.getElem?_toArray, List.getElem?_cons_zero, List.getElem?_cons_succ]; rfl) (by kernel_rfl) (by kernel_rfl) (by kernel_rfl) (by exact fun _ _ _ h => h) (Or.inl ⟨by rfl, ?hy11_11⟩) HS1.out ?_
          case hy11_11 => (intro wq hSw; (try dsimp only at hSw); go_simp; try (with_reducible rfl))
          try simp only [Act.put, List.setIfInBounds_toArray, List.set_cons_zero, List.set_cons_succ]
          refine wpAnyH_take (i := 12) (v := ?v11_12) (by simp only [List.getElem?_toArray, List.getElem?_cons_zero, List.getElem?_cons_succ]; rfl) (by kernel_rfl) (by kernel_rfl) (by kernel_rfl) (by exact fun _ _ _ h => h) (Or.inl ⟨by rfl, ?hy11_12⟩) HS1.out ?_
          case hy11_12 => (intro wq hSw; (try dsimp only at hSw); go_simp; try (with_reducible rfl))
          try simp only [Act.put, List.setIfInBounds_toArray, List.set_cons_zero, List.set_cons_succ]
          refine wpAnyH_take (i := 13) (v := ?v11_13) (by simp only [List.getElem?_toArray, List.getElem?_cons_zero, List.getElem?_cons_succ]; rfl) (by kernel_rfl) (by kernel_rfl) (by kernel_rfl) (by exact fun _ _ _ h => h) (Or.inl ⟨by rfl, ?hy11_13⟩) HS1.out ?_
          case hy11_13 => (intro wq hSw; (try dsimp only at hSw); go_simp; try (with_reducible rfl))
          try simp only [Act.put, List.setIfInBounds_toArray, List.set_cons_zero, List.set_cons_succ]
          refine wpAnyH_take (i := 14) (v := undef) (by simp only [List.getElem?_toArray, List.getElem?_cons_zero, List.getElem?_cons_succ]; rfl) (by kernel_rfl) (by kernel_rfl) (by kernel_rfl) (by exact fun _ _ _ h => h) (Or.inr ⟨by rfl, rfl⟩) HS1.out ?_
          refine wpAnyH_done (by kernel_rfl) ?_ _
          simp only [Vx.upTo]
          have d0 := HS1.out.1
          have f0 := froz HI1.out.h.row 0
          clear HS0 HS1 HI0
          go_wp2_with fail
          go_meet
          case rel =>
            have e : (⟨t1.toArray⟩ : ByteArray) ++ ⟨#[32, 98, 97, 100, 103, 101, 32]⟩ ++ ⟨dq.toArray⟩ = ⟨(t1 ++ ([32, 98, 97, 100, 103, 101, 32] ++ dq)).toArray⟩ := by
              simp only [catB, List.append_assoc]
            rw [e, HF2.out.1, HF2.out.2]
            exact HI1.out.text _
        · have hev2 : evB o.b = false := by simpa using hev
          have e1 : (Int.tmod o.b 2 == 0) = false := by unfold evB at hev2; simpa using hev2
          have HF2 : Hid (bd = 0 ∧ bdgL o = []) := ⟨by rw [HBD.out, if_neg hev], by rw [HBL.out, if_neg hev]⟩
          go_wp2_with fail
          go_meet
          case rel =>
            rw [HF2.out.1, HF2.out.2, List.append_nil]
            exact HC1.out
      case rest =>
        have HC2 := hcut
        have hl2 : (t1 ++ bdgL o).length ≤ 1000150 := by
          have h1 := HL1.out
          have h2 := dec_len pq (by have := HPQ.out; omega)
          rw [HBL.out]
          split <;> simp <;> omega
        clear hcut HC1 a2
        obtain ⟨t2, ht2⟩ : ∃ t2, t2 = t1 ++ bdgL o := ⟨_, rfl⟩
        rw [← ht2] at HC2 HT0 hl2
        have HL2 := Vx.hid hl2
        clear ht2 hl2 HL1
        have a2 : wc.cell? ⟨ob, 2, none⟩ = some (.int .i64 o.b) := (cell_of_row _ _ 2 _ _ (0, 0) HC2.out.te).trans rfl
        go_upto_if 105 with fail
        go_cut [] from 6 (fun wx => Hid (CpI W wx xb vt vo vc vm vh vi (.slice (some ⟨gn, 0, none⟩) nn cn) (.slice (some ⟨ga, 0, none⟩) nn ca) T ob cb o (t2 ++ grdL o) ⟨(9, (pb : Int)), ⟨k1, n1, (pc : Int), bd, gu, gb, 0, 0⟩, fr⟩))
        case first =>
          by_cases hev : thB o.b = true
          · have e1 : (Int.tmod o.b 3 == 0) = true := by unfold thB at hev; simpa using hev
            have HF2 : Hid (gu = 7 ∧ gb = (pg : Int) ∧ grdL o = [32, 103, 117, 97, 114, 100, 32, 48, 120, 55, 32] ++ Lib.decDigits pg) := ⟨by rw [HGU.out, if_pos hev], by rw [HGB.out, if_pos hev], by rw [HGL.out, if_pos hev]⟩
            obtain ⟨wd, hwd⟩ : ∃ wd, wd = (wc.setCell ⟨cb, 7, none⟩ (.int .i64 (pg : Int))).setCell ⟨cb, 6, none⟩ (.int .u32 7) := ⟨_, rfl⟩
            have HC3 : Hid (CpI W wd xb vt vo vc vm vh vi (.slice (some ⟨gn, 0, none⟩) nn cn) (.slice (some ⟨ga, 0, none⟩) nn ca) T ob cb o t2 ⟨(9, (pb : Int)), ⟨k1, n1, (pc : Int), bd, 7, (pg : Int), 0, 0⟩, fr⟩) := by rw [hwd]; exact HC2.out.put (only2 _ _ _ _ _ _) (HC2.out.cp.guard (pg : Int) 7)
            have b0 : wc.cell? ⟨cb, 7, none⟩ = some (.int .i64 0) := (cell_of_row _ _ 7 _ _ (0, 0) HC2.out.cp).trans rfl
            have b1 : wc.cell? ⟨cb, 6, none⟩ = some (.int .u32 0) := (cell_of_row _ _ 6 _ _ (0, 0) HC2.out.cp).trans rfl
            have g0 := froz HC2.out.cp 7
            have g1 := froz HC2.out.cp 6
            have a3 : wc.cell? ⟨ob, 1, none⟩ = some (.int .i64 o.a) := (cell_of_row _ _ 1 _ _ (0, 0) HC2.out.te).trans rfl
            go_upto_region 15 with (go_at_call 19; refine (HP5.out _).mono ?_; rintro e w9 ⟨rfl, hw9⟩; have hw8 := hw9.symm; clear hw9; subst hw8)
            rw [← hwd]
            clear hwd b0 b1 g0 g1 a3 HC2 a2
            have HDG := Vx.hid (fun wv => decimal_ok pg (by have := HPG.out; omega) wv)
            have gd := dec_len pg (by have := HPG.out; omega)
            have gl := HL2.out
            generalize Lib.decDigits pg = dq at *
            have HCE : Hid (∀ wv, CpI W wv xb vt vo vc vm vh vi (.slice (some ⟨gn, 0, none⟩) nn cn) (.slice (some ⟨ga, 0, none⟩) nn ca) T ob cb o t2 ⟨(9, (pb : Int)), ⟨k1, n1, (pc : Int), bd, 7, (pg : Int), 0, 0⟩, fr⟩ → wv.cell? ⟨xb, 0, none⟩ = some (.string ⟨t2.toArray⟩) ∧ wv.cell? ⟨cb, 7, none⟩ = some (.int .i64 (pg : Int))) := fun wv hv => ⟨(cell_of_row _ _ 0 _ _ (0, 0) hv.h.row).trans rfl, (cell_of_row _ _ 7 _ _ (0, 0) hv.cp).trans rfl⟩
            have HI0 := Vx.hid (HC3.out.quiet ((Only.refl _ wd).drew))
            have HS0 := Vx.hid (HCE.out _ HI0.out)
            have y1 : ¬ 9223372036854775807 < t2.length + 11 := by omega
            have y2 : ¬ 9223372036854775807 < t2.length + 11 + dq.length := by omega
            refine Vx.wp_region_last (S := (fun wv => wv.cell? ⟨xb, 0, none⟩ = some (.string ⟨t2.toArray⟩) ∧ wv.cell? ⟨cb, 7, none⟩ = some (.int .i64 (pg : Int)))) 13 (by kernel_rfl) (by simp only [List.getElem?_toArray, List.getElem?_cons_zero, List.getElem?_cons_succ]; rfl) (by kernel_rfl) ?_
            simp only [Vx.offA, Vx.offO, List.setIfInBounds_toArray, List.set_cons_zero, List.set_cons_succ, List.size_toArray, List.length_cons, List.length_nil, Nat.zero_add, Nat.reduceAdd]
            refine wpAnyH_take (i := 0) (v := ?v15_0) (by simp only [List.getElem?_toArray, List.getElem?_cons_zero, List.getElem?_cons_succ]; rfl) (by kernel_rfl) (by kernel_rfl) (by kernel_rfl) (by exact fun _ _ _ h => h) (Or.inl ⟨by rfl, ?hy15_0⟩) HS0.out ?_
            case hy15_0 => (intro wq hSw; (try dsimp only at hSw); go_simp; try (with_reducible rfl))
            try simp only [Act.put, List.setIfInBounds_toArray, List.set_cons_zero, List.set_cons_succ]
            refine wpAnyH_take (i := 1) (v := ?v15_1) (by simp only [List.getElem?_toArray, List.getElem?_cons_zero, List.getElem?_cons_succ]; rfl) (by kernel_rfl) (by kernel_rfl) (by kernel_rfl) (by exact fun _ _ _ h => h) (Or.inl ⟨by rfl, ?hy15_1⟩) HS0.out ?_
            case hy15_1 => (intro wq hSw; (try dsimp only at hSw); go_simp; try (with_reducible rfl))
            try simp only [Act.put, List.setIfInBounds_toArray, List.set_cons_zero, List.set_cons_succ]
            refine wpAnyH_take (i := 2) (v := ?v15_2) (by simp only [List.getElem?_toArray, List.getElem?_cons_zero, List.getElem?_cons_succ]; rfl) (by kernel_rfl) (by kernel_rfl) (by kernel_rfl) (by exact fun _ _ _ h => h) (Or.inl ⟨by rfl, ?hy15_2⟩) HS0.out ?_
            case hy15_2 => (intro wq hSw; (try dsimp only at hSw); go_simp; try (with_reducible rfl))
            try simp only [Act.put, List.setIfInBounds_toArray, List.set_cons_zero, List.set_cons_succ]
            refine wpAnyH_take (i := 3) (v := ?v15_3) (by simp only [List.getElem?_toArray, List.getElem?_cons_zero, List.getElem?_cons_succ]; rfl) (by kernel_rfl) (by kernel_rfl) (by kernel_rfl) (by exact fun _ _ _ h => h) (Or.inl ⟨by rfl, ?hy15_3⟩) HS0.out ?_
            case hy15_3 => (intro wq hSw; (try dsimp only at hSw); go_simp; try (with_reducible rfl))
            try simp only [Act.put, List.setIfInBounds_toArray, List.set_cons_zero, List.set_cons_succ]
            refine wpAnyH_take (i := 4) (v := ?v15_4) (by simp only [List.getElem?_toArray, List.getElem?_cons_zero, List.getElem?_cons_succ]; rfl) (by kernel_rfl) (by kernel_rfl) (by kernel_rfl) (by exact fun _ _ _ h => h) (Or.inl ⟨by rfl, ?hy15_4⟩) HS0.out ?_
            case hy15_4 => (intro wq hSw; (try dsimp only at hSw); go_simp; try (with_reducible rfl))
            try simp only [Act.put, List.setIfInBounds_toArray, List.set_cons_zero, List.set_cons_succ]
            refine wpAnyH_take (i := 5) (v := ?v15_5) (by simp only [List.getElem?_toArray, List.getElem?_cons_zero, List.getElem?_cons_succ]; rfl) (by kernel_rfl) (by kernel_rfl) (by kernel_rfl) (by exact fun _ _ _ h => h) (Or.inl ⟨by rfl, ?hy15_5⟩) HS0.out ?_
            case hy15_5 => (intro wq hSw; (try dsimp only at hSw); go_simp; try (with_reducible rfl))
            try simp only [Act.put, List.setIfInBounds_toArray, List.set_cons_zero, List.set_cons_succ]
            refine wpAnyH_take (i := 6) (v := ?v15_6) (by simp only [List.getElem?_toArray, List.getElem?_cons_zero, List.getElem?_cons_succ]; rfl) (by kernel_rfl) (by kernel_rfl) (by kernel_rfl) (by exact fun _ _ _ h => h) (Or.inl ⟨by rfl, ?hy15_6⟩) HS0.out ?_
            case hy15_6 => (intro wq hSw; (try dsimp only at hSw); go_simp; try (with_reducible rfl))
            try simp only [Act.put, List.setIfInBounds_toArray, List.set_cons_zero, List.set_cons_succ]
            refine wpAnyH_take (i := 7) (v := ?v15_7) (by simp only [List.getElem?_toArray, List.getElem?_cons_zero, List.getElem?_cons_succ]; rfl) (by kernel_rfl) (by kernel_rfl) (by kernel_rfl) (by exact fun _ _ _ h => h) (Or.inl ⟨by rfl, ?hy15_7⟩) HS0.out ?_
            case hy15_7 => (intro wq hSw; (try dsimp only at hSw); go_simp; try (with_reducible rfl))
            try simp only [Act.put, List.setIfInBounds_toArray, List.set_cons_zero, List.set_cons_succ]
            refine wpAnyH_take (i := 8) (v := ?v15_8) (by simp only [List.getElem?_toArray, List.getElem?_cons_zero, List.getElem?_cons_succ]; rfl) (by kernel_rfl) (by kernel_rfl) (by kernel_rfl) (by exact fun _ _ _ h => h) (Or.inl ⟨by rfl, ?hy15_8⟩) HS0.out ?_
            case hy15_8 => (intro wq hSw; (try dsimp only at hSw); go_simp; try (with_reducible rfl))
            try simp only [Act.put, List.setIfInBounds_toArray, List.set_cons_zero, List.set_cons_succ]
            refine wpAnyH_ready (rs := [9]) (by kernel_rfl) (by simp) ?_
            refine AllReadyH.cons (by simp only [List.getElem?_toArray, List.getElem?_cons_zero, List.getElem?_cons_succ]; rfl) (fun K hK => ?_) AllReadyH.nil
            refine Vx.step_callx rfl 22 #[Operand.tmp 121] #[3] rfl #[.int .i64 (pg : Int)] (by first | rfl | simp [Act.eval, go_sem]) (by simp [go_sem]) (HDG.out _) ?_
            rintro e w4 ⟨rfl, hb4⟩
            have HI1 := Vx.hid (HI0.out.quiet (Only.of_below hb4 (fun k hk h9 => by omega)))
            clear hb4
            have HS1 := Vx.hid (HCE.out _ HI1.out)
            refine ⟨_, rfl, ?_⟩
            refine hK.out _ _ HS1.out (fun _ => ?_)
            clear hK K
            try simp only [Act.put, List.setIfInBounds_toArray, List.set_cons_zero, List.set_cons_succ]
            refine wpAnyH_take (i := 10) (v := ?v15_10) (by simp only [List.getElem?_toArray, List.getElem?_cons_zero, List.getElem?_cons_succ]; rfl) (by kernel_rfl) (by kernel_rfl) (by kernel_rfl) (by exact fun _ _ _ h => h) (Or.inl ⟨by rfl, ?hy15_10⟩) HS1.out ?_
            case hy15_10 => (intro wq hSw; (try dsimp only at hSw); go_simp; try (with_reducible rfl))
            try simp only [Act.put, List.setIfInBounds_toArray, List.set_cons_zero, List.set_cons_succ]
            refine wpAnyH_take (i := 11) (v := ?v15_11) (by simp only [List.getElem?_toArray, List.getElem?_cons_zero, List.getElem?_cons_succ]; rfl) (by kernel_rfl) (by kernel_rfl) (by kernel_rfl) (by exact fun _ _ _ h => h) (Or.inl ⟨by rfl, ?hy15_11⟩) HS1.out ?_
            case hy15_11 => (intro wq hSw; (try dsimp only at hSw); go_simp; try (with_reducible rfl))
            try simp only [Act.put, List.setIfInBounds_toArray, List.set_cons_zero, List.set_cons_succ]
            refine wpAnyH_take (i := 12) (v := ?v15_12) (by simp only [List.getElem?_toArray, List.getElem?_cons_zero, List.getElem?_cons_succ]; rfl) (by kernel_rfl) (by kernel_rfl) (by kernel_rfl) (by exact fun _ _ _ h => h) (Or.inl ⟨by rfl, ?hy15_12⟩) HS1.out ?_
            case hy15_12 => (intro wq hSw; (try dsimp only at hSw); go_simp; try (with_reducible rfl))
            try simp only [Act.put, List.setIfInBounds_toArray, List.set_cons_zero, List.set_cons_succ]
            refine wpAnyH_take (i := 13) (v := undef) (by simp only [List.getElem?_toArray, List.getElem?_cons_zero, List.getElem?_cons_succ]; rfl) (by kernel_rfl) (by kernel_rfl) (by kernel_rfl) (by exact fun _ _ _ h => h) (Or.inr ⟨by rfl, rfl⟩) HS1.out ?_
            refine wpAnyH_done (by kernel_rfl) ?_ _
            simp only [Vx.upTo]
            have d0 := HS1.out.1
            have f0 := froz HI1.out.h.row 0
            clear HS0 HS1 HI0
            go_wp2_with fail
            go_meet
            case rel =>
              have e : (⟨t2.toArray⟩ : ByteArray) ++ ⟨#[32, 103, 117, 97, 114, 100, 32, 48, 120, 55, 32]⟩ ++ ⟨dq.toArray⟩ = ⟨(t2 ++ ([32, 103, 117, 97, 114, 100, 32, 48, 120, 55, 32] ++ dq)).toArray⟩ := by
                simp only [catB, List.append_assoc]
              rw [e, HF2.out.1, HF2.out.2.1, HF2.out.2.2]
              exact HI1.out.text _
          · have hev2 : thB o.b = false := by simpa using hev
            have e1 : (Int.tmod o.b 3 == 0) = false := by unfold thB at hev2; simpa using hev2
            have HF2 : Hid (gu = 0 ∧ gb = 0 ∧ grdL o = []) := ⟨by rw [HGU.out, if_neg hev], by rw [HGB.out, if_neg hev], by rw [HGL.out, if_neg hev]⟩
            go_wp2_with fail
            go_meet
            case rel =>
              rw [HF2.out.1, HF2.out.2.1, HF2.out.2.2, List.append_nil]
              exact HC2.out
        case rest =>
          have HC3 := hcut
          clear hcut HC2 a2
          obtain ⟨t3, ht3⟩ : ∃ t3, t3 = t2 ++ grdL o := ⟨_, rfl⟩
          rw [← ht3] at HC3 HT0
          clear ht3
          obtain ⟨pk, ck, hvk, _⟩ := HC3.out.h.lc.form
          obtain ⟨nk, hnk⟩ : ∃ nk, nk = T.cp.length := ⟨_, rfl⟩
          dsimp only at hvk
          rw [← hnk] at hvk
          subst hvk
          have c6 : wc.cell? ⟨xb, 6, none⟩ = some (.slice pk nk ck) := (cell_of_row _ _ 6 _ _ (0, 0) HC3.out.h.row).trans rfl
          have e0 : wc.cell? ⟨cb, 0, none⟩ = some (.int .i64 9) := (cell_of_row _ _ 0 _ _ (0, 0) HC3.out.cp).trans rfl
          have e1 : wc.cell? ⟨cb, 1, none⟩ = some (.int .i64 (pb : Int)) := (cell_of_row _ _ 1 _ _ (0, 0) HC3.out.cp).trans rfl
          have e2 : wc.cell? ⟨cb, 2, none⟩ = some (.int .i64 k1) := (cell_of_row _ _ 2 _ _ (0, 0) HC3.out.cp).trans rfl
          have e3 : wc.cell? ⟨cb, 3, none⟩ = some (.int .i64 n1) := (cell_of_row _ _ 3 _ _ (0, 0) HC3.out.cp).trans rfl
          have e4 : wc.cell? ⟨cb, 4, none⟩ = some (.int .i64 (pc : Int)) := (cell_of_row _ _ 4 _ _ (0, 0) HC3.out.cp).trans rfl
          have e5 : wc.cell? ⟨cb, 5, none⟩ = some (.int .u32 bd) := (cell_of_row _ _ 5 _ _ (0, 0) HC3.out.cp).trans rfl
          have e6 : wc.cell? ⟨cb, 6, none⟩ = some (.int .u32 gu) := (cell_of_row _ _ 6 _ _ (0, 0) HC3.out.cp).trans rfl
          have e7 : wc.cell? ⟨cb, 7, none⟩ = some (.int .i64 gb) := (cell_of_row _ _ 7 _ _ (0, 0) HC3.out.cp).trans rfl
          have e8 : wc.cell? ⟨cb, 8, none⟩ = some (.int .i64 0) := (cell_of_row _ _ 8 _ _ (0, 0) HC3.out.cp).trans rfl
          have e9 : wc.cell? ⟨cb, 9, none⟩ = some (.int .u32 0) := (cell_of_row _ _ 9 _ _ (0, 0) HC3.out.cp).trans rfl
          have e10 : wc.cell? ⟨cb, 10, none⟩ = some (.int .i64 fr.1) := (cell_of_row _ _ 10 _ _ (0, 0) HC3.out.cp).trans rfl
          have e11 : wc.cell? ⟨cb, 11, none⟩ = some (.int .i64 fr.2) := (cell_of_row _ _ 11 _ _ (0, 0) HC3.out.cp).trans rfl
          have hxl : xb < wc.heap.size := lt_of_some HC3.out.h.row
          have hol : cb < wc.heap.size := lt_of_some HC3.out.cp
          obtain ⟨we, hwe⟩ : ∃ we, we = (wc.alloc (.cells #[.int .i64 9, .int .i64 (pb : Int), .int .i64 k1, .int .i64 n1, .int .i64 (pc : Int), .int .u32 bd, .int .u32 gu, .int .i64 gb, .int .i64 0, .int .u32 0, .int .i64 fr.1, .int .i64 fr.2] 84)).drew := ⟨_, rfl⟩
          have hond : Only (fun _ => False) wc we := by rw [hwe]; exact ((Only.refl _ wc).alloc _).drew
          have HYD : Hid (∀ j u, (enL.cf ⟨(9, (pb : Int)), ⟨k1, n1, (pc : Int), bd, gu, gb, 0, 0⟩, fr⟩)[j]? = some u → we.cell? ⟨wc.heap.size, j, none⟩ = some u) := fun j u hj => by
            have hl : we.heap[wc.heap.size]? = some (.cells #[.int .i64 9, .int .i64 (pb : Int), .int .i64 k1, .int .i64 n1, .int .i64 (pc : Int), .int .u32 bd, .int .u32 gu, .int .i64 gb, .int .i64 0, .int .u32 0, .int .i64 fr.1, .int .i64 fr.2] 84 (0, 0)) := by rw [hwe]; exact heap_alloc_last wc _
            rw [cell_of_row _ _ j _ _ (0, 0) hl]
            simpa [enL, enC_eq] using hj
          have HHD := Vx.hid (HC3.out.h.quiet hond)
          have HBD2 : Hid (W.heap.size ≤ we.heap.size) := HHD.out.be.size
          have HLO : Hid (T.cp.length + 1 ≤ 10000000) := HLN.out.1
          clear hond hnk HLN
          go_upto_region 16 with fail
          go_region_law (refine Vx.step_append_one tKc rfl (.tmp 131) (.tmp 133) rfl W.heap.size (.slice pk nk ck) T.cp (by simp [Act.eval]) (by rw [← hwe]; exact HHD.out.lc) ⟨(9, (pb : Int)), ⟨k1, n1, (pc : Int), bd, gu, gb, 0, 0⟩, fr⟩ wc.heap.size 1 1 (by simp [Act.eval]) (by rw [← hwe]; exact HYD.out) HLO.out (by rw [← hwe]; exact HBD2.out) ?_; intro v' w6 hv1 hv2 hv3; rw [← hwe] at hv2 hv3; obtain ⟨⟨pz, mz, cz, rfl⟩, ⟨qx, hq1⟩, hq2, HQ5⟩ := HHD.out.st_c v' w6 _ hv1 hv2; clear hv1 hv2 hv3)
          all_goals
            go_wp2_with fail
            first | go_end0 | refine bodyPost_ret (results_none rfl _ _ _) rfl ?_
            exact ⟨rfl, _, by rw [HT0.out, HCT.out]; exact HQ5.out⟩
end Go.Proofs.YtgacifbpjdakaaaGreatDoor

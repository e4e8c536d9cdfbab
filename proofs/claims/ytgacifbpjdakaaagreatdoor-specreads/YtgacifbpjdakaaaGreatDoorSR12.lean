/- Package spec's reader: start (gen_sr12.py). -/
import Derived.Test.YtgacifbpjdakaaaGreatDoorSR11
import Derived.Test.YtgacifbpjdakaaaGreatDoorTH0
namespace Go.Proofs.YtgacifbpjdakaaaGreatDoor
open Go.ChangeShapes Go.WideShapes Go.ChangeAt Go.RowKit
open Go.Vx
set_option linter.unusedVariables false
set_option linter.unusedSimpArgs false
variable {W w w2 : World} {rb : Nat} {V : Rv} {vw : Value} {ws : List (List UInt8)} {T : Tx} {x : List UInt8}

/-- How many words are left. -/
def wdN (w : World) (rb : Nat) : Nat := match w.cell? ⟨rb, 2, none⟩ with | some (.slice _ n _) => n | _ => 0
theorem RdAt.wdN (h : RdAt W w rb V vw ws T) : Go.Proofs.YtgacifbpjdakaaaGreatDoor.wdN w rb = ws.length := by
  obtain ⟨p, n, c, rfl, hn, _⟩ := h.wd
  have c2 : w.cell? ⟨rb, 2, none⟩ = some (.slice p n c) := (cell_of_row _ _ 2 _ _ (0, 0) h.row).trans rfl
  unfold Go.Proofs.YtgacifbpjdakaaaGreatDoor.wdN
  rw [c2]
  exact hn
/-- The reader and a thread on its way. -/
structure StI (W w : World) (rb : Nat) (V : Rv) (ws : List (List UInt8)) (T : Tx) (sb : Nat) (a : Th) : Prop where
  x : ∃ vw', RdAt W w rb V vw' ws T
  t : ThAt w sb a
  f : FrR rb V sb
  b : W.heap.size ≤ sb
theorem StI.call {a : Th} {sb : Nat} {ws' : List (List UInt8)} (h : StI W w rb V ws T sb a) (hp : RdP W w rb V ws' T w2) : StI W w2 rb V ws' T sb a := ⟨hp.2, h.t.keep hp.1 h.f.1, h.f, h.b⟩
theorem StI.put {a a' : Th} {sb : Nat} (h : StI W w rb V ws T sb a) (ho : Only (fun k => k = sb) w w2) (ht : ThAt w2 sb a') : StI W w2 rb V ws T sb a' := by
  obtain ⟨vw', hx⟩ := h.x
  exact ⟨⟨vw', hx.apart h.t (by decide) h.f h.b ho⟩, ht, h.f, h.b⟩
theorem only1' (w : World) (b i : Nat) (u : Value) : Only (fun k => k = b) w (w.setCell ⟨b, i, none⟩ u) := Only.setCell (S := fun k => k = b) (Only.refl _ w) (Or.inl rfl) _
set_option maxRecDepth 100000 in
set_option maxHeartbeats 4000000 in
theorem start_ok {y : List UInt8} (num : Int) (fy : Fnd T y (6, num)) (d p a b r : Nat) (rd : Bool) (hd : d < 4294967296) (hp : p < 4294967296) (ha : a < 4294967296) (hb : b < 4294967296) (hr1 : 1 ≤ r) (hr2 : r < 32)
    (h : RdAt W w rb V vw [y, Lib.decDigits d, Lib.decDigits p, (if rd then [114, 101, 97, 100, 121] else [105, 100, 108, 101]), Lib.decDigits a, 120 :: Lib.decDigits r, Lib.decDigits a, 120 :: Lib.decDigits r, Lib.decDigits b] T) (hl : T.th.length ≤ 1000) :
    Calls Tryz.prog 39 #[.pointer (some ⟨rb, 0, none⟩)] w fun e w' => e = .returned (.tuple #[]) ∧ Hid (RdX W rb V [] { T with th := T.th ++ [⟨num, (d : Int), (p : Int), rd, fun j => if j = r then (b : Int) else 0, (a : Int)⟩] } w') := by
  obtain ⟨tv, htv⟩ : ∃ tv : Th, tv = ⟨num, (d : Int), (p : Int), rd, fun j => if j = r then (b : Int) else 0, (a : Int)⟩ := ⟨_, rfl⟩
  rw [← htv]
  have HTV : Hid (tv = { (⟨num, (d : Int), (p : Int), rd, fun j => if j = r then (a : Int) else 0, (a : Int)⟩ : Th) with reg := fun j => if j = r then (b : Int) else (if j = r then (a : Int) else 0) }) := by
    show tv = _
    rw [htv]
    congr 1
    funext j
    by_cases hj : j = r <;> simp [hj]
  clear htv
  obtain ⟨w1, hw1⟩ : ∃ w1, w1 = (w.alloc (.cells #[.int .i64 0, .int .i64 0, .int .i64 0, .bool false, .int .u32 0, .int .u32 0, .int .u32 0, .int .u32 0, .int .u32 0, .int .u32 0, .int .u32 0, .int .u32 0, .int .u32 0, .int .u32 0, .int .u32 0, .int .u32 0, .int .u32 0, .int .u32 0, .int .u32 0, .int .u32 0, .int .u32 0, .int .u32 0, .int .u32 0, .int .u32 0, .int .u32 0, .int .u32 0, .int .u32 0, .int .u32 0, .int .u32 0, .int .u32 0, .int .u32 0, .int .u32 0, .int .u32 0, .int .u32 0, .int .u32 0, .int .u32 0, .int .u32 0] 91)).alloc (.cells #[.int .i64 6] 3) := ⟨_, rfl⟩
  obtain ⟨sb, hsb⟩ : ∃ sb, sb = w.heap.size := ⟨_, rfl⟩
  obtain ⟨kb, hkb⟩ : ∃ kb, kb = w.heap.size + 1 := ⟨_, rfl⟩
  have ho1 : Only (fun _ => False) w w1 := by rw [hw1]; exact ((Only.refl _ _).alloc _).alloc _
  have hx1 := h.quiet ho1
  have hk1 : w1.heap[kb]? = some (.cells #[.int .i64 6] 3 (0, 0)) := by
    have h9 := heap_alloc_last (w.alloc (.cells #[.int .i64 0, .int .i64 0, .int .i64 0, .bool false, .int .u32 0, .int .u32 0, .int .u32 0, .int .u32 0, .int .u32 0, .int .u32 0, .int .u32 0, .int .u32 0, .int .u32 0, .int .u32 0, .int .u32 0, .int .u32 0, .int .u32 0, .int .u32 0, .int .u32 0, .int .u32 0, .int .u32 0, .int .u32 0, .int .u32 0, .int .u32 0, .int .u32 0, .int .u32 0, .int .u32 0, .int .u32 0, .int .u32 0, .int .u32 0, .int .u32 0, .int .u32 0, .int .u32 0, .int .u32 0, .int .u32 0, .int .u32 0, .int .u32 0] 91)) (.cells #[.int .i64 6] 3)
    rw [show (w.alloc (.cells #[.int .i64 0, .int .i64 0, .int .i64 0, .bool false, .int .u32 0, .int .u32 0, .int .u32 0, .int .u32 0, .int .u32 0, .int .u32 0, .int .u32 0, .int .u32 0, .int .u32 0, .int .u32 0, .int .u32 0, .int .u32 0, .int .u32 0, .int .u32 0, .int .u32 0, .int .u32 0, .int .u32 0, .int .u32 0, .int .u32 0, .int .u32 0, .int .u32 0, .int .u32 0, .int .u32 0, .int .u32 0, .int .u32 0, .int .u32 0, .int .u32 0, .int .u32 0, .int .u32 0, .int .u32 0, .int .u32 0, .int .u32 0, .int .u32 0] 91)).heap.size = w.heap.size + 1 by simp] at h9
    rw [hw1, hkb]; exact h9
  have ht1 : ThAt w1 sb zth := by
    unfold ThAt
    rw [hw1, hsb]
    exact keepB ((Only.refl (fun _ => False) _).alloc _) (heap_alloc_last w _) (fun h => h)
  have HI1 : Hid (StI W w1 rb V _ T sb zth) := ⟨⟨_, hx1⟩, ht1, h.fre (by omega), by have := h.be.size; omega⟩
  have HOB := Vx.hid (obj_k fy 6 rfl hx1 hk1 (by simp))
  have HLN : Hid (T.th.length + 1 ≤ 10000000) := by show _ ≤ _; omega
  have HND := Vx.hid hd
  have HNP := Vx.hid hp
  have HNA := Vx.hid ha
  have HNB := Vx.hid hb
  have hwa : IntKind.u32.wrap (a : Int) = (a : Int) := by rw [IntKind.wrap_u32]; omega
  have hwb : IntKind.u32.wrap (b : Int) = (b : Int) := by rw [IntKind.wrap_u32]; omega
  have HR : Hid (1 ≤ r ∧ r < 32) := ⟨hr1, hr2⟩
  have hri : 0 ≤ (r : Int) ∧ (r : Int) < 32 := by omega
  clear h hd hp ha hb fy hl hr1 hr2 hx1 hk1 ht1 ho1
  dsimp only at HOB
  have hfl : ∀ wv : World, (Instr.field 46 (.agg #[.int .i64 6, .int .i64 num]) 1).run Tryz.prog wv = .ok (.int .i64 num) wv := fun wv => by kernel_rfl
  go_enter Tryz.func39, Tryz.ntmps39
  go_wp2_with fail
  rw [← hw1, ← hkb, ← hsb]
  clear hw1 hkb hsb
  refine HOB.out.mono ?_
  rintro e w2 ⟨rfl, H2⟩
  have HI2 := Vx.hid (HI1.out.call H2.out)
  clear HOB HI1 H2
  obtain ⟨q2, c2⟩ := HI2.out.t.cell 0 (by decide)
  have f2 := froz HI2.out.t 0
  obtain ⟨w3, hw3⟩ : ∃ w9, w9 = w2.setCell ⟨sb, 0, none⟩ (.int .i64 num) := ⟨_, rfl⟩
  have HI3 := Vx.hid (show StI W (w2.setCell ⟨sb, 0, none⟩ (.int .i64 num)) rb V _ T sb ⟨num, 0, 0, false, fun _ => 0, 0⟩ from HI2.out.put (only1' _ _ _ _) (HI2.out.t.set_num num))
  rw [← hw3] at HI3
  clear HI2
  go_wp2_with fail
  clear c2 f2
  rw [← hw3]
  clear hw3
  obtain ⟨vw3, hx3⟩ := HI3.out.x
  refine (number_ok d HND.out hx3 (by simp)).mono ?_
  rintro e w4 ⟨rfl, H4⟩
  have HI4 := Vx.hid (HI3.out.call H4.out)
  clear H4 hx3 HI3
  obtain ⟨q4, c4⟩ := HI4.out.t.cell 1 (by decide)
  have f4 := froz HI4.out.t 1
  obtain ⟨w5, hw5⟩ : ∃ w9, w9 = w4.setCell ⟨sb, 1, none⟩ (.int .i64 (d : Int)) := ⟨_, rfl⟩
  have HI5 := Vx.hid (show StI W (w4.setCell ⟨sb, 1, none⟩ (.int .i64 (d : Int))) rb V _ T sb ⟨num, (d : Int), 0, false, fun _ => 0, 0⟩ from HI4.out.put (only1' _ _ _ _) (HI4.out.t.set_dom (d : Int)))
  rw [← hw5] at HI5
  clear HI4
  go_wp2_with fail
  clear c4 f4
  rw [← hw5]
  clear hw5
  obtain ⟨vw5, hx5⟩ := HI5.out.x
  refine (number_ok p HNP.out hx5 (by simp)).mono ?_
  rintro e w6 ⟨rfl, H6⟩
  have HI6 := Vx.hid (HI5.out.call H6.out)
  clear H6 hx5 HI5
  obtain ⟨q6, c6⟩ := HI6.out.t.cell 2 (by decide)
  have f6 := froz HI6.out.t 2
  obtain ⟨w7, hw7⟩ : ∃ w9, w9 = w6.setCell ⟨sb, 2, none⟩ (.int .i64 (p : Int)) := ⟨_, rfl⟩
  have HI7 := Vx.hid (show StI W (w6.setCell ⟨sb, 2, none⟩ (.int .i64 (p : Int))) rb V _ T sb ⟨num, (d : Int), (p : Int), false, fun _ => 0, 0⟩ from HI6.out.put (only1' _ _ _ _) (HI6.out.t.set_pri (p : Int)))
  rw [← hw7] at HI7
  clear HI6
  go_wp2_with fail
  clear c6 f6
  rw [← hw7]
  clear hw7
  obtain ⟨vw7, hx7⟩ := HI7.out.x
  refine (readiness_ok rd hx7 (by simp)).mono ?_
  rintro e w8 ⟨rfl, H8⟩
  have HI8 := Vx.hid (HI7.out.call H8.out)
  clear H8 hx7 HI7
  obtain ⟨q8, c8⟩ := HI8.out.t.cell 3 (by decide)
  have f8 := froz HI8.out.t 3
  obtain ⟨w9, hw9⟩ : ∃ w9, w9 = w8.setCell ⟨sb, 3, none⟩ (.bool rd) := ⟨_, rfl⟩
  have HI9 := Vx.hid (show StI W (w8.setCell ⟨sb, 3, none⟩ (.bool rd)) rb V _ T sb ⟨num, (d : Int), (p : Int), rd, fun _ => 0, 0⟩ from HI8.out.put (only1' _ _ _ _) (HI8.out.t.set_rdy rd))
  rw [← hw9] at HI9
  clear HI8
  go_wp2_with fail
  clear c8 f8
  rw [← hw9]
  clear hw9
  obtain ⟨vw9, hx9⟩ := HI9.out.x
  refine (number_ok a HNA.out hx9 (by simp)).mono ?_
  rintro e w10 ⟨rfl, H10⟩
  have HI10 := Vx.hid (HI9.out.call H10.out)
  clear H10 hx9 HI9
  obtain ⟨q10, c10⟩ := HI10.out.t.cell 36 (by decide)
  have f10 := froz HI10.out.t 36
  obtain ⟨w11, hw11⟩ : ∃ w9, w9 = w10.setCell ⟨sb, 36, none⟩ (.int .u32 (a : Int)) := ⟨_, rfl⟩
  have HI11 := Vx.hid (show StI W (w10.setCell ⟨sb, 36, none⟩ (.int .u32 (a : Int))) rb V _ T sb ⟨num, (d : Int), (p : Int), rd, fun _ => 0, (a : Int)⟩ from HI10.out.put (only1' _ _ _ _) (HI10.out.t.set_pc (a : Int)))
  rw [← hw11] at HI11
  clear HI10
  go_wp2_with fail
  clear c10 f10
  rw [← hw11]
  clear hw11
  go_loopw [3] (fun c3 wr => Hid (StI W wr rb V [120 :: Lib.decDigits r, Lib.decDigits a, 120 :: Lib.decDigits r, Lib.decDigits b] T sb ⟨num, (d : Int), (p : Int), rd, fun _ => 0, (a : Int)⟩) ∨ Hid (StI W wr rb V [120 :: Lib.decDigits r, Lib.decDigits b] T sb ⟨num, (d : Int), (p : Int), rd, fun j => if j = r then (a : Int) else 0, (a : Int)⟩) ∨ Hid (StI W wr rb V [] T sb tv)) (fun c3 wr => wdN wr rb)
  case atStart => exact Or.inl HI11.out
  case round =>
    clear HI11
    have hir := HR.out
    rcases hrel with HI0 | HI0 | HI0
    · as_aux_lemma =>
      obtain ⟨vw0, hx0⟩ := HI0.out.x
      have HM := Vx.hid (more_yes hx0)
      have hnw := hx0.wdN
      have HG := Vx.hid (register_ok r HR.out.1 HR.out.2 hx0 (by simp))
      have HWN := Vx.hid hnw
      clear hx0 hnw
      go_wp2_with fail
      refine HM.out.mono ?_
      rintro e w1 ⟨rfl, hw9⟩
      have hw8 := hw9.symm
      clear hw9
      subst hw8
      clear HM
      go_wp2_with fail
      refine HG.out.mono ?_
      rintro e w2 ⟨rfl, H2⟩
      have HI2 := Vx.hid (HI0.out.call H2.out)
      clear H2 HG HI0
      obtain ⟨vw2, hx2⟩ := HI2.out.x
      have HB := Vx.hid (number_ok a HNA.out hx2 (by simp))
      clear hx2
      go_wp2_with fail
      refine HB.out.mono ?_
      rintro e w3 ⟨rfl, H3⟩
      have HI3 := Vx.hid (HI2.out.call H3.out)
      clear H3 HB HI2
      obtain ⟨q3, c3⟩ := HI3.out.t.cell (4 + r) (by omega)
      have f3 := froz HI3.out.t (4 + r)
      have HI4 := Vx.hid (HI3.out.put (only1' _ sb (4 + r) (.int .u32 (a : Int))) (HI3.out.t.set (a : Int) r HR.out.2))
      go_wp2_with fail
      go_roundw
      case rel => exact Or.inr (Or.inl HI4.out)
      case measure =>
        obtain ⟨vw4, hx4⟩ := HI4.out.x
        have h1 := hx4.wdN
        have h2 := HWN.out
        simp only [List.length_cons, List.length_nil] at h1 h2
        omega
    · as_aux_lemma =>
      obtain ⟨vw0, hx0⟩ := HI0.out.x
      have HM := Vx.hid (more_yes hx0)
      have hnw := hx0.wdN
      have HG := Vx.hid (register_ok r HR.out.1 HR.out.2 hx0 (by simp))
      have HWN := Vx.hid hnw
      clear hx0 hnw
      go_wp2_with fail
      refine HM.out.mono ?_
      rintro e w1 ⟨rfl, hw9⟩
      have hw8 := hw9.symm
      clear hw9
      subst hw8
      clear HM
      go_wp2_with fail
      refine HG.out.mono ?_
      rintro e w2 ⟨rfl, H2⟩
      have HI2 := Vx.hid (HI0.out.call H2.out)
      clear H2 HG HI0
      obtain ⟨vw2, hx2⟩ := HI2.out.x
      have HB := Vx.hid (number_ok b HNB.out hx2 (by simp))
      clear hx2
      go_wp2_with fail
      refine HB.out.mono ?_
      rintro e w3 ⟨rfl, H3⟩
      have HI3 := Vx.hid (HI2.out.call H3.out)
      clear H3 HB HI2
      obtain ⟨q3, c3⟩ := HI3.out.t.cell (4 + r) (by omega)
      have f3 := froz HI3.out.t (4 + r)
      have HI4 := Vx.hid (HI3.out.put (only1' _ sb (4 + r) (.int .u32 (b : Int))) (HI3.out.t.set (b : Int) r HR.out.2))
      go_wp2_with fail
      go_roundw
      case rel => exact Or.inr (Or.inr (by rw [HTV.out]; exact HI4.out))
      case measure =>
        obtain ⟨vw4, hx4⟩ := HI4.out.x
        have h1 := hx4.wdN
        have h2 := HWN.out
        simp only [List.length_cons, List.length_nil] at h1 h2
        omega
    · obtain ⟨vw0, hx0⟩ := HI0.out.x
      have HM := Vx.hid (more_no hx0)
      have HX0 := Vx.hid hx0
      clear hx0
      go_wp2_with fail
      refine HM.out.mono ?_
      rintro e w1 ⟨rfl, hw9⟩
      have hw8 := hw9.symm
      clear hw9
      subst hw8
      clear HM
      obtain ⟨pt, ct, hvt, _⟩ := HX0.out.lh.form
      obtain ⟨nt, hnt⟩ : ∃ nt, nt = T.th.length := ⟨_, rfl⟩
      rw [← hnt] at hvt
      clear hnt
      have HVT := Vx.hid hvt
      clear hvt
      have HXD := Vx.hid (HX0.out.quiet ((Only.refl _ wr).drew))
      have HT0 := Vx.hid HI0.out.t
      obtain ⟨wA, hwA⟩ : ∃ wA, wA = wr.drew.alloc (.cells (thL.cf tv).toArray 91) := ⟨_, rfl⟩
      obtain ⟨nA, hnA⟩ : ∃ nA, nA = wr.drew.heap.size := ⟨_, rfl⟩
      have hoA : Only (fun _ => False) wr wA := by rw [hwA]; exact ((Only.refl _ _).drew).alloc _
      have HXA := Vx.hid (HX0.out.quiet hoA)
      have HTA := Vx.hid (HT0.out.keep hoA (fun h => h))
      have HYD : Hid (∀ j u, (thL.cf tv)[j]? = some u → wA.cell? ⟨nA, j, none⟩ = some u) := fun j u hj => by
        have hl : wA.heap[nA]? = some (.cells (thL.cf tv).toArray 91 (0, 0)) := by rw [hwA, hnA]; exact heap_alloc_last _ _
        rw [cell_of_row _ _ j _ _ (0, 0) hl, List.getElem?_toArray]
        exact hj
      have HBA : Hid (W.heap.size ≤ wA.heap.size) := HXA.out.be.size
      have HCE : Hid (∀ wv, RdAt W wv rb V vw0 [] T → wv.cell? ⟨rb, 13, none⟩ = some (.slice pt nt ct)) := fun wv hv => by
        have h9 := (cell_of_row _ _ 13 _ _ (0, 0) hv.row).trans rfl
        exact h9.trans (congrArg some HVT.out)
      have HS0 : Hid (wr.drew.cell? ⟨rb, 13, none⟩ = some (.slice pt nt ct) ∧ ThAt wr.drew sb tv) := ⟨HCE.out _ HXD.out, HT0.out⟩
      have HSA : Hid (wA.cell? ⟨rb, 13, none⟩ = some (.slice pt nt ct) ∧ ThAt wA sb tv) := ⟨HCE.out _ HXA.out, HTA.out⟩
      have HF := Vx.hid HI0.out.f
      clear hoA HI0
      go_upto_region 9 with fail
      refine Vx.wp_region_last (S := (fun wv => wv.cell? ⟨rb, 13, none⟩ = some (.slice pt nt ct) ∧ ThAt wv sb tv)) 14 (by kernel_rfl) (by simp only [List.getElem?_toArray, List.getElem?_cons_zero, List.getElem?_cons_succ]; rfl) (by kernel_rfl) ?_
      simp only [Vx.offA, Vx.offO, List.setIfInBounds_toArray, List.set_cons_zero, List.set_cons_succ, List.size_toArray, List.length_cons, List.length_nil, Nat.zero_add, Nat.reduceAdd]
      refine wpAnyH_take (i := 0) (v := ?v9_0) (by simp only [List.getElem?_toArray, List.getElem?_cons_zero, List.getElem?_cons_succ]; rfl) (by kernel_rfl) (by kernel_rfl) (by kernel_rfl) (by exact fun _ _ _ h => h) (Or.inl ⟨by rfl, ?hy9_0⟩) HS0.out ?_
      case hy9_0 => (intro wq hSw; (try dsimp only at hSw); go_simp; try (with_reducible rfl))
      try simp only [Act.put, List.setIfInBounds_toArray, List.set_cons_zero, List.set_cons_succ]
      refine wpAnyH_take (i := 1) (v := ?v9_1) (by simp only [List.getElem?_toArray, List.getElem?_cons_zero, List.getElem?_cons_succ]; rfl) (by kernel_rfl) (by kernel_rfl) (by kernel_rfl) (by exact fun _ _ _ h => h) (Or.inl ⟨by rfl, ?hy9_1⟩) HS0.out ?_
      case hy9_1 => (intro wq hSw; (try dsimp only at hSw); go_simp; try (with_reducible rfl))
      try simp only [Act.put, List.setIfInBounds_toArray, List.set_cons_zero, List.set_cons_succ]
      refine wpAnyH_take (i := 2) (v := ?v9_2) (by simp only [List.getElem?_toArray, List.getElem?_cons_zero, List.getElem?_cons_succ]; rfl) (by kernel_rfl) (by kernel_rfl) (by kernel_rfl) (by exact fun _ _ _ h => h) (Or.inl ⟨by rfl, ?hy9_2⟩) HS0.out ?_
      case hy9_2 => (intro wq hSw; (try dsimp only at hSw); go_simp; try (with_reducible rfl))
      try simp only [Act.put, List.setIfInBounds_toArray, List.set_cons_zero, List.set_cons_succ]
      refine wpAnyH_take (i := 3) (v := ?v9_3) (by simp only [List.getElem?_toArray, List.getElem?_cons_zero, List.getElem?_cons_succ]; rfl) (by kernel_rfl) (by kernel_rfl) (by kernel_rfl) (by exact fun _ _ _ h => h) (Or.inl ⟨by rfl, ?hy9_3⟩) HS0.out ?_
      case hy9_3 => (intro wq hSw; (try dsimp only at hSw); go_simp; try (with_reducible rfl))
      try simp only [Act.put, List.setIfInBounds_toArray, List.set_cons_zero, List.set_cons_succ]
      refine wpAnyH_take (i := 4) (v := ?v9_4) (by simp only [List.getElem?_toArray, List.getElem?_cons_zero, List.getElem?_cons_succ]; rfl) (by kernel_rfl) (by kernel_rfl) (by kernel_rfl) (by exact fun _ _ _ h => h) (Or.inl ⟨by rfl, ?hy9_4⟩) HS0.out ?_
      case hy9_4 => (intro wq hSw; (try dsimp only at hSw); go_simp; try (with_reducible rfl))
      try simp only [Act.put, List.setIfInBounds_toArray, List.set_cons_zero, List.set_cons_succ]
      refine wpAnyH_take (i := 5) (v := ?v9_5) (by simp only [List.getElem?_toArray, List.getElem?_cons_zero, List.getElem?_cons_succ]; rfl) (by kernel_rfl) (by kernel_rfl) (by kernel_rfl) (by exact fun _ _ _ h => h) (Or.inl ⟨by rfl, ?hy9_5⟩) HS0.out ?_
      case hy9_5 => (intro wq hSw; (try dsimp only at hSw); go_simp; try (with_reducible rfl))
      try simp only [Act.put, List.setIfInBounds_toArray, List.set_cons_zero, List.set_cons_succ]
      refine wpAnyH_take (i := 6) (v := ?v9_6) (by simp only [List.getElem?_toArray, List.getElem?_cons_zero, List.getElem?_cons_succ]; rfl) (by kernel_rfl) (by kernel_rfl) (by kernel_rfl) (by exact fun _ _ _ h => h) (Or.inl ⟨by rfl, ?hy9_6⟩) HS0.out ?_
      case hy9_6 => (intro wq hSw; (try dsimp only at hSw); go_simp; try (with_reducible rfl))
      try simp only [Act.put, List.setIfInBounds_toArray, List.set_cons_zero, List.set_cons_succ]
      refine wpAnyH_take (i := 7) (v := ?v9_7) (by simp only [List.getElem?_toArray, List.getElem?_cons_zero, List.getElem?_cons_succ]; rfl) (by kernel_rfl) (by kernel_rfl) (by kernel_rfl) (by exact fun _ _ _ h => h) (Or.inl ⟨by rfl, ?hy9_7⟩) HS0.out ?_
      case hy9_7 => (intro wq hSw; refine (ld_th (.tmp 2) rfl rfl hSw.2).trans ?_; with_reducible rfl)
      try simp only [Act.put, List.setIfInBounds_toArray, List.set_cons_zero, List.set_cons_succ]
      refine wpAnyH_ready (rs := [8]) (by kernel_rfl) (by simp) ?_
      refine AllReadyH.cons (by simp only [List.getElem?_toArray, List.getElem?_cons_zero, List.getElem?_cons_succ]; rfl) (fun K hK => ?_) AllReadyH.nil
      refine row_th (a := tv) (.tmp 41) 42 rfl rfl (by simp [Act.eval]) ?_
      rw [← hwA, ← hnA]
      refine hK.out _ _ HSA.out (fun _ => ?_)
      clear hK K
      try simp only [Act.put, List.setIfInBounds_toArray, List.set_cons_zero, List.set_cons_succ]
      refine wpAnyH_ready (rs := [9]) (by kernel_rfl) (by simp) ?_
      refine AllReadyH.cons (by simp only [List.getElem?_toArray, List.getElem?_cons_zero, List.getElem?_cons_succ]; rfl) (fun K hK => ?_) AllReadyH.nil
      refine Vx.step_append_one tKh rfl (.tmp 40) (.tmp 42) rfl W.heap.size (.slice pt nt ct) T.th (by simp [Act.eval]) (by rw [← HVT.out]; exact HXA.out.lh) tv nA 1 1 (by simp [Act.eval]) HYD.out HLN.out HBA.out ?_
      intro v6 w6 hv1 hv2 hv3
      rw [← HVT.out] at hv2
      obtain ⟨⟨pq, mq, cq, rfl⟩, ⟨qx, hq1⟩, hq2, hxc, HQ5⟩ := HXA.out.st_h v6 w6 _ hv1 hv2
      have HS6 : Hid (w6.cell? ⟨rb, 13, none⟩ = some (.slice pt nt ct) ∧ ThAt w6 sb tv) := ⟨(hxc 13).trans HSA.out.1, HTA.out.keep hv2 HF.out.2.2.2.2.2.2.1⟩
      clear hxc hv1 hv2 hv3
      refine hK.out _ _ HS6.out (fun _ => ?_)
      clear hK K
      try simp only [Act.put, List.setIfInBounds_toArray, List.set_cons_zero, List.set_cons_succ]
      refine wpAnyH_take (i := 10) (v := ?v9_10) (by simp only [List.getElem?_toArray, List.getElem?_cons_zero, List.getElem?_cons_succ]; rfl) (by kernel_rfl) (by kernel_rfl) (by kernel_rfl) (by exact fun _ _ _ h => h) (Or.inl ⟨by rfl, ?hy9_10⟩) HS6.out ?_
      case hy9_10 => (intro wq hSw; (try dsimp only at hSw); go_simp; try (with_reducible rfl))
      try simp only [Act.put, List.setIfInBounds_toArray, List.set_cons_zero, List.set_cons_succ]
      refine wpAnyH_take (i := 11) (v := ?v9_11) (by simp only [List.getElem?_toArray, List.getElem?_cons_zero, List.getElem?_cons_succ]; rfl) (by kernel_rfl) (by kernel_rfl) (by kernel_rfl) (by exact fun _ _ _ h => h) (Or.inl ⟨by rfl, ?hy9_11⟩) HS6.out ?_
      case hy9_11 => (intro wq hSw; (try dsimp only at hSw); go_simp; try (with_reducible rfl))
      try simp only [Act.put, List.setIfInBounds_toArray, List.set_cons_zero, List.set_cons_succ]
      refine wpAnyH_take (i := 12) (v := ?v9_12) (by simp only [List.getElem?_toArray, List.getElem?_cons_zero, List.getElem?_cons_succ]; rfl) (by kernel_rfl) (by kernel_rfl) (by kernel_rfl) (by exact fun _ _ _ h => h) (Or.inl ⟨by rfl, ?hy9_12⟩) HS6.out ?_
      case hy9_12 => (intro wq hSw; (try dsimp only at hSw); go_simp; try (with_reducible rfl))
      try simp only [Act.put, List.setIfInBounds_toArray, List.set_cons_zero, List.set_cons_succ]
      refine wpAnyH_take (i := 13) (v := ?v9_13) (by simp only [List.getElem?_toArray, List.getElem?_cons_zero, List.getElem?_cons_succ]; rfl) (by kernel_rfl) (by kernel_rfl) (by kernel_rfl) (by exact fun _ _ _ h => h) (Or.inl ⟨by rfl, ?hy9_13⟩) HS6.out ?_
      case hy9_13 => (intro wq hSw; (try dsimp only at hSw); go_simp; try (with_reducible rfl))
      try simp only [Act.put, List.setIfInBounds_toArray, List.set_cons_zero, List.set_cons_succ]
      refine wpAnyH_take (i := 14) (v := undef) (by simp only [List.getElem?_toArray, List.getElem?_cons_zero, List.getElem?_cons_succ]; rfl) (by kernel_rfl) (by kernel_rfl) (by kernel_rfl) (by exact fun _ _ _ h => h) (Or.inr ⟨by rfl, rfl⟩) HS6.out ?_
      refine wpAnyH_done (by kernel_rfl) ?_ _
      simp only [Vx.upTo]
      clear hwA hnA HYD HBA HXA HXD HS0 HSA HS6 HCE
      go_wp2_with fail
      first | go_end0 | refine bodyPost_ret (results_none rfl _ _ _) rfl ?_
      exact ⟨rfl, _, _, HQ5.out, rfl, rfl, rfl, rfl⟩
end Go.Proofs.YtgacifbpjdakaaaGreatDoor

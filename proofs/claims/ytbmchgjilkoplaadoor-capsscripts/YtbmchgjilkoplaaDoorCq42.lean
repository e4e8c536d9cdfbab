import Derived.Test.YtbmchgjilkoplaaDoorCq41
import Derived.Deep.RegionHeld3
/- CapsScripts: puts: Put. -/
namespace Go.Proofs.YtbmchgjilkoplaaDoor
open Go.ChangeShapes Go.WideShapes Go.ChangeAt Go.RowKit
open Go.Vx
set_option linter.unusedVariables false
variable {W : World} {xb rb zb bb : Nat} {X R Z Bk : Nat → Prop} {bs : List (Int × Int)} {es : List En} {vs ve : Value} {ss ls : List Sh} {wr : World}

theorem capF_gu (n : Int) (s : ByteArray) : GuOk (capF n s) := by
  unfold GuOk capF capK
  dsimp only
  split <;> omega
theorem capF_num (n : Int) (s : ByteArray) : I64 (capF n s).num := by
  unfold I64 capF capK
  dsimp only
  omega
theorem slot_set2 {w : World} {b : Nat} {x0 x1 : Value} (h : w.heap[b]? = some (.cells #[x0, x1] 62 (0, 0))) (y0 y1 : Value) : ((w.setCell ⟨b, 0, none⟩ y0).setCell ⟨b, 1, none⟩ y1).heap[b]? = some (.cells #[y0, y1] 62 (0, 0)) ∧ Only (fun k => k = b) w ((w.setCell ⟨b, 0, none⟩ y0).setCell ⟨b, 1, none⟩ y1) := by
  have h0 : (w.setCell ⟨b, 0, none⟩ y0).heap[b]? = some (.cells #[y0, x1] 62 (0, 0)) := heap_setCell_same _ _ 0 _ _ y0 h
  have o1 : Only (fun k => k = b) w (w.setCell ⟨b, 0, none⟩ y0) := Only.setCell (S := fun k => k = b) (Only.refl _ w) (Or.inl rfl) _
  exact ⟨heap_setCell_same _ _ 1 _ _ y1 h0, Only.setCell (S := fun k => k = b) o1 (p := ⟨b, 1, none⟩) (Or.inl rfl) _⟩
set_option maxRecDepth 100000 in
set_option maxHeartbeats 4000000 in
theorem puts_put (h : CsR W xb rb zb bb X R Z Bk bs es bs es vs ss ve ls wr) (A B C E : Int) (iA : I64 A) (iB : I64 B) (iC : I64 C) (s : ByteArray) (hlb : bs.length < 1000000) (hle : es.length < 1000000) (hN : N77 bs) :
    Calls Tryd.prog 8 #[.pointer (some ⟨bb, 0, none⟩), .agg #[.int .i64 4, .int .i64 A, .int .i64 B, .int .i64 C, .int .i64 E, .string s]] wr fun e w' => e = .returned (.bool true) ∧ PsR W xb rb zb bb Z Bk vs ss ve ls (bs.length + 1) (es.length + 1) w' := by
  obtain ⟨oo, hoo⟩ : ∃ oo : Obj, oo = .cells #[.int .i64 4, .int .i64 A, .int .i64 B, .int .i64 C, .int .i64 E, .string s] 45 (0, 0) := ⟨_, rfl⟩
  have HP1 : Hid (PsI W xb rb zb bb Z Bk vs ss ve ls [(wr.heap.size, oo)] bs es bs es (wr.alloc oo)) := PsI.alloc (F := []) ⟨X, R, h, fun p hp => by cases hp⟩ oo
  have HSL := Vx.hid (fun wv => slotOf_ok A iA wv)
  have iS := slot_i64 iA
  generalize slotF A = at0 at HSL iS
  obtain ⟨a1, a2⟩ := at0
  dsimp only at HSL iS
  have HSC := Vx.hid (fun wv => slotOf_ok C iC wv)
  have iFC := slot_i64 iC
  have HCF := Vx.hid (fun wv => capOf_ok B iB s wv)
  have hgu := capF_gu B s
  have hnm := capF_num B s
  generalize slotF C = fr0 at HSC iFC
  obtain ⟨x1, x2⟩ := fr0
  dsimp only at HSC iFC
  generalize capF B s = cp at HCF hgu hnm
  obtain ⟨c0, c1, c2, c3, c4, c5, c6, c7⟩ := cp
  simp only [cpV] at HCF
  have HRI := Vx.hid (⟨hgu, hnm⟩ : _ ∧ _)
  clear hgu hnm
  clear h
  go_enter Tryd.func8, Tryd.ntmps8
  go_wp2_with fail
  rw [← hoo]
  obtain ⟨w1, hw1⟩ : ∃ w1, w1 = wr.alloc oo := ⟨_, rfl⟩
  rw [← hw1] at HP1 ⊢
  obtain ⟨ob, hob⟩ : ∃ ob, ob = wr.heap.size := ⟨_, rfl⟩
  rw [← hob] at HP1 ⊢
  clear hw1 hob
  have HCO : Hid (∀ F bx ex br er wv, PsI W xb rb zb bb Z Bk vs ss ve ls F bx ex br er wv → (ob, oo) ∈ F → wv.cell? ⟨ob, 0, none⟩ = some (.int .i64 4) ∧ wv.cell? ⟨ob, 1, none⟩ = some (.int .i64 A) ∧ wv.cell? ⟨ob, 2, none⟩ = some (.int .i64 B) ∧ wv.cell? ⟨ob, 3, none⟩ = some (.int .i64 C) ∧ wv.cell? ⟨ob, 5, none⟩ = some (.string s)) := fun F bx ex br er wv h hm => by
    have h1 := h.at hm
    rw [hoo] at h1
    exact ⟨(cell_of_row _ _ 0 _ _ (0, 0) h1).trans rfl, (cell_of_row _ _ 1 _ _ (0, 0) h1).trans rfl, (cell_of_row _ _ 2 _ _ (0, 0) h1).trans rfl, (cell_of_row _ _ 3 _ _ (0, 0) h1).trans rfl, (cell_of_row _ _ 5 _ _ (0, 0) h1).trans rfl⟩
  clear hoo
  obtain ⟨k0, k1, k2, k3, k5⟩ := HCO.out _ _ _ _ _ _ HP1.out (by simp)
  go_wp2_with fail
  refine (HSL.out _).mono ?_
  rintro e w2 ⟨rfl, ho2⟩
  have HP2 := Vx.hid (HP1.out.quiet ho2)
  clear k0 k1 k2 k3 k5 HP1 ho2 HSL
  go_upto_region 2 with fail
  obtain ⟨so, hso⟩ : ∃ so : Obj, so = .cells #[.int .i64 a1, .int .i64 a2] 62 (0, 0) := ⟨_, rfl⟩
  rw [← hso]
  have HP3 := Vx.hid (HP2.out.alloc so)
  obtain ⟨w3, hw3⟩ : ∃ w3, w3 = w2.alloc so := ⟨_, rfl⟩
  rw [← hw3] at HP3 ⊢
  obtain ⟨ab, hab⟩ : ∃ ab, ab = w2.heap.size := ⟨_, rfl⟩
  rw [← hab] at HP3 ⊢
  clear hw3 hab HP2
  have HCS : Hid (∀ F bx ex br er wv, PsI W xb rb zb bb Z Bk vs ss ve ls F bx ex br er wv → (ab, so) ∈ F → wv.cell? ⟨ab, 0, none⟩ = some (.int .i64 a1) ∧ wv.cell? ⟨ab, 1, none⟩ = some (.int .i64 a2)) := fun F bx ex br er wv h hm => by
    have h1 := h.at hm
    rw [hso] at h1
    exact (slot_cells h1).1
  clear hso
  obtain ⟨k0, k1, k2, k3, k5⟩ := HCO.out _ _ _ _ _ _ HP3.out (by simp)
  go_wp2_with fail
  refine (HSC.out _).mono ?_
  rintro e w4 ⟨rfl, ho4⟩
  have HP4 := Vx.hid (HP3.out.quiet ho4)
  have HLT : Hid (ab < w4.heap.size ∧ ob < w4.heap.size) := ⟨lt_of_some (HP4.out.at (by simp : (ab, so) ∈ _)), lt_of_some (HP4.out.at (by simp : (ob, oo) ∈ _))⟩
  clear k0 k1 k2 k3 k5 HP3 ho4 HSC
  go_upto_region 13 with fail
  obtain ⟨fo, hfo⟩ : ∃ fo : Obj, fo = .cells #[.int .i64 x1, .int .i64 x2] 62 (0, 0) := ⟨_, rfl⟩
  rw [← hfo]
  have HP5 := Vx.hid (HP4.out.alloc fo)
  obtain ⟨w5, hw5⟩ : ∃ w5, w5 = w4.alloc fo := ⟨_, rfl⟩
  rw [← hw5] at HP5 ⊢
  obtain ⟨fb, hfb⟩ : ∃ fb, fb = w4.heap.size := ⟨_, rfl⟩
  rw [← hfb] at HP5 HLT ⊢
  clear hw5 hfb HP4
  obtain ⟨k0, k1, k2, k3, k5⟩ := HCO.out _ _ _ _ _ _ HP5.out (by simp)
  by_cases hmod : C.tmod 3 = 0
  · obtain ⟨f1, hf1⟩ : ∃ f1 : Int, f1 = -1 := ⟨_, rfl⟩
    obtain ⟨f2, hf2⟩ : ∃ f2 : Int, f2 = C := ⟨_, rfl⟩
    obtain ⟨fo2, hfo2⟩ : ∃ fo2 : Obj, fo2 = .cells #[.int .i64 f1, .int .i64 f2] 62 (0, 0) := ⟨_, rfl⟩
    have HFO := Vx.hid hfo2
    have HIF : Hid (I64 f1) := by show I64 f1; rw [hf1]; unfold I64; decide
    have hfb0 := HP5.out.at (by simp : (fb, fo) ∈ _)
    rw [hfo] at hfb0
    obtain ⟨⟨z0, z1⟩, hfz⟩ := slot_cells hfb0
    have fz0 := hfz 0
    have fz1 := hfz 1
    have HST := Vx.hid (slot_set2 hfb0 (.int .i64 (-1)) (.int .i64 C))
    have hw3' : IntKind.i64.wrap (C.tmod 3) = 0 := by rw [hmod]; rfl
    clear hfz hfb0
    go_upto_region 15 with fail
    obtain ⟨w6, hw6⟩ : ∃ w6, w6 = (w5.setCell ⟨fb, 0, none⟩ (.int .i64 (-1))).setCell ⟨fb, 1, none⟩ (.int .i64 C) := ⟨_, rfl⟩
    rw [← hw6] at HST ⊢
    have HP6 := Vx.hid (HP5.out.upd (o2 := fo2) (by simp : (fb, fo) ∈ _) HST.out.2 (by rw [hfo2, hf1, hf2]; exact HST.out.1))
    obtain ⟨hl1, hl2⟩ := HLT.out
    have hne1 : ab ≠ fb := by omega
    have hne2 : ob ≠ fb := by omega
    clear k0 k1 k2 k3 k5 z0 z1 fz0 fz1 hw6 HST HP5 hmod hw3' hf1 hf2 hfo hfo2
    obtain ⟨F, hF⟩ : ∃ F : List (Nat × Obj), F = (fb, fo2) :: ([(fb, fo), (ab, so), (ob, oo)].filter fun p => decide (p.1 ≠ fb)) := ⟨_, rfl⟩
    have HMO : Hid ((ob, oo) ∈ F) := by show (ob, oo) ∈ F; rw [hF]; simp [hne1, hne2]
    have HMA : Hid ((ab, so) ∈ F) := by show (ab, so) ∈ F; rw [hF]; simp [hne1, hne2]
    have HMF : Hid ((fb, fo2) ∈ F) := by show (fb, fo2) ∈ F; rw [hF]; simp [hne1, hne2]
    rw [← hF] at HP6
    clear hF
    have HCE : Hid (∀ bx ex br er wv, PsI W xb rb zb bb Z Bk vs ss ve ls F bx ex br er wv → wv.cell? ⟨bb, 0, none⟩ = some (.pointer (some ⟨xb, 0, none⟩)) ∧ wv.cell? ⟨bb, 1, none⟩ = some (.pointer (some ⟨rb, 0, none⟩)) ∧ wv.cell? ⟨ob, 1, none⟩ = some (.int .i64 A) ∧ wv.cell? ⟨ob, 2, none⟩ = some (.int .i64 B) ∧ wv.cell? ⟨ob, 5, none⟩ = some (.string s) ∧ wv.cell? ⟨ab, 0, none⟩ = some (.int .i64 a1) ∧ wv.cell? ⟨ab, 1, none⟩ = some (.int .i64 a2) ∧ wv.cell? ⟨fb, 0, none⟩ = some (.int .i64 f1) ∧ wv.cell? ⟨fb, 1, none⟩ = some (.int .i64 f2)) := fun bx ex br er wv h => by
      obtain ⟨e0, e1, e2, e3, e5⟩ := HCO.out _ _ _ _ _ _ h HMO.out
      obtain ⟨d0, d1⟩ := HCS.out _ _ _ _ _ _ h HMA.out
      have h1 := h.at HMF.out
      rw [HFO.out] at h1
      obtain ⟨⟨g0, g1⟩, _⟩ := slot_cells h1
      exact ⟨h.bx0.1, h.bx0.2, e1, e2, e5, d0, d1, g0, g1⟩
    have HXC : Hid (∀ wv, PsI W xb rb zb bb Z Bk vs ss ve ls F bs es bs es wv → Calls Tryd.prog 28 #[.pointer (some ⟨xb, 0, none⟩), .agg #[.int .i64 a1, .int .i64 a2], .agg #[.int .i64 c0, .int .i64 c1, .int .i64 c2, .int .u32 c3, .int .u32 c4, .int .i64 c5, .int .i64 c6, .int .u32 c7], .agg #[.int .i64 f1, .int .i64 f2]] wv fun e w' => e = .returned (.int .i64 (putE bs es (a1, a2) ⟨c0, c1, c2, c3, c4, c5, c6, c7⟩ (f1, f2))) ∧ Hid (PsI W xb rb zb bb Z Bk vs ss ve ls F bs (putL bs es (a1, a2) ⟨c0, c1, c2, c3, c4, c5, c6, c7⟩ (f1, f2)) bs es w')) := fun wv h => h.xcall (fun U hx => xput_ok hx (a1, a2) ⟨c0, c1, c2, c3, c4, c5, c6, c7⟩ (f1, f2) iS HIF.out HRI.out.2 HRI.out.1 hle)
    have HRC : Hid (∀ wv, PsI W xb rb zb bb Z Bk vs ss ve ls F bs (putL bs es (a1, a2) ⟨c0, c1, c2, c3, c4, c5, c6, c7⟩ (f1, f2)) bs es wv → Calls Tryd.prog 30 #[.pointer (some ⟨rb, 0, none⟩), .agg #[.int .i64 a1, .int .i64 a2], .agg #[.int .i64 c0, .int .i64 c1, .int .i64 c2, .int .u32 c3, .int .u32 c4, .int .i64 c5, .int .i64 c6, .int .u32 c7], .agg #[.int .i64 f1, .int .i64 f2]] wv fun e w' => e = .returned (.int .i64 (putE bs es (a1, a2) ⟨c0, c1, c2, c3, c4, c5, c6, c7⟩ (f1, f2))) ∧ Hid (PsI W xb rb zb bb Z Bk vs ss ve ls F bs (putL bs es (a1, a2) ⟨c0, c1, c2, c3, c4, c5, c6, c7⟩ (f1, f2)) bs (putL bs es (a1, a2) ⟨c0, c1, c2, c3, c4, c5, c6, c7⟩ (f1, f2)) w')) := fun wv h => h.rcall (fun U hr => put_ok hr (a1, a2) ⟨c0, c1, c2, c3, c4, c5, c6, c7⟩ (f1, f2) hle)
    have HLN := Vx.hid (put_len (bs := bs) (es := es) (a1, a2) (f1, f2) ⟨c0, c1, c2, c3, c4, c5, c6, c7⟩)
    generalize putE bs es (a1, a2) ⟨c0, c1, c2, c3, c4, c5, c6, c7⟩ (f1, f2) = er at HXC HRC
    generalize putL bs es (a1, a2) ⟨c0, c1, c2, c3, c4, c5, c6, c7⟩ (f1, f2) = es2 at HXC HRC HLN
    have HI0 := Vx.hid (HP6.out.quiet ((Only.refl _ _).drew))
    have HS0 := Vx.hid (HCE.out _ _ _ _ _ HI0.out)
    go_region_held3 (fun wv => wv.cell? ⟨bb, 0, none⟩ = some (.pointer (some ⟨xb, 0, none⟩)) ∧ wv.cell? ⟨bb, 1, none⟩ = some (.pointer (some ⟨rb, 0, none⟩)) ∧ wv.cell? ⟨ob, 1, none⟩ = some (.int .i64 A) ∧ wv.cell? ⟨ob, 2, none⟩ = some (.int .i64 B) ∧ wv.cell? ⟨ob, 5, none⟩ = some (.string s) ∧ wv.cell? ⟨ab, 0, none⟩ = some (.int .i64 a1) ∧ wv.cell? ⟨ab, 1, none⟩ = some (.int .i64 a2) ∧ wv.cell? ⟨fb, 0, none⟩ = some (.int .i64 f1) ∧ wv.cell? ⟨fb, 1, none⟩ = some (.int .i64 f2)) (first | exact HS0.out | exact HS1.out | exact HS6.out) (first | (go_at_call 29; refine (HCF.out _).mono ?_; rintro e wq ⟨rfl, hq⟩; have HI6 := Vx.hid (HI0.out.quiet hq); have HS6 := Vx.hid (HCE.out _ _ _ _ _ HI6.out)) | (go_at_call 28; refine (HXC.out _ HI6.out).mono ?_; rintro e w4 ⟨rfl, HI1⟩; have HS1 := Vx.hid (HCE.out _ _ _ _ _ HI1.out)))
    go_wp2_with fail
    have HI2 := Vx.hid (HI1.out.quiet ((Only.refl _ _).drew))
    have HS2 := Vx.hid (HCE.out _ _ _ _ _ HI2.out)
    go_region_held3 (fun wv => wv.cell? ⟨bb, 0, none⟩ = some (.pointer (some ⟨xb, 0, none⟩)) ∧ wv.cell? ⟨bb, 1, none⟩ = some (.pointer (some ⟨rb, 0, none⟩)) ∧ wv.cell? ⟨ob, 1, none⟩ = some (.int .i64 A) ∧ wv.cell? ⟨ob, 2, none⟩ = some (.int .i64 B) ∧ wv.cell? ⟨ob, 5, none⟩ = some (.string s) ∧ wv.cell? ⟨ab, 0, none⟩ = some (.int .i64 a1) ∧ wv.cell? ⟨ab, 1, none⟩ = some (.int .i64 a2) ∧ wv.cell? ⟨fb, 0, none⟩ = some (.int .i64 f1) ∧ wv.cell? ⟨fb, 1, none⟩ = some (.int .i64 f2)) (first | exact HS2.out | exact HS3.out | exact HS7.out) (first | (go_at_call 29; refine (HCF.out _).mono ?_; rintro e wq ⟨rfl, hq⟩; have HI7 := Vx.hid (HI2.out.quiet hq); have HS7 := Vx.hid (HCE.out _ _ _ _ _ HI7.out)) | (go_at_call 30; refine (HRC.out _ HI7.out).mono ?_; rintro e w5 ⟨rfl, HI3⟩; have HS3 := Vx.hid (HCE.out _ _ _ _ _ HI3.out)))
    go_wp2_with fail
    all_goals
      go_ret
      exact ⟨by try rfl, HI3.out.fin (by omega) HLN.out hN⟩
  · obtain ⟨f1, hf1⟩ : ∃ f1 : Int, f1 = x1 := ⟨_, rfl⟩
    obtain ⟨f2, hf2⟩ : ∃ f2 : Int, f2 = x2 := ⟨_, rfl⟩
    obtain ⟨fo2, hfo2⟩ : ∃ fo2 : Obj, fo2 = fo := ⟨_, rfl⟩
    have HFO : Hid (fo2 = .cells #[.int .i64 f1, .int .i64 f2] 62 (0, 0)) := by show fo2 = _; rw [hfo2, hfo, hf1, hf2]
    have HIF : Hid (I64 f1) := by show I64 f1; rw [hf1]; exact iFC
    have htm : IntKind.i64.wrap (C.tmod 3) = C.tmod 3 := by
      have h1 : (C.tmod 3).natAbs < 3 := by rw [Int.natAbs_tmod]; exact Nat.mod_lt _ (by decide)
      rw [IntKind.wrap_i64]; omega
    have htz : (C.tmod 3 == 0) = false := beq_eq_false_iff_ne.2 hmod
    rw [← hfo2] at HP5
    have HP6 := HP5
    clear hfo hf1 hf2 hfo2 HP5
    go_wp2_with fail
    clear k0 k1 k2 k3 k5 htm htz hmod
    obtain ⟨F, hF⟩ : ∃ F : List (Nat × Obj), F = [(fb, fo2), (ab, so), (ob, oo)] := ⟨_, rfl⟩
    have HMO : Hid ((ob, oo) ∈ F) := by show (ob, oo) ∈ F; rw [hF]; simp
    have HMA : Hid ((ab, so) ∈ F) := by show (ab, so) ∈ F; rw [hF]; simp
    have HMF : Hid ((fb, fo2) ∈ F) := by show (fb, fo2) ∈ F; rw [hF]; simp
    rw [← hF] at HP6
    clear hF
    have HCE : Hid (∀ bx ex br er wv, PsI W xb rb zb bb Z Bk vs ss ve ls F bx ex br er wv → wv.cell? ⟨bb, 0, none⟩ = some (.pointer (some ⟨xb, 0, none⟩)) ∧ wv.cell? ⟨bb, 1, none⟩ = some (.pointer (some ⟨rb, 0, none⟩)) ∧ wv.cell? ⟨ob, 1, none⟩ = some (.int .i64 A) ∧ wv.cell? ⟨ob, 2, none⟩ = some (.int .i64 B) ∧ wv.cell? ⟨ob, 5, none⟩ = some (.string s) ∧ wv.cell? ⟨ab, 0, none⟩ = some (.int .i64 a1) ∧ wv.cell? ⟨ab, 1, none⟩ = some (.int .i64 a2) ∧ wv.cell? ⟨fb, 0, none⟩ = some (.int .i64 f1) ∧ wv.cell? ⟨fb, 1, none⟩ = some (.int .i64 f2)) := fun bx ex br er wv h => by
      obtain ⟨e0, e1, e2, e3, e5⟩ := HCO.out _ _ _ _ _ _ h HMO.out
      obtain ⟨d0, d1⟩ := HCS.out _ _ _ _ _ _ h HMA.out
      have h1 := h.at HMF.out
      rw [HFO.out] at h1
      obtain ⟨⟨g0, g1⟩, _⟩ := slot_cells h1
      exact ⟨h.bx0.1, h.bx0.2, e1, e2, e5, d0, d1, g0, g1⟩
    have HXC : Hid (∀ wv, PsI W xb rb zb bb Z Bk vs ss ve ls F bs es bs es wv → Calls Tryd.prog 28 #[.pointer (some ⟨xb, 0, none⟩), .agg #[.int .i64 a1, .int .i64 a2], .agg #[.int .i64 c0, .int .i64 c1, .int .i64 c2, .int .u32 c3, .int .u32 c4, .int .i64 c5, .int .i64 c6, .int .u32 c7], .agg #[.int .i64 f1, .int .i64 f2]] wv fun e w' => e = .returned (.int .i64 (putE bs es (a1, a2) ⟨c0, c1, c2, c3, c4, c5, c6, c7⟩ (f1, f2))) ∧ Hid (PsI W xb rb zb bb Z Bk vs ss ve ls F bs (putL bs es (a1, a2) ⟨c0, c1, c2, c3, c4, c5, c6, c7⟩ (f1, f2)) bs es w')) := fun wv h => h.xcall (fun U hx => xput_ok hx (a1, a2) ⟨c0, c1, c2, c3, c4, c5, c6, c7⟩ (f1, f2) iS HIF.out HRI.out.2 HRI.out.1 hle)
    have HRC : Hid (∀ wv, PsI W xb rb zb bb Z Bk vs ss ve ls F bs (putL bs es (a1, a2) ⟨c0, c1, c2, c3, c4, c5, c6, c7⟩ (f1, f2)) bs es wv → Calls Tryd.prog 30 #[.pointer (some ⟨rb, 0, none⟩), .agg #[.int .i64 a1, .int .i64 a2], .agg #[.int .i64 c0, .int .i64 c1, .int .i64 c2, .int .u32 c3, .int .u32 c4, .int .i64 c5, .int .i64 c6, .int .u32 c7], .agg #[.int .i64 f1, .int .i64 f2]] wv fun e w' => e = .returned (.int .i64 (putE bs es (a1, a2) ⟨c0, c1, c2, c3, c4, c5, c6, c7⟩ (f1, f2))) ∧ Hid (PsI W xb rb zb bb Z Bk vs ss ve ls F bs (putL bs es (a1, a2) ⟨c0, c1, c2, c3, c4, c5, c6, c7⟩ (f1, f2)) bs (putL bs es (a1, a2) ⟨c0, c1, c2, c3, c4, c5, c6, c7⟩ (f1, f2)) w')) := fun wv h => h.rcall (fun U hr => put_ok hr (a1, a2) ⟨c0, c1, c2, c3, c4, c5, c6, c7⟩ (f1, f2) hle)
    have HLN := Vx.hid (put_len (bs := bs) (es := es) (a1, a2) (f1, f2) ⟨c0, c1, c2, c3, c4, c5, c6, c7⟩)
    generalize putE bs es (a1, a2) ⟨c0, c1, c2, c3, c4, c5, c6, c7⟩ (f1, f2) = er at HXC HRC
    generalize putL bs es (a1, a2) ⟨c0, c1, c2, c3, c4, c5, c6, c7⟩ (f1, f2) = es2 at HXC HRC HLN
    have HI0 := Vx.hid (HP6.out.quiet ((Only.refl _ _).drew))
    have HS0 := Vx.hid (HCE.out _ _ _ _ _ HI0.out)
    go_region_held3 (fun wv => wv.cell? ⟨bb, 0, none⟩ = some (.pointer (some ⟨xb, 0, none⟩)) ∧ wv.cell? ⟨bb, 1, none⟩ = some (.pointer (some ⟨rb, 0, none⟩)) ∧ wv.cell? ⟨ob, 1, none⟩ = some (.int .i64 A) ∧ wv.cell? ⟨ob, 2, none⟩ = some (.int .i64 B) ∧ wv.cell? ⟨ob, 5, none⟩ = some (.string s) ∧ wv.cell? ⟨ab, 0, none⟩ = some (.int .i64 a1) ∧ wv.cell? ⟨ab, 1, none⟩ = some (.int .i64 a2) ∧ wv.cell? ⟨fb, 0, none⟩ = some (.int .i64 f1) ∧ wv.cell? ⟨fb, 1, none⟩ = some (.int .i64 f2)) (first | exact HS0.out | exact HS1.out | exact HS6.out) (first | (go_at_call 29; refine (HCF.out _).mono ?_; rintro e wq ⟨rfl, hq⟩; have HI6 := Vx.hid (HI0.out.quiet hq); have HS6 := Vx.hid (HCE.out _ _ _ _ _ HI6.out)) | (go_at_call 28; refine (HXC.out _ HI6.out).mono ?_; rintro e w4 ⟨rfl, HI1⟩; have HS1 := Vx.hid (HCE.out _ _ _ _ _ HI1.out)))
    go_wp2_with fail
    have HI2 := Vx.hid (HI1.out.quiet ((Only.refl _ _).drew))
    have HS2 := Vx.hid (HCE.out _ _ _ _ _ HI2.out)
    go_region_held3 (fun wv => wv.cell? ⟨bb, 0, none⟩ = some (.pointer (some ⟨xb, 0, none⟩)) ∧ wv.cell? ⟨bb, 1, none⟩ = some (.pointer (some ⟨rb, 0, none⟩)) ∧ wv.cell? ⟨ob, 1, none⟩ = some (.int .i64 A) ∧ wv.cell? ⟨ob, 2, none⟩ = some (.int .i64 B) ∧ wv.cell? ⟨ob, 5, none⟩ = some (.string s) ∧ wv.cell? ⟨ab, 0, none⟩ = some (.int .i64 a1) ∧ wv.cell? ⟨ab, 1, none⟩ = some (.int .i64 a2) ∧ wv.cell? ⟨fb, 0, none⟩ = some (.int .i64 f1) ∧ wv.cell? ⟨fb, 1, none⟩ = some (.int .i64 f2)) (first | exact HS2.out | exact HS3.out | exact HS7.out) (first | (go_at_call 29; refine (HCF.out _).mono ?_; rintro e wq ⟨rfl, hq⟩; have HI7 := Vx.hid (HI2.out.quiet hq); have HS7 := Vx.hid (HCE.out _ _ _ _ _ HI7.out)) | (go_at_call 30; refine (HRC.out _ HI7.out).mono ?_; rintro e w5 ⟨rfl, HI3⟩; have HS3 := Vx.hid (HCE.out _ _ _ _ _ HI3.out)))
    go_wp2_with fail
    all_goals
      go_ret
      exact ⟨by try rfl, HI3.out.fin (by omega) HLN.out hN⟩
end Go.Proofs.YtbmchgjilkoplaaDoor

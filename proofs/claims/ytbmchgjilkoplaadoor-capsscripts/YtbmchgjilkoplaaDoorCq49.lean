import Derived.Test.YtbmchgjilkoplaaDoorCq44
import Derived.Test.YtbmchgjilkoplaaDoorCq42
import Derived.Deep.RegionHeld3
/- CapsScripts: puts: Set. -/
namespace Go.Proofs.YtbmchgjilkoplaaDoor
open Go.ChangeShapes Go.WideShapes Go.ChangeAt Go.RowKit
open Go.Vx
set_option linter.unusedVariables false
variable {W : World} {xb rb zb bb : Nat} {X R Z Bk : Nat → Prop} {bs : List (Int × Int)} {es : List En} {vs ve : Value} {ss ls : List Sh} {wr : World}

theorem cap_set2 {w : World} {b : Nat} {x0 x1 x2 x3 x4 x5 x6 x7 : Value} (h : w.heap[b]? = some (.cells #[x0, x1, x2, x3, x4, x5, x6, x7] 66 (0, 0))) (y0 y1 : Value) : ((w.setCell ⟨b, 0, none⟩ y0).setCell ⟨b, 1, none⟩ y1).heap[b]? = some (.cells #[y0, y1, x2, x3, x4, x5, x6, x7] 66 (0, 0)) ∧ Only (fun k => k = b) w ((w.setCell ⟨b, 0, none⟩ y0).setCell ⟨b, 1, none⟩ y1) := by
  have h0 : (w.setCell ⟨b, 0, none⟩ y0).heap[b]? = some (.cells #[y0, x1, x2, x3, x4, x5, x6, x7] 66 (0, 0)) := heap_setCell_same _ _ 0 _ _ y0 h
  have o1 : Only (fun k => k = b) w (w.setCell ⟨b, 0, none⟩ y0) := Only.setCell (S := fun k => k = b) (Only.refl _ w) (Or.inl rfl) _
  exact ⟨heap_setCell_same _ _ 1 _ _ y1 h0, Only.setCell (S := fun k => k = b) o1 (p := ⟨b, 1, none⟩) (Or.inl rfl) _⟩
set_option maxRecDepth 100000 in
set_option maxHeartbeats 4000000 in
theorem puts_change (h : CsR W xb rb zb bb X R Z Bk bs es bs es vs ss ve ls wr) (A B C E : Int) (iA : I64 A) (iB : I64 B) (iC : I64 C) (s : ByteArray) (hlb : bs.length < 1000000) (hle : es.length < 1000000) (hN : N77 bs) :
    Calls Tryd.prog 8 #[.pointer (some ⟨bb, 0, none⟩), .agg #[.int .i64 6, .int .i64 A, .int .i64 B, .int .i64 C, .int .i64 E, .string s]] wr fun e w' => e = .returned (.bool true) ∧ PsR W xb rb zb bb Z Bk vs ss ve ls (bs.length + 1) (es.length + 1) w' := by
  obtain ⟨oo, hoo⟩ : ∃ oo : Obj, oo = .cells #[.int .i64 6, .int .i64 A, .int .i64 B, .int .i64 C, .int .i64 E, .string s] 45 (0, 0) := ⟨_, rfl⟩
  have HP1 : Hid (PsI W xb rb zb bb Z Bk vs ss ve ls [(wr.heap.size, oo)] bs es bs es (wr.alloc oo)) := PsI.alloc (F := []) ⟨X, R, h, fun p hp => by cases hp⟩ oo
  have HSL := Vx.hid (fun wv => slotOf_ok A iA wv)
  have iS := slot_i64 iA
  generalize slotF A = at0 at HSL iS
  obtain ⟨a1, a2⟩ := at0
  dsimp only at HSL iS
  have HCF := Vx.hid (fun wv => capOf_ok B iB s wv)
  have hgu := capF_gu B s
  generalize capF B s = cpd at HCF hgu
  obtain ⟨d0, d1, d2, d3, d4, d5, d6, d7⟩ := cpd
  simp only [cpV] at HCF
  have HGU : Hid (0 ≤ d4 ∧ d4 < 4294967296) := hgu
  clear hgu
  clear h
  go_enter Tryd.func8, Tryd.ntmps8
  go_wp2_with fail
  rw [← hoo]
  obtain ⟨w1, hw1⟩ : ∃ w1, w1 = wr.alloc oo := ⟨_, rfl⟩
  rw [← hw1] at HP1 ⊢
  obtain ⟨ob, hob⟩ : ∃ ob, ob = wr.heap.size := ⟨_, rfl⟩
  rw [← hob] at HP1 ⊢
  clear hw1 hob
  have HCO : Hid (∀ F bx ex br er wv, PsI W xb rb zb bb Z Bk vs ss ve ls F bx ex br er wv → (ob, oo) ∈ F → wv.cell? ⟨ob, 0, none⟩ = some (.int .i64 6) ∧ wv.cell? ⟨ob, 1, none⟩ = some (.int .i64 A) ∧ wv.cell? ⟨ob, 2, none⟩ = some (.int .i64 B) ∧ wv.cell? ⟨ob, 3, none⟩ = some (.int .i64 C) ∧ wv.cell? ⟨ob, 5, none⟩ = some (.string s)) := fun F bx ex br er wv h hm => by
    have h1 := h.at hm
    rw [hoo] at h1
    exact ⟨(cell_of_row _ _ 0 _ _ (0, 0) h1).trans rfl, (cell_of_row _ _ 1 _ _ (0, 0) h1).trans rfl, (cell_of_row _ _ 2 _ _ (0, 0) h1).trans rfl, (cell_of_row _ _ 3 _ _ (0, 0) h1).trans rfl, (cell_of_row _ _ 5 _ _ (0, 0) h1).trans rfl⟩
  clear hoo
  obtain ⟨k0, k1, k2, k3, k5⟩ := HCO.out _ _ _ _ _ _ HP1.out (by simp)
  go_wp2_with fail
  refine (HSL.out _).mono ?_
  rintro e w2 ⟨rfl, ho2⟩
  have HP2 := Vx.hid (HP1.out.quiet ho2)
  clear k0 k1 k2 k3 k5 HP1 ho2 HSL
  go_upto_region 2 with fail
  obtain ⟨so, hso⟩ : ∃ so : Obj, so = .cells #[.int .i64 a1, .int .i64 a2] 62 (0, 0) := ⟨_, rfl⟩
  rw [← hso]
  have HP3 := Vx.hid (HP2.out.alloc so)
  obtain ⟨w3, hw3⟩ : ∃ w3, w3 = w2.alloc so := ⟨_, rfl⟩
  rw [← hw3] at HP3 ⊢
  obtain ⟨ab, hab⟩ : ∃ ab, ab = w2.heap.size := ⟨_, rfl⟩
  rw [← hab] at HP3 ⊢
  clear hw3 hab HP2
  have HCS : Hid (∀ F bx ex br er wv, PsI W xb rb zb bb Z Bk vs ss ve ls F bx ex br er wv → (ab, so) ∈ F → wv.cell? ⟨ab, 0, none⟩ = some (.int .i64 a1) ∧ wv.cell? ⟨ab, 1, none⟩ = some (.int .i64 a2)) := fun F bx ex br er wv h hm => by
    have h1 := h.at hm
    rw [hso] at h1
    exact (slot_cells h1).1
  clear hso
  obtain ⟨F, hF⟩ : ∃ F : List (Nat × Obj), F = [(ab, so), (ob, oo)] := ⟨_, rfl⟩
  have HMO : Hid ((ob, oo) ∈ F) := by show (ob, oo) ∈ F; rw [hF]; simp
  have HMA : Hid ((ab, so) ∈ F) := by show (ab, so) ∈ F; rw [hF]; simp
  rw [← hF] at HP3
  clear hF
  have HRG : Hid (∀ F wv, PsI W xb rb zb bb Z Bk vs ss ve ls F bs es bs es wv → Calls Tryd.prog 31 #[.pointer (some ⟨rb, 0, none⟩), .agg #[.int .i64 a1, .int .i64 a2]] wv fun e w' => e = .returned (.tuple #[cpV (getF bs es (a1, a2)).1, .int .i64 (getF bs es (a1, a2)).2]) ∧ Hid (PsI W xb rb zb bb Z Bk vs ss ve ls F bs es bs es w')) := fun F wv h => h.rread (fun U vb ve hr => get_ok hr (a1, a2))
  generalize (getF bs es (a1, a2)).2 = er at HRG
  generalize (getF bs es (a1, a2)).1 = cp at HRG
  obtain ⟨c0, c1, c2, c3, c4, c5, c6, c7⟩ := cp
  simp only [cpV] at HRG
  obtain ⟨k0, _, _, _, _⟩ := HCO.out _ _ _ _ _ _ HP3.out HMO.out
  go_wp2_with fail
  clear k0
  have HCE : Hid (∀ F bx ex br er wv, PsI W xb rb zb bb Z Bk vs ss ve ls F bx ex br er wv → (ab, so) ∈ F → wv.cell? ⟨bb, 0, none⟩ = some (.pointer (some ⟨xb, 0, none⟩)) ∧ wv.cell? ⟨bb, 1, none⟩ = some (.pointer (some ⟨rb, 0, none⟩)) ∧ wv.cell? ⟨ab, 0, none⟩ = some (.int .i64 a1) ∧ wv.cell? ⟨ab, 1, none⟩ = some (.int .i64 a2)) := fun F bx ex br er wv h hm => by
    obtain ⟨d0, d1⟩ := HCS.out _ _ _ _ _ _ h hm
    exact ⟨h.bx0.1, h.bx0.2, d0, d1⟩
  have HUP : Hid (∀ F b bx ex br er wv, PsI W xb rb zb bb Z Bk vs ss ve ls ((b, .cells #[.int .i64 0, .int .i64 0, .int .i64 0, .int .u32 0, .int .u32 0, .int .i64 0, .int .i64 0, .int .u32 0] 66 (0, 0)) :: F) bx ex br er wv → PsI W xb rb zb bb Z Bk vs ss ve ls ((b, .cells #[.int .i64 c0, .int .i64 c1, .int .i64 c2, .int .u32 c3, .int .u32 c4, .int .i64 c5, .int .i64 c6, .int .u32 c7] 66 (0, 0)) :: ((b, .cells #[.int .i64 0, .int .i64 0, .int .i64 0, .int .u32 0, .int .u32 0, .int .i64 0, .int .i64 0, .int .u32 0] 66 (0, 0)) :: F).filter fun p => decide (p.1 ≠ b)) bx ex br er ((((((((wv.setCell ⟨b, 0, none⟩ (.int .i64 c0)).setCell ⟨b, 1, none⟩ (.int .i64 c1)).setCell ⟨b, 2, none⟩ (.int .i64 c2)).setCell ⟨b, 3, none⟩ (.int .u32 c3)).setCell ⟨b, 4, none⟩ (.int .u32 c4)).setCell ⟨b, 5, none⟩ (.int .i64 c5)).setCell ⟨b, 6, none⟩ (.int .i64 c6)).setCell ⟨b, 7, none⟩ (.int .u32 c7))) := fun F b bx ex br er wv h => by
    have h1 := h.at List.mem_cons_self
    exact h.upd List.mem_cons_self (only_set8 wv b _ _ _ _ _ _ _ _) (cap_set h1 (.int .i64 c0) (.int .i64 c1) (.int .i64 c2) (.int .u32 c3) (.int .u32 c4) (.int .i64 c5) (.int .i64 c6) (.int .u32 c7))
  have HUC : Hid (∀ F b bx ex br er wv, PsI W xb rb zb bb Z Bk vs ss ve ls ((b, .cells #[.int .i64 0, .int .i64 0, .int .i64 0, .int .u32 0, .int .u32 0, .int .i64 0, .int .i64 0, .int .u32 0] 66 (0, 0)) :: F) bx ex br er wv → (ab, so) ∈ F → ab ≠ b → ((((((((wv.setCell ⟨b, 0, none⟩ (.int .i64 c0)).setCell ⟨b, 1, none⟩ (.int .i64 c1)).setCell ⟨b, 2, none⟩ (.int .i64 c2)).setCell ⟨b, 3, none⟩ (.int .u32 c3)).setCell ⟨b, 4, none⟩ (.int .u32 c4)).setCell ⟨b, 5, none⟩ (.int .i64 c5)).setCell ⟨b, 6, none⟩ (.int .i64 c6)).setCell ⟨b, 7, none⟩ (.int .u32 c7)).cell? ⟨bb, 0, none⟩ = some (.pointer (some ⟨xb, 0, none⟩)) ∧ ((((((((wv.setCell ⟨b, 0, none⟩ (.int .i64 c0)).setCell ⟨b, 1, none⟩ (.int .i64 c1)).setCell ⟨b, 2, none⟩ (.int .i64 c2)).setCell ⟨b, 3, none⟩ (.int .u32 c3)).setCell ⟨b, 4, none⟩ (.int .u32 c4)).setCell ⟨b, 5, none⟩ (.int .i64 c5)).setCell ⟨b, 6, none⟩ (.int .i64 c6)).setCell ⟨b, 7, none⟩ (.int .u32 c7)).cell? ⟨bb, 1, none⟩ = some (.pointer (some ⟨rb, 0, none⟩)) ∧ ((((((((wv.setCell ⟨b, 0, none⟩ (.int .i64 c0)).setCell ⟨b, 1, none⟩ (.int .i64 c1)).setCell ⟨b, 2, none⟩ (.int .i64 c2)).setCell ⟨b, 3, none⟩ (.int .u32 c3)).setCell ⟨b, 4, none⟩ (.int .u32 c4)).setCell ⟨b, 5, none⟩ (.int .i64 c5)).setCell ⟨b, 6, none⟩ (.int .i64 c6)).setCell ⟨b, 7, none⟩ (.int .u32 c7)).cell? ⟨ab, 0, none⟩ = some (.int .i64 a1) ∧ ((((((((wv.setCell ⟨b, 0, none⟩ (.int .i64 c0)).setCell ⟨b, 1, none⟩ (.int .i64 c1)).setCell ⟨b, 2, none⟩ (.int .i64 c2)).setCell ⟨b, 3, none⟩ (.int .u32 c3)).setCell ⟨b, 4, none⟩ (.int .u32 c4)).setCell ⟨b, 5, none⟩ (.int .i64 c5)).setCell ⟨b, 6, none⟩ (.int .i64 c6)).setCell ⟨b, 7, none⟩ (.int .u32 c7)).cell? ⟨ab, 1, none⟩ = some (.int .i64 a2)) := fun F b bx ex br er wv h hm hne => HCE.out _ _ _ _ _ _ (HUP.out _ _ _ _ _ _ _ h) (by simp [hne, hm])
  have HIg := Vx.hid (HP3.out.quiet ((Only.refl _ _).drew))
  have HIAg : Hid (∀ o, _) := fun o => (HP3.out.alloc o).quiet (w2 := (w3.alloc o).drew) ((Only.refl _ _).drew)
  have HS0 := Vx.hid (HCE.out _ _ _ _ _ _ HIg.out HMA.out)
  have HSA := Vx.hid (fun o => HCE.out _ _ _ _ _ _ (HIAg.out o) (List.mem_cons_of_mem _ HMA.out))
  have HS1 := HS0
  have HSB := HSA
  have HSC := HS0
  have HALg : Hid (ab < w3.heap.size) := lt_of_some (HP3.out.at HMA.out)
  go_region_held3 (fun wv => wv.cell? ⟨bb, 0, none⟩ = some (.pointer (some ⟨xb, 0, none⟩)) ∧ wv.cell? ⟨bb, 1, none⟩ = some (.pointer (some ⟨rb, 0, none⟩)) ∧ wv.cell? ⟨ab, 0, none⟩ = some (.int .i64 a1) ∧ wv.cell? ⟨ab, 1, none⟩ = some (.int .i64 a2)) (first | with_reducible exact HS0.out | with_reducible exact HSA.out _ | with_reducible exact HS1.out | with_reducible exact HSB.out _ | with_reducible exact HSC.out) (first | (go_at_call 31; refine (HRG.out _ _ (by first | exact HIg.out | exact HIAg.out _)).mono ?_; rintro e wcg ⟨rfl, HJg⟩; have HS1 := Vx.hid (HCE.out _ _ _ _ _ _ HJg.out (by first | exact HMA.out | exact List.mem_cons_of_mem _ HMA.out)); have HSB := Vx.hid (fun o => HCE.out _ _ _ _ _ _ (HJg.out.alloc o) (by first | exact List.mem_cons_of_mem _ HMA.out | exact List.mem_cons_of_mem _ (List.mem_cons_of_mem _ HMA.out))); try (obtain ⟨⟨z0, z1, z2, z3, z4, z5, z6, z7⟩, hfz⟩ := cap_cells8 (HJg.out.at List.mem_cons_self); have q0 := hfz 0; have q1 := hfz 1; have q2 := hfz 2; have q3 := hfz 3; have q4 := hfz 4; have q5 := hfz 5; have q6 := hfz 6; have q7 := hfz 7; clear hfz; have HSC := Vx.hid (HUC.out _ _ _ _ _ _ _ HJg.out HMA.out (Nat.ne_of_lt HALg.out)))))
  · have HPg := Vx.hid (HJg.out.alloc (.cells #[.int .i64 c0, .int .i64 c1, .int .i64 c2, .int .u32 c3, .int .u32 c4, .int .i64 c5, .int .i64 c6, .int .u32 c7] 66 (0, 0)))
    obtain ⟨wg, hwg⟩ : ∃ wg, wg = wcg.alloc (.cells #[.int .i64 c0, .int .i64 c1, .int .i64 c2, .int .u32 c3, .int .u32 c4, .int .i64 c5, .int .i64 c6, .int .u32 c7] 66 (0, 0)) := ⟨_, rfl⟩
    rw [← hwg] at HPg ⊢
    obtain ⟨cbg, hcbg⟩ : ∃ cb, cb = wcg.heap.size := ⟨_, rfl⟩
    rw [← hcbg] at HPg ⊢
    obtain ⟨Fg, hFg⟩ : ∃ FF : List (Nat × Obj), FF = (cbg, .cells #[.int .i64 c0, .int .i64 c1, .int .i64 c2, .int .u32 c3, .int .u32 c4, .int .i64 c5, .int .i64 c6, .int .u32 c7] 66 (0, 0)) :: F := ⟨_, rfl⟩
    rw [← hFg] at HPg
    have HMAg : Hid ((ab, so) ∈ Fg) := by show (ab, so) ∈ Fg; rw [hFg]; exact List.mem_cons_of_mem _ HMA.out
    have HMCg : Hid ((cbg, .cells #[.int .i64 c0, .int .i64 c1, .int .i64 c2, .int .u32 c3, .int .u32 c4, .int .i64 c5, .int .i64 c6, .int .u32 c7] 66 (0, 0)) ∈ Fg) := by show (cbg, _) ∈ Fg; rw [hFg]; exact List.mem_cons_self
    have HMOg : Hid ((ob, oo) ∈ Fg) := by show (ob, oo) ∈ Fg; rw [hFg]; exact List.mem_cons_of_mem _ HMO.out
    clear hwg hcbg hFg HJg HIg HIAg HS0 HSA HS1 HSB HSC
    obtain ⟨_, _, k2, _, k5⟩ := HCO.out _ _ _ _ _ _ HPg.out HMOg.out
    go_wp2_with fail
    refine (HCF.out _).mono ?_
    rintro e w8 ⟨rfl, ho8⟩
    have HP8 := Vx.hid (HPg.out.quiet ho8)
    clear k2 k5 ho8
    go_upto_region 21 with fail
    have HP9 := Vx.hid (HP8.out.alloc (.cells #[.int .i64 d0, .int .i64 d1, .int .i64 d2, .int .u32 d3, .int .u32 d4, .int .i64 d5, .int .i64 d6, .int .u32 d7] 66 (0, 0)))
    have HLT9 : Hid (ab < w8.heap.size ∧ ob < w8.heap.size ∧ cbg < w8.heap.size) := ⟨lt_of_some (HP8.out.at HMAg.out), lt_of_some (HP8.out.at HMOg.out), lt_of_some (HP8.out.at HMCg.out)⟩
    obtain ⟨w9, hw9⟩ : ∃ w9, w9 = w8.alloc (.cells #[.int .i64 d0, .int .i64 d1, .int .i64 d2, .int .u32 d3, .int .u32 d4, .int .i64 d5, .int .i64 d6, .int .u32 d7] 66 (0, 0)) := ⟨_, rfl⟩
    rw [← hw9] at HP9 ⊢
    obtain ⟨db, hdb⟩ : ∃ db, db = w8.heap.size := ⟨_, rfl⟩
    rw [← hdb] at HP9 HLT9 ⊢
    clear hw9 hdb HP8
    obtain ⟨_, _, k2, _, _⟩ := HCO.out _ _ _ _ _ _ HP9.out (List.mem_cons_of_mem _ HMOg.out)
    have htm : IntKind.i64.wrap (B.tmod 5) = B.tmod 5 := by
      have h1 : (B.tmod 5).natAbs < 5 := by rw [Int.natAbs_tmod]; exact Nat.mod_lt _ (by decide)
      rw [IntKind.wrap_i64]; omega
    by_cases hmod : 0 < B.tmod 5
    · obtain ⟨⟨g0, g1, _⟩, _⟩ := cap_cells8 (HP9.out.at (List.mem_cons_of_mem _ HMCg.out))
      have hdb0 := HP9.out.at List.mem_cons_self
      obtain ⟨⟨z0, z1, _⟩, hfz⟩ := cap_cells8 hdb0
      have fz0 := hfz 0
      have fz1 := hfz 1
      have HST := Vx.hid (cap_set2 hdb0 (.int .i64 c0) (.int .i64 c1))
      clear hfz hdb0
      go_upto_region 23 with fail
      obtain ⟨wA, hwA⟩ : ∃ wA, wA = (w9.setCell ⟨db, 0, none⟩ (.int .i64 c0)).setCell ⟨db, 1, none⟩ (.int .i64 c1) := ⟨_, rfl⟩
      rw [← hwA] at HST ⊢
      have HPD := Vx.hid (HP9.out.upd List.mem_cons_self HST.out.2 HST.out.1)
      obtain ⟨e0, he0⟩ : ∃ e0, e0 = c0 := ⟨_, rfl⟩
      obtain ⟨e1, he1⟩ : ∃ e1, e1 = c1 := ⟨_, rfl⟩
      rw [← he0, ← he1] at HPD
      obtain ⟨l1, l2, l3⟩ := HLT9.out
      have hne1 : ab ≠ db := by omega
      obtain ⟨FD, hFD⟩ : ∃ FF : List (Nat × Obj), FF = (db, .cells #[.int .i64 e0, .int .i64 e1, .int .i64 d2, .int .u32 d3, .int .u32 d4, .int .i64 d5, .int .i64 d6, .int .u32 d7] 66 (0, 0)) :: ((db, .cells #[.int .i64 d0, .int .i64 d1, .int .i64 d2, .int .u32 d3, .int .u32 d4, .int .i64 d5, .int .i64 d6, .int .u32 d7] 66 (0, 0)) :: Fg).filter (fun p => decide (p.1 ≠ db)) := ⟨_, rfl⟩
      rw [← hFD] at HPD
      have HMAD : Hid ((ab, so) ∈ FD) := by show (ab, so) ∈ FD; rw [hFD]; simp [hne1, HMAg.out]
      have HMDD : Hid ((db, .cells #[.int .i64 e0, .int .i64 e1, .int .i64 d2, .int .u32 d3, .int .u32 d4, .int .i64 d5, .int .i64 d6, .int .u32 d7] 66 (0, 0)) ∈ FD) := by show (db, _) ∈ FD; rw [hFD]; exact List.mem_cons_self
      clear k2 g0 g1 z0 z1 fz0 fz1 hwA HST HP9 hFD hmod htm he0 he1
      have HCD : Hid (∀ bx ex br er wv, PsI W xb rb zb bb Z Bk vs ss ve ls FD bx ex br er wv → wv.cell? ⟨bb, 0, none⟩ = some (.pointer (some ⟨xb, 0, none⟩)) ∧ wv.cell? ⟨bb, 1, none⟩ = some (.pointer (some ⟨rb, 0, none⟩)) ∧ wv.cell? ⟨ab, 0, none⟩ = some (.int .i64 a1) ∧ wv.cell? ⟨ab, 1, none⟩ = some (.int .i64 a2) ∧ wv.cell? ⟨db, 0, none⟩ = some (.int .i64 e0) ∧ wv.cell? ⟨db, 1, none⟩ = some (.int .i64 e1) ∧ wv.cell? ⟨db, 2, none⟩ = some (.int .i64 d2) ∧ wv.cell? ⟨db, 3, none⟩ = some (.int .u32 d3) ∧ wv.cell? ⟨db, 4, none⟩ = some (.int .u32 d4) ∧ wv.cell? ⟨db, 5, none⟩ = some (.int .i64 d5) ∧ wv.cell? ⟨db, 6, none⟩ = some (.int .i64 d6) ∧ wv.cell? ⟨db, 7, none⟩ = some (.int .u32 d7)) := fun bx ex br er wv h => by
        obtain ⟨g0, g1, g2, g3⟩ := HCE.out _ _ _ _ _ _ h HMAD.out
        obtain ⟨⟨q0, q1, q2, q3, q4, q5, q6, q7⟩, _⟩ := cap_cells8 (h.at HMDD.out)
        exact ⟨g0, g1, g2, g3, q0, q1, q2, q3, q4, q5, q6, q7⟩
      have HXS : Hid (∀ wv, PsI W xb rb zb bb Z Bk vs ss ve ls FD bs es bs es wv → Calls Tryd.prog 32 #[.pointer (some ⟨xb, 0, none⟩), .agg #[.int .i64 a1, .int .i64 a2], .agg #[.int .i64 e0, .int .i64 e1, .int .i64 d2, .int .u32 d3, .int .u32 d4, .int .i64 d5, .int .i64 d6, .int .u32 d7]] wv fun e w' => e = .returned (.int .i64 (setE bs es (a1, a2) ⟨e0, e1, d2, d3, d4, d5, d6, d7⟩)) ∧ Hid (PsI W xb rb zb bb Z Bk vs ss ve ls FD bs (setL bs es (a1, a2) ⟨e0, e1, d2, d3, d4, d5, d6, d7⟩) bs es w')) := fun wv h => h.xcall (fun U hx => xset_ok hx (a1, a2) iS ⟨e0, e1, d2, d3, d4, d5, d6, d7⟩ HGU.out)
      have HRS : Hid (∀ wv, PsI W xb rb zb bb Z Bk vs ss ve ls FD bs (setL bs es (a1, a2) ⟨e0, e1, d2, d3, d4, d5, d6, d7⟩) bs es wv → Calls Tryd.prog 33 #[.pointer (some ⟨rb, 0, none⟩), .agg #[.int .i64 a1, .int .i64 a2], .agg #[.int .i64 e0, .int .i64 e1, .int .i64 d2, .int .u32 d3, .int .u32 d4, .int .i64 d5, .int .i64 d6, .int .u32 d7]] wv fun e w' => e = .returned (.int .i64 (setE bs es (a1, a2) ⟨e0, e1, d2, d3, d4, d5, d6, d7⟩)) ∧ Hid (PsI W xb rb zb bb Z Bk vs ss ve ls FD bs (setL bs es (a1, a2) ⟨e0, e1, d2, d3, d4, d5, d6, d7⟩) bs (setL bs es (a1, a2) ⟨e0, e1, d2, d3, d4, d5, d6, d7⟩) w')) := fun wv h => h.rcall (fun U hr => set_ok hr (a1, a2) ⟨e0, e1, d2, d3, d4, d5, d6, d7⟩)
      have HLN := Vx.hid (set_len bs es (a1, a2) ⟨e0, e1, d2, d3, d4, d5, d6, d7⟩)
      generalize setE bs es (a1, a2) ⟨e0, e1, d2, d3, d4, d5, d6, d7⟩ = err at HXS HRS
      generalize setL bs es (a1, a2) ⟨e0, e1, d2, d3, d4, d5, d6, d7⟩ = es2 at HXS HRS HLN
      have HJ0 := Vx.hid (HPD.out.quiet ((Only.refl _ _).drew))
      have HT0 := Vx.hid (HCD.out _ _ _ _ _ HJ0.out)
      have HT1 := HT0
      go_region_held3 (fun wv => wv.cell? ⟨bb, 0, none⟩ = some (.pointer (some ⟨xb, 0, none⟩)) ∧ wv.cell? ⟨bb, 1, none⟩ = some (.pointer (some ⟨rb, 0, none⟩)) ∧ wv.cell? ⟨ab, 0, none⟩ = some (.int .i64 a1) ∧ wv.cell? ⟨ab, 1, none⟩ = some (.int .i64 a2) ∧ wv.cell? ⟨db, 0, none⟩ = some (.int .i64 e0) ∧ wv.cell? ⟨db, 1, none⟩ = some (.int .i64 e1) ∧ wv.cell? ⟨db, 2, none⟩ = some (.int .i64 d2) ∧ wv.cell? ⟨db, 3, none⟩ = some (.int .u32 d3) ∧ wv.cell? ⟨db, 4, none⟩ = some (.int .u32 d4) ∧ wv.cell? ⟨db, 5, none⟩ = some (.int .i64 d5) ∧ wv.cell? ⟨db, 6, none⟩ = some (.int .i64 d6) ∧ wv.cell? ⟨db, 7, none⟩ = some (.int .u32 d7)) (first | with_reducible exact HT0.out | with_reducible exact HT1.out) (first | (go_at_call 32; refine (HXS.out _ HJ0.out).mono ?_; rintro e wS ⟨rfl, HJ1⟩; have HT1 := Vx.hid (HCD.out _ _ _ _ _ HJ1.out)))
      go_wp2_with fail
      have HJ2 := Vx.hid (HJ1.out.quiet ((Only.refl _ _).drew))
      have HT2 := Vx.hid (HCD.out _ _ _ _ _ HJ2.out)
      have HT3 := HT2
      go_region_held3 (fun wv => wv.cell? ⟨bb, 0, none⟩ = some (.pointer (some ⟨xb, 0, none⟩)) ∧ wv.cell? ⟨bb, 1, none⟩ = some (.pointer (some ⟨rb, 0, none⟩)) ∧ wv.cell? ⟨ab, 0, none⟩ = some (.int .i64 a1) ∧ wv.cell? ⟨ab, 1, none⟩ = some (.int .i64 a2) ∧ wv.cell? ⟨db, 0, none⟩ = some (.int .i64 e0) ∧ wv.cell? ⟨db, 1, none⟩ = some (.int .i64 e1) ∧ wv.cell? ⟨db, 2, none⟩ = some (.int .i64 d2) ∧ wv.cell? ⟨db, 3, none⟩ = some (.int .u32 d3) ∧ wv.cell? ⟨db, 4, none⟩ = some (.int .u32 d4) ∧ wv.cell? ⟨db, 5, none⟩ = some (.int .i64 d5) ∧ wv.cell? ⟨db, 6, none⟩ = some (.int .i64 d6) ∧ wv.cell? ⟨db, 7, none⟩ = some (.int .u32 d7)) (first | with_reducible exact HT2.out | with_reducible exact HT3.out) (first | (go_at_call 33; refine (HRS.out _ HJ2.out).mono ?_; rintro e wT ⟨rfl, HJ3⟩; have HT3 := Vx.hid (HCD.out _ _ _ _ _ HJ3.out)))
      go_wp2_with fail
      all_goals
        go_ret
        exact ⟨by try rfl, HJ3.out.fin (by omega) (by have := HLN.out; omega) hN⟩
    · have hle0 : ¬ 0 < B.tmod 5 := hmod
      have hdec : decide (0 < B.tmod 5) = false := decide_eq_false hmod
      obtain ⟨e0, he0⟩ : ∃ e0, e0 = d0 := ⟨_, rfl⟩
      obtain ⟨e1, he1⟩ : ∃ e1, e1 = d1 := ⟨_, rfl⟩
      go_wp2_with fail
      have HPD := HP9
      rw [← he0, ← he1] at HPD
      obtain ⟨FD, hFD⟩ : ∃ FF : List (Nat × Obj), FF = (db, .cells #[.int .i64 e0, .int .i64 e1, .int .i64 d2, .int .u32 d3, .int .u32 d4, .int .i64 d5, .int .i64 d6, .int .u32 d7] 66 (0, 0)) :: Fg := ⟨_, rfl⟩
      rw [← hFD] at HPD
      have HMAD : Hid ((ab, so) ∈ FD) := by show (ab, so) ∈ FD; rw [hFD]; exact List.mem_cons_of_mem _ HMAg.out
      have HMDD : Hid ((db, .cells #[.int .i64 e0, .int .i64 e1, .int .i64 d2, .int .u32 d3, .int .u32 d4, .int .i64 d5, .int .i64 d6, .int .u32 d7] 66 (0, 0)) ∈ FD) := by show (db, _) ∈ FD; rw [hFD]; exact List.mem_cons_self
      clear k2 HP9 hFD hmod htm he0 he1 hdec hle0
      have HCD : Hid (∀ bx ex br er wv, PsI W xb rb zb bb Z Bk vs ss ve ls FD bx ex br er wv → wv.cell? ⟨bb, 0, none⟩ = some (.pointer (some ⟨xb, 0, none⟩)) ∧ wv.cell? ⟨bb, 1, none⟩ = some (.pointer (some ⟨rb, 0, none⟩)) ∧ wv.cell? ⟨ab, 0, none⟩ = some (.int .i64 a1) ∧ wv.cell? ⟨ab, 1, none⟩ = some (.int .i64 a2) ∧ wv.cell? ⟨db, 0, none⟩ = some (.int .i64 e0) ∧ wv.cell? ⟨db, 1, none⟩ = some (.int .i64 e1) ∧ wv.cell? ⟨db, 2, none⟩ = some (.int .i64 d2) ∧ wv.cell? ⟨db, 3, none⟩ = some (.int .u32 d3) ∧ wv.cell? ⟨db, 4, none⟩ = some (.int .u32 d4) ∧ wv.cell? ⟨db, 5, none⟩ = some (.int .i64 d5) ∧ wv.cell? ⟨db, 6, none⟩ = some (.int .i64 d6) ∧ wv.cell? ⟨db, 7, none⟩ = some (.int .u32 d7)) := fun bx ex br er wv h => by
        obtain ⟨g0, g1, g2, g3⟩ := HCE.out _ _ _ _ _ _ h HMAD.out
        obtain ⟨⟨q0, q1, q2, q3, q4, q5, q6, q7⟩, _⟩ := cap_cells8 (h.at HMDD.out)
        exact ⟨g0, g1, g2, g3, q0, q1, q2, q3, q4, q5, q6, q7⟩
      have HXS : Hid (∀ wv, PsI W xb rb zb bb Z Bk vs ss ve ls FD bs es bs es wv → Calls Tryd.prog 32 #[.pointer (some ⟨xb, 0, none⟩), .agg #[.int .i64 a1, .int .i64 a2], .agg #[.int .i64 e0, .int .i64 e1, .int .i64 d2, .int .u32 d3, .int .u32 d4, .int .i64 d5, .int .i64 d6, .int .u32 d7]] wv fun e w' => e = .returned (.int .i64 (setE bs es (a1, a2) ⟨e0, e1, d2, d3, d4, d5, d6, d7⟩)) ∧ Hid (PsI W xb rb zb bb Z Bk vs ss ve ls FD bs (setL bs es (a1, a2) ⟨e0, e1, d2, d3, d4, d5, d6, d7⟩) bs es w')) := fun wv h => h.xcall (fun U hx => xset_ok hx (a1, a2) iS ⟨e0, e1, d2, d3, d4, d5, d6, d7⟩ HGU.out)
      have HRS : Hid (∀ wv, PsI W xb rb zb bb Z Bk vs ss ve ls FD bs (setL bs es (a1, a2) ⟨e0, e1, d2, d3, d4, d5, d6, d7⟩) bs es wv → Calls Tryd.prog 33 #[.pointer (some ⟨rb, 0, none⟩), .agg #[.int .i64 a1, .int .i64 a2], .agg #[.int .i64 e0, .int .i64 e1, .int .i64 d2, .int .u32 d3, .int .u32 d4, .int .i64 d5, .int .i64 d6, .int .u32 d7]] wv fun e w' => e = .returned (.int .i64 (setE bs es (a1, a2) ⟨e0, e1, d2, d3, d4, d5, d6, d7⟩)) ∧ Hid (PsI W xb rb zb bb Z Bk vs ss ve ls FD bs (setL bs es (a1, a2) ⟨e0, e1, d2, d3, d4, d5, d6, d7⟩) bs (setL bs es (a1, a2) ⟨e0, e1, d2, d3, d4, d5, d6, d7⟩) w')) := fun wv h => h.rcall (fun U hr => set_ok hr (a1, a2) ⟨e0, e1, d2, d3, d4, d5, d6, d7⟩)
      have HLN := Vx.hid (set_len bs es (a1, a2) ⟨e0, e1, d2, d3, d4, d5, d6, d7⟩)
      generalize setE bs es (a1, a2) ⟨e0, e1, d2, d3, d4, d5, d6, d7⟩ = err at HXS HRS
      generalize setL bs es (a1, a2) ⟨e0, e1, d2, d3, d4, d5, d6, d7⟩ = es2 at HXS HRS HLN
      have HJ0 := Vx.hid (HPD.out.quiet ((Only.refl _ _).drew))
      have HT0 := Vx.hid (HCD.out _ _ _ _ _ HJ0.out)
      have HT1 := HT0
      go_region_held3 (fun wv => wv.cell? ⟨bb, 0, none⟩ = some (.pointer (some ⟨xb, 0, none⟩)) ∧ wv.cell? ⟨bb, 1, none⟩ = some (.pointer (some ⟨rb, 0, none⟩)) ∧ wv.cell? ⟨ab, 0, none⟩ = some (.int .i64 a1) ∧ wv.cell? ⟨ab, 1, none⟩ = some (.int .i64 a2) ∧ wv.cell? ⟨db, 0, none⟩ = some (.int .i64 e0) ∧ wv.cell? ⟨db, 1, none⟩ = some (.int .i64 e1) ∧ wv.cell? ⟨db, 2, none⟩ = some (.int .i64 d2) ∧ wv.cell? ⟨db, 3, none⟩ = some (.int .u32 d3) ∧ wv.cell? ⟨db, 4, none⟩ = some (.int .u32 d4) ∧ wv.cell? ⟨db, 5, none⟩ = some (.int .i64 d5) ∧ wv.cell? ⟨db, 6, none⟩ = some (.int .i64 d6) ∧ wv.cell? ⟨db, 7, none⟩ = some (.int .u32 d7)) (first | with_reducible exact HT0.out | with_reducible exact HT1.out) (first | (go_at_call 32; refine (HXS.out _ HJ0.out).mono ?_; rintro e wS ⟨rfl, HJ1⟩; have HT1 := Vx.hid (HCD.out _ _ _ _ _ HJ1.out)))
      go_wp2_with fail
      have HJ2 := Vx.hid (HJ1.out.quiet ((Only.refl _ _).drew))
      have HT2 := Vx.hid (HCD.out _ _ _ _ _ HJ2.out)
      have HT3 := HT2
      go_region_held3 (fun wv => wv.cell? ⟨bb, 0, none⟩ = some (.pointer (some ⟨xb, 0, none⟩)) ∧ wv.cell? ⟨bb, 1, none⟩ = some (.pointer (some ⟨rb, 0, none⟩)) ∧ wv.cell? ⟨ab, 0, none⟩ = some (.int .i64 a1) ∧ wv.cell? ⟨ab, 1, none⟩ = some (.int .i64 a2) ∧ wv.cell? ⟨db, 0, none⟩ = some (.int .i64 e0) ∧ wv.cell? ⟨db, 1, none⟩ = some (.int .i64 e1) ∧ wv.cell? ⟨db, 2, none⟩ = some (.int .i64 d2) ∧ wv.cell? ⟨db, 3, none⟩ = some (.int .u32 d3) ∧ wv.cell? ⟨db, 4, none⟩ = some (.int .u32 d4) ∧ wv.cell? ⟨db, 5, none⟩ = some (.int .i64 d5) ∧ wv.cell? ⟨db, 6, none⟩ = some (.int .i64 d6) ∧ wv.cell? ⟨db, 7, none⟩ = some (.int .u32 d7)) (first | with_reducible exact HT2.out | with_reducible exact HT3.out) (first | (go_at_call 33; refine (HRS.out _ HJ2.out).mono ?_; rintro e wT ⟨rfl, HJ3⟩; have HT3 := Vx.hid (HCD.out _ _ _ _ _ HJ3.out)))
      go_wp2_with fail
      all_goals
        go_ret
        exact ⟨by try rfl, HJ3.out.fin (by omega) (by have := HLN.out; omega) hN⟩
  · have HPg := Vx.hid (HUP.out _ _ _ _ _ _ _ HJg.out)
    obtain ⟨wg, hwg⟩ : ∃ wg, wg = (((((((wcg.setCell ⟨w3.heap.size, 0, none⟩ (.int .i64 c0)).setCell ⟨w3.heap.size, 1, none⟩ (.int .i64 c1)).setCell ⟨w3.heap.size, 2, none⟩ (.int .i64 c2)).setCell ⟨w3.heap.size, 3, none⟩ (.int .u32 c3)).setCell ⟨w3.heap.size, 4, none⟩ (.int .u32 c4)).setCell ⟨w3.heap.size, 5, none⟩ (.int .i64 c5)).setCell ⟨w3.heap.size, 6, none⟩ (.int .i64 c6)).setCell ⟨w3.heap.size, 7, none⟩ (.int .u32 c7) := ⟨_, rfl⟩
    rw [← hwg] at HPg ⊢
    obtain ⟨cbg, hcbg⟩ : ∃ cb, cb = w3.heap.size := ⟨_, rfl⟩
    have HCBg := Vx.hid hcbg
    clear hwg z0 z1 z2 z3 z4 z5 z6 z7 q0 q1 q2 q3 q4 q5 q6 q7 HS0 HSA HS1 HSB HSC
    rw [← hcbg] at HPg ⊢
    obtain ⟨Fg, hFg⟩ : ∃ FF : List (Nat × Obj), FF = (cbg, .cells #[.int .i64 c0, .int .i64 c1, .int .i64 c2, .int .u32 c3, .int .u32 c4, .int .i64 c5, .int .i64 c6, .int .u32 c7] 66 (0, 0)) :: ((cbg, .cells #[.int .i64 0, .int .i64 0, .int .i64 0, .int .u32 0, .int .u32 0, .int .i64 0, .int .i64 0, .int .u32 0] 66 (0, 0)) :: F).filter (fun p => decide (p.1 ≠ cbg)) := ⟨_, rfl⟩
    rw [← hFg] at HPg
    have HMAg : Hid ((ab, so) ∈ Fg) := by
      show (ab, so) ∈ Fg
      have h9 := HALg.out
      have h10 : ab ≠ cbg := by have := HCBg.out; omega
      rw [hFg]
      simp [h10, HMA.out]
    have HMCg : Hid ((cbg, .cells #[.int .i64 c0, .int .i64 c1, .int .i64 c2, .int .u32 c3, .int .u32 c4, .int .i64 c5, .int .i64 c6, .int .u32 c7] 66 (0, 0)) ∈ Fg) := by show (cbg, _) ∈ Fg; rw [hFg]; exact List.mem_cons_self
    have HMOg : Hid ((ob, oo) ∈ Fg) := by
      show (ob, oo) ∈ Fg
      have h9 := lt_of_some (HP3.out.at HMO.out)
      have h10 : ob ≠ cbg := by have := HCBg.out; omega
      rw [hFg]
      simp [h10, HMO.out]
    clear hcbg hFg HJg HIg HIAg HCBg
    obtain ⟨_, _, k2, _, k5⟩ := HCO.out _ _ _ _ _ _ HPg.out HMOg.out
    go_wp2_with fail
    refine (HCF.out _).mono ?_
    rintro e w8 ⟨rfl, ho8⟩
    have HP8 := Vx.hid (HPg.out.quiet ho8)
    clear k2 k5 ho8
    go_upto_region 21 with fail
    have HP9 := Vx.hid (HP8.out.alloc (.cells #[.int .i64 d0, .int .i64 d1, .int .i64 d2, .int .u32 d3, .int .u32 d4, .int .i64 d5, .int .i64 d6, .int .u32 d7] 66 (0, 0)))
    have HLT9 : Hid (ab < w8.heap.size ∧ ob < w8.heap.size ∧ cbg < w8.heap.size) := ⟨lt_of_some (HP8.out.at HMAg.out), lt_of_some (HP8.out.at HMOg.out), lt_of_some (HP8.out.at HMCg.out)⟩
    obtain ⟨w9, hw9⟩ : ∃ w9, w9 = w8.alloc (.cells #[.int .i64 d0, .int .i64 d1, .int .i64 d2, .int .u32 d3, .int .u32 d4, .int .i64 d5, .int .i64 d6, .int .u32 d7] 66 (0, 0)) := ⟨_, rfl⟩
    rw [← hw9] at HP9 ⊢
    obtain ⟨db, hdb⟩ : ∃ db, db = w8.heap.size := ⟨_, rfl⟩
    rw [← hdb] at HP9 HLT9 ⊢
    clear hw9 hdb HP8
    obtain ⟨_, _, k2, _, _⟩ := HCO.out _ _ _ _ _ _ HP9.out (List.mem_cons_of_mem _ HMOg.out)
    have htm : IntKind.i64.wrap (B.tmod 5) = B.tmod 5 := by
      have h1 : (B.tmod 5).natAbs < 5 := by rw [Int.natAbs_tmod]; exact Nat.mod_lt _ (by decide)
      rw [IntKind.wrap_i64]; omega
    by_cases hmod : 0 < B.tmod 5
    · obtain ⟨⟨g0, g1, _⟩, _⟩ := cap_cells8 (HP9.out.at (List.mem_cons_of_mem _ HMCg.out))
      have hdb0 := HP9.out.at List.mem_cons_self
      obtain ⟨⟨z0, z1, _⟩, hfz⟩ := cap_cells8 hdb0
      have fz0 := hfz 0
      have fz1 := hfz 1
      have HST := Vx.hid (cap_set2 hdb0 (.int .i64 c0) (.int .i64 c1))
      clear hfz hdb0
      go_upto_region 23 with fail
      obtain ⟨wA, hwA⟩ : ∃ wA, wA = (w9.setCell ⟨db, 0, none⟩ (.int .i64 c0)).setCell ⟨db, 1, none⟩ (.int .i64 c1) := ⟨_, rfl⟩
      rw [← hwA] at HST ⊢
      have HPD := Vx.hid (HP9.out.upd List.mem_cons_self HST.out.2 HST.out.1)
      obtain ⟨e0, he0⟩ : ∃ e0, e0 = c0 := ⟨_, rfl⟩
      obtain ⟨e1, he1⟩ : ∃ e1, e1 = c1 := ⟨_, rfl⟩
      rw [← he0, ← he1] at HPD
      obtain ⟨l1, l2, l3⟩ := HLT9.out
      have hne1 : ab ≠ db := by omega
      obtain ⟨FD, hFD⟩ : ∃ FF : List (Nat × Obj), FF = (db, .cells #[.int .i64 e0, .int .i64 e1, .int .i64 d2, .int .u32 d3, .int .u32 d4, .int .i64 d5, .int .i64 d6, .int .u32 d7] 66 (0, 0)) :: ((db, .cells #[.int .i64 d0, .int .i64 d1, .int .i64 d2, .int .u32 d3, .int .u32 d4, .int .i64 d5, .int .i64 d6, .int .u32 d7] 66 (0, 0)) :: Fg).filter (fun p => decide (p.1 ≠ db)) := ⟨_, rfl⟩
      rw [← hFD] at HPD
      have HMAD : Hid ((ab, so) ∈ FD) := by show (ab, so) ∈ FD; rw [hFD]; simp [hne1, HMAg.out]
      have HMDD : Hid ((db, .cells #[.int .i64 e0, .int .i64 e1, .int .i64 d2, .int .u32 d3, .int .u32 d4, .int .i64 d5, .int .i64 d6, .int .u32 d7] 66 (0, 0)) ∈ FD) := by show (db, _) ∈ FD; rw [hFD]; exact List.mem_cons_self
      clear k2 g0 g1 z0 z1 fz0 fz1 hwA HST HP9 hFD hmod htm he0 he1
      have HCD : Hid (∀ bx ex br er wv, PsI W xb rb zb bb Z Bk vs ss ve ls FD bx ex br er wv → wv.cell? ⟨bb, 0, none⟩ = some (.pointer (some ⟨xb, 0, none⟩)) ∧ wv.cell? ⟨bb, 1, none⟩ = some (.pointer (some ⟨rb, 0, none⟩)) ∧ wv.cell? ⟨ab, 0, none⟩ = some (.int .i64 a1) ∧ wv.cell? ⟨ab, 1, none⟩ = some (.int .i64 a2) ∧ wv.cell? ⟨db, 0, none⟩ = some (.int .i64 e0) ∧ wv.cell? ⟨db, 1, none⟩ = some (.int .i64 e1) ∧ wv.cell? ⟨db, 2, none⟩ = some (.int .i64 d2) ∧ wv.cell? ⟨db, 3, none⟩ = some (.int .u32 d3) ∧ wv.cell? ⟨db, 4, none⟩ = some (.int .u32 d4) ∧ wv.cell? ⟨db, 5, none⟩ = some (.int .i64 d5) ∧ wv.cell? ⟨db, 6, none⟩ = some (.int .i64 d6) ∧ wv.cell? ⟨db, 7, none⟩ = some (.int .u32 d7)) := fun bx ex br er wv h => by
        obtain ⟨g0, g1, g2, g3⟩ := HCE.out _ _ _ _ _ _ h HMAD.out
        obtain ⟨⟨q0, q1, q2, q3, q4, q5, q6, q7⟩, _⟩ := cap_cells8 (h.at HMDD.out)
        exact ⟨g0, g1, g2, g3, q0, q1, q2, q3, q4, q5, q6, q7⟩
      have HXS : Hid (∀ wv, PsI W xb rb zb bb Z Bk vs ss ve ls FD bs es bs es wv → Calls Tryd.prog 32 #[.pointer (some ⟨xb, 0, none⟩), .agg #[.int .i64 a1, .int .i64 a2], .agg #[.int .i64 e0, .int .i64 e1, .int .i64 d2, .int .u32 d3, .int .u32 d4, .int .i64 d5, .int .i64 d6, .int .u32 d7]] wv fun e w' => e = .returned (.int .i64 (setE bs es (a1, a2) ⟨e0, e1, d2, d3, d4, d5, d6, d7⟩)) ∧ Hid (PsI W xb rb zb bb Z Bk vs ss ve ls FD bs (setL bs es (a1, a2) ⟨e0, e1, d2, d3, d4, d5, d6, d7⟩) bs es w')) := fun wv h => h.xcall (fun U hx => xset_ok hx (a1, a2) iS ⟨e0, e1, d2, d3, d4, d5, d6, d7⟩ HGU.out)
      have HRS : Hid (∀ wv, PsI W xb rb zb bb Z Bk vs ss ve ls FD bs (setL bs es (a1, a2) ⟨e0, e1, d2, d3, d4, d5, d6, d7⟩) bs es wv → Calls Tryd.prog 33 #[.pointer (some ⟨rb, 0, none⟩), .agg #[.int .i64 a1, .int .i64 a2], .agg #[.int .i64 e0, .int .i64 e1, .int .i64 d2, .int .u32 d3, .int .u32 d4, .int .i64 d5, .int .i64 d6, .int .u32 d7]] wv fun e w' => e = .returned (.int .i64 (setE bs es (a1, a2) ⟨e0, e1, d2, d3, d4, d5, d6, d7⟩)) ∧ Hid (PsI W xb rb zb bb Z Bk vs ss ve ls FD bs (setL bs es (a1, a2) ⟨e0, e1, d2, d3, d4, d5, d6, d7⟩) bs (setL bs es (a1, a2) ⟨e0, e1, d2, d3, d4, d5, d6, d7⟩) w')) := fun wv h => h.rcall (fun U hr => set_ok hr (a1, a2) ⟨e0, e1, d2, d3, d4, d5, d6, d7⟩)
      have HLN := Vx.hid (set_len bs es (a1, a2) ⟨e0, e1, d2, d3, d4, d5, d6, d7⟩)
      generalize setE bs es (a1, a2) ⟨e0, e1, d2, d3, d4, d5, d6, d7⟩ = err at HXS HRS
      generalize setL bs es (a1, a2) ⟨e0, e1, d2, d3, d4, d5, d6, d7⟩ = es2 at HXS HRS HLN
      have HJ0 := Vx.hid (HPD.out.quiet ((Only.refl _ _).drew))
      have HT0 := Vx.hid (HCD.out _ _ _ _ _ HJ0.out)
      have HT1 := HT0
      go_region_held3 (fun wv => wv.cell? ⟨bb, 0, none⟩ = some (.pointer (some ⟨xb, 0, none⟩)) ∧ wv.cell? ⟨bb, 1, none⟩ = some (.pointer (some ⟨rb, 0, none⟩)) ∧ wv.cell? ⟨ab, 0, none⟩ = some (.int .i64 a1) ∧ wv.cell? ⟨ab, 1, none⟩ = some (.int .i64 a2) ∧ wv.cell? ⟨db, 0, none⟩ = some (.int .i64 e0) ∧ wv.cell? ⟨db, 1, none⟩ = some (.int .i64 e1) ∧ wv.cell? ⟨db, 2, none⟩ = some (.int .i64 d2) ∧ wv.cell? ⟨db, 3, none⟩ = some (.int .u32 d3) ∧ wv.cell? ⟨db, 4, none⟩ = some (.int .u32 d4) ∧ wv.cell? ⟨db, 5, none⟩ = some (.int .i64 d5) ∧ wv.cell? ⟨db, 6, none⟩ = some (.int .i64 d6) ∧ wv.cell? ⟨db, 7, none⟩ = some (.int .u32 d7)) (first | with_reducible exact HT0.out | with_reducible exact HT1.out) (first | (go_at_call 32; refine (HXS.out _ HJ0.out).mono ?_; rintro e wS ⟨rfl, HJ1⟩; have HT1 := Vx.hid (HCD.out _ _ _ _ _ HJ1.out)))
      go_wp2_with fail
      have HJ2 := Vx.hid (HJ1.out.quiet ((Only.refl _ _).drew))
      have HT2 := Vx.hid (HCD.out _ _ _ _ _ HJ2.out)
      have HT3 := HT2
      go_region_held3 (fun wv => wv.cell? ⟨bb, 0, none⟩ = some (.pointer (some ⟨xb, 0, none⟩)) ∧ wv.cell? ⟨bb, 1, none⟩ = some (.pointer (some ⟨rb, 0, none⟩)) ∧ wv.cell? ⟨ab, 0, none⟩ = some (.int .i64 a1) ∧ wv.cell? ⟨ab, 1, none⟩ = some (.int .i64 a2) ∧ wv.cell? ⟨db, 0, none⟩ = some (.int .i64 e0) ∧ wv.cell? ⟨db, 1, none⟩ = some (.int .i64 e1) ∧ wv.cell? ⟨db, 2, none⟩ = some (.int .i64 d2) ∧ wv.cell? ⟨db, 3, none⟩ = some (.int .u32 d3) ∧ wv.cell? ⟨db, 4, none⟩ = some (.int .u32 d4) ∧ wv.cell? ⟨db, 5, none⟩ = some (.int .i64 d5) ∧ wv.cell? ⟨db, 6, none⟩ = some (.int .i64 d6) ∧ wv.cell? ⟨db, 7, none⟩ = some (.int .u32 d7)) (first | with_reducible exact HT2.out | with_reducible exact HT3.out) (first | (go_at_call 33; refine (HRS.out _ HJ2.out).mono ?_; rintro e wT ⟨rfl, HJ3⟩; have HT3 := Vx.hid (HCD.out _ _ _ _ _ HJ3.out)))
      go_wp2_with fail
      all_goals
        go_ret
        exact ⟨by try rfl, HJ3.out.fin (by omega) (by have := HLN.out; omega) hN⟩
    · have hle0 : ¬ 0 < B.tmod 5 := hmod
      have hdec : decide (0 < B.tmod 5) = false := decide_eq_false hmod
      obtain ⟨e0, he0⟩ : ∃ e0, e0 = d0 := ⟨_, rfl⟩
      obtain ⟨e1, he1⟩ : ∃ e1, e1 = d1 := ⟨_, rfl⟩
      go_wp2_with fail
      have HPD := HP9
      rw [← he0, ← he1] at HPD
      obtain ⟨FD, hFD⟩ : ∃ FF : List (Nat × Obj), FF = (db, .cells #[.int .i64 e0, .int .i64 e1, .int .i64 d2, .int .u32 d3, .int .u32 d4, .int .i64 d5, .int .i64 d6, .int .u32 d7] 66 (0, 0)) :: Fg := ⟨_, rfl⟩
      rw [← hFD] at HPD
      have HMAD : Hid ((ab, so) ∈ FD) := by show (ab, so) ∈ FD; rw [hFD]; exact List.mem_cons_of_mem _ HMAg.out
      have HMDD : Hid ((db, .cells #[.int .i64 e0, .int .i64 e1, .int .i64 d2, .int .u32 d3, .int .u32 d4, .int .i64 d5, .int .i64 d6, .int .u32 d7] 66 (0, 0)) ∈ FD) := by show (db, _) ∈ FD; rw [hFD]; exact List.mem_cons_self
      clear k2 HP9 hFD hmod htm he0 he1 hdec hle0
      have HCD : Hid (∀ bx ex br er wv, PsI W xb rb zb bb Z Bk vs ss ve ls FD bx ex br er wv → wv.cell? ⟨bb, 0, none⟩ = some (.pointer (some ⟨xb, 0, none⟩)) ∧ wv.cell? ⟨bb, 1, none⟩ = some (.pointer (some ⟨rb, 0, none⟩)) ∧ wv.cell? ⟨ab, 0, none⟩ = some (.int .i64 a1) ∧ wv.cell? ⟨ab, 1, none⟩ = some (.int .i64 a2) ∧ wv.cell? ⟨db, 0, none⟩ = some (.int .i64 e0) ∧ wv.cell? ⟨db, 1, none⟩ = some (.int .i64 e1) ∧ wv.cell? ⟨db, 2, none⟩ = some (.int .i64 d2) ∧ wv.cell? ⟨db, 3, none⟩ = some (.int .u32 d3) ∧ wv.cell? ⟨db, 4, none⟩ = some (.int .u32 d4) ∧ wv.cell? ⟨db, 5, none⟩ = some (.int .i64 d5) ∧ wv.cell? ⟨db, 6, none⟩ = some (.int .i64 d6) ∧ wv.cell? ⟨db, 7, none⟩ = some (.int .u32 d7)) := fun bx ex br er wv h => by
        obtain ⟨g0, g1, g2, g3⟩ := HCE.out _ _ _ _ _ _ h HMAD.out
        obtain ⟨⟨q0, q1, q2, q3, q4, q5, q6, q7⟩, _⟩ := cap_cells8 (h.at HMDD.out)
        exact ⟨g0, g1, g2, g3, q0, q1, q2, q3, q4, q5, q6, q7⟩
      have HXS : Hid (∀ wv, PsI W xb rb zb bb Z Bk vs ss ve ls FD bs es bs es wv → Calls Tryd.prog 32 #[.pointer (some ⟨xb, 0, none⟩), .agg #[.int .i64 a1, .int .i64 a2], .agg #[.int .i64 e0, .int .i64 e1, .int .i64 d2, .int .u32 d3, .int .u32 d4, .int .i64 d5, .int .i64 d6, .int .u32 d7]] wv fun e w' => e = .returned (.int .i64 (setE bs es (a1, a2) ⟨e0, e1, d2, d3, d4, d5, d6, d7⟩)) ∧ Hid (PsI W xb rb zb bb Z Bk vs ss ve ls FD bs (setL bs es (a1, a2) ⟨e0, e1, d2, d3, d4, d5, d6, d7⟩) bs es w')) := fun wv h => h.xcall (fun U hx => xset_ok hx (a1, a2) iS ⟨e0, e1, d2, d3, d4, d5, d6, d7⟩ HGU.out)
      have HRS : Hid (∀ wv, PsI W xb rb zb bb Z Bk vs ss ve ls FD bs (setL bs es (a1, a2) ⟨e0, e1, d2, d3, d4, d5, d6, d7⟩) bs es wv → Calls Tryd.prog 33 #[.pointer (some ⟨rb, 0, none⟩), .agg #[.int .i64 a1, .int .i64 a2], .agg #[.int .i64 e0, .int .i64 e1, .int .i64 d2, .int .u32 d3, .int .u32 d4, .int .i64 d5, .int .i64 d6, .int .u32 d7]] wv fun e w' => e = .returned (.int .i64 (setE bs es (a1, a2) ⟨e0, e1, d2, d3, d4, d5, d6, d7⟩)) ∧ Hid (PsI W xb rb zb bb Z Bk vs ss ve ls FD bs (setL bs es (a1, a2) ⟨e0, e1, d2, d3, d4, d5, d6, d7⟩) bs (setL bs es (a1, a2) ⟨e0, e1, d2, d3, d4, d5, d6, d7⟩) w')) := fun wv h => h.rcall (fun U hr => set_ok hr (a1, a2) ⟨e0, e1, d2, d3, d4, d5, d6, d7⟩)
      have HLN := Vx.hid (set_len bs es (a1, a2) ⟨e0, e1, d2, d3, d4, d5, d6, d7⟩)
      generalize setE bs es (a1, a2) ⟨e0, e1, d2, d3, d4, d5, d6, d7⟩ = err at HXS HRS
      generalize setL bs es (a1, a2) ⟨e0, e1, d2, d3, d4, d5, d6, d7⟩ = es2 at HXS HRS HLN
      have HJ0 := Vx.hid (HPD.out.quiet ((Only.refl _ _).drew))
      have HT0 := Vx.hid (HCD.out _ _ _ _ _ HJ0.out)
      have HT1 := HT0
      go_region_held3 (fun wv => wv.cell? ⟨bb, 0, none⟩ = some (.pointer (some ⟨xb, 0, none⟩)) ∧ wv.cell? ⟨bb, 1, none⟩ = some (.pointer (some ⟨rb, 0, none⟩)) ∧ wv.cell? ⟨ab, 0, none⟩ = some (.int .i64 a1) ∧ wv.cell? ⟨ab, 1, none⟩ = some (.int .i64 a2) ∧ wv.cell? ⟨db, 0, none⟩ = some (.int .i64 e0) ∧ wv.cell? ⟨db, 1, none⟩ = some (.int .i64 e1) ∧ wv.cell? ⟨db, 2, none⟩ = some (.int .i64 d2) ∧ wv.cell? ⟨db, 3, none⟩ = some (.int .u32 d3) ∧ wv.cell? ⟨db, 4, none⟩ = some (.int .u32 d4) ∧ wv.cell? ⟨db, 5, none⟩ = some (.int .i64 d5) ∧ wv.cell? ⟨db, 6, none⟩ = some (.int .i64 d6) ∧ wv.cell? ⟨db, 7, none⟩ = some (.int .u32 d7)) (first | with_reducible exact HT0.out | with_reducible exact HT1.out) (first | (go_at_call 32; refine (HXS.out _ HJ0.out).mono ?_; rintro e wS ⟨rfl, HJ1⟩; have HT1 := Vx.hid (HCD.out _ _ _ _ _ HJ1.out)))
      go_wp2_with fail
      have HJ2 := Vx.hid (HJ1.out.quiet ((Only.refl _ _).drew))
      have HT2 := Vx.hid (HCD.out _ _ _ _ _ HJ2.out)
      have HT3 := HT2
      go_region_held3 (fun wv => wv.cell? ⟨bb, 0, none⟩ = some (.pointer (some ⟨xb, 0, none⟩)) ∧ wv.cell? ⟨bb, 1, none⟩ = some (.pointer (some ⟨rb, 0, none⟩)) ∧ wv.cell? ⟨ab, 0, none⟩ = some (.int .i64 a1) ∧ wv.cell? ⟨ab, 1, none⟩ = some (.int .i64 a2) ∧ wv.cell? ⟨db, 0, none⟩ = some (.int .i64 e0) ∧ wv.cell? ⟨db, 1, none⟩ = some (.int .i64 e1) ∧ wv.cell? ⟨db, 2, none⟩ = some (.int .i64 d2) ∧ wv.cell? ⟨db, 3, none⟩ = some (.int .u32 d3) ∧ wv.cell? ⟨db, 4, none⟩ = some (.int .u32 d4) ∧ wv.cell? ⟨db, 5, none⟩ = some (.int .i64 d5) ∧ wv.cell? ⟨db, 6, none⟩ = some (.int .i64 d6) ∧ wv.cell? ⟨db, 7, none⟩ = some (.int .u32 d7)) (first | with_reducible exact HT2.out | with_reducible exact HT3.out) (first | (go_at_call 33; refine (HRS.out _ HJ2.out).mono ?_; rintro e wT ⟨rfl, HJ3⟩; have HT3 := Vx.hid (HCD.out _ _ _ _ _ HJ3.out)))
      go_wp2_with fail
      all_goals
        go_ret
        exact ⟨by try rfl, HJ3.out.fin (by omega) (by have := HLN.out; omega) hN⟩
end Go.Proofs.YtbmchgjilkoplaaDoor

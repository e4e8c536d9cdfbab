import Derived.Test.YtbmchgjilkoplaaDoorCq43
import Derived.Deep.RegionHeld3
/- CapsScripts: puts: tells: Get. -/
namespace Go.Proofs.YtbmchgjilkoplaaDoor
open Go.ChangeShapes Go.WideShapes Go.ChangeAt Go.RowKit
open Go.Vx
set_option linter.unusedVariables false
variable {W : World} {xb rb zb bb : Nat} {X R Z Bk : Nat → Prop} {bs : List (Int × Int)} {es : List En} {vs ve : Value} {ss ls : List Sh} {wr : World}

theorem PsI.xread {F : List (Nat × Obj)} {bx br : List (Int × Int)} {ex er : List En} {wv : World} {f : FuncId} {args : Array Value} {v : Value} (h : PsI W xb rb zb bb Z Bk vs ss ve ls F bx ex br er wv) (hc : ∀ U, XcAt U wv xb bx ex → Calls Tryd.prog f args wv fun e w' => e = .returned v ∧ Only (fun _ => False) wv w') :
    Calls Tryd.prog f args wv fun e w' => e = .returned v ∧ Hid (PsI W xb rb zb bb Z Bk vs ss ve ls F bx ex br er w') := by
  have h0 := h
  obtain ⟨X, R, h, _⟩ := h
  refine (hc _ h.x).mono ?_
  rintro e w' ⟨rfl, ho⟩
  exact ⟨rfl, h0.quiet ho⟩
theorem PsI.rread {F : List (Nat × Obj)} {bx br : List (Int × Int)} {ex er : List En} {wv : World} {f : FuncId} {args : Array Value} {v : Value} (h : PsI W xb rb zb bb Z Bk vs ss ve ls F bx ex br er wv) (hc : ∀ U vb ve, RsAt U wv rb vb ve br er → Calls Tryd.prog f args wv fun e w' => e = .returned v ∧ Only (fun _ => False) wv w') :
    Calls Tryd.prog f args wv fun e w' => e = .returned v ∧ Hid (PsI W xb rb zb bb Z Bk vs ss ve ls F bx ex br er w') := by
  have h0 := h
  obtain ⟨X, R, h, _⟩ := h
  obtain ⟨vb, ve, hr⟩ := h.r
  refine (hc _ vb ve hr).mono ?_
  rintro e w' ⟨rfl, ho⟩
  exact ⟨rfl, h0.quiet ho⟩
set_option maxRecDepth 100000 in
set_option maxHeartbeats 4000000 in
theorem tells_get (h : CsR W xb rb zb bb X R Z Bk bs es bs es vs ss ve ls wr) (A B C E : Int) (iA : I64 A) (iB : I64 B) (iC : I64 C) (s : ByteArray) (hlb : bs.length < 1000000) (hle : es.length < 1000000) (hN : N77 bs) :
    Calls Tryd.prog 9 #[.pointer (some ⟨bb, 0, none⟩), .agg #[.int .i64 5, .int .i64 A, .int .i64 B, .int .i64 C, .int .i64 E, .string s]] wr fun e w' => e = .returned (.bool true) ∧ PsR W xb rb zb bb Z Bk vs ss ve ls (bs.length + 1) (es.length + 1) w' := by
  obtain ⟨oo, hoo⟩ : ∃ oo : Obj, oo = .cells #[.int .i64 5, .int .i64 A, .int .i64 B, .int .i64 C, .int .i64 E, .string s] 45 (0, 0) := ⟨_, rfl⟩
  have HP1 : Hid (PsI W xb rb zb bb Z Bk vs ss ve ls [(wr.heap.size, oo)] bs es bs es (wr.alloc oo)) := PsI.alloc (F := []) ⟨X, R, h, fun p hp => by cases hp⟩ oo
  have HSL := Vx.hid (fun wv => slotOf_ok A iA wv)
  have iS := slot_i64 iA
  generalize slotF A = at0 at HSL iS
  obtain ⟨a1, a2⟩ := at0
  dsimp only at HSL iS
  clear h
  go_enter Tryd.func9, Tryd.ntmps9
  go_wp2_with fail
  rw [← hoo]
  obtain ⟨w1, hw1⟩ : ∃ w1, w1 = wr.alloc oo := ⟨_, rfl⟩
  rw [← hw1] at HP1 ⊢
  obtain ⟨ob, hob⟩ : ∃ ob, ob = wr.heap.size := ⟨_, rfl⟩
  rw [← hob] at HP1 ⊢
  clear hw1 hob
  have HCO : Hid (∀ F bx ex br er wv, PsI W xb rb zb bb Z Bk vs ss ve ls F bx ex br er wv → (ob, oo) ∈ F → wv.cell? ⟨ob, 0, none⟩ = some (.int .i64 5) ∧ wv.cell? ⟨ob, 1, none⟩ = some (.int .i64 A) ∧ wv.cell? ⟨ob, 2, none⟩ = some (.int .i64 B) ∧ wv.cell? ⟨ob, 3, none⟩ = some (.int .i64 C) ∧ wv.cell? ⟨ob, 5, none⟩ = some (.string s)) := fun F bx ex br er wv h hm => by
    have h1 := h.at hm
    rw [hoo] at h1
    exact ⟨(cell_of_row _ _ 0 _ _ (0, 0) h1).trans rfl, (cell_of_row _ _ 1 _ _ (0, 0) h1).trans rfl, (cell_of_row _ _ 2 _ _ (0, 0) h1).trans rfl, (cell_of_row _ _ 3 _ _ (0, 0) h1).trans rfl, (cell_of_row _ _ 5 _ _ (0, 0) h1).trans rfl⟩
  clear hoo
  obtain ⟨k0, k1, k2, k3, k5⟩ := HCO.out _ _ _ _ _ _ HP1.out (by simp)
  go_wp2_with fail
  refine (HSL.out _).mono ?_
  rintro e w2 ⟨rfl, ho2⟩
  have HP2 := Vx.hid (HP1.out.quiet ho2)
  clear k0 k1 k2 k3 k5 HP1 ho2 HSL
  go_upto_region 2 with fail
  obtain ⟨so, hso⟩ : ∃ so : Obj, so = .cells #[.int .i64 a1, .int .i64 a2] 62 (0, 0) := ⟨_, rfl⟩
  rw [← hso]
  have HP3 := Vx.hid (HP2.out.alloc so)
  obtain ⟨w3, hw3⟩ : ∃ w3, w3 = w2.alloc so := ⟨_, rfl⟩
  rw [← hw3] at HP3 ⊢
  obtain ⟨ab, hab⟩ : ∃ ab, ab = w2.heap.size := ⟨_, rfl⟩
  rw [← hab] at HP3 ⊢
  clear hw3 hab HP2
  have HCS : Hid (∀ F bx ex br er wv, PsI W xb rb zb bb Z Bk vs ss ve ls F bx ex br er wv → (ab, so) ∈ F → wv.cell? ⟨ab, 0, none⟩ = some (.int .i64 a1) ∧ wv.cell? ⟨ab, 1, none⟩ = some (.int .i64 a2)) := fun F bx ex br er wv h hm => by
    have h1 := h.at hm
    rw [hso] at h1
    exact (slot_cells h1).1
  clear hso
  obtain ⟨F, hF⟩ : ∃ F : List (Nat × Obj), F = [(ab, so), (ob, oo)] := ⟨_, rfl⟩
  have HMO : Hid ((ob, oo) ∈ F) := by show (ob, oo) ∈ F; rw [hF]; simp
  have HMA : Hid ((ab, so) ∈ F) := by show (ab, so) ∈ F; rw [hF]; simp
  rw [← hF] at HP3
  clear hF
  have HXC : Hid (∀ F wv, PsI W xb rb zb bb Z Bk vs ss ve ls F bs es bs es wv → Calls Tryd.prog 18 #[.pointer (some ⟨xb, 0, none⟩), .agg #[.int .i64 a1, .int .i64 a2]] wv fun e w' => e = .returned (.tuple #[cpV (getF bs es (a1, a2)).1, .int .i64 (getF bs es (a1, a2)).2]) ∧ Hid (PsI W xb rb zb bb Z Bk vs ss ve ls F bs es bs es w')) := fun F wv h => h.xread (fun U hx => xget_ok hx (a1, a2) iS)
  have HRC : Hid (∀ F wv, PsI W xb rb zb bb Z Bk vs ss ve ls F bs es bs es wv → Calls Tryd.prog 31 #[.pointer (some ⟨rb, 0, none⟩), .agg #[.int .i64 a1, .int .i64 a2]] wv fun e w' => e = .returned (.tuple #[cpV (getF bs es (a1, a2)).1, .int .i64 (getF bs es (a1, a2)).2]) ∧ Hid (PsI W xb rb zb bb Z Bk vs ss ve ls F bs es bs es w')) := fun F wv h => h.rread (fun U vb ve hr => get_ok hr (a1, a2))
  generalize (getF bs es (a1, a2)).2 = er at HXC HRC
  generalize (getF bs es (a1, a2)).1 = cp at HXC HRC
  obtain ⟨c0, c1, c2, c3, c4, c5, c6, c7⟩ := cp
  simp only [cpV] at HXC HRC
  obtain ⟨k0, _, _, _, _⟩ := HCO.out _ _ _ _ _ _ HP3.out HMO.out
  go_wp2_with fail
  clear k0
  have HCE : Hid (∀ F bx ex br er wv, PsI W xb rb zb bb Z Bk vs ss ve ls F bx ex br er wv → (ab, so) ∈ F → wv.cell? ⟨bb, 0, none⟩ = some (.pointer (some ⟨xb, 0, none⟩)) ∧ wv.cell? ⟨bb, 1, none⟩ = some (.pointer (some ⟨rb, 0, none⟩)) ∧ wv.cell? ⟨ab, 0, none⟩ = some (.int .i64 a1) ∧ wv.cell? ⟨ab, 1, none⟩ = some (.int .i64 a2)) := fun F bx ex br er wv h hm => by
    obtain ⟨d0, d1⟩ := HCS.out _ _ _ _ _ _ h hm
    exact ⟨h.bx0.1, h.bx0.2, d0, d1⟩
  have HUP : Hid (∀ F b bx ex br er wv, PsI W xb rb zb bb Z Bk vs ss ve ls ((b, .cells #[.int .i64 0, .int .i64 0, .int .i64 0, .int .u32 0, .int .u32 0, .int .i64 0, .int .i64 0, .int .u32 0] 66 (0, 0)) :: F) bx ex br er wv → PsI W xb rb zb bb Z Bk vs ss ve ls ((b, .cells #[.int .i64 c0, .int .i64 c1, .int .i64 c2, .int .u32 c3, .int .u32 c4, .int .i64 c5, .int .i64 c6, .int .u32 c7] 66 (0, 0)) :: ((b, .cells #[.int .i64 0, .int .i64 0, .int .i64 0, .int .u32 0, .int .u32 0, .int .i64 0, .int .i64 0, .int .u32 0] 66 (0, 0)) :: F).filter fun p => decide (p.1 ≠ b)) bx ex br er ((((((((wv.setCell ⟨b, 0, none⟩ (.int .i64 c0)).setCell ⟨b, 1, none⟩ (.int .i64 c1)).setCell ⟨b, 2, none⟩ (.int .i64 c2)).setCell ⟨b, 3, none⟩ (.int .u32 c3)).setCell ⟨b, 4, none⟩ (.int .u32 c4)).setCell ⟨b, 5, none⟩ (.int .i64 c5)).setCell ⟨b, 6, none⟩ (.int .i64 c6)).setCell ⟨b, 7, none⟩ (.int .u32 c7))) := fun F b bx ex br er wv h => by
    have h1 := h.at List.mem_cons_self
    exact h.upd List.mem_cons_self (only_set8 wv b _ _ _ _ _ _ _ _) (cap_set h1 (.int .i64 c0) (.int .i64 c1) (.int .i64 c2) (.int .u32 c3) (.int .u32 c4) (.int .i64 c5) (.int .i64 c6) (.int .u32 c7))
  have HUC : Hid (∀ F b bx ex br er wv, PsI W xb rb zb bb Z Bk vs ss ve ls ((b, .cells #[.int .i64 0, .int .i64 0, .int .i64 0, .int .u32 0, .int .u32 0, .int .i64 0, .int .i64 0, .int .u32 0] 66 (0, 0)) :: F) bx ex br er wv → (ab, so) ∈ F → ab ≠ b → ((((((((wv.setCell ⟨b, 0, none⟩ (.int .i64 c0)).setCell ⟨b, 1, none⟩ (.int .i64 c1)).setCell ⟨b, 2, none⟩ (.int .i64 c2)).setCell ⟨b, 3, none⟩ (.int .u32 c3)).setCell ⟨b, 4, none⟩ (.int .u32 c4)).setCell ⟨b, 5, none⟩ (.int .i64 c5)).setCell ⟨b, 6, none⟩ (.int .i64 c6)).setCell ⟨b, 7, none⟩ (.int .u32 c7)).cell? ⟨bb, 0, none⟩ = some (.pointer (some ⟨xb, 0, none⟩)) ∧ ((((((((wv.setCell ⟨b, 0, none⟩ (.int .i64 c0)).setCell ⟨b, 1, none⟩ (.int .i64 c1)).setCell ⟨b, 2, none⟩ (.int .i64 c2)).setCell ⟨b, 3, none⟩ (.int .u32 c3)).setCell ⟨b, 4, none⟩ (.int .u32 c4)).setCell ⟨b, 5, none⟩ (.int .i64 c5)).setCell ⟨b, 6, none⟩ (.int .i64 c6)).setCell ⟨b, 7, none⟩ (.int .u32 c7)).cell? ⟨bb, 1, none⟩ = some (.pointer (some ⟨rb, 0, none⟩)) ∧ ((((((((wv.setCell ⟨b, 0, none⟩ (.int .i64 c0)).setCell ⟨b, 1, none⟩ (.int .i64 c1)).setCell ⟨b, 2, none⟩ (.int .i64 c2)).setCell ⟨b, 3, none⟩ (.int .u32 c3)).setCell ⟨b, 4, none⟩ (.int .u32 c4)).setCell ⟨b, 5, none⟩ (.int .i64 c5)).setCell ⟨b, 6, none⟩ (.int .i64 c6)).setCell ⟨b, 7, none⟩ (.int .u32 c7)).cell? ⟨ab, 0, none⟩ = some (.int .i64 a1) ∧ ((((((((wv.setCell ⟨b, 0, none⟩ (.int .i64 c0)).setCell ⟨b, 1, none⟩ (.int .i64 c1)).setCell ⟨b, 2, none⟩ (.int .i64 c2)).setCell ⟨b, 3, none⟩ (.int .u32 c3)).setCell ⟨b, 4, none⟩ (.int .u32 c4)).setCell ⟨b, 5, none⟩ (.int .i64 c5)).setCell ⟨b, 6, none⟩ (.int .i64 c6)).setCell ⟨b, 7, none⟩ (.int .u32 c7)).cell? ⟨ab, 1, none⟩ = some (.int .i64 a2)) := fun F b bx ex br er wv h hm hne => HCE.out _ _ _ _ _ _ (HUP.out _ _ _ _ _ _ _ h) (by simp [hne, hm])
  have HIx := Vx.hid (HP3.out.quiet ((Only.refl _ _).drew))
  have HIAx : Hid (∀ o, _) := fun o => (HP3.out.alloc o).quiet (w2 := (w3.alloc o).drew) ((Only.refl _ _).drew)
  have HS0 := Vx.hid (HCE.out _ _ _ _ _ _ HIx.out HMA.out)
  have HSA := Vx.hid (fun o => HCE.out _ _ _ _ _ _ (HIAx.out o) (List.mem_cons_of_mem _ HMA.out))
  have HS1 := HS0
  have HSB := HSA
  have HSC := HS0
  have HALx : Hid (ab < w3.heap.size) := lt_of_some (HP3.out.at HMA.out)
  go_region_held3 (fun wv => wv.cell? ⟨bb, 0, none⟩ = some (.pointer (some ⟨xb, 0, none⟩)) ∧ wv.cell? ⟨bb, 1, none⟩ = some (.pointer (some ⟨rb, 0, none⟩)) ∧ wv.cell? ⟨ab, 0, none⟩ = some (.int .i64 a1) ∧ wv.cell? ⟨ab, 1, none⟩ = some (.int .i64 a2)) (first | with_reducible exact HS0.out | with_reducible exact HSA.out _ | with_reducible exact HS1.out | with_reducible exact HSB.out _ | with_reducible exact HSC.out) (first | (go_at_call 18; refine (HXC.out _ _ (by first | exact HIx.out | exact HIAx.out _)).mono ?_; rintro e wcx ⟨rfl, HJx⟩; have HS1 := Vx.hid (HCE.out _ _ _ _ _ _ HJx.out (by first | exact HMA.out | exact List.mem_cons_of_mem _ HMA.out)); have HSB := Vx.hid (fun o => HCE.out _ _ _ _ _ _ (HJx.out.alloc o) (by first | exact List.mem_cons_of_mem _ HMA.out | exact List.mem_cons_of_mem _ (List.mem_cons_of_mem _ HMA.out))); try (obtain ⟨⟨z0, z1, z2, z3, z4, z5, z6, z7⟩, hfz⟩ := cap_cells8 (HJx.out.at List.mem_cons_self); have q0 := hfz 0; have q1 := hfz 1; have q2 := hfz 2; have q3 := hfz 3; have q4 := hfz 4; have q5 := hfz 5; have q6 := hfz 6; have q7 := hfz 7; clear hfz; have HSC := Vx.hid (HUC.out _ _ _ _ _ _ _ HJx.out HMA.out (Nat.ne_of_lt HALx.out)))))
  · have HPx := Vx.hid (HJx.out.alloc (.cells #[.int .i64 c0, .int .i64 c1, .int .i64 c2, .int .u32 c3, .int .u32 c4, .int .i64 c5, .int .i64 c6, .int .u32 c7] 66 (0, 0)))
    obtain ⟨wx, hwx⟩ : ∃ wx, wx = wcx.alloc (.cells #[.int .i64 c0, .int .i64 c1, .int .i64 c2, .int .u32 c3, .int .u32 c4, .int .i64 c5, .int .i64 c6, .int .u32 c7] 66 (0, 0)) := ⟨_, rfl⟩
    rw [← hwx] at HPx ⊢
    obtain ⟨cbx, hcbx⟩ : ∃ cb, cb = wcx.heap.size := ⟨_, rfl⟩
    rw [← hcbx] at HPx ⊢
    obtain ⟨Fx, hFx⟩ : ∃ FF : List (Nat × Obj), FF = (cbx, .cells #[.int .i64 c0, .int .i64 c1, .int .i64 c2, .int .u32 c3, .int .u32 c4, .int .i64 c5, .int .i64 c6, .int .u32 c7] 66 (0, 0)) :: F := ⟨_, rfl⟩
    rw [← hFx] at HPx
    have HMAx : Hid ((ab, so) ∈ Fx) := by show (ab, so) ∈ Fx; rw [hFx]; exact List.mem_cons_of_mem _ HMA.out
    have HMCx : Hid ((cbx, .cells #[.int .i64 c0, .int .i64 c1, .int .i64 c2, .int .u32 c3, .int .u32 c4, .int .i64 c5, .int .i64 c6, .int .u32 c7] 66 (0, 0)) ∈ Fx) := by show (cbx, _) ∈ Fx; rw [hFx]; exact List.mem_cons_self
    clear hwx hcbx hFx HJx HIx HIAx HS0 HSA HS1 HSB HSC
    go_wp2_with fail
    have HIr := Vx.hid (HPx.out.quiet ((Only.refl _ _).drew))
    have HIAr : Hid (∀ o, _) := fun o => (HPx.out.alloc o).quiet (w2 := (wx.alloc o).drew) ((Only.refl _ _).drew)
    have HS0 := Vx.hid (HCE.out _ _ _ _ _ _ HIr.out HMAx.out)
    have HSA := Vx.hid (fun o => HCE.out _ _ _ _ _ _ (HIAr.out o) (List.mem_cons_of_mem _ HMAx.out))
    have HS1 := HS0
    have HSB := HSA
    have HSC := HS0
    have HALr : Hid (ab < wx.heap.size) := lt_of_some (HPx.out.at HMAx.out)
    go_region_held3 (fun wv => wv.cell? ⟨bb, 0, none⟩ = some (.pointer (some ⟨xb, 0, none⟩)) ∧ wv.cell? ⟨bb, 1, none⟩ = some (.pointer (some ⟨rb, 0, none⟩)) ∧ wv.cell? ⟨ab, 0, none⟩ = some (.int .i64 a1) ∧ wv.cell? ⟨ab, 1, none⟩ = some (.int .i64 a2)) (first | with_reducible exact HS0.out | with_reducible exact HSA.out _ | with_reducible exact HS1.out | with_reducible exact HSB.out _ | with_reducible exact HSC.out) (first | (go_at_call 31; refine (HRC.out _ _ (by first | exact HIr.out | exact HIAr.out _)).mono ?_; rintro e wcr ⟨rfl, HJr⟩; have HS1 := Vx.hid (HCE.out _ _ _ _ _ _ HJr.out (by first | exact HMAx.out | exact List.mem_cons_of_mem _ HMAx.out)); have HSB := Vx.hid (fun o => HCE.out _ _ _ _ _ _ (HJr.out.alloc o) (by first | exact List.mem_cons_of_mem _ HMAx.out | exact List.mem_cons_of_mem _ (List.mem_cons_of_mem _ HMAx.out))); try (obtain ⟨⟨z0, z1, z2, z3, z4, z5, z6, z7⟩, hfz⟩ := cap_cells8 (HJr.out.at List.mem_cons_self); have q0 := hfz 0; have q1 := hfz 1; have q2 := hfz 2; have q3 := hfz 3; have q4 := hfz 4; have q5 := hfz 5; have q6 := hfz 6; have q7 := hfz 7; clear hfz; have HSC := Vx.hid (HUC.out _ _ _ _ _ _ _ HJr.out HMAx.out (Nat.ne_of_lt HALr.out)))))
    · have HPr := Vx.hid (HJr.out.alloc (.cells #[.int .i64 c0, .int .i64 c1, .int .i64 c2, .int .u32 c3, .int .u32 c4, .int .i64 c5, .int .i64 c6, .int .u32 c7] 66 (0, 0)))
      obtain ⟨wr, hwr⟩ : ∃ wr, wr = wcr.alloc (.cells #[.int .i64 c0, .int .i64 c1, .int .i64 c2, .int .u32 c3, .int .u32 c4, .int .i64 c5, .int .i64 c6, .int .u32 c7] 66 (0, 0)) := ⟨_, rfl⟩
      rw [← hwr] at HPr ⊢
      obtain ⟨cbr, hcbr⟩ : ∃ cb, cb = wcr.heap.size := ⟨_, rfl⟩
      rw [← hcbr] at HPr ⊢
      obtain ⟨Fr, hFr⟩ : ∃ FF : List (Nat × Obj), FF = (cbr, .cells #[.int .i64 c0, .int .i64 c1, .int .i64 c2, .int .u32 c3, .int .u32 c4, .int .i64 c5, .int .i64 c6, .int .u32 c7] 66 (0, 0)) :: Fx := ⟨_, rfl⟩
      rw [← hFr] at HPr
      have HMAr : Hid ((ab, so) ∈ Fr) := by show (ab, so) ∈ Fr; rw [hFr]; exact List.mem_cons_of_mem _ HMAx.out
      have HMCr : Hid ((cbr, .cells #[.int .i64 c0, .int .i64 c1, .int .i64 c2, .int .u32 c3, .int .u32 c4, .int .i64 c5, .int .i64 c6, .int .u32 c7] 66 (0, 0)) ∈ Fr) := by show (cbr, _) ∈ Fr; rw [hFr]; exact List.mem_cons_self
      have HMDr : Hid ((cbx, .cells #[.int .i64 c0, .int .i64 c1, .int .i64 c2, .int .u32 c3, .int .u32 c4, .int .i64 c5, .int .i64 c6, .int .u32 c7] 66 (0, 0)) ∈ Fr) := by show (cbx, _) ∈ Fr; rw [hFr]; exact List.mem_cons_of_mem _ HMCx.out
      clear hwr hcbr hFr HJr HIr HIAr HS0 HSA HS1 HSB HSC
      obtain ⟨⟨g0, g1, g2, g3, g4, g5, g6, g7⟩, _⟩ := cap_cells8 (HPr.out.at HMCr.out)
      obtain ⟨⟨j0, j1, j2, j3, j4, j5, j6, j7⟩, _⟩ := cap_cells8 (HPr.out.at HMDr.out)
      go_wp2_with fail
      all_goals
        go_ret
        exact ⟨by try rfl, HPr.out.fin (by omega) (by omega) hN⟩
    · have HPr := Vx.hid (HUP.out _ _ _ _ _ _ _ HJr.out)
      obtain ⟨wr, hwr⟩ : ∃ wr, wr = (((((((wcr.setCell ⟨wx.heap.size, 0, none⟩ (.int .i64 c0)).setCell ⟨wx.heap.size, 1, none⟩ (.int .i64 c1)).setCell ⟨wx.heap.size, 2, none⟩ (.int .i64 c2)).setCell ⟨wx.heap.size, 3, none⟩ (.int .u32 c3)).setCell ⟨wx.heap.size, 4, none⟩ (.int .u32 c4)).setCell ⟨wx.heap.size, 5, none⟩ (.int .i64 c5)).setCell ⟨wx.heap.size, 6, none⟩ (.int .i64 c6)).setCell ⟨wx.heap.size, 7, none⟩ (.int .u32 c7) := ⟨_, rfl⟩
      rw [← hwr] at HPr ⊢
      obtain ⟨cbr, hcbr⟩ : ∃ cb, cb = wx.heap.size := ⟨_, rfl⟩
      have HCBr := Vx.hid hcbr
      clear hwr z0 z1 z2 z3 z4 z5 z6 z7 q0 q1 q2 q3 q4 q5 q6 q7 HS0 HSA HS1 HSB HSC
      rw [← hcbr] at HPr ⊢
      obtain ⟨Fr, hFr⟩ : ∃ FF : List (Nat × Obj), FF = (cbr, .cells #[.int .i64 c0, .int .i64 c1, .int .i64 c2, .int .u32 c3, .int .u32 c4, .int .i64 c5, .int .i64 c6, .int .u32 c7] 66 (0, 0)) :: ((cbr, .cells #[.int .i64 0, .int .i64 0, .int .i64 0, .int .u32 0, .int .u32 0, .int .i64 0, .int .i64 0, .int .u32 0] 66 (0, 0)) :: Fx).filter (fun p => decide (p.1 ≠ cbr)) := ⟨_, rfl⟩
      rw [← hFr] at HPr
      have HMAr : Hid ((ab, so) ∈ Fr) := by
        show (ab, so) ∈ Fr
        have h9 := HALr.out
        have h10 : ab ≠ cbr := by have := HCBr.out; omega
        rw [hFr]
        simp [h10, HMAx.out]
      have HMCr : Hid ((cbr, .cells #[.int .i64 c0, .int .i64 c1, .int .i64 c2, .int .u32 c3, .int .u32 c4, .int .i64 c5, .int .i64 c6, .int .u32 c7] 66 (0, 0)) ∈ Fr) := by show (cbr, _) ∈ Fr; rw [hFr]; exact List.mem_cons_self
      have HMDr : Hid ((cbx, .cells #[.int .i64 c0, .int .i64 c1, .int .i64 c2, .int .u32 c3, .int .u32 c4, .int .i64 c5, .int .i64 c6, .int .u32 c7] 66 (0, 0)) ∈ Fr) := by
        show (cbx, _) ∈ Fr
        have h9 := lt_of_some (HPx.out.at HMCx.out)
        have h10 : cbx ≠ cbr := by have := HCBr.out; omega
        rw [hFr]
        simp [h10, HMCx.out]
      clear hcbr hFr HJr HIr HIAr HCBr
      obtain ⟨⟨g0, g1, g2, g3, g4, g5, g6, g7⟩, _⟩ := cap_cells8 (HPr.out.at HMCr.out)
      obtain ⟨⟨j0, j1, j2, j3, j4, j5, j6, j7⟩, _⟩ := cap_cells8 (HPr.out.at HMDr.out)
      go_wp2_with fail
      all_goals
        go_ret
        exact ⟨by try rfl, HPr.out.fin (by omega) (by omega) hN⟩
  · have HPx := Vx.hid (HUP.out _ _ _ _ _ _ _ HJx.out)
    obtain ⟨wx, hwx⟩ : ∃ wx, wx = (((((((wcx.setCell ⟨w3.heap.size, 0, none⟩ (.int .i64 c0)).setCell ⟨w3.heap.size, 1, none⟩ (.int .i64 c1)).setCell ⟨w3.heap.size, 2, none⟩ (.int .i64 c2)).setCell ⟨w3.heap.size, 3, none⟩ (.int .u32 c3)).setCell ⟨w3.heap.size, 4, none⟩ (.int .u32 c4)).setCell ⟨w3.heap.size, 5, none⟩ (.int .i64 c5)).setCell ⟨w3.heap.size, 6, none⟩ (.int .i64 c6)).setCell ⟨w3.heap.size, 7, none⟩ (.int .u32 c7) := ⟨_, rfl⟩
    rw [← hwx] at HPx ⊢
    obtain ⟨cbx, hcbx⟩ : ∃ cb, cb = w3.heap.size := ⟨_, rfl⟩
    have HCBx := Vx.hid hcbx
    clear hwx z0 z1 z2 z3 z4 z5 z6 z7 q0 q1 q2 q3 q4 q5 q6 q7 HS0 HSA HS1 HSB HSC
    rw [← hcbx] at HPx ⊢
    obtain ⟨Fx, hFx⟩ : ∃ FF : List (Nat × Obj), FF = (cbx, .cells #[.int .i64 c0, .int .i64 c1, .int .i64 c2, .int .u32 c3, .int .u32 c4, .int .i64 c5, .int .i64 c6, .int .u32 c7] 66 (0, 0)) :: ((cbx, .cells #[.int .i64 0, .int .i64 0, .int .i64 0, .int .u32 0, .int .u32 0, .int .i64 0, .int .i64 0, .int .u32 0] 66 (0, 0)) :: F).filter (fun p => decide (p.1 ≠ cbx)) := ⟨_, rfl⟩
    rw [← hFx] at HPx
    have HMAx : Hid ((ab, so) ∈ Fx) := by
      show (ab, so) ∈ Fx
      have h9 := HALx.out
      have h10 : ab ≠ cbx := by have := HCBx.out; omega
      rw [hFx]
      simp [h10, HMA.out]
    have HMCx : Hid ((cbx, .cells #[.int .i64 c0, .int .i64 c1, .int .i64 c2, .int .u32 c3, .int .u32 c4, .int .i64 c5, .int .i64 c6, .int .u32 c7] 66 (0, 0)) ∈ Fx) := by show (cbx, _) ∈ Fx; rw [hFx]; exact List.mem_cons_self
    clear hcbx hFx HJx HIx HIAx HCBx
    go_wp2_with fail
    have HIr := Vx.hid (HPx.out.quiet ((Only.refl _ _).drew))
    have HIAr : Hid (∀ o, _) := fun o => (HPx.out.alloc o).quiet (w2 := (wx.alloc o).drew) ((Only.refl _ _).drew)
    have HS0 := Vx.hid (HCE.out _ _ _ _ _ _ HIr.out HMAx.out)
    have HSA := Vx.hid (fun o => HCE.out _ _ _ _ _ _ (HIAr.out o) (List.mem_cons_of_mem _ HMAx.out))
    have HS1 := HS0
    have HSB := HSA
    have HSC := HS0
    have HALr : Hid (ab < wx.heap.size) := lt_of_some (HPx.out.at HMAx.out)
    go_region_held3 (fun wv => wv.cell? ⟨bb, 0, none⟩ = some (.pointer (some ⟨xb, 0, none⟩)) ∧ wv.cell? ⟨bb, 1, none⟩ = some (.pointer (some ⟨rb, 0, none⟩)) ∧ wv.cell? ⟨ab, 0, none⟩ = some (.int .i64 a1) ∧ wv.cell? ⟨ab, 1, none⟩ = some (.int .i64 a2)) (first | with_reducible exact HS0.out | with_reducible exact HSA.out _ | with_reducible exact HS1.out | with_reducible exact HSB.out _ | with_reducible exact HSC.out) (first | (go_at_call 31; refine (HRC.out _ _ (by first | exact HIr.out | exact HIAr.out _)).mono ?_; rintro e wcr ⟨rfl, HJr⟩; have HS1 := Vx.hid (HCE.out _ _ _ _ _ _ HJr.out (by first | exact HMAx.out | exact List.mem_cons_of_mem _ HMAx.out)); have HSB := Vx.hid (fun o => HCE.out _ _ _ _ _ _ (HJr.out.alloc o) (by first | exact List.mem_cons_of_mem _ HMAx.out | exact List.mem_cons_of_mem _ (List.mem_cons_of_mem _ HMAx.out))); try (obtain ⟨⟨z0, z1, z2, z3, z4, z5, z6, z7⟩, hfz⟩ := cap_cells8 (HJr.out.at List.mem_cons_self); have q0 := hfz 0; have q1 := hfz 1; have q2 := hfz 2; have q3 := hfz 3; have q4 := hfz 4; have q5 := hfz 5; have q6 := hfz 6; have q7 := hfz 7; clear hfz; have HSC := Vx.hid (HUC.out _ _ _ _ _ _ _ HJr.out HMAx.out (Nat.ne_of_lt HALr.out)))))
    · have HPr := Vx.hid (HJr.out.alloc (.cells #[.int .i64 c0, .int .i64 c1, .int .i64 c2, .int .u32 c3, .int .u32 c4, .int .i64 c5, .int .i64 c6, .int .u32 c7] 66 (0, 0)))
      obtain ⟨wr, hwr⟩ : ∃ wr, wr = wcr.alloc (.cells #[.int .i64 c0, .int .i64 c1, .int .i64 c2, .int .u32 c3, .int .u32 c4, .int .i64 c5, .int .i64 c6, .int .u32 c7] 66 (0, 0)) := ⟨_, rfl⟩
      rw [← hwr] at HPr ⊢
      obtain ⟨cbr, hcbr⟩ : ∃ cb, cb = wcr.heap.size := ⟨_, rfl⟩
      rw [← hcbr] at HPr ⊢
      obtain ⟨Fr, hFr⟩ : ∃ FF : List (Nat × Obj), FF = (cbr, .cells #[.int .i64 c0, .int .i64 c1, .int .i64 c2, .int .u32 c3, .int .u32 c4, .int .i64 c5, .int .i64 c6, .int .u32 c7] 66 (0, 0)) :: Fx := ⟨_, rfl⟩
      rw [← hFr] at HPr
      have HMAr : Hid ((ab, so) ∈ Fr) := by show (ab, so) ∈ Fr; rw [hFr]; exact List.mem_cons_of_mem _ HMAx.out
      have HMCr : Hid ((cbr, .cells #[.int .i64 c0, .int .i64 c1, .int .i64 c2, .int .u32 c3, .int .u32 c4, .int .i64 c5, .int .i64 c6, .int .u32 c7] 66 (0, 0)) ∈ Fr) := by show (cbr, _) ∈ Fr; rw [hFr]; exact List.mem_cons_self
      have HMDr : Hid ((cbx, .cells #[.int .i64 c0, .int .i64 c1, .int .i64 c2, .int .u32 c3, .int .u32 c4, .int .i64 c5, .int .i64 c6, .int .u32 c7] 66 (0, 0)) ∈ Fr) := by show (cbx, _) ∈ Fr; rw [hFr]; exact List.mem_cons_of_mem _ HMCx.out
      clear hwr hcbr hFr HJr HIr HIAr HS0 HSA HS1 HSB HSC
      obtain ⟨⟨g0, g1, g2, g3, g4, g5, g6, g7⟩, _⟩ := cap_cells8 (HPr.out.at HMCr.out)
      obtain ⟨⟨j0, j1, j2, j3, j4, j5, j6, j7⟩, _⟩ := cap_cells8 (HPr.out.at HMDr.out)
      go_wp2_with fail
      all_goals
        go_ret
        exact ⟨by try rfl, HPr.out.fin (by omega) (by omega) hN⟩
    · have HPr := Vx.hid (HUP.out _ _ _ _ _ _ _ HJr.out)
      obtain ⟨wr, hwr⟩ : ∃ wr, wr = (((((((wcr.setCell ⟨wx.heap.size, 0, none⟩ (.int .i64 c0)).setCell ⟨wx.heap.size, 1, none⟩ (.int .i64 c1)).setCell ⟨wx.heap.size, 2, none⟩ (.int .i64 c2)).setCell ⟨wx.heap.size, 3, none⟩ (.int .u32 c3)).setCell ⟨wx.heap.size, 4, none⟩ (.int .u32 c4)).setCell ⟨wx.heap.size, 5, none⟩ (.int .i64 c5)).setCell ⟨wx.heap.size, 6, none⟩ (.int .i64 c6)).setCell ⟨wx.heap.size, 7, none⟩ (.int .u32 c7) := ⟨_, rfl⟩
      rw [← hwr] at HPr ⊢
      obtain ⟨cbr, hcbr⟩ : ∃ cb, cb = wx.heap.size := ⟨_, rfl⟩
      have HCBr := Vx.hid hcbr
      clear hwr z0 z1 z2 z3 z4 z5 z6 z7 q0 q1 q2 q3 q4 q5 q6 q7 HS0 HSA HS1 HSB HSC
      rw [← hcbr] at HPr ⊢
      obtain ⟨Fr, hFr⟩ : ∃ FF : List (Nat × Obj), FF = (cbr, .cells #[.int .i64 c0, .int .i64 c1, .int .i64 c2, .int .u32 c3, .int .u32 c4, .int .i64 c5, .int .i64 c6, .int .u32 c7] 66 (0, 0)) :: ((cbr, .cells #[.int .i64 0, .int .i64 0, .int .i64 0, .int .u32 0, .int .u32 0, .int .i64 0, .int .i64 0, .int .u32 0] 66 (0, 0)) :: Fx).filter (fun p => decide (p.1 ≠ cbr)) := ⟨_, rfl⟩
      rw [← hFr] at HPr
      have HMAr : Hid ((ab, so) ∈ Fr) := by
        show (ab, so) ∈ Fr
        have h9 := HALr.out
        have h10 : ab ≠ cbr := by have := HCBr.out; omega
        rw [hFr]
        simp [h10, HMAx.out]
      have HMCr : Hid ((cbr, .cells #[.int .i64 c0, .int .i64 c1, .int .i64 c2, .int .u32 c3, .int .u32 c4, .int .i64 c5, .int .i64 c6, .int .u32 c7] 66 (0, 0)) ∈ Fr) := by show (cbr, _) ∈ Fr; rw [hFr]; exact List.mem_cons_self
      have HMDr : Hid ((cbx, .cells #[.int .i64 c0, .int .i64 c1, .int .i64 c2, .int .u32 c3, .int .u32 c4, .int .i64 c5, .int .i64 c6, .int .u32 c7] 66 (0, 0)) ∈ Fr) := by
        show (cbx, _) ∈ Fr
        have h9 := lt_of_some (HPx.out.at HMCx.out)
        have h10 : cbx ≠ cbr := by have := HCBr.out; omega
        rw [hFr]
        simp [h10, HMCx.out]
      clear hcbr hFr HJr HIr HIAr HCBr
      obtain ⟨⟨g0, g1, g2, g3, g4, g5, g6, g7⟩, _⟩ := cap_cells8 (HPr.out.at HMCr.out)
      obtain ⟨⟨j0, j1, j2, j3, j4, j5, j6, j7⟩, _⟩ := cap_cells8 (HPr.out.at HMDr.out)
      go_wp2_with fail
      all_goals
        go_ret
        exact ⟨by try rfl, HPr.out.fin (by omega) (by omega) hN⟩
end Go.Proofs.YtbmchgjilkoplaaDoor

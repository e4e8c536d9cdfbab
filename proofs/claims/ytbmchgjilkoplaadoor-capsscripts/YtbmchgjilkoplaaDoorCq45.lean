import Derived.Test.YtbmchgjilkoplaaDoorCq44
import Derived.Deep.RegionHeld3
/- CapsScripts: puts: tells: Size. -/
namespace Go.Proofs.YtbmchgjilkoplaaDoor
open Go.ChangeShapes Go.WideShapes Go.ChangeAt Go.RowKit
open Go.Vx
set_option linter.unusedVariables false
variable {W : World} {xb rb zb bb : Nat} {X R Z Bk : Nat → Prop} {bs : List (Int × Int)} {es : List En} {vs ve : Value} {ss ls : List Sh} {wr : World}

set_option maxRecDepth 100000 in
set_option maxHeartbeats 4000000 in
theorem tells_size (h : CsR W xb rb zb bb X R Z Bk bs es bs es vs ss ve ls wr) (A B C E : Int) (iA : I64 A) (iB : I64 B) (iC : I64 C) (s : ByteArray) (hlb : bs.length < 1000000) (hle : es.length < 1000000) (hN : N77 bs) :
    Calls Tryd.prog 9 #[.pointer (some ⟨bb, 0, none⟩), .agg #[.int .i64 3, .int .i64 A, .int .i64 B, .int .i64 C, .int .i64 E, .string s]] wr fun e w' => e = .returned (.bool true) ∧ PsR W xb rb zb bb Z Bk vs ss ve ls (bs.length + 1) (es.length + 1) w' := by
  obtain ⟨oo, hoo⟩ : ∃ oo : Obj, oo = .cells #[.int .i64 3, .int .i64 A, .int .i64 B, .int .i64 C, .int .i64 E, .string s] 45 (0, 0) := ⟨_, rfl⟩
  have HP1 : Hid (PsI W xb rb zb bb Z Bk vs ss ve ls [(wr.heap.size, oo)] bs es bs es (wr.alloc oo)) := PsI.alloc (F := []) ⟨X, R, h, fun p hp => by cases hp⟩ oo
  have HSL := Vx.hid (fun wv => slotOf_ok A iA wv)
  have iS := slot_i64 iA
  generalize slotF A = at0 at HSL iS
  obtain ⟨a1, a2⟩ := at0
  dsimp only at HSL iS
  have HNA := Vx.hid (fun wv => near_any A iA 5 (by decide) wv)
  have iN := near_i64 iA 5 (by decide)
  generalize nearF A 5 = na at HNA iN
  clear h
  go_enter Tryd.func9, Tryd.ntmps9
  go_wp2_with fail
  rw [← hoo]
  obtain ⟨w1, hw1⟩ : ∃ w1, w1 = wr.alloc oo := ⟨_, rfl⟩
  rw [← hw1] at HP1 ⊢
  obtain ⟨ob, hob⟩ : ∃ ob, ob = wr.heap.size := ⟨_, rfl⟩
  rw [← hob] at HP1 ⊢
  clear hw1 hob
  have HCO : Hid (∀ F bx ex br er wv, PsI W xb rb zb bb Z Bk vs ss ve ls F bx ex br er wv → (ob, oo) ∈ F → wv.cell? ⟨ob, 0, none⟩ = some (.int .i64 3) ∧ wv.cell? ⟨ob, 1, none⟩ = some (.int .i64 A) ∧ wv.cell? ⟨ob, 2, none⟩ = some (.int .i64 B) ∧ wv.cell? ⟨ob, 3, none⟩ = some (.int .i64 C) ∧ wv.cell? ⟨ob, 5, none⟩ = some (.string s)) := fun F bx ex br er wv h hm => by
    have h1 := h.at hm
    rw [hoo] at h1
    exact ⟨(cell_of_row _ _ 0 _ _ (0, 0) h1).trans rfl, (cell_of_row _ _ 1 _ _ (0, 0) h1).trans rfl, (cell_of_row _ _ 2 _ _ (0, 0) h1).trans rfl, (cell_of_row _ _ 3 _ _ (0, 0) h1).trans rfl, (cell_of_row _ _ 5 _ _ (0, 0) h1).trans rfl⟩
  clear hoo
  obtain ⟨k0, k1, k2, k3, k5⟩ := HCO.out _ _ _ _ _ _ HP1.out (by simp)
  go_wp2_with fail
  refine (HSL.out _).mono ?_
  rintro e w2 ⟨rfl, ho2⟩
  have HP2 := Vx.hid (HP1.out.quiet ho2)
  clear k0 k1 k2 k3 k5 HP1 ho2 HSL
  go_upto_region 2 with fail
  obtain ⟨so, hso⟩ : ∃ so : Obj, so = .cells #[.int .i64 a1, .int .i64 a2] 62 (0, 0) := ⟨_, rfl⟩
  rw [← hso]
  have HP3 := Vx.hid (HP2.out.alloc so)
  obtain ⟨w3, hw3⟩ : ∃ w3, w3 = w2.alloc so := ⟨_, rfl⟩
  rw [← hw3] at HP3 ⊢
  obtain ⟨ab, hab⟩ : ∃ ab, ab = w2.heap.size := ⟨_, rfl⟩
  rw [← hab] at HP3 ⊢
  clear hw3 hab HP2
  have HCS : Hid (∀ F bx ex br er wv, PsI W xb rb zb bb Z Bk vs ss ve ls F bx ex br er wv → (ab, so) ∈ F → wv.cell? ⟨ab, 0, none⟩ = some (.int .i64 a1) ∧ wv.cell? ⟨ab, 1, none⟩ = some (.int .i64 a2)) := fun F bx ex br er wv h hm => by
    have h1 := h.at hm
    rw [hso] at h1
    exact (slot_cells h1).1
  clear hso
  obtain ⟨F, hF⟩ : ∃ F : List (Nat × Obj), F = [(ab, so), (ob, oo)] := ⟨_, rfl⟩
  have HMO : Hid ((ob, oo) ∈ F) := by show (ob, oo) ∈ F; rw [hF]; simp
  have HMA : Hid ((ab, so) ∈ F) := by show (ab, so) ∈ F; rw [hF]; simp
  rw [← hF] at HP3
  clear hF
  have HCE : Hid (∀ bx ex br er wv, PsI W xb rb zb bb Z Bk vs ss ve ls F bx ex br er wv → wv.cell? ⟨bb, 0, none⟩ = some (.pointer (some ⟨xb, 0, none⟩)) ∧ wv.cell? ⟨bb, 1, none⟩ = some (.pointer (some ⟨rb, 0, none⟩)) ∧ wv.cell? ⟨ob, 1, none⟩ = some (.int .i64 A) ∧ wv.cell? ⟨ob, 2, none⟩ = some (.int .i64 B) ∧ wv.cell? ⟨ob, 5, none⟩ = some (.string s) ∧ wv.cell? ⟨ab, 0, none⟩ = some (.int .i64 a1) ∧ wv.cell? ⟨ab, 1, none⟩ = some (.int .i64 a2)) := fun bx ex br er wv h => by
    obtain ⟨c0, c1, c2, c3, c5⟩ := HCO.out _ _ _ _ _ _ h HMO.out
    obtain ⟨d0, d1⟩ := HCS.out _ _ _ _ _ _ h HMA.out
    exact ⟨h.bx0.1, h.bx0.2, c1, c2, c5, d0, d1⟩
  have HXC : Hid (∀ wv, PsI W xb rb zb bb Z Bk vs ss ve ls F bs es bs es wv → Calls Tryd.prog 12 #[.pointer (some ⟨xb, 0, none⟩), .int .i64 na] wv fun e w' => e = .returned (.tuple #[.int .i64 (sizeR bs na).1, .int .i64 (sizeR bs na).2]) ∧ Hid (PsI W xb rb zb bb Z Bk vs ss ve ls F bs es bs es w')) := fun wv h => h.xread (fun U hx => by
    obtain ⟨mb, D, G, hx, _⟩ := hx
    refine (xsize_ok hx na iN).mono ?_
    rintro e w' ⟨rfl, rfl⟩
    exact ⟨rfl, Only.refl _ _⟩)
  have HRC : Hid (∀ wv, PsI W xb rb zb bb Z Bk vs ss ve ls F bs es bs es wv → Calls Tryd.prog 37 #[.pointer (some ⟨rb, 0, none⟩), .int .i64 na] wv fun e w' => e = .returned (.tuple #[.int .i64 (sizeR bs na).1, .int .i64 (sizeR bs na).2]) ∧ Hid (PsI W xb rb zb bb Z Bk vs ss ve ls F bs es bs es w')) := fun wv h => h.rread (fun U vb ve hr => by
    refine (size_ok hr na).mono ?_
    rintro e w' ⟨rfl, rfl⟩
    exact ⟨rfl, Only.refl _ _⟩)
  generalize (sizeR bs na).1 = sz at HXC HRC
  generalize (sizeR bs na).2 = er at HXC HRC
  obtain ⟨k0, _, _, _, _⟩ := HCO.out _ _ _ _ _ _ HP3.out HMO.out
  go_wp2_with fail
  clear k0
  have HI0 := Vx.hid (HP3.out.quiet ((Only.refl _ _).drew))
  have HS0 := Vx.hid (HCE.out _ _ _ _ _ HI0.out)
  go_region_held3 (fun wv => wv.cell? ⟨bb, 0, none⟩ = some (.pointer (some ⟨xb, 0, none⟩)) ∧ wv.cell? ⟨bb, 1, none⟩ = some (.pointer (some ⟨rb, 0, none⟩)) ∧ wv.cell? ⟨ob, 1, none⟩ = some (.int .i64 A) ∧ wv.cell? ⟨ob, 2, none⟩ = some (.int .i64 B) ∧ wv.cell? ⟨ob, 5, none⟩ = some (.string s) ∧ wv.cell? ⟨ab, 0, none⟩ = some (.int .i64 a1) ∧ wv.cell? ⟨ab, 1, none⟩ = some (.int .i64 a2)) (first | exact HS0.out | exact HS1.out) (first | (go_at_call_of 24 (Value.int IntKind.i64 A); refine (HNA.out _).mono ?_; rintro e w' ⟨rfl, h⟩; have h3 := h.symm; clear h; subst h3) | (go_at_call 12; refine (HXC.out _ HI0.out).mono ?_; rintro e w4 ⟨rfl, HI1⟩; have HS1 := Vx.hid (HCE.out _ _ _ _ _ HI1.out)))
  go_wp2_with fail
  have HI2 := Vx.hid (HI1.out.quiet ((Only.refl _ _).drew))
  have HS2 := Vx.hid (HCE.out _ _ _ _ _ HI2.out)
  go_region_held3 (fun wv => wv.cell? ⟨bb, 0, none⟩ = some (.pointer (some ⟨xb, 0, none⟩)) ∧ wv.cell? ⟨bb, 1, none⟩ = some (.pointer (some ⟨rb, 0, none⟩)) ∧ wv.cell? ⟨ob, 1, none⟩ = some (.int .i64 A) ∧ wv.cell? ⟨ob, 2, none⟩ = some (.int .i64 B) ∧ wv.cell? ⟨ob, 5, none⟩ = some (.string s) ∧ wv.cell? ⟨ab, 0, none⟩ = some (.int .i64 a1) ∧ wv.cell? ⟨ab, 1, none⟩ = some (.int .i64 a2)) (first | exact HS2.out | exact HS3.out) (first | (go_at_call_of 24 (Value.int IntKind.i64 A); refine (HNA.out _).mono ?_; rintro e w' ⟨rfl, h⟩; have h3 := h.symm; clear h; subst h3) | (go_at_call 37; refine (HRC.out _ HI2.out).mono ?_; rintro e w5 ⟨rfl, HI3⟩; have HS3 := Vx.hid (HCE.out _ _ _ _ _ HI3.out)))
  go_wp2_with fail
  all_goals
    go_ret
    exact ⟨by try rfl, HI3.out.fin (by omega) (by omega) hN⟩
end Go.Proofs.YtbmchgjilkoplaaDoor

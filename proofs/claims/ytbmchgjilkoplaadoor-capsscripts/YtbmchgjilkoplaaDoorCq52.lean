import Derived.Test.YtbmchgjilkoplaaDoorCq47
import Derived.Test.YtbmchgjilkoplaaDoorCq42
import Derived.Test.YtbmchgjilkoplaaDoorCq51
import Derived.Deep.RegionHeld3
/- CapsScripts: puts: tells: Lookup. -/
namespace Go.Proofs.YtbmchgjilkoplaaDoor
open Go.ChangeShapes Go.WideShapes Go.ChangeAt Go.RowKit
open Go.Vx
set_option linter.unusedVariables false
variable {W : World} {xb rb zb bb : Nat} {X R Z Bk : Nat → Prop} {bs : List (Int × Int)} {es : List En} {vs ve : Value} {ss ls : List Sh} {wr : World}

theorem mem_upd {F : List (Nat × Obj)} {p : Nat × Obj} {b : Nat} {o o2 : Obj} (h : p ∈ F) (hne : p.1 ≠ b) : p ∈ (b, o2) :: ((b, o) :: F).filter fun p => decide (p.1 ≠ b) := by
  refine List.mem_cons_of_mem _ (List.mem_filter.2 ⟨List.mem_cons_of_mem _ h, ?_⟩)
  simpa using hne
set_option maxRecDepth 100000 in
set_option maxHeartbeats 4000000 in
theorem tells_look (h : CsR W xb rb zb bb X R Z Bk bs es bs es vs ss ve ls wr) (A B C E : Int) (iA : I64 A) (iB : I64 B) (iC : I64 C) (s : ByteArray) (hlb : bs.length < 1000000) (hle : es.length < 1000000) (hN : N77 bs) :
    Calls Tryd.prog 9 #[.pointer (some ⟨bb, 0, none⟩), .agg #[.int .i64 13, .int .i64 A, .int .i64 B, .int .i64 C, .int .i64 E, .string s]] wr fun e w' => e = .returned (.bool true) ∧ PsR W xb rb zb bb Z Bk vs ss ve ls (bs.length + 1) (es.length + 1) w' := by
  have HWF : Hid (Wf bs es) := by
    obtain ⟨_, _, _, _, h1, _, _⟩ := h.x
    exact h1
  obtain ⟨oo, hoo⟩ : ∃ oo : Obj, oo = .cells #[.int .i64 13, .int .i64 A, .int .i64 B, .int .i64 C, .int .i64 E, .string s] 45 (0, 0) := ⟨_, rfl⟩
  have HP1 : Hid (PsI W xb rb zb bb Z Bk vs ss ve ls [(wr.heap.size, oo)] bs es bs es (wr.alloc oo)) := PsI.alloc (F := []) ⟨X, R, h, fun p hp => by cases hp⟩ oo
  have HSL := Vx.hid (fun wv => slotOf_ok A iA wv)
  have iS := slot_i64 iA
  generalize slotF A = at0 at HSL iS
  obtain ⟨a1, a2⟩ := at0
  dsimp only at HSL iS
  have HNC := Vx.hid (fun wv => near_any C iC 33 (by decide) wv)
  have HCF := Vx.hid (fun wv => capOf_ok A iA s wv)
  have hgu := capF_gu A s
  have hnm := capF_num A s
  generalize nearF C 33 = nc at HNC
  generalize capF A s = cp at HCF hgu hnm
  obtain ⟨c0, c1, c2, c3, c4, c5, c6, c7⟩ := cp
  simp only [cpV] at HCF
  have HRI := Vx.hid (⟨hgu, hnm⟩ : _ ∧ _)
  clear hgu hnm
  obtain ⟨av, hav⟩ : ∃ av : Nat, av = (B % 4294967296).toNat := ⟨_, rfl⟩
  have hal : av < 4294967296 := by omega
  have hwB : IntKind.u32.wrap B = (av : Int) := by rw [IntKind.wrap_u32]; omega
  have hwA : IntKind.i64.wrap (av : Int) = (av : Int) := by rw [IntKind.wrap_i64]; omega
  clear hav
  clear h
  go_enter Tryd.func9, Tryd.ntmps9
  go_wp2_with fail
  rw [← hoo]
  obtain ⟨w1, hw1⟩ : ∃ w1, w1 = wr.alloc oo := ⟨_, rfl⟩
  rw [← hw1] at HP1 ⊢
  obtain ⟨ob, hob⟩ : ∃ ob, ob = wr.heap.size := ⟨_, rfl⟩
  rw [← hob] at HP1 ⊢
  clear hw1 hob
  have HCO : Hid (∀ F bx ex br er wv, PsI W xb rb zb bb Z Bk vs ss ve ls F bx ex br er wv → (ob, oo) ∈ F → wv.cell? ⟨ob, 0, none⟩ = some (.int .i64 13) ∧ wv.cell? ⟨ob, 1, none⟩ = some (.int .i64 A) ∧ wv.cell? ⟨ob, 2, none⟩ = some (.int .i64 B) ∧ wv.cell? ⟨ob, 3, none⟩ = some (.int .i64 C) ∧ wv.cell? ⟨ob, 5, none⟩ = some (.string s)) := fun F bx ex br er wv h hm => by
    have h1 := h.at hm
    rw [hoo] at h1
    exact ⟨(cell_of_row _ _ 0 _ _ (0, 0) h1).trans rfl, (cell_of_row _ _ 1 _ _ (0, 0) h1).trans rfl, (cell_of_row _ _ 2 _ _ (0, 0) h1).trans rfl, (cell_of_row _ _ 3 _ _ (0, 0) h1).trans rfl, (cell_of_row _ _ 5 _ _ (0, 0) h1).trans rfl⟩
  clear hoo
  obtain ⟨k0, k1, k2, k3, k5⟩ := HCO.out _ _ _ _ _ _ HP1.out (by simp)
  go_wp2_with fail
  refine (HSL.out _).mono ?_
  rintro e w2 ⟨rfl, ho2⟩
  have HP2 := Vx.hid (HP1.out.quiet ho2)
  clear k0 k1 k2 k3 k5 HP1 ho2 HSL
  go_upto_region 2 with fail
  obtain ⟨so, hso⟩ : ∃ so : Obj, so = .cells #[.int .i64 a1, .int .i64 a2] 62 (0, 0) := ⟨_, rfl⟩
  rw [← hso]
  have HP3 := Vx.hid (HP2.out.alloc so)
  obtain ⟨w3, hw3⟩ : ∃ w3, w3 = w2.alloc so := ⟨_, rfl⟩
  rw [← hw3] at HP3 ⊢
  obtain ⟨ab, hab⟩ : ∃ ab, ab = w2.heap.size := ⟨_, rfl⟩
  rw [← hab] at HP3 ⊢
  clear hw3 hab HP2
  have HCS : Hid (∀ F bx ex br er wv, PsI W xb rb zb bb Z Bk vs ss ve ls F bx ex br er wv → (ab, so) ∈ F → wv.cell? ⟨ab, 0, none⟩ = some (.int .i64 a1) ∧ wv.cell? ⟨ab, 1, none⟩ = some (.int .i64 a2)) := fun F bx ex br er wv h hm => by
    have h1 := h.at hm
    rw [hso] at h1
    exact (slot_cells h1).1
  clear hso
  obtain ⟨F, hF⟩ : ∃ F : List (Nat × Obj), F = [(ab, so), (ob, oo)] := ⟨_, rfl⟩
  have HMO : Hid ((ob, oo) ∈ F) := by show (ob, oo) ∈ F; rw [hF]; simp
  have HMA : Hid ((ab, so) ∈ F) := by show (ab, so) ∈ F; rw [hF]; simp
  rw [← hF] at HP3
  clear hF
  have HXC : Hid (∀ F wv, PsI W xb rb zb bb Z Bk vs ss ve ls F bs es bs es wv → Calls Tryd.prog 43 #[.pointer (some ⟨xb, 0, none⟩), .agg #[.int .i64 c0, .int .i64 c1, .int .i64 c2, .int .u32 c3, .int .u32 c4, .int .i64 c5, .int .i64 c6, .int .u32 c7], .int .u32 (av : Int), .int .i64 nc] wv fun e w' => e = .returned (.tuple #[slV (lookR bs es av ⟨c0, c1, c2, c3, c4, c5, c6, c7⟩ nc).1, .int .i64 (lookR bs es av ⟨c0, c1, c2, c3, c4, c5, c6, c7⟩ nc).2]) ∧ Hid (PsI W xb rb zb bb Z Bk vs ss ve ls F bs es bs es w')) := fun F wv h => h.xread (fun U hx => xlookup_ok hx ⟨c0, c1, c2, c3, c4, c5, c6, c7⟩ HRI.out.2 av hal nc)
  have HRC : Hid (∀ F wv, PsI W xb rb zb bb Z Bk vs ss ve ls F bs es bs es wv → Calls Tryd.prog 44 #[.pointer (some ⟨rb, 0, none⟩), .agg #[.int .i64 c0, .int .i64 c1, .int .i64 c2, .int .u32 c3, .int .u32 c4, .int .i64 c5, .int .i64 c6, .int .u32 c7], .int .i64 (av : Int), .int .i64 nc] wv fun e w' => e = .returned (.tuple #[slV (lookR bs es av ⟨c0, c1, c2, c3, c4, c5, c6, c7⟩ nc).1, .int .i64 (lookR bs es av ⟨c0, c1, c2, c3, c4, c5, c6, c7⟩ nc).2]) ∧ Hid (PsI W xb rb zb bb Z Bk vs ss ve ls F bs es bs es w')) := fun F wv h => h.rread (fun U vb ve hr => lookup_ok hr (fun b hb => (HWF.out.bn b hb).1) HWF.out.gu ⟨c0, c1, c2, c3, c4, c5, c6, c7⟩ HRI.out.1 av hal nc)
  generalize (lookR bs es av ⟨c0, c1, c2, c3, c4, c5, c6, c7⟩ nc).2 = er at HXC HRC
  generalize (lookR bs es av ⟨c0, c1, c2, c3, c4, c5, c6, c7⟩ nc).1 = lk at HXC HRC
  obtain ⟨l0, l1⟩ := lk
  simp only [slV] at HXC HRC
  have HCE : Hid (∀ F wv, PsI W xb rb zb bb Z Bk vs ss ve ls F bs es bs es wv → (ob, oo) ∈ F → wv.cell? ⟨bb, 0, none⟩ = some (.pointer (some ⟨xb, 0, none⟩)) ∧ wv.cell? ⟨bb, 1, none⟩ = some (.pointer (some ⟨rb, 0, none⟩)) ∧ wv.cell? ⟨ob, 1, none⟩ = some (.int .i64 A) ∧ wv.cell? ⟨ob, 2, none⟩ = some (.int .i64 B) ∧ wv.cell? ⟨ob, 3, none⟩ = some (.int .i64 C) ∧ wv.cell? ⟨ob, 5, none⟩ = some (.string s)) := fun F wv h hm => by
    obtain ⟨k0, k1, k2, k3, k5⟩ := HCO.out _ _ _ _ _ _ h hm
    exact ⟨h.bx0.1, h.bx0.2, k1, k2, k3, k5⟩
  have HQT : Hid (∀ F wv wq, PsI W xb rb zb bb Z Bk vs ss ve ls F bs es bs es wv → Only (fun _ => False) wv wq → PsI W xb rb zb bb Z Bk vs ss ve ls F bs es bs es wq) := fun F wv wq h ho => h.quiet ho
  have HUP : Hid (∀ F b wv, PsI W xb rb zb bb Z Bk vs ss ve ls ((b, .cells #[.int .i64 0, .int .i64 0] 62 (0, 0)) :: F) bs es bs es wv → PsI W xb rb zb bb Z Bk vs ss ve ls ((b, .cells #[.int .i64 l0, .int .i64 l1] 62 (0, 0)) :: ((b, .cells #[.int .i64 0, .int .i64 0] 62 (0, 0)) :: F).filter fun p => decide (p.1 ≠ b)) bs es bs es ((wv.setCell ⟨b, 0, none⟩ (.int .i64 l0)).setCell ⟨b, 1, none⟩ (.int .i64 l1))) := fun F b wv h => by
    have h1 := h.at List.mem_cons_self
    exact h.upd List.mem_cons_self (slot_set2 h1 (.int .i64 l0) (.int .i64 l1)).2 (slot_set2 h1 (.int .i64 l0) (.int .i64 l1)).1
  have HUC : Hid (∀ F b wv, PsI W xb rb zb bb Z Bk vs ss ve ls ((b, .cells #[.int .i64 0, .int .i64 0] 62 (0, 0)) :: F) bs es bs es wv → (ob, oo) ∈ F → ob ≠ b → ((wv.setCell ⟨b, 0, none⟩ (.int .i64 l0)).setCell ⟨b, 1, none⟩ (.int .i64 l1)).cell? ⟨bb, 0, none⟩ = some (.pointer (some ⟨xb, 0, none⟩)) ∧ ((wv.setCell ⟨b, 0, none⟩ (.int .i64 l0)).setCell ⟨b, 1, none⟩ (.int .i64 l1)).cell? ⟨bb, 1, none⟩ = some (.pointer (some ⟨rb, 0, none⟩)) ∧ ((wv.setCell ⟨b, 0, none⟩ (.int .i64 l0)).setCell ⟨b, 1, none⟩ (.int .i64 l1)).cell? ⟨ob, 1, none⟩ = some (.int .i64 A) ∧ ((wv.setCell ⟨b, 0, none⟩ (.int .i64 l0)).setCell ⟨b, 1, none⟩ (.int .i64 l1)).cell? ⟨ob, 2, none⟩ = some (.int .i64 B) ∧ ((wv.setCell ⟨b, 0, none⟩ (.int .i64 l0)).setCell ⟨b, 1, none⟩ (.int .i64 l1)).cell? ⟨ob, 3, none⟩ = some (.int .i64 C) ∧ ((wv.setCell ⟨b, 0, none⟩ (.int .i64 l0)).setCell ⟨b, 1, none⟩ (.int .i64 l1)).cell? ⟨ob, 5, none⟩ = some (.string s)) := fun F b wv h hm hne => HCE.out _ _ (HUP.out _ _ _ h) (mem_upd hm hne)
  obtain ⟨k0, _, _, _, _⟩ := HCO.out _ _ _ _ _ _ HP3.out HMO.out
  go_upto_region 30 with fail
  clear k0
  go_cut [26, 27] from 196 to 214 (fun v6 v7 wx => ∃ gb F2, v6 = .pointer (some ⟨gb, 0, none⟩) ∧ v7 = .int .i64 er ∧ Hid (PsI W xb rb zb bb Z Bk vs ss ve ls F2 bs es bs es wx) ∧ Hid ((gb, .cells #[.int .i64 l0, .int .i64 l1] 62 (0, 0)) ∈ F2) ∧ Hid ((ob, oo) ∈ F2))
  case first =>
    have HI0 := Vx.hid (HP3.out.quiet ((Only.refl _ _).drew))
    have HIA : Hid (∀ o, _) := fun o => (HP3.out.alloc o).quiet ((Only.refl _ _).drew)
    have HS0 := Vx.hid (HCE.out _ _ HI0.out HMO.out)
    have HSA := Vx.hid (fun o => HCE.out _ _ (HIA.out o) (List.mem_cons_of_mem _ HMO.out))
    have HS1 := HS0
    have HSB := HSA
    have HS2 := HS0
    have HSC := HSA
    have HSD := HS0
    have HIQ := HI0
    have HL0 := Vx.hid (⟨lt_of_some (HP3.out.at HMO.out), trivial⟩ : _ ∧ True)
    have HLQ := HL0
    go_region_held3 (fun wv => wv.cell? ⟨bb, 0, none⟩ = some (.pointer (some ⟨xb, 0, none⟩)) ∧ wv.cell? ⟨bb, 1, none⟩ = some (.pointer (some ⟨rb, 0, none⟩)) ∧ wv.cell? ⟨ob, 1, none⟩ = some (.int .i64 A) ∧ wv.cell? ⟨ob, 2, none⟩ = some (.int .i64 B) ∧ wv.cell? ⟨ob, 3, none⟩ = some (.int .i64 C) ∧ wv.cell? ⟨ob, 5, none⟩ = some (.string s)) (first | with_reducible exact HS0.out | with_reducible exact HSA.out _ | with_reducible exact HS1.out | with_reducible exact HSB.out _ | with_reducible exact HS2.out | with_reducible exact HSC.out _ | with_reducible exact HSD.out) (first | (go_at_call 24; refine (HNC.out _).mono ?_; rintro e w' ⟨rfl, h⟩; have h3 := h.symm; clear h; subst h3) | (go_at_call 29; refine (HCF.out _).mono ?_; rintro e wq ⟨rfl, hq⟩; have HIQ := Vx.hid (HQT.out _ _ _ (by first | exact HI0.out | exact HIA.out _) hq); clear hq; have HS1 := Vx.hid (HCE.out _ _ HIQ.out (by first | exact HMO.out | exact List.mem_cons_of_mem _ HMO.out | exact List.mem_cons_of_mem _ (List.mem_cons_of_mem _ HMO.out))); have HSB := Vx.hid (fun o => HCE.out _ _ (HIQ.out.alloc o) (List.mem_cons_of_mem _ (by first | exact HMO.out | exact List.mem_cons_of_mem _ HMO.out | exact List.mem_cons_of_mem _ (List.mem_cons_of_mem _ HMO.out)))); have HLQ : Hid (ob < wq.heap.size ∧ True) := ⟨lt_of_some (HIQ.out.at (by first | exact HMO.out | exact List.mem_cons_of_mem _ HMO.out | exact List.mem_cons_of_mem _ (List.mem_cons_of_mem _ HMO.out))), trivial⟩) | (go_at_call 43; refine (HXC.out _ _ (by first | exact HIQ.out | exact HIQ.out.alloc _)).mono ?_; rintro e wl ⟨rfl, HJL⟩; have HS2 := Vx.hid (HCE.out _ _ HJL.out (by first | exact HMO.out | exact List.mem_cons_of_mem _ HMO.out | exact List.mem_cons_of_mem _ (List.mem_cons_of_mem _ HMO.out))); have HSC := Vx.hid (fun o => HCE.out _ _ (HJL.out.alloc o) (List.mem_cons_of_mem _ (by first | exact HMO.out | exact List.mem_cons_of_mem _ HMO.out | exact List.mem_cons_of_mem _ (List.mem_cons_of_mem _ HMO.out)))); try (obtain ⟨⟨z0, z1⟩, hfz⟩ := slot_cells (HJL.out.at List.mem_cons_self); have q0 := hfz 0; have q1 := hfz 1; clear hfz; have HSD := Vx.hid (HUC.out _ _ _ HJL.out HMO.out (by first | exact Nat.ne_of_lt HL0.out.1 | exact Nat.ne_of_lt HLQ.out.1)))))
    all_goals
      go_wp2_with fail
      go_meet
      first | exact ⟨_, _, rfl, rfl, HJL.out.alloc _, List.mem_cons_self, List.mem_cons_of_mem _ HMO.out⟩ | exact ⟨_, _, rfl, rfl, HUP.out _ _ _ HJL.out, List.mem_cons_self, mem_upd HMO.out (Nat.ne_of_lt HL0.out.1)⟩ | exact ⟨_, _, rfl, rfl, HUP.out _ _ _ HJL.out, List.mem_cons_self, mem_upd HMO.out (Nat.ne_of_lt HLQ.out.1)⟩
  case rest =>
    obtain ⟨fb, F2, rfl, rfl, HPx, HMF, HMO2⟩ := hcut
    go_upto_region 31 with fail
    go_cut [28, 29] from 215 to 234 (fun v6 v7 wx => ∃ gb F2, v6 = .pointer (some ⟨gb, 0, none⟩) ∧ v7 = .int .i64 er ∧ Hid (PsI W xb rb zb bb Z Bk vs ss ve ls F2 bs es bs es wx) ∧ Hid ((gb, .cells #[.int .i64 l0, .int .i64 l1] 62 (0, 0)) ∈ F2) ∧ Hid ((ob, oo) ∈ F2) ∧ Hid ((fb, .cells #[.int .i64 l0, .int .i64 l1] 62 (0, 0)) ∈ F2))
    case first =>
      have HI0 := Vx.hid (HPx.out.quiet ((Only.refl _ _).drew))
      have HIA : Hid (∀ o, _) := fun o => (HPx.out.alloc o).quiet ((Only.refl _ _).drew)
      have HS0 := Vx.hid (HCE.out _ _ HI0.out HMO2.out)
      have HSA := Vx.hid (fun o => HCE.out _ _ (HIA.out o) (List.mem_cons_of_mem _ HMO2.out))
      have HS1 := HS0
      have HSB := HSA
      have HS2 := HS0
      have HSC := HSA
      have HSD := HS0
      have HIQ := HI0
      have HL0 := Vx.hid (⟨lt_of_some (HPx.out.at HMO2.out), lt_of_some (HPx.out.at HMF.out), trivial⟩ : _ ∧ _ ∧ True)
      have HLQ := HL0
      go_region_held3 (fun wv => wv.cell? ⟨bb, 0, none⟩ = some (.pointer (some ⟨xb, 0, none⟩)) ∧ wv.cell? ⟨bb, 1, none⟩ = some (.pointer (some ⟨rb, 0, none⟩)) ∧ wv.cell? ⟨ob, 1, none⟩ = some (.int .i64 A) ∧ wv.cell? ⟨ob, 2, none⟩ = some (.int .i64 B) ∧ wv.cell? ⟨ob, 3, none⟩ = some (.int .i64 C) ∧ wv.cell? ⟨ob, 5, none⟩ = some (.string s)) (first | with_reducible exact HS0.out | with_reducible exact HSA.out _ | with_reducible exact HS1.out | with_reducible exact HSB.out _ | with_reducible exact HS2.out | with_reducible exact HSC.out _ | with_reducible exact HSD.out) (first | (go_at_call 24; refine (HNC.out _).mono ?_; rintro e w' ⟨rfl, h⟩; have h3 := h.symm; clear h; subst h3) | (go_at_call 29; refine (HCF.out _).mono ?_; rintro e wq ⟨rfl, hq⟩; have HIQ := Vx.hid (HQT.out _ _ _ (by first | exact HI0.out | exact HIA.out _) hq); clear hq; have HS1 := Vx.hid (HCE.out _ _ HIQ.out (by first | exact HMO2.out | exact List.mem_cons_of_mem _ HMO2.out | exact List.mem_cons_of_mem _ (List.mem_cons_of_mem _ HMO2.out))); have HSB := Vx.hid (fun o => HCE.out _ _ (HIQ.out.alloc o) (List.mem_cons_of_mem _ (by first | exact HMO2.out | exact List.mem_cons_of_mem _ HMO2.out | exact List.mem_cons_of_mem _ (List.mem_cons_of_mem _ HMO2.out)))); have HLQ : Hid (ob < wq.heap.size ∧ fb < wq.heap.size ∧ True) := ⟨lt_of_some (HIQ.out.at (by first | exact HMO2.out | exact List.mem_cons_of_mem _ HMO2.out | exact List.mem_cons_of_mem _ (List.mem_cons_of_mem _ HMO2.out))), lt_of_some (HIQ.out.at (by first | exact HMF.out | exact List.mem_cons_of_mem _ HMF.out | exact List.mem_cons_of_mem _ (List.mem_cons_of_mem _ HMF.out))), trivial⟩) | (go_at_call 44; refine (HRC.out _ _ (by first | exact HIQ.out | exact HIQ.out.alloc _)).mono ?_; rintro e wl ⟨rfl, HJL⟩; have HS2 := Vx.hid (HCE.out _ _ HJL.out (by first | exact HMO2.out | exact List.mem_cons_of_mem _ HMO2.out | exact List.mem_cons_of_mem _ (List.mem_cons_of_mem _ HMO2.out))); have HSC := Vx.hid (fun o => HCE.out _ _ (HJL.out.alloc o) (List.mem_cons_of_mem _ (by first | exact HMO2.out | exact List.mem_cons_of_mem _ HMO2.out | exact List.mem_cons_of_mem _ (List.mem_cons_of_mem _ HMO2.out)))); try (obtain ⟨⟨z0, z1⟩, hfz⟩ := slot_cells (HJL.out.at List.mem_cons_self); have q0 := hfz 0; have q1 := hfz 1; clear hfz; have HSD := Vx.hid (HUC.out _ _ _ HJL.out HMO2.out (by first | exact Nat.ne_of_lt HL0.out.1 | exact Nat.ne_of_lt HLQ.out.1)))))
      all_goals
        go_wp2_with fail
        go_meet
        first | exact ⟨_, _, rfl, rfl, HJL.out.alloc _, List.mem_cons_self, List.mem_cons_of_mem _ HMO2.out, List.mem_cons_of_mem _ HMF.out⟩ | exact ⟨_, _, rfl, rfl, HUP.out _ _ _ HJL.out, List.mem_cons_self, mem_upd HMO2.out (Nat.ne_of_lt HL0.out.1), mem_upd HMF.out (Nat.ne_of_lt HL0.out.2.1)⟩ | exact ⟨_, _, rfl, rfl, HUP.out _ _ _ HJL.out, List.mem_cons_self, mem_upd HMO2.out (Nat.ne_of_lt HLQ.out.1), mem_upd HMF.out (Nat.ne_of_lt HLQ.out.2.1)⟩
    case rest =>
      obtain ⟨gb, F3, rfl, rfl, HPr, HMG, HMO3, HMH⟩ := hcut
      obtain ⟨⟨g0, g1⟩, _⟩ := slot_cells (HPr.out.at HMG.out)
      obtain ⟨⟨j0, j1⟩, _⟩ := slot_cells (HPr.out.at HMH.out)
      go_wp2_with fail
      all_goals
        go_ret
        exact ⟨by try rfl, HPr.out.fin (by omega) (by omega) hN⟩
end Go.Proofs.YtbmchgjilkoplaaDoor

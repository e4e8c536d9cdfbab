import Derived.Test.YtbmchgjilkoplaaDoorCq44
import Derived.Test.YtbmchgjilkoplaaDoorCq16
import Derived.Test.YtbmchgjilkoplaaDoorCq39
import Derived.Deep.RegionHeld3
/- CapsScripts: puts: lists into the books; tells: Below. -/
namespace Go.Proofs.YtbmchgjilkoplaaDoor
open Go.ChangeShapes Go.WideShapes Go.ChangeAt Go.RowKit
open Go.Vx
set_option linter.unusedVariables false
variable {W : World} {xb rb zb bb : Nat} {X R Z Bk : Nat → Prop} {bs : List (Int × Int)} {es : List En} {vs ve : Value} {ss ls : List Sh} {wr : World}

/-- What a step that tells leaves. -/
def TsR (W : World) (xb rb zb bb : Nat) (Z : Nat → Prop) (bx : List (Int × Int)) (ex : List En) (br : List (Int × Int)) (er : List En) (n m : Nat) (w' : World) : Prop := ∃ X R B vs ss ve ls, CsR W xb rb zb bb X R Z B bx ex br er vs ss ve ls w' ∧ ss.length ≤ n ∧ ls.length ≤ m
/-- A list goes into the books. -/
theorem PsI.ownS {F : List (Nat × Obj)} {bx br : List (Int × Int)} {ex er : List En} {wv w3 : World} {l : Value} {ms : List Sl} (h : PsI W xb rb zb bb Z Bk vs ss ve ls F bx ex br er wv) (ho : Only (fun _ => False) wv w3) (hl : OwnL slL w3 wv.heap.size 62 l ms) (hm : ms.length ≤ 2000000) (hs : ss.length ≤ 1000000) :
    Calls Tryd.prog 41 #[.pointer (some ⟨bb, 2, none⟩), l] w3 fun e w' => e = .returned (.tuple #[]) ∧ TsR W xb rb zb bb Z bx ex br er (ss.length + 2) (ls.length + 2) w' := by
  obtain ⟨X, R, h, _⟩ := h
  have hq := h.quiet ho
  have hb := lt_of_some h.b.bl
  have hw := h.be.size
  have hfr : ∀ k, l.ownBlock = some k → wv.heap.size ≤ k ∧ k < w3.heap.size := fun k hk => by
    obtain ⟨h1, ⟨cur, h2⟩, _⟩ := hl.blk hk
    exact ⟨h1, lt_of_some h2⟩
  refine (ownSlots_ok hq.b hs hl ho.size hm (fun k hk => ⟨fun h1 => ?_, fun h1 => ?_⟩)).mono ?_
  · have h2 := (hfr k hk).1
    have h3 := (h.dB k h1).2.1
    omega
  · have h2 := (hfr k hk).1
    omega
  · rintro e w' ⟨rfl, v2, s1, s2, hB, hO⟩
    refine ⟨rfl, X, R, _, v2, _, ve, ls, hq.book hB hO (fun k hk => ?_), by simp, by simp⟩
    obtain ⟨h1, h2⟩ := hfr k hk
    refine ⟨by omega, h2, fun h3 => ?_, fun h3 => ?_, fun h3 => ?_, by omega⟩
    · have := (h.dX k h3).2.1; omega
    · have := (h.dR k h3).2.1; omega
    · have := (h.dZ k h3).2.1; omega
/-- A list goes into the books. -/
theorem PsI.ownE {F : List (Nat × Obj)} {bx br : List (Int × Int)} {ex er : List En} {wv w3 : World} {l : Value} {ms : List En} (h : PsI W xb rb zb bb Z Bk vs ss ve ls F bx ex br er wv) (ho : Only (fun _ => False) wv w3) (hl : OwnL enL w3 wv.heap.size 72 l ms) (hm : ms.length ≤ 2000000) (hs : ls.length ≤ 1000000) :
    Calls Tryd.prog 46 #[.pointer (some ⟨bb, 2, none⟩), l] w3 fun e w' => e = .returned (.tuple #[]) ∧ TsR W xb rb zb bb Z bx ex br er (ss.length + 2) (ls.length + 2) w' := by
  obtain ⟨X, R, h, _⟩ := h
  have hq := h.quiet ho
  have hb := lt_of_some h.b.bl
  have hw := h.be.size
  have hfr : ∀ k, l.ownBlock = some k → wv.heap.size ≤ k ∧ k < w3.heap.size := fun k hk => by
    obtain ⟨h1, ⟨cur, h2⟩, _⟩ := hl.blk hk
    exact ⟨h1, lt_of_some h2⟩
  refine (ownEntries_ok hq.b hs hl ho.size hm (fun k hk => ⟨fun h1 => ?_, fun h1 => ?_⟩)).mono ?_
  · have h2 := (hfr k hk).1
    have h3 := (h.dB k h1).2.1
    omega
  · have h2 := (hfr k hk).1
    omega
  · rintro e w' ⟨rfl, v2, s1, s2, hB, hO⟩
    refine ⟨rfl, X, R, _, vs, ss, v2, _, hq.book hB hO (fun k hk => ?_), by simp, by simp⟩
    obtain ⟨h1, h2⟩ := hfr k hk
    refine ⟨by omega, h2, fun h3 => ?_, fun h3 => ?_, fun h3 => ?_, by omega⟩
    · have := (h.dX k h3).2.1; omega
    · have := (h.dR k h3).2.1; omega
    · have := (h.dZ k h3).2.1; omega
set_option maxRecDepth 100000 in
set_option maxHeartbeats 4000000 in
theorem tells_below (h : CsR W xb rb zb bb X R Z Bk bs es bs es vs ss ve ls wr) (A B C E : Int) (iA : I64 A) (iB : I64 B) (iC : I64 C) (s : ByteArray) (hlb : bs.length < 1000000) (hle : es.length < 1000000) (hN : N77 bs) (hss : ss.length ≤ 1000000) :
    Calls Tryd.prog 9 #[.pointer (some ⟨bb, 0, none⟩), .agg #[.int .i64 10, .int .i64 A, .int .i64 B, .int .i64 C, .int .i64 E, .string s]] wr fun e w' => e = .returned (.bool true) ∧ TsR W xb rb zb bb Z bs es bs es (ss.length + 2) (ls.length + 2) w' := by
  have HWF : Hid (Wf bs es) := by
    obtain ⟨_, _, _, _, h1, _, _⟩ := h.x
    exact h1
  obtain ⟨oo, hoo⟩ : ∃ oo : Obj, oo = .cells #[.int .i64 10, .int .i64 A, .int .i64 B, .int .i64 C, .int .i64 E, .string s] 45 (0, 0) := ⟨_, rfl⟩
  have HP1 : Hid (PsI W xb rb zb bb Z Bk vs ss ve ls [(wr.heap.size, oo)] bs es bs es (wr.alloc oo)) := PsI.alloc (F := []) ⟨X, R, h, fun p hp => by cases hp⟩ oo
  have HSL := Vx.hid (fun wv => slotOf_ok A iA wv)
  have iS := slot_i64 iA
  generalize slotF A = at0 at HSL iS
  obtain ⟨a1, a2⟩ := at0
  dsimp only at HSL iS
  clear h
  go_enter Tryd.func9, Tryd.ntmps9
  go_wp2_with fail
  rw [← hoo]
  obtain ⟨w1, hw1⟩ : ∃ w1, w1 = wr.alloc oo := ⟨_, rfl⟩
  rw [← hw1] at HP1 ⊢
  obtain ⟨ob, hob⟩ : ∃ ob, ob = wr.heap.size := ⟨_, rfl⟩
  rw [← hob] at HP1 ⊢
  clear hw1 hob
  have HCO : Hid (∀ F bx ex br er wv, PsI W xb rb zb bb Z Bk vs ss ve ls F bx ex br er wv → (ob, oo) ∈ F → wv.cell? ⟨ob, 0, none⟩ = some (.int .i64 10) ∧ wv.cell? ⟨ob, 1, none⟩ = some (.int .i64 A) ∧ wv.cell? ⟨ob, 2, none⟩ = some (.int .i64 B) ∧ wv.cell? ⟨ob, 3, none⟩ = some (.int .i64 C) ∧ wv.cell? ⟨ob, 5, none⟩ = some (.string s)) := fun F bx ex br er wv h hm => by
    have h1 := h.at hm
    rw [hoo] at h1
    exact ⟨(cell_of_row _ _ 0 _ _ (0, 0) h1).trans rfl, (cell_of_row _ _ 1 _ _ (0, 0) h1).trans rfl, (cell_of_row _ _ 2 _ _ (0, 0) h1).trans rfl, (cell_of_row _ _ 3 _ _ (0, 0) h1).trans rfl, (cell_of_row _ _ 5 _ _ (0, 0) h1).trans rfl⟩
  clear hoo
  obtain ⟨k0, k1, k2, k3, k5⟩ := HCO.out _ _ _ _ _ _ HP1.out (by simp)
  go_wp2_with fail
  refine (HSL.out _).mono ?_
  rintro e w2 ⟨rfl, ho2⟩
  have HP2 := Vx.hid (HP1.out.quiet ho2)
  clear k0 k1 k2 k3 k5 HP1 ho2 HSL
  go_upto_region 2 with fail
  obtain ⟨so, hso⟩ : ∃ so : Obj, so = .cells #[.int .i64 a1, .int .i64 a2] 62 (0, 0) := ⟨_, rfl⟩
  rw [← hso]
  have HP3 := Vx.hid (HP2.out.alloc so)
  obtain ⟨w3, hw3⟩ : ∃ w3, w3 = w2.alloc so := ⟨_, rfl⟩
  rw [← hw3] at HP3 ⊢
  obtain ⟨ab, hab⟩ : ∃ ab, ab = w2.heap.size := ⟨_, rfl⟩
  rw [← hab] at HP3 ⊢
  clear hw3 hab HP2
  have HCS : Hid (∀ F bx ex br er wv, PsI W xb rb zb bb Z Bk vs ss ve ls F bx ex br er wv → (ab, so) ∈ F → wv.cell? ⟨ab, 0, none⟩ = some (.int .i64 a1) ∧ wv.cell? ⟨ab, 1, none⟩ = some (.int .i64 a2)) := fun F bx ex br er wv h hm => by
    have h1 := h.at hm
    rw [hso] at h1
    exact (slot_cells h1).1
  clear hso
  obtain ⟨F, hF⟩ : ∃ F : List (Nat × Obj), F = [(ab, so), (ob, oo)] := ⟨_, rfl⟩
  have HMO : Hid ((ob, oo) ∈ F) := by show (ob, oo) ∈ F; rw [hF]; simp
  have HMA : Hid ((ab, so) ∈ F) := by show (ab, so) ∈ F; rw [hF]; simp
  rw [← hF] at HP3
  clear hF
  obtain ⟨rk, Dp, hr, hD, hLB⟩ := HWF.out.deep (by omega)
  have HXC : Hid (∀ wv, PsI W xb rb zb bb Z Bk vs ss ve ls F bs es bs es wv → Calls Tryd.prog 19 #[.pointer (some ⟨xb, 0, none⟩), .agg #[.int .i64 a1, .int .i64 a2]] wv fun e w' => ∃ v, e = .returned (.tuple #[v, .int .i64 (fullE (fullF bs es (a1, a2)))]) ∧ OwnL slL w' wv.heap.size 62 v (BelowL bs es Dp (a1, a2)) ∧ Only (fun _ => False) wv w') := fun wv h => by
    obtain ⟨X, R, h, _⟩ := h
    exact xbelow_ok h.x rk Dp hr hD hLB (a1, a2) iS
  have HRC : Hid (∀ wv, PsI W xb rb zb bb Z Bk vs ss ve ls F bs es bs es wv → Calls Tryd.prog 39 #[.pointer (some ⟨rb, 0, none⟩), .agg #[.int .i64 a1, .int .i64 a2]] wv fun e w' => ∃ v, e = .returned (.tuple #[v, .int .i64 (fullE (fullF bs es (a1, a2)))]) ∧ OwnL slL w' wv.heap.size 62 v (BelowL bs es Dp (a1, a2)) ∧ Only (fun _ => False) wv w') := fun wv h => by
    obtain ⟨X, R, h, _⟩ := h
    obtain ⟨vb, ve, hr0⟩ := h.r
    exact Below_ok hr0 rk Dp hr hD hLB (a1, a2)
  have HLB : Hid ((BelowL bs es Dp (a1, a2)).length ≤ 1000000) := by
    show _ ≤ _
    unfold BelowL
    cases fullF bs es (a1, a2) with
    | ok i => exact hLB _ _
    | error e => simp
  generalize fullE (fullF bs es (a1, a2)) = er at HXC HRC
  generalize BelowL bs es Dp (a1, a2) = xs at HXC HRC HLB
  clear hr hD hLB
  have HCE : Hid (∀ F bx ex br er wv, PsI W xb rb zb bb Z Bk vs ss ve ls F bx ex br er wv → (ab, so) ∈ F → wv.cell? ⟨bb, 0, none⟩ = some (.pointer (some ⟨xb, 0, none⟩)) ∧ wv.cell? ⟨bb, 1, none⟩ = some (.pointer (some ⟨rb, 0, none⟩)) ∧ wv.cell? ⟨ab, 0, none⟩ = some (.int .i64 a1) ∧ wv.cell? ⟨ab, 1, none⟩ = some (.int .i64 a2)) := fun F bx ex br er wv h hm => by
    obtain ⟨d0, d1⟩ := HCS.out _ _ _ _ _ _ h hm
    exact ⟨h.bx0.1, h.bx0.2, d0, d1⟩
  obtain ⟨k0, _, _, _, _⟩ := HCO.out _ _ _ _ _ _ HP3.out HMO.out
  go_wp2_with fail
  clear k0
  have HI0 := Vx.hid (HP3.out.quiet ((Only.refl _ _).drew))
  have HS0 := Vx.hid (HCE.out _ _ _ _ _ _ HI0.out HMA.out)
  have HS1 := HS0
  go_region_held3 (fun wv => wv.cell? ⟨bb, 0, none⟩ = some (.pointer (some ⟨xb, 0, none⟩)) ∧ wv.cell? ⟨bb, 1, none⟩ = some (.pointer (some ⟨rb, 0, none⟩)) ∧ wv.cell? ⟨ab, 0, none⟩ = some (.int .i64 a1) ∧ wv.cell? ⟨ab, 1, none⟩ = some (.int .i64 a2)) (first | with_reducible exact HS0.out | with_reducible exact HS1.out) (first | (go_at_call 19; refine (HXC.out _ HI0.out).mono ?_; rintro e w4 ⟨lv, rfl, hlv, ho4⟩; have HI1 := Vx.hid (HI0.out.quiet ho4); have HLV := Vx.hid hlv; have HO4 := Vx.hid ho4; clear hlv ho4; have HS1 := Vx.hid (HCE.out _ _ _ _ _ _ HI1.out HMA.out)))
  go_wp2_with fail
  have HI2 := Vx.hid (HI1.out.quiet ((Only.refl _ _).drew))
  have HS2 := Vx.hid (HCE.out _ _ _ _ _ _ HI2.out HMA.out)
  have HS3 := HS2
  go_region_held3 (fun wv => wv.cell? ⟨bb, 0, none⟩ = some (.pointer (some ⟨xb, 0, none⟩)) ∧ wv.cell? ⟨bb, 1, none⟩ = some (.pointer (some ⟨rb, 0, none⟩)) ∧ wv.cell? ⟨ab, 0, none⟩ = some (.int .i64 a1) ∧ wv.cell? ⟨ab, 1, none⟩ = some (.int .i64 a2)) (first | with_reducible exact HS2.out | with_reducible exact HS3.out) (first | (go_at_call 39; refine (HRC.out _ HI2.out).mono ?_; rintro e w5 ⟨kv, rfl, hkv, ho5⟩; have HI3 := Vx.hid (HI2.out.quiet ho5); have HKV := Vx.hid hkv; have HO5 := Vx.hid ho5; clear hkv ho5; have HS3 := Vx.hid (HCE.out _ _ _ _ _ _ HI3.out HMA.out)))
  have HOQ : Hid (Only (fun _ => False) w4 w5) := ((Only.refl (fun _ => False) w4).drew).trans HO5.out
  have HLV5 : Hid (OwnL slL w5 w3.heap.size 62 lv xs) := HLV.out.kept HOQ.out (fun _ _ h => h)
  have HSS := Vx.hid (sameSlots_ok (own_lie HLV5.out (by have := HLB.out; omega)) (own_lie HKV.out (by have := HLB.out; omega)))
  have HOX : Hid (Only (fun _ => False) w3 w5) := (((Only.refl (fun _ => False) w3).drew).trans HO4.out).trans HOQ.out
  clear HS0 HS1 HS2 HS3 HXC HRC
  go_wp2_with fail
  refine HSS.out.mono ?_
  rintro e w6 ⟨rfl, ho6⟩
  have HOW := Vx.hid (HP3.out.ownS (HOX.out.trans ho6) (HLV5.out.kept ho6 (fun _ _ h => h)) (by have := HLB.out; omega) hss)
  have HI6 := Vx.hid (HI3.out.quiet ho6)
  obtain ⟨x0, x1⟩ := HI6.out.bx0
  clear ho6 HSS
  go_wp2_with fail
  refine HOW.out.mono ?_
  rintro e w7 ⟨rfl, hT⟩
  have HT := Vx.hid hT
  clear hT x0 x1
  go_wp2_with fail
  all_goals
    go_ret
    exact ⟨by try rfl, HT.out⟩
end Go.Proofs.YtbmchgjilkoplaaDoor

import Derived.Test.YtgncabcnefhkiaaCs44
import Derived.Deep.RegionHeld3
/- SchedScripts: turned: Queue. -/
namespace Go.Proofs.Ytgncabcnefhkiaa
open Go.ChangeShapes Go.WideShapes Go.ChangeAt Go.RowKit
open Go.Vx
set_option linter.unusedVariables false
variable {W : World} {xb rb zb bb : Nat} {ts : List (Int × Int)} {sz s : SS} {X R Z Bk : Nat → Prop} {cs : Array Value} {V : Nat → Value} {L : Nat → List Sh} {wr : World}

set_option maxRecDepth 100000 in
set_option maxHeartbeats 4000000 in
theorem trd_queue (h : SlC W xb rb zb bb ts sz X R Z Bk s s cs V L wr) (A B C E : Int) (iA : I64 A) (iB : I64 B) (iC : I64 C) (st : ByteArray) {n : Nat} (hL : ∀ j, j < 6 → (L j).length ≤ 2 * n) (hn : n ≤ 300000) (h1 : s.es.length ≤ n) (h2 : s.ck ≤ 12 * n) :
    Calls Try.prog 12 #[.pointer (some ⟨xb, 0, none⟩), .pointer (some ⟨rb, 0, none⟩), .pointer (some ⟨bb, 0, none⟩), .agg #[.int .i64 9, .int .i64 A, .int .i64 B, .int .i64 C, .int .i64 E, .string st]] wr fun e w' => e = .returned (.bool true) ∧ SlR W xb rb zb bb ts sz (n + 1) w' := by
  obtain ⟨oo, hoo⟩ : ∃ oo : Obj, oo = .cells #[.int .i64 9, .int .i64 A, .int .i64 B, .int .i64 C, .int .i64 E, .string st] 48 (0, 0) := ⟨_, rfl⟩
  have HP1 : Hid (SlI W xb rb zb bb ts sz Z Bk cs V L [(wr.heap.size, oo)] s s (wr.alloc oo)) := SlI.alloc (F := []) ⟨X, R, h, fun p hp => by cases hp⟩ oo
  have HWF : Hid (SWf s.es s.ck ∧ TsOk ts s.t s.lf) := h.x.wf
  have HLN : Hid (∀ j, j < 6 → (L j).length ≤ 2 * (n + 1)) := fun j hj => Nat.le_trans (hL j hj) (by omega)
  have HB1 : Hid (s.es.length ≤ n ∧ s.ck ≤ 12 * n) := ⟨h1, h2⟩
  have HNA : Hid (∀ wv, Calls Try.prog 27 #[.int .i64 A, .int .i64 7] wv fun e w' => e = .returned (.int .i64 (nearF A 7)) ∧ Only (fun _ => False) wv w') := fun wv => (near_any A iA 7 (by decide) wv).mono (fun _ _ h => ⟨h.1, by rw [h.2]; exact Only.refl _ _⟩)
  have iN := near_i64 iA 7 (by decide)
  generalize nearF A 7 = N at HNA iN
  have HNQ := Vx.hid (fun wv => near_any A iA 9 (by decide) wv)
  generalize nearF A 9 = NQ at HNQ
  have HNB := Vx.hid (fun wv => near_any B iB 9 (by decide) wv)
  generalize nearF B 9 = NB at HNB
  have HXQ : Hid (∀ F wv, SlI W xb rb zb bb ts sz Z Bk cs V L F s s wv → Calls Try.prog 39 #[.pointer (some ⟨xb, 0, none⟩), .int .i64 NQ, .int .i64 NB] wv fun e w' => ∃ v, e = .returned (.tuple #[v, .int .i64 (quE NQ NB)]) ∧ ∃ l, OwnL inL w' wv.heap.size 3 v l ∧ QuL s.es NQ NB l ∧ Only (fun _ => False) wv w') := fun F wv h => by
    obtain ⟨X, R, h, _⟩ := h
    exact cQueue h.x NQ NB
  have HRQ : Hid (∀ F wv, SlI W xb rb zb bb ts sz Z Bk cs V L F s s wv → Calls Try.prog 40 #[.pointer (some ⟨rb, 0, none⟩), .int .i64 NQ, .int .i64 NB] wv fun e w' => ∃ v, e = .returned (.tuple #[v, .int .i64 (quE NQ NB)]) ∧ ∃ l, OwnL inL w' wv.heap.size 3 v l ∧ QuL s.es NQ NB l ∧ Only (fun _ => False) wv w') := fun F wv h => by
    obtain ⟨X, R, h, _⟩ := h
    exact dQueue h.r NQ NB
  generalize quE NQ NB = qe at HXQ HRQ
  clear h h1 h2
  go_enter Try.func12, Try.ntmps12
  go_upto_region 1 with fail
  rw [← hoo]
  obtain ⟨w1, hw1⟩ : ∃ w1, w1 = wr.alloc oo := ⟨_, rfl⟩
  rw [← hw1] at HP1 ⊢
  obtain ⟨ob, hob⟩ : ∃ ob, ob = wr.heap.size := ⟨_, rfl⟩
  rw [← hob] at HP1 ⊢
  clear hw1 hob
  have HCO : Hid (∀ F sx sr wv, SlI W xb rb zb bb ts sz Z Bk cs V L F sx sr wv → (ob, oo) ∈ F → wv.cell? ⟨ob, 0, none⟩ = some (.int .i64 9) ∧ wv.cell? ⟨ob, 1, none⟩ = some (.int .i64 A) ∧ wv.cell? ⟨ob, 2, none⟩ = some (.int .i64 B) ∧ wv.cell? ⟨ob, 3, none⟩ = some (.int .i64 C)) := fun F sx sr wv h hm => by
    have h1 := h.at hm
    rw [hoo] at h1
    exact ⟨(cell_of_row _ _ 0 _ _ (0, 0) h1).trans rfl, (cell_of_row _ _ 1 _ _ (0, 0) h1).trans rfl, (cell_of_row _ _ 2 _ _ (0, 0) h1).trans rfl, (cell_of_row _ _ 3 _ _ (0, 0) h1).trans rfl⟩
  clear hoo
  obtain ⟨F, hF⟩ : ∃ F : List (Nat × Obj), F = [(ob, oo)] := ⟨_, rfl⟩
  have HMO : Hid ((ob, oo) ∈ F) := by show (ob, oo) ∈ F; rw [hF]; simp
  rw [← hF] at HP1
  clear hF
  obtain ⟨k0, k1, k2, k3⟩ := HCO.out _ _ _ _ HP1.out HMO.out
  go_wp2_with fail
  refine (HNA.out _).mono ?_
  rintro e w2 ⟨rfl, hq⟩
  have HP2 := Vx.hid (HP1.out.quiet hq)
  clear hq k0 k1 k2 k3
  obtain ⟨k0, k1, k2, k3⟩ := HCO.out _ _ _ _ HP2.out HMO.out
  have HCE : Hid (∀ F sx sr wv, SlI W xb rb zb bb ts sz Z Bk cs V L F sx sr wv → (ob, oo) ∈ F → wv.cell? ⟨ob, 1, none⟩ = some (.int .i64 A) ∧ wv.cell? ⟨ob, 2, none⟩ = some (.int .i64 B) ∧ wv.cell? ⟨ob, 3, none⟩ = some (.int .i64 C)) := fun F sx sr wv h hm => (HCO.out _ _ _ _ h hm).2
  go_upto_region 40 with fail
  clear k0 k1 k2 k3
  have HI0 := Vx.hid (HP2.out.quiet ((Only.refl _ _).drew))
  have HS0 := Vx.hid (HCE.out _ _ _ _ HI0.out HMO.out)
  have HS1 := HS0
  go_region_held3 (fun wv => wv.cell? ⟨ob, 1, none⟩ = some (.int .i64 A) ∧ wv.cell? ⟨ob, 2, none⟩ = some (.int .i64 B) ∧ wv.cell? ⟨ob, 3, none⟩ = some (.int .i64 C)) (first | with_reducible exact HS0.out | with_reducible exact HS1.out) (first | (go_at_call_of 27 (Value.int IntKind.i64 A); refine (HNQ.out _).mono ?_; rintro e w' ⟨rfl, h⟩; have h3 := h.symm; clear h; subst h3) | (go_at_call_of 27 (Value.int IntKind.i64 B); refine (HNB.out _).mono ?_; rintro e w' ⟨rfl, h⟩; have h3 := h.symm; clear h; subst h3) | (go_at_call 39; refine (HXQ.out _ _ HI0.out).mono ?_; rintro e w4 ⟨lv, rfl, ls, hlv, hql, ho4⟩; obtain ⟨G, hG, hGl⟩ := HI0.out.fresh ho4 hlv; have HG := Vx.hid (⟨hG, hGl, hlv, hql⟩ : _ ∧ _ ∧ _ ∧ _); have HMO4 : Hid ((ob, oo) ∈ G ++ F) := List.mem_append_right _ HMO.out; have HS1 := Vx.hid (HCE.out _ _ _ _ hG HMO4.out); clear hG hGl hlv hql ho4))
  go_wp2_with fail
  have HI0b := Vx.hid (HG.out.1.quiet ((Only.refl _ _).drew))
  have HS0b := Vx.hid (HCE.out _ _ _ _ HI0b.out HMO4.out)
  have HS1b := HS0b
  go_region_held3 (fun wv => wv.cell? ⟨ob, 1, none⟩ = some (.int .i64 A) ∧ wv.cell? ⟨ob, 2, none⟩ = some (.int .i64 B) ∧ wv.cell? ⟨ob, 3, none⟩ = some (.int .i64 C)) (first | with_reducible exact HS0b.out | with_reducible exact HS1b.out) (first | (go_at_call_of 27 (Value.int IntKind.i64 A); refine (HNQ.out _).mono ?_; rintro e w' ⟨rfl, h⟩; have h3 := h.symm; clear h; subst h3) | (go_at_call_of 27 (Value.int IntKind.i64 B); refine (HNB.out _).mono ?_; rintro e w' ⟨rfl, h⟩; have h3 := h.symm; clear h; subst h3) | (go_at_call 40; refine (HRQ.out _ _ HI0b.out).mono ?_; rintro e w5 ⟨kv, rfl, ks, hkv, hqk, ho5⟩; have HK := Vx.hid (⟨HI0b.out.quiet ho5, hkv, hqk⟩ : _ ∧ _ ∧ _); have HS1b := Vx.hid (HCE.out _ _ _ _ HK.out.1 HMO4.out); clear hkv hqk ho5))
  have HEQ : Hid (ls = ks) := QuL.uniq HWF.out.1 HG.out.2.2.2 HK.out.2.2
  have HLL : Hid (ls.length ≤ 300000) := by
    have h9 := HG.out.2.2.2.len
    have := HB1.out.1
    show _ ≤ _
    omega
  have hlv5 : OwnL inL w5 0 3 lv ls := own_same (own_zero HG.out.2.2.1) (fun k hk => by
    obtain ⟨o, ho⟩ := HG.out.2.1 k hk
    rw [HG.out.1.at (List.mem_append_left _ ho), HK.out.1.at (List.mem_append_left _ ho)])
  have HL5 := Vx.hid hlv5
  have HSS := Vx.hid (sameInts_ok (own_lie hlv5 (by have := HLL.out; omega)) (own_lie (by rw [HEQ.out]; exact HK.out.2.1) (by have := HLL.out; omega)))
  clear HS0 HS1 HS0b HS1b HXQ HRQ hlv5
  go_wp2_with fail
  refine HSS.out.mono ?_
  rintro e w6 ⟨rfl, ho6⟩
  have HOW := Vx.hid ((HK.out.1.quiet ho6).ownN (HL5.out.kept ho6 (fun _ _ h => h)) (Nat.zero_le _) (fun k hk => by obtain ⟨o, h1⟩ := HG.out.2.1 k hk; exact ⟨o, List.mem_append_left _ h1⟩) (by have := HLL.out; omega) hL hn HB1.out.1 HB1.out.2)
  clear ho6 HSS
  go_wp2_with fail
  refine HOW.out.mono ?_
  rintro e w7 ⟨rfl, hT⟩
  have HT := Vx.hid hT
  clear hT
  go_wp2_with fail
  all_goals
    go_ret
    exact ⟨by try rfl, HT.out⟩
end Go.Proofs.Ytgncabcnefhkiaa

import Derived.Test.YtdpgdjpphnbfnaaCi46
import Derived.Test.YtdpgdjpphnbfnaaCi47
import Derived.Test.YtdpgdjpphnbfnaaCi48
import Derived.Test.YtdpgdjpphnbfnaaCi49
import Derived.Test.YtdpgdjpphnbfnaaCi50
/- IpcScripts: passes: Close, Line. -/
namespace Go.Proofs.Ytdpgdjpphnbfnaa
open Go.ChangeShapes Go.WideShapes Go.ChangeAt Go.RowKit
open Go.Vx
set_option linter.unusedVariables false
variable {W : World} {xb rb zb bb : Nat} {sz s : Bs} {X R Z Bk : Nat → Prop} {cs : Array Value} {V : Nat → Value} {L : Nat → List Sh} {wr : World}

set_option maxRecDepth 100000 in
set_option maxHeartbeats 4000000 in
theorem lines_close {F : List (Nat × Obj)} {wv : World} (h : IlI W xb rb zb bb sz Z Bk cs V L F s s wv) (N : Int) (iN : I64 N) {n : Nat} (hL : ∀ j, j < 6 → (L j).length ≤ 2 * n) (hn : n ≤ 300000) (h1 : s.ps.length ≤ n) (h2 : s.ws.length ≤ n) (h3 : Ok7 s) :
    Calls Try.prog 32 #[.pointer (some ⟨xb, 0, none⟩), .pointer (some ⟨rb, 0, none⟩), .pointer (some ⟨bb, 0, none⟩), .int .i64 7, .int .i64 N] wv fun e w' => e = .returned (.bool true) ∧ IlR W xb rb zb bb sz (n + 1) w' := by
  have HWF := Vx.hid h.wf
  have HLL : Hid ((lineR s N).length ≤ 300000) := by
    have := lineR_len s N
    show _ ≤ _
    omega
  have HSM : Hid ((closeS s N).ps.length ≤ n + 1 ∧ (closeS s N).ws.length ≤ n + 1 ∧ Ok7 (closeS s N)) := by
    have h8 := sz_close s N
    exact ⟨by have := h8.1; omega, by have := h8.2.1; omega, h8.2.2 h3⟩
  have HXC := Vx.hid (h.closeX N iN)
  have HRC : Hid (∀ G w4, IlI W xb rb zb bb sz Z Bk cs V L (G ++ F) (closeS s N) s w4 → Calls Try.prog 50 #[.pointer (some ⟨rb, 0, none⟩), .int .i64 N] w4 fun e w' => ∃ v, e = .returned (.tuple #[v, .int .i64 (lineE s N)]) ∧ Hid (OwnL inL w' w4.heap.size 3 v (lineR s N) ∧ IlI W xb rb zb bb sz Z Bk cs V L (G ++ F) (closeS s N) (closeS s N) w')) := fun G w4 h4 => h4.closeR HWF.out.nt N
  generalize lineE s N = le at HXC HRC
  generalize closeS s N = s2 at HXC HRC HSM
  generalize lineR s N = ls at HXC HRC HLL
  clear h h1 h2 h3 HWF
  go_enter Try.func32, Try.ntmps32
  go_wp2_with fail
  refine HXC.out.mono ?_
  rintro e w4 ⟨lv, rfl, G, HG⟩
  obtain ⟨pl, cl, hlf, _⟩ := HG.out.1.form
  obtain ⟨ln, hln⟩ : ∃ ln, ln = ls.length := ⟨_, rfl⟩
  rw [← hln] at hlf
  subst hlf
  clear HXC hln
  go_wp2_with fail
  refine (HRC.out _ _ HG.out.2.1).mono ?_
  rintro e w5 ⟨kv, rfl, HK⟩
  have hlv5 : OwnL inL w5 0 3 (.slice pl ln cl) ls := own_same (own_zero HG.out.1) (fun k hk => by
    obtain ⟨o, ho⟩ := HG.out.2.2 k hk
    rw [HG.out.2.1.at (List.mem_append_left _ ho), HK.out.2.at (List.mem_append_left _ ho)])
  have HL5 := Vx.hid hlv5
  have HGM := Vx.hid HG.out.2.2
  have HSS := Vx.hid (sameInts_ok (own_lie hlv5 (by have := HLL.out; omega)) (own_lie HK.out.1 (by have := HLL.out; omega)))
  obtain ⟨pk, ck, hkf, _⟩ := HK.out.1.form
  obtain ⟨kn, hkn⟩ : ∃ kn, kn = ls.length := ⟨_, rfl⟩
  rw [← hkn] at hkf
  subst hkf
  clear hlv5 HRC hkn
  go_wp2_with fail
  refine HSS.out.mono ?_
  rintro e w6 ⟨rfl, ho6⟩
  have HOW := Vx.hid ((HK.out.2.quiet ho6).ownN (HL5.out.kept ho6 (fun _ _ h => h)) (Nat.zero_le _) (fun k hk => by obtain ⟨o, h1⟩ := HGM.out k hk; exact ⟨o, List.mem_append_left _ h1⟩) (by have := HLL.out; omega) hL hn HSM.out.1 HSM.out.2.1 HSM.out.2.2)
  clear ho6 HSS
  go_wp2_with fail
  refine HOW.out.mono ?_
  rintro e w7 ⟨rfl, hT⟩
  have HT := Vx.hid hT
  clear hT
  go_wp2_with fail
  all_goals
    go_ret
    exact ⟨by try rfl, HT.out⟩
set_option maxRecDepth 100000 in
set_option maxHeartbeats 4000000 in
theorem lines_line {F : List (Nat × Obj)} {wv : World} (h : IlI W xb rb zb bb sz Z Bk cs V L F s s wv) (N : Int) (iN : I64 N) {n : Nat} (hL : ∀ j, j < 6 → (L j).length ≤ 2 * n) (hn : n ≤ 300000) (h1 : s.ps.length ≤ n) (h2 : s.ws.length ≤ n) (h3 : Ok7 s) :
    Calls Try.prog 32 #[.pointer (some ⟨xb, 0, none⟩), .pointer (some ⟨rb, 0, none⟩), .pointer (some ⟨bb, 0, none⟩), .int .i64 8, .int .i64 N] wv fun e w' => e = .returned (.bool true) ∧ IlR W xb rb zb bb sz (n + 1) w' := by
  have HWF := Vx.hid h.wf
  have HLL : Hid ((lineR s N).length ≤ 300000) := by
    have := lineR_len s N
    show _ ≤ _
    omega
  have HSM : Hid (s.ps.length ≤ n + 1 ∧ s.ws.length ≤ n + 1 ∧ Ok7 s) := ⟨Nat.le_succ_of_le h1, Nat.le_succ_of_le h2, h3⟩
  have HXC : Hid (Calls Try.prog 9 #[.pointer (some ⟨xb, 0, none⟩), .int .i64 N] wv fun e w' => ∃ v, e = .returned (.tuple #[v, .int .i64 (lineE s N)]) ∧ ∃ G, Hid (OwnL inL w' wv.heap.size 3 v (lineR s N) ∧ IlI W xb rb zb bb sz Z Bk cs V L (G ++ F) s s w' ∧ ∀ k, v.ownBlock = some k → ∃ o, (k, o) ∈ G)) := by
    obtain ⟨X, R, h0, hF⟩ := h
    refine (xline_ok h0.x N iN).mono ?_
    rintro e w' ⟨v, rfl, hl, ho⟩
    obtain ⟨G, hG, hGl⟩ := IlI.fresh ⟨X, R, h0, hF⟩ ho hl
    exact ⟨v, rfl, G, hl, hG, hGl⟩
  have HRC : Hid (∀ G w4, IlI W xb rb zb bb sz Z Bk cs V L (G ++ F) s s w4 → Calls Try.prog 51 #[.pointer (some ⟨rb, 0, none⟩), .int .i64 N] w4 fun e w' => ∃ v, e = .returned (.tuple #[v, .int .i64 (lineE s N)]) ∧ Hid (OwnL inL w' w4.heap.size 3 v (lineR s N) ∧ IlI W xb rb zb bb sz Z Bk cs V L (G ++ F) s s w')) := fun G w4 h4 => by
    have h5 := h4
    obtain ⟨X, R, h0, hF⟩ := h4
    obtain ⟨vp, vw, hr⟩ := h0.r
    refine (rline_ok hr N).mono ?_
    rintro e w' ⟨v, rfl, hl, ho⟩
    exact ⟨v, rfl, hl, h5.quiet ho⟩
  generalize lineE s N = le at HXC HRC
  generalize lineR s N = ls at HXC HRC HLL
  clear h h1 h2 h3 HWF
  go_enter Try.func32, Try.ntmps32
  go_wp2_with fail
  refine HXC.out.mono ?_
  rintro e w4 ⟨lv, rfl, G, HG⟩
  obtain ⟨pl, cl, hlf, _⟩ := HG.out.1.form
  obtain ⟨ln, hln⟩ : ∃ ln, ln = ls.length := ⟨_, rfl⟩
  rw [← hln] at hlf
  subst hlf
  clear HXC hln
  go_wp2_with fail
  refine (HRC.out _ _ HG.out.2.1).mono ?_
  rintro e w5 ⟨kv, rfl, HK⟩
  have hlv5 : OwnL inL w5 0 3 (.slice pl ln cl) ls := own_same (own_zero HG.out.1) (fun k hk => by
    obtain ⟨o, ho⟩ := HG.out.2.2 k hk
    rw [HG.out.2.1.at (List.mem_append_left _ ho), HK.out.2.at (List.mem_append_left _ ho)])
  have HL5 := Vx.hid hlv5
  have HGM := Vx.hid HG.out.2.2
  have HSS := Vx.hid (sameInts_ok (own_lie hlv5 (by have := HLL.out; omega)) (own_lie HK.out.1 (by have := HLL.out; omega)))
  obtain ⟨pk, ck, hkf, _⟩ := HK.out.1.form
  obtain ⟨kn, hkn⟩ : ∃ kn, kn = ls.length := ⟨_, rfl⟩
  rw [← hkn] at hkf
  subst hkf
  clear hlv5 HRC hkn
  go_wp2_with fail
  refine HSS.out.mono ?_
  rintro e w6 ⟨rfl, ho6⟩
  have HOW := Vx.hid ((HK.out.2.quiet ho6).ownN (HL5.out.kept ho6 (fun _ _ h => h)) (Nat.zero_le _) (fun k hk => by obtain ⟨o, h1⟩ := HGM.out k hk; exact ⟨o, List.mem_append_left _ h1⟩) (by have := HLL.out; omega) hL hn HSM.out.1 HSM.out.2.1 HSM.out.2.2)
  clear ho6 HSS
  go_wp2_with fail
  refine HOW.out.mono ?_
  rintro e w7 ⟨rfl, hT⟩
  have HT := Vx.hid hT
  clear hT
  go_wp2_with fail
  all_goals
    go_ret
    exact ⟨by try rfl, HT.out⟩
set_option maxRecDepth 100000 in
set_option maxHeartbeats 8000000 in
theorem psd_close (h : IlC W xb rb zb bb sz X R Z Bk s s cs V L wr) (A B C E : Int) (iA : I64 A) (iB : I64 B) (iC : I64 C) (st : ByteArray) {n : Nat} (hL : ∀ j, j < 6 → (L j).length ≤ 2 * n) (hn : n ≤ 300000) (h1 : s.ps.length ≤ n) (h2 : s.ws.length ≤ n) (h3 : Ok7 s) :
    Calls Try.prog 8 #[.pointer (some ⟨xb, 0, none⟩), .pointer (some ⟨rb, 0, none⟩), .pointer (some ⟨bb, 0, none⟩), .agg #[.int .i64 7, .int .i64 A, .int .i64 B, .int .i64 C, .int .i64 E, .string st]] wr fun e w' => e = .returned (.bool true) ∧ IlR W xb rb zb bb sz (n + 1) w' := by
  obtain ⟨oo, hoo⟩ : ∃ oo : Obj, oo = .cells #[.int .i64 7, .int .i64 A, .int .i64 B, .int .i64 C, .int .i64 E, .string st] 50 (0, 0) := ⟨_, rfl⟩
  have HP1 : Hid (IlI W xb rb zb bb sz Z Bk cs V L [(wr.heap.size, oo)] s s (wr.alloc oo)) := IlI.alloc (F := []) ⟨X, R, h, fun p hp => by cases hp⟩ oo
  have HWF : Hid (BWf s) := h.x.1
  have HLN : Hid (∀ j, j < 6 → (L j).length ≤ 2 * (n + 1)) := fun j hj => Nat.le_trans (hL j hj) (by omega)
  have HB1 : Hid (s.ps.length ≤ n ∧ s.ws.length ≤ n ∧ Ok7 s) := ⟨h1, h2, h3⟩
  have HNA : Hid (∀ wv, Calls Try.prog 22 #[.int .i64 A, .int .i64 5] wv fun e w' => e = .returned (.int .i64 (nearF A 5)) ∧ Only (fun _ => False) wv w') := fun wv => (near_any A iA 5 (by decide) wv).mono (fun _ _ h => ⟨h.1, by rw [h.2]; exact Only.refl _ _⟩)
  have iN := near_i64 iA 5 (by decide)
  have n7 := near_777 A
  generalize nearF A 5 = N at HNA iN n7
  have HPB : Hid (∀ wv, Calls Try.prog 23 #[.int .i64 B, .int .i64 6] wv fun e w' => e = .returned (.int .i64 (pickL B 6 : Nat)) ∧ Only (fun _ => False) wv w') := fun wv => (pickL_any 6 (by decide) (by decide) B iB.1 iB.2 wv).mono (fun _ _ h => ⟨h.1, by rw [h.2]; exact Only.refl _ _⟩)
  have iT : I64 ((pickL B 6 : Nat) : Int) := by
    have : pickL B 6 < 6 := Nat.mod_lt _ (by decide)
    unfold I64
    omega
  generalize ((pickL B 6 : Nat) : Int) = T at HPB iT
  clear h h1 h2 h3
  go_enter Try.func8, Try.ntmps8
  go_upto_region 1 with fail
  rw [← hoo]
  obtain ⟨w1, hw1⟩ : ∃ w1, w1 = wr.alloc oo := ⟨_, rfl⟩
  rw [← hw1] at HP1 ⊢
  obtain ⟨ob, hob⟩ : ∃ ob, ob = wr.heap.size := ⟨_, rfl⟩
  rw [← hob] at HP1 ⊢
  clear hw1 hob
  have HCO : Hid (∀ F sx sr wv, IlI W xb rb zb bb sz Z Bk cs V L F sx sr wv → (ob, oo) ∈ F → wv.cell? ⟨ob, 0, none⟩ = some (.int .i64 7) ∧ wv.cell? ⟨ob, 1, none⟩ = some (.int .i64 A) ∧ wv.cell? ⟨ob, 2, none⟩ = some (.int .i64 B) ∧ wv.cell? ⟨ob, 3, none⟩ = some (.int .i64 C) ∧ wv.cell? ⟨ob, 4, none⟩ = some (.int .i64 E)) := fun F sx sr wv h hm => by
    have h1 := h.at hm
    rw [hoo] at h1
    exact ⟨(cell_of_row _ _ 0 _ _ (0, 0) h1).trans rfl, (cell_of_row _ _ 1 _ _ (0, 0) h1).trans rfl, (cell_of_row _ _ 2 _ _ (0, 0) h1).trans rfl, (cell_of_row _ _ 3 _ _ (0, 0) h1).trans rfl, (cell_of_row _ _ 4 _ _ (0, 0) h1).trans rfl⟩
  clear hoo
  obtain ⟨F, hF⟩ : ∃ F : List (Nat × Obj), F = [(ob, oo)] := ⟨_, rfl⟩
  have HMO : Hid ((ob, oo) ∈ F) := by show (ob, oo) ∈ F; rw [hF]; simp
  rw [← hF] at HP1
  clear hF
  obtain ⟨k0, k1, k2, k3, k4⟩ := HCO.out _ _ _ _ HP1.out HMO.out
  go_wp2_with fail
  refine (HNA.out _).mono ?_
  rintro e w2 ⟨rfl, hq⟩
  have HP2 := Vx.hid (HP1.out.quiet hq)
  clear hq k0 k1 k2 k3 k4
  obtain ⟨k0, k1, k2, k3, k4⟩ := HCO.out _ _ _ _ HP2.out HMO.out
  go_wp2_with fail
  refine (HPB.out _).mono ?_
  rintro e w3 ⟨rfl, hq⟩
  have HP3 := Vx.hid (HP2.out.quiet hq)
  clear hq k0 k1 k2 k3 k4
  obtain ⟨k0, k1, k2, k3, k4⟩ := HCO.out _ _ _ _ HP3.out HMO.out
  have HLI := Vx.hid (lines_close HP3.out N iN hL hn HB1.out.1 HB1.out.2.1 HB1.out.2.2)
  go_wp2_with fail
  refine HLI.out.mono ?_
  rintro e w4 ⟨rfl, hT⟩
  have HT := Vx.hid hT
  clear hT k0 k1 k2 k3 k4
  go_wp2_with fail
  all_goals
    go_ret
    exact ⟨by try rfl, HT.out⟩
set_option maxRecDepth 100000 in
set_option maxHeartbeats 8000000 in
theorem psd_line (h : IlC W xb rb zb bb sz X R Z Bk s s cs V L wr) (A B C E : Int) (iA : I64 A) (iB : I64 B) (iC : I64 C) (st : ByteArray) {n : Nat} (hL : ∀ j, j < 6 → (L j).length ≤ 2 * n) (hn : n ≤ 300000) (h1 : s.ps.length ≤ n) (h2 : s.ws.length ≤ n) (h3 : Ok7 s) :
    Calls Try.prog 8 #[.pointer (some ⟨xb, 0, none⟩), .pointer (some ⟨rb, 0, none⟩), .pointer (some ⟨bb, 0, none⟩), .agg #[.int .i64 8, .int .i64 A, .int .i64 B, .int .i64 C, .int .i64 E, .string st]] wr fun e w' => e = .returned (.bool true) ∧ IlR W xb rb zb bb sz (n + 1) w' := by
  obtain ⟨oo, hoo⟩ : ∃ oo : Obj, oo = .cells #[.int .i64 8, .int .i64 A, .int .i64 B, .int .i64 C, .int .i64 E, .string st] 50 (0, 0) := ⟨_, rfl⟩
  have HP1 : Hid (IlI W xb rb zb bb sz Z Bk cs V L [(wr.heap.size, oo)] s s (wr.alloc oo)) := IlI.alloc (F := []) ⟨X, R, h, fun p hp => by cases hp⟩ oo
  have HWF : Hid (BWf s) := h.x.1
  have HLN : Hid (∀ j, j < 6 → (L j).length ≤ 2 * (n + 1)) := fun j hj => Nat.le_trans (hL j hj) (by omega)
  have HB1 : Hid (s.ps.length ≤ n ∧ s.ws.length ≤ n ∧ Ok7 s) := ⟨h1, h2, h3⟩
  have HNA : Hid (∀ wv, Calls Try.prog 22 #[.int .i64 A, .int .i64 5] wv fun e w' => e = .returned (.int .i64 (nearF A 5)) ∧ Only (fun _ => False) wv w') := fun wv => (near_any A iA 5 (by decide) wv).mono (fun _ _ h => ⟨h.1, by rw [h.2]; exact Only.refl _ _⟩)
  have iN := near_i64 iA 5 (by decide)
  have n7 := near_777 A
  generalize nearF A 5 = N at HNA iN n7
  have HPB : Hid (∀ wv, Calls Try.prog 23 #[.int .i64 B, .int .i64 6] wv fun e w' => e = .returned (.int .i64 (pickL B 6 : Nat)) ∧ Only (fun _ => False) wv w') := fun wv => (pickL_any 6 (by decide) (by decide) B iB.1 iB.2 wv).mono (fun _ _ h => ⟨h.1, by rw [h.2]; exact Only.refl _ _⟩)
  have iT : I64 ((pickL B 6 : Nat) : Int) := by
    have : pickL B 6 < 6 := Nat.mod_lt _ (by decide)
    unfold I64
    omega
  generalize ((pickL B 6 : Nat) : Int) = T at HPB iT
  clear h h1 h2 h3
  go_enter Try.func8, Try.ntmps8
  go_upto_region 1 with fail
  rw [← hoo]
  obtain ⟨w1, hw1⟩ : ∃ w1, w1 = wr.alloc oo := ⟨_, rfl⟩
  rw [← hw1] at HP1 ⊢
  obtain ⟨ob, hob⟩ : ∃ ob, ob = wr.heap.size := ⟨_, rfl⟩
  rw [← hob] at HP1 ⊢
  clear hw1 hob
  have HCO : Hid (∀ F sx sr wv, IlI W xb rb zb bb sz Z Bk cs V L F sx sr wv → (ob, oo) ∈ F → wv.cell? ⟨ob, 0, none⟩ = some (.int .i64 8) ∧ wv.cell? ⟨ob, 1, none⟩ = some (.int .i64 A) ∧ wv.cell? ⟨ob, 2, none⟩ = some (.int .i64 B) ∧ wv.cell? ⟨ob, 3, none⟩ = some (.int .i64 C) ∧ wv.cell? ⟨ob, 4, none⟩ = some (.int .i64 E)) := fun F sx sr wv h hm => by
    have h1 := h.at hm
    rw [hoo] at h1
    exact ⟨(cell_of_row _ _ 0 _ _ (0, 0) h1).trans rfl, (cell_of_row _ _ 1 _ _ (0, 0) h1).trans rfl, (cell_of_row _ _ 2 _ _ (0, 0) h1).trans rfl, (cell_of_row _ _ 3 _ _ (0, 0) h1).trans rfl, (cell_of_row _ _ 4 _ _ (0, 0) h1).trans rfl⟩
  clear hoo
  obtain ⟨F, hF⟩ : ∃ F : List (Nat × Obj), F = [(ob, oo)] := ⟨_, rfl⟩
  have HMO : Hid ((ob, oo) ∈ F) := by show (ob, oo) ∈ F; rw [hF]; simp
  rw [← hF] at HP1
  clear hF
  obtain ⟨k0, k1, k2, k3, k4⟩ := HCO.out _ _ _ _ HP1.out HMO.out
  go_wp2_with fail
  refine (HNA.out _).mono ?_
  rintro e w2 ⟨rfl, hq⟩
  have HP2 := Vx.hid (HP1.out.quiet hq)
  clear hq k0 k1 k2 k3 k4
  obtain ⟨k0, k1, k2, k3, k4⟩ := HCO.out _ _ _ _ HP2.out HMO.out
  go_wp2_with fail
  refine (HPB.out _).mono ?_
  rintro e w3 ⟨rfl, hq⟩
  have HP3 := Vx.hid (HP2.out.quiet hq)
  clear hq k0 k1 k2 k3 k4
  obtain ⟨k0, k1, k2, k3, k4⟩ := HCO.out _ _ _ _ HP3.out HMO.out
  have HLI := Vx.hid (lines_line HP3.out N iN hL hn HB1.out.1 HB1.out.2.1 HB1.out.2.2)
  go_wp2_with fail
  refine HLI.out.mono ?_
  rintro e w4 ⟨rfl, hT⟩
  have HT := Vx.hid hT
  clear hT k0 k1 k2 k3 k4
  go_wp2_with fail
  all_goals
    go_ret
    exact ⟨by try rfl, HT.out⟩
end Go.Proofs.Ytdpgdjpphnbfnaa

/- IpcScripts: passes: a step. -/
namespace Go.Proofs.Ytdpgdjpphnbfnaa
open Go.ChangeShapes Go.WideShapes Go.ChangeAt Go.RowKit
open Go.Vx
set_option linter.unusedVariables false
variable {W : World} {xb rb zb bb : Nat} {sz s : Bs} {X R Z Bk : Nat → Prop} {cs : Array Value} {V : Nat → Value} {L : Nat → List Sh} {wr : World}

/-- One step. -/
theorem IlR.passed {n : Nat} (h : IlR W xb rb zb bb sz n wr) (hn : n ≤ 300000) (K A B C E : Int) (iA : I64 A) (iB : I64 B) (iC : I64 C) (st : ByteArray) :
    Calls Try.prog 8 #[.pointer (some ⟨xb, 0, none⟩), .pointer (some ⟨rb, 0, none⟩), .pointer (some ⟨bb, 0, none⟩), .agg #[.int .i64 K, .int .i64 A, .int .i64 B, .int .i64 C, .int .i64 E, .string st]] wr fun e w' => e = .returned (.bool true) ∧ IlR W xb rb zb bb sz (n + 1) w' := by
  obtain ⟨X, R, Z, Bk, s, cs, V, L, h, hL, h1, h2, h3⟩ := h
  by_cases k1 : K = 1
  · subst k1; exact psd_open h A B C E iA iB iC st hL hn h1 h2 h3
  by_cases k2 : K = 2
  · subst k2; exact psd_send h A B C E iA iB iC st hL hn h1 h2 h3
  by_cases k3 : K = 3
  · subst k3; exact psd_get h A B C E iA iB iC st hL hn h1 h2 h3
  by_cases k4 : K = 4
  · subst k4; exact psd_ring h A B C E iA iB iC st hL hn h1 h2 h3
  by_cases k5 : K = 5
  · subst k5; exact psd_hear h A B C E iA iB iC st hL hn h1 h2 h3
  by_cases k6 : K = 6
  · subst k6; exact psd_canc h A B C E iA iB iC st hL hn h1 h2 h3
  by_cases k7 : K = 7
  · subst k7; exact psd_close h A B C E iA iB iC st hL hn h1 h2 h3
  by_cases k8 : K = 8
  · subst k8; exact psd_line h A B C E iA iB iC st hL hn h1 h2 h3
  by_cases k9 : K = 9
  · subst k9; exact psd_where h A B C E iA iB iC st hL hn h1 h2 h3
  by_cases k10 : K = 10
  · subst k10; exact psd_word h A B C E iA iB iC st hL hn h1 h2 h3
  exact psd_other h A B C E iA iB iC st hL hn h1 h2 h3 k1 k2 k3 k4 k5 k6 k7 k8 k9 k10
end Go.Proofs.Ytdpgdjpphnbfnaa

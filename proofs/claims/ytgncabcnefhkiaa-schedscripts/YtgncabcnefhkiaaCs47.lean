import Derived.Test.YtgncabcnefhkiaaCs44
import Derived.Deep.RegionHeld3
/- SchedScripts: turned: Next. -/
namespace Go.Proofs.Ytgncabcnefhkiaa
open Go.ChangeShapes Go.WideShapes Go.ChangeAt Go.RowKit
open Go.Vx
set_option linter.unusedVariables false
variable {W : World} {xb rb zb bb : Nat} {ts : List (Int × Int)} {sz s : SS} {X R Z Bk : Nat → Prop} {cs : Array Value} {V : Nat → Value} {L : Nat → List Sh} {wr : World}

set_option maxRecDepth 100000 in
set_option maxHeartbeats 4000000 in
theorem trd_next (h : SlC W xb rb zb bb ts sz X R Z Bk s s cs V L wr) (A B C E : Int) (iA : I64 A) (iB : I64 B) (iC : I64 C) (st : ByteArray) {n : Nat} (hL : ∀ j, j < 6 → (L j).length ≤ 2 * n) (hn : n ≤ 300000) (h1 : s.es.length ≤ n) (h2 : s.ck ≤ 12 * n) :
    Calls Try.prog 12 #[.pointer (some ⟨xb, 0, none⟩), .pointer (some ⟨rb, 0, none⟩), .pointer (some ⟨bb, 0, none⟩), .agg #[.int .i64 7, .int .i64 A, .int .i64 B, .int .i64 C, .int .i64 E, .string st]] wr fun e w' => e = .returned (.bool true) ∧ SlR W xb rb zb bb ts sz (n + 1) w' := by
  obtain ⟨oo, hoo⟩ : ∃ oo : Obj, oo = .cells #[.int .i64 7, .int .i64 A, .int .i64 B, .int .i64 C, .int .i64 E, .string st] 48 (0, 0) := ⟨_, rfl⟩
  have HP1 : Hid (SlI W xb rb zb bb ts sz Z Bk cs V L [(wr.heap.size, oo)] s s (wr.alloc oo)) := SlI.alloc (F := []) ⟨X, R, h, fun p hp => by cases hp⟩ oo
  have HWF : Hid (SWf s.es s.ck ∧ TsOk ts s.t s.lf) := h.x.wf
  have HLN : Hid (∀ j, j < 6 → (L j).length ≤ 2 * (n + 1)) := fun j hj => Nat.le_trans (hL j hj) (by omega)
  have HB1 : Hid (s.es.length ≤ n ∧ s.ck ≤ 12 * n) := ⟨h1, h2⟩
  have HNA : Hid (∀ wv, Calls Try.prog 27 #[.int .i64 A, .int .i64 7] wv fun e w' => e = .returned (.int .i64 (nearF A 7)) ∧ Only (fun _ => False) wv w') := fun wv => (near_any A iA 7 (by decide) wv).mono (fun _ _ h => ⟨h.1, by rw [h.2]; exact Only.refl _ _⟩)
  have iN := near_i64 iA 7 (by decide)
  generalize nearF A 7 = N at HNA iN
  have HPC : Hid (∀ wv, Calls Try.prog 35 #[.int .i64 C, .int .i64 12] wv fun e w' => e = .returned (.int .i64 (pickL C 12 : Nat)) ∧ w' = wv) := fun wv => pickL_any 12 (by decide) (by decide) C iC.1 iC.2 wv
  have hpc : pickL C 12 < 12 := Nat.mod_lt _ (by decide)
  generalize pickL C 12 = pc at HPC hpc
  have HXN : Hid (∀ F s9 wv, SlI W xb rb zb bb ts sz Z Bk cs V L F s9 s9 wv → Calls Try.prog 14 #[.pointer (some ⟨xb, 0, none⟩)] wv fun e w' => e = .returned (.int .i64 (rNext ts s9)) ∧ Hid (SlI W xb rb zb bb ts sz Z Bk cs V L F (sNext ts s9) s9 w')) := fun F s9 wv h => h.xcall (fun U hx => cNext hx)
  have HRN : Hid (∀ F s9 wv, SWf s9.es s9.ck ∧ TsOk ts s9.t s9.lf → s9.ck < 1000000000000 → SlI W xb rb zb bb ts sz Z Bk cs V L F (sNext ts s9) s9 wv → Calls Try.prog 36 #[.pointer (some ⟨rb, 0, none⟩)] wv fun e w' => e = .returned (.int .i64 (rNext ts s9)) ∧ Hid (SlI W xb rb zb bb ts sz Z Bk cs V L F (sNext ts s9) (sNext ts s9) w')) := fun F s9 wv hw hc h => h.rcall (fun U hr => dNext hr hc hw)
  clear h h1 h2
  go_enter Try.func12, Try.ntmps12
  go_upto_region 1 with fail
  rw [← hoo]
  obtain ⟨w1, hw1⟩ : ∃ w1, w1 = wr.alloc oo := ⟨_, rfl⟩
  rw [← hw1] at HP1 ⊢
  obtain ⟨ob, hob⟩ : ∃ ob, ob = wr.heap.size := ⟨_, rfl⟩
  rw [← hob] at HP1 ⊢
  clear hw1 hob
  have HCO : Hid (∀ F sx sr wv, SlI W xb rb zb bb ts sz Z Bk cs V L F sx sr wv → (ob, oo) ∈ F → wv.cell? ⟨ob, 0, none⟩ = some (.int .i64 7) ∧ wv.cell? ⟨ob, 1, none⟩ = some (.int .i64 A) ∧ wv.cell? ⟨ob, 2, none⟩ = some (.int .i64 B) ∧ wv.cell? ⟨ob, 3, none⟩ = some (.int .i64 C)) := fun F sx sr wv h hm => by
    have h1 := h.at hm
    rw [hoo] at h1
    exact ⟨(cell_of_row _ _ 0 _ _ (0, 0) h1).trans rfl, (cell_of_row _ _ 1 _ _ (0, 0) h1).trans rfl, (cell_of_row _ _ 2 _ _ (0, 0) h1).trans rfl, (cell_of_row _ _ 3 _ _ (0, 0) h1).trans rfl⟩
  clear hoo
  obtain ⟨F, hF⟩ : ∃ F : List (Nat × Obj), F = [(ob, oo)] := ⟨_, rfl⟩
  have HMO : Hid ((ob, oo) ∈ F) := by show (ob, oo) ∈ F; rw [hF]; simp
  rw [← hF] at HP1
  clear hF
  obtain ⟨k0, k1, k2, k3⟩ := HCO.out _ _ _ _ HP1.out HMO.out
  go_wp2_with fail
  refine (HNA.out _).mono ?_
  rintro e w2 ⟨rfl, hq⟩
  have HP2 := Vx.hid (HP1.out.quiet hq)
  clear hq k0 k1 k2 k3
  obtain ⟨k0, k1, k2, k3⟩ := HCO.out _ _ _ _ HP2.out HMO.out
  obtain ⟨M, hM⟩ : ∃ M, M = 1 + pc := ⟨_, rfl⟩
  have e1 : (1 : Int) + (pc : Int) = (M : Int) := by omega
  have wM : IntKind.i64.wrap (M : Int) = (M : Int) := by rw [IntKind.wrap_i64]; omega
  have hM12 : M ≤ 12 := by omega
  clear hM hpc k0 k1 k2 k3
  obtain ⟨k0, k1, k2, k3⟩ := HCO.out _ _ _ _ HP2.out HMO.out
  go_wp2_with fail
  clear k0 k1 k2 k3
  go_loopw [22, 23, 24] (fun i _ _ wq => ∃ q : Nat, i = .int .i64 (q : Int) ∧ q ≤ M ∧ Hid (∃ s9, SlI W xb rb zb bb ts sz Z Bk cs V L F s9 s9 wq ∧ s9.es.length ≤ n ∧ s9.ck ≤ 12 * n + q)) (fun i _ _ _ => M - (RowKit.intOf i).toNat)
  case atStart => exact ⟨0, rfl, by omega, s, HP2.out, HB1.out.1, HB1.out.2⟩
  case round =>
    obtain ⟨q, rfl, hq, HQ⟩ := hrel
    obtain ⟨s9, hI, hl9, hc9⟩ := HQ.out
    obtain ⟨k0, k1, k2, k3⟩ := HCO.out _ _ _ _ hI HMO.out
    have HI := Vx.hid hI
    have HWI := Vx.hid hI.wf
    have HB9 : Hid (s9.es.length ≤ n ∧ s9.ck ≤ 12 * n + q) := ⟨hl9, hc9⟩
    clear hI hl9 hc9 HQ
    by_cases hlt : q < M
    · have h1 : (q : Int) < (M : Int) := by omega
      have hwq : IntKind.i64.wrap ((q : Int) + 1) = (q : Int) + 1 := by rw [IntKind.wrap_i64]; omega
      have HX9 := Vx.hid (HXN.out _ _ _ HI.out)
      have HR9 : Hid (∀ wv, SlI W xb rb zb bb ts sz Z Bk cs V L F (sNext ts s9) s9 wv → Calls Try.prog 36 #[.pointer (some ⟨rb, 0, none⟩)] wv fun e w' => e = .returned (.int .i64 (rNext ts s9)) ∧ Hid (SlI W xb rb zb bb ts sz Z Bk cs V L F (sNext ts s9) (sNext ts s9) w')) := fun wv h => HRN.out _ _ _ HWI.out (by have := HB9.out.2; omega) h
      have HS9 : Hid ((sNext ts s9).es.length ≤ n ∧ (sNext ts s9).ck ≤ 12 * n + (q + 1)) := by
        have := sm_next ts HWI.out.1
        have h9 := HB9.out
        exact ⟨by rw [this.2]; exact h9.1, by have := this.1.2; omega⟩
      generalize rNext ts s9 = rr at HX9 HR9
      generalize sNext ts s9 = s8 at HX9 HR9 HS9
      go_wp2_with fail
      refine (HPC.out _).mono ?_
      rintro e w' ⟨rfl, h⟩
      have h3 := h.symm; clear h; subst h3
      go_wp2_with fail
      refine HX9.out.mono ?_
      rintro e w5 ⟨rfl, HI5⟩
      clear k0 k1 k2 k3
      go_wp2_with fail
      refine (HR9.out _ HI5.out).mono ?_
      rintro e w6 ⟨rfl, HI6⟩
      go_wp2_with fail
      go_roundw
      case rel => exact ⟨q + 1, by go_num, by omega, s8, HI6.out, HS9.out⟩
      case measure => simp only [RowKit.intOf]; omega
    · obtain rfl : q = M := by omega
      have h1 : ¬ (q : Int) < (q : Int) := by omega
      go_wp2_with fail
      refine (HPC.out _).mono ?_
      rintro e w' ⟨rfl, h⟩
      have h3 := h.symm; clear h; subst h3
      go_wp2_with fail
      all_goals
        go_ret
        exact ⟨by try rfl, HI.out.fin HLN.out (Nat.le_succ_of_le HB9.out.1) (by have := HB9.out.2; omega)⟩
end Go.Proofs.Ytgncabcnefhkiaa

/- SchedScripts: turned: Add. -/
namespace Go.Proofs.Ytgncabcnefhkiaa
open Go.ChangeShapes Go.WideShapes Go.ChangeAt Go.RowKit
open Go.Vx
set_option linter.unusedVariables false
variable {W : World} {xb rb zb bb : Nat} {ts : List (Int × Int)} {sz s : SS} {X R Z Bk : Nat → Prop} {cs : Array Value} {V : Nat → Value} {L : Nat → List Sh} {wr : World}

set_option maxRecDepth 100000 in
set_option maxHeartbeats 4000000 in
theorem trd_add (h : SlC W xb rb zb bb ts sz X R Z Bk s s cs V L wr) (A B C E : Int) (iA : I64 A) (iB : I64 B) (iC : I64 C) (st : ByteArray) {n : Nat} (hL : ∀ j, j < 6 → (L j).length ≤ 2 * n) (hn : n ≤ 300000) (h1 : s.es.length ≤ n) (h2 : s.ck ≤ 12 * n) :
    Calls Try.prog 12 #[.pointer (some ⟨xb, 0, none⟩), .pointer (some ⟨rb, 0, none⟩), .pointer (some ⟨bb, 0, none⟩), .agg #[.int .i64 1, .int .i64 A, .int .i64 B, .int .i64 C, .int .i64 E, .string st]] wr fun e w' => e = .returned (.bool true) ∧ SlR W xb rb zb bb ts sz (n + 1) w' := by
  obtain ⟨oo, hoo⟩ : ∃ oo : Obj, oo = .cells #[.int .i64 1, .int .i64 A, .int .i64 B, .int .i64 C, .int .i64 E, .string st] 48 (0, 0) := ⟨_, rfl⟩
  have HP1 : Hid (SlI W xb rb zb bb ts sz Z Bk cs V L [(wr.heap.size, oo)] s s (wr.alloc oo)) := SlI.alloc (F := []) ⟨X, R, h, fun p hp => by cases hp⟩ oo
  have HWF : Hid (SWf s.es s.ck ∧ TsOk ts s.t s.lf) := h.x.wf
  have HLN : Hid (∀ j, j < 6 → (L j).length ≤ 2 * (n + 1)) := fun j hj => Nat.le_trans (hL j hj) (by omega)
  have HB1 : Hid (s.es.length ≤ n ∧ s.ck ≤ 12 * n) := ⟨h1, h2⟩
  have HNA : Hid (∀ wv, Calls Try.prog 27 #[.int .i64 A, .int .i64 7] wv fun e w' => e = .returned (.int .i64 (nearF A 7)) ∧ Only (fun _ => False) wv w') := fun wv => (near_any A iA 7 (by decide) wv).mono (fun _ _ h => ⟨h.1, by rw [h.2]; exact Only.refl _ _⟩)
  have iN := near_i64 iA 7 (by decide)
  generalize nearF A 7 = N at HNA iN
  have HNB := Vx.hid (fun wv => near_any B iB 9 (by decide) wv)
  generalize nearF B 9 = NB at HNB
  have HNC := Vx.hid (fun wv => near_any C iC 9 (by decide) wv)
  generalize nearF C 9 = NC at HNC
  have HXC : Hid (∀ F wv, SlI W xb rb zb bb ts sz Z Bk cs V L F s s wv → Calls Try.prog 10 #[.pointer (some ⟨xb, 0, none⟩), .int .i64 N, .int .i64 NB, .int .i64 NC] wv fun e w' => e = .returned (.int .i64 (addSE s.es N NB NC)) ∧ Hid (SlI W xb rb zb bb ts sz Z Bk cs V L F (sAdd s N NB NC) s w')) := fun F wv h => h.xcall (fun U hx => cAdd hx (by have := HB1.out; omega) N NB NC iN)
  have HRC : Hid (∀ F wv, SlI W xb rb zb bb ts sz Z Bk cs V L F (sAdd s N NB NC) s wv → Calls Try.prog 28 #[.pointer (some ⟨rb, 0, none⟩), .int .i64 N, .int .i64 NB, .int .i64 NC] wv fun e w' => e = .returned (.int .i64 (addSE s.es N NB NC)) ∧ Hid (SlI W xb rb zb bb ts sz Z Bk cs V L F (sAdd s N NB NC) (sAdd s N NB NC) w')) := fun F wv h => h.rcall (fun U hr => dAdd hr (by have := HB1.out; omega) N NB NC)
  have HSM : Hid ((sAdd s N NB NC).es.length ≤ n + 1 ∧ (sAdd s N NB NC).ck ≤ 12 * (n + 1)) := by
    have := sm_add s N NB NC
    exact ⟨by have := this.1; omega, by have := this.2; omega⟩
  generalize addSE s.es N NB NC = er at HXC HRC
  generalize sAdd s N NB NC = s2 at HXC HRC HSM
  clear h h1 h2
  go_enter Try.func12, Try.ntmps12
  go_upto_region 1 with fail
  rw [← hoo]
  obtain ⟨w1, hw1⟩ : ∃ w1, w1 = wr.alloc oo := ⟨_, rfl⟩
  rw [← hw1] at HP1 ⊢
  obtain ⟨ob, hob⟩ : ∃ ob, ob = wr.heap.size := ⟨_, rfl⟩
  rw [← hob] at HP1 ⊢
  clear hw1 hob
  have HCO : Hid (∀ F sx sr wv, SlI W xb rb zb bb ts sz Z Bk cs V L F sx sr wv → (ob, oo) ∈ F → wv.cell? ⟨ob, 0, none⟩ = some (.int .i64 1) ∧ wv.cell? ⟨ob, 1, none⟩ = some (.int .i64 A) ∧ wv.cell? ⟨ob, 2, none⟩ = some (.int .i64 B) ∧ wv.cell? ⟨ob, 3, none⟩ = some (.int .i64 C)) := fun F sx sr wv h hm => by
    have h1 := h.at hm
    rw [hoo] at h1
    exact ⟨(cell_of_row _ _ 0 _ _ (0, 0) h1).trans rfl, (cell_of_row _ _ 1 _ _ (0, 0) h1).trans rfl, (cell_of_row _ _ 2 _ _ (0, 0) h1).trans rfl, (cell_of_row _ _ 3 _ _ (0, 0) h1).trans rfl⟩
  clear hoo
  obtain ⟨F, hF⟩ : ∃ F : List (Nat × Obj), F = [(ob, oo)] := ⟨_, rfl⟩
  have HMO : Hid ((ob, oo) ∈ F) := by show (ob, oo) ∈ F; rw [hF]; simp
  rw [← hF] at HP1
  clear hF
  obtain ⟨k0, k1, k2, k3⟩ := HCO.out _ _ _ _ HP1.out HMO.out
  go_wp2_with fail
  refine (HNA.out _).mono ?_
  rintro e w2 ⟨rfl, hq⟩
  have HP2 := Vx.hid (HP1.out.quiet hq)
  clear hq k0 k1 k2 k3
  obtain ⟨k0, k1, k2, k3⟩ := HCO.out _ _ _ _ HP2.out HMO.out
  have HCE : Hid (∀ F sx sr wv, SlI W xb rb zb bb ts sz Z Bk cs V L F sx sr wv → (ob, oo) ∈ F → wv.cell? ⟨ob, 1, none⟩ = some (.int .i64 A) ∧ wv.cell? ⟨ob, 2, none⟩ = some (.int .i64 B) ∧ wv.cell? ⟨ob, 3, none⟩ = some (.int .i64 C)) := fun F sx sr wv h hm => (HCO.out _ _ _ _ h hm).2
  go_upto_region 4 with fail
  clear k0 k1 k2 k3
  have HI0 := Vx.hid (HP2.out.quiet ((Only.refl _ _).drew))
  have HS0 := Vx.hid (HCE.out _ _ _ _ HI0.out HMO.out)
  have HS1 := HS0
  go_region_held3 (fun wv => wv.cell? ⟨ob, 1, none⟩ = some (.int .i64 A) ∧ wv.cell? ⟨ob, 2, none⟩ = some (.int .i64 B) ∧ wv.cell? ⟨ob, 3, none⟩ = some (.int .i64 C)) (first | with_reducible exact HS0.out | with_reducible exact HS1.out) (first | (go_at_call_of 27 (Value.int IntKind.i64 B); refine (HNB.out _).mono ?_; rintro e w' ⟨rfl, h⟩; have h3 := h.symm; clear h; subst h3) | (go_at_call_of 27 (Value.int IntKind.i64 C); refine (HNC.out _).mono ?_; rintro e w' ⟨rfl, h⟩; have h3 := h.symm; clear h; subst h3) | (go_at_call 10; refine (HXC.out _ _ HI0.out).mono ?_; rintro e w4 ⟨rfl, HG⟩; have HS1 := Vx.hid (HCE.out _ _ _ _ HG.out HMO.out)))
  go_wp2_with fail
  have HI0b := Vx.hid (HG.out.quiet ((Only.refl _ _).drew))
  have HS0b := Vx.hid (HCE.out _ _ _ _ HI0b.out HMO.out)
  have HS1b := HS0b
  go_region_held3 (fun wv => wv.cell? ⟨ob, 1, none⟩ = some (.int .i64 A) ∧ wv.cell? ⟨ob, 2, none⟩ = some (.int .i64 B) ∧ wv.cell? ⟨ob, 3, none⟩ = some (.int .i64 C)) (first | with_reducible exact HS0b.out | with_reducible exact HS1b.out) (first | (go_at_call_of 27 (Value.int IntKind.i64 B); refine (HNB.out _).mono ?_; rintro e w' ⟨rfl, h⟩; have h3 := h.symm; clear h; subst h3) | (go_at_call_of 27 (Value.int IntKind.i64 C); refine (HNC.out _).mono ?_; rintro e w' ⟨rfl, h⟩; have h3 := h.symm; clear h; subst h3) | (go_at_call 28; refine (HRC.out _ _ HI0b.out).mono ?_; rintro e w5 ⟨rfl, HG2⟩; have HS1b := Vx.hid (HCE.out _ _ _ _ HG2.out HMO.out)))
  go_wp2_with fail
  all_goals
    go_ret
    exact ⟨by try rfl, HG2.out.fin HLN.out HSM.out.1 HSM.out.2⟩
end Go.Proofs.Ytgncabcnefhkiaa

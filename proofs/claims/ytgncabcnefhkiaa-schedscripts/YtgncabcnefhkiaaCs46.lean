import Derived.Test.YtgncabcnefhkiaaCs44
/- SchedScripts: turned: Prio, Turn, Look, the other kinds. -/
namespace Go.Proofs.Ytgncabcnefhkiaa
open Go.ChangeShapes Go.WideShapes Go.ChangeAt Go.RowKit
open Go.Vx
set_option linter.unusedVariables false
variable {W : World} {xb rb zb bb : Nat} {ts : List (Int × Int)} {sz s : SS} {X R Z Bk : Nat → Prop} {cs : Array Value} {V : Nat → Value} {L : Nat → List Sh} {wr : World}

set_option maxRecDepth 100000 in
set_option maxHeartbeats 4000000 in
theorem trd_prio (h : SlC W xb rb zb bb ts sz X R Z Bk s s cs V L wr) (A B C E : Int) (iA : I64 A) (iB : I64 B) (iC : I64 C) (st : ByteArray) {n : Nat} (hL : ∀ j, j < 6 → (L j).length ≤ 2 * n) (hn : n ≤ 300000) (h1 : s.es.length ≤ n) (h2 : s.ck ≤ 12 * n) :
    Calls Try.prog 12 #[.pointer (some ⟨xb, 0, none⟩), .pointer (some ⟨rb, 0, none⟩), .pointer (some ⟨bb, 0, none⟩), .agg #[.int .i64 6, .int .i64 A, .int .i64 B, .int .i64 C, .int .i64 E, .string st]] wr fun e w' => e = .returned (.bool true) ∧ SlR W xb rb zb bb ts sz (n + 1) w' := by
  obtain ⟨oo, hoo⟩ : ∃ oo : Obj, oo = .cells #[.int .i64 6, .int .i64 A, .int .i64 B, .int .i64 C, .int .i64 E, .string st] 48 (0, 0) := ⟨_, rfl⟩
  have HP1 : Hid (SlI W xb rb zb bb ts sz Z Bk cs V L [(wr.heap.size, oo)] s s (wr.alloc oo)) := SlI.alloc (F := []) ⟨X, R, h, fun p hp => by cases hp⟩ oo
  have HWF : Hid (SWf s.es s.ck ∧ TsOk ts s.t s.lf) := h.x.wf
  have HLN : Hid (∀ j, j < 6 → (L j).length ≤ 2 * (n + 1)) := fun j hj => Nat.le_trans (hL j hj) (by omega)
  have HB1 : Hid (s.es.length ≤ n ∧ s.ck ≤ 12 * n) := ⟨h1, h2⟩
  have HNA : Hid (∀ wv, Calls Try.prog 27 #[.int .i64 A, .int .i64 7] wv fun e w' => e = .returned (.int .i64 (nearF A 7)) ∧ Only (fun _ => False) wv w') := fun wv => (near_any A iA 7 (by decide) wv).mono (fun _ _ h => ⟨h.1, by rw [h.2]; exact Only.refl _ _⟩)
  have iN := near_i64 iA 7 (by decide)
  generalize nearF A 7 = N at HNA iN
  have HNB : Hid (∀ wv, Calls Try.prog 27 #[.int .i64 B, .int .i64 9] wv fun e w' => e = .returned (.int .i64 (nearF B 9)) ∧ Only (fun _ => False) wv w') := fun wv => (near_any B iB 9 (by decide) wv).mono (fun _ _ h => ⟨h.1, by rw [h.2]; exact Only.refl _ _⟩)
  generalize nearF B 9 = NB at HNB
  have HXC : Hid (∀ F wv, SlI W xb rb zb bb ts sz Z Bk cs V L F s s wv → Calls Try.prog 18 #[.pointer (some ⟨xb, 0, none⟩), .int .i64 N, .int .i64 NB] wv fun e w' => e = .returned (.int .i64 (prioE s.es N NB)) ∧ Hid (SlI W xb rb zb bb ts sz Z Bk cs V L F (sPrio s N NB) s w')) := fun F wv h => h.xcall (fun U hx => cPrio hx N NB iN)
  have HRC : Hid (∀ F wv, SlI W xb rb zb bb ts sz Z Bk cs V L F (sPrio s N NB) s wv → Calls Try.prog 34 #[.pointer (some ⟨rb, 0, none⟩), .int .i64 N, .int .i64 NB] wv fun e w' => e = .returned (.int .i64 (prioE s.es N NB)) ∧ Hid (SlI W xb rb zb bb ts sz Z Bk cs V L F (sPrio s N NB) (sPrio s N NB) w')) := fun F wv h => h.rcall (fun U hr => dPrio hr (by have := HB1.out; omega) N NB)
  have HSM : Hid ((sPrio s N NB).es.length ≤ n + 1 ∧ (sPrio s N NB).ck ≤ 12 * (n + 1)) := by
    have := sm_prio s N NB
    exact ⟨by have := this.1; omega, by have := this.2; omega⟩
  generalize prioE s.es N NB = er at HXC HRC
  generalize sPrio s N NB = s2 at HXC HRC HSM
  clear h h1 h2
  go_enter Try.func12, Try.ntmps12
  go_upto_region 1 with fail
  rw [← hoo]
  obtain ⟨w1, hw1⟩ : ∃ w1, w1 = wr.alloc oo := ⟨_, rfl⟩
  rw [← hw1] at HP1 ⊢
  obtain ⟨ob, hob⟩ : ∃ ob, ob = wr.heap.size := ⟨_, rfl⟩
  rw [← hob] at HP1 ⊢
  clear hw1 hob
  have HCO : Hid (∀ F sx sr wv, SlI W xb rb zb bb ts sz Z Bk cs V L F sx sr wv → (ob, oo) ∈ F → wv.cell? ⟨ob, 0, none⟩ = some (.int .i64 6) ∧ wv.cell? ⟨ob, 1, none⟩ = some (.int .i64 A) ∧ wv.cell? ⟨ob, 2, none⟩ = some (.int .i64 B) ∧ wv.cell? ⟨ob, 3, none⟩ = some (.int .i64 C)) := fun F sx sr wv h hm => by
    have h1 := h.at hm
    rw [hoo] at h1
    exact ⟨(cell_of_row _ _ 0 _ _ (0, 0) h1).trans rfl, (cell_of_row _ _ 1 _ _ (0, 0) h1).trans rfl, (cell_of_row _ _ 2 _ _ (0, 0) h1).trans rfl, (cell_of_row _ _ 3 _ _ (0, 0) h1).trans rfl⟩
  clear hoo
  obtain ⟨F, hF⟩ : ∃ F : List (Nat × Obj), F = [(ob, oo)] := ⟨_, rfl⟩
  have HMO : Hid ((ob, oo) ∈ F) := by show (ob, oo) ∈ F; rw [hF]; simp
  rw [← hF] at HP1
  clear hF
  obtain ⟨k0, k1, k2, k3⟩ := HCO.out _ _ _ _ HP1.out HMO.out
  go_wp2_with fail
  refine (HNA.out _).mono ?_
  rintro e w2 ⟨rfl, hq⟩
  have HP2 := Vx.hid (HP1.out.quiet hq)
  clear hq k0 k1 k2 k3
  obtain ⟨k0, k1, k2, k3⟩ := HCO.out _ _ _ _ HP2.out HMO.out
  go_wp2_with fail
  refine (HNB.out _).mono ?_
  rintro e w3 ⟨rfl, hq⟩
  have HP3 := Vx.hid (HP2.out.quiet hq)
  clear hq k0 k1 k2 k3
  obtain ⟨k0, k1, k2, k3⟩ := HCO.out _ _ _ _ HP3.out HMO.out
  go_wp2_with fail
  refine (HXC.out _ _ HP3.out).mono ?_
  rintro e w4 ⟨rfl, HP4⟩
  clear k0 k1 k2 k3
  obtain ⟨k0, k1, k2, k3⟩ := HCO.out _ _ _ _ HP4.out HMO.out
  go_wp2_with fail
  refine (HNB.out _).mono ?_
  rintro e w5 ⟨rfl, hq⟩
  have HP5 := Vx.hid (HP4.out.quiet hq)
  clear hq k0 k1 k2 k3
  obtain ⟨k0, k1, k2, k3⟩ := HCO.out _ _ _ _ HP5.out HMO.out
  go_wp2_with fail
  refine (HRC.out _ _ HP5.out).mono ?_
  rintro e w6 ⟨rfl, HP6⟩
  clear k0 k1 k2 k3
  obtain ⟨k0, k1, k2, k3⟩ := HCO.out _ _ _ _ HP6.out HMO.out
  go_wp2_with fail
  all_goals
    go_ret
    exact ⟨by try rfl, HP6.out.fin HLN.out HSM.out.1 HSM.out.2⟩
set_option maxRecDepth 100000 in
set_option maxHeartbeats 4000000 in
theorem trd_turn (h : SlC W xb rb zb bb ts sz X R Z Bk s s cs V L wr) (A B C E : Int) (iA : I64 A) (iB : I64 B) (iC : I64 C) (st : ByteArray) {n : Nat} (hL : ∀ j, j < 6 → (L j).length ≤ 2 * n) (hn : n ≤ 300000) (h1 : s.es.length ≤ n) (h2 : s.ck ≤ 12 * n) :
    Calls Try.prog 12 #[.pointer (some ⟨xb, 0, none⟩), .pointer (some ⟨rb, 0, none⟩), .pointer (some ⟨bb, 0, none⟩), .agg #[.int .i64 8, .int .i64 A, .int .i64 B, .int .i64 C, .int .i64 E, .string st]] wr fun e w' => e = .returned (.bool true) ∧ SlR W xb rb zb bb ts sz (n + 1) w' := by
  obtain ⟨oo, hoo⟩ : ∃ oo : Obj, oo = .cells #[.int .i64 8, .int .i64 A, .int .i64 B, .int .i64 C, .int .i64 E, .string st] 48 (0, 0) := ⟨_, rfl⟩
  have HP1 : Hid (SlI W xb rb zb bb ts sz Z Bk cs V L [(wr.heap.size, oo)] s s (wr.alloc oo)) := SlI.alloc (F := []) ⟨X, R, h, fun p hp => by cases hp⟩ oo
  have HWF : Hid (SWf s.es s.ck ∧ TsOk ts s.t s.lf) := h.x.wf
  have HLN : Hid (∀ j, j < 6 → (L j).length ≤ 2 * (n + 1)) := fun j hj => Nat.le_trans (hL j hj) (by omega)
  have HB1 : Hid (s.es.length ≤ n ∧ s.ck ≤ 12 * n) := ⟨h1, h2⟩
  have HNA : Hid (∀ wv, Calls Try.prog 27 #[.int .i64 A, .int .i64 7] wv fun e w' => e = .returned (.int .i64 (nearF A 7)) ∧ Only (fun _ => False) wv w') := fun wv => (near_any A iA 7 (by decide) wv).mono (fun _ _ h => ⟨h.1, by rw [h.2]; exact Only.refl _ _⟩)
  have iN := near_i64 iA 7 (by decide)
  generalize nearF A 7 = N at HNA iN
  have HXC : Hid (∀ F wv, SlI W xb rb zb bb ts sz Z Bk cs V L F s s wv → Calls Try.prog 37 #[.pointer (some ⟨xb, 0, none⟩)] wv fun e w' => e = .returned (.tuple #[.int .i64 (s.t : Int), .int .i64 s.lf]) ∧ Hid (SlI W xb rb zb bb ts sz Z Bk cs V L F s s w')) := fun F wv h => h.xread (fun U hx => cTurn hx)
  have HRC : Hid (∀ F wv, SlI W xb rb zb bb ts sz Z Bk cs V L F s s wv → Calls Try.prog 38 #[.pointer (some ⟨rb, 0, none⟩)] wv fun e w' => e = .returned (.tuple #[.int .i64 (s.t : Int), .int .i64 s.lf]) ∧ Hid (SlI W xb rb zb bb ts sz Z Bk cs V L F s s w')) := fun F wv h => h.rread (fun U hr => dTurn hr)
  generalize (s.t : Int) = y0 at HXC HRC
  generalize s.lf = y1 at HXC HRC
  clear h h1 h2
  go_enter Try.func12, Try.ntmps12
  go_upto_region 1 with fail
  rw [← hoo]
  obtain ⟨w1, hw1⟩ : ∃ w1, w1 = wr.alloc oo := ⟨_, rfl⟩
  rw [← hw1] at HP1 ⊢
  obtain ⟨ob, hob⟩ : ∃ ob, ob = wr.heap.size := ⟨_, rfl⟩
  rw [← hob] at HP1 ⊢
  clear hw1 hob
  have HCO : Hid (∀ F sx sr wv, SlI W xb rb zb bb ts sz Z Bk cs V L F sx sr wv → (ob, oo) ∈ F → wv.cell? ⟨ob, 0, none⟩ = some (.int .i64 8) ∧ wv.cell? ⟨ob, 1, none⟩ = some (.int .i64 A) ∧ wv.cell? ⟨ob, 2, none⟩ = some (.int .i64 B) ∧ wv.cell? ⟨ob, 3, none⟩ = some (.int .i64 C)) := fun F sx sr wv h hm => by
    have h1 := h.at hm
    rw [hoo] at h1
    exact ⟨(cell_of_row _ _ 0 _ _ (0, 0) h1).trans rfl, (cell_of_row _ _ 1 _ _ (0, 0) h1).trans rfl, (cell_of_row _ _ 2 _ _ (0, 0) h1).trans rfl, (cell_of_row _ _ 3 _ _ (0, 0) h1).trans rfl⟩
  clear hoo
  obtain ⟨F, hF⟩ : ∃ F : List (Nat × Obj), F = [(ob, oo)] := ⟨_, rfl⟩
  have HMO : Hid ((ob, oo) ∈ F) := by show (ob, oo) ∈ F; rw [hF]; simp
  rw [← hF] at HP1
  clear hF
  obtain ⟨k0, k1, k2, k3⟩ := HCO.out _ _ _ _ HP1.out HMO.out
  go_wp2_with fail
  refine (HNA.out _).mono ?_
  rintro e w2 ⟨rfl, hq⟩
  have HP2 := Vx.hid (HP1.out.quiet hq)
  clear hq k0 k1 k2 k3
  obtain ⟨k0, k1, k2, k3⟩ := HCO.out _ _ _ _ HP2.out HMO.out
  go_wp2_with fail
  refine (HXC.out _ _ HP2.out).mono ?_
  rintro e w3 ⟨rfl, HP3⟩
  clear k0 k1 k2 k3
  obtain ⟨k0, k1, k2, k3⟩ := HCO.out _ _ _ _ HP3.out HMO.out
  go_wp2_with fail
  refine (HRC.out _ _ HP3.out).mono ?_
  rintro e w4 ⟨rfl, HP4⟩
  clear k0 k1 k2 k3
  obtain ⟨k0, k1, k2, k3⟩ := HCO.out _ _ _ _ HP4.out HMO.out
  go_wp2_with fail
  all_goals
    go_ret
    exact ⟨by try rfl, HP4.out.fin HLN.out (Nat.le_succ_of_le HB1.out.1) (by have := HB1.out.2; omega)⟩
set_option maxRecDepth 100000 in
set_option maxHeartbeats 4000000 in
theorem trd_see (h : SlC W xb rb zb bb ts sz X R Z Bk s s cs V L wr) (A B C E : Int) (iA : I64 A) (iB : I64 B) (iC : I64 C) (st : ByteArray) {n : Nat} (hL : ∀ j, j < 6 → (L j).length ≤ 2 * n) (hn : n ≤ 300000) (h1 : s.es.length ≤ n) (h2 : s.ck ≤ 12 * n) :
    Calls Try.prog 12 #[.pointer (some ⟨xb, 0, none⟩), .pointer (some ⟨rb, 0, none⟩), .pointer (some ⟨bb, 0, none⟩), .agg #[.int .i64 10, .int .i64 A, .int .i64 B, .int .i64 C, .int .i64 E, .string st]] wr fun e w' => e = .returned (.bool true) ∧ SlR W xb rb zb bb ts sz (n + 1) w' := by
  obtain ⟨oo, hoo⟩ : ∃ oo : Obj, oo = .cells #[.int .i64 10, .int .i64 A, .int .i64 B, .int .i64 C, .int .i64 E, .string st] 48 (0, 0) := ⟨_, rfl⟩
  have HP1 : Hid (SlI W xb rb zb bb ts sz Z Bk cs V L [(wr.heap.size, oo)] s s (wr.alloc oo)) := SlI.alloc (F := []) ⟨X, R, h, fun p hp => by cases hp⟩ oo
  have HWF : Hid (SWf s.es s.ck ∧ TsOk ts s.t s.lf) := h.x.wf
  have HLN : Hid (∀ j, j < 6 → (L j).length ≤ 2 * (n + 1)) := fun j hj => Nat.le_trans (hL j hj) (by omega)
  have HB1 : Hid (s.es.length ≤ n ∧ s.ck ≤ 12 * n) := ⟨h1, h2⟩
  have HNA : Hid (∀ wv, Calls Try.prog 27 #[.int .i64 A, .int .i64 7] wv fun e w' => e = .returned (.int .i64 (nearF A 7)) ∧ Only (fun _ => False) wv w') := fun wv => (near_any A iA 7 (by decide) wv).mono (fun _ _ h => ⟨h.1, by rw [h.2]; exact Only.refl _ _⟩)
  have iN := near_i64 iA 7 (by decide)
  generalize nearF A 7 = N at HNA iN
  have HXC : Hid (∀ F wv, SlI W xb rb zb bb ts sz Z Bk cs V L F s s wv → Calls Try.prog 43 #[.pointer (some ⟨xb, 0, none⟩), .int .i64 N] wv fun e w' => e = .returned (.tuple #[.int .i64 (lookQ s.es N).1, .int .i64 (lookQ s.es N).2.1, .int .i64 (lookQ s.es N).2.2.1, .int .i64 (lookQ s.es N).2.2.2]) ∧ Hid (SlI W xb rb zb bb ts sz Z Bk cs V L F s s w')) := fun F wv h => h.xread (fun U hx => cLook hx N iN)
  have HRC : Hid (∀ F wv, SlI W xb rb zb bb ts sz Z Bk cs V L F s s wv → Calls Try.prog 44 #[.pointer (some ⟨rb, 0, none⟩), .int .i64 N] wv fun e w' => e = .returned (.tuple #[.int .i64 (lookQ s.es N).1, .int .i64 (lookQ s.es N).2.1, .int .i64 (lookQ s.es N).2.2.1, .int .i64 (lookQ s.es N).2.2.2]) ∧ Hid (SlI W xb rb zb bb ts sz Z Bk cs V L F s s w')) := fun F wv h => h.rread (fun U hr => dLook hr N)
  generalize (lookQ s.es N).1 = y0 at HXC HRC
  generalize (lookQ s.es N).2.1 = y1 at HXC HRC
  generalize (lookQ s.es N).2.2.1 = y2 at HXC HRC
  generalize (lookQ s.es N).2.2.2 = y3 at HXC HRC
  clear h h1 h2
  go_enter Try.func12, Try.ntmps12
  go_upto_region 1 with fail
  rw [← hoo]
  obtain ⟨w1, hw1⟩ : ∃ w1, w1 = wr.alloc oo := ⟨_, rfl⟩
  rw [← hw1] at HP1 ⊢
  obtain ⟨ob, hob⟩ : ∃ ob, ob = wr.heap.size := ⟨_, rfl⟩
  rw [← hob] at HP1 ⊢
  clear hw1 hob
  have HCO : Hid (∀ F sx sr wv, SlI W xb rb zb bb ts sz Z Bk cs V L F sx sr wv → (ob, oo) ∈ F → wv.cell? ⟨ob, 0, none⟩ = some (.int .i64 10) ∧ wv.cell? ⟨ob, 1, none⟩ = some (.int .i64 A) ∧ wv.cell? ⟨ob, 2, none⟩ = some (.int .i64 B) ∧ wv.cell? ⟨ob, 3, none⟩ = some (.int .i64 C)) := fun F sx sr wv h hm => by
    have h1 := h.at hm
    rw [hoo] at h1
    exact ⟨(cell_of_row _ _ 0 _ _ (0, 0) h1).trans rfl, (cell_of_row _ _ 1 _ _ (0, 0) h1).trans rfl, (cell_of_row _ _ 2 _ _ (0, 0) h1).trans rfl, (cell_of_row _ _ 3 _ _ (0, 0) h1).trans rfl⟩
  clear hoo
  obtain ⟨F, hF⟩ : ∃ F : List (Nat × Obj), F = [(ob, oo)] := ⟨_, rfl⟩
  have HMO : Hid ((ob, oo) ∈ F) := by show (ob, oo) ∈ F; rw [hF]; simp
  rw [← hF] at HP1
  clear hF
  obtain ⟨k0, k1, k2, k3⟩ := HCO.out _ _ _ _ HP1.out HMO.out
  go_wp2_with fail
  refine (HNA.out _).mono ?_
  rintro e w2 ⟨rfl, hq⟩
  have HP2 := Vx.hid (HP1.out.quiet hq)
  clear hq k0 k1 k2 k3
  obtain ⟨k0, k1, k2, k3⟩ := HCO.out _ _ _ _ HP2.out HMO.out
  go_wp2_with fail
  refine (HXC.out _ _ HP2.out).mono ?_
  rintro e w3 ⟨rfl, HP3⟩
  clear k0 k1 k2 k3
  obtain ⟨k0, k1, k2, k3⟩ := HCO.out _ _ _ _ HP3.out HMO.out
  go_wp2_with fail
  refine (HRC.out _ _ HP3.out).mono ?_
  rintro e w4 ⟨rfl, HP4⟩
  clear k0 k1 k2 k3
  obtain ⟨k0, k1, k2, k3⟩ := HCO.out _ _ _ _ HP4.out HMO.out
  go_wp2_with fail
  all_goals
    go_ret
    exact ⟨by try rfl, HP4.out.fin HLN.out (Nat.le_succ_of_le HB1.out.1) (by have := HB1.out.2; omega)⟩
set_option maxRecDepth 100000 in
set_option maxHeartbeats 4000000 in
theorem trd_other {K : Int} (h : SlC W xb rb zb bb ts sz X R Z Bk s s cs V L wr) (A B C E : Int) (iA : I64 A) (iB : I64 B) (iC : I64 C) (st : ByteArray) {n : Nat} (hL : ∀ j, j < 6 → (L j).length ≤ 2 * n) (hn : n ≤ 300000) (h1 : s.es.length ≤ n) (h2 : s.ck ≤ 12 * n) (n1 : K ≠ 1) (n2 : K ≠ 2) (n3 : K ≠ 3) (n4 : K ≠ 4) (n5 : K ≠ 5) (n6 : K ≠ 6) (n7 : K ≠ 7) (n8 : K ≠ 8) (n9 : K ≠ 9) (n10 : K ≠ 10) :
    Calls Try.prog 12 #[.pointer (some ⟨xb, 0, none⟩), .pointer (some ⟨rb, 0, none⟩), .pointer (some ⟨bb, 0, none⟩), .agg #[.int .i64 K, .int .i64 A, .int .i64 B, .int .i64 C, .int .i64 E, .string st]] wr fun e w' => e = .returned (.bool true) ∧ SlR W xb rb zb bb ts sz (n + 1) w' := by
  obtain ⟨oo, hoo⟩ : ∃ oo : Obj, oo = .cells #[.int .i64 K, .int .i64 A, .int .i64 B, .int .i64 C, .int .i64 E, .string st] 48 (0, 0) := ⟨_, rfl⟩
  have HP1 : Hid (SlI W xb rb zb bb ts sz Z Bk cs V L [(wr.heap.size, oo)] s s (wr.alloc oo)) := SlI.alloc (F := []) ⟨X, R, h, fun p hp => by cases hp⟩ oo
  have HWF : Hid (SWf s.es s.ck ∧ TsOk ts s.t s.lf) := h.x.wf
  have HLN : Hid (∀ j, j < 6 → (L j).length ≤ 2 * (n + 1)) := fun j hj => Nat.le_trans (hL j hj) (by omega)
  have HB1 : Hid (s.es.length ≤ n ∧ s.ck ≤ 12 * n) := ⟨h1, h2⟩
  have HNA : Hid (∀ wv, Calls Try.prog 27 #[.int .i64 A, .int .i64 7] wv fun e w' => e = .returned (.int .i64 (nearF A 7)) ∧ Only (fun _ => False) wv w') := fun wv => (near_any A iA 7 (by decide) wv).mono (fun _ _ h => ⟨h.1, by rw [h.2]; exact Only.refl _ _⟩)
  have iN := near_i64 iA 7 (by decide)
  generalize nearF A 7 = N at HNA iN
  clear h h1 h2
  go_enter Try.func12, Try.ntmps12
  go_upto_region 1 with fail
  rw [← hoo]
  obtain ⟨w1, hw1⟩ : ∃ w1, w1 = wr.alloc oo := ⟨_, rfl⟩
  rw [← hw1] at HP1 ⊢
  obtain ⟨ob, hob⟩ : ∃ ob, ob = wr.heap.size := ⟨_, rfl⟩
  rw [← hob] at HP1 ⊢
  clear hw1 hob
  have HCO : Hid (∀ F sx sr wv, SlI W xb rb zb bb ts sz Z Bk cs V L F sx sr wv → (ob, oo) ∈ F → wv.cell? ⟨ob, 0, none⟩ = some (.int .i64 K) ∧ wv.cell? ⟨ob, 1, none⟩ = some (.int .i64 A) ∧ wv.cell? ⟨ob, 2, none⟩ = some (.int .i64 B) ∧ wv.cell? ⟨ob, 3, none⟩ = some (.int .i64 C)) := fun F sx sr wv h hm => by
    have h1 := h.at hm
    rw [hoo] at h1
    exact ⟨(cell_of_row _ _ 0 _ _ (0, 0) h1).trans rfl, (cell_of_row _ _ 1 _ _ (0, 0) h1).trans rfl, (cell_of_row _ _ 2 _ _ (0, 0) h1).trans rfl, (cell_of_row _ _ 3 _ _ (0, 0) h1).trans rfl⟩
  clear hoo
  obtain ⟨F, hF⟩ : ∃ F : List (Nat × Obj), F = [(ob, oo)] := ⟨_, rfl⟩
  have HMO : Hid ((ob, oo) ∈ F) := by show (ob, oo) ∈ F; rw [hF]; simp
  rw [← hF] at HP1
  clear hF
  obtain ⟨k0, k1, k2, k3⟩ := HCO.out _ _ _ _ HP1.out HMO.out
  have e1 : (K == 1) = false := beq_eq_false_iff_ne.2 n1
  have e2 : (K == 2) = false := beq_eq_false_iff_ne.2 n2
  have e3 : (K == 3) = false := beq_eq_false_iff_ne.2 n3
  have e4 : (K == 4) = false := beq_eq_false_iff_ne.2 n4
  have e5 : (K == 5) = false := beq_eq_false_iff_ne.2 n5
  have e6 : (K == 6) = false := beq_eq_false_iff_ne.2 n6
  have e7 : (K == 7) = false := beq_eq_false_iff_ne.2 n7
  have e8 : (K == 8) = false := beq_eq_false_iff_ne.2 n8
  have e9 : (K == 9) = false := beq_eq_false_iff_ne.2 n9
  have e10 : (K == 10) = false := beq_eq_false_iff_ne.2 n10
  go_wp2_with fail
  refine (HNA.out _).mono ?_
  rintro e w2 ⟨rfl, hq⟩
  have HP2 := Vx.hid (HP1.out.quiet hq)
  clear hq k0 k1 k2 k3
  obtain ⟨k0, k1, k2, k3⟩ := HCO.out _ _ _ _ HP2.out HMO.out
  go_wp2_with fail
  all_goals
    go_ret
    exact ⟨by try rfl, HP2.out.fin HLN.out (Nat.le_succ_of_le HB1.out.1) (by have := HB1.out.2; omega)⟩
end Go.Proofs.Ytgncabcnefhkiaa

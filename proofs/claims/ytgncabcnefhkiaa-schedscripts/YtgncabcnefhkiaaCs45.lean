import Derived.Test.YtgncabcnefhkiaaCs44
/- SchedScripts: turned: Remove, Ready, Block, Yield. -/
namespace Go.Proofs.Ytgncabcnefhkiaa
open Go.ChangeShapes Go.WideShapes Go.ChangeAt Go.RowKit
open Go.Vx
set_option linter.unusedVariables false
variable {W : World} {xb rb zb bb : Nat} {ts : List (Int × Int)} {sz s : SS} {X R Z Bk : Nat → Prop} {cs : Array Value} {V : Nat → Value} {L : Nat → List Sh} {wr : World}

set_option maxRecDepth 100000 in
set_option maxHeartbeats 4000000 in
theorem trd_rem (h : SlC W xb rb zb bb ts sz X R Z Bk s s cs V L wr) (A B C E : Int) (iA : I64 A) (iB : I64 B) (iC : I64 C) (st : ByteArray) {n : Nat} (hL : ∀ j, j < 6 → (L j).length ≤ 2 * n) (hn : n ≤ 300000) (h1 : s.es.length ≤ n) (h2 : s.ck ≤ 12 * n) :
    Calls Try.prog 12 #[.pointer (some ⟨xb, 0, none⟩), .pointer (some ⟨rb, 0, none⟩), .pointer (some ⟨bb, 0, none⟩), .agg #[.int .i64 2, .int .i64 A, .int .i64 B, .int .i64 C, .int .i64 E, .string st]] wr fun e w' => e = .returned (.bool true) ∧ SlR W xb rb zb bb ts sz (n + 1) w' := by
  obtain ⟨oo, hoo⟩ : ∃ oo : Obj, oo = .cells #[.int .i64 2, .int .i64 A, .int .i64 B, .int .i64 C, .int .i64 E, .string st] 48 (0, 0) := ⟨_, rfl⟩
  have HP1 : Hid (SlI W xb rb zb bb ts sz Z Bk cs V L [(wr.heap.size, oo)] s s (wr.alloc oo)) := SlI.alloc (F := []) ⟨X, R, h, fun p hp => by cases hp⟩ oo
  have HWF : Hid (SWf s.es s.ck ∧ TsOk ts s.t s.lf) := h.x.wf
  have HLN : Hid (∀ j, j < 6 → (L j).length ≤ 2 * (n + 1)) := fun j hj => Nat.le_trans (hL j hj) (by omega)
  have HB1 : Hid (s.es.length ≤ n ∧ s.ck ≤ 12 * n) := ⟨h1, h2⟩
  have HNA : Hid (∀ wv, Calls Try.prog 27 #[.int .i64 A, .int .i64 7] wv fun e w' => e = .returned (.int .i64 (nearF A 7)) ∧ Only (fun _ => False) wv w') := fun wv => (near_any A iA 7 (by decide) wv).mono (fun _ _ h => ⟨h.1, by rw [h.2]; exact Only.refl _ _⟩)
  have iN := near_i64 iA 7 (by decide)
  generalize nearF A 7 = N at HNA iN
  have HXC : Hid (∀ F wv, SlI W xb rb zb bb ts sz Z Bk cs V L F s s wv → Calls Try.prog 29 #[.pointer (some ⟨xb, 0, none⟩), .int .i64 N] wv fun e w' => e = .returned (.int .i64 (remSE s.es N)) ∧ Hid (SlI W xb rb zb bb ts sz Z Bk cs V L F (sRem s N) s w')) := fun F wv h => h.xcall (fun U hx => cRem hx N iN)
  have HRC : Hid (∀ F wv, SlI W xb rb zb bb ts sz Z Bk cs V L F (sRem s N) s wv → Calls Try.prog 30 #[.pointer (some ⟨rb, 0, none⟩), .int .i64 N] wv fun e w' => e = .returned (.int .i64 (remSE s.es N)) ∧ Hid (SlI W xb rb zb bb ts sz Z Bk cs V L F (sRem s N) (sRem s N) w')) := fun F wv h => h.rcall (fun U hr => dRem hr N)
  have HSM : Hid ((sRem s N).es.length ≤ n + 1 ∧ (sRem s N).ck ≤ 12 * (n + 1)) := by
    have := sm_rem s N
    exact ⟨by have := this.1; omega, by have := this.2; omega⟩
  generalize remSE s.es N = er at HXC HRC
  generalize sRem s N = s2 at HXC HRC HSM
  clear h h1 h2
  go_enter Try.func12, Try.ntmps12
  go_upto_region 1 with fail
  rw [← hoo]
  obtain ⟨w1, hw1⟩ : ∃ w1, w1 = wr.alloc oo := ⟨_, rfl⟩
  rw [← hw1] at HP1 ⊢
  obtain ⟨ob, hob⟩ : ∃ ob, ob = wr.heap.size := ⟨_, rfl⟩
  rw [← hob] at HP1 ⊢
  clear hw1 hob
  have HCO : Hid (∀ F sx sr wv, SlI W xb rb zb bb ts sz Z Bk cs V L F sx sr wv → (ob, oo) ∈ F → wv.cell? ⟨ob, 0, none⟩ = some (.int .i64 2) ∧ wv.cell? ⟨ob, 1, none⟩ = some (.int .i64 A) ∧ wv.cell? ⟨ob, 2, none⟩ = some (.int .i64 B) ∧ wv.cell? ⟨ob, 3, none⟩ = some (.int .i64 C)) := fun F sx sr wv h hm => by
    have h1 := h.at hm
    rw [hoo] at h1
    exact ⟨(cell_of_row _ _ 0 _ _ (0, 0) h1).trans rfl, (cell_of_row _ _ 1 _ _ (0, 0) h1).trans rfl, (cell_of_row _ _ 2 _ _ (0, 0) h1).trans rfl, (cell_of_row _ _ 3 _ _ (0, 0) h1).trans rfl⟩
  clear hoo
  obtain ⟨F, hF⟩ : ∃ F : List (Nat × Obj), F = [(ob, oo)] := ⟨_, rfl⟩
  have HMO : Hid ((ob, oo) ∈ F) := by show (ob, oo) ∈ F; rw [hF]; simp
  rw [← hF] at HP1
  clear hF
  obtain ⟨k0, k1, k2, k3⟩ := HCO.out _ _ _ _ HP1.out HMO.out
  go_wp2_with fail
  refine (HNA.out _).mono ?_
  rintro e w2 ⟨rfl, hq⟩
  have HP2 := Vx.hid (HP1.out.quiet hq)
  clear hq k0 k1 k2 k3
  obtain ⟨k0, k1, k2, k3⟩ := HCO.out _ _ _ _ HP2.out HMO.out
  go_wp2_with fail
  refine (HXC.out _ _ HP2.out).mono ?_
  rintro e w3 ⟨rfl, HP3⟩
  clear k0 k1 k2 k3
  obtain ⟨k0, k1, k2, k3⟩ := HCO.out _ _ _ _ HP3.out HMO.out
  go_wp2_with fail
  refine (HRC.out _ _ HP3.out).mono ?_
  rintro e w4 ⟨rfl, HP4⟩
  clear k0 k1 k2 k3
  obtain ⟨k0, k1, k2, k3⟩ := HCO.out _ _ _ _ HP4.out HMO.out
  go_wp2_with fail
  all_goals
    go_ret
    exact ⟨by try rfl, HP4.out.fin HLN.out HSM.out.1 HSM.out.2⟩
set_option maxRecDepth 100000 in
set_option maxHeartbeats 4000000 in
theorem trd_ready (h : SlC W xb rb zb bb ts sz X R Z Bk s s cs V L wr) (A B C E : Int) (iA : I64 A) (iB : I64 B) (iC : I64 C) (st : ByteArray) {n : Nat} (hL : ∀ j, j < 6 → (L j).length ≤ 2 * n) (hn : n ≤ 300000) (h1 : s.es.length ≤ n) (h2 : s.ck ≤ 12 * n) :
    Calls Try.prog 12 #[.pointer (some ⟨xb, 0, none⟩), .pointer (some ⟨rb, 0, none⟩), .pointer (some ⟨bb, 0, none⟩), .agg #[.int .i64 3, .int .i64 A, .int .i64 B, .int .i64 C, .int .i64 E, .string st]] wr fun e w' => e = .returned (.bool true) ∧ SlR W xb rb zb bb ts sz (n + 1) w' := by
  obtain ⟨oo, hoo⟩ : ∃ oo : Obj, oo = .cells #[.int .i64 3, .int .i64 A, .int .i64 B, .int .i64 C, .int .i64 E, .string st] 48 (0, 0) := ⟨_, rfl⟩
  have HP1 : Hid (SlI W xb rb zb bb ts sz Z Bk cs V L [(wr.heap.size, oo)] s s (wr.alloc oo)) := SlI.alloc (F := []) ⟨X, R, h, fun p hp => by cases hp⟩ oo
  have HWF : Hid (SWf s.es s.ck ∧ TsOk ts s.t s.lf) := h.x.wf
  have HLN : Hid (∀ j, j < 6 → (L j).length ≤ 2 * (n + 1)) := fun j hj => Nat.le_trans (hL j hj) (by omega)
  have HB1 : Hid (s.es.length ≤ n ∧ s.ck ≤ 12 * n) := ⟨h1, h2⟩
  have HNA : Hid (∀ wv, Calls Try.prog 27 #[.int .i64 A, .int .i64 7] wv fun e w' => e = .returned (.int .i64 (nearF A 7)) ∧ Only (fun _ => False) wv w') := fun wv => (near_any A iA 7 (by decide) wv).mono (fun _ _ h => ⟨h.1, by rw [h.2]; exact Only.refl _ _⟩)
  have iN := near_i64 iA 7 (by decide)
  generalize nearF A 7 = N at HNA iN
  have HXC : Hid (∀ F wv, SlI W xb rb zb bb ts sz Z Bk cs V L F s s wv → Calls Try.prog 11 #[.pointer (some ⟨xb, 0, none⟩), .int .i64 N] wv fun e w' => e = .returned (.int .i64 (readyE s.es N)) ∧ Hid (SlI W xb rb zb bb ts sz Z Bk cs V L F (sReady s N) s w')) := fun F wv h => h.xcall (fun U hx => cReady hx N iN)
  have HRC : Hid (∀ F wv, SlI W xb rb zb bb ts sz Z Bk cs V L F (sReady s N) s wv → Calls Try.prog 31 #[.pointer (some ⟨rb, 0, none⟩), .int .i64 N] wv fun e w' => e = .returned (.int .i64 (readyE s.es N)) ∧ Hid (SlI W xb rb zb bb ts sz Z Bk cs V L F (sReady s N) (sReady s N) w')) := fun F wv h => h.rcall (fun U hr => dReady hr (by have := HB1.out; omega) N)
  have HSM : Hid ((sReady s N).es.length ≤ n + 1 ∧ (sReady s N).ck ≤ 12 * (n + 1)) := by
    have := sm_ready s N
    exact ⟨by have := this.1; omega, by have := this.2; omega⟩
  generalize readyE s.es N = er at HXC HRC
  generalize sReady s N = s2 at HXC HRC HSM
  clear h h1 h2
  go_enter Try.func12, Try.ntmps12
  go_upto_region 1 with fail
  rw [← hoo]
  obtain ⟨w1, hw1⟩ : ∃ w1, w1 = wr.alloc oo := ⟨_, rfl⟩
  rw [← hw1] at HP1 ⊢
  obtain ⟨ob, hob⟩ : ∃ ob, ob = wr.heap.size := ⟨_, rfl⟩
  rw [← hob] at HP1 ⊢
  clear hw1 hob
  have HCO : Hid (∀ F sx sr wv, SlI W xb rb zb bb ts sz Z Bk cs V L F sx sr wv → (ob, oo) ∈ F → wv.cell? ⟨ob, 0, none⟩ = some (.int .i64 3) ∧ wv.cell? ⟨ob, 1, none⟩ = some (.int .i64 A) ∧ wv.cell? ⟨ob, 2, none⟩ = some (.int .i64 B) ∧ wv.cell? ⟨ob, 3, none⟩ = some (.int .i64 C)) := fun F sx sr wv h hm => by
    have h1 := h.at hm
    rw [hoo] at h1
    exact ⟨(cell_of_row _ _ 0 _ _ (0, 0) h1).trans rfl, (cell_of_row _ _ 1 _ _ (0, 0) h1).trans rfl, (cell_of_row _ _ 2 _ _ (0, 0) h1).trans rfl, (cell_of_row _ _ 3 _ _ (0, 0) h1).trans rfl⟩
  clear hoo
  obtain ⟨F, hF⟩ : ∃ F : List (Nat × Obj), F = [(ob, oo)] := ⟨_, rfl⟩
  have HMO : Hid ((ob, oo) ∈ F) := by show (ob, oo) ∈ F; rw [hF]; simp
  rw [← hF] at HP1
  clear hF
  obtain ⟨k0, k1, k2, k3⟩ := HCO.out _ _ _ _ HP1.out HMO.out
  go_wp2_with fail
  refine (HNA.out _).mono ?_
  rintro e w2 ⟨rfl, hq⟩
  have HP2 := Vx.hid (HP1.out.quiet hq)
  clear hq k0 k1 k2 k3
  obtain ⟨k0, k1, k2, k3⟩ := HCO.out _ _ _ _ HP2.out HMO.out
  go_wp2_with fail
  refine (HXC.out _ _ HP2.out).mono ?_
  rintro e w3 ⟨rfl, HP3⟩
  clear k0 k1 k2 k3
  obtain ⟨k0, k1, k2, k3⟩ := HCO.out _ _ _ _ HP3.out HMO.out
  go_wp2_with fail
  refine (HRC.out _ _ HP3.out).mono ?_
  rintro e w4 ⟨rfl, HP4⟩
  clear k0 k1 k2 k3
  obtain ⟨k0, k1, k2, k3⟩ := HCO.out _ _ _ _ HP4.out HMO.out
  go_wp2_with fail
  all_goals
    go_ret
    exact ⟨by try rfl, HP4.out.fin HLN.out HSM.out.1 HSM.out.2⟩
set_option maxRecDepth 100000 in
set_option maxHeartbeats 4000000 in
theorem trd_block (h : SlC W xb rb zb bb ts sz X R Z Bk s s cs V L wr) (A B C E : Int) (iA : I64 A) (iB : I64 B) (iC : I64 C) (st : ByteArray) {n : Nat} (hL : ∀ j, j < 6 → (L j).length ≤ 2 * n) (hn : n ≤ 300000) (h1 : s.es.length ≤ n) (h2 : s.ck ≤ 12 * n) :
    Calls Try.prog 12 #[.pointer (some ⟨xb, 0, none⟩), .pointer (some ⟨rb, 0, none⟩), .pointer (some ⟨bb, 0, none⟩), .agg #[.int .i64 4, .int .i64 A, .int .i64 B, .int .i64 C, .int .i64 E, .string st]] wr fun e w' => e = .returned (.bool true) ∧ SlR W xb rb zb bb ts sz (n + 1) w' := by
  obtain ⟨oo, hoo⟩ : ∃ oo : Obj, oo = .cells #[.int .i64 4, .int .i64 A, .int .i64 B, .int .i64 C, .int .i64 E, .string st] 48 (0, 0) := ⟨_, rfl⟩
  have HP1 : Hid (SlI W xb rb zb bb ts sz Z Bk cs V L [(wr.heap.size, oo)] s s (wr.alloc oo)) := SlI.alloc (F := []) ⟨X, R, h, fun p hp => by cases hp⟩ oo
  have HWF : Hid (SWf s.es s.ck ∧ TsOk ts s.t s.lf) := h.x.wf
  have HLN : Hid (∀ j, j < 6 → (L j).length ≤ 2 * (n + 1)) := fun j hj => Nat.le_trans (hL j hj) (by omega)
  have HB1 : Hid (s.es.length ≤ n ∧ s.ck ≤ 12 * n) := ⟨h1, h2⟩
  have HNA : Hid (∀ wv, Calls Try.prog 27 #[.int .i64 A, .int .i64 7] wv fun e w' => e = .returned (.int .i64 (nearF A 7)) ∧ Only (fun _ => False) wv w') := fun wv => (near_any A iA 7 (by decide) wv).mono (fun _ _ h => ⟨h.1, by rw [h.2]; exact Only.refl _ _⟩)
  have iN := near_i64 iA 7 (by decide)
  generalize nearF A 7 = N at HNA iN
  have HXC : Hid (∀ F wv, SlI W xb rb zb bb ts sz Z Bk cs V L F s s wv → Calls Try.prog 16 #[.pointer (some ⟨xb, 0, none⟩), .int .i64 N] wv fun e w' => e = .returned (.int .i64 (yieldE s.es N)) ∧ Hid (SlI W xb rb zb bb ts sz Z Bk cs V L F (sBlock s N) s w')) := fun F wv h => h.xcall (fun U hx => cBlock hx N iN)
  have HRC : Hid (∀ F wv, SlI W xb rb zb bb ts sz Z Bk cs V L F (sBlock s N) s wv → Calls Try.prog 32 #[.pointer (some ⟨rb, 0, none⟩), .int .i64 N] wv fun e w' => e = .returned (.int .i64 (yieldE s.es N)) ∧ Hid (SlI W xb rb zb bb ts sz Z Bk cs V L F (sBlock s N) (sBlock s N) w')) := fun F wv h => h.rcall (fun U hr => dBlock hr N)
  have HSM : Hid ((sBlock s N).es.length ≤ n + 1 ∧ (sBlock s N).ck ≤ 12 * (n + 1)) := by
    have := sm_block s N
    exact ⟨by have := this.1; omega, by have := this.2; omega⟩
  generalize yieldE s.es N = er at HXC HRC
  generalize sBlock s N = s2 at HXC HRC HSM
  clear h h1 h2
  go_enter Try.func12, Try.ntmps12
  go_upto_region 1 with fail
  rw [← hoo]
  obtain ⟨w1, hw1⟩ : ∃ w1, w1 = wr.alloc oo := ⟨_, rfl⟩
  rw [← hw1] at HP1 ⊢
  obtain ⟨ob, hob⟩ : ∃ ob, ob = wr.heap.size := ⟨_, rfl⟩
  rw [← hob] at HP1 ⊢
  clear hw1 hob
  have HCO : Hid (∀ F sx sr wv, SlI W xb rb zb bb ts sz Z Bk cs V L F sx sr wv → (ob, oo) ∈ F → wv.cell? ⟨ob, 0, none⟩ = some (.int .i64 4) ∧ wv.cell? ⟨ob, 1, none⟩ = some (.int .i64 A) ∧ wv.cell? ⟨ob, 2, none⟩ = some (.int .i64 B) ∧ wv.cell? ⟨ob, 3, none⟩ = some (.int .i64 C)) := fun F sx sr wv h hm => by
    have h1 := h.at hm
    rw [hoo] at h1
    exact ⟨(cell_of_row _ _ 0 _ _ (0, 0) h1).trans rfl, (cell_of_row _ _ 1 _ _ (0, 0) h1).trans rfl, (cell_of_row _ _ 2 _ _ (0, 0) h1).trans rfl, (cell_of_row _ _ 3 _ _ (0, 0) h1).trans rfl⟩
  clear hoo
  obtain ⟨F, hF⟩ : ∃ F : List (Nat × Obj), F = [(ob, oo)] := ⟨_, rfl⟩
  have HMO : Hid ((ob, oo) ∈ F) := by show (ob, oo) ∈ F; rw [hF]; simp
  rw [← hF] at HP1
  clear hF
  obtain ⟨k0, k1, k2, k3⟩ := HCO.out _ _ _ _ HP1.out HMO.out
  go_wp2_with fail
  refine (HNA.out _).mono ?_
  rintro e w2 ⟨rfl, hq⟩
  have HP2 := Vx.hid (HP1.out.quiet hq)
  clear hq k0 k1 k2 k3
  obtain ⟨k0, k1, k2, k3⟩ := HCO.out _ _ _ _ HP2.out HMO.out
  go_wp2_with fail
  refine (HXC.out _ _ HP2.out).mono ?_
  rintro e w3 ⟨rfl, HP3⟩
  clear k0 k1 k2 k3
  obtain ⟨k0, k1, k2, k3⟩ := HCO.out _ _ _ _ HP3.out HMO.out
  go_wp2_with fail
  refine (HRC.out _ _ HP3.out).mono ?_
  rintro e w4 ⟨rfl, HP4⟩
  clear k0 k1 k2 k3
  obtain ⟨k0, k1, k2, k3⟩ := HCO.out _ _ _ _ HP4.out HMO.out
  go_wp2_with fail
  all_goals
    go_ret
    exact ⟨by try rfl, HP4.out.fin HLN.out HSM.out.1 HSM.out.2⟩
set_option maxRecDepth 100000 in
set_option maxHeartbeats 4000000 in
theorem trd_yield (h : SlC W xb rb zb bb ts sz X R Z Bk s s cs V L wr) (A B C E : Int) (iA : I64 A) (iB : I64 B) (iC : I64 C) (st : ByteArray) {n : Nat} (hL : ∀ j, j < 6 → (L j).length ≤ 2 * n) (hn : n ≤ 300000) (h1 : s.es.length ≤ n) (h2 : s.ck ≤ 12 * n) :
    Calls Try.prog 12 #[.pointer (some ⟨xb, 0, none⟩), .pointer (some ⟨rb, 0, none⟩), .pointer (some ⟨bb, 0, none⟩), .agg #[.int .i64 5, .int .i64 A, .int .i64 B, .int .i64 C, .int .i64 E, .string st]] wr fun e w' => e = .returned (.bool true) ∧ SlR W xb rb zb bb ts sz (n + 1) w' := by
  obtain ⟨oo, hoo⟩ : ∃ oo : Obj, oo = .cells #[.int .i64 5, .int .i64 A, .int .i64 B, .int .i64 C, .int .i64 E, .string st] 48 (0, 0) := ⟨_, rfl⟩
  have HP1 : Hid (SlI W xb rb zb bb ts sz Z Bk cs V L [(wr.heap.size, oo)] s s (wr.alloc oo)) := SlI.alloc (F := []) ⟨X, R, h, fun p hp => by cases hp⟩ oo
  have HWF : Hid (SWf s.es s.ck ∧ TsOk ts s.t s.lf) := h.x.wf
  have HLN : Hid (∀ j, j < 6 → (L j).length ≤ 2 * (n + 1)) := fun j hj => Nat.le_trans (hL j hj) (by omega)
  have HB1 : Hid (s.es.length ≤ n ∧ s.ck ≤ 12 * n) := ⟨h1, h2⟩
  have HNA : Hid (∀ wv, Calls Try.prog 27 #[.int .i64 A, .int .i64 7] wv fun e w' => e = .returned (.int .i64 (nearF A 7)) ∧ Only (fun _ => False) wv w') := fun wv => (near_any A iA 7 (by decide) wv).mono (fun _ _ h => ⟨h.1, by rw [h.2]; exact Only.refl _ _⟩)
  have iN := near_i64 iA 7 (by decide)
  generalize nearF A 7 = N at HNA iN
  have HXC : Hid (∀ F wv, SlI W xb rb zb bb ts sz Z Bk cs V L F s s wv → Calls Try.prog 17 #[.pointer (some ⟨xb, 0, none⟩), .int .i64 N] wv fun e w' => e = .returned (.int .i64 (yieldE s.es N)) ∧ Hid (SlI W xb rb zb bb ts sz Z Bk cs V L F (sYield s N) s w')) := fun F wv h => h.xcall (fun U hx => cYield hx N iN)
  have HRC : Hid (∀ F wv, SlI W xb rb zb bb ts sz Z Bk cs V L F (sYield s N) s wv → Calls Try.prog 33 #[.pointer (some ⟨rb, 0, none⟩), .int .i64 N] wv fun e w' => e = .returned (.int .i64 (yieldE s.es N)) ∧ Hid (SlI W xb rb zb bb ts sz Z Bk cs V L F (sYield s N) (sYield s N) w')) := fun F wv h => h.rcall (fun U hr => dYield hr (by have := HB1.out; omega) N)
  have HSM : Hid ((sYield s N).es.length ≤ n + 1 ∧ (sYield s N).ck ≤ 12 * (n + 1)) := by
    have := sm_yield s N
    exact ⟨by have := this.1; omega, by have := this.2; omega⟩
  generalize yieldE s.es N = er at HXC HRC
  generalize sYield s N = s2 at HXC HRC HSM
  clear h h1 h2
  go_enter Try.func12, Try.ntmps12
  go_upto_region 1 with fail
  rw [← hoo]
  obtain ⟨w1, hw1⟩ : ∃ w1, w1 = wr.alloc oo := ⟨_, rfl⟩
  rw [← hw1] at HP1 ⊢
  obtain ⟨ob, hob⟩ : ∃ ob, ob = wr.heap.size := ⟨_, rfl⟩
  rw [← hob] at HP1 ⊢
  clear hw1 hob
  have HCO : Hid (∀ F sx sr wv, SlI W xb rb zb bb ts sz Z Bk cs V L F sx sr wv → (ob, oo) ∈ F → wv.cell? ⟨ob, 0, none⟩ = some (.int .i64 5) ∧ wv.cell? ⟨ob, 1, none⟩ = some (.int .i64 A) ∧ wv.cell? ⟨ob, 2, none⟩ = some (.int .i64 B) ∧ wv.cell? ⟨ob, 3, none⟩ = some (.int .i64 C)) := fun F sx sr wv h hm => by
    have h1 := h.at hm
    rw [hoo] at h1
    exact ⟨(cell_of_row _ _ 0 _ _ (0, 0) h1).trans rfl, (cell_of_row _ _ 1 _ _ (0, 0) h1).trans rfl, (cell_of_row _ _ 2 _ _ (0, 0) h1).trans rfl, (cell_of_row _ _ 3 _ _ (0, 0) h1).trans rfl⟩
  clear hoo
  obtain ⟨F, hF⟩ : ∃ F : List (Nat × Obj), F = [(ob, oo)] := ⟨_, rfl⟩
  have HMO : Hid ((ob, oo) ∈ F) := by show (ob, oo) ∈ F; rw [hF]; simp
  rw [← hF] at HP1
  clear hF
  obtain ⟨k0, k1, k2, k3⟩ := HCO.out _ _ _ _ HP1.out HMO.out
  go_wp2_with fail
  refine (HNA.out _).mono ?_
  rintro e w2 ⟨rfl, hq⟩
  have HP2 := Vx.hid (HP1.out.quiet hq)
  clear hq k0 k1 k2 k3
  obtain ⟨k0, k1, k2, k3⟩ := HCO.out _ _ _ _ HP2.out HMO.out
  go_wp2_with fail
  refine (HXC.out _ _ HP2.out).mono ?_
  rintro e w3 ⟨rfl, HP3⟩
  clear k0 k1 k2 k3
  obtain ⟨k0, k1, k2, k3⟩ := HCO.out _ _ _ _ HP3.out HMO.out
  go_wp2_with fail
  refine (HRC.out _ _ HP3.out).mono ?_
  rintro e w4 ⟨rfl, HP4⟩
  clear k0 k1 k2 k3
  obtain ⟨k0, k1, k2, k3⟩ := HCO.out _ _ _ _ HP4.out HMO.out
  go_wp2_with fail
  all_goals
    go_ret
    exact ⟨by try rfl, HP4.out.fin HLN.out HSM.out.1 HSM.out.2⟩
end Go.Proofs.Ytgncabcnefhkiaa

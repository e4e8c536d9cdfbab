import Derived.Test.YtdpgdjpphnbfnaaCi46
/- IpcScripts: passes: Open, Cancel, Where, Word, the other kinds. -/
namespace Go.Proofs.Ytdpgdjpphnbfnaa
open Go.ChangeShapes Go.WideShapes Go.ChangeAt Go.RowKit
open Go.Vx
set_option linter.unusedVariables false
variable {W : World} {xb rb zb bb : Nat} {sz s : Bs} {X R Z Bk : Nat → Prop} {cs : Array Value} {V : Nat → Value} {L : Nat → List Sh} {wr : World}

set_option maxRecDepth 100000 in
set_option maxHeartbeats 8000000 in
theorem psd_open (h : IlC W xb rb zb bb sz X R Z Bk s s cs V L wr) (A B C E : Int) (iA : I64 A) (iB : I64 B) (iC : I64 C) (st : ByteArray) {n : Nat} (hL : ∀ j, j < 6 → (L j).length ≤ 2 * n) (hn : n ≤ 300000) (h1 : s.ps.length ≤ n) (h2 : s.ws.length ≤ n) (h3 : Ok7 s) :
    Calls Try.prog 8 #[.pointer (some ⟨xb, 0, none⟩), .pointer (some ⟨rb, 0, none⟩), .pointer (some ⟨bb, 0, none⟩), .agg #[.int .i64 1, .int .i64 A, .int .i64 B, .int .i64 C, .int .i64 E, .string st]] wr fun e w' => e = .returned (.bool true) ∧ IlR W xb rb zb bb sz (n + 1) w' := by
  obtain ⟨oo, hoo⟩ : ∃ oo : Obj, oo = .cells #[.int .i64 1, .int .i64 A, .int .i64 B, .int .i64 C, .int .i64 E, .string st] 50 (0, 0) := ⟨_, rfl⟩
  have HP1 : Hid (IlI W xb rb zb bb sz Z Bk cs V L [(wr.heap.size, oo)] s s (wr.alloc oo)) := IlI.alloc (F := []) ⟨X, R, h, fun p hp => by cases hp⟩ oo
  have HWF : Hid (BWf s) := h.x.1
  have HLN : Hid (∀ j, j < 6 → (L j).length ≤ 2 * (n + 1)) := fun j hj => Nat.le_trans (hL j hj) (by omega)
  have HB1 : Hid (s.ps.length ≤ n ∧ s.ws.length ≤ n ∧ Ok7 s) := ⟨h1, h2, h3⟩
  have HNA : Hid (∀ wv, Calls Try.prog 22 #[.int .i64 A, .int .i64 5] wv fun e w' => e = .returned (.int .i64 (nearF A 5)) ∧ Only (fun _ => False) wv w') := fun wv => (near_any A iA 5 (by decide) wv).mono (fun _ _ h => ⟨h.1, by rw [h.2]; exact Only.refl _ _⟩)
  have iN := near_i64 iA 5 (by decide)
  have n7 := near_777 A
  generalize nearF A 5 = N at HNA iN n7
  have HPB : Hid (∀ wv, Calls Try.prog 23 #[.int .i64 B, .int .i64 6] wv fun e w' => e = .returned (.int .i64 (pickL B 6 : Nat)) ∧ Only (fun _ => False) wv w') := fun wv => (pickL_any 6 (by decide) (by decide) B iB.1 iB.2 wv).mono (fun _ _ h => ⟨h.1, by rw [h.2]; exact Only.refl _ _⟩)
  have iT : I64 ((pickL B 6 : Nat) : Int) := by
    have : pickL B 6 < 6 := Nat.mod_lt _ (by decide)
    unfold I64
    omega
  generalize ((pickL B 6 : Nat) : Int) = T at HPB iT
  obtain ⟨bq, hbq⟩ : ∃ b, (Int.tmod B 2 != 0) = b := ⟨_, rfl⟩
  have HXC : Hid (∀ F wv, IlI W xb rb zb bb sz Z Bk cs V L F s s wv → Calls Try.prog 6 #[.pointer (some ⟨xb, 0, none⟩), .int .i64 N, .bool bq] wv fun e w' => e = .returned (.int .i64 (openE s N)) ∧ Hid (IlI W xb rb zb bb sz Z Bk cs V L F (openS s N bq) s w')) := fun F wv h => h.xcall (fun U hx => xopen_ok hx (by omega) N iN bq)
  have HRC : Hid (∀ F wv, IlI W xb rb zb bb sz Z Bk cs V L F (openS s N bq) s wv → Calls Try.prog 24 #[.pointer (some ⟨rb, 0, none⟩), .int .i64 N, .bool bq] wv fun e w' => e = .returned (.int .i64 (openE s N)) ∧ Hid (IlI W xb rb zb bb sz Z Bk cs V L F (openS s N bq) (openS s N bq) w')) := fun F wv h => h.rcall (fun U hr => by obtain ⟨vp, vw, hr⟩ := hr; exact ropen_ok hr (by omega) N bq)
  have HSM : Hid ((openS s N bq).ps.length ≤ n + 1 ∧ (openS s N bq).ws.length ≤ n + 1 ∧ Ok7 (openS s N bq)) := by
    have h8 := sz_open s N bq n7
    exact ⟨by have := h8.1; omega, by have := h8.2.1; omega, h8.2.2 h3⟩
  generalize openE s N = er at HXC HRC
  generalize openS s N bq = s2 at HXC HRC HSM
  clear h h1 h2 h3
  go_enter Try.func8, Try.ntmps8
  go_upto_region 1 with fail
  rw [← hoo]
  obtain ⟨w1, hw1⟩ : ∃ w1, w1 = wr.alloc oo := ⟨_, rfl⟩
  rw [← hw1] at HP1 ⊢
  obtain ⟨ob, hob⟩ : ∃ ob, ob = wr.heap.size := ⟨_, rfl⟩
  rw [← hob] at HP1 ⊢
  clear hw1 hob
  have HCO : Hid (∀ F sx sr wv, IlI W xb rb zb bb sz Z Bk cs V L F sx sr wv → (ob, oo) ∈ F → wv.cell? ⟨ob, 0, none⟩ = some (.int .i64 1) ∧ wv.cell? ⟨ob, 1, none⟩ = some (.int .i64 A) ∧ wv.cell? ⟨ob, 2, none⟩ = some (.int .i64 B) ∧ wv.cell? ⟨ob, 3, none⟩ = some (.int .i64 C) ∧ wv.cell? ⟨ob, 4, none⟩ = some (.int .i64 E)) := fun F sx sr wv h hm => by
    have h1 := h.at hm
    rw [hoo] at h1
    exact ⟨(cell_of_row _ _ 0 _ _ (0, 0) h1).trans rfl, (cell_of_row _ _ 1 _ _ (0, 0) h1).trans rfl, (cell_of_row _ _ 2 _ _ (0, 0) h1).trans rfl, (cell_of_row _ _ 3 _ _ (0, 0) h1).trans rfl, (cell_of_row _ _ 4 _ _ (0, 0) h1).trans rfl⟩
  clear hoo
  obtain ⟨F, hF⟩ : ∃ F : List (Nat × Obj), F = [(ob, oo)] := ⟨_, rfl⟩
  have HMO : Hid ((ob, oo) ∈ F) := by show (ob, oo) ∈ F; rw [hF]; simp
  rw [← hF] at HP1
  clear hF
  obtain ⟨k0, k1, k2, k3, k4⟩ := HCO.out _ _ _ _ HP1.out HMO.out
  go_wp2_with fail
  refine (HNA.out _).mono ?_
  rintro e w2 ⟨rfl, hq⟩
  have HP2 := Vx.hid (HP1.out.quiet hq)
  clear hq k0 k1 k2 k3 k4
  obtain ⟨k0, k1, k2, k3, k4⟩ := HCO.out _ _ _ _ HP2.out HMO.out
  go_wp2_with fail
  refine (HPB.out _).mono ?_
  rintro e w3 ⟨rfl, hq⟩
  have HP3 := Vx.hid (HP2.out.quiet hq)
  clear hq k0 k1 k2 k3 k4
  obtain ⟨k0, k1, k2, k3, k4⟩ := HCO.out _ _ _ _ HP3.out HMO.out
  go_wp2_with fail
  refine (HXC.out _ _ HP3.out).mono ?_
  rintro e w4 ⟨rfl, HP4⟩
  clear k0 k1 k2 k3 k4
  obtain ⟨k0, k1, k2, k3, k4⟩ := HCO.out _ _ _ _ HP4.out HMO.out
  go_wp2_with fail
  refine (HRC.out _ _ HP4.out).mono ?_
  rintro e w5 ⟨rfl, HP5⟩
  clear k0 k1 k2 k3 k4
  obtain ⟨k0, k1, k2, k3, k4⟩ := HCO.out _ _ _ _ HP5.out HMO.out
  go_wp2_with fail
  all_goals
    go_ret
    exact ⟨by try rfl, HP5.out.fin HLN.out HSM.out.1 HSM.out.2.1 HSM.out.2.2⟩
set_option maxRecDepth 100000 in
set_option maxHeartbeats 8000000 in
theorem psd_canc (h : IlC W xb rb zb bb sz X R Z Bk s s cs V L wr) (A B C E : Int) (iA : I64 A) (iB : I64 B) (iC : I64 C) (st : ByteArray) {n : Nat} (hL : ∀ j, j < 6 → (L j).length ≤ 2 * n) (hn : n ≤ 300000) (h1 : s.ps.length ≤ n) (h2 : s.ws.length ≤ n) (h3 : Ok7 s) :
    Calls Try.prog 8 #[.pointer (some ⟨xb, 0, none⟩), .pointer (some ⟨rb, 0, none⟩), .pointer (some ⟨bb, 0, none⟩), .agg #[.int .i64 6, .int .i64 A, .int .i64 B, .int .i64 C, .int .i64 E, .string st]] wr fun e w' => e = .returned (.bool true) ∧ IlR W xb rb zb bb sz (n + 1) w' := by
  obtain ⟨oo, hoo⟩ : ∃ oo : Obj, oo = .cells #[.int .i64 6, .int .i64 A, .int .i64 B, .int .i64 C, .int .i64 E, .string st] 50 (0, 0) := ⟨_, rfl⟩
  have HP1 : Hid (IlI W xb rb zb bb sz Z Bk cs V L [(wr.heap.size, oo)] s s (wr.alloc oo)) := IlI.alloc (F := []) ⟨X, R, h, fun p hp => by cases hp⟩ oo
  have HWF : Hid (BWf s) := h.x.1
  have HLN : Hid (∀ j, j < 6 → (L j).length ≤ 2 * (n + 1)) := fun j hj => Nat.le_trans (hL j hj) (by omega)
  have HB1 : Hid (s.ps.length ≤ n ∧ s.ws.length ≤ n ∧ Ok7 s) := ⟨h1, h2, h3⟩
  have HNA : Hid (∀ wv, Calls Try.prog 22 #[.int .i64 A, .int .i64 5] wv fun e w' => e = .returned (.int .i64 (nearF A 5)) ∧ Only (fun _ => False) wv w') := fun wv => (near_any A iA 5 (by decide) wv).mono (fun _ _ h => ⟨h.1, by rw [h.2]; exact Only.refl _ _⟩)
  have iN := near_i64 iA 5 (by decide)
  have n7 := near_777 A
  generalize nearF A 5 = N at HNA iN n7
  have HPB : Hid (∀ wv, Calls Try.prog 23 #[.int .i64 B, .int .i64 6] wv fun e w' => e = .returned (.int .i64 (pickL B 6 : Nat)) ∧ Only (fun _ => False) wv w') := fun wv => (pickL_any 6 (by decide) (by decide) B iB.1 iB.2 wv).mono (fun _ _ h => ⟨h.1, by rw [h.2]; exact Only.refl _ _⟩)
  have iT : I64 ((pickL B 6 : Nat) : Int) := by
    have : pickL B 6 < 6 := Nat.mod_lt _ (by decide)
    unfold I64
    omega
  generalize ((pickL B 6 : Nat) : Int) = T at HPB iT
  have HXC : Hid (∀ F wv, IlI W xb rb zb bb sz Z Bk cs V L F s s wv → Calls Try.prog 13 #[.pointer (some ⟨xb, 0, none⟩), .int .i64 T] wv fun e w' => e = .returned (.int .i64 (cancE s T)) ∧ Hid (IlI W xb rb zb bb sz Z Bk cs V L F (cancS s T) s w')) := fun F wv h => h.xcall (fun U hx => xcancel_ok hx T iT)
  have HRC : Hid (∀ F wv, IlI W xb rb zb bb sz Z Bk cs V L F (cancS s T) s wv → Calls Try.prog 31 #[.pointer (some ⟨rb, 0, none⟩), .int .i64 T] wv fun e w' => e = .returned (.int .i64 (cancE s T)) ∧ Hid (IlI W xb rb zb bb sz Z Bk cs V L F (cancS s T) (cancS s T) w')) := fun F wv h => h.rcall (fun U hr => by obtain ⟨vp, vw, hr⟩ := hr; exact rcancel_ok hr T)
  have HSM : Hid ((cancS s T).ps.length ≤ n + 1 ∧ (cancS s T).ws.length ≤ n + 1 ∧ Ok7 (cancS s T)) := by
    have h8 := sz_canc s T
    exact ⟨by have := h8.1; omega, by have := h8.2.1; omega, h8.2.2 h3⟩
  generalize cancE s T = er at HXC HRC
  generalize cancS s T = s2 at HXC HRC HSM
  clear h h1 h2 h3
  go_enter Try.func8, Try.ntmps8
  go_upto_region 1 with fail
  rw [← hoo]
  obtain ⟨w1, hw1⟩ : ∃ w1, w1 = wr.alloc oo := ⟨_, rfl⟩
  rw [← hw1] at HP1 ⊢
  obtain ⟨ob, hob⟩ : ∃ ob, ob = wr.heap.size := ⟨_, rfl⟩
  rw [← hob] at HP1 ⊢
  clear hw1 hob
  have HCO : Hid (∀ F sx sr wv, IlI W xb rb zb bb sz Z Bk cs V L F sx sr wv → (ob, oo) ∈ F → wv.cell? ⟨ob, 0, none⟩ = some (.int .i64 6) ∧ wv.cell? ⟨ob, 1, none⟩ = some (.int .i64 A) ∧ wv.cell? ⟨ob, 2, none⟩ = some (.int .i64 B) ∧ wv.cell? ⟨ob, 3, none⟩ = some (.int .i64 C) ∧ wv.cell? ⟨ob, 4, none⟩ = some (.int .i64 E)) := fun F sx sr wv h hm => by
    have h1 := h.at hm
    rw [hoo] at h1
    exact ⟨(cell_of_row _ _ 0 _ _ (0, 0) h1).trans rfl, (cell_of_row _ _ 1 _ _ (0, 0) h1).trans rfl, (cell_of_row _ _ 2 _ _ (0, 0) h1).trans rfl, (cell_of_row _ _ 3 _ _ (0, 0) h1).trans rfl, (cell_of_row _ _ 4 _ _ (0, 0) h1).trans rfl⟩
  clear hoo
  obtain ⟨F, hF⟩ : ∃ F : List (Nat × Obj), F = [(ob, oo)] := ⟨_, rfl⟩
  have HMO : Hid ((ob, oo) ∈ F) := by show (ob, oo) ∈ F; rw [hF]; simp
  rw [← hF] at HP1
  clear hF
  obtain ⟨k0, k1, k2, k3, k4⟩ := HCO.out _ _ _ _ HP1.out HMO.out
  go_wp2_with fail
  refine (HNA.out _).mono ?_
  rintro e w2 ⟨rfl, hq⟩
  have HP2 := Vx.hid (HP1.out.quiet hq)
  clear hq k0 k1 k2 k3 k4
  obtain ⟨k0, k1, k2, k3, k4⟩ := HCO.out _ _ _ _ HP2.out HMO.out
  go_wp2_with fail
  refine (HPB.out _).mono ?_
  rintro e w3 ⟨rfl, hq⟩
  have HP3 := Vx.hid (HP2.out.quiet hq)
  clear hq k0 k1 k2 k3 k4
  obtain ⟨k0, k1, k2, k3, k4⟩ := HCO.out _ _ _ _ HP3.out HMO.out
  go_wp2_with fail
  refine (HXC.out _ _ HP3.out).mono ?_
  rintro e w4 ⟨rfl, HP4⟩
  clear k0 k1 k2 k3 k4
  obtain ⟨k0, k1, k2, k3, k4⟩ := HCO.out _ _ _ _ HP4.out HMO.out
  go_wp2_with fail
  refine (HRC.out _ _ HP4.out).mono ?_
  rintro e w5 ⟨rfl, HP5⟩
  clear k0 k1 k2 k3 k4
  obtain ⟨k0, k1, k2, k3, k4⟩ := HCO.out _ _ _ _ HP5.out HMO.out
  go_wp2_with fail
  all_goals
    go_ret
    exact ⟨by try rfl, HP5.out.fin HLN.out HSM.out.1 HSM.out.2.1 HSM.out.2.2⟩
set_option maxRecDepth 100000 in
set_option maxHeartbeats 8000000 in
theorem psd_where (h : IlC W xb rb zb bb sz X R Z Bk s s cs V L wr) (A B C E : Int) (iA : I64 A) (iB : I64 B) (iC : I64 C) (st : ByteArray) {n : Nat} (hL : ∀ j, j < 6 → (L j).length ≤ 2 * n) (hn : n ≤ 300000) (h1 : s.ps.length ≤ n) (h2 : s.ws.length ≤ n) (h3 : Ok7 s) :
    Calls Try.prog 8 #[.pointer (some ⟨xb, 0, none⟩), .pointer (some ⟨rb, 0, none⟩), .pointer (some ⟨bb, 0, none⟩), .agg #[.int .i64 9, .int .i64 A, .int .i64 B, .int .i64 C, .int .i64 E, .string st]] wr fun e w' => e = .returned (.bool true) ∧ IlR W xb rb zb bb sz (n + 1) w' := by
  obtain ⟨oo, hoo⟩ : ∃ oo : Obj, oo = .cells #[.int .i64 9, .int .i64 A, .int .i64 B, .int .i64 C, .int .i64 E, .string st] 50 (0, 0) := ⟨_, rfl⟩
  have HP1 : Hid (IlI W xb rb zb bb sz Z Bk cs V L [(wr.heap.size, oo)] s s (wr.alloc oo)) := IlI.alloc (F := []) ⟨X, R, h, fun p hp => by cases hp⟩ oo
  have HWF : Hid (BWf s) := h.x.1
  have HLN : Hid (∀ j, j < 6 → (L j).length ≤ 2 * (n + 1)) := fun j hj => Nat.le_trans (hL j hj) (by omega)
  have HB1 : Hid (s.ps.length ≤ n ∧ s.ws.length ≤ n ∧ Ok7 s) := ⟨h1, h2, h3⟩
  have HNA : Hid (∀ wv, Calls Try.prog 22 #[.int .i64 A, .int .i64 5] wv fun e w' => e = .returned (.int .i64 (nearF A 5)) ∧ Only (fun _ => False) wv w') := fun wv => (near_any A iA 5 (by decide) wv).mono (fun _ _ h => ⟨h.1, by rw [h.2]; exact Only.refl _ _⟩)
  have iN := near_i64 iA 5 (by decide)
  have n7 := near_777 A
  generalize nearF A 5 = N at HNA iN n7
  have HPB : Hid (∀ wv, Calls Try.prog 23 #[.int .i64 B, .int .i64 6] wv fun e w' => e = .returned (.int .i64 (pickL B 6 : Nat)) ∧ Only (fun _ => False) wv w') := fun wv => (pickL_any 6 (by decide) (by decide) B iB.1 iB.2 wv).mono (fun _ _ h => ⟨h.1, by rw [h.2]; exact Only.refl _ _⟩)
  have iT : I64 ((pickL B 6 : Nat) : Int) := by
    have : pickL B 6 < 6 := Nat.mod_lt _ (by decide)
    unfold I64
    omega
  generalize ((pickL B 6 : Nat) : Int) = T at HPB iT
  have HXC : Hid (∀ F wv, IlI W xb rb zb bb sz Z Bk cs V L F s s wv → Calls Try.prog 33 #[.pointer (some ⟨xb, 0, none⟩), .int .i64 T] wv fun e w' => e = .returned (.tuple #[.int .i64 (whereA s T), .int .i64 (whereH s T)]) ∧ Hid (IlI W xb rb zb bb sz Z Bk cs V L F s s w')) := fun F wv h => h.xread (fun U hx => xwhere_ok hx T iT)
  have HRC : Hid (∀ F wv, IlI W xb rb zb bb sz Z Bk cs V L F s s wv → Calls Try.prog 34 #[.pointer (some ⟨rb, 0, none⟩), .int .i64 T] wv fun e w' => e = .returned (.tuple #[.int .i64 (whereA s T), .int .i64 (whereH s T)]) ∧ Hid (IlI W xb rb zb bb sz Z Bk cs V L F s s w')) := fun F wv h => h.rread (fun U hr => by obtain ⟨vp, vw, hr⟩ := hr; exact rwhere_ok hr T)
  generalize whereA s T = y0 at HXC HRC
  generalize whereH s T = y1 at HXC HRC
  clear h h1 h2 h3
  go_enter Try.func8, Try.ntmps8
  go_upto_region 1 with fail
  rw [← hoo]
  obtain ⟨w1, hw1⟩ : ∃ w1, w1 = wr.alloc oo := ⟨_, rfl⟩
  rw [← hw1] at HP1 ⊢
  obtain ⟨ob, hob⟩ : ∃ ob, ob = wr.heap.size := ⟨_, rfl⟩
  rw [← hob] at HP1 ⊢
  clear hw1 hob
  have HCO : Hid (∀ F sx sr wv, IlI W xb rb zb bb sz Z Bk cs V L F sx sr wv → (ob, oo) ∈ F → wv.cell? ⟨ob, 0, none⟩ = some (.int .i64 9) ∧ wv.cell? ⟨ob, 1, none⟩ = some (.int .i64 A) ∧ wv.cell? ⟨ob, 2, none⟩ = some (.int .i64 B) ∧ wv.cell? ⟨ob, 3, none⟩ = some (.int .i64 C) ∧ wv.cell? ⟨ob, 4, none⟩ = some (.int .i64 E)) := fun F sx sr wv h hm => by
    have h1 := h.at hm
    rw [hoo] at h1
    exact ⟨(cell_of_row _ _ 0 _ _ (0, 0) h1).trans rfl, (cell_of_row _ _ 1 _ _ (0, 0) h1).trans rfl, (cell_of_row _ _ 2 _ _ (0, 0) h1).trans rfl, (cell_of_row _ _ 3 _ _ (0, 0) h1).trans rfl, (cell_of_row _ _ 4 _ _ (0, 0) h1).trans rfl⟩
  clear hoo
  obtain ⟨F, hF⟩ : ∃ F : List (Nat × Obj), F = [(ob, oo)] := ⟨_, rfl⟩
  have HMO : Hid ((ob, oo) ∈ F) := by show (ob, oo) ∈ F; rw [hF]; simp
  rw [← hF] at HP1
  clear hF
  obtain ⟨k0, k1, k2, k3, k4⟩ := HCO.out _ _ _ _ HP1.out HMO.out
  go_wp2_with fail
  refine (HNA.out _).mono ?_
  rintro e w2 ⟨rfl, hq⟩
  have HP2 := Vx.hid (HP1.out.quiet hq)
  clear hq k0 k1 k2 k3 k4
  obtain ⟨k0, k1, k2, k3, k4⟩ := HCO.out _ _ _ _ HP2.out HMO.out
  go_wp2_with fail
  refine (HPB.out _).mono ?_
  rintro e w3 ⟨rfl, hq⟩
  have HP3 := Vx.hid (HP2.out.quiet hq)
  clear hq k0 k1 k2 k3 k4
  obtain ⟨k0, k1, k2, k3, k4⟩ := HCO.out _ _ _ _ HP3.out HMO.out
  go_wp2_with fail
  refine (HXC.out _ _ HP3.out).mono ?_
  rintro e w4 ⟨rfl, HP4⟩
  clear k0 k1 k2 k3 k4
  obtain ⟨k0, k1, k2, k3, k4⟩ := HCO.out _ _ _ _ HP4.out HMO.out
  go_wp2_with fail
  refine (HRC.out _ _ HP4.out).mono ?_
  rintro e w5 ⟨rfl, HP5⟩
  clear k0 k1 k2 k3 k4
  obtain ⟨k0, k1, k2, k3, k4⟩ := HCO.out _ _ _ _ HP5.out HMO.out
  go_wp2_with fail
  all_goals
    go_ret
    exact ⟨by try rfl, HP5.out.fin HLN.out (Nat.le_succ_of_le HB1.out.1) (Nat.le_succ_of_le HB1.out.2.1) HB1.out.2.2⟩
set_option maxRecDepth 100000 in
set_option maxHeartbeats 8000000 in
theorem psd_word (h : IlC W xb rb zb bb sz X R Z Bk s s cs V L wr) (A B C E : Int) (iA : I64 A) (iB : I64 B) (iC : I64 C) (st : ByteArray) {n : Nat} (hL : ∀ j, j < 6 → (L j).length ≤ 2 * n) (hn : n ≤ 300000) (h1 : s.ps.length ≤ n) (h2 : s.ws.length ≤ n) (h3 : Ok7 s) :
    Calls Try.prog 8 #[.pointer (some ⟨xb, 0, none⟩), .pointer (some ⟨rb, 0, none⟩), .pointer (some ⟨bb, 0, none⟩), .agg #[.int .i64 10, .int .i64 A, .int .i64 B, .int .i64 C, .int .i64 E, .string st]] wr fun e w' => e = .returned (.bool true) ∧ IlR W xb rb zb bb sz (n + 1) w' := by
  obtain ⟨oo, hoo⟩ : ∃ oo : Obj, oo = .cells #[.int .i64 10, .int .i64 A, .int .i64 B, .int .i64 C, .int .i64 E, .string st] 50 (0, 0) := ⟨_, rfl⟩
  have HP1 : Hid (IlI W xb rb zb bb sz Z Bk cs V L [(wr.heap.size, oo)] s s (wr.alloc oo)) := IlI.alloc (F := []) ⟨X, R, h, fun p hp => by cases hp⟩ oo
  have HWF : Hid (BWf s) := h.x.1
  have HLN : Hid (∀ j, j < 6 → (L j).length ≤ 2 * (n + 1)) := fun j hj => Nat.le_trans (hL j hj) (by omega)
  have HB1 : Hid (s.ps.length ≤ n ∧ s.ws.length ≤ n ∧ Ok7 s) := ⟨h1, h2, h3⟩
  have HNA : Hid (∀ wv, Calls Try.prog 22 #[.int .i64 A, .int .i64 5] wv fun e w' => e = .returned (.int .i64 (nearF A 5)) ∧ Only (fun _ => False) wv w') := fun wv => (near_any A iA 5 (by decide) wv).mono (fun _ _ h => ⟨h.1, by rw [h.2]; exact Only.refl _ _⟩)
  have iN := near_i64 iA 5 (by decide)
  have n7 := near_777 A
  generalize nearF A 5 = N at HNA iN n7
  have HPB : Hid (∀ wv, Calls Try.prog 23 #[.int .i64 B, .int .i64 6] wv fun e w' => e = .returned (.int .i64 (pickL B 6 : Nat)) ∧ Only (fun _ => False) wv w') := fun wv => (pickL_any 6 (by decide) (by decide) B iB.1 iB.2 wv).mono (fun _ _ h => ⟨h.1, by rw [h.2]; exact Only.refl _ _⟩)
  have iT : I64 ((pickL B 6 : Nat) : Int) := by
    have : pickL B 6 < 6 := Nat.mod_lt _ (by decide)
    unfold I64
    omega
  generalize ((pickL B 6 : Nat) : Int) = T at HPB iT
  have HXC : Hid (∀ F wv, IlI W xb rb zb bb sz Z Bk cs V L F s s wv → Calls Try.prog 11 #[.pointer (some ⟨xb, 0, none⟩), .int .i64 N] wv fun e w' => e = .returned (.tuple #[.int .u32 (wordW s N), .int .i64 (wordE s N)]) ∧ Hid (IlI W xb rb zb bb sz Z Bk cs V L F s s w')) := fun F wv h => h.xread (fun U hx => xword_ok hx N iN)
  have HRC : Hid (∀ F wv, IlI W xb rb zb bb sz Z Bk cs V L F s s wv → Calls Try.prog 35 #[.pointer (some ⟨rb, 0, none⟩), .int .i64 N] wv fun e w' => e = .returned (.tuple #[.int .u32 (wordW s N), .int .i64 (wordE s N)]) ∧ Hid (IlI W xb rb zb bb sz Z Bk cs V L F s s w')) := fun F wv h => h.rread (fun U hr => by obtain ⟨vp, vw, hr⟩ := hr; exact rword_ok hr N)
  generalize wordW s N = y0 at HXC HRC
  generalize wordE s N = y1 at HXC HRC
  clear h h1 h2 h3
  go_enter Try.func8, Try.ntmps8
  go_upto_region 1 with fail
  rw [← hoo]
  obtain ⟨w1, hw1⟩ : ∃ w1, w1 = wr.alloc oo := ⟨_, rfl⟩
  rw [← hw1] at HP1 ⊢
  obtain ⟨ob, hob⟩ : ∃ ob, ob = wr.heap.size := ⟨_, rfl⟩
  rw [← hob] at HP1 ⊢
  clear hw1 hob
  have HCO : Hid (∀ F sx sr wv, IlI W xb rb zb bb sz Z Bk cs V L F sx sr wv → (ob, oo) ∈ F → wv.cell? ⟨ob, 0, none⟩ = some (.int .i64 10) ∧ wv.cell? ⟨ob, 1, none⟩ = some (.int .i64 A) ∧ wv.cell? ⟨ob, 2, none⟩ = some (.int .i64 B) ∧ wv.cell? ⟨ob, 3, none⟩ = some (.int .i64 C) ∧ wv.cell? ⟨ob, 4, none⟩ = some (.int .i64 E)) := fun F sx sr wv h hm => by
    have h1 := h.at hm
    rw [hoo] at h1
    exact ⟨(cell_of_row _ _ 0 _ _ (0, 0) h1).trans rfl, (cell_of_row _ _ 1 _ _ (0, 0) h1).trans rfl, (cell_of_row _ _ 2 _ _ (0, 0) h1).trans rfl, (cell_of_row _ _ 3 _ _ (0, 0) h1).trans rfl, (cell_of_row _ _ 4 _ _ (0, 0) h1).trans rfl⟩
  clear hoo
  obtain ⟨F, hF⟩ : ∃ F : List (Nat × Obj), F = [(ob, oo)] := ⟨_, rfl⟩
  have HMO : Hid ((ob, oo) ∈ F) := by show (ob, oo) ∈ F; rw [hF]; simp
  rw [← hF] at HP1
  clear hF
  obtain ⟨k0, k1, k2, k3, k4⟩ := HCO.out _ _ _ _ HP1.out HMO.out
  go_wp2_with fail
  refine (HNA.out _).mono ?_
  rintro e w2 ⟨rfl, hq⟩
  have HP2 := Vx.hid (HP1.out.quiet hq)
  clear hq k0 k1 k2 k3 k4
  obtain ⟨k0, k1, k2, k3, k4⟩ := HCO.out _ _ _ _ HP2.out HMO.out
  go_wp2_with fail
  refine (HPB.out _).mono ?_
  rintro e w3 ⟨rfl, hq⟩
  have HP3 := Vx.hid (HP2.out.quiet hq)
  clear hq k0 k1 k2 k3 k4
  obtain ⟨k0, k1, k2, k3, k4⟩ := HCO.out _ _ _ _ HP3.out HMO.out
  go_wp2_with fail
  refine (HXC.out _ _ HP3.out).mono ?_
  rintro e w4 ⟨rfl, HP4⟩
  clear k0 k1 k2 k3 k4
  obtain ⟨k0, k1, k2, k3, k4⟩ := HCO.out _ _ _ _ HP4.out HMO.out
  go_wp2_with fail
  refine (HRC.out _ _ HP4.out).mono ?_
  rintro e w5 ⟨rfl, HP5⟩
  clear k0 k1 k2 k3 k4
  obtain ⟨k0, k1, k2, k3, k4⟩ := HCO.out _ _ _ _ HP5.out HMO.out
  go_wp2_with fail
  all_goals
    go_ret
    exact ⟨by try rfl, HP5.out.fin HLN.out (Nat.le_succ_of_le HB1.out.1) (Nat.le_succ_of_le HB1.out.2.1) HB1.out.2.2⟩
set_option maxRecDepth 100000 in
set_option maxHeartbeats 8000000 in
theorem psd_other {K : Int} (h : IlC W xb rb zb bb sz X R Z Bk s s cs V L wr) (A B C E : Int) (iA : I64 A) (iB : I64 B) (iC : I64 C) (st : ByteArray) {n : Nat} (hL : ∀ j, j < 6 → (L j).length ≤ 2 * n) (hn : n ≤ 300000) (h1 : s.ps.length ≤ n) (h2 : s.ws.length ≤ n) (h3 : Ok7 s) (n1 : K ≠ 1) (n2 : K ≠ 2) (n3 : K ≠ 3) (n4 : K ≠ 4) (n5 : K ≠ 5) (n6 : K ≠ 6) (n7 : K ≠ 7) (n8 : K ≠ 8) (n9 : K ≠ 9) (n10 : K ≠ 10) :
    Calls Try.prog 8 #[.pointer (some ⟨xb, 0, none⟩), .pointer (some ⟨rb, 0, none⟩), .pointer (some ⟨bb, 0, none⟩), .agg #[.int .i64 K, .int .i64 A, .int .i64 B, .int .i64 C, .int .i64 E, .string st]] wr fun e w' => e = .returned (.bool true) ∧ IlR W xb rb zb bb sz (n + 1) w' := by
  obtain ⟨oo, hoo⟩ : ∃ oo : Obj, oo = .cells #[.int .i64 K, .int .i64 A, .int .i64 B, .int .i64 C, .int .i64 E, .string st] 50 (0, 0) := ⟨_, rfl⟩
  have HP1 : Hid (IlI W xb rb zb bb sz Z Bk cs V L [(wr.heap.size, oo)] s s (wr.alloc oo)) := IlI.alloc (F := []) ⟨X, R, h, fun p hp => by cases hp⟩ oo
  have HWF : Hid (BWf s) := h.x.1
  have HLN : Hid (∀ j, j < 6 → (L j).length ≤ 2 * (n + 1)) := fun j hj => Nat.le_trans (hL j hj) (by omega)
  have HB1 : Hid (s.ps.length ≤ n ∧ s.ws.length ≤ n ∧ Ok7 s) := ⟨h1, h2, h3⟩
  have HNA : Hid (∀ wv, Calls Try.prog 22 #[.int .i64 A, .int .i64 5] wv fun e w' => e = .returned (.int .i64 (nearF A 5)) ∧ Only (fun _ => False) wv w') := fun wv => (near_any A iA 5 (by decide) wv).mono (fun _ _ h => ⟨h.1, by rw [h.2]; exact Only.refl _ _⟩)
  have iN := near_i64 iA 5 (by decide)
  have nn7 := near_777 A
  generalize nearF A 5 = N at HNA iN nn7
  have HPB : Hid (∀ wv, Calls Try.prog 23 #[.int .i64 B, .int .i64 6] wv fun e w' => e = .returned (.int .i64 (pickL B 6 : Nat)) ∧ Only (fun _ => False) wv w') := fun wv => (pickL_any 6 (by decide) (by decide) B iB.1 iB.2 wv).mono (fun _ _ h => ⟨h.1, by rw [h.2]; exact Only.refl _ _⟩)
  have iT : I64 ((pickL B 6 : Nat) : Int) := by
    have : pickL B 6 < 6 := Nat.mod_lt _ (by decide)
    unfold I64
    omega
  generalize ((pickL B 6 : Nat) : Int) = T at HPB iT
  clear h h1 h2 h3
  go_enter Try.func8, Try.ntmps8
  go_upto_region 1 with fail
  rw [← hoo]
  obtain ⟨w1, hw1⟩ : ∃ w1, w1 = wr.alloc oo := ⟨_, rfl⟩
  rw [← hw1] at HP1 ⊢
  obtain ⟨ob, hob⟩ : ∃ ob, ob = wr.heap.size := ⟨_, rfl⟩
  rw [← hob] at HP1 ⊢
  clear hw1 hob
  have HCO : Hid (∀ F sx sr wv, IlI W xb rb zb bb sz Z Bk cs V L F sx sr wv → (ob, oo) ∈ F → wv.cell? ⟨ob, 0, none⟩ = some (.int .i64 K) ∧ wv.cell? ⟨ob, 1, none⟩ = some (.int .i64 A) ∧ wv.cell? ⟨ob, 2, none⟩ = some (.int .i64 B) ∧ wv.cell? ⟨ob, 3, none⟩ = some (.int .i64 C) ∧ wv.cell? ⟨ob, 4, none⟩ = some (.int .i64 E)) := fun F sx sr wv h hm => by
    have h1 := h.at hm
    rw [hoo] at h1
    exact ⟨(cell_of_row _ _ 0 _ _ (0, 0) h1).trans rfl, (cell_of_row _ _ 1 _ _ (0, 0) h1).trans rfl, (cell_of_row _ _ 2 _ _ (0, 0) h1).trans rfl, (cell_of_row _ _ 3 _ _ (0, 0) h1).trans rfl, (cell_of_row _ _ 4 _ _ (0, 0) h1).trans rfl⟩
  clear hoo
  obtain ⟨F, hF⟩ : ∃ F : List (Nat × Obj), F = [(ob, oo)] := ⟨_, rfl⟩
  have HMO : Hid ((ob, oo) ∈ F) := by show (ob, oo) ∈ F; rw [hF]; simp
  rw [← hF] at HP1
  clear hF
  obtain ⟨k0, k1, k2, k3, k4⟩ := HCO.out _ _ _ _ HP1.out HMO.out
  go_wp2_with fail
  refine (HNA.out _).mono ?_
  rintro e w2 ⟨rfl, hq⟩
  have HP2 := Vx.hid (HP1.out.quiet hq)
  clear hq k0 k1 k2 k3 k4
  obtain ⟨k0, k1, k2, k3, k4⟩ := HCO.out _ _ _ _ HP2.out HMO.out
  go_wp2_with fail
  refine (HPB.out _).mono ?_
  rintro e w3 ⟨rfl, hq⟩
  have HP3 := Vx.hid (HP2.out.quiet hq)
  clear hq k0 k1 k2 k3 k4
  obtain ⟨k0, k1, k2, k3, k4⟩ := HCO.out _ _ _ _ HP3.out HMO.out
  have e1 : (K == 1) = false := beq_eq_false_iff_ne.2 n1
  have e2 : (K == 2) = false := beq_eq_false_iff_ne.2 n2
  have e3 : (K == 3) = false := beq_eq_false_iff_ne.2 n3
  have e4 : (K == 4) = false := beq_eq_false_iff_ne.2 n4
  have e5 : (K == 5) = false := beq_eq_false_iff_ne.2 n5
  have e6 : (K == 6) = false := beq_eq_false_iff_ne.2 n6
  have e7 : (K == 7) = false := beq_eq_false_iff_ne.2 n7
  have e8 : (K == 8) = false := beq_eq_false_iff_ne.2 n8
  have e9 : (K == 9) = false := beq_eq_false_iff_ne.2 n9
  have e10 : (K == 10) = false := beq_eq_false_iff_ne.2 n10
  go_wp2_with fail
  all_goals
    go_ret
    exact ⟨by try rfl, HP3.out.fin HLN.out (Nat.le_succ_of_le HB1.out.1) (Nat.le_succ_of_le HB1.out.2.1) HB1.out.2.2⟩
end Go.Proofs.Ytdpgdjpphnbfnaa

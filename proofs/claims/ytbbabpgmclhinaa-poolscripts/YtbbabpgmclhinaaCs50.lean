import Derived.Test.YtbbabpgmclhinaaCs46
/- PoolScripts: lay: Empty, Mark, At, the other kinds. -/
namespace Go.Proofs.Ytbbabpgmclhinaa
open Go.ChangeShapes Go.WideShapes Go.ChangeAt Go.RowKit
open Go.Vx
set_option linter.unusedVariables false
variable {W : World} {xb rb zb bb : Nat} {P : Int} {oz rz : List (Int × Int)} {X R Z Bk : Nat → Prop} {bs es : List (Int × Int)} {cs : Array Value} {V : Nat → Value} {L : Nat → List Sh} {wr : World}

set_option maxRecDepth 100000 in
set_option maxHeartbeats 4000000 in
theorem lay_empty (h : PlC W xb rb zb bb P oz rz X R Z Bk bs es bs es cs V L wr) (A B C E : Int) (iA : I64 A) (iB : I64 B) (iC : I64 C) (iE : I64 E) (s : ByteArray) {n : Nat} (hL : ∀ j, j < 6 → (L j).length ≤ n) (hn : n ≤ 1000000) :
    Calls Try.prog 10 #[.pointer (some ⟨xb, 0, none⟩), .pointer (some ⟨rb, 0, none⟩), .pointer (some ⟨bb, 0, none⟩), .agg #[.int .i64 3, .int .i64 A, .int .i64 B, .int .i64 C, .int .i64 E, .string s]] wr fun e w' => e = .returned (.bool true) ∧ PlR W xb rb zb bb P oz rz (n + 2) w' := by
  obtain ⟨oo, hoo⟩ : ∃ oo : Obj, oo = .cells #[.int .i64 3, .int .i64 A, .int .i64 B, .int .i64 C, .int .i64 E, .string s] 48 (0, 0) := ⟨_, rfl⟩
  have HP1 : Hid (PlI W xb rb zb bb P oz rz Z Bk cs V L [(wr.heap.size, oo)] bs es bs es (wr.alloc oo)) := PlI.alloc (F := []) ⟨X, R, h, fun p hp => by cases hp⟩ oo
  have HWF : Hid (PWf P bs es) := h.x.wf
  have HLN : Hid (∀ j, j < 6 → (L j).length ≤ n + 2) := fun j hj => Nat.le_trans (hL j hj) (by omega)
  obtain ⟨m, im, hob0⟩ := lregion_ex A iA
  have HOB := Vx.hid hob0
  have HXC : Hid (∀ F wv, PlI W xb rb zb bb P oz rz Z Bk cs V L F bs es bs es wv → Calls Try.prog 16 #[.pointer (some ⟨xb, 0, none⟩), .int .i64 m] wv fun e w' => e = .returned (.tuple #[.bool (emptyR bs es m).1, .int .i64 (emptyR bs es m).2]) ∧ Hid (PlI W xb rb zb bb P oz rz Z Bk cs V L F bs es bs es w')) := fun F wv h => h.xread (fun U hx => xpempty_ok hx m im)
  have HRC : Hid (∀ F wv, PlI W xb rb zb bb P oz rz Z Bk cs V L F bs es bs es wv → Calls Try.prog 34 #[.pointer (some ⟨rb, 0, none⟩), .int .i64 m] wv fun e w' => e = .returned (.tuple #[.bool (emptyR bs es m).1, .int .i64 (emptyR bs es m).2]) ∧ Hid (PlI W xb rb zb bb P oz rz Z Bk cs V L F bs es bs es w')) := fun F wv h => h.rread (fun U vo vr hr => empty_ok hr HWF.out.pg m)
  generalize (emptyR bs es m).1 = yb at HXC HRC
  generalize (emptyR bs es m).2 = er at HXC HRC
  clear h
  go_enter Try.func10, Try.ntmps10
  go_upto_region 1 with fail
  rw [← hoo]
  obtain ⟨w1, hw1⟩ : ∃ w1, w1 = wr.alloc oo := ⟨_, rfl⟩
  rw [← hw1] at HP1 ⊢
  obtain ⟨ob, hob⟩ : ∃ ob, ob = wr.heap.size := ⟨_, rfl⟩
  rw [← hob] at HP1 ⊢
  clear hw1 hob
  have HCO : Hid (∀ F bx ex br er wv, PlI W xb rb zb bb P oz rz Z Bk cs V L F bx ex br er wv → (ob, oo) ∈ F → wv.cell? ⟨ob, 0, none⟩ = some (.int .i64 3) ∧ wv.cell? ⟨ob, 1, none⟩ = some (.int .i64 A) ∧ wv.cell? ⟨ob, 2, none⟩ = some (.int .i64 B) ∧ wv.cell? ⟨ob, 3, none⟩ = some (.int .i64 C) ∧ wv.cell? ⟨ob, 4, none⟩ = some (.int .i64 E)) := fun F bx ex br er wv h hm => by
    have h1 := h.at hm
    rw [hoo] at h1
    exact ⟨(cell_of_row _ _ 0 _ _ (0, 0) h1).trans rfl, (cell_of_row _ _ 1 _ _ (0, 0) h1).trans rfl, (cell_of_row _ _ 2 _ _ (0, 0) h1).trans rfl, (cell_of_row _ _ 3 _ _ (0, 0) h1).trans rfl, (cell_of_row _ _ 4 _ _ (0, 0) h1).trans rfl⟩
  clear hoo
  obtain ⟨F, hF⟩ : ∃ F : List (Nat × Obj), F = [(ob, oo)] := ⟨_, rfl⟩
  have HMO : Hid ((ob, oo) ∈ F) := by show (ob, oo) ∈ F; rw [hF]; simp
  rw [← hF] at HP1
  clear hF
  obtain ⟨k0, k1, k2, k3, k4⟩ := HCO.out _ _ _ _ _ _ HP1.out HMO.out
  go_wp2_with fail
  refine (HOB.out _).mono ?_
  rintro e w2 ⟨rfl, hq⟩
  have HP2 := Vx.hid (HP1.out.quiet hq)
  clear hq k0 k1 k2 k3 k4
  obtain ⟨k0, k1, k2, k3, k4⟩ := HCO.out _ _ _ _ _ _ HP2.out HMO.out
  go_wp2_with fail
  refine (HXC.out _ _ HP2.out).mono ?_
  rintro e w3 ⟨rfl, HP3⟩
  clear k0 k1 k2 k3 k4
  obtain ⟨k0, k1, k2, k3, k4⟩ := HCO.out _ _ _ _ _ _ HP3.out HMO.out
  go_wp2_with fail
  refine (HOB.out _).mono ?_
  rintro e w4 ⟨rfl, hq⟩
  have HP4 := Vx.hid (HP3.out.quiet hq)
  clear hq k0 k1 k2 k3 k4
  obtain ⟨k0, k1, k2, k3, k4⟩ := HCO.out _ _ _ _ _ _ HP4.out HMO.out
  go_wp2_with fail
  refine (HRC.out _ _ HP4.out).mono ?_
  rintro e w5 ⟨rfl, HP5⟩
  clear k0 k1 k2 k3 k4
  obtain ⟨k0, k1, k2, k3, k4⟩ := HCO.out _ _ _ _ _ _ HP5.out HMO.out
  go_wp2_with fail
  all_goals
    go_ret
    exact ⟨by try rfl, HP5.out.fin HLN.out⟩
set_option maxRecDepth 100000 in
set_option maxHeartbeats 4000000 in
theorem lay_mark (h : PlC W xb rb zb bb P oz rz X R Z Bk bs es bs es cs V L wr) (A B C E : Int) (iA : I64 A) (iB : I64 B) (iC : I64 C) (iE : I64 E) (s : ByteArray) {n : Nat} (hL : ∀ j, j < 6 → (L j).length ≤ n) (hn : n ≤ 1000000) :
    Calls Try.prog 10 #[.pointer (some ⟨xb, 0, none⟩), .pointer (some ⟨rb, 0, none⟩), .pointer (some ⟨bb, 0, none⟩), .agg #[.int .i64 4, .int .i64 A, .int .i64 B, .int .i64 C, .int .i64 E, .string s]] wr fun e w' => e = .returned (.bool true) ∧ PlR W xb rb zb bb P oz rz (n + 2) w' := by
  obtain ⟨oo, hoo⟩ : ∃ oo : Obj, oo = .cells #[.int .i64 4, .int .i64 A, .int .i64 B, .int .i64 C, .int .i64 E, .string s] 48 (0, 0) := ⟨_, rfl⟩
  have HP1 : Hid (PlI W xb rb zb bb P oz rz Z Bk cs V L [(wr.heap.size, oo)] bs es bs es (wr.alloc oo)) := PlI.alloc (F := []) ⟨X, R, h, fun p hp => by cases hp⟩ oo
  have HWF : Hid (PWf P bs es) := h.x.wf
  have HLN : Hid (∀ j, j < 6 → (L j).length ≤ n + 2) := fun j hj => Nat.le_trans (hL j hj) (by omega)
  obtain ⟨m, im, hob0⟩ := lregion_ex A iA
  have HOB := Vx.hid hob0
  have HXC : Hid (∀ F wv, PlI W xb rb zb bb P oz rz Z Bk cs V L F bs es bs es wv → Calls Try.prog 13 #[.pointer (some ⟨xb, 0, none⟩), .int .i64 m] wv fun e w' => e = .returned (.tuple #[.int .i64 (markR es m).1, .int .i64 (markR es m).2]) ∧ Hid (PlI W xb rb zb bb P oz rz Z Bk cs V L F bs es bs es w')) := fun F wv h => h.xread (fun U hx => xpmark_ok hx m im)
  have HRC : Hid (∀ F wv, PlI W xb rb zb bb P oz rz Z Bk cs V L F bs es bs es wv → Calls Try.prog 35 #[.pointer (some ⟨rb, 0, none⟩), .int .i64 m] wv fun e w' => e = .returned (.tuple #[.int .i64 (markR es m).1, .int .i64 (markR es m).2]) ∧ Hid (PlI W xb rb zb bb P oz rz Z Bk cs V L F bs es bs es w')) := fun F wv h => h.rread (fun U vo vr hr => (mark_ok hr m).mono (fun _ _ h => ⟨h.1, by rw [h.2]; exact Only.refl _ _⟩))
  generalize (markR es m).1 = yb at HXC HRC
  generalize (markR es m).2 = er at HXC HRC
  clear h
  go_enter Try.func10, Try.ntmps10
  go_upto_region 1 with fail
  rw [← hoo]
  obtain ⟨w1, hw1⟩ : ∃ w1, w1 = wr.alloc oo := ⟨_, rfl⟩
  rw [← hw1] at HP1 ⊢
  obtain ⟨ob, hob⟩ : ∃ ob, ob = wr.heap.size := ⟨_, rfl⟩
  rw [← hob] at HP1 ⊢
  clear hw1 hob
  have HCO : Hid (∀ F bx ex br er wv, PlI W xb rb zb bb P oz rz Z Bk cs V L F bx ex br er wv → (ob, oo) ∈ F → wv.cell? ⟨ob, 0, none⟩ = some (.int .i64 4) ∧ wv.cell? ⟨ob, 1, none⟩ = some (.int .i64 A) ∧ wv.cell? ⟨ob, 2, none⟩ = some (.int .i64 B) ∧ wv.cell? ⟨ob, 3, none⟩ = some (.int .i64 C) ∧ wv.cell? ⟨ob, 4, none⟩ = some (.int .i64 E)) := fun F bx ex br er wv h hm => by
    have h1 := h.at hm
    rw [hoo] at h1
    exact ⟨(cell_of_row _ _ 0 _ _ (0, 0) h1).trans rfl, (cell_of_row _ _ 1 _ _ (0, 0) h1).trans rfl, (cell_of_row _ _ 2 _ _ (0, 0) h1).trans rfl, (cell_of_row _ _ 3 _ _ (0, 0) h1).trans rfl, (cell_of_row _ _ 4 _ _ (0, 0) h1).trans rfl⟩
  clear hoo
  obtain ⟨F, hF⟩ : ∃ F : List (Nat × Obj), F = [(ob, oo)] := ⟨_, rfl⟩
  have HMO : Hid ((ob, oo) ∈ F) := by show (ob, oo) ∈ F; rw [hF]; simp
  rw [← hF] at HP1
  clear hF
  obtain ⟨k0, k1, k2, k3, k4⟩ := HCO.out _ _ _ _ _ _ HP1.out HMO.out
  go_wp2_with fail
  refine (HOB.out _).mono ?_
  rintro e w2 ⟨rfl, hq⟩
  have HP2 := Vx.hid (HP1.out.quiet hq)
  clear hq k0 k1 k2 k3 k4
  obtain ⟨k0, k1, k2, k3, k4⟩ := HCO.out _ _ _ _ _ _ HP2.out HMO.out
  go_wp2_with fail
  refine (HXC.out _ _ HP2.out).mono ?_
  rintro e w3 ⟨rfl, HP3⟩
  clear k0 k1 k2 k3 k4
  obtain ⟨k0, k1, k2, k3, k4⟩ := HCO.out _ _ _ _ _ _ HP3.out HMO.out
  go_wp2_with fail
  refine (HOB.out _).mono ?_
  rintro e w4 ⟨rfl, hq⟩
  have HP4 := Vx.hid (HP3.out.quiet hq)
  clear hq k0 k1 k2 k3 k4
  obtain ⟨k0, k1, k2, k3, k4⟩ := HCO.out _ _ _ _ _ _ HP4.out HMO.out
  go_wp2_with fail
  refine (HRC.out _ _ HP4.out).mono ?_
  rintro e w5 ⟨rfl, HP5⟩
  clear k0 k1 k2 k3 k4
  obtain ⟨k0, k1, k2, k3, k4⟩ := HCO.out _ _ _ _ _ _ HP5.out HMO.out
  go_wp2_with fail
  all_goals
    go_ret
    exact ⟨by try rfl, HP5.out.fin HLN.out⟩
set_option maxRecDepth 100000 in
set_option maxHeartbeats 4000000 in
theorem lay_at (h : PlC W xb rb zb bb P oz rz X R Z Bk bs es bs es cs V L wr) (A B C E : Int) (iA : I64 A) (iB : I64 B) (iC : I64 C) (iE : I64 E) (s : ByteArray) {n : Nat} (hL : ∀ j, j < 6 → (L j).length ≤ n) (hn : n ≤ 1000000) :
    Calls Try.prog 10 #[.pointer (some ⟨xb, 0, none⟩), .pointer (some ⟨rb, 0, none⟩), .pointer (some ⟨bb, 0, none⟩), .agg #[.int .i64 5, .int .i64 A, .int .i64 B, .int .i64 C, .int .i64 E, .string s]] wr fun e w' => e = .returned (.bool true) ∧ PlR W xb rb zb bb P oz rz (n + 2) w' := by
  obtain ⟨oo, hoo⟩ : ∃ oo : Obj, oo = .cells #[.int .i64 5, .int .i64 A, .int .i64 B, .int .i64 C, .int .i64 E, .string s] 48 (0, 0) := ⟨_, rfl⟩
  have HP1 : Hid (PlI W xb rb zb bb P oz rz Z Bk cs V L [(wr.heap.size, oo)] bs es bs es (wr.alloc oo)) := PlI.alloc (F := []) ⟨X, R, h, fun p hp => by cases hp⟩ oo
  have HWF : Hid (PWf P bs es) := h.x.wf
  have HLN : Hid (∀ j, j < 6 → (L j).length ≤ n + 2) := fun j hj => Nat.le_trans (hL j hj) (by omega)
  have HNA : Hid (∀ wv, Calls Try.prog 5 #[.int .i64 A, .int .i64 64] wv fun e w' => e = .returned (.int .i64 (nearF A 64)) ∧ Only (fun _ => False) wv w') := fun wv => (near_any A iA 64 (by decide) wv).mono (fun _ _ h => ⟨h.1, by rw [h.2]; exact Only.refl _ _⟩)
  have im := near_i64 iA 64 (by decide)
  generalize nearF A 64 = m at HNA im
  have HXC : Hid (∀ F wv, PlI W xb rb zb bb P oz rz Z Bk cs V L F bs es bs es wv → Calls Try.prog 36 #[.pointer (some ⟨xb, 0, none⟩), .int .i64 m] wv fun e w' => e = .returned (.tuple #[.agg #[.int .i64 (atR P bs m).1.1, .int .i64 (atR P bs m).1.2], .int .i64 (atR P bs m).2]) ∧ Hid (PlI W xb rb zb bb P oz rz Z Bk cs V L F bs es bs es w')) := fun F wv h => h.xread (fun U hx => xpat_ok hx m im)
  have HRC : Hid (∀ F wv, PlI W xb rb zb bb P oz rz Z Bk cs V L F bs es bs es wv → Calls Try.prog 37 #[.pointer (some ⟨rb, 0, none⟩), .int .i64 m] wv fun e w' => e = .returned (.tuple #[.agg #[.int .i64 (atR P bs m).1.1, .int .i64 (atR P bs m).1.2], .int .i64 (atR P bs m).2]) ∧ Hid (PlI W xb rb zb bb P oz rz Z Bk cs V L F bs es bs es w')) := fun F wv h => h.rread (fun U vo vr hr => at_ok hr m)
  generalize (atR P bs m).1 = yy at HXC HRC
  generalize (atR P bs m).2 = er at HXC HRC
  obtain ⟨y0, y1⟩ := yy
  simp only at HXC HRC
  clear h
  go_enter Try.func10, Try.ntmps10
  go_upto_region 1 with fail
  rw [← hoo]
  obtain ⟨w1, hw1⟩ : ∃ w1, w1 = wr.alloc oo := ⟨_, rfl⟩
  rw [← hw1] at HP1 ⊢
  obtain ⟨ob, hob⟩ : ∃ ob, ob = wr.heap.size := ⟨_, rfl⟩
  rw [← hob] at HP1 ⊢
  clear hw1 hob
  have HCO : Hid (∀ F bx ex br er wv, PlI W xb rb zb bb P oz rz Z Bk cs V L F bx ex br er wv → (ob, oo) ∈ F → wv.cell? ⟨ob, 0, none⟩ = some (.int .i64 5) ∧ wv.cell? ⟨ob, 1, none⟩ = some (.int .i64 A) ∧ wv.cell? ⟨ob, 2, none⟩ = some (.int .i64 B) ∧ wv.cell? ⟨ob, 3, none⟩ = some (.int .i64 C) ∧ wv.cell? ⟨ob, 4, none⟩ = some (.int .i64 E)) := fun F bx ex br er wv h hm => by
    have h1 := h.at hm
    rw [hoo] at h1
    exact ⟨(cell_of_row _ _ 0 _ _ (0, 0) h1).trans rfl, (cell_of_row _ _ 1 _ _ (0, 0) h1).trans rfl, (cell_of_row _ _ 2 _ _ (0, 0) h1).trans rfl, (cell_of_row _ _ 3 _ _ (0, 0) h1).trans rfl, (cell_of_row _ _ 4 _ _ (0, 0) h1).trans rfl⟩
  clear hoo
  obtain ⟨F, hF⟩ : ∃ F : List (Nat × Obj), F = [(ob, oo)] := ⟨_, rfl⟩
  have HMO : Hid ((ob, oo) ∈ F) := by show (ob, oo) ∈ F; rw [hF]; simp
  rw [← hF] at HP1
  clear hF
  obtain ⟨k0, k1, k2, k3, k4⟩ := HCO.out _ _ _ _ _ _ HP1.out HMO.out
  go_wp2_with fail
  refine (HNA.out _).mono ?_
  rintro e w2 ⟨rfl, hq⟩
  have HP2 := Vx.hid (HP1.out.quiet hq)
  clear hq k0 k1 k2 k3 k4
  obtain ⟨k0, k1, k2, k3, k4⟩ := HCO.out _ _ _ _ _ _ HP2.out HMO.out
  go_wp2_with fail
  refine (HXC.out _ _ HP2.out).mono ?_
  rintro e w3 ⟨rfl, HP3⟩
  clear k0 k1 k2 k3 k4
  obtain ⟨k0, k1, k2, k3, k4⟩ := HCO.out _ _ _ _ _ _ HP3.out HMO.out
  go_upto_region 20 with fail
  have HPwa := Vx.hid (HP3.out.alloc (.cells #[.int .i64 y0, .int .i64 y1] 33 (0, 0)))
  obtain ⟨wa, hwa⟩ : ∃ wq, wq = w3.alloc (.cells #[.int .i64 y0, .int .i64 y1] 33) := ⟨_, rfl⟩
  obtain ⟨bwa, hbwa⟩ : ∃ bq, bq = w3.heap.size := ⟨_, rfl⟩
  rw [← hwa, ← hbwa] at HPwa ⊢
  clear hwa hbwa k0 k1 k2 k3 k4
  obtain ⟨k0, k1, k2, k3, k4⟩ := HCO.out _ _ _ _ _ _ HPwa.out (List.mem_cons_of_mem _ HMO.out)
  go_wp2_with fail
  refine (HNA.out _).mono ?_
  rintro e w4 ⟨rfl, hq⟩
  have HP4 := Vx.hid (HPwa.out.quiet hq)
  clear hq k0 k1 k2 k3 k4
  obtain ⟨k0, k1, k2, k3, k4⟩ := HCO.out _ _ _ _ _ _ HP4.out (List.mem_cons_of_mem _ HMO.out)
  go_wp2_with fail
  refine (HRC.out _ _ HP4.out).mono ?_
  rintro e w5 ⟨rfl, HP5⟩
  clear k0 k1 k2 k3 k4
  obtain ⟨k0, k1, k2, k3, k4⟩ := HCO.out _ _ _ _ _ _ HP5.out (List.mem_cons_of_mem _ HMO.out)
  go_upto_region 21 with fail
  have HPwb := Vx.hid (HP5.out.alloc (.cells #[.int .i64 y0, .int .i64 y1] 33 (0, 0)))
  obtain ⟨wb, hwb⟩ : ∃ wq, wq = w5.alloc (.cells #[.int .i64 y0, .int .i64 y1] 33) := ⟨_, rfl⟩
  obtain ⟨bwb, hbwb⟩ : ∃ bq, bq = w5.heap.size := ⟨_, rfl⟩
  rw [← hwb, ← hbwb] at HPwb ⊢
  clear hwb hbwb k0 k1 k2 k3 k4
  obtain ⟨⟨g0, g1⟩, _⟩ := obj_cells (HPwb.out.at List.mem_cons_self)
  obtain ⟨⟨j0, j1⟩, _⟩ := obj_cells (HPwb.out.at (List.mem_cons_of_mem _ List.mem_cons_self))
  go_wp2_with fail
  all_goals
    go_ret
    exact ⟨by try rfl, HPwb.out.fin HLN.out⟩
set_option maxRecDepth 100000 in
set_option maxHeartbeats 4000000 in
theorem lay_other {K : Int} (h : PlC W xb rb zb bb P oz rz X R Z Bk bs es bs es cs V L wr) (A B C E : Int) (iA : I64 A) (iB : I64 B) (iC : I64 C) (iE : I64 E) (s : ByteArray) {n : Nat} (hL : ∀ j, j < 6 → (L j).length ≤ n) (hn : n ≤ 1000000) (n1 : K ≠ 1) (n2 : K ≠ 2) (n3 : K ≠ 3) (n4 : K ≠ 4) (n5 : K ≠ 5) (n6 : K ≠ 6) (n7 : K ≠ 7) :
    Calls Try.prog 10 #[.pointer (some ⟨xb, 0, none⟩), .pointer (some ⟨rb, 0, none⟩), .pointer (some ⟨bb, 0, none⟩), .agg #[.int .i64 K, .int .i64 A, .int .i64 B, .int .i64 C, .int .i64 E, .string s]] wr fun e w' => e = .returned (.bool true) ∧ PlR W xb rb zb bb P oz rz (n + 2) w' := by
  obtain ⟨oo, hoo⟩ : ∃ oo : Obj, oo = .cells #[.int .i64 K, .int .i64 A, .int .i64 B, .int .i64 C, .int .i64 E, .string s] 48 (0, 0) := ⟨_, rfl⟩
  have HP1 : Hid (PlI W xb rb zb bb P oz rz Z Bk cs V L [(wr.heap.size, oo)] bs es bs es (wr.alloc oo)) := PlI.alloc (F := []) ⟨X, R, h, fun p hp => by cases hp⟩ oo
  have HWF : Hid (PWf P bs es) := h.x.wf
  have HLN : Hid (∀ j, j < 6 → (L j).length ≤ n + 2) := fun j hj => Nat.le_trans (hL j hj) (by omega)
  clear h
  go_enter Try.func10, Try.ntmps10
  go_upto_region 1 with fail
  rw [← hoo]
  obtain ⟨w1, hw1⟩ : ∃ w1, w1 = wr.alloc oo := ⟨_, rfl⟩
  rw [← hw1] at HP1 ⊢
  obtain ⟨ob, hob⟩ : ∃ ob, ob = wr.heap.size := ⟨_, rfl⟩
  rw [← hob] at HP1 ⊢
  clear hw1 hob
  have HCO : Hid (∀ F bx ex br er wv, PlI W xb rb zb bb P oz rz Z Bk cs V L F bx ex br er wv → (ob, oo) ∈ F → wv.cell? ⟨ob, 0, none⟩ = some (.int .i64 K) ∧ wv.cell? ⟨ob, 1, none⟩ = some (.int .i64 A) ∧ wv.cell? ⟨ob, 2, none⟩ = some (.int .i64 B) ∧ wv.cell? ⟨ob, 3, none⟩ = some (.int .i64 C) ∧ wv.cell? ⟨ob, 4, none⟩ = some (.int .i64 E)) := fun F bx ex br er wv h hm => by
    have h1 := h.at hm
    rw [hoo] at h1
    exact ⟨(cell_of_row _ _ 0 _ _ (0, 0) h1).trans rfl, (cell_of_row _ _ 1 _ _ (0, 0) h1).trans rfl, (cell_of_row _ _ 2 _ _ (0, 0) h1).trans rfl, (cell_of_row _ _ 3 _ _ (0, 0) h1).trans rfl, (cell_of_row _ _ 4 _ _ (0, 0) h1).trans rfl⟩
  clear hoo
  obtain ⟨F, hF⟩ : ∃ F : List (Nat × Obj), F = [(ob, oo)] := ⟨_, rfl⟩
  have HMO : Hid ((ob, oo) ∈ F) := by show (ob, oo) ∈ F; rw [hF]; simp
  rw [← hF] at HP1
  clear hF
  obtain ⟨k0, k1, k2, k3, k4⟩ := HCO.out _ _ _ _ _ _ HP1.out HMO.out
  have e1 : (K == 1) = false := beq_eq_false_iff_ne.2 n1
  have e2 : (K == 2) = false := beq_eq_false_iff_ne.2 n2
  have e3 : (K == 3) = false := beq_eq_false_iff_ne.2 n3
  have e4 : (K == 4) = false := beq_eq_false_iff_ne.2 n4
  have e5 : (K == 5) = false := beq_eq_false_iff_ne.2 n5
  have e6 : (K == 6) = false := beq_eq_false_iff_ne.2 n6
  have e7 : (K == 7) = false := beq_eq_false_iff_ne.2 n7
  go_wp2_with fail
  all_goals
    go_ret
    exact ⟨by try rfl, HP1.out.fin HLN.out⟩
end Go.Proofs.Ytbbabpgmclhinaa

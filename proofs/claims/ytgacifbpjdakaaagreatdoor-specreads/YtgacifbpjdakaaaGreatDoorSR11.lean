/- Package spec's reader: what is found by its name; bind, mapping (gen_sr11.py). -/
import Derived.Test.YtgacifbpjdakaaaGreatDoorSR10
namespace Go.Proofs.YtgacifbpjdakaaaGreatDoor
open Go.ChangeShapes Go.WideShapes Go.ChangeAt Go.RowKit
open Go.Vx
set_option linter.unusedVariables false
set_option linter.unusedSimpArgs false
variable {W w w2 : World} {rb : Nat} {V : Rv} {vw : Value} {ws : List (List UInt8)} {T : Tx} {x : List UInt8}

/-- A name that a line ahead tells of, and what it names. -/
structure Fnd (T : Tx) (x : List UInt8) (o : Sl) : Prop where
  ok : NmOk x
  ix : ∃ (i : Nat) (h : i < T.nm.length), T.nm[i] = x ∧ T.ar.getD i (0, 0) = o
theorem obj_k {o : Sl} (f : Fnd T x o) (z : Int) (hz : o.1 = z) (h : RdAt W w rb V vw (x :: ws) T) {kb : Nat} (hk : w.heap[kb]? = some (.cells #[.int .i64 z] 3 (0, 0))) (hl : ws.length ≤ 30000) :
    Calls Tryz.prog 70 #[.pointer (some ⟨rb, 0, none⟩), .slice (some ⟨kb, 0, none⟩) 1 1] w fun e w' => e = .returned (.agg #[.int .i64 o.1, .int .i64 o.2]) ∧ Hid (RdP W w rb V ws T w') := by
  obtain ⟨i, hi, hx, ho⟩ := f.ix
  have hkk : ∀ wv, Only (fun k => k = rb) w wv → Calls Tryz.prog 99 #[.slice (some ⟨kb, 0, none⟩) 1 1, .int .i64 o.1] wv fun e w' => e = .returned (.bool true) ∧ w' = wv := kinds_ok [z] hk (tag_ne hk h.row (by decide)) o.1 (by rw [hz]; simp) (by simp)
  exact robj_of h f.ok i hi hx o ho (by decide : 0 < 1) hkk hl
theorem obj_any {o : Sl} (f : Fnd T x o) (h : RdAt W w rb V vw (x :: ws) T) (hl : ws.length ≤ 30000) :
    Calls Tryz.prog 70 #[.pointer (some ⟨rb, 0, none⟩), .slice none 0 0] w fun e w' => e = .returned (.agg #[.int .i64 o.1, .int .i64 o.2]) ∧ Hid (RdP W w rb V ws T w') := by
  obtain ⟨i, hi, hx, ho⟩ := f.ix
  exact robj_any h f.ok i hi hx o ho hl
theorem slot_f {o : Sl} (f : Fnd T x o) (hk : o.1 = 5 ∨ o.1 = 6) (n : Nat) (hn : n < 4294967296) (h : RdAt W w rb V vw (x :: Lib.decDigits n :: ws) T) (hl : ws.length ≤ 20000) :
    Calls Tryz.prog 77 #[.pointer (some ⟨rb, 0, none⟩)] w fun e w' => e = .returned (.agg #[.int .i64 o.2, .int .i64 (n : Int)]) ∧ Hid (RdP W w rb V ws T w') := by
  obtain ⟨i, hi, hx, ho⟩ := f.ix
  exact slot_ok n hn h f.ok i hi hx o ho hk hl
set_option maxRecDepth 100000 in
set_option maxHeartbeats 2000000 in
theorem bind_ok {y z : List UInt8} (l c : Int) (fy : Fnd T y (9, l)) (fz : Fnd T z (8, c)) (a : Nat) (ha : a < 4294967296) (h : RdAt W w rb V vw [y, z, Lib.decDigits a] T) (hl : T.ir.length ≤ 1000) :
    Calls Tryz.prog 40 #[.pointer (some ⟨rb, 0, none⟩)] w fun e w' => e = .returned (.tuple #[]) ∧ Hid (RdX W rb V [] { T with ir := T.ir ++ [⟨l, c, (a : Int)⟩] } w') := by
  have HX0 := Vx.hid h
  have HFY := Vx.hid fy
  have HFZ := Vx.hid fz
  have HLN : Hid (T.ir.length + 1 ≤ 10000000) := by show _ ≤ _; omega
  have HA := Vx.hid ha
  have hwr : IntKind.u32.wrap (a : Int) = (a : Int) := by rw [IntKind.wrap_u32]; omega
  clear h fy fz hl ha
  go_enter Tryz.func40, Tryz.ntmps40
  obtain ⟨w1, hw1⟩ : ∃ w9, w9 = w.alloc (.cells #[.int .i64 9] 3) := ⟨_, rfl⟩
  have ho1 : Only (fun _ => False) w w1 := by rw [hw1]; exact (Only.refl _ _).alloc _
  have HX1 := Vx.hid (HX0.out.quiet ho1)
  obtain ⟨nb1, hn1⟩ : ∃ n9, n9 = w.heap.size := ⟨_, rfl⟩
  have HK1 : Hid (w1.heap[nb1]? = some (.cells #[.int .i64 9] 3 (0, 0))) := by show _ = _; rw [hw1, hn1]; exact heap_alloc_last _ _
  clear ho1 HX0
  go_wp2_with fail
  rw [← hw1, ← hn1]
  clear hw1 hn1
  refine (obj_k HFY.out 9 rfl HX1.out HK1.out (by simp)).mono ?_
  rintro e w2 ⟨rfl, H2⟩
  obtain ⟨hz2, vw2, h2⟩ := H2.out
  have HX2 := Vx.hid h2
  clear h2 H2 hz2 HX1 HK1
  obtain ⟨w3, hw3⟩ : ∃ w9, w9 = w2.alloc (.cells #[.int .i64 9, .int .i64 l] 46) := ⟨_, rfl⟩
  have ho3 : Only (fun _ => False) w2 w3 := by rw [hw3]; exact (Only.refl _ _).alloc _
  have HX3 := Vx.hid (HX2.out.quiet ho3)
  obtain ⟨nb3, hn3⟩ : ∃ n9, n9 = w2.heap.size := ⟨_, rfl⟩
  have HP3 : Hid (w3.heap[nb3]? = some (.cells #[.int .i64 9, .int .i64 l] 46 (0, 0))) := by show _ = _; rw [hw3, hn3]; exact heap_alloc_last _ _
  clear ho3 HX2
  obtain ⟨w4, hw4⟩ : ∃ w9, w9 = w3.alloc (.cells #[.int .i64 8] 3) := ⟨_, rfl⟩
  have ho4 : Only (fun _ => False) w3 w4 := by rw [hw4]; exact (Only.refl _ _).alloc _
  have HX4 := Vx.hid (HX3.out.quiet ho4)
  have HP4 : Hid (w4.heap[nb3]? = some (.cells #[.int .i64 9, .int .i64 l] 46 (0, 0))) := keepB ho4 HP3.out (fun h => h)
  clear HP3
  have hs4 : w3.heap.size = nb3 + 1 := by rw [hw3, hn3]; simp
  obtain ⟨nb4, hn4⟩ : ∃ n9, n9 = nb3 + 1 := ⟨_, rfl⟩
  have HK4 : Hid (w4.heap[nb4]? = some (.cells #[.int .i64 8] 3 (0, 0))) := by show _ = _; rw [hw4, hn4, ← hs4]; exact heap_alloc_last _ _
  clear ho4 HX3 hs4
  go_wp2_with fail
  rw [← hw3, ← hw4, ← hn3, ← hn4]
  clear hw3 hn3 hw4 hn4
  refine (obj_k HFZ.out 8 rfl HX4.out HK4.out (by simp)).mono ?_
  rintro e w5 ⟨rfl, H5⟩
  obtain ⟨hz5, vw5, h5⟩ := H5.out
  have HX5 := Vx.hid h5
  have HP5 : Hid (w5.heap[nb3]? = some (.cells #[.int .i64 9, .int .i64 l] 46 (0, 0))) := keepB hz5 HP4.out (tag_ne HP4.out HX4.out.row (by decide))
  clear HP4
  clear h5 H5 hz5 HX4 HK4
  obtain ⟨w6, hw6⟩ : ∃ w9, w9 = w5.alloc (.cells #[.int .i64 8, .int .i64 c] 46) := ⟨_, rfl⟩
  have ho6 : Only (fun _ => False) w5 w6 := by rw [hw6]; exact (Only.refl _ _).alloc _
  have HX6 := Vx.hid (HX5.out.quiet ho6)
  have HP6 : Hid (w6.heap[nb3]? = some (.cells #[.int .i64 9, .int .i64 l] 46 (0, 0))) := keepB ho6 HP5.out (fun h => h)
  clear HP5
  obtain ⟨nb6, hn6⟩ : ∃ n9, n9 = w5.heap.size := ⟨_, rfl⟩
  have HR6 : Hid (w6.heap[nb6]? = some (.cells #[.int .i64 8, .int .i64 c] 46 (0, 0))) := by show _ = _; rw [hw6, hn6]; exact heap_alloc_last _ _
  clear ho6 HX5
  go_wp2_with fail
  rw [← hw6, ← hn6]
  clear hw6 hn6
  refine (number_ok a HA.out HX6.out (by simp)).mono ?_
  rintro e w7 ⟨rfl, H7⟩
  obtain ⟨hz7, vw7, h7⟩ := H7.out
  have HX7 := Vx.hid h7
  have HP7 : Hid (w7.heap[nb3]? = some (.cells #[.int .i64 9, .int .i64 l] 46 (0, 0))) := keepB hz7 HP6.out (tag_ne HP6.out HX6.out.row (by decide))
  clear HP6
  have HR7 : Hid (w7.heap[nb6]? = some (.cells #[.int .i64 8, .int .i64 c] 46 (0, 0))) := keepB hz7 HR6.out (tag_ne HR6.out HX6.out.row (by decide))
  clear HR6
  clear h7 H7 hz7 HX6
  obtain ⟨pt, ct, hvt, _⟩ := HX7.out.li.form
  obtain ⟨nt, hnt⟩ : ∃ nt, nt = T.ir.length := ⟨_, rfl⟩
  rw [← hnt] at hvt
  clear hnt
  have HVT := Vx.hid hvt
  clear hvt
  have HXD := Vx.hid (HX7.out.quiet ((Only.refl _ w7).drew))
  obtain ⟨wA, hwA⟩ : ∃ wA, wA = (w7.alloc (.cells #[.int .i64 l, .int .i64 c, .int .u32 (a : Int)] 93)).drew := ⟨_, rfl⟩
  have hoA : Only (fun _ => False) w7 wA := by rw [hwA]; exact ((Only.refl _ _).alloc _).drew
  have HXA := Vx.hid (HX7.out.quiet hoA)
  have HYD : Hid (∀ j u, (irL.cf ⟨l, c, (a : Int)⟩)[j]? = some u → wA.cell? ⟨w7.heap.size, j, none⟩ = some u) := fun j u hj => by
    have hl : wA.heap[w7.heap.size]? = some (.cells #[.int .i64 l, .int .i64 c, .int .u32 (a : Int)] 93 (0, 0)) := by rw [hwA]; exact heap_alloc_last _ _
    rw [cell_of_row _ _ j _ _ (0, 0) hl]
    simpa [irL] using hj
  have HBA : Hid (W.heap.size ≤ wA.heap.size) := HXA.out.be.size
  have HCE : Hid (∀ wv, RdAt W wv rb V vw7 [] T → wv.cell? ⟨rb, 14, none⟩ = some (.slice pt nt ct)) := fun wv hv => by
    have h9 := (cell_of_row _ _ 14 _ _ (0, 0) hv.row).trans rfl
    exact h9.trans (congrArg some HVT.out)
  have HP7A := Vx.hid (keepB hoA HP7.out (fun h => h))
  have HR7A := Vx.hid (keepB hoA HR7.out (fun h => h))
  have HS0 : Hid (w7.drew.cell? ⟨rb, 14, none⟩ = some (.slice pt nt ct) ∧ w7.drew.cell? ⟨nb3, 1, none⟩ = some (.int .i64 l) ∧ w7.drew.cell? ⟨nb6, 1, none⟩ = some (.int .i64 c)) := ⟨HCE.out _ HXD.out, (cell_of_row _ _ 1 _ _ (0, 0) HP7.out).trans rfl, (cell_of_row _ _ 1 _ _ (0, 0) HR7.out).trans rfl⟩
  have HSA : Hid (wA.cell? ⟨rb, 14, none⟩ = some (.slice pt nt ct) ∧ wA.cell? ⟨nb3, 1, none⟩ = some (.int .i64 l) ∧ wA.cell? ⟨nb6, 1, none⟩ = some (.int .i64 c)) := ⟨HCE.out _ HXA.out, (cell_of_row _ _ 1 _ _ (0, 0) HP7A.out).trans rfl, (cell_of_row _ _ 1 _ _ (0, 0) HR7A.out).trans rfl⟩
  clear hoA
  go_upto_region 3 with fail
  refine Vx.wp_region_last (S := (fun wv => wv.cell? ⟨rb, 14, none⟩ = some (.slice pt nt ct) ∧ wv.cell? ⟨nb3, 1, none⟩ = some (.int .i64 l) ∧ wv.cell? ⟨nb6, 1, none⟩ = some (.int .i64 c))) 20 (by kernel_rfl) (by simp only [List.getElem?_toArray, List.getElem?_cons_zero, List.getElem?_cons_succ]; rfl) (by kernel_rfl) ?_
  simp only [Vx.offA, Vx.offO, List.setIfInBounds_toArray, List.set_cons_zero, List.set_cons_succ, List.size_toArray, List.length_cons, List.length_nil, Nat.zero_add, Nat.reduceAdd]
  refine wpAnyH_take (i := 0) (v := ?v3_0) (by simp only [List.getElem?_toArray, List.getElem?_cons_zero, List.getElem?_cons_succ]; rfl) (by kernel_rfl) (by kernel_rfl) (by kernel_rfl) (by exact fun _ _ _ h => h) (Or.inl ⟨by rfl, ?hy3_0⟩) HS0.out ?_
  case hy3_0 => (intro wq hSw; (try dsimp only at hSw); go_simp; try (with_reducible rfl))
  try simp only [Act.put, List.setIfInBounds_toArray, List.set_cons_zero, List.set_cons_succ]
  refine wpAnyH_take (i := 1) (v := ?v3_1) (by simp only [List.getElem?_toArray, List.getElem?_cons_zero, List.getElem?_cons_succ]; rfl) (by kernel_rfl) (by kernel_rfl) (by kernel_rfl) (by exact fun _ _ _ h => h) (Or.inl ⟨by rfl, ?hy3_1⟩) HS0.out ?_
  case hy3_1 => (intro wq hSw; (try dsimp only at hSw); go_simp; try (with_reducible rfl))
  try simp only [Act.put, List.setIfInBounds_toArray, List.set_cons_zero, List.set_cons_succ]
  refine wpAnyH_take (i := 2) (v := ?v3_2) (by simp only [List.getElem?_toArray, List.getElem?_cons_zero, List.getElem?_cons_succ]; rfl) (by kernel_rfl) (by kernel_rfl) (by kernel_rfl) (by exact fun _ _ _ h => h) (Or.inl ⟨by rfl, ?hy3_2⟩) HS0.out ?_
  case hy3_2 => (intro wq hSw; (try dsimp only at hSw); go_simp; try (with_reducible rfl))
  try simp only [Act.put, List.setIfInBounds_toArray, List.set_cons_zero, List.set_cons_succ]
  refine wpAnyH_take (i := 3) (v := ?v3_3) (by simp only [List.getElem?_toArray, List.getElem?_cons_zero, List.getElem?_cons_succ]; rfl) (by kernel_rfl) (by kernel_rfl) (by kernel_rfl) (by exact fun _ _ _ h => h) (Or.inl ⟨by rfl, ?hy3_3⟩) HS0.out ?_
  case hy3_3 => (intro wq hSw; (try dsimp only at hSw); go_simp; try (with_reducible rfl))
  try simp only [Act.put, List.setIfInBounds_toArray, List.set_cons_zero, List.set_cons_succ]
  refine wpAnyH_take (i := 4) (v := ?v3_4) (by simp only [List.getElem?_toArray, List.getElem?_cons_zero, List.getElem?_cons_succ]; rfl) (by kernel_rfl) (by kernel_rfl) (by kernel_rfl) (by exact fun _ _ _ h => h) (Or.inl ⟨by rfl, ?hy3_4⟩) HS0.out ?_
  case hy3_4 => (intro wq hSw; (try dsimp only at hSw); go_simp; try (with_reducible rfl))
  try simp only [Act.put, List.setIfInBounds_toArray, List.set_cons_zero, List.set_cons_succ]
  refine wpAnyH_take (i := 5) (v := ?v3_5) (by simp only [List.getElem?_toArray, List.getElem?_cons_zero, List.getElem?_cons_succ]; rfl) (by kernel_rfl) (by kernel_rfl) (by kernel_rfl) (by exact fun _ _ _ h => h) (Or.inl ⟨by rfl, ?hy3_5⟩) HS0.out ?_
  case hy3_5 => (intro wq hSw; (try dsimp only at hSw); go_simp; try (with_reducible rfl))
  try simp only [Act.put, List.setIfInBounds_toArray, List.set_cons_zero, List.set_cons_succ]
  refine wpAnyH_take (i := 6) (v := ?v3_6) (by simp only [List.getElem?_toArray, List.getElem?_cons_zero, List.getElem?_cons_succ]; rfl) (by kernel_rfl) (by kernel_rfl) (by kernel_rfl) (by exact fun _ _ _ h => h) (Or.inl ⟨by rfl, ?hy3_6⟩) HS0.out ?_
  case hy3_6 => (intro wq hSw; (try dsimp only at hSw); go_simp; try (with_reducible rfl))
  try simp only [Act.put, List.setIfInBounds_toArray, List.set_cons_zero, List.set_cons_succ]
  refine wpAnyH_take (i := 7) (v := ?v3_7) (by simp only [List.getElem?_toArray, List.getElem?_cons_zero, List.getElem?_cons_succ]; rfl) (by kernel_rfl) (by kernel_rfl) (by kernel_rfl) (by exact fun _ _ _ h => h) (Or.inl ⟨by rfl, ?hy3_7⟩) HS0.out ?_
  case hy3_7 => (intro wq hSw; (try dsimp only at hSw); go_simp; try (with_reducible rfl))
  try simp only [Act.put, List.setIfInBounds_toArray, List.set_cons_zero, List.set_cons_succ]
  refine wpAnyH_take (i := 8) (v := ?v3_8) (by simp only [List.getElem?_toArray, List.getElem?_cons_zero, List.getElem?_cons_succ]; rfl) (by kernel_rfl) (by kernel_rfl) (by kernel_rfl) (by exact fun _ _ _ h => h) (Or.inl ⟨by rfl, ?hy3_8⟩) HS0.out ?_
  case hy3_8 => (intro wq hSw; (try dsimp only at hSw); go_simp; try (with_reducible rfl))
  try simp only [Act.put, List.setIfInBounds_toArray, List.set_cons_zero, List.set_cons_succ]
  refine wpAnyH_take (i := 9) (v := ?v3_9) (by simp only [List.getElem?_toArray, List.getElem?_cons_zero, List.getElem?_cons_succ]; rfl) (by kernel_rfl) (by kernel_rfl) (by kernel_rfl) (by exact fun _ _ _ h => h) (Or.inl ⟨by rfl, ?hy3_9⟩) HS0.out ?_
  case hy3_9 => (intro wq hSw; (try dsimp only at hSw); go_simp; try (with_reducible rfl))
  try simp only [Act.put, List.setIfInBounds_toArray, List.set_cons_zero, List.set_cons_succ]
  refine wpAnyH_take (i := 10) (v := ?v3_10) (by simp only [List.getElem?_toArray, List.getElem?_cons_zero, List.getElem?_cons_succ]; rfl) (by kernel_rfl) (by kernel_rfl) (by kernel_rfl) (by exact fun _ _ _ h => h) (Or.inl ⟨by rfl, ?hy3_10⟩) HS0.out ?_
  case hy3_10 => (intro wq hSw; (try dsimp only at hSw); go_simp; try (with_reducible rfl))
  try simp only [Act.put, List.setIfInBounds_toArray, List.set_cons_zero, List.set_cons_succ]
  refine wpAnyH_take (i := 11) (v := ?v3_11) (by simp only [List.getElem?_toArray, List.getElem?_cons_zero, List.getElem?_cons_succ]; rfl) (by kernel_rfl) (by kernel_rfl) (by kernel_rfl) (by exact fun _ _ _ h => h) (Or.inl ⟨by rfl, ?hy3_11⟩) HS0.out ?_
  case hy3_11 => (intro wq hSw; (try dsimp only at hSw); go_simp; try (with_reducible rfl))
  try simp only [Act.put, List.setIfInBounds_toArray, List.set_cons_zero, List.set_cons_succ]
  refine wpAnyH_take (i := 12) (v := ?v3_12) (by simp only [List.getElem?_toArray, List.getElem?_cons_zero, List.getElem?_cons_succ]; rfl) (by kernel_rfl) (by kernel_rfl) (by kernel_rfl) (by exact fun _ _ _ h => h) (Or.inl ⟨by rfl, ?hy3_12⟩) HS0.out ?_
  case hy3_12 => (intro wq hSw; (try dsimp only at hSw); go_simp; try (with_reducible rfl))
  try simp only [Act.put, List.setIfInBounds_toArray, List.set_cons_zero, List.set_cons_succ]
  refine wpAnyH_take (i := 13) (v := ?v3_13) (by simp only [List.getElem?_toArray, List.getElem?_cons_zero, List.getElem?_cons_succ]; rfl) (by kernel_rfl) (by kernel_rfl) (by kernel_rfl) (by exact fun _ _ _ h => h) (Or.inl ⟨by rfl, ?hy3_13⟩) HS0.out ?_
  case hy3_13 => (intro wq hSw; (try dsimp only at hSw); go_simp; try (with_reducible rfl))
  try simp only [Act.put, List.setIfInBounds_toArray, List.set_cons_zero, List.set_cons_succ]
  refine wpAnyH_ready (rs := [14]) (by kernel_rfl) (by simp) ?_
  refine AllReadyH.cons (by simp only [List.getElem?_toArray, List.getElem?_cons_zero, List.getElem?_cons_succ]; rfl) (fun K hK => ?_) AllReadyH.nil
  go_simp
  rw [← hwA]
  refine hK.out _ _ HSA.out (fun _ => ?_)
  clear hK K
  try simp only [Act.put, List.setIfInBounds_toArray, List.set_cons_zero, List.set_cons_succ]
  refine wpAnyH_ready (rs := [15]) (by kernel_rfl) (by simp) ?_
  refine AllReadyH.cons (by simp only [List.getElem?_toArray, List.getElem?_cons_zero, List.getElem?_cons_succ]; rfl) (fun K hK => ?_) AllReadyH.nil
  refine Vx.step_append_one tKi rfl (.tmp 19) (.tmp 27) rfl W.heap.size (.slice pt nt ct) T.ir (by simp [Act.eval]) (by rw [← HVT.out]; exact HXA.out.li) ⟨l, c, (a : Int)⟩ w7.heap.size 1 1 (by simp [Act.eval]) HYD.out HLN.out HBA.out ?_
  intro v6 w6 hv1 hv2 hv3
  rw [← HVT.out] at hv2
  obtain ⟨⟨pq, mq, cq, rfl⟩, ⟨qx, hq1⟩, hq2, hxc, HQ5⟩ := HXA.out.st_i v6 w6 _ hv1 hv2
  have HP7B := Vx.hid (keepB hv2 HP7A.out (fun h9 => by obtain ⟨cur, h8⟩ := own_tag HXA.out.li h9; exact tag_ne h8 HP7A.out (by decide) rfl))
  have HR7B := Vx.hid (keepB hv2 HR7A.out (fun h9 => by obtain ⟨cur, h8⟩ := own_tag HXA.out.li h9; exact tag_ne h8 HR7A.out (by decide) rfl))
  have HS6 : Hid (w6.cell? ⟨rb, 14, none⟩ = some (.slice pt nt ct) ∧ w6.cell? ⟨nb3, 1, none⟩ = some (.int .i64 l) ∧ w6.cell? ⟨nb6, 1, none⟩ = some (.int .i64 c)) := ⟨(hxc 14).trans HSA.out.1, (cell_of_row _ _ 1 _ _ (0, 0) HP7B.out).trans rfl, (cell_of_row _ _ 1 _ _ (0, 0) HR7B.out).trans rfl⟩
  clear hxc hv1 hv2 hv3
  refine hK.out _ _ HS6.out (fun _ => ?_)
  clear hK K
  try simp only [Act.put, List.setIfInBounds_toArray, List.set_cons_zero, List.set_cons_succ]
  refine wpAnyH_take (i := 16) (v := ?v3_16) (by simp only [List.getElem?_toArray, List.getElem?_cons_zero, List.getElem?_cons_succ]; rfl) (by kernel_rfl) (by kernel_rfl) (by kernel_rfl) (by exact fun _ _ _ h => h) (Or.inl ⟨by rfl, ?hy3_16⟩) HS6.out ?_
  case hy3_16 => (intro wq hSw; (try dsimp only at hSw); go_simp; try (with_reducible rfl))
  try simp only [Act.put, List.setIfInBounds_toArray, List.set_cons_zero, List.set_cons_succ]
  refine wpAnyH_take (i := 17) (v := ?v3_17) (by simp only [List.getElem?_toArray, List.getElem?_cons_zero, List.getElem?_cons_succ]; rfl) (by kernel_rfl) (by kernel_rfl) (by kernel_rfl) (by exact fun _ _ _ h => h) (Or.inl ⟨by rfl, ?hy3_17⟩) HS6.out ?_
  case hy3_17 => (intro wq hSw; (try dsimp only at hSw); go_simp; try (with_reducible rfl))
  try simp only [Act.put, List.setIfInBounds_toArray, List.set_cons_zero, List.set_cons_succ]
  refine wpAnyH_take (i := 18) (v := ?v3_18) (by simp only [List.getElem?_toArray, List.getElem?_cons_zero, List.getElem?_cons_succ]; rfl) (by kernel_rfl) (by kernel_rfl) (by kernel_rfl) (by exact fun _ _ _ h => h) (Or.inl ⟨by rfl, ?hy3_18⟩) HS6.out ?_
  case hy3_18 => (intro wq hSw; (try dsimp only at hSw); go_simp; try (with_reducible rfl))
  try simp only [Act.put, List.setIfInBounds_toArray, List.set_cons_zero, List.set_cons_succ]
  refine wpAnyH_take (i := 19) (v := ?v3_19) (by simp only [List.getElem?_toArray, List.getElem?_cons_zero, List.getElem?_cons_succ]; rfl) (by kernel_rfl) (by kernel_rfl) (by kernel_rfl) (by exact fun _ _ _ h => h) (Or.inl ⟨by rfl, ?hy3_19⟩) HS6.out ?_
  case hy3_19 => (intro wq hSw; (try dsimp only at hSw); go_simp; try (with_reducible rfl))
  try simp only [Act.put, List.setIfInBounds_toArray, List.set_cons_zero, List.set_cons_succ]
  refine wpAnyH_take (i := 20) (v := undef) (by simp only [List.getElem?_toArray, List.getElem?_cons_zero, List.getElem?_cons_succ]; rfl) (by kernel_rfl) (by kernel_rfl) (by kernel_rfl) (by exact fun _ _ _ h => h) (Or.inr ⟨by rfl, rfl⟩) HS6.out ?_
  refine wpAnyH_done (by kernel_rfl) ?_ _
  simp only [Vx.upTo]
  clear hwA HYD HBA HXA HXD HS0 HSA HS6 HCE
  go_wp2_with fail
  first | go_end0 | refine bodyPost_ret (results_none rfl _ _ _) rfl ?_
  exact ⟨rfl, _, _, HQ5.out, rfl, rfl, rfl, rfl⟩
set_option maxRecDepth 100000 in
set_option maxHeartbeats 2000000 in
theorem mapping_ok {y z : List UInt8} (k bx rt : Int) (fy : Fnd T y (k, bx)) (hk : k = 5 ∨ k = 6) (fz : Fnd T z (4, rt)) (i a r : Nat) (hi : i < 4294967296) (ha : a < 4294967296) (hr : r < 8) (h : RdAt W w rb V vw [y, Lib.decDigits i, z, Lib.decDigits a, letF r] T) (hl : T.mp.length ≤ 1000) :
    Calls Tryz.prog 38 #[.pointer (some ⟨rb, 0, none⟩)] w fun e w' => e = .returned (.tuple #[]) ∧ Hid (RdX W rb V [] { T with mp := T.mp ++ [⟨bx, (i : Int), rt, (a : Int), (r : Int)⟩] } w') := by
  have HX0 := Vx.hid h
  have HFY : Hid (Fnd T y (k, bx) ∧ ((k, bx).1 = 5 ∨ (k, bx).1 = 6) ∧ i < 4294967296) := ⟨fy, hk, hi⟩
  have HFZ := Vx.hid fz
  have HLN : Hid (T.mp.length + 1 ≤ 10000000) := by show _ ≤ _; omega
  have HA := Vx.hid ha
  have HR := Vx.hid hr
  have hwr : IntKind.u32.wrap (a : Int) = (a : Int) := by rw [IntKind.wrap_u32]; omega
  clear h fy fz hl ha hk hi hr
  go_enter Tryz.func38, Tryz.ntmps38
  go_wp2_with fail
  refine (slot_f HFY.out.1 HFY.out.2.1 i HFY.out.2.2 HX0.out (by simp)).mono ?_
  rintro e w1 ⟨rfl, H1⟩
  obtain ⟨hz1, vw1, h1⟩ := H1.out
  have HX1 := Vx.hid h1
  clear h1 H1 hz1 HX0
  obtain ⟨w2, hw2⟩ : ∃ w9, w9 = w1.alloc (.cells #[.int .i64 bx, .int .i64 (i : Int)] 80) := ⟨_, rfl⟩
  have ho2 : Only (fun _ => False) w1 w2 := by rw [hw2]; exact (Only.refl _ _).alloc _
  have HX2 := Vx.hid (HX1.out.quiet ho2)
  obtain ⟨nb2, hn2⟩ : ∃ n9, n9 = w1.heap.size := ⟨_, rfl⟩
  have HP2 : Hid (w2.heap[nb2]? = some (.cells #[.int .i64 bx, .int .i64 (i : Int)] 80 (0, 0))) := by show _ = _; rw [hw2, hn2]; exact heap_alloc_last _ _
  clear ho2 HX1
  obtain ⟨w3, hw3⟩ : ∃ w9, w9 = w2.alloc (.cells #[.int .i64 4] 3) := ⟨_, rfl⟩
  have ho3 : Only (fun _ => False) w2 w3 := by rw [hw3]; exact (Only.refl _ _).alloc _
  have HX3 := Vx.hid (HX2.out.quiet ho3)
  have HP3 : Hid (w3.heap[nb2]? = some (.cells #[.int .i64 bx, .int .i64 (i : Int)] 80 (0, 0))) := keepB ho3 HP2.out (fun h => h)
  clear HP2
  have hs3 : w2.heap.size = nb2 + 1 := by rw [hw2, hn2]; simp
  obtain ⟨nb3, hn3⟩ : ∃ n9, n9 = nb2 + 1 := ⟨_, rfl⟩
  have HK3 : Hid (w3.heap[nb3]? = some (.cells #[.int .i64 4] 3 (0, 0))) := by show _ = _; rw [hw3, hn3, ← hs3]; exact heap_alloc_last _ _
  clear ho3 HX2 hs3
  go_wp2_with fail
  rw [← hw2, ← hw3, ← hn2, ← hn3]
  clear hw2 hn2 hw3 hn3
  refine (obj_k HFZ.out 4 rfl HX3.out HK3.out (by simp)).mono ?_
  rintro e w4 ⟨rfl, H4⟩
  obtain ⟨hz4, vw4, h4⟩ := H4.out
  have HX4 := Vx.hid h4
  have HP4 : Hid (w4.heap[nb2]? = some (.cells #[.int .i64 bx, .int .i64 (i : Int)] 80 (0, 0))) := keepB hz4 HP3.out (tag_ne HP3.out HX3.out.row (by decide))
  clear HP3
  clear h4 H4 hz4 HX3 HK3
  obtain ⟨w5, hw5⟩ : ∃ w9, w9 = w4.alloc (.cells #[.int .i64 4, .int .i64 rt] 46) := ⟨_, rfl⟩
  have ho5 : Only (fun _ => False) w4 w5 := by rw [hw5]; exact (Only.refl _ _).alloc _
  have HX5 := Vx.hid (HX4.out.quiet ho5)
  have HP5 : Hid (w5.heap[nb2]? = some (.cells #[.int .i64 bx, .int .i64 (i : Int)] 80 (0, 0))) := keepB ho5 HP4.out (fun h => h)
  clear HP4
  obtain ⟨nb5, hn5⟩ : ∃ n9, n9 = w4.heap.size := ⟨_, rfl⟩
  have HQ5 : Hid (w5.heap[nb5]? = some (.cells #[.int .i64 4, .int .i64 rt] 46 (0, 0))) := by show _ = _; rw [hw5, hn5]; exact heap_alloc_last _ _
  clear ho5 HX4
  go_wp2_with fail
  rw [← hw5, ← hn5]
  clear hw5 hn5
  refine (number_ok a HA.out HX5.out (by simp)).mono ?_
  rintro e w6 ⟨rfl, H6⟩
  obtain ⟨hz6, vw6, h6⟩ := H6.out
  have HX6 := Vx.hid h6
  have HP6 : Hid (w6.heap[nb2]? = some (.cells #[.int .i64 bx, .int .i64 (i : Int)] 80 (0, 0))) := keepB hz6 HP5.out (tag_ne HP5.out HX5.out.row (by decide))
  clear HP5
  have HQ6 : Hid (w6.heap[nb5]? = some (.cells #[.int .i64 4, .int .i64 rt] 46 (0, 0))) := keepB hz6 HQ5.out (tag_ne HQ5.out HX5.out.row (by decide))
  clear HQ5
  clear h6 H6 hz6 HX5
  go_wp2_with fail
  refine (rights_ok r HR.out HX6.out (by simp)).mono ?_
  rintro e w7 ⟨rfl, H7⟩
  obtain ⟨hz7, vw7, h7⟩ := H7.out
  have HX7 := Vx.hid h7
  have HP7 : Hid (w7.heap[nb2]? = some (.cells #[.int .i64 bx, .int .i64 (i : Int)] 80 (0, 0))) := keepB hz7 HP6.out (tag_ne HP6.out HX6.out.row (by decide))
  clear HP6
  have HQ7 : Hid (w7.heap[nb5]? = some (.cells #[.int .i64 4, .int .i64 rt] 46 (0, 0))) := keepB hz7 HQ6.out (tag_ne HQ6.out HX6.out.row (by decide))
  clear HQ6
  clear h7 H7 hz7 HX6
  obtain ⟨pt, ct, hvt, _⟩ := HX7.out.lm.form
  obtain ⟨nt, hnt⟩ : ∃ nt, nt = T.mp.length := ⟨_, rfl⟩
  rw [← hnt] at hvt
  clear hnt
  have HVT := Vx.hid hvt
  clear hvt
  have HXD := Vx.hid (HX7.out.quiet ((Only.refl _ w7).drew))
  obtain ⟨wA, hwA⟩ : ∃ wA, wA = (w7.alloc (.cells #[.int .i64 bx, .int .i64 (i : Int), .int .i64 rt, .int .u32 (a : Int), .int .i64 (r : Int)] 86)).drew := ⟨_, rfl⟩
  have hoA : Only (fun _ => False) w7 wA := by rw [hwA]; exact ((Only.refl _ _).alloc _).drew
  have HXA := Vx.hid (HX7.out.quiet hoA)
  have HYD : Hid (∀ j u, (mqL.cf ⟨bx, (i : Int), rt, (a : Int), (r : Int)⟩)[j]? = some u → wA.cell? ⟨w7.heap.size, j, none⟩ = some u) := fun j u hj => by
    have hl : wA.heap[w7.heap.size]? = some (.cells #[.int .i64 bx, .int .i64 (i : Int), .int .i64 rt, .int .u32 (a : Int), .int .i64 (r : Int)] 86 (0, 0)) := by rw [hwA]; exact heap_alloc_last _ _
    rw [cell_of_row _ _ j _ _ (0, 0) hl]
    simpa [mqL] using hj
  have HBA : Hid (W.heap.size ≤ wA.heap.size) := HXA.out.be.size
  have HCE : Hid (∀ wv, RdAt W wv rb V vw7 [] T → wv.cell? ⟨rb, 12, none⟩ = some (.slice pt nt ct)) := fun wv hv => by
    have h9 := (cell_of_row _ _ 12 _ _ (0, 0) hv.row).trans rfl
    exact h9.trans (congrArg some HVT.out)
  have HP7A := Vx.hid (keepB hoA HP7.out (fun h => h))
  have HQ7A := Vx.hid (keepB hoA HQ7.out (fun h => h))
  have HS0 : Hid (w7.drew.cell? ⟨rb, 12, none⟩ = some (.slice pt nt ct) ∧ w7.drew.cell? ⟨nb2, 0, none⟩ = some (.int .i64 bx) ∧ w7.drew.cell? ⟨nb2, 1, none⟩ = some (.int .i64 (i : Int)) ∧ w7.drew.cell? ⟨nb5, 1, none⟩ = some (.int .i64 rt)) := ⟨HCE.out _ HXD.out, (cell_of_row _ _ 0 _ _ (0, 0) HP7.out).trans rfl, (cell_of_row _ _ 1 _ _ (0, 0) HP7.out).trans rfl, (cell_of_row _ _ 1 _ _ (0, 0) HQ7.out).trans rfl⟩
  have HSA : Hid (wA.cell? ⟨rb, 12, none⟩ = some (.slice pt nt ct) ∧ wA.cell? ⟨nb2, 0, none⟩ = some (.int .i64 bx) ∧ wA.cell? ⟨nb2, 1, none⟩ = some (.int .i64 (i : Int)) ∧ wA.cell? ⟨nb5, 1, none⟩ = some (.int .i64 rt)) := ⟨HCE.out _ HXA.out, (cell_of_row _ _ 0 _ _ (0, 0) HP7A.out).trans rfl, (cell_of_row _ _ 1 _ _ (0, 0) HP7A.out).trans rfl, (cell_of_row _ _ 1 _ _ (0, 0) HQ7A.out).trans rfl⟩
  clear hoA
  go_upto_region 4 with fail
  refine Vx.wp_region_last (S := (fun wv => wv.cell? ⟨rb, 12, none⟩ = some (.slice pt nt ct) ∧ wv.cell? ⟨nb2, 0, none⟩ = some (.int .i64 bx) ∧ wv.cell? ⟨nb2, 1, none⟩ = some (.int .i64 (i : Int)) ∧ wv.cell? ⟨nb5, 1, none⟩ = some (.int .i64 rt))) 20 (by kernel_rfl) (by simp only [List.getElem?_toArray, List.getElem?_cons_zero, List.getElem?_cons_succ]; rfl) (by kernel_rfl) ?_
  simp only [Vx.offA, Vx.offO, List.setIfInBounds_toArray, List.set_cons_zero, List.set_cons_succ, List.size_toArray, List.length_cons, List.length_nil, Nat.zero_add, Nat.reduceAdd]
  refine wpAnyH_take (i := 0) (v := ?v4_0) (by simp only [List.getElem?_toArray, List.getElem?_cons_zero, List.getElem?_cons_succ]; rfl) (by kernel_rfl) (by kernel_rfl) (by kernel_rfl) (by exact fun _ _ _ h => h) (Or.inl ⟨by rfl, ?hy4_0⟩) HS0.out ?_
  case hy4_0 => (intro wq hSw; (try dsimp only at hSw); go_simp; try (with_reducible rfl))
  try simp only [Act.put, List.setIfInBounds_toArray, List.set_cons_zero, List.set_cons_succ]
  refine wpAnyH_take (i := 1) (v := ?v4_1) (by simp only [List.getElem?_toArray, List.getElem?_cons_zero, List.getElem?_cons_succ]; rfl) (by kernel_rfl) (by kernel_rfl) (by kernel_rfl) (by exact fun _ _ _ h => h) (Or.inl ⟨by rfl, ?hy4_1⟩) HS0.out ?_
  case hy4_1 => (intro wq hSw; (try dsimp only at hSw); go_simp; try (with_reducible rfl))
  try simp only [Act.put, List.setIfInBounds_toArray, List.set_cons_zero, List.set_cons_succ]
  refine wpAnyH_take (i := 2) (v := ?v4_2) (by simp only [List.getElem?_toArray, List.getElem?_cons_zero, List.getElem?_cons_succ]; rfl) (by kernel_rfl) (by kernel_rfl) (by kernel_rfl) (by exact fun _ _ _ h => h) (Or.inl ⟨by rfl, ?hy4_2⟩) HS0.out ?_
  case hy4_2 => (intro wq hSw; (try dsimp only at hSw); go_simp; try (with_reducible rfl))
  try simp only [Act.put, List.setIfInBounds_toArray, List.set_cons_zero, List.set_cons_succ]
  refine wpAnyH_take (i := 3) (v := ?v4_3) (by simp only [List.getElem?_toArray, List.getElem?_cons_zero, List.getElem?_cons_succ]; rfl) (by kernel_rfl) (by kernel_rfl) (by kernel_rfl) (by exact fun _ _ _ h => h) (Or.inl ⟨by rfl, ?hy4_3⟩) HS0.out ?_
  case hy4_3 => (intro wq hSw; (try dsimp only at hSw); go_simp; try (with_reducible rfl))
  try simp only [Act.put, List.setIfInBounds_toArray, List.set_cons_zero, List.set_cons_succ]
  refine wpAnyH_take (i := 4) (v := ?v4_4) (by simp only [List.getElem?_toArray, List.getElem?_cons_zero, List.getElem?_cons_succ]; rfl) (by kernel_rfl) (by kernel_rfl) (by kernel_rfl) (by exact fun _ _ _ h => h) (Or.inl ⟨by rfl, ?hy4_4⟩) HS0.out ?_
  case hy4_4 => (intro wq hSw; (try dsimp only at hSw); go_simp; try (with_reducible rfl))
  try simp only [Act.put, List.setIfInBounds_toArray, List.set_cons_zero, List.set_cons_succ]
  refine wpAnyH_take (i := 5) (v := ?v4_5) (by simp only [List.getElem?_toArray, List.getElem?_cons_zero, List.getElem?_cons_succ]; rfl) (by kernel_rfl) (by kernel_rfl) (by kernel_rfl) (by exact fun _ _ _ h => h) (Or.inl ⟨by rfl, ?hy4_5⟩) HS0.out ?_
  case hy4_5 => (intro wq hSw; (try dsimp only at hSw); go_simp; try (with_reducible rfl))
  try simp only [Act.put, List.setIfInBounds_toArray, List.set_cons_zero, List.set_cons_succ]
  refine wpAnyH_take (i := 6) (v := ?v4_6) (by simp only [List.getElem?_toArray, List.getElem?_cons_zero, List.getElem?_cons_succ]; rfl) (by kernel_rfl) (by kernel_rfl) (by kernel_rfl) (by exact fun _ _ _ h => h) (Or.inl ⟨by rfl, ?hy4_6⟩) HS0.out ?_
  case hy4_6 => (intro wq hSw; (try dsimp only at hSw); go_simp; try (with_reducible rfl))
  try simp only [Act.put, List.setIfInBounds_toArray, List.set_cons_zero, List.set_cons_succ]
  refine wpAnyH_take (i := 7) (v := ?v4_7) (by simp only [List.getElem?_toArray, List.getElem?_cons_zero, List.getElem?_cons_succ]; rfl) (by kernel_rfl) (by kernel_rfl) (by kernel_rfl) (by exact fun _ _ _ h => h) (Or.inl ⟨by rfl, ?hy4_7⟩) HS0.out ?_
  case hy4_7 => (intro wq hSw; (try dsimp only at hSw); go_simp; try (with_reducible rfl))
  try simp only [Act.put, List.setIfInBounds_toArray, List.set_cons_zero, List.set_cons_succ]
  refine wpAnyH_take (i := 8) (v := ?v4_8) (by simp only [List.getElem?_toArray, List.getElem?_cons_zero, List.getElem?_cons_succ]; rfl) (by kernel_rfl) (by kernel_rfl) (by kernel_rfl) (by exact fun _ _ _ h => h) (Or.inl ⟨by rfl, ?hy4_8⟩) HS0.out ?_
  case hy4_8 => (intro wq hSw; (try dsimp only at hSw); go_simp; try (with_reducible rfl))
  try simp only [Act.put, List.setIfInBounds_toArray, List.set_cons_zero, List.set_cons_succ]
  refine wpAnyH_take (i := 9) (v := ?v4_9) (by simp only [List.getElem?_toArray, List.getElem?_cons_zero, List.getElem?_cons_succ]; rfl) (by kernel_rfl) (by kernel_rfl) (by kernel_rfl) (by exact fun _ _ _ h => h) (Or.inl ⟨by rfl, ?hy4_9⟩) HS0.out ?_
  case hy4_9 => (intro wq hSw; (try dsimp only at hSw); go_simp; try (with_reducible rfl))
  try simp only [Act.put, List.setIfInBounds_toArray, List.set_cons_zero, List.set_cons_succ]
  refine wpAnyH_take (i := 10) (v := ?v4_10) (by simp only [List.getElem?_toArray, List.getElem?_cons_zero, List.getElem?_cons_succ]; rfl) (by kernel_rfl) (by kernel_rfl) (by kernel_rfl) (by exact fun _ _ _ h => h) (Or.inl ⟨by rfl, ?hy4_10⟩) HS0.out ?_
  case hy4_10 => (intro wq hSw; (try dsimp only at hSw); go_simp; try (with_reducible rfl))
  try simp only [Act.put, List.setIfInBounds_toArray, List.set_cons_zero, List.set_cons_succ]
  refine wpAnyH_take (i := 11) (v := ?v4_11) (by simp only [List.getElem?_toArray, List.getElem?_cons_zero, List.getElem?_cons_succ]; rfl) (by kernel_rfl) (by kernel_rfl) (by kernel_rfl) (by exact fun _ _ _ h => h) (Or.inl ⟨by rfl, ?hy4_11⟩) HS0.out ?_
  case hy4_11 => (intro wq hSw; (try dsimp only at hSw); go_simp; try (with_reducible rfl))
  try simp only [Act.put, List.setIfInBounds_toArray, List.set_cons_zero, List.set_cons_succ]
  refine wpAnyH_take (i := 12) (v := ?v4_12) (by simp only [List.getElem?_toArray, List.getElem?_cons_zero, List.getElem?_cons_succ]; rfl) (by kernel_rfl) (by kernel_rfl) (by kernel_rfl) (by exact fun _ _ _ h => h) (Or.inl ⟨by rfl, ?hy4_12⟩) HS0.out ?_
  case hy4_12 => (intro wq hSw; (try dsimp only at hSw); go_simp; try (with_reducible rfl))
  try simp only [Act.put, List.setIfInBounds_toArray, List.set_cons_zero, List.set_cons_succ]
  refine wpAnyH_take (i := 13) (v := ?v4_13) (by simp only [List.getElem?_toArray, List.getElem?_cons_zero, List.getElem?_cons_succ]; rfl) (by kernel_rfl) (by kernel_rfl) (by kernel_rfl) (by exact fun _ _ _ h => h) (Or.inl ⟨by rfl, ?hy4_13⟩) HS0.out ?_
  case hy4_13 => (intro wq hSw; (try dsimp only at hSw); go_simp; try (with_reducible rfl))
  try simp only [Act.put, List.setIfInBounds_toArray, List.set_cons_zero, List.set_cons_succ]
  refine wpAnyH_ready (rs := [14]) (by kernel_rfl) (by simp) ?_
  refine AllReadyH.cons (by simp only [List.getElem?_toArray, List.getElem?_cons_zero, List.getElem?_cons_succ]; rfl) (fun K hK => ?_) AllReadyH.nil
  go_simp
  rw [← hwA]
  refine hK.out _ _ HSA.out (fun _ => ?_)
  clear hK K
  try simp only [Act.put, List.setIfInBounds_toArray, List.set_cons_zero, List.set_cons_succ]
  refine wpAnyH_ready (rs := [15]) (by kernel_rfl) (by simp) ?_
  refine AllReadyH.cons (by simp only [List.getElem?_toArray, List.getElem?_cons_zero, List.getElem?_cons_succ]; rfl) (fun K hK => ?_) AllReadyH.nil
  refine Vx.step_append_one tKm rfl (.tmp 21) (.tmp 29) rfl W.heap.size (.slice pt nt ct) T.mp (by simp [Act.eval]) (by rw [← HVT.out]; exact HXA.out.lm) ⟨bx, (i : Int), rt, (a : Int), (r : Int)⟩ w7.heap.size 1 1 (by simp [Act.eval]) HYD.out HLN.out HBA.out ?_
  intro v6 w6 hv1 hv2 hv3
  rw [← HVT.out] at hv2
  obtain ⟨⟨pq, mq, cq, rfl⟩, ⟨qx, hq1⟩, hq2, hxc, HQ5⟩ := HXA.out.st_m v6 w6 _ hv1 hv2
  have HP7B := Vx.hid (keepB hv2 HP7A.out (fun h9 => by obtain ⟨cur, h8⟩ := own_tag HXA.out.lm h9; exact tag_ne h8 HP7A.out (by decide) rfl))
  have HQ7B := Vx.hid (keepB hv2 HQ7A.out (fun h9 => by obtain ⟨cur, h8⟩ := own_tag HXA.out.lm h9; exact tag_ne h8 HQ7A.out (by decide) rfl))
  have HS6 : Hid (w6.cell? ⟨rb, 12, none⟩ = some (.slice pt nt ct) ∧ w6.cell? ⟨nb2, 0, none⟩ = some (.int .i64 bx) ∧ w6.cell? ⟨nb2, 1, none⟩ = some (.int .i64 (i : Int)) ∧ w6.cell? ⟨nb5, 1, none⟩ = some (.int .i64 rt)) := ⟨(hxc 12).trans HSA.out.1, (cell_of_row _ _ 0 _ _ (0, 0) HP7B.out).trans rfl, (cell_of_row _ _ 1 _ _ (0, 0) HP7B.out).trans rfl, (cell_of_row _ _ 1 _ _ (0, 0) HQ7B.out).trans rfl⟩
  clear hxc hv1 hv2 hv3
  refine hK.out _ _ HS6.out (fun _ => ?_)
  clear hK K
  try simp only [Act.put, List.setIfInBounds_toArray, List.set_cons_zero, List.set_cons_succ]
  refine wpAnyH_take (i := 16) (v := ?v4_16) (by simp only [List.getElem?_toArray, List.getElem?_cons_zero, List.getElem?_cons_succ]; rfl) (by kernel_rfl) (by kernel_rfl) (by kernel_rfl) (by exact fun _ _ _ h => h) (Or.inl ⟨by rfl, ?hy4_16⟩) HS6.out ?_
  case hy4_16 => (intro wq hSw; (try dsimp only at hSw); go_simp; try (with_reducible rfl))
  try simp only [Act.put, List.setIfInBounds_toArray, List.set_cons_zero, List.set_cons_succ]
  refine wpAnyH_take (i := 17) (v := ?v4_17) (by simp only [List.getElem?_toArray, List.getElem?_cons_zero, List.getElem?_cons_succ]; rfl) (by kernel_rfl) (by kernel_rfl) (by kernel_rfl) (by exact fun _ _ _ h => h) (Or.inl ⟨by rfl, ?hy4_17⟩) HS6.out ?_
  case hy4_17 => (intro wq hSw; (try dsimp only at hSw); go_simp; try (with_reducible rfl))
  try simp only [Act.put, List.setIfInBounds_toArray, List.set_cons_zero, List.set_cons_succ]
  refine wpAnyH_take (i := 18) (v := ?v4_18) (by simp only [List.getElem?_toArray, List.getElem?_cons_zero, List.getElem?_cons_succ]; rfl) (by kernel_rfl) (by kernel_rfl) (by kernel_rfl) (by exact fun _ _ _ h => h) (Or.inl ⟨by rfl, ?hy4_18⟩) HS6.out ?_
  case hy4_18 => (intro wq hSw; (try dsimp only at hSw); go_simp; try (with_reducible rfl))
  try simp only [Act.put, List.setIfInBounds_toArray, List.set_cons_zero, List.set_cons_succ]
  refine wpAnyH_take (i := 19) (v := ?v4_19) (by simp only [List.getElem?_toArray, List.getElem?_cons_zero, List.getElem?_cons_succ]; rfl) (by kernel_rfl) (by kernel_rfl) (by kernel_rfl) (by exact fun _ _ _ h => h) (Or.inl ⟨by rfl, ?hy4_19⟩) HS6.out ?_
  case hy4_19 => (intro wq hSw; (try dsimp only at hSw); go_simp; try (with_reducible rfl))
  try simp only [Act.put, List.setIfInBounds_toArray, List.set_cons_zero, List.set_cons_succ]
  refine wpAnyH_take (i := 20) (v := undef) (by simp only [List.getElem?_toArray, List.getElem?_cons_zero, List.getElem?_cons_succ]; rfl) (by kernel_rfl) (by kernel_rfl) (by kernel_rfl) (by exact fun _ _ _ h => h) (Or.inr ⟨by rfl, rfl⟩) HS6.out ?_
  refine wpAnyH_done (by kernel_rfl) ?_ _
  simp only [Vx.upTo]
  clear hwA HYD HBA HXA HXD HS0 HSA HS6 HCE
  go_wp2_with fail
  first | go_end0 | refine bodyPost_ret (results_none rfl _ _ _) rfl ?_
  exact ⟨rfl, _, _, HQ5.out, rfl, rfl, rfl, rfl⟩
end Go.Proofs.YtgacifbpjdakaaaGreatDoor

/- Package spec's reader: add, turn (gen_sr9.py). -/
import Derived.Test.YtgacifbpjdakaaaGreatDoorSR7
import Derived.Test.YtgacifbpjdakaaaGreatDoorSR8
namespace Go.Proofs.YtgacifbpjdakaaaGreatDoor
open Go.ChangeShapes Go.WideShapes Go.ChangeAt Go.RowKit
open Go.Vx
set_option linter.unusedVariables false
set_option linter.unusedSimpArgs false
variable {W w w2 : World} {rb : Nat} {V : Rv} {vw : Value} {ws : List (List UInt8)} {T : Tx} {x : List UInt8}

/-- Behind a line. -/
def RdX (W : World) (rb : Nat) (V : Rv) (ws : List (List UInt8)) (T : Tx) (w' : World) : Prop := ∃ V' vw', RdAt W w' rb V' vw' ws T ∧ V'.vl = V.vl ∧ V'.ls = V.ls ∧ V'.ln = V.ln ∧ V'.vs = V.vs
set_option maxRecDepth 100000 in
set_option maxHeartbeats 2000000 in
theorem add_ok (h : RdAt W w rb V vw ws T) (hx : x.length ≤ 20000) (hno : x ∉ T.nm) (hn : T.nm.length ≤ 1000) (hob : T.ob.length ≤ 1000) (o1 o2 sz : Int) :
    Calls Tryz.prog 68 #[.pointer (some ⟨rb, 0, none⟩), .string ⟨x.toArray⟩, .agg #[.int .i64 o1, .int .i64 o2], .int .i64 sz] w fun e w' => e = .returned (.tuple #[]) ∧ Hid (RdX W rb V ws { T with nm := T.nm ++ [x], ar := T.ar ++ [(o1, o2)], ob := T.ob ++ [⟨o1, o2, sz⟩] } w') := by
  obtain ⟨w1, hw1⟩ : ∃ w1, w1 = w.alloc (.cells #[.int .i64 o1, .int .i64 o2] 46) := ⟨_, rfl⟩
  obtain ⟨qb, hqb⟩ : ∃ qb, qb = w.heap.size := ⟨_, rfl⟩
  have hq1 : w1.heap[qb]? = some (.cells #[.int .i64 o1, .int .i64 o2] 46 (0, 0)) := by rw [hw1, hqb]; exact heap_alloc_last w _
  have ho1 : Only (fun _ => False) w w1 := by rw [hw1]; exact (Only.refl _ w).alloc _
  have hX0 := (h.quiet ho1).quiet ((Only.refl _ w1).drew)
  have hqd : w1.drew.heap[qb]? = some (.cells #[.int .i64 o1, .int .i64 o2] 46 (0, 0)) := hq1
  obtain ⟨w3, D3, hup, hN3, hO3⟩ := hX0.nm.put (by omega) x hx hno (o1, o2)
  have hX3 := hX0.names hN3 hO3
  have hq3 := keepB hO3 hqd (fun e => hX0.nm.ne hqd e)
  have HX3 := Vx.hid hX3
  have HQ3 := Vx.hid hq3
  have HLN : Hid (T.ob.length + 1 ≤ 10000000) := by show _ ≤ _; omega
  have HS0 : Hid (w1.drew.cell? ⟨rb, 15, none⟩ = some (.map (some V.mb)) ∧ w1.drew.cell? ⟨qb, 0, none⟩ = some (.int .i64 o1) ∧ w1.drew.cell? ⟨qb, 1, none⟩ = some (.int .i64 o2)) := ⟨(cell_of_row _ _ 15 _ _ (0, 0) hX0.row).trans rfl, (cell_of_row _ _ 0 _ _ (0, 0) hqd).trans rfl, (cell_of_row _ _ 1 _ _ (0, 0) hqd).trans rfl⟩
  unfold objV at hup
  clear h ho1 hX0 hqd hN3 hO3 hX3 hq3 hq1 hno hx hn hob
  dsimp only at hup
  go_enter Tryz.func68, Tryz.ntmps68
  go_upto_region 1 with fail
  rw [← hw1, ← hqb]
  clear hw1 hqb
  refine Vx.wp_region_last (S := (fun wv => wv.cell? ⟨rb, 15, none⟩ = some (.map (some V.mb)) ∧ wv.cell? ⟨qb, 0, none⟩ = some (.int .i64 o1) ∧ wv.cell? ⟨qb, 1, none⟩ = some (.int .i64 o2))) 7 (by kernel_rfl) (by simp only [List.getElem?_toArray, List.getElem?_cons_zero, List.getElem?_cons_succ]; rfl) (by kernel_rfl) ?_
  simp only [Vx.offA, Vx.offO, List.setIfInBounds_toArray, List.set_cons_zero, List.set_cons_succ, List.size_toArray, List.length_cons, List.length_nil, Nat.zero_add, Nat.reduceAdd]
  refine wpAnyH_take (i := 0) (v := ?v1_0) (by simp only [List.getElem?_toArray, List.getElem?_cons_zero, List.getElem?_cons_succ]; rfl) (by kernel_rfl) (by kernel_rfl) (by kernel_rfl) (by exact fun _ _ _ h => h) (Or.inl ⟨by rfl, ?hy1_0⟩) HS0.out ?_
  case hy1_0 => (intro wq hSw; (try dsimp only at hSw); go_simp; try (with_reducible rfl))
  try simp only [Act.put, List.setIfInBounds_toArray, List.set_cons_zero, List.set_cons_succ]
  refine wpAnyH_take (i := 1) (v := ?v1_1) (by simp only [List.getElem?_toArray, List.getElem?_cons_zero, List.getElem?_cons_succ]; rfl) (by kernel_rfl) (by kernel_rfl) (by kernel_rfl) (by exact fun _ _ _ h => h) (Or.inl ⟨by rfl, ?hy1_1⟩) HS0.out ?_
  case hy1_1 => (intro wq hSw; (try dsimp only at hSw); go_simp; try (with_reducible rfl))
  try simp only [Act.put, List.setIfInBounds_toArray, List.set_cons_zero, List.set_cons_succ]
  refine wpAnyH_take (i := 2) (v := ?v1_2) (by simp only [List.getElem?_toArray, List.getElem?_cons_zero, List.getElem?_cons_succ]; rfl) (by kernel_rfl) (by kernel_rfl) (by kernel_rfl) (by exact fun _ _ _ h => h) (Or.inl ⟨by rfl, ?hy1_2⟩) HS0.out ?_
  case hy1_2 => (intro wq hSw; (try dsimp only at hSw); go_simp; try (with_reducible rfl))
  try simp only [Act.put, List.setIfInBounds_toArray, List.set_cons_zero, List.set_cons_succ]
  refine wpAnyH_take (i := 3) (v := ?v1_3) (by simp only [List.getElem?_toArray, List.getElem?_cons_zero, List.getElem?_cons_succ]; rfl) (by kernel_rfl) (by kernel_rfl) (by kernel_rfl) (by exact fun _ _ _ h => h) (Or.inl ⟨by rfl, ?hy1_3⟩) HS0.out ?_
  case hy1_3 => (intro wq hSw; (try dsimp only at hSw); go_simp; try (with_reducible rfl))
  try simp only [Act.put, List.setIfInBounds_toArray, List.set_cons_zero, List.set_cons_succ]
  refine wpAnyH_take (i := 4) (v := ?v1_4) (by simp only [List.getElem?_toArray, List.getElem?_cons_zero, List.getElem?_cons_succ]; rfl) (by kernel_rfl) (by kernel_rfl) (by kernel_rfl) (by exact fun _ _ _ h => h) (Or.inl ⟨by rfl, ?hy1_4⟩) HS0.out ?_
  case hy1_4 => (intro wq hSw; (try dsimp only at hSw); go_simp; try (with_reducible rfl))
  try simp only [Act.put, List.setIfInBounds_toArray, List.set_cons_zero, List.set_cons_succ]
  refine wpAnyH_take (i := 5) (v := ?v1_5) (by simp only [List.getElem?_toArray, List.getElem?_cons_zero, List.getElem?_cons_succ]; rfl) (by kernel_rfl) (by kernel_rfl) (by kernel_rfl) (by exact fun _ _ _ h => h) (Or.inl ⟨by rfl, ?hy1_5⟩) HS0.out ?_
  case hy1_5 => (intro wq hSw; (try dsimp only at hSw); go_simp; try (with_reducible rfl))
  try simp only [Act.put, List.setIfInBounds_toArray, List.set_cons_zero, List.set_cons_succ]
  refine wpAnyH_take (i := 6) (v := ?v1_6) (by simp only [List.getElem?_toArray, List.getElem?_cons_zero, List.getElem?_cons_succ]; rfl) (by kernel_rfl) (by kernel_rfl) (by kernel_rfl) (by exact fun _ _ _ h => h) (Or.inl ⟨by rfl, ?hy1_6⟩) HS0.out ?_
  case hy1_6 => (intro wq hSw; (try dsimp only at hSw); go_simp; try (with_reducible rfl))
  try simp only [Act.put, List.setIfInBounds_toArray, List.set_cons_zero, List.set_cons_succ]
  refine wpAnyH_take (i := 7) (v := undef) (by simp only [List.getElem?_toArray, List.getElem?_cons_zero, List.getElem?_cons_succ]; rfl) (by kernel_rfl) (by kernel_rfl) (by kernel_rfl) (by exact fun _ _ _ h => h) (Or.inr ⟨by rfl, rfl⟩) HS0.out ?_
  refine wpAnyH_done (by kernel_rfl) ?_ _
  simp only [Vx.upTo]
  go_upto_region 2 with fail
  obtain ⟨pt, ct, hvt, _⟩ := HX3.out.lo.form
  obtain ⟨nt, hnt⟩ : ∃ nt, nt = T.ob.length := ⟨_, rfl⟩
  dsimp only at hvt
  rw [← hnt] at hvt
  clear hnt
  have HVT := Vx.hid hvt
  clear hvt
  have HX0 := Vx.hid (HX3.out.quiet ((Only.refl _ w3).drew))
  obtain ⟨wA, hwA⟩ : ∃ wA, wA = (w3.alloc (.cells #[.int .i64 o1, .int .i64 o2, .int .i64 sz] 58)).drew := ⟨_, rfl⟩
  have hoA : Only (fun _ => False) w3 wA := by rw [hwA]; exact ((Only.refl _ _).alloc _).drew
  have HXA := Vx.hid (HX3.out.quiet hoA)
  have HYD : Hid (∀ j u, (obL.cf ⟨o1, o2, sz⟩)[j]? = some u → wA.cell? ⟨w3.heap.size, j, none⟩ = some u) := fun j u hj => by
    have hl : wA.heap[w3.heap.size]? = some (.cells #[.int .i64 o1, .int .i64 o2, .int .i64 sz] 58 (0, 0)) := by rw [hwA]; exact heap_alloc_last _ _
    rw [cell_of_row _ _ j _ _ (0, 0) hl]
    simpa [obL] using hj
  have HBA : Hid (W.heap.size ≤ wA.heap.size) := HXA.out.be.size
  have HCE : Hid (∀ wv, RdAt W wv rb { V with D := D3 } vw ws { T with nm := T.nm ++ [x], ar := T.ar ++ [(o1, o2)] } → wv.cell? ⟨rb, 9, none⟩ = some (.slice pt nt ct)) := fun wv hv => by
    have h9 := (cell_of_row _ _ 9 _ _ (0, 0) hv.row).trans rfl
    exact h9.trans (congrArg some HVT.out)
  have hqA := keepB hoA HQ3.out (fun h => h)
  have HS0 : Hid (w3.drew.cell? ⟨rb, 9, none⟩ = some (.slice pt nt ct) ∧ w3.drew.cell? ⟨qb, 0, none⟩ = some (.int .i64 o1) ∧ w3.drew.cell? ⟨qb, 1, none⟩ = some (.int .i64 o2)) := ⟨HCE.out _ HX0.out, (cell_of_row _ _ 0 _ _ (0, 0) HQ3.out).trans rfl, (cell_of_row _ _ 1 _ _ (0, 0) HQ3.out).trans rfl⟩
  have HSA : Hid (wA.cell? ⟨rb, 9, none⟩ = some (.slice pt nt ct) ∧ wA.cell? ⟨qb, 0, none⟩ = some (.int .i64 o1) ∧ wA.cell? ⟨qb, 1, none⟩ = some (.int .i64 o2)) := ⟨HCE.out _ HXA.out, (cell_of_row _ _ 0 _ _ (0, 0) hqA).trans rfl, (cell_of_row _ _ 1 _ _ (0, 0) hqA).trans rfl⟩
  have HQA := Vx.hid hqA
  clear hqA hup
  clear hoA
  refine Vx.wp_region_last (S := (fun wv => wv.cell? ⟨rb, 9, none⟩ = some (.slice pt nt ct) ∧ wv.cell? ⟨qb, 0, none⟩ = some (.int .i64 o1) ∧ wv.cell? ⟨qb, 1, none⟩ = some (.int .i64 o2))) 16 (by kernel_rfl) (by simp only [List.getElem?_toArray, List.getElem?_cons_zero, List.getElem?_cons_succ]; rfl) (by kernel_rfl) ?_
  simp only [Vx.offA, Vx.offO, List.setIfInBounds_toArray, List.set_cons_zero, List.set_cons_succ, List.size_toArray, List.length_cons, List.length_nil, Nat.zero_add, Nat.reduceAdd]
  refine wpAnyH_take (i := 0) (v := ?v2_0) (by simp only [List.getElem?_toArray, List.getElem?_cons_zero, List.getElem?_cons_succ]; rfl) (by kernel_rfl) (by kernel_rfl) (by kernel_rfl) (by exact fun _ _ _ h => h) (Or.inl ⟨by rfl, ?hy2_0⟩) HS0.out ?_
  case hy2_0 => (intro wq hSw; (try dsimp only at hSw); go_simp; try (with_reducible rfl))
  try simp only [Act.put, List.setIfInBounds_toArray, List.set_cons_zero, List.set_cons_succ]
  refine wpAnyH_take (i := 1) (v := ?v2_1) (by simp only [List.getElem?_toArray, List.getElem?_cons_zero, List.getElem?_cons_succ]; rfl) (by kernel_rfl) (by kernel_rfl) (by kernel_rfl) (by exact fun _ _ _ h => h) (Or.inl ⟨by rfl, ?hy2_1⟩) HS0.out ?_
  case hy2_1 => (intro wq hSw; (try dsimp only at hSw); go_simp; try (with_reducible rfl))
  try simp only [Act.put, List.setIfInBounds_toArray, List.set_cons_zero, List.set_cons_succ]
  refine wpAnyH_take (i := 2) (v := ?v2_2) (by simp only [List.getElem?_toArray, List.getElem?_cons_zero, List.getElem?_cons_succ]; rfl) (by kernel_rfl) (by kernel_rfl) (by kernel_rfl) (by exact fun _ _ _ h => h) (Or.inl ⟨by rfl, ?hy2_2⟩) HS0.out ?_
  case hy2_2 => (intro wq hSw; (try dsimp only at hSw); go_simp; try (with_reducible rfl))
  try simp only [Act.put, List.setIfInBounds_toArray, List.set_cons_zero, List.set_cons_succ]
  refine wpAnyH_take (i := 3) (v := ?v2_3) (by simp only [List.getElem?_toArray, List.getElem?_cons_zero, List.getElem?_cons_succ]; rfl) (by kernel_rfl) (by kernel_rfl) (by kernel_rfl) (by exact fun _ _ _ h => h) (Or.inl ⟨by rfl, ?hy2_3⟩) HS0.out ?_
  case hy2_3 => (intro wq hSw; (try dsimp only at hSw); go_simp; try (with_reducible rfl))
  try simp only [Act.put, List.setIfInBounds_toArray, List.set_cons_zero, List.set_cons_succ]
  refine wpAnyH_take (i := 4) (v := ?v2_4) (by simp only [List.getElem?_toArray, List.getElem?_cons_zero, List.getElem?_cons_succ]; rfl) (by kernel_rfl) (by kernel_rfl) (by kernel_rfl) (by exact fun _ _ _ h => h) (Or.inl ⟨by rfl, ?hy2_4⟩) HS0.out ?_
  case hy2_4 => (intro wq hSw; (try dsimp only at hSw); go_simp; try (with_reducible rfl))
  try simp only [Act.put, List.setIfInBounds_toArray, List.set_cons_zero, List.set_cons_succ]
  refine wpAnyH_take (i := 5) (v := ?v2_5) (by simp only [List.getElem?_toArray, List.getElem?_cons_zero, List.getElem?_cons_succ]; rfl) (by kernel_rfl) (by kernel_rfl) (by kernel_rfl) (by exact fun _ _ _ h => h) (Or.inl ⟨by rfl, ?hy2_5⟩) HS0.out ?_
  case hy2_5 => (intro wq hSw; (try dsimp only at hSw); go_simp; try (with_reducible rfl))
  try simp only [Act.put, List.setIfInBounds_toArray, List.set_cons_zero, List.set_cons_succ]
  refine wpAnyH_take (i := 6) (v := ?v2_6) (by simp only [List.getElem?_toArray, List.getElem?_cons_zero, List.getElem?_cons_succ]; rfl) (by kernel_rfl) (by kernel_rfl) (by kernel_rfl) (by exact fun _ _ _ h => h) (Or.inl ⟨by rfl, ?hy2_6⟩) HS0.out ?_
  case hy2_6 => (intro wq hSw; (try dsimp only at hSw); go_simp; try (with_reducible rfl))
  try simp only [Act.put, List.setIfInBounds_toArray, List.set_cons_zero, List.set_cons_succ]
  refine wpAnyH_take (i := 7) (v := ?v2_7) (by simp only [List.getElem?_toArray, List.getElem?_cons_zero, List.getElem?_cons_succ]; rfl) (by kernel_rfl) (by kernel_rfl) (by kernel_rfl) (by exact fun _ _ _ h => h) (Or.inl ⟨by rfl, ?hy2_7⟩) HS0.out ?_
  case hy2_7 => (intro wq hSw; (try dsimp only at hSw); go_simp; try (with_reducible rfl))
  try simp only [Act.put, List.setIfInBounds_toArray, List.set_cons_zero, List.set_cons_succ]
  refine wpAnyH_take (i := 8) (v := ?v2_8) (by simp only [List.getElem?_toArray, List.getElem?_cons_zero, List.getElem?_cons_succ]; rfl) (by kernel_rfl) (by kernel_rfl) (by kernel_rfl) (by exact fun _ _ _ h => h) (Or.inl ⟨by rfl, ?hy2_8⟩) HS0.out ?_
  case hy2_8 => (intro wq hSw; (try dsimp only at hSw); go_simp; try (with_reducible rfl))
  try simp only [Act.put, List.setIfInBounds_toArray, List.set_cons_zero, List.set_cons_succ]
  refine wpAnyH_take (i := 9) (v := ?v2_9) (by simp only [List.getElem?_toArray, List.getElem?_cons_zero, List.getElem?_cons_succ]; rfl) (by kernel_rfl) (by kernel_rfl) (by kernel_rfl) (by exact fun _ _ _ h => h) (Or.inl ⟨by rfl, ?hy2_9⟩) HS0.out ?_
  case hy2_9 => (intro wq hSw; (try dsimp only at hSw); go_simp; try (with_reducible rfl))
  try simp only [Act.put, List.setIfInBounds_toArray, List.set_cons_zero, List.set_cons_succ]
  refine wpAnyH_ready (rs := [10]) (by kernel_rfl) (by simp) ?_
  refine AllReadyH.cons (by simp only [List.getElem?_toArray, List.getElem?_cons_zero, List.getElem?_cons_succ]; rfl) (fun K hK => ?_) AllReadyH.nil
  go_simp
  rw [← hwA]
  refine hK.out _ _ HSA.out (fun _ => ?_)
  clear hK K
  try simp only [Act.put, List.setIfInBounds_toArray, List.set_cons_zero, List.set_cons_succ]
  refine wpAnyH_ready (rs := [11]) (by kernel_rfl) (by simp) ?_
  refine AllReadyH.cons (by simp only [List.getElem?_toArray, List.getElem?_cons_zero, List.getElem?_cons_succ]; rfl) (fun K hK => ?_) AllReadyH.nil
  refine Vx.step_append_one tKo rfl (.tmp 21) (.tmp 25) rfl W.heap.size (.slice pt nt ct) T.ob (by simp [Act.eval]) (by rw [← HVT.out]; exact HXA.out.lo) ⟨o1, o2, sz⟩ w3.heap.size 1 1 (by simp [Act.eval]) HYD.out HLN.out HBA.out ?_
  intro v6 w6 hv1 hv2 hv3
  rw [← HVT.out] at hv2
  obtain ⟨⟨pq, mq, cq, rfl⟩, ⟨qx, hq1⟩, hq2, hxc, HQ5⟩ := HXA.out.st_o v6 w6 _ hv1 hv2
  have hq6 : w6.heap[qb]? = _ := keepB hv2 HQA.out (fun h9 => by obtain ⟨cur, h8⟩ := own_tag HXA.out.lo h9; exact tag_ne h8 HQA.out (by decide) rfl)
  have HS6 : Hid (w6.cell? ⟨rb, 9, none⟩ = some (.slice pt nt ct) ∧ w6.cell? ⟨qb, 0, none⟩ = some (.int .i64 o1) ∧ w6.cell? ⟨qb, 1, none⟩ = some (.int .i64 o2)) := ⟨(hxc 9).trans HSA.out.1, (cell_of_row _ _ 0 _ _ (0, 0) hq6).trans rfl, (cell_of_row _ _ 1 _ _ (0, 0) hq6).trans rfl⟩
  clear hxc hv1 hv2 hv3 hq6
  refine hK.out _ _ HS6.out (fun _ => ?_)
  clear hK K
  try simp only [Act.put, List.setIfInBounds_toArray, List.set_cons_zero, List.set_cons_succ]
  refine wpAnyH_take (i := 12) (v := ?v2_12) (by simp only [List.getElem?_toArray, List.getElem?_cons_zero, List.getElem?_cons_succ]; rfl) (by kernel_rfl) (by kernel_rfl) (by kernel_rfl) (by exact fun _ _ _ h => h) (Or.inl ⟨by rfl, ?hy2_12⟩) HS6.out ?_
  case hy2_12 => (intro wq hSw; (try dsimp only at hSw); go_simp; try (with_reducible rfl))
  try simp only [Act.put, List.setIfInBounds_toArray, List.set_cons_zero, List.set_cons_succ]
  refine wpAnyH_take (i := 13) (v := ?v2_13) (by simp only [List.getElem?_toArray, List.getElem?_cons_zero, List.getElem?_cons_succ]; rfl) (by kernel_rfl) (by kernel_rfl) (by kernel_rfl) (by exact fun _ _ _ h => h) (Or.inl ⟨by rfl, ?hy2_13⟩) HS6.out ?_
  case hy2_13 => (intro wq hSw; (try dsimp only at hSw); go_simp; try (with_reducible rfl))
  try simp only [Act.put, List.setIfInBounds_toArray, List.set_cons_zero, List.set_cons_succ]
  refine wpAnyH_take (i := 14) (v := ?v2_14) (by simp only [List.getElem?_toArray, List.getElem?_cons_zero, List.getElem?_cons_succ]; rfl) (by kernel_rfl) (by kernel_rfl) (by kernel_rfl) (by exact fun _ _ _ h => h) (Or.inl ⟨by rfl, ?hy2_14⟩) HS6.out ?_
  case hy2_14 => (intro wq hSw; (try dsimp only at hSw); go_simp; try (with_reducible rfl))
  try simp only [Act.put, List.setIfInBounds_toArray, List.set_cons_zero, List.set_cons_succ]
  refine wpAnyH_take (i := 15) (v := ?v2_15) (by simp only [List.getElem?_toArray, List.getElem?_cons_zero, List.getElem?_cons_succ]; rfl) (by kernel_rfl) (by kernel_rfl) (by kernel_rfl) (by exact fun _ _ _ h => h) (Or.inl ⟨by rfl, ?hy2_15⟩) HS6.out ?_
  case hy2_15 => (intro wq hSw; (try dsimp only at hSw); go_simp; try (with_reducible rfl))
  try simp only [Act.put, List.setIfInBounds_toArray, List.set_cons_zero, List.set_cons_succ]
  refine wpAnyH_take (i := 16) (v := undef) (by simp only [List.getElem?_toArray, List.getElem?_cons_zero, List.getElem?_cons_succ]; rfl) (by kernel_rfl) (by kernel_rfl) (by kernel_rfl) (by exact fun _ _ _ h => h) (Or.inr ⟨by rfl, rfl⟩) HS6.out ?_
  refine wpAnyH_done (by kernel_rfl) ?_ _
  simp only [Vx.upTo]
  clear hwA HYD HBA HXA HX0 HS0 HSA HS6 HCE
  go_wp2_with fail
  first | go_end0 | refine bodyPost_ret (results_none rfl _ _ _) rfl ?_
  exact ⟨rfl, _, _, HQ5.out, rfl, rfl, rfl, rfl⟩
set_option maxRecDepth 100000 in
set_option maxHeartbeats 2000000 in
theorem turn_ok (a b : Nat) (ha : a < 4294967296) (hb : b < 4294967296) (h : RdAt W w rb V vw [Lib.decDigits a, Lib.decDigits b] T) (hl : T.tn.length ≤ 1000) :
    Calls Tryz.prog 29 #[.pointer (some ⟨rb, 0, none⟩)] w fun e w' => e = .returned (.tuple #[]) ∧ Hid (RdX W rb V [] { T with tn := T.tn ++ [((a : Int), (b : Int))] } w') := by
  have HA := Vx.hid (number_ok a ha h (by simp))
  have HB : Hid (∀ wv vwv, RdAt W wv rb V vwv [Lib.decDigits b] T → Calls Tryz.prog 63 #[.pointer (some ⟨rb, 0, none⟩)] wv fun e w' => e = .returned (.int .i64 (b : Int)) ∧ Hid (RdP W wv rb V [] T w')) := fun wv vwv hv => number_ok b hb hv (by simp)
  have HLN : Hid (T.tn.length + 1 ≤ 10000000) := by show _ ≤ _; omega
  clear h ha hb hl
  go_enter Tryz.func29, Tryz.ntmps29
  go_wp2_with fail
  refine HA.out.mono ?_
  rintro e w1 ⟨rfl, H1⟩
  clear HA
  obtain ⟨_, vw1, h1⟩ := H1.out
  have HX1 := Vx.hid h1
  clear h1 H1
  go_wp2_with fail
  refine (HB.out _ _ HX1.out).mono ?_
  rintro e w3 ⟨rfl, H3⟩
  clear HB HX1
  obtain ⟨_, vw3, h3⟩ := H3.out
  have HX3 := Vx.hid h3
  clear H3
  obtain ⟨pt, ct, hvt, _⟩ := h3.lt.form
  obtain ⟨nt, hnt⟩ : ∃ nt, nt = T.tn.length := ⟨_, rfl⟩
  rw [← hnt] at hvt
  clear hnt
  have c7 : w3.cell? ⟨rb, 7, none⟩ = some (.slice pt nt ct) := by
    have h9 := (cell_of_row _ _ 7 _ _ (0, 0) h3.row).trans rfl
    exact h9.trans (congrArg some hvt)
  have HVT := Vx.hid hvt
  have HBA : Hid (W.heap.size ≤ w3.heap.size) := h3.be.size
  clear h3 hvt
  go_wp2_with (at_builtin; refine wpList_append_one tKt _ rfl _ _ rfl W.heap.size (.slice pt nt ct) _ rfl (by rw [← HVT.out]; exact HX3.out.lt) ((a : Int), (b : Int)) _ _ rfl rfl rfl HLN.out HBA.out ?_; intro v6 w6 hv1 hv2 hv3; rw [← HVT.out] at hv2; obtain ⟨⟨pq, mq, cq, rfl⟩, ⟨qx, hq1⟩, hq2, hxc, HQ5⟩ := HX3.out.st_t v6 w6 _ hv1 hv2; clear hv1 hv2 hv3 hxc)
  first | go_end0 | refine bodyPost_ret (results_none rfl _ _ _) rfl ?_
  exact ⟨rfl, _, _, HQ5.out, rfl, rfl, rfl, rfl⟩
end Go.Proofs.YtgacifbpjdakaaaGreatDoor

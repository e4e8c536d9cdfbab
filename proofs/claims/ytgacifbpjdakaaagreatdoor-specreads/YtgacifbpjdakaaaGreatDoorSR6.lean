/- Package spec's reader: slot, readiness, register. -/
import Derived.Test.YtgacifbpjdakaaaGreatDoorSR5
import Derived.Lib.ItoaMem
namespace Go.Proofs.YtgacifbpjdakaaaGreatDoor
open Go.ChangeShapes Go.WideShapes Go.ChangeAt Go.RowKit
open Go.Vx
set_option linter.unusedVariables false
set_option linter.unusedSimpArgs false
variable {W w w2 : World} {rb : Nat} {V : Rv} {vw : Value} {ws : List (List UInt8)} {T : Tx} {x : List UInt8}

theorem kinds_ok {kb : Nat} (zs : List Int) (h : w.heap[kb]? = some (.cells (zs.map (Value.int .i64)).toArray 3 (0, 0))) (hne : kb ≠ rb) (y : Int) (hy : y ∈ zs) (hl : zs.length ≤ 100) : ∀ wv, Only (fun k => k = rb) w wv → Calls Tryz.prog 99 #[.slice (some ⟨kb, 0, none⟩) zs.length zs.length, .int .i64 y] wv fun e w' => e = .returned (.bool true) ∧ w' = wv := fun wv ho => by
  refine (Tryz.slices_Contains_int kb 0 zs.length zs.length zs y wv (Nat.le_refl _) (by omega) (fun j hj => ?_)).mono ?_
  · rw [cell_of_row _ _ (0 + j) _ _ (0, 0) (keepB ho h hne)]
    simp [hj]
  · rintro e w' ⟨rfl, rfl⟩
    refine ⟨?_, rfl⟩
    rw [List.take_length, List.contains_iff_mem.2 hy]
theorem RdP.trans {w1 : World} {ws' : List (List UInt8)} {T' : Tx} {V' : Rv} (h1 : Only (fun k => k = rb) w w1) (h2 : RdP W w1 rb V ws T w2) : RdP W w rb V ws T w2 := ⟨h1.trans h2.1, h2.2⟩
set_option maxRecDepth 100000 in
set_option maxHeartbeats 1000000 in
theorem slot_ok (n : Nat) (hn : n < 4294967296) (h : RdAt W w rb V vw (x :: Lib.decDigits n :: ws) T) (hx : NmOk x) (i : Nat) (hi : i < T.nm.length) (hxi : T.nm[i] = x) (o : Sl) (ho : T.ar.getD i (0, 0) = o) (hk : o.1 = 5 ∨ o.1 = 6) (hl : ws.length ≤ 20000) :
    Calls Tryz.prog 77 #[.pointer (some ⟨rb, 0, none⟩)] w fun e w' => e = .returned (.agg #[.int .i64 o.2, .int .i64 (n : Int)]) ∧ Hid (RdP W w rb V ws T w') := by
  obtain ⟨o1, o2⟩ := o
  obtain ⟨wa, hwa⟩ : ∃ wa, wa = (w.alloc (.cells #[.int .i64 0, .int .i64 0] 80)).alloc (.cells #[.int .i64 5, .int .i64 6] 3) := ⟨_, rfl⟩
  obtain ⟨qb, hqb⟩ : ∃ qb, qb = w.heap.size := ⟨_, rfl⟩
  have hoa : Only (fun _ => False) w wa := by rw [hwa]; exact ((Only.refl _ w).alloc _).alloc _
  have hq1 : wa.heap[qb]? = some (.cells #[.int .i64 0, .int .i64 0] 80 (0, 0)) := by
    rw [hwa, hqb]
    exact keepB ((Only.refl (fun _ => False) _).alloc _) (heap_alloc_last w _) (fun h => h)
  have hka : wa.heap[w.heap.size + 1]? = some (.cells #[.int .i64 5, .int .i64 6] 3 (0, 0)) := by
    have h9 := heap_alloc_last (w.alloc (.cells #[.int .i64 0, .int .i64 0] 80)) (.cells #[.int .i64 5, .int .i64 6] 3)
    rw [show (w.alloc (.cells #[.int .i64 0, .int .i64 0] 80)).heap.size = w.heap.size + 1 by simp] at h9
    rw [hwa]; exact h9
  obtain ⟨kb, hkb⟩ : ∃ kb, kb = w.heap.size + 1 := ⟨_, rfl⟩
  rw [← hkb] at hka
  have hrl := lt_of_some h.row
  have HH := Vx.hid h
  have HHa := Vx.hid (h.quiet hoa)
  have hll : (Lib.decDigits n :: ws).length ≤ 30000 := by rw [List.length_cons]; omega
  have hmm : o1 ∈ [(5 : Int), 6] := by simpa using hk
  have hkk : ∀ wv, Only (fun k => k = rb) wa wv → Calls Tryz.prog 99 #[.slice (some ⟨kb, 0, none⟩) 2 2, .int .i64 o1] wv fun e w' => e = .returned (.bool true) ∧ w' = wv := kinds_ok [5, 6] hka (fun e => by omega) o1 hmm (by decide)
  have HOB := Vx.hid (robj_of HHa.out hx i hi hxi (o1, o2) ho (by decide : 0 < 2) hkk hll)
  clear hll hmm hkk
  have HNU : Hid (∀ wv vwv, RdAt W wv rb V vwv (Lib.decDigits n :: ws) T → Calls Tryz.prog 63 #[.pointer (some ⟨rb, 0, none⟩)] wv fun e w' => e = .returned (.int .i64 (n : Int)) ∧ Hid (RdP W wv rb V ws T w')) := fun wv vwv hv => number_ok n hn hv (by omega)
  have HQ : Hid (wa.heap[qb]? = some (.cells #[.int .i64 0, .int .i64 0] 80 (0, 0)) ∧ w.heap.size ≤ qb ∧ Only (fun k => k = rb) w wa ∧ qb ≠ rb) := ⟨hq1, by omega, hoa.mono (fun _ _ h => h.elim), fun e => by omega⟩
  clear h hq1 hka hoa hrl hi hxi ho hx hl hk hn HHa
  dsimp only
  go_enter Tryz.func77, Tryz.ntmps77
  go_wp2_with fail
  rw [← hwa, ← hkb, ← hqb]
  clear hwa hkb hqb
  refine HOB.out.mono ?_
  rintro e w3 ⟨rfl, H3⟩
  clear HOB
  obtain ⟨h31, vw3, h32⟩ := H3.out
  obtain ⟨wb, hwb⟩ : ∃ wb, wb = w3.alloc (.cells #[.int .i64 o1, .int .i64 o2] 46) := ⟨_, rfl⟩
  have hob : Only (fun _ => False) w3 wb := by rw [hwb]; exact (Only.refl _ _).alloc _
  have HXB := Vx.hid (h32.quiet hob)
  have HOB : Hid (wb.heap[w3.heap.size]? = some (.cells #[.int .i64 o1, .int .i64 o2] 46 (0, 0)) ∧ w3.heap.size ≠ rb ∧ Only (fun k => k = rb) w wb ∧ wb.heap[qb]? = some (.cells #[.int .i64 0, .int .i64 0] 80 (0, 0))) := ⟨by rw [hwb]; exact heap_alloc_last w3 _, fun e => by have := lt_of_some h32.row; omega, (HQ.out.2.2.1.trans h31).trans (hob.mono (fun _ _ h => h.elim)), keepB hob (keepB h31 HQ.out.1 HQ.out.2.2.2) (fun h => h)⟩
  clear hob h31 h32 H3
  go_wp2_with fail
  rw [← hwb]
  clear hwb
  refine (HNU.out _ _ HXB.out).mono ?_
  rintro e w4 ⟨rfl, H4⟩
  clear HNU
  have hob4 := keepB H4.out.1 HOB.out.1 HOB.out.2.1
  have hqb4 := keepB H4.out.1 HOB.out.2.2.2 HQ.out.2.2.2
  have HQ4 := Vx.hid hqb4
  have k1 : w4.cell? ⟨w3.heap.size, 1, none⟩ = some (.int .i64 o2) := (cell_of_row _ _ 1 _ _ (0, 0) hob4).trans rfl
  have q0 : w4.cell? ⟨qb, 0, none⟩ = some (.int .i64 0) := (cell_of_row _ _ 0 _ _ (0, 0) hqb4).trans rfl
  have q1 : w4.cell? ⟨qb, 1, none⟩ = some (.int .i64 0) := (cell_of_row _ _ 1 _ _ (0, 0) hqb4).trans rfl
  have f0 := froz hqb4 0
  have f1 := froz hqb4 1
  clear hob4 hqb4
  go_wp2_with fail
  refine bodyPost_ret (v := .agg #[.int .i64 o2, .int .i64 (n : Int)]) ?_ rfl ⟨rfl, ?_⟩
  · simp [results, Tryz.results77, go_sem, q0, q1]
  · have hs := set2 HQ4.out (.int .i64 o2) (.int .i64 (n : Int))
    exact RdP.newer (HOB.out.2.2.1.trans H4.out.1) H4.out.2 HQ4.out HQ.out.2.1 ⟨w, _, _, _, HH.out, HQ.out.2.1⟩ (by decide) hs.2
set_option maxHeartbeats 1000000 in
theorem readiness_ok (b : Bool) (h : RdAt W w rb V vw ((if b then [114, 101, 97, 100, 121] else [105, 100, 108, 101]) :: ws) T) (hl : ws.length ≤ 30000) :
    Calls Tryz.prog 81 #[.pointer (some ⟨rb, 0, none⟩)] w fun e w' => e = .returned (.bool b) ∧ Hid (RdP W w rb V ws T w') := by
  have HW := Vx.hid (word_ok h hl)
  clear h hl
  cases b with
  | true =>
    simp only [if_true] at HW
    go_enter Tryz.func81, Tryz.ntmps81
    go_wp2_with fail
    refine HW.out.mono ?_
    rintro e w1 ⟨rfl, H1⟩
    clear HW
    go_wp2_with fail
    go_ret
    exact ⟨rfl, H1.out⟩
  | false =>
    simp only [Bool.false_eq_true, if_false] at HW
    go_enter Tryz.func81, Tryz.ntmps81
    go_wp2_with fail
    refine HW.out.mono ?_
    rintro e w1 ⟨rfl, H1⟩
    clear HW
    go_wp2_with fail
    go_ret
    exact ⟨rfl, H1.out⟩
end Go.Proofs.YtgacifbpjdakaaaGreatDoor

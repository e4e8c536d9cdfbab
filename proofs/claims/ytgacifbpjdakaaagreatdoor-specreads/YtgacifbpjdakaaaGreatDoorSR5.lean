/- Package spec's reader: object (gen_sr5.py). -/
import Derived.Test.YtgacifbpjdakaaaGreatDoorSR4
import Derived.Test.YtgacifbpjdakaaaGreatDoorRL
import Derived.Test.YtgacifbpjdakaaaGreatDoorCG2
import Derived.Deep.CutBlock
namespace Go.Vx
theorem wp_region_free {P : Program} {ops : Array Oper} {Q : Exit → Act → World → Prop} {S : World → Prop} {id : Nat} {a : Act} {w : World} (hm : P.follows .mixedOrders = true)
    (h : wpAnyH P .any ops Q S ops.size (Array.replicate ops.size false) a w.drew) : (Code.region id ops true).wp P Q a w := wp_region_held hm h
end Go.Vx
namespace Go.Proofs.YtgacifbpjdakaaaGreatDoor
open Go.ChangeShapes Go.WideShapes Go.ChangeAt Go.RowKit
open Go.Vx
set_option linter.unusedVariables false
set_option linter.unusedSimpArgs false
variable {W w w2 : World} {rb : Nat} {V : Rv} {vw : Value} {ws : List (List UInt8)} {T : Tx} {x : List UInt8}

/-- An object that was found, and the call's own cell. -/
structure ObQ (W w : World) (rb : Nat) (V : Rv) (ws : List (List UInt8)) (T : Tx) (o : Sl) (qb ob : Nat) (wx : World) : Prop where
  p : RdP W w rb V ws T wx
  o : wx.heap[ob]? = some (.cells #[.int .i64 o.1, .int .i64 o.2] 46 (0, 0))
  q : wx.heap[qb]? = some (.cells #[.int .i64 0, .int .i64 0] 46 (0, 0))
  n : w.heap.size ≤ qb
  ne : ob ≠ qb
theorem set2 {w : World} {b : Nat} {a0 a1 : Value} {t : TypeId} (h : w.heap[b]? = some (.cells #[a0, a1] t (0, 0))) (x y : Value) : ((w.setCell ⟨b, 0, none⟩ x).setCell ⟨b, 1, none⟩ y).heap[b]? = some (.cells #[x, y] t (0, 0)) ∧ Only (fun k => k = b) w ((w.setCell ⟨b, 0, none⟩ x).setCell ⟨b, 1, none⟩ y) := by
  have h1 := heap_setCell_same w b 0 _ _ x h
  have h2 := heap_setCell_same _ b 1 _ _ y h1
  exact ⟨h2, Only.setCell (S := fun k => k = b) (Only.setCell (S := fun k => k = b) (Only.refl _ w) (Or.inl rfl) _) (Or.inl rfl) _⟩
theorem RdP.newer {w1 : World} (hp : Only (fun k => k = rb) w w1) {b : Nat} {cs : Array Value} {t : TypeId} (hP : ∃ vw', RdAt W w1 rb V vw' ws T) (hb : w1.heap[b]? = some (.cells cs t (0, 0))) (hw : w.heap.size ≤ b) (hn : ∃ w0 vw0 ws0 T0, RdAt W w0 rb V vw0 ws0 T0 ∧ w0.heap.size ≤ b) (ht : t ≠ 9 ∧ t ≠ 3 ∧ t ≠ 103) (ho : Only (fun k => k = b) w1 w2) : RdP W w rb V ws T w2 := by
  obtain ⟨vw', h⟩ := hP
  obtain ⟨w0, vw0, ws0, T0, h0, hb0⟩ := hn
  exact ⟨hp.newer ho hw, vw', h.apart hb ht (h0.fre hb0) (by have := h0.be.size; omega) ho⟩
set_option maxRecDepth 100000 in
set_option maxHeartbeats 2000000 in
theorem robj_any (h : RdAt W w rb V vw (x :: ws) T) (hx : NmOk x) (i : Nat) (hi : i < T.nm.length) (hxi : T.nm[i] = x) (o : Sl) (ho : T.ar.getD i (0, 0) = o) (hl : ws.length ≤ 30000) :
    Calls Tryz.prog 70 #[.pointer (some ⟨rb, 0, none⟩), .slice none 0 0] w fun e w' => e = .returned (.agg #[.int .i64 o.1, .int .i64 o.2]) ∧ Hid (RdP W w rb V ws T w') := by
  obtain ⟨o1, o2⟩ := o
  have HSP : Hid (∀ wv vwv wsv, RdAt W wv rb V vwv wsv T → wv.cell? ⟨rb, 15, none⟩ = some (.map (some V.mb)) ∧ (Instr.lookup 32 (.map (some V.mb)) (.string ⟨x.toArray⟩) true).run Tryz.prog wv = .ok (.tuple #[.agg #[.int .i64 o1, .int .i64 o2], .bool true]) wv) := fun wv vwv wsv hv => by
    refine ⟨(cell_of_row _ _ 15 _ _ (0, 0) hv.row).trans rfl, ?_⟩
    have h9 := hv.nm.look i hi true
    rw [hxi, ho] at h9
    exact h9
  have HNM : Hid (∀ wv, RdAt W wv rb V vw (x :: ws) T → Calls Tryz.prog 98 #[.pointer (some ⟨rb, 0, none⟩)] wv fun e w' => e = .returned (.string ⟨x.toArray⟩) ∧ Hid (RdP W wv rb V ws T w')) := fun wv hv => name_rd hv hx hl
  obtain ⟨w1, hw1⟩ : ∃ w1, w1 = w.alloc (.cells #[.int .i64 0, .int .i64 0] 46) := ⟨_, rfl⟩
  obtain ⟨qb, hqb⟩ : ∃ qb, qb = w.heap.size := ⟨_, rfl⟩
  have hq1 : w1.heap[qb]? = some (.cells #[.int .i64 0, .int .i64 0] 46 (0, 0)) := by rw [hw1, hqb]; exact heap_alloc_last w _
  have ho1 : Only (fun _ => False) w w1 := by rw [hw1]; exact (Only.refl _ w).alloc _
  have HH1 := Vx.hid (h.quiet ho1)
  have HQ1 : Hid (w1.heap[qb]? = some (.cells #[.int .i64 0, .int .i64 0] 46 (0, 0)) ∧ w.heap.size ≤ qb ∧ Only (fun k => k = rb) w w1 ∧ qb ≠ rb) := ⟨hq1, by omega, ho1.mono (fun _ _ h => h.elim), fun e => by have := lt_of_some h.row; omega⟩
  have HH := Vx.hid h
  clear h hq1 ho1 hi hxi ho hx hl
  dsimp only
  go_enter Tryz.func70, Tryz.ntmps70
  go_upto_region 1 with fail
  rw [← hw1, ← hqb]
  clear hw1 hqb
  go_cut [5, 6] from 7 (fun c5 c6 wx => ∃ ob, c5 = .pointer (some ⟨ob, 0, none⟩) ∧ c6 = .bool true ∧ Hid (ObQ W w rb V ws T (o1, o2) qb ob wx))
  case first =>
    have HX0 := Vx.hid (HH1.out.quiet ((Only.refl _ w1).drew))
    have HS0 := Vx.hid (HSP.out _ _ _ HX0.out)
    obtain ⟨wA, hwA⟩ : ∃ wA, wA = (w1.alloc (.cells #[.int .i64 0, .int .i64 0] 46)).drew := ⟨_, rfl⟩
    have hoA : Only (fun _ => False) w1 wA := by rw [hwA]; exact ((Only.refl _ _).alloc _).drew
    have HXA := Vx.hid (HH1.out.quiet hoA)
    have HSA := Vx.hid (HSP.out _ _ _ HXA.out)
    have HAA : Hid (wA.heap[w1.heap.size]? = some (.cells #[.int .i64 0, .int .i64 0] 46 (0, 0)) ∧ Only (fun k => k = rb) w wA ∧ wA.heap[qb]? = some (.cells #[.int .i64 0, .int .i64 0] 46 (0, 0)) ∧ qb < w1.heap.size) := ⟨by rw [hwA]; exact heap_alloc_last w1 _, HQ1.out.2.2.1.trans (hoA.mono (fun _ _ h => h.elim)), keepB hoA HQ1.out.1 (fun h => h), lt_of_some HQ1.out.1⟩
    clear hoA
    refine Vx.wp_region_free (S := (fun wv => wv.cell? ⟨rb, 15, none⟩ = some (.map (some V.mb)) ∧ (Instr.lookup 32 (.map (some V.mb)) (.string ⟨x.toArray⟩) true).run Tryz.prog wv = .ok (.tuple #[.agg #[.int .i64 o1, .int .i64 o2], .bool true]) wv)) (by kernel_rfl) ?_
    simp only [List.size_toArray, List.length_cons, List.length_nil, Nat.zero_add, Nat.reduceAdd]
    refine wpAnyH_take (i := 0) (v := ?v1_0_1) (by simp only [List.getElem?_toArray, List.getElem?_cons_zero, List.getElem?_cons_succ]; rfl) (by kernel_rfl) (by kernel_rfl) (by kernel_rfl) (by exact fun _ _ _ h => h) (Or.inl ⟨by rfl, ?hy1_0_1⟩) HS0.out ?_
    case hy1_0_1 => (intro wq hSw; (try dsimp only at hSw); go_simp; try (with_reducible rfl))
    try simp only [Act.put, List.setIfInBounds_toArray, List.set_cons_zero, List.set_cons_succ]
    refine wpAnyH_take (i := 1) (v := ?v1_1_2) (by simp only [List.getElem?_toArray, List.getElem?_cons_zero, List.getElem?_cons_succ]; rfl) (by kernel_rfl) (by kernel_rfl) (by kernel_rfl) (by exact fun _ _ _ h => h) (Or.inl ⟨by rfl, ?hy1_1_2⟩) HS0.out ?_
    case hy1_1_2 => (intro wq hSw; (try dsimp only at hSw); go_simp; try (with_reducible rfl))
    try simp only [Act.put, List.setIfInBounds_toArray, List.set_cons_zero, List.set_cons_succ]
    refine wpAnyH_take (i := 2) (v := ?v1_2_3) (by simp only [List.getElem?_toArray, List.getElem?_cons_zero, List.getElem?_cons_succ]; rfl) (by kernel_rfl) (by kernel_rfl) (by kernel_rfl) (by exact fun _ _ _ h => h) (Or.inl ⟨by rfl, ?hy1_2_3⟩) HS0.out ?_
    case hy1_2_3 => (intro wq hSw; (try dsimp only at hSw); go_simp; try (with_reducible rfl))
    try simp only [Act.put, List.setIfInBounds_toArray, List.set_cons_zero, List.set_cons_succ]
    refine wpAnyH_take (i := 3) (v := ?v1_3_4) (by simp only [List.getElem?_toArray, List.getElem?_cons_zero, List.getElem?_cons_succ]; rfl) (by kernel_rfl) (by kernel_rfl) (by kernel_rfl) (by exact fun _ _ _ h => h) (Or.inl ⟨by rfl, ?hy1_3_4⟩) HS0.out ?_
    case hy1_3_4 => (intro wq hSw; (try dsimp only at hSw); go_simp; try (with_reducible rfl))
    try simp only [Act.put, List.setIfInBounds_toArray, List.set_cons_zero, List.set_cons_succ]
    refine wpAnyH_take (i := 4) (v := ?v1_4_5) (by simp only [List.getElem?_toArray, List.getElem?_cons_zero, List.getElem?_cons_succ]; rfl) (by kernel_rfl) (by kernel_rfl) (by kernel_rfl) (by exact fun _ _ _ h => h) (Or.inl ⟨by rfl, ?hy1_4_5⟩) HS0.out ?_
    case hy1_4_5 => (intro wq hSw; (try dsimp only at hSw); go_simp; try (with_reducible rfl))
    try simp only [Act.put, List.setIfInBounds_toArray, List.set_cons_zero, List.set_cons_succ]
    refine wpAnyH_take (i := 5) (v := ?v1_5_6) (by simp only [List.getElem?_toArray, List.getElem?_cons_zero, List.getElem?_cons_succ]; rfl) (by kernel_rfl) (by kernel_rfl) (by kernel_rfl) (by exact fun _ _ _ h => h) (Or.inl ⟨by rfl, ?hy1_5_6⟩) HS0.out ?_
    case hy1_5_6 => (intro wq hSw; (try dsimp only at hSw); go_simp; try (with_reducible rfl))
    try simp only [Act.put, List.setIfInBounds_toArray, List.set_cons_zero, List.set_cons_succ]
    refine wpAnyH_ready (rs := [6, 11]) (by kernel_rfl) (by simp) ?_
    refine (AllReadyH.cons (by simp only [List.getElem?_toArray, List.getElem?_cons_zero, List.getElem?_cons_succ]; rfl) (fun K hK => ?_) (AllReadyH.cons (by simp only [List.getElem?_toArray, List.getElem?_cons_zero, List.getElem?_cons_succ]; rfl) (fun K hK => ?_) AllReadyH.nil))
    · as_aux_lemma =>
        refine Vx.step_callx rfl 98 #[Operand.tmp 13] #[101] rfl #[.pointer (some ⟨rb, 0, none⟩)] (by first | rfl | simp [Act.eval, go_sem]) (by simp [go_sem]) (HNM.out _ HX0.out) ?_
        rintro e w2 ⟨rfl, HP2⟩
        obtain ⟨hp21, vw2, hp22⟩ := HP2.out
        have HS2 := Vx.hid (HSP.out _ _ _ hp22)
        obtain ⟨wB, hwB⟩ : ∃ wB, wB = w2.alloc (.cells #[.int .i64 0, .int .i64 0] 46) := ⟨_, rfl⟩
        have hoB : Only (fun _ => False) w2 wB := by rw [hwB]; exact (Only.refl _ _).alloc _
        have HB2 : Hid (wB.heap[w2.heap.size]? = some (.cells #[.int .i64 0, .int .i64 0] 46 (0, 0))) := by show _ = _; rw [hwB]; exact heap_alloc_last w2 _
        have HXB : Hid (RdAt W wB rb V vw2 ws T) := hp22.quiet hoB
        have HSB := Vx.hid (HSP.out _ _ _ HXB.out)
        have HB3 : Hid (ObQ W w rb V ws T (o1, o2) qb w2.heap.size ((wB.setCell ⟨w2.heap.size, 0, none⟩ (.int .i64 o1)).setCell ⟨w2.heap.size, 1, none⟩ (.int .i64 o2))) := by
          have hs := set2 HB2.out (.int .i64 o1) (.int .i64 o2)
          have hqw : w2.heap[qb]? = some (.cells #[.int .i64 0, .int .i64 0] 46 (0, 0)) := keepB hp21 HQ1.out.1 HQ1.out.2.2.2
          have hqB := keepB hoB hqw (fun h => h)
          have hsz := (HQ1.out.2.2.1.drew.trans hp21).size
          refine ⟨RdP.newer ((HQ1.out.2.2.1.drew.trans hp21).trans (hoB.mono (fun _ _ h => h.elim))) ⟨_, HXB.out⟩ HB2.out hsz ⟨w2, _, _, _, hp22, Nat.le_refl _⟩ (by decide) hs.2, hs.1, keepB hs.2 hqB (fun e => by have := lt_of_some hqw; omega), HQ1.out.2.1, fun e => by have := lt_of_some hqw; omega⟩
        have b0 := (cell_of_row _ _ 0 _ _ (0, 0) HB2.out).trans rfl
        have b1 := (cell_of_row _ _ 1 _ _ (0, 0) HB2.out).trans rfl
        have bf0 := froz HB2.out 0
        have bf1 := froz HB2.out 1
        have HS4 := Vx.hid (HSP.out _ _ _ HB3.out.p.2.choose_spec)
        clear hp21 hp22 hoB
        refine ⟨_, rfl, ?_⟩
        refine hK.out _ _ HS2.out (fun _ => ?_)
        clear hK K
        try simp only [Act.put, List.setIfInBounds_toArray, List.set_cons_zero, List.set_cons_succ]
        refine wpAnyH_take (i := 7) (v := ?v1_7_7) (by simp only [List.getElem?_toArray, List.getElem?_cons_zero, List.getElem?_cons_succ]; rfl) (by kernel_rfl) (by kernel_rfl) (by kernel_rfl) (by exact fun _ _ _ h => h) (Or.inl ⟨by rfl, ?hy1_7_7⟩) HS2.out ?_
        case hy1_7_7 => (intro wq hSw; (try dsimp only at hSw); go_simp; try (with_reducible rfl))
        try simp only [Act.put, List.setIfInBounds_toArray, List.set_cons_zero, List.set_cons_succ]
        refine wpAnyH_take (i := 8) (v := ?v1_8_8) (by simp only [List.getElem?_toArray, List.getElem?_cons_zero, List.getElem?_cons_succ]; rfl) (by kernel_rfl) (by kernel_rfl) (by kernel_rfl) (by exact fun _ _ _ h => h) (Or.inl ⟨by rfl, ?hy1_8_8⟩) HS2.out ?_
        case hy1_8_8 => (intro wq hSw; (try dsimp only at hSw); go_simp; try (with_reducible rfl))
        try simp only [Act.put, List.setIfInBounds_toArray, List.set_cons_zero, List.set_cons_succ]
        refine wpAnyH_take (i := 9) (v := ?v1_9_9) (by simp only [List.getElem?_toArray, List.getElem?_cons_zero, List.getElem?_cons_succ]; rfl) (by kernel_rfl) (by kernel_rfl) (by kernel_rfl) (by exact fun _ _ _ h => h) (Or.inl ⟨by rfl, ?hy1_9_9⟩) HS2.out ?_
        case hy1_9_9 => (intro wq hSw; (try dsimp only at hSw); go_simp; try (with_reducible rfl))
        try simp only [Act.put, List.setIfInBounds_toArray, List.set_cons_zero, List.set_cons_succ]
        refine wpAnyH_take (i := 10) (v := ?v1_10_10) (by simp only [List.getElem?_toArray, List.getElem?_cons_zero, List.getElem?_cons_succ]; rfl) (by kernel_rfl) (by kernel_rfl) (by kernel_rfl) (by exact fun _ _ _ h => h) (Or.inl ⟨by rfl, ?hy1_10_10⟩) HS2.out ?_
        case hy1_10_10 => (intro wq hSw; (try dsimp only at hSw); go_simp; try (with_reducible rfl))
        try simp only [Act.put, List.setIfInBounds_toArray, List.set_cons_zero, List.set_cons_succ]
        refine wpAnyH_ready (rs := [11]) (by kernel_rfl) (by simp) ?_
        refine (AllReadyH.cons (by simp only [List.getElem?_toArray, List.getElem?_cons_zero, List.getElem?_cons_succ]; rfl) (fun K hK => ?_) AllReadyH.nil)
        go_simp
        rw [← hwB]
        clear hwB
        refine hK.out _ _ HSB.out (fun _ => ?_)
        clear hK K
        try simp only [Act.put, List.setIfInBounds_toArray, List.set_cons_zero, List.set_cons_succ]
        refine wpAnyH_ready (rs := [12]) (by kernel_rfl) (by simp) ?_
        refine (AllReadyH.cons (by simp only [List.getElem?_toArray, List.getElem?_cons_zero, List.getElem?_cons_succ]; rfl) (fun K hK => ?_) AllReadyH.nil)
        go_simp
        refine hK.out _ _ HS4.out (fun _ => ?_)
        clear hK K
        try simp only [Act.put, List.setIfInBounds_toArray, List.set_cons_zero, List.set_cons_succ]
        refine wpAnyH_take (i := 13) (v := ?v1_13_11) (by simp only [List.getElem?_toArray, List.getElem?_cons_zero, List.getElem?_cons_succ]; rfl) (by kernel_rfl) (by kernel_rfl) (by kernel_rfl) (by exact fun _ _ _ h => h) (Or.inl ⟨by rfl, ?hy1_13_11⟩) HS4.out ?_
        case hy1_13_11 => (intro wq hSw; (try dsimp only at hSw); go_simp; try (with_reducible rfl))
        try simp only [Act.put, List.setIfInBounds_toArray, List.set_cons_zero, List.set_cons_succ]
        refine wpAnyH_done (by kernel_rfl) ?_ _
        go_wp2_with fail
        go_meet
        exact ⟨_, rfl, rfl, HB3.out⟩
    · as_aux_lemma =>
        go_simp
        rw [← hwA]
        refine hK.out _ _ HSA.out (fun _ => ?_)
        clear hK K
        try simp only [Act.put, List.setIfInBounds_toArray, List.set_cons_zero, List.set_cons_succ]
        refine wpAnyH_ready (rs := [6]) (by kernel_rfl) (by simp) ?_
        refine (AllReadyH.cons (by simp only [List.getElem?_toArray, List.getElem?_cons_zero, List.getElem?_cons_succ]; rfl) (fun K hK => ?_) AllReadyH.nil)
        refine Vx.step_callx rfl 98 #[Operand.tmp 13] #[101] rfl #[.pointer (some ⟨rb, 0, none⟩)] (by first | rfl | simp [Act.eval, go_sem]) (by simp [go_sem]) (HNM.out _ HXA.out) ?_
        rintro e w2 ⟨rfl, HP2⟩
        obtain ⟨hp21, vw2, hp22⟩ := HP2.out
        have HS2 := Vx.hid (HSP.out _ _ _ hp22)
        have HB2 : Hid (w2.heap[w1.heap.size]? = some (.cells #[.int .i64 0, .int .i64 0] 46 (0, 0))) := keepB hp21 HAA.out.1 (fun e => by have := lt_of_some HH1.out.row; omega)
        have HB3 : Hid (ObQ W w rb V ws T (o1, o2) qb w1.heap.size ((w2.setCell ⟨w1.heap.size, 0, none⟩ (.int .i64 o1)).setCell ⟨w1.heap.size, 1, none⟩ (.int .i64 o2))) := by
          have hs := set2 HB2.out (.int .i64 o1) (.int .i64 o2)
          have hqw : w2.heap[qb]? = some (.cells #[.int .i64 0, .int .i64 0] 46 (0, 0)) := keepB hp21 HAA.out.2.2.1 HQ1.out.2.2.2
          refine ⟨RdP.newer (HAA.out.2.1.trans hp21) ⟨_, hp22⟩ HB2.out (by have := HQ1.out.2.2.1.size; omega) ⟨w1, _, _, _, HH1.out, Nat.le_refl _⟩ (by decide) hs.2, hs.1, keepB hs.2 hqw (fun e => by have := HAA.out.2.2.2; omega), HQ1.out.2.1, fun e => by have := HAA.out.2.2.2; omega⟩
        have b0 := (cell_of_row _ _ 0 _ _ (0, 0) HB2.out).trans rfl
        have b1 := (cell_of_row _ _ 1 _ _ (0, 0) HB2.out).trans rfl
        have bf0 := froz HB2.out 0
        have bf1 := froz HB2.out 1
        have HS4 := Vx.hid (HSP.out _ _ _ HB3.out.p.2.choose_spec)
        clear hp21 hp22
        refine ⟨_, rfl, ?_⟩
        refine hK.out _ _ HS2.out (fun _ => ?_)
        clear hK K
        try simp only [Act.put, List.setIfInBounds_toArray, List.set_cons_zero, List.set_cons_succ]
        refine wpAnyH_take (i := 7) (v := ?v1_7_12) (by simp only [List.getElem?_toArray, List.getElem?_cons_zero, List.getElem?_cons_succ]; rfl) (by kernel_rfl) (by kernel_rfl) (by kernel_rfl) (by exact fun _ _ _ h => h) (Or.inl ⟨by rfl, ?hy1_7_12⟩) HS2.out ?_
        case hy1_7_12 => (intro wq hSw; (try dsimp only at hSw); go_simp; try (with_reducible rfl))
        try simp only [Act.put, List.setIfInBounds_toArray, List.set_cons_zero, List.set_cons_succ]
        refine wpAnyH_take (i := 8) (v := ?v1_8_13) (by simp only [List.getElem?_toArray, List.getElem?_cons_zero, List.getElem?_cons_succ]; rfl) (by kernel_rfl) (by kernel_rfl) (by kernel_rfl) (by exact fun _ _ _ h => h) (Or.inl ⟨by rfl, ?hy1_8_13⟩) HS2.out ?_
        case hy1_8_13 => (intro wq hSw; (try dsimp only at hSw); go_simp; try (with_reducible rfl))
        try simp only [Act.put, List.setIfInBounds_toArray, List.set_cons_zero, List.set_cons_succ]
        refine wpAnyH_take (i := 9) (v := ?v1_9_14) (by simp only [List.getElem?_toArray, List.getElem?_cons_zero, List.getElem?_cons_succ]; rfl) (by kernel_rfl) (by kernel_rfl) (by kernel_rfl) (by exact fun _ _ _ h => h) (Or.inl ⟨by rfl, ?hy1_9_14⟩) HS2.out ?_
        case hy1_9_14 => (intro wq hSw; (try dsimp only at hSw); go_simp; try (with_reducible rfl))
        try simp only [Act.put, List.setIfInBounds_toArray, List.set_cons_zero, List.set_cons_succ]
        refine wpAnyH_take (i := 10) (v := ?v1_10_15) (by simp only [List.getElem?_toArray, List.getElem?_cons_zero, List.getElem?_cons_succ]; rfl) (by kernel_rfl) (by kernel_rfl) (by kernel_rfl) (by exact fun _ _ _ h => h) (Or.inl ⟨by rfl, ?hy1_10_15⟩) HS2.out ?_
        case hy1_10_15 => (intro wq hSw; (try dsimp only at hSw); go_simp; try (with_reducible rfl))
        try simp only [Act.put, List.setIfInBounds_toArray, List.set_cons_zero, List.set_cons_succ]
        refine wpAnyH_ready (rs := [12]) (by kernel_rfl) (by simp) ?_
        refine (AllReadyH.cons (by simp only [List.getElem?_toArray, List.getElem?_cons_zero, List.getElem?_cons_succ]; rfl) (fun K hK => ?_) AllReadyH.nil)
        go_simp
        refine hK.out _ _ HS4.out (fun _ => ?_)
        clear hK K
        try simp only [Act.put, List.setIfInBounds_toArray, List.set_cons_zero, List.set_cons_succ]
        refine wpAnyH_take (i := 13) (v := ?v1_13_16) (by simp only [List.getElem?_toArray, List.getElem?_cons_zero, List.getElem?_cons_succ]; rfl) (by kernel_rfl) (by kernel_rfl) (by kernel_rfl) (by exact fun _ _ _ h => h) (Or.inl ⟨by rfl, ?hy1_13_16⟩) HS4.out ?_
        case hy1_13_16 => (intro wq hSw; (try dsimp only at hSw); go_simp; try (with_reducible rfl))
        try simp only [Act.put, List.setIfInBounds_toArray, List.set_cons_zero, List.set_cons_succ]
        refine wpAnyH_done (by kernel_rfl) ?_ _
        go_wp2_with fail
        go_meet
        exact ⟨_, rfl, rfl, HB3.out⟩
  case rest =>
    obtain ⟨ob, rfl, rfl, HQX⟩ := hcut
    have k0 : wc.cell? ⟨ob, 0, none⟩ = some (.int .i64 o1) := (cell_of_row _ _ 0 _ _ (0, 0) HQX.out.o).trans rfl
    have k1 : wc.cell? ⟨ob, 1, none⟩ = some (.int .i64 o2) := (cell_of_row _ _ 1 _ _ (0, 0) HQX.out.o).trans rfl
    have q0 : wc.cell? ⟨qb, 0, none⟩ = some (.int .i64 0) := (cell_of_row _ _ 0 _ _ (0, 0) HQX.out.q).trans rfl
    have q1 : wc.cell? ⟨qb, 1, none⟩ = some (.int .i64 0) := (cell_of_row _ _ 1 _ _ (0, 0) HQX.out.q).trans rfl
    have f0 := froz HQX.out.q 0
    have f1 := froz HQX.out.q 1
    go_wp2_with fail
    refine bodyPost_ret (v := .agg #[.int .i64 o1, .int .i64 o2]) ?_ rfl ⟨rfl, ?_⟩
    · simp [results, Tryz.results70, go_sem, q0, q1]
    · have hs := set2 HQX.out.q (.int .i64 o1) (.int .i64 o2)
      exact RdP.newer HQX.out.p.1 HQX.out.p.2 HQX.out.q HQX.out.n ⟨w, _, _, _, HH.out, HQX.out.n⟩ (by decide) hs.2
set_option maxRecDepth 100000 in
set_option maxHeartbeats 2000000 in
theorem robj_of (h : RdAt W w rb V vw (x :: ws) T) (hx : NmOk x) (i : Nat) (hi : i < T.nm.length) (hxi : T.nm[i] = x) (o : Sl) (ho : T.ar.getD i (0, 0) = o) {pk : Option Addr} {nk ck : Nat} (hk : 0 < nk) (hc : ∀ wv, Only (fun k => k = rb) w wv → Calls Tryz.prog 99 #[.slice pk nk ck, .int .i64 o.1] wv fun e w' => e = .returned (.bool true) ∧ w' = wv) (hl : ws.length ≤ 30000) :
    Calls Tryz.prog 70 #[.pointer (some ⟨rb, 0, none⟩), .slice pk nk ck] w fun e w' => e = .returned (.agg #[.int .i64 o.1, .int .i64 o.2]) ∧ Hid (RdP W w rb V ws T w') := by
  obtain ⟨o1, o2⟩ := o
  have HSP : Hid (∀ wv vwv wsv, RdAt W wv rb V vwv wsv T → wv.cell? ⟨rb, 15, none⟩ = some (.map (some V.mb)) ∧ (Instr.lookup 32 (.map (some V.mb)) (.string ⟨x.toArray⟩) true).run Tryz.prog wv = .ok (.tuple #[.agg #[.int .i64 o1, .int .i64 o2], .bool true]) wv) := fun wv vwv wsv hv => by
    refine ⟨(cell_of_row _ _ 15 _ _ (0, 0) hv.row).trans rfl, ?_⟩
    have h9 := hv.nm.look i hi true
    rw [hxi, ho] at h9
    exact h9
  have HNM : Hid (∀ wv, RdAt W wv rb V vw (x :: ws) T → Calls Tryz.prog 98 #[.pointer (some ⟨rb, 0, none⟩)] wv fun e w' => e = .returned (.string ⟨x.toArray⟩) ∧ Hid (RdP W wv rb V ws T w')) := fun wv hv => name_rd hv hx hl
  obtain ⟨w1, hw1⟩ : ∃ w1, w1 = w.alloc (.cells #[.int .i64 0, .int .i64 0] 46) := ⟨_, rfl⟩
  obtain ⟨qb, hqb⟩ : ∃ qb, qb = w.heap.size := ⟨_, rfl⟩
  have hq1 : w1.heap[qb]? = some (.cells #[.int .i64 0, .int .i64 0] 46 (0, 0)) := by rw [hw1, hqb]; exact heap_alloc_last w _
  have ho1 : Only (fun _ => False) w w1 := by rw [hw1]; exact (Only.refl _ w).alloc _
  have HH1 := Vx.hid (h.quiet ho1)
  have HQ1 : Hid (w1.heap[qb]? = some (.cells #[.int .i64 0, .int .i64 0] 46 (0, 0)) ∧ w.heap.size ≤ qb ∧ Only (fun k => k = rb) w w1 ∧ qb ≠ rb) := ⟨hq1, by omega, ho1.mono (fun _ _ h => h.elim), fun e => by have := lt_of_some h.row; omega⟩
  have HH := Vx.hid h
  have HC := Vx.hid hc
  have hk2 : (0 : Int) < (nk : Int) := by omega
  clear hc
  clear h hq1 ho1 hi hxi ho hx hl
  dsimp only
  go_enter Tryz.func70, Tryz.ntmps70
  go_upto_region 1 with fail
  rw [← hw1, ← hqb]
  clear hw1 hqb
  go_cut [5, 6] from 7 (fun c5 c6 wx => ∃ ob, c5 = .pointer (some ⟨ob, 0, none⟩) ∧ c6 = .bool true ∧ Hid (ObQ W w rb V ws T (o1, o2) qb ob wx))
  case first =>
    have HX0 := Vx.hid (HH1.out.quiet ((Only.refl _ w1).drew))
    have HS0 := Vx.hid (HSP.out _ _ _ HX0.out)
    obtain ⟨wA, hwA⟩ : ∃ wA, wA = (w1.alloc (.cells #[.int .i64 0, .int .i64 0] 46)).drew := ⟨_, rfl⟩
    have hoA : Only (fun _ => False) w1 wA := by rw [hwA]; exact ((Only.refl _ _).alloc _).drew
    have HXA := Vx.hid (HH1.out.quiet hoA)
    have HSA := Vx.hid (HSP.out _ _ _ HXA.out)
    have HAA : Hid (wA.heap[w1.heap.size]? = some (.cells #[.int .i64 0, .int .i64 0] 46 (0, 0)) ∧ Only (fun k => k = rb) w wA ∧ wA.heap[qb]? = some (.cells #[.int .i64 0, .int .i64 0] 46 (0, 0)) ∧ qb < w1.heap.size) := ⟨by rw [hwA]; exact heap_alloc_last w1 _, HQ1.out.2.2.1.trans (hoA.mono (fun _ _ h => h.elim)), keepB hoA HQ1.out.1 (fun h => h), lt_of_some HQ1.out.1⟩
    clear hoA
    refine Vx.wp_region_free (S := (fun wv => wv.cell? ⟨rb, 15, none⟩ = some (.map (some V.mb)) ∧ (Instr.lookup 32 (.map (some V.mb)) (.string ⟨x.toArray⟩) true).run Tryz.prog wv = .ok (.tuple #[.agg #[.int .i64 o1, .int .i64 o2], .bool true]) wv)) (by kernel_rfl) ?_
    simp only [List.size_toArray, List.length_cons, List.length_nil, Nat.zero_add, Nat.reduceAdd]
    refine wpAnyH_take (i := 0) (v := ?v1_0_1) (by simp only [List.getElem?_toArray, List.getElem?_cons_zero, List.getElem?_cons_succ]; rfl) (by kernel_rfl) (by kernel_rfl) (by kernel_rfl) (by exact fun _ _ _ h => h) (Or.inl ⟨by rfl, ?hy1_0_1⟩) HS0.out ?_
    case hy1_0_1 => (intro wq hSw; (try dsimp only at hSw); go_simp; try (with_reducible rfl))
    try simp only [Act.put, List.setIfInBounds_toArray, List.set_cons_zero, List.set_cons_succ]
    refine wpAnyH_take (i := 1) (v := ?v1_1_2) (by simp only [List.getElem?_toArray, List.getElem?_cons_zero, List.getElem?_cons_succ]; rfl) (by kernel_rfl) (by kernel_rfl) (by kernel_rfl) (by exact fun _ _ _ h => h) (Or.inl ⟨by rfl, ?hy1_1_2⟩) HS0.out ?_
    case hy1_1_2 => (intro wq hSw; (try dsimp only at hSw); go_simp; try (with_reducible rfl))
    try simp only [Act.put, List.setIfInBounds_toArray, List.set_cons_zero, List.set_cons_succ]
    refine wpAnyH_take (i := 2) (v := ?v1_2_3) (by simp only [List.getElem?_toArray, List.getElem?_cons_zero, List.getElem?_cons_succ]; rfl) (by kernel_rfl) (by kernel_rfl) (by kernel_rfl) (by exact fun _ _ _ h => h) (Or.inl ⟨by rfl, ?hy1_2_3⟩) HS0.out ?_
    case hy1_2_3 => (intro wq hSw; (try dsimp only at hSw); go_simp; try (with_reducible rfl))
    try simp only [Act.put, List.setIfInBounds_toArray, List.set_cons_zero, List.set_cons_succ]
    refine wpAnyH_take (i := 3) (v := ?v1_3_4) (by simp only [List.getElem?_toArray, List.getElem?_cons_zero, List.getElem?_cons_succ]; rfl) (by kernel_rfl) (by kernel_rfl) (by kernel_rfl) (by exact fun _ _ _ h => h) (Or.inl ⟨by rfl, ?hy1_3_4⟩) HS0.out ?_
    case hy1_3_4 => (intro wq hSw; (try dsimp only at hSw); go_simp; try (with_reducible rfl))
    try simp only [Act.put, List.setIfInBounds_toArray, List.set_cons_zero, List.set_cons_succ]
    refine wpAnyH_take (i := 4) (v := ?v1_4_5) (by simp only [List.getElem?_toArray, List.getElem?_cons_zero, List.getElem?_cons_succ]; rfl) (by kernel_rfl) (by kernel_rfl) (by kernel_rfl) (by exact fun _ _ _ h => h) (Or.inl ⟨by rfl, ?hy1_4_5⟩) HS0.out ?_
    case hy1_4_5 => (intro wq hSw; (try dsimp only at hSw); go_simp; try (with_reducible rfl))
    try simp only [Act.put, List.setIfInBounds_toArray, List.set_cons_zero, List.set_cons_succ]
    refine wpAnyH_take (i := 5) (v := ?v1_5_6) (by simp only [List.getElem?_toArray, List.getElem?_cons_zero, List.getElem?_cons_succ]; rfl) (by kernel_rfl) (by kernel_rfl) (by kernel_rfl) (by exact fun _ _ _ h => h) (Or.inl ⟨by rfl, ?hy1_5_6⟩) HS0.out ?_
    case hy1_5_6 => (intro wq hSw; (try dsimp only at hSw); go_simp; try (with_reducible rfl))
    try simp only [Act.put, List.setIfInBounds_toArray, List.set_cons_zero, List.set_cons_succ]
    refine wpAnyH_ready (rs := [6, 11]) (by kernel_rfl) (by simp) ?_
    refine (AllReadyH.cons (by simp only [List.getElem?_toArray, List.getElem?_cons_zero, List.getElem?_cons_succ]; rfl) (fun K hK => ?_) (AllReadyH.cons (by simp only [List.getElem?_toArray, List.getElem?_cons_zero, List.getElem?_cons_succ]; rfl) (fun K hK => ?_) AllReadyH.nil))
    · as_aux_lemma =>
        refine Vx.step_callx rfl 98 #[Operand.tmp 13] #[101] rfl #[.pointer (some ⟨rb, 0, none⟩)] (by first | rfl | simp [Act.eval, go_sem]) (by simp [go_sem]) (HNM.out _ HX0.out) ?_
        rintro e w2 ⟨rfl, HP2⟩
        obtain ⟨hp21, vw2, hp22⟩ := HP2.out
        have HS2 := Vx.hid (HSP.out _ _ _ hp22)
        obtain ⟨wB, hwB⟩ : ∃ wB, wB = w2.alloc (.cells #[.int .i64 0, .int .i64 0] 46) := ⟨_, rfl⟩
        have hoB : Only (fun _ => False) w2 wB := by rw [hwB]; exact (Only.refl _ _).alloc _
        have HB2 : Hid (wB.heap[w2.heap.size]? = some (.cells #[.int .i64 0, .int .i64 0] 46 (0, 0))) := by show _ = _; rw [hwB]; exact heap_alloc_last w2 _
        have HXB : Hid (RdAt W wB rb V vw2 ws T) := hp22.quiet hoB
        have HSB := Vx.hid (HSP.out _ _ _ HXB.out)
        have HB3 : Hid (ObQ W w rb V ws T (o1, o2) qb w2.heap.size ((wB.setCell ⟨w2.heap.size, 0, none⟩ (.int .i64 o1)).setCell ⟨w2.heap.size, 1, none⟩ (.int .i64 o2))) := by
          have hs := set2 HB2.out (.int .i64 o1) (.int .i64 o2)
          have hqw : w2.heap[qb]? = some (.cells #[.int .i64 0, .int .i64 0] 46 (0, 0)) := keepB hp21 HQ1.out.1 HQ1.out.2.2.2
          have hqB := keepB hoB hqw (fun h => h)
          have hsz := (HQ1.out.2.2.1.drew.trans hp21).size
          refine ⟨RdP.newer ((HQ1.out.2.2.1.drew.trans hp21).trans (hoB.mono (fun _ _ h => h.elim))) ⟨_, HXB.out⟩ HB2.out hsz ⟨w2, _, _, _, hp22, Nat.le_refl _⟩ (by decide) hs.2, hs.1, keepB hs.2 hqB (fun e => by have := lt_of_some hqw; omega), HQ1.out.2.1, fun e => by have := lt_of_some hqw; omega⟩
        have b0 := (cell_of_row _ _ 0 _ _ (0, 0) HB2.out).trans rfl
        have b1 := (cell_of_row _ _ 1 _ _ (0, 0) HB2.out).trans rfl
        have bf0 := froz HB2.out 0
        have bf1 := froz HB2.out 1
        have HS4 := Vx.hid (HSP.out _ _ _ HB3.out.p.2.choose_spec)
        clear hp21 hp22 hoB
        refine ⟨_, rfl, ?_⟩
        refine hK.out _ _ HS2.out (fun _ => ?_)
        clear hK K
        try simp only [Act.put, List.setIfInBounds_toArray, List.set_cons_zero, List.set_cons_succ]
        refine wpAnyH_take (i := 7) (v := ?v1_7_7) (by simp only [List.getElem?_toArray, List.getElem?_cons_zero, List.getElem?_cons_succ]; rfl) (by kernel_rfl) (by kernel_rfl) (by kernel_rfl) (by exact fun _ _ _ h => h) (Or.inl ⟨by rfl, ?hy1_7_7⟩) HS2.out ?_
        case hy1_7_7 => (intro wq hSw; (try dsimp only at hSw); go_simp; try (with_reducible rfl))
        try simp only [Act.put, List.setIfInBounds_toArray, List.set_cons_zero, List.set_cons_succ]
        refine wpAnyH_take (i := 8) (v := ?v1_8_8) (by simp only [List.getElem?_toArray, List.getElem?_cons_zero, List.getElem?_cons_succ]; rfl) (by kernel_rfl) (by kernel_rfl) (by kernel_rfl) (by exact fun _ _ _ h => h) (Or.inl ⟨by rfl, ?hy1_8_8⟩) HS2.out ?_
        case hy1_8_8 => (intro wq hSw; (try dsimp only at hSw); go_simp; try (with_reducible rfl))
        try simp only [Act.put, List.setIfInBounds_toArray, List.set_cons_zero, List.set_cons_succ]
        refine wpAnyH_take (i := 9) (v := ?v1_9_9) (by simp only [List.getElem?_toArray, List.getElem?_cons_zero, List.getElem?_cons_succ]; rfl) (by kernel_rfl) (by kernel_rfl) (by kernel_rfl) (by exact fun _ _ _ h => h) (Or.inl ⟨by rfl, ?hy1_9_9⟩) HS2.out ?_
        case hy1_9_9 => (intro wq hSw; (try dsimp only at hSw); go_simp; try (with_reducible rfl))
        try simp only [Act.put, List.setIfInBounds_toArray, List.set_cons_zero, List.set_cons_succ]
        refine wpAnyH_take (i := 10) (v := ?v1_10_10) (by simp only [List.getElem?_toArray, List.getElem?_cons_zero, List.getElem?_cons_succ]; rfl) (by kernel_rfl) (by kernel_rfl) (by kernel_rfl) (by exact fun _ _ _ h => h) (Or.inl ⟨by rfl, ?hy1_10_10⟩) HS2.out ?_
        case hy1_10_10 => (intro wq hSw; (try dsimp only at hSw); go_simp; try (with_reducible rfl))
        try simp only [Act.put, List.setIfInBounds_toArray, List.set_cons_zero, List.set_cons_succ]
        refine wpAnyH_ready (rs := [11]) (by kernel_rfl) (by simp) ?_
        refine (AllReadyH.cons (by simp only [List.getElem?_toArray, List.getElem?_cons_zero, List.getElem?_cons_succ]; rfl) (fun K hK => ?_) AllReadyH.nil)
        go_simp
        rw [← hwB]
        clear hwB
        refine hK.out _ _ HSB.out (fun _ => ?_)
        clear hK K
        try simp only [Act.put, List.setIfInBounds_toArray, List.set_cons_zero, List.set_cons_succ]
        refine wpAnyH_ready (rs := [12]) (by kernel_rfl) (by simp) ?_
        refine (AllReadyH.cons (by simp only [List.getElem?_toArray, List.getElem?_cons_zero, List.getElem?_cons_succ]; rfl) (fun K hK => ?_) AllReadyH.nil)
        go_simp
        refine hK.out _ _ HS4.out (fun _ => ?_)
        clear hK K
        try simp only [Act.put, List.setIfInBounds_toArray, List.set_cons_zero, List.set_cons_succ]
        refine wpAnyH_take (i := 13) (v := ?v1_13_11) (by simp only [List.getElem?_toArray, List.getElem?_cons_zero, List.getElem?_cons_succ]; rfl) (by kernel_rfl) (by kernel_rfl) (by kernel_rfl) (by exact fun _ _ _ h => h) (Or.inl ⟨by rfl, ?hy1_13_11⟩) HS4.out ?_
        case hy1_13_11 => (intro wq hSw; (try dsimp only at hSw); go_simp; try (with_reducible rfl))
        try simp only [Act.put, List.setIfInBounds_toArray, List.set_cons_zero, List.set_cons_succ]
        refine wpAnyH_done (by kernel_rfl) ?_ _
        go_wp2_with fail
        go_meet
        exact ⟨_, rfl, rfl, HB3.out⟩
    · as_aux_lemma =>
        go_simp
        rw [← hwA]
        refine hK.out _ _ HSA.out (fun _ => ?_)
        clear hK K
        try simp only [Act.put, List.setIfInBounds_toArray, List.set_cons_zero, List.set_cons_succ]
        refine wpAnyH_ready (rs := [6]) (by kernel_rfl) (by simp) ?_
        refine (AllReadyH.cons (by simp only [List.getElem?_toArray, List.getElem?_cons_zero, List.getElem?_cons_succ]; rfl) (fun K hK => ?_) AllReadyH.nil)
        refine Vx.step_callx rfl 98 #[Operand.tmp 13] #[101] rfl #[.pointer (some ⟨rb, 0, none⟩)] (by first | rfl | simp [Act.eval, go_sem]) (by simp [go_sem]) (HNM.out _ HXA.out) ?_
        rintro e w2 ⟨rfl, HP2⟩
        obtain ⟨hp21, vw2, hp22⟩ := HP2.out
        have HS2 := Vx.hid (HSP.out _ _ _ hp22)
        have HB2 : Hid (w2.heap[w1.heap.size]? = some (.cells #[.int .i64 0, .int .i64 0] 46 (0, 0))) := keepB hp21 HAA.out.1 (fun e => by have := lt_of_some HH1.out.row; omega)
        have HB3 : Hid (ObQ W w rb V ws T (o1, o2) qb w1.heap.size ((w2.setCell ⟨w1.heap.size, 0, none⟩ (.int .i64 o1)).setCell ⟨w1.heap.size, 1, none⟩ (.int .i64 o2))) := by
          have hs := set2 HB2.out (.int .i64 o1) (.int .i64 o2)
          have hqw : w2.heap[qb]? = some (.cells #[.int .i64 0, .int .i64 0] 46 (0, 0)) := keepB hp21 HAA.out.2.2.1 HQ1.out.2.2.2
          refine ⟨RdP.newer (HAA.out.2.1.trans hp21) ⟨_, hp22⟩ HB2.out (by have := HQ1.out.2.2.1.size; omega) ⟨w1, _, _, _, HH1.out, Nat.le_refl _⟩ (by decide) hs.2, hs.1, keepB hs.2 hqw (fun e => by have := HAA.out.2.2.2; omega), HQ1.out.2.1, fun e => by have := HAA.out.2.2.2; omega⟩
        have b0 := (cell_of_row _ _ 0 _ _ (0, 0) HB2.out).trans rfl
        have b1 := (cell_of_row _ _ 1 _ _ (0, 0) HB2.out).trans rfl
        have bf0 := froz HB2.out 0
        have bf1 := froz HB2.out 1
        have HS4 := Vx.hid (HSP.out _ _ _ HB3.out.p.2.choose_spec)
        clear hp21 hp22
        refine ⟨_, rfl, ?_⟩
        refine hK.out _ _ HS2.out (fun _ => ?_)
        clear hK K
        try simp only [Act.put, List.setIfInBounds_toArray, List.set_cons_zero, List.set_cons_succ]
        refine wpAnyH_take (i := 7) (v := ?v1_7_12) (by simp only [List.getElem?_toArray, List.getElem?_cons_zero, List.getElem?_cons_succ]; rfl) (by kernel_rfl) (by kernel_rfl) (by kernel_rfl) (by exact fun _ _ _ h => h) (Or.inl ⟨by rfl, ?hy1_7_12⟩) HS2.out ?_
        case hy1_7_12 => (intro wq hSw; (try dsimp only at hSw); go_simp; try (with_reducible rfl))
        try simp only [Act.put, List.setIfInBounds_toArray, List.set_cons_zero, List.set_cons_succ]
        refine wpAnyH_take (i := 8) (v := ?v1_8_13) (by simp only [List.getElem?_toArray, List.getElem?_cons_zero, List.getElem?_cons_succ]; rfl) (by kernel_rfl) (by kernel_rfl) (by kernel_rfl) (by exact fun _ _ _ h => h) (Or.inl ⟨by rfl, ?hy1_8_13⟩) HS2.out ?_
        case hy1_8_13 => (intro wq hSw; (try dsimp only at hSw); go_simp; try (with_reducible rfl))
        try simp only [Act.put, List.setIfInBounds_toArray, List.set_cons_zero, List.set_cons_succ]
        refine wpAnyH_take (i := 9) (v := ?v1_9_14) (by simp only [List.getElem?_toArray, List.getElem?_cons_zero, List.getElem?_cons_succ]; rfl) (by kernel_rfl) (by kernel_rfl) (by kernel_rfl) (by exact fun _ _ _ h => h) (Or.inl ⟨by rfl, ?hy1_9_14⟩) HS2.out ?_
        case hy1_9_14 => (intro wq hSw; (try dsimp only at hSw); go_simp; try (with_reducible rfl))
        try simp only [Act.put, List.setIfInBounds_toArray, List.set_cons_zero, List.set_cons_succ]
        refine wpAnyH_take (i := 10) (v := ?v1_10_15) (by simp only [List.getElem?_toArray, List.getElem?_cons_zero, List.getElem?_cons_succ]; rfl) (by kernel_rfl) (by kernel_rfl) (by kernel_rfl) (by exact fun _ _ _ h => h) (Or.inl ⟨by rfl, ?hy1_10_15⟩) HS2.out ?_
        case hy1_10_15 => (intro wq hSw; (try dsimp only at hSw); go_simp; try (with_reducible rfl))
        try simp only [Act.put, List.setIfInBounds_toArray, List.set_cons_zero, List.set_cons_succ]
        refine wpAnyH_ready (rs := [12]) (by kernel_rfl) (by simp) ?_
        refine (AllReadyH.cons (by simp only [List.getElem?_toArray, List.getElem?_cons_zero, List.getElem?_cons_succ]; rfl) (fun K hK => ?_) AllReadyH.nil)
        go_simp
        refine hK.out _ _ HS4.out (fun _ => ?_)
        clear hK K
        try simp only [Act.put, List.setIfInBounds_toArray, List.set_cons_zero, List.set_cons_succ]
        refine wpAnyH_take (i := 13) (v := ?v1_13_16) (by simp only [List.getElem?_toArray, List.getElem?_cons_zero, List.getElem?_cons_succ]; rfl) (by kernel_rfl) (by kernel_rfl) (by kernel_rfl) (by exact fun _ _ _ h => h) (Or.inl ⟨by rfl, ?hy1_13_16⟩) HS4.out ?_
        case hy1_13_16 => (intro wq hSw; (try dsimp only at hSw); go_simp; try (with_reducible rfl))
        try simp only [Act.put, List.setIfInBounds_toArray, List.set_cons_zero, List.set_cons_succ]
        refine wpAnyH_done (by kernel_rfl) ?_ _
        go_wp2_with fail
        go_meet
        exact ⟨_, rfl, rfl, HB3.out⟩
  case rest =>
    obtain ⟨ob, rfl, rfl, HQX⟩ := hcut
    have k0 : wc.cell? ⟨ob, 0, none⟩ = some (.int .i64 o1) := (cell_of_row _ _ 0 _ _ (0, 0) HQX.out.o).trans rfl
    have k1 : wc.cell? ⟨ob, 1, none⟩ = some (.int .i64 o2) := (cell_of_row _ _ 1 _ _ (0, 0) HQX.out.o).trans rfl
    have q0 : wc.cell? ⟨qb, 0, none⟩ = some (.int .i64 0) := (cell_of_row _ _ 0 _ _ (0, 0) HQX.out.q).trans rfl
    have q1 : wc.cell? ⟨qb, 1, none⟩ = some (.int .i64 0) := (cell_of_row _ _ 1 _ _ (0, 0) HQX.out.q).trans rfl
    have f0 := froz HQX.out.q 0
    have f1 := froz HQX.out.q 1
    go_wp2_with fail
    refine (HC.out _ HQX.out.p.1).mono ?_
    rintro e w9 ⟨rfl, hw9⟩
    have hw8 := hw9.symm
    clear hw9
    subst hw8
    go_wp2_with fail
    refine bodyPost_ret (v := .agg #[.int .i64 o1, .int .i64 o2]) ?_ rfl ⟨rfl, ?_⟩
    · simp [results, Tryz.results70, go_sem, q0, q1]
    · have hs := set2 HQX.out.q (.int .i64 o1) (.int .i64 o2)
      exact RdP.newer HQX.out.p.1 HQX.out.p.2 HQX.out.q HQX.out.n ⟨w, _, _, _, HH.out, HQX.out.n⟩ (by decide) hs.2
end Go.Proofs.YtgacifbpjdakaaaGreatDoor

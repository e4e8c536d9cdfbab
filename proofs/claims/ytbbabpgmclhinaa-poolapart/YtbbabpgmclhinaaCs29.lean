import Derived.Test.YtbbabpgmclhinaaCs28
/- Chapter 8, the program's pool: regions that meet; an object's region. -/
namespace Go.Proofs.Ytbbabpgmclhinaa
open Go.ChangeShapes Go.WideShapes Go.ChangeAt Go.RowKit
open Go.Vx
set_option linter.unusedVariables false

/-- Two blocks laid one behind the other. -/
theorem laid_two (w : World) (a0 a1 b0 b1 : Value) (S T : TypeId) : ∃ w2, w2 = (w.alloc (.cells #[a0, a1] S)).alloc (.cells #[b0, b1] T) ∧ Only (fun _ => False) w w2 ∧ ∀ wv, Only (fun _ => False) w2 wv → (wv.cell? ⟨w.heap.size, 0, none⟩ = some a0 ∧ wv.cell? ⟨w.heap.size, 1, none⟩ = some a1) ∧ wv.cell? ⟨w.heap.size + 1, 0, none⟩ = some b0 ∧ wv.cell? ⟨w.heap.size + 1, 1, none⟩ = some b1 := by
  refine ⟨_, rfl, ((Only.refl _ w).alloc _).alloc _, fun wv ho => ?_⟩
  have h1 : ((w.alloc (.cells #[a0, a1] S)).alloc (.cells #[b0, b1] T)).heap[w.heap.size]? = some (.cells #[a0, a1] S (0, 0)) := by
    rw [RowKit.Below.heap_alloc _ _ _ (by simp)]
    exact heap_alloc_last w _
  have h2 : ((w.alloc (.cells #[a0, a1] S)).alloc (.cells #[b0, b1] T)).heap[w.heap.size + 1]? = some (.cells #[b0, b1] T (0, 0)) := by
    have := heap_alloc_last (w.alloc (.cells #[a0, a1] S)) (.cells #[b0, b1] T)
    simpa using this
  exact ⟨(two_cells (Only.keep ho h1 (fun h => h))).1, (two_cells (Only.keep ho h2 (fun h => h))).1⟩
set_option maxHeartbeats 1000000 in
theorem pmeets_ok (a n b m : Int) (h1 : IntKind.i64.wrap (b + m) = b + m) (h2 : IntKind.i64.wrap (a + n) = a + n) (w : World) : Calls Try.prog 50 #[.agg #[.int .i64 a, .int .i64 n], .agg #[.int .i64 b, .int .i64 m]] w fun e w' => e = .returned (.bool (meetN a n b m)) ∧ Only (fun _ => False) w w' := by
  have HE1 := Vx.hid (fun wv => pend_ok b m h1 wv)
  have HE2 := Vx.hid (fun wv => pend_ok a n h2 wv)
  obtain ⟨w2, hw2, ho2, hc2⟩ := laid_two w (.int .i64 a) (.int .i64 n) (.int .i64 b) (.int .i64 m) 75 75
  have HO2 := Vx.hid ho2
  obtain ⟨A, hA⟩ : ∃ A, A = w.heap.size := ⟨_, rfl⟩
  obtain ⟨B, hB⟩ : ∃ B, B = w.heap.size + 1 := ⟨_, rfl⟩
  rw [← hA] at hc2
  have hB2 : A + 1 = B := by omega
  rw [hB2] at hc2
  have HCE : Hid (∀ wv, Only (fun _ => False) w2 wv → wv.cell? ⟨A, 0, none⟩ = some (.int .i64 a) ∧ wv.cell? ⟨A, 1, none⟩ = some (.int .i64 n) ∧ wv.cell? ⟨B, 0, none⟩ = some (.int .i64 b) ∧ wv.cell? ⟨B, 1, none⟩ = some (.int .i64 m)) := fun wv h => ⟨(hc2 wv h).1.1, (hc2 wv h).1.2, (hc2 wv h).2.1, (hc2 wv h).2.2⟩
  clear ho2 hc2 hB2 h1 h2
  obtain ⟨bm, hbm⟩ : ∃ bm, bm = b + m := ⟨_, rfl⟩
  obtain ⟨an, han⟩ : ∃ an, an = a + n := ⟨_, rfl⟩
  have HMT : Hid (meetN a n b m = decide (a < bm ∧ b < an)) := by rw [hbm, han]; exact rfl
  rw [← hbm] at HE1
  rw [← han] at HE2
  clear hbm han
  have HI0 : Hid (Only (fun _ => False) w2 w2.drew) := (Only.refl _ w2).drew
  have HS0 := Vx.hid (HCE.out _ HI0.out)
  have HI1 := HI0
  have HS1 := HS0
  have HS2 := HS0
  by_cases g1 : a < bm
  · have g1' : decide (a < bm) = true := decide_eq_true g1
    by_cases g2 : b < an
    · have g2' : decide (b < an) = true := decide_eq_true g2
      have HT : Hid (meetN a n b m = true) := by show _ = _; rw [HMT.out]; exact decide_eq_true ⟨g1, g2⟩
      rw [HT.out]
      clear HMT HT
      go_enter Try.func50, Try.ntmps50
      go_upto_region 1 with fail
      rw [← hw2, ← hB, ← hA]
      clear hw2 hA hB
      go_region_held3 (fun wv => wv.cell? ⟨A, 0, none⟩ = some (.int .i64 a) ∧ wv.cell? ⟨A, 1, none⟩ = some (.int .i64 n) ∧ wv.cell? ⟨B, 0, none⟩ = some (.int .i64 b) ∧ wv.cell? ⟨B, 1, none⟩ = some (.int .i64 m)) (first | with_reducible exact HS0.out | with_reducible exact HS1.out | with_reducible exact HS2.out) (first | (go_at_call 53; refine (HE1.out _).mono ?_; rintro e w4 ⟨rfl, ho4⟩; have HI1 := Vx.hid (HI0.out.trans ho4); clear ho4; have HS1 := Vx.hid (HCE.out _ HI1.out)) | (go_at_call 53; refine (HE2.out _).mono ?_; rintro e w5 ⟨rfl, ho5⟩; have HI2 := Vx.hid (HI1.out.trans ho5); clear ho5; have HS2 := Vx.hid (HCE.out _ HI2.out)))
      go_wp2_with fail
      all_goals
        go_ret
        exact ⟨by first | rfl | simp [g1', g2'], HO2.out.trans HI2.out⟩
    · have g2' : decide (b < an) = false := decide_eq_false g2
      have HT : Hid (meetN a n b m = false) := by show _ = _; rw [HMT.out]; exact decide_eq_false (fun h => g2 h.2)
      rw [HT.out]
      clear HMT HT
      go_enter Try.func50, Try.ntmps50
      go_upto_region 1 with fail
      rw [← hw2, ← hB, ← hA]
      clear hw2 hA hB
      go_region_held3 (fun wv => wv.cell? ⟨A, 0, none⟩ = some (.int .i64 a) ∧ wv.cell? ⟨A, 1, none⟩ = some (.int .i64 n) ∧ wv.cell? ⟨B, 0, none⟩ = some (.int .i64 b) ∧ wv.cell? ⟨B, 1, none⟩ = some (.int .i64 m)) (first | with_reducible exact HS0.out | with_reducible exact HS1.out | with_reducible exact HS2.out) (first | (go_at_call 53; refine (HE1.out _).mono ?_; rintro e w4 ⟨rfl, ho4⟩; have HI1 := Vx.hid (HI0.out.trans ho4); clear ho4; have HS1 := Vx.hid (HCE.out _ HI1.out)) | (go_at_call 53; refine (HE2.out _).mono ?_; rintro e w5 ⟨rfl, ho5⟩; have HI2 := Vx.hid (HI1.out.trans ho5); clear ho5; have HS2 := Vx.hid (HCE.out _ HI2.out)))
      go_wp2_with fail
      all_goals
        go_ret
        exact ⟨by first | rfl | simp [g1', g2'], HO2.out.trans HI2.out⟩
  · have g1' : decide (a < bm) = false := decide_eq_false g1
    have HT : Hid (meetN a n b m = false) := by show _ = _; rw [HMT.out]; exact decide_eq_false (fun h => g1 h.1)
    rw [HT.out]
    clear HMT HT
    go_enter Try.func50, Try.ntmps50
    go_upto_region 1 with fail
    rw [← hw2, ← hB, ← hA]
    clear hw2 hA hB
    obtain ⟨a0, a1, b0, b1⟩ := HS0.out
    refine wp_region_any (by kernel_rfl) ?_
    try (change wpAny _ _ _ _ _ _ _ (World.drew _))
    refine wpAny_take (i := 0) (v := ?_) rfl (by kernel_rfl) (by kernel_rfl) (by kernel_rfl) (fun _ _ _ h => h) (Or.inl ⟨by rfl, ?_⟩) ?_
    rotate_left
    · intro w; go_simp
      try with_reducible rfl
    rotate_left
    refine wpAny_ready (rs := [1, 2]) (by kernel_rfl) (by simp) ?_
    refine (AllReady.cons rfl (fun K hK => ?_) (AllReady.cons rfl (fun K hK => ?_) AllReady.nil))
    · go_simp
      refine hK _ _ ?_
      clear hK K
      refine wpAny_ready (rs := [2]) (by kernel_rfl) (by simp) ?_
      refine (AllReady.cons rfl (fun K hK => ?_) AllReady.nil)
      · go_simp
        refine hK _ _ ?_
        clear hK K
        refine wpAny_ready (rs := [3]) (by kernel_rfl) (by simp) ?_
        refine (AllReady.cons rfl (fun K hK => ?_) AllReady.nil)
        · go_simp
          refine (HE1.out _).mono ?_
          rintro e w4 ⟨rfl, ho4⟩
          have HI1 := Vx.hid (HI0.out.trans ho4)
          clear ho4
          obtain ⟨c0, c1, d0, d1⟩ := HCE.out _ HI1.out
          go_simp
          refine hK _ _ ?_
          clear hK K
          refine wpAny_take (i := 4) (v := ?_) rfl (by kernel_rfl) (by kernel_rfl) (by kernel_rfl) (fun _ _ _ h => h) (Or.inl ⟨by rfl, ?_⟩) ?_
          rotate_left
          · intro w; go_simp
            try with_reducible rfl
          rotate_left
          refine wpAny_take (i := 5) (v := ?_) rfl (by kernel_rfl) (by kernel_rfl) (by kernel_rfl) (fun _ _ _ h => h) (Or.inl ⟨by rfl, ?_⟩) ?_
          rotate_left
          · intro w; go_simp
            try with_reducible rfl
          rotate_left
          refine wpAny_take (i := 6) (v := undef) rfl (by kernel_rfl) (by kernel_rfl) (by kernel_rfl) (fun _ _ _ h => h) (Or.inr ⟨by rfl, rfl⟩) ?_
          refine wpAny_take (i := 7) (v := undef) rfl (by kernel_rfl) (by kernel_rfl) (by kernel_rfl) (fun _ _ _ h => h) (Or.inr ⟨by rfl, rfl⟩) ?_
          refine wpAny_take (i := 8) (v := undef) rfl (by kernel_rfl) (by kernel_rfl) (by kernel_rfl) (fun _ _ _ h => h) (Or.inr ⟨by rfl, rfl⟩) ?_
          refine wpAny_take (i := 9) (v := undef) rfl (by kernel_rfl) (by kernel_rfl) (by kernel_rfl) (fun _ _ _ h => h) (Or.inr ⟨by rfl, rfl⟩) ?_
          refine wpAny_take (i := 10) (v := undef) rfl (by kernel_rfl) (by kernel_rfl) (by kernel_rfl) (fun _ _ _ h => h) (Or.inr ⟨by rfl, rfl⟩) ?_
          refine wpAny_take (i := 11) (v := ?_) rfl (by kernel_rfl) (by kernel_rfl) (by kernel_rfl) (fun _ _ _ h => h) (Or.inl ⟨by rfl, ?_⟩) ?_
          rotate_left
          · intro w; go_simp
            try with_reducible rfl
          rotate_left
          refine wpAny_take (i := 12) (v := ?_) rfl (by kernel_rfl) (by kernel_rfl) (by kernel_rfl) (fun _ _ _ h => h) (Or.inl ⟨by rfl, ?_⟩) ?_
          rotate_left
          · intro w; go_simp
            try with_reducible rfl
          rotate_left
          refine wpAny_done (by kernel_rfl) ?_ _
          go_wp2_with fail
          go_ret
          exact ⟨by first | rfl | simp [g1'], HO2.out.trans HI1.out⟩
    · go_simp
      refine hK _ _ ?_
      clear hK K
      refine wpAny_ready (rs := [1, 3]) (by kernel_rfl) (by simp) ?_
      refine (AllReady.cons rfl (fun K hK => ?_) (AllReady.cons rfl (fun K hK => ?_) AllReady.nil))
      · go_simp
        refine hK _ _ ?_
        clear hK K
        refine wpAny_ready (rs := [3]) (by kernel_rfl) (by simp) ?_
        refine (AllReady.cons rfl (fun K hK => ?_) AllReady.nil)
        · go_simp
          refine (HE1.out _).mono ?_
          rintro e w4 ⟨rfl, ho4⟩
          have HI1 := Vx.hid (HI0.out.trans ho4)
          clear ho4
          obtain ⟨c0, c1, d0, d1⟩ := HCE.out _ HI1.out
          go_simp
          refine hK _ _ ?_
          clear hK K
          refine wpAny_take (i := 4) (v := ?_) rfl (by kernel_rfl) (by kernel_rfl) (by kernel_rfl) (fun _ _ _ h => h) (Or.inl ⟨by rfl, ?_⟩) ?_
          rotate_left
          · intro w; go_simp
            try with_reducible rfl
          rotate_left
          refine wpAny_take (i := 5) (v := ?_) rfl (by kernel_rfl) (by kernel_rfl) (by kernel_rfl) (fun _ _ _ h => h) (Or.inl ⟨by rfl, ?_⟩) ?_
          rotate_left
          · intro w; go_simp
            try with_reducible rfl
          rotate_left
          refine wpAny_take (i := 6) (v := undef) rfl (by kernel_rfl) (by kernel_rfl) (by kernel_rfl) (fun _ _ _ h => h) (Or.inr ⟨by rfl, rfl⟩) ?_
          refine wpAny_take (i := 7) (v := undef) rfl (by kernel_rfl) (by kernel_rfl) (by kernel_rfl) (fun _ _ _ h => h) (Or.inr ⟨by rfl, rfl⟩) ?_
          refine wpAny_take (i := 8) (v := undef) rfl (by kernel_rfl) (by kernel_rfl) (by kernel_rfl) (fun _ _ _ h => h) (Or.inr ⟨by rfl, rfl⟩) ?_
          refine wpAny_take (i := 9) (v := undef) rfl (by kernel_rfl) (by kernel_rfl) (by kernel_rfl) (fun _ _ _ h => h) (Or.inr ⟨by rfl, rfl⟩) ?_
          refine wpAny_take (i := 10) (v := undef) rfl (by kernel_rfl) (by kernel_rfl) (by kernel_rfl) (fun _ _ _ h => h) (Or.inr ⟨by rfl, rfl⟩) ?_
          refine wpAny_take (i := 11) (v := ?_) rfl (by kernel_rfl) (by kernel_rfl) (by kernel_rfl) (fun _ _ _ h => h) (Or.inl ⟨by rfl, ?_⟩) ?_
          rotate_left
          · intro w; go_simp
            try with_reducible rfl
          rotate_left
          refine wpAny_take (i := 12) (v := ?_) rfl (by kernel_rfl) (by kernel_rfl) (by kernel_rfl) (fun _ _ _ h => h) (Or.inl ⟨by rfl, ?_⟩) ?_
          rotate_left
          · intro w; go_simp
            try with_reducible rfl
          rotate_left
          refine wpAny_done (by kernel_rfl) ?_ _
          go_wp2_with fail
          go_ret
          exact ⟨by first | rfl | simp [g1'], HO2.out.trans HI1.out⟩
      · go_simp
        refine (HE1.out _).mono ?_
        rintro e w4 ⟨rfl, ho4⟩
        have HI1 := Vx.hid (HI0.out.trans ho4)
        clear ho4
        obtain ⟨c0, c1, d0, d1⟩ := HCE.out _ HI1.out
        go_simp
        refine hK _ _ ?_
        clear hK K
        refine wpAny_ready (rs := [1]) (by kernel_rfl) (by simp) ?_
        refine (AllReady.cons rfl (fun K hK => ?_) AllReady.nil)
        · go_simp
          refine hK _ _ ?_
          clear hK K
          refine wpAny_take (i := 4) (v := ?_) rfl (by kernel_rfl) (by kernel_rfl) (by kernel_rfl) (fun _ _ _ h => h) (Or.inl ⟨by rfl, ?_⟩) ?_
          rotate_left
          · intro w; go_simp
            try with_reducible rfl
          rotate_left
          refine wpAny_take (i := 5) (v := ?_) rfl (by kernel_rfl) (by kernel_rfl) (by kernel_rfl) (fun _ _ _ h => h) (Or.inl ⟨by rfl, ?_⟩) ?_
          rotate_left
          · intro w; go_simp
            try with_reducible rfl
          rotate_left
          refine wpAny_take (i := 6) (v := undef) rfl (by kernel_rfl) (by kernel_rfl) (by kernel_rfl) (fun _ _ _ h => h) (Or.inr ⟨by rfl, rfl⟩) ?_
          refine wpAny_take (i := 7) (v := undef) rfl (by kernel_rfl) (by kernel_rfl) (by kernel_rfl) (fun _ _ _ h => h) (Or.inr ⟨by rfl, rfl⟩) ?_
          refine wpAny_take (i := 8) (v := undef) rfl (by kernel_rfl) (by kernel_rfl) (by kernel_rfl) (fun _ _ _ h => h) (Or.inr ⟨by rfl, rfl⟩) ?_
          refine wpAny_take (i := 9) (v := undef) rfl (by kernel_rfl) (by kernel_rfl) (by kernel_rfl) (fun _ _ _ h => h) (Or.inr ⟨by rfl, rfl⟩) ?_
          refine wpAny_take (i := 10) (v := undef) rfl (by kernel_rfl) (by kernel_rfl) (by kernel_rfl) (fun _ _ _ h => h) (Or.inr ⟨by rfl, rfl⟩) ?_
          refine wpAny_take (i := 11) (v := ?_) rfl (by kernel_rfl) (by kernel_rfl) (by kernel_rfl) (fun _ _ _ h => h) (Or.inl ⟨by rfl, ?_⟩) ?_
          rotate_left
          · intro w; go_simp
            try with_reducible rfl
          rotate_left
          refine wpAny_take (i := 12) (v := ?_) rfl (by kernel_rfl) (by kernel_rfl) (by kernel_rfl) (fun _ _ _ h => h) (Or.inl ⟨by rfl, ?_⟩) ?_
          rotate_left
          · intro w; go_simp
            try with_reducible rfl
          rotate_left
          refine wpAny_done (by kernel_rfl) ?_ _
          go_wp2_with fail
          go_ret
          exact ⟨by first | rfl | simp [g1'], HO2.out.trans HI1.out⟩
end Go.Proofs.Ytbbabpgmclhinaa

import Derived.Test.YtbbabpgmclhinaaCs34
/- Chapter 8, the program's pool: lay, regionOf, hasRoom. -/
namespace Go.Proofs.Ytbbabpgmclhinaa
open Go.ChangeShapes Go.WideShapes Go.ChangeAt Go.RowKit
open Go.Vx
set_option linter.unusedVariables false
variable {U V S : Nat → Prop} {w w2 w3 : World} {xb pb mb gb r N cnt cnt2 : Nat} {P : Int} {D D2 : DataW Value} {os rs os2 rs2 : List (Int × Int)}

theorem XqAt.low1 (h : XqAt U w xb mb gb D N os rs) (hw : PWf P os rs) : rs.length < maxLen := by
  have := hw.lr
  unfold maxLen
  omega
set_option maxHeartbeats 1000000 in
theorem play_unt (h : XqAt U w xb mb gb D N os rs) (hrn : (rs.map (·.1)).Nodup) (hri : ∀ r ∈ rs, I64 r.1) (hlr : rs.length < 1000000) (n : Int) (hn : I64 n) (hno : n ∉ rs.map (·.1)) : Calls Try.prog 25 #[.pointer (some ⟨xb, 0, none⟩), .agg #[.int .i64 1, .int .i64 n]] w fun e w' => (∃ v, e = .returned v) ∧ (∃ D2, XqAt U w' xb mb gb D2 N os (rs ++ [(n, 0)])) ∧ Only (fun j => ¬ U j) w w' := by
  obtain ⟨w1, hw1, ho1, hc1⟩ := new_cells w (.int .i64 1) (.int .i64 n) 33
  obtain ⟨A, hA⟩ : ∃ A, A = w.heap.size := ⟨_, rfl⟩
  rw [← hA] at hc1
  obtain ⟨q0, q1⟩ := hc1 _ (Only.refl _ _)
  have hx1 := h.quiet ho1
  have hxd := hx1.quiet ((Only.refl (fun _ => False) w1).drew)
  have c0 := hx1.c0
  obtain ⟨w3, hrun, hm3, hg3⟩ := hxd.m.update (t := 65) (e := 3) mi_keyed Try.underlying65 (by unfold maxLen; omega) (mi_key hn) (val := .int .i64 0) (d := .lit (.int .i64 0)) (ps := []) (mi_ri (by unfold I64; omega))
  obtain ⟨hf1, hf2⟩ := hxd.added hrn hri hn hno hm3 hg3
  have HF : Hid (XqAt U w3 xb mb gb (D.put (.int .i64 n) (.lit (.int .i64 0))) N os (rs ++ [(n, 0)]) ∧ Only (fun j => ¬ U j) w w3) := ⟨hf1, (((ho1.trans ((Only.refl (fun _ => False) w1).drew)).mono (fun _ _ h => h.elim)).trans hf2)⟩
  clear h hx1 hxd hm3 hg3 hf1 hf2 hno hn hc1 ho1 hrn hri hlr
  go_enter Try.func25, Try.ntmps25
  go_upto_region 1 with fail
  rw [← hw1, ← hA]
  clear hw1 hA
  go_wp2_with fail
  go_region
  all_goals
    go_wp2_with fail
    (try simp only [Exit.inBlock, Exit.then])
    refine bodyPost_ret (results_none rfl _ _ _) rfl ?_
    exact ⟨⟨_, rfl⟩, ⟨_, HF.out.1⟩, HF.out.2⟩
set_option maxHeartbeats 1000000 in
theorem play_obj (h : XqAt U w xb mb gb D N os rs) (k : Int) (n : Nat) (hk : k ≠ 1) (hn : n < N) (hr : rowP N os2 = (rowP N os).set n (k, (n : Int))) : Calls Try.prog 25 #[.pointer (some ⟨xb, 0, none⟩), .agg #[.int .i64 k, .int .i64 (n : Int)]] w fun e w' => (∃ v, e = .returned v) ∧ XqAt U w' xb mb gb D N os2 rs ∧ Only (fun j => ¬ U j) w w' := by
  obtain ⟨w1, hw1, ho1, hc1⟩ := new_cells w (.int .i64 k) (.int .i64 (n : Int)) 33
  obtain ⟨A, hA⟩ : ∃ A, A = w.heap.size := ⟨_, rfl⟩
  rw [← hA] at hc1
  obtain ⟨q0, q1⟩ := hc1 _ (Only.refl _ _)
  have hx1 := h.quiet ho1
  have hxd := hx1.quiet ((Only.refl (fun _ => False) w1).drew)
  have c1 := hx1.c1
  obtain ⟨b0, b1⟩ := hx1.page n hn
  have fz : ∀ j, w1.frozen? ⟨gb, j, none⟩ = false := fun j => hx1.pg.fz j
  have fz0 := fz (n * 2)
  have fz1 := fz (n * 2 + 1)
  have HF : Hid (XqAt U ((w1.drew.setCell ⟨gb, n * 2, none⟩ (.int .i64 k)).setCell ⟨gb, n * 2 + 1, none⟩ (.int .i64 (n : Int))) xb mb gb D N os2 rs ∧ Only (fun j => ¬ U j) w ((w1.drew.setCell ⟨gb, n * 2, none⟩ (.int .i64 k)).setCell ⟨gb, n * 2 + 1, none⟩ (.int .i64 (n : Int)))) := by
    obtain ⟨a1, a2⟩ := hxd.paged n hn (k, (n : Int)) hr
    exact ⟨a1, ((ho1.trans ((Only.refl (fun _ => False) w1).drew)).mono (fun _ _ h => h.elim)).trans a2⟩
  have hidx : 0 ≤ (n : Int) ∧ (n : Int) < (N : Int) := by omega
  have e1 : (k == 1) = false := beq_eq_false_iff_ne.2 hk
  clear h hx1 hxd hc1 ho1 fz
  go_enter Try.func25, Try.ntmps25
  go_upto_region 1 with fail
  rw [← hw1, ← hA]
  clear hw1 hA
  go_wp2_with fail
  go_region
  all_goals
    go_wp2_with fail
    go_end0
    exact ⟨⟨_, rfl⟩, HF.out.1, HF.out.2⟩
theorem pregion_ok (k n : Int) (h : k = 1 → RgOk n) (w : World) : Calls Try.prog 24 #[.agg #[.int .i64 k, .int .i64 n]] w fun e w' => e = .returned (.agg #[.int .i64 (pgA (k, n)), .int .i64 (pgN (k, n))]) ∧ Only (fun _ => False) w w' := by
  obtain ⟨w2, hw2, ho2, hc2⟩ := laid_two w (.int .i64 k) (.int .i64 n) (.int .i64 0) (.int .i64 0) 33 75
  obtain ⟨A, hA⟩ : ∃ A, A = w.heap.size := ⟨_, rfl⟩
  obtain ⟨B, hB⟩ : ∃ B, B = w.heap.size + 1 := ⟨_, rfl⟩
  rw [← hA] at hc2
  have hB2 : A + 1 = B := by omega
  rw [hB2] at hc2
  have HO2 : Hid (Only (fun _ => False) w w2 ∧ w.heap.size ≤ B) := ⟨ho2, by omega⟩
  have HS : Hid (∀ wv, Only (fun _ => False) w2 wv → ∀ x y : Value, Only (fun _ => False) w ((wv.setCell ⟨B, 0, none⟩ x).setCell ⟨B, 1, none⟩ y)) := fun wv hv x y => Only.setCell (Only.setCell (HO2.out.1.trans hv) (Or.inr HO2.out.2) _) (Or.inr HO2.out.2) _
  have HFZ : Hid (∀ wv, Only (fun _ => False) w2 wv → ∀ j, wv.frozen? ⟨B, j, none⟩ = false) := fun wv hv j => by
    have h2 : w2.heap[B]? = some (.cells #[.int .i64 0, .int .i64 0] 75 (0, 0)) := by
      rw [hw2, hB]
      have := heap_alloc_last (w.alloc (.cells #[.int .i64 k, .int .i64 n] 33)) (.cells #[.int .i64 0, .int .i64 0] 75)
      simpa using this
    exact (two_cells (Only.keep hv h2 (fun h => h))).2 j
  have HC := Vx.hid hc2
  clear hc2 ho2 hB2
  by_cases hk : k = 1
  · subst hk
    have HUN := Vx.hid (fun wv => punt_ok n (h rfl) wv)
    generalize pgA (1, n) = xa at HUN ⊢
    generalize pgN (1, n) = xn at HUN ⊢
    clear h
    obtain ⟨⟨a0, a1⟩, b0, b1⟩ := HC.out _ (Only.refl _ _)
    go_enter Try.func24, Try.ntmps24
    go_upto_region 1 with fail
    rw [← hw2, ← hB, ← hA]
    clear hw2 hA hB
    go_wp2_with fail
    refine (HUN.out _).mono ?_
    rintro e w3 ⟨rfl, h3⟩
    have H3 := Vx.hid h3
    obtain ⟨⟨y0, y1⟩, z0, z1⟩ := HC.out _ h3
    have f0 := HFZ.out _ h3 0
    have f1 := HFZ.out _ h3 1
    clear h3 a0 a1 b0 b1 y0 y1
    go_wp2_with fail
    refine bodyPost_ret (v := .agg #[.int .i64 xa, .int .i64 xn]) ?_ rfl ⟨rfl, HS.out _ H3.out _ _⟩
    simp [results, Try.results24, go_sem, z0, z1]
  · have e1 : (k == 1) = false := beq_eq_false_iff_ne.2 hk
    have eA : pgA (k, n) = n := if_neg hk
    have eN : pgN (k, n) = 1 := if_neg hk
    rw [eA, eN]
    obtain ⟨⟨a0, a1⟩, z0, z1⟩ := HC.out _ (Only.refl _ _)
    have f0 := HFZ.out _ (Only.refl _ _) 0
    have f1 := HFZ.out _ (Only.refl _ _) 1
    clear h eA eN
    go_enter Try.func24, Try.ntmps24
    go_upto_region 1 with fail
    rw [← hw2, ← hB, ← hA]
    clear hw2 hA hB
    go_wp2_with fail
    refine bodyPost_ret (v := .agg #[.int .i64 n, .int .i64 1]) ?_ rfl ⟨rfl, HS.out _ (Only.refl _ _) _ _⟩
    simp [results, Try.results24, go_sem, z0, z1]
end Go.Proofs.Ytbbabpgmclhinaa

/- Chapter 8, the program's pool: hasRoom, Add. -/
namespace Go.Proofs.Ytbbabpgmclhinaa
open Go.ChangeShapes Go.WideShapes Go.ChangeAt Go.RowKit
open Go.Vx
set_option linter.unusedVariables false
variable {U V S : Nat → Prop} {w w2 w3 : World} {xb pb mb gb r N cnt cnt2 : Nat} {P : Int} {D D2 : DataW Value} {os rs os2 rs2 : List (Int × Int)}

/-- May it stand there? -/
def rmB (P : Int) (o : Int × Int) : Bool := decide (¬ (o.2 < 0 ∨ (o.1 = 1 ∧ 2304 ≤ o.2)) ∧ ¬ (pgA o % pgN o ≠ 0 ∨ P - pgN o < pgA o))
theorem add_room (P : Int) (os rs : List (Int × Int)) (o : Int × Int) (hk : 1 ≤ o.1 ∧ o.1 ≤ 8) : addE P os rs o = if rmB P o = false then 1 else if (os.any (meetB o) || rs.any (fun r => meetB o (1, r.1))) = true then 7 else 0 := by
  unfold addE rmB
  rw [if_neg (by omega)]
  by_cases h1 : o.2 < 0 ∨ (o.1 = 1 ∧ 2304 ≤ o.2)
  · rw [if_pos h1, if_pos (decide_eq_false (fun h => h.1 h1))]
  · rw [if_neg h1]
    by_cases h2 : pgA o % pgN o ≠ 0 ∨ P - pgN o < pgA o
    · rw [if_pos h2, if_pos (decide_eq_false (fun h => h.2 h2))]
    · rw [if_neg h2, decide_eq_true (p := ¬ (o.2 < 0 ∨ (o.1 = 1 ∧ 2304 ≤ o.2)) ∧ ¬ (pgA o % pgN o ≠ 0 ∨ P - pgN o < pgA o)) ⟨h1, h2⟩, if_neg (c := true = false) (by decide)]
theorem rm_obj {k n : Int} (hk : k ≠ 1) (h0 : ¬ n < 0) : rmB P (k, n) = decide (n < P) := by
  unfold rmB
  rw [pgA_o hk, pgN_o hk, decide_eq_decide]
  simp only [Int.emod_one]
  omega
theorem rm_unt {n : Int} (h : RgOk n) : rmB P (1, n) = (decide (pgA (1, n) % pgN (1, n) = 0) && decide (pgA (1, n) + pgN (1, n) ≤ P)) := by
  unfold rmB
  unfold RgOk at h
  rw [← Bool.decide_and, decide_eq_decide]
  simp only [true_and]
  omega
set_option maxRecDepth 100000 in
set_option maxHeartbeats 2000000 in
theorem proom_ok (h : XqAt U w xb mb gb D N os rs) (hN : N ≤ 256) (k n : Int) (hn : I64 n) : Calls Try.prog 22 #[.pointer (some ⟨xb, 0, none⟩), .agg #[.int .i64 k, .int .i64 n]] w fun e w' => e = .returned (.bool (rmB (N : Int) (k, n))) ∧ Only (fun _ => False) w w' := by
  obtain ⟨w1, hw1, ho1, hc1⟩ := new_cells w (.int .i64 k) (.int .i64 n) 33
  obtain ⟨A, hA⟩ : ∃ A, A = w.heap.size := ⟨_, rfl⟩
  rw [← hA] at hc1
  obtain ⟨q0, q1⟩ := hc1 _ (Only.refl _ _)
  have HC1 := Vx.hid hc1
  have HO1 := Vx.hid ho1
  have HX1 := Vx.hid (h.quiet ho1)
  have c1 := HX1.out.c1
  clear h hc1 ho1
  by_cases h0 : n < 0
  · have HE : Hid (rmB (N : Int) (k, n) = false) := decide_eq_false (fun h => h.1 (Or.inl h0))
    rw [HE.out]
    clear hn HE
    go_enter Try.func22, Try.ntmps22
    go_upto_region 1 with fail
    rw [← hw1, ← hA]
    clear hw1 hA
    go_wp2_with fail
    all_goals
      go_ret
      exact ⟨rfl, HO1.out⟩
  · by_cases hk : k = 1
    · subst hk
      have HSP := Vx.hid (fun wv => psplit_ok n (by omega) hn wv)
      obtain ⟨nq, hnq⟩ : ∃ nq, nq = n / 256 := ⟨_, rfl⟩
      obtain ⟨nr, hnr⟩ : ∃ nr, nr = n % 256 := ⟨_, rfl⟩
      rw [← hnq, ← hnr] at HSP
      by_cases h8 : 8 < nq
      · have HE : Hid (rmB (N : Int) (1, n) = false) := decide_eq_false (fun h => h.1 (Or.inr ⟨rfl, by simp only; omega⟩))
        rw [HE.out]
        clear hn HE hnq hnr
        go_enter Try.func22, Try.ntmps22
        go_upto_region 1 with fail
        rw [← hw1, ← hA]
        clear hw1 hA
        go_wp2_with fail
        refine (HSP.out _).mono ?_
        rintro e w' ⟨rfl, h⟩
        have h3 := h.symm; clear h; subst h3
        go_wp2_with fail
        all_goals
          go_ret
          exact ⟨rfl, HO1.out⟩
      · have hrg : RgOk n := by unfold RgOk; omega
        have HUN := Vx.hid (fun wv => punt_ok n hrg wv)
        have hbd := rg_bd hrg
        have HE := Vx.hid (rm_unt (P := (N : Int)) hrg)
        obtain ⟨m0, hm0⟩ : ∃ m0, m0 = pgA (1, n) % pgN (1, n) := ⟨_, rfl⟩
        have htm : (pgA (1, n)).tmod (pgN (1, n)) = m0 := by rw [hm0]; exact Int.tmod_eq_emod_of_nonneg hbd.1
        have hmb : 0 ≤ m0 ∧ m0 < 256 := by
          have h1 := Int.emod_nonneg (pgA (1, n)) (b := pgN (1, n)) (by omega)
          have h2 := Int.emod_lt_of_pos (pgA (1, n)) (b := pgN (1, n)) (by omega)
          omega
        have hwm : IntKind.i64.wrap m0 = m0 := by rw [IntKind.wrap_i64]; omega
        rw [← hm0] at HE
        generalize pgA (1, n) = a0 at HUN HE htm hbd
        generalize pgN (1, n) = n0 at HUN HE htm hbd
        have hn0 : (n0 == 0) = false := by rw [beq_eq_false_iff_ne]; omega
        have hn0' : ¬ n0 = 0 := by omega
        have hn1 : (n0 == -1) = false := by rw [beq_eq_false_iff_ne]; omega
        have HEN := Vx.hid (fun wv => pend_ok a0 n0 (by rw [IntKind.wrap_i64]; omega) wv)
        obtain ⟨en, hen⟩ : ∃ en, en = a0 + n0 := ⟨_, rfl⟩
        rw [← hen] at HEN HE
        clear hn hnq hnr hrg hbd hm0 hen
        have h8' : ¬ 8 < nq := h8
        by_cases b1 : m0 = 0
        · subst b1
          have HE2 : Hid (rmB (N : Int) (1, n) = decide (en ≤ (N : Int))) := by show _ = _; rw [HE.out]; simp
          obtain ⟨eb, heb⟩ : ∃ eb, eb = decide (en ≤ (N : Int)) := ⟨_, rfl⟩
          rw [HE2.out]
          clear HE HE2
          go_enter Try.func22, Try.ntmps22
          go_upto_region 1 with fail
          rw [← hw1, ← hA]
          clear hw1 hA
          go_wp2_with fail
          refine (HSP.out _).mono ?_
          rintro e w' ⟨rfl, h⟩
          have h3 := h.symm; clear h; subst h3
          go_wp2_with fail
          refine (HUN.out _).mono ?_
          rintro e w3 ⟨rfl, ho3⟩
          have HX3 := Vx.hid (HX1.out.quiet ho3)
          have HO3 := Vx.hid (HO1.out.trans ho3)
          clear ho3 q0 q1 c1
          obtain ⟨w4, hw4, ho4, hc4⟩ := new_cells w3 (.int .i64 a0) (.int .i64 n0) 75
          obtain ⟨B, hB⟩ : ∃ B, B = w3.heap.size := ⟨_, rfl⟩
          rw [← hB] at hc4
          have HX4 := Vx.hid (HX3.out.quiet ho4)
          have HO4 := Vx.hid (HO3.out.trans ho4)
          have HCE : Hid (∀ wv, Only (fun _ => False) w4 wv → wv.cell? ⟨B, 0, none⟩ = some (.int .i64 a0) ∧ wv.cell? ⟨B, 1, none⟩ = some (.int .i64 n0) ∧ wv.cell? ⟨xb, 1, none⟩ = some (.slice (some ⟨gb, 0, none⟩) N N)) := fun wv hv => ⟨(hc4 wv hv).1, (hc4 wv hv).2, (HX4.out.quiet hv).c1⟩
          clear hc4 ho4
          go_upto_region 9 with fail
          rw [← hw4, ← hB]
          clear hw4 hB
          have HI0 : Hid (Only (fun _ => False) w4 w4.drew) := (Only.refl _ w4).drew
          have HS0 := Vx.hid (HCE.out _ HI0.out)
          have HS1 := HS0
          go_region_held3 (fun wv => wv.cell? ⟨B, 0, none⟩ = some (.int .i64 a0) ∧ wv.cell? ⟨B, 1, none⟩ = some (.int .i64 n0) ∧ wv.cell? ⟨xb, 1, none⟩ = some (.slice (some ⟨gb, 0, none⟩) N N)) (first | with_reducible exact HS0.out | with_reducible exact HS1.out) (first | (go_at_call 53; refine (HEN.out _).mono ?_; rintro e w5 ⟨rfl, ho5⟩; have HI1 := Vx.hid (HI0.out.trans ho5); clear ho5; have HS1 := Vx.hid (HCE.out _ HI1.out)))
          go_wp2_with fail
          all_goals
            go_ret
            exact ⟨by first | rfl | simp_all, HO4.out.trans HI1.out⟩
        · have b1' : (m0 == 0) = false := beq_eq_false_iff_ne.2 b1
          have HE2 : Hid (rmB (N : Int) (1, n) = false) := by show _ = _; rw [HE.out, decide_eq_false b1]; rfl
          rw [HE2.out]
          clear HE HE2
          go_enter Try.func22, Try.ntmps22
          go_upto_region 1 with fail
          rw [← hw1, ← hA]
          clear hw1 hA
          go_wp2_with fail
          refine (HSP.out _).mono ?_
          rintro e w' ⟨rfl, h⟩
          have h3 := h.symm; clear h; subst h3
          go_wp2_with fail
          refine (HUN.out _).mono ?_
          rintro e w3 ⟨rfl, ho3⟩
          have HO3 := Vx.hid (HO1.out.trans ho3)
          clear ho3 q0 q1 c1
          obtain ⟨w4, hw4, ho4, hc4⟩ := new_cells w3 (.int .i64 a0) (.int .i64 n0) 75
          obtain ⟨B, hB⟩ : ∃ B, B = w3.heap.size := ⟨_, rfl⟩
          rw [← hB] at hc4
          have HO4 := Vx.hid (HO3.out.trans ho4)
          obtain ⟨p0, p1⟩ := hc4 _ (Only.refl _ _)
          clear hc4 ho4
          go_upto_region 9 with fail
          rw [← hw4, ← hB]
          clear hw4 hB
          go_quiet (fail)
          go_wp2_with fail
          all_goals
            go_ret
            exact ⟨rfl, HO4.out.trans ((Only.refl _ _).drewN _)⟩
    · have HE := Vx.hid (rm_obj (P := (N : Int)) hk h0)
      have e1 : (k != 1) = true := by simpa using hk
      have e2 : (k == 1) = false := by simpa using hk
      rw [HE.out]
      clear HE hn
      go_enter Try.func22, Try.ntmps22
      go_upto_region 1 with fail
      rw [← hw1, ← hA]
      clear hw1 hA
      go_wp2_with fail
      go_quiet (fail)
      go_wp2_with fail
      all_goals
        go_ret
        exact ⟨rfl, HO1.out.trans ((Only.refl _ _).drewN _)⟩
end Go.Proofs.Ytbbabpgmclhinaa

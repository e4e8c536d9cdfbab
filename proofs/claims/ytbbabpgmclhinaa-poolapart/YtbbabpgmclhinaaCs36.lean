import Derived.Test.YtbbabpgmclhinaaCs35
/- Chapter 8, the program's pool: Add. -/
namespace Go.Proofs.Ytbbabpgmclhinaa
open Go.ChangeShapes Go.WideShapes Go.ChangeAt Go.RowKit
open Go.Vx
set_option linter.unusedVariables false
variable {U V S : Nat → Prop} {w w2 w3 : World} {xb pb mb gb r N cnt cnt2 : Nat} {P : Int} {D D2 : DataW Value} {os rs os2 rs2 : List (Int × Int)}

theorem tak_in (hw : PWf P os rs) (o : Int × Int) : (os.any (meetB o) || rs.any (fun r => meetB o (1, r.1))) = takB os rs (pgA o) (pgN o) := by
  unfold takB inB
  rw [Bool.or_comm]
  congr 1
  · congr 1
    funext r
    unfold mtB meetB
    rw [meetN_comm]
  · rw [Bool.eq_iff_iff, List.any_eq_true, List.any_eq_true]
    refine exists_congr fun x => and_congr_right fun hx => ?_
    have hk := hw.ok x hx
    unfold meetB meetN
    rw [pgA_o (o := x) (by omega), pgN_o (o := x) (by omega), decide_eq_true_iff, decide_eq_true_iff]
    omega
theorem rm_bd {o : Int × Int} (h : rmB P o = true) : (o.1 = 1 → RgOk o.2) ∧ 0 ≤ pgA o ∧ 1 ≤ pgN o ∧ pgA o + pgN o ≤ P ∧ (o.1 ≠ 1 → pgA o = o.2) := by
  have h1 := of_decide_eq_true h
  have hr : o.1 = 1 → RgOk o.2 := fun he => by
    have := h1.1
    unfold RgOk
    omega
  have hn := pgN_bd hr
  refine ⟨hr, ?_, hn.1, ?_, fun he => pgA_o he⟩
  · by_cases he : o.1 = 1
    · exact (pgA_bd he).1
    · rw [pgA_o he]
      have := h1.1
      omega
  · have := h1.2
    omega
theorem tak_no {n : Int} (hr : RgOk n) (h : takB os rs (pgA (1, n)) (pgN (1, n)) = false) : n ∉ rs.map (·.1) := fun hm => by
  unfold takB at h
  rw [Bool.or_eq_false_iff] at h
  have hb := rg_bd hr
  have h2 : mtB (pgA (1, n)) (pgN (1, n)) n = true := decide_eq_true (by omega)
  have := seen_hit (f := mtB (pgA (1, n)) (pgN (1, n))) hm h2
  rw [h.1] at this
  cases this
theorem tak_ob {a m : Int} (h : takB os rs a m = false) {q : Int} (hq : a ≤ q ∧ q < a + m) : ∀ x ∈ os, x.2 ≠ q := fun x hx he => by
  unfold takB inB at h
  rw [Bool.or_eq_false_iff, List.any_eq_false, List.any_eq_false] at h
  exact h.2 x hx (decide_eq_true (by rw [he]; exact hq))
theorem row_add {o : Int × Int} (hn : (os.map (·.2)).Nodup) (hf : ∀ x ∈ os, x.2 ≠ o.2) (h0 : 0 ≤ o.2) : rowP N (os ++ [o]) = (rowP N os).set o.2.toNat o := by
  refine rowP_eq ?_ (fun k hk => ?_)
  · rw [pgF_add hn hf, if_pos (by omega)]
  · rw [pgF_add hn hf, if_neg (by omega)]
set_option maxRecDepth 100000 in
set_option maxHeartbeats 2000000 in
theorem xpadd_ok (h : XpAt U w xb P os rs) (k n : Int) (hk : I64 k) (hn : I64 n) : Calls Try.prog 8 #[.pointer (some ⟨xb, 0, none⟩), .agg #[.int .i64 k, .int .i64 n]] w fun e w' => e = .returned (.int .i64 (addE P os rs (k, n))) ∧ XpAt U w' xb P (addO P os rs (k, n)) (addG P os rs (k, n)) ∧ Only (fun k => ¬ U k) w w' := by
  have HK : Hid (addE P os rs (k, n) ≠ 0 → ∀ wv, Only (fun _ => False) w wv → XpAt U wv xb P (addO P os rs (k, n)) (addG P os rs (k, n)) ∧ Only (fun k => ¬ U k) w wv) := fun he wv hv => by
    obtain ⟨e1, e2⟩ := add_keep (k, n) he
    rw [e1, e2]
    exact ⟨h.step hv (fun _ _ h => h.elim) (fun _ h => Or.inl h), hv.mono (fun _ _ h => h.elim)⟩
  have HWA := Vx.hid (h.wf.add (k, n))
  obtain ⟨hw, mb, gb, D, N, rfl, hx⟩ := h
  have hp := hw.p
  obtain ⟨w1, hw1, ho1, hc1⟩ := new_cells w (.int .i64 k) (.int .i64 n) 33
  obtain ⟨A, hA⟩ : ∃ A, A = w.heap.size := ⟨_, rfl⟩
  rw [← hA] at hc1
  have HC1 := Vx.hid hc1
  have HO1 := Vx.hid ho1
  have HX1 := Vx.hid (hx.quiet ho1)
  have HIK := Vx.hid (fun wv => isKind_ok k wv)
  obtain ⟨q0, q1⟩ := hc1 _ (Only.refl _ _)
  have HRM : Hid (∀ wv, Only (fun _ => False) w1 wv → Calls Try.prog 22 #[.pointer (some ⟨xb, 0, none⟩), .agg #[.int .i64 k, .int .i64 n]] wv fun e w' => e = .returned (.bool (rmB (N : Int) (k, n))) ∧ Only (fun _ => False) wv w') := fun wv hv => proom_ok (HX1.out.quiet hv) (by omega) k n hn
  clear hx hc1 ho1
  by_cases hkk : 1 ≤ k ∧ k ≤ 8
  · rw [decide_eq_true hkk] at HIK
    have hadd := add_room (N : Int) os rs (k, n) hkk
    rw [tak_in hw] at hadd
    cases hrm : rmB (N : Int) (k, n) with
    | false =>
      rw [hrm] at HRM
      have HE : Hid (addE (N : Int) os rs (k, n) = 1) := by show _ = _; rw [hadd, hrm]; rfl
      have HK2 := Vx.hid (HK.out (by rw [HE.out]; decide))
      rw [HE.out]
      clear HK hadd hrm hkk hw hk hn hp HE
      go_enter Try.func8, Try.ntmps8
      go_upto_region 1 with fail
      rw [← hw1, ← hA]
      clear hw1 hA
      go_wp2_with fail
      refine (HIK.out _).mono ?_
      rintro e w' ⟨rfl, h⟩
      have h3 := h.symm; clear h; subst h3
      go_wp2_with fail
      refine (HRM.out _ (Only.refl _ _)).mono ?_
      rintro e w3 ⟨rfl, h3⟩
      have H3 := Vx.hid (HO1.out.trans h3)
      clear h3 q0 q1
      go_wp2_with fail
      all_goals
        go_ret
        exact ⟨rfl, (HK2.out _ H3.out).1, (HK2.out _ H3.out).2⟩
    | true =>
      rw [hrm] at HRM
      obtain ⟨b1, b2, b3, b4, b5⟩ := rm_bd hrm
      have HRE := Vx.hid (fun wv => pregion_ok k n b1 wv)
      obtain ⟨a, ha⟩ : ∃ a : Nat, pgA (k, n) = (a : Int) := ⟨(pgA (k, n)).toNat, by omega⟩
      obtain ⟨m, hm⟩ : ∃ m : Nat, pgN (k, n) = (m : Int) := ⟨(pgN (k, n)).toNat, by omega⟩
      have HTK : Hid (∀ wv, Only (fun _ => False) w1 wv → Calls Try.prog 23 #[.pointer (some ⟨xb, 0, none⟩), .agg #[.int .i64 (a : Int), .int .i64 (m : Int)]] wv fun e w' => e = .returned (.bool (takB os rs (a : Int) (m : Int))) ∧ Only (fun _ => False) wv w') := fun wv hv => ptaken_ok (HX1.out.quiet hv) hw a m (by omega) (by omega)
      rw [ha, hm] at HRE hadd
      cases htk : takB os rs (a : Int) (m : Int) with
      | true =>
        rw [htk] at HTK
        have HE : Hid (addE (N : Int) os rs (k, n) = 7) := by show _ = _; rw [hadd, hrm, htk]; rfl
        have HK2 := Vx.hid (HK.out (by rw [HE.out]; decide))
        rw [HE.out]
        clear HK hadd hrm hkk hw hk hn hp HE b1 b2 b3 b4 b5 ha hm htk
        go_enter Try.func8, Try.ntmps8
        go_upto_region 1 with fail
        rw [← hw1, ← hA]
        clear hw1 hA
        go_wp2_with fail
        refine (HIK.out _).mono ?_
        rintro e w' ⟨rfl, h⟩
        have h3 := h.symm; clear h; subst h3
        go_wp2_with fail
        refine (HRM.out _ (Only.refl _ _)).mono ?_
        rintro e w3 ⟨rfl, h3⟩
        have H3 := Vx.hid h3
        obtain ⟨r0, r1⟩ := HC1.out _ h3
        clear h3 q0 q1
        go_wp2_with fail
        refine (HRE.out _).mono ?_
        rintro e w4 ⟨rfl, h4⟩
        have H4 := Vx.hid (H3.out.trans h4)
        clear h4 r0 r1
        go_wp2_with fail
        refine (HTK.out _ H4.out).mono ?_
        rintro e w5 ⟨rfl, h5⟩
        have H5 := Vx.hid (HO1.out.trans (H4.out.trans h5))
        clear h5
        go_wp2_with fail
        all_goals
          go_ret
          exact ⟨rfl, (HK2.out _ H5.out).1, (HK2.out _ H5.out).2⟩
      | false =>
        rw [htk] at HTK
        have he : addE (N : Int) os rs (k, n) = 0 := by rw [hadd, hrm, htk]; rfl
        rw [← ha, ← hm] at htk
        have HLY : Hid (∀ wv, Only (fun _ => False) w wv → XqAt U wv xb mb gb D N os rs → Calls Try.prog 25 #[.pointer (some ⟨xb, 0, none⟩), .agg #[.int .i64 k, .int .i64 n]] wv fun e w' => (∃ v, e = .returned v) ∧ XpAt U w' xb (N : Int) (addO (N : Int) os rs (k, n)) (addG (N : Int) os rs (k, n)) ∧ Only (fun k => ¬ U k) w w') := fun wv hv hxv => by
          by_cases hk1 : k = 1
          · subst hk1
            have e6 : addO (N : Int) os rs (1, n) = os := if_neg (fun e => e.2 rfl)
            have e7 : addG (N : Int) os rs (1, n) = rs ++ [(n, 0)] := if_pos ⟨he, rfl⟩
            have hwa := HWA.out
            rw [e6, e7] at hwa ⊢
            refine (play_unt hxv hw.rn hw.ri (by have := hw.lr; omega) n hn (tak_no (b1 rfl) htk)).mono ?_
            rintro e w' ⟨h1, ⟨D2, h2⟩, h3⟩
            exact ⟨h1, ⟨hwa, mb, gb, D2, N, rfl, h2⟩, (hv.mono (fun _ _ h => h.elim)).trans h3⟩
          · have e6 : addO (N : Int) os rs (k, n) = os ++ [(k, n)] := if_pos ⟨he, hk1⟩
            have e7 : addG (N : Int) os rs (k, n) = rs := if_neg (fun e => hk1 e.2)
            have hwa := HWA.out
            rw [e6, e7] at hwa ⊢
            have b6 := b5 hk1
            simp only at b6
            obtain ⟨q, rfl⟩ : ∃ q : Nat, n = (q : Int) := ⟨n.toNat, by omega⟩
            have hrow := row_add (N := N) (o := (k, (q : Int))) hw.on (tak_ob htk (by simp only; omega)) (by simp only; omega)
            have e8 : ((k, (q : Int)).2).toNat = q := by simp
            rw [e8] at hrow
            refine (play_obj hxv k q hk1 (by omega) hrow).mono ?_
            rintro e w' ⟨h1, h2, h3⟩
            exact ⟨h1, ⟨hwa, mb, gb, D, N, rfl, h2⟩, (hv.mono (fun _ _ h => h.elim)).trans h3⟩
        rw [he]
        clear HK hadd hrm hkk hw hk hn hp b1 b2 b3 b4 b5 ha hm htk he HWA
        go_enter Try.func8, Try.ntmps8
        go_upto_region 1 with fail
        rw [← hw1, ← hA]
        clear hw1 hA
        go_wp2_with fail
        refine (HIK.out _).mono ?_
        rintro e w' ⟨rfl, h⟩
        have h3 := h.symm; clear h; subst h3
        go_wp2_with fail
        refine (HRM.out _ (Only.refl _ _)).mono ?_
        rintro e w3 ⟨rfl, h3⟩
        have H3 := Vx.hid h3
        obtain ⟨r0, r1⟩ := HC1.out _ h3
        clear h3 q0 q1
        go_wp2_with fail
        refine (HRE.out _).mono ?_
        rintro e w4 ⟨rfl, h4⟩
        have H4 := Vx.hid (H3.out.trans h4)
        clear h4 r0 r1
        go_wp2_with fail
        refine (HTK.out _ H4.out).mono ?_
        rintro e w5 ⟨rfl, h5⟩
        have H5 := Vx.hid (H4.out.trans h5)
        obtain ⟨r0, r1⟩ := HC1.out _ H5.out
        clear h5
        go_wp2_with fail
        refine (HLY.out _ (HO1.out.trans H5.out) (HX1.out.quiet H5.out)).mono ?_
        rintro e w6 ⟨⟨v, rfl⟩, h6, h7⟩
        have H6 := Vx.hid (⟨h6, h7⟩ : _ ∧ _)
        clear h6 h7 r0 r1
        go_wp2_with fail
        all_goals
          go_ret
          exact ⟨rfl, H6.out.1, H6.out.2⟩
  · rw [decide_eq_false hkk] at HIK
    have HE : Hid (addE (N : Int) os rs (k, n) = 12) := by show _ = _; unfold addE; rw [if_pos (by simp only; omega)]
    have HK2 := Vx.hid (HK.out (by rw [HE.out]; decide))
    rw [HE.out]
    clear HK hkk hw hk hn hp HE
    go_enter Try.func8, Try.ntmps8
    go_upto_region 1 with fail
    rw [← hw1, ← hA]
    clear hw1 hA
    go_wp2_with fail
    refine (HIK.out _).mono ?_
    rintro e w' ⟨rfl, h⟩
    have h3 := h.symm; clear h; subst h3
    go_wp2_with fail
    all_goals
      go_ret
      exact ⟨rfl, (HK2.out _ HO1.out).1, (HK2.out _ HO1.out).2⟩
end Go.Proofs.Ytbbabpgmclhinaa

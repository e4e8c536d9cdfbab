import Derived.Test.YtbbabpgmclhinaaCs36
/- Chapter 8, the program's pool: Remove. -/
namespace Go.Proofs.Ytbbabpgmclhinaa
open Go.ChangeShapes Go.WideShapes Go.ChangeAt Go.RowKit
open Go.Vx
set_option linter.unusedVariables false
variable {U V S : Nat → Prop} {w w2 w3 : World} {xb pb mb gb r N cnt cnt2 : Nat} {P : Int} {D D2 : DataW Value} {os rs os2 rs2 : List (Int × Int)}

theorem rem1_cases (os rs : List (Int × Int)) (n : Int) : (rgF rs n = none ∧ remE os rs (1, n) = 6 ∧ emptyR os rs n = (false, 6) ∧ remG os rs (1, n) = rs) ∨ ∃ i, rgF rs n = some i ∧ ((liesB os rs n = true ∧ remE os rs (1, n) = 16 ∧ emptyR os rs n = (false, 0) ∧ remG os rs (1, n) = rs) ∨ (liesB os rs n = false ∧ remE os rs (1, n) = 0 ∧ emptyR os rs n = (true, 0) ∧ remG os rs (1, n) = rs.take i ++ rs.drop (i + 1))) := by
  unfold remE remG emptyR
  simp only [if_true]
  cases hi : rgF rs n with
  | none => exact Or.inl ⟨rfl, rfl, rfl, rfl⟩
  | some i =>
    refine Or.inr ⟨i, rfl, ?_⟩
    cases hl : liesB os rs n with
    | true => exact Or.inl ⟨rfl, rfl, rfl, rfl⟩
    | false => exact Or.inr ⟨rfl, rfl, rfl, rfl⟩
theorem rem1_o (os : List (Int × Int)) (n : Int) : remO os (1, n) = os := if_pos rfl
set_option maxHeartbeats 1000000 in
theorem prunt_ok (h : XpAt U w xb P os rs) (n : Int) (hn : I64 n) : Calls Try.prog 51 #[.pointer (some ⟨xb, 0, none⟩), .int .i64 n] w fun e w' => e = .returned (.int .i64 (remE os rs (1, n))) ∧ XpAt U w' xb P (remO os (1, n)) (remG os rs (1, n)) ∧ Only (fun k => ¬ U k) w w' := by
  have HEM := Vx.hid (xpempty_ok h n hn)
  have HWR := Vx.hid (h.wf.rem (1, n))
  have HH := Vx.hid h
  rw [rem1_o] at HWR ⊢
  rcases rem1_cases os rs n with ⟨hi, e1, e2, e3⟩ | ⟨i, hi, ⟨hl, e1, e2, e3⟩ | ⟨hl, e1, e2, e3⟩⟩
  · rw [e2] at HEM
    rw [e1, e3]
    clear h hn hi e1 e2 e3 HWR
    go_enter Try.func51, Try.ntmps51
    go_wp2_with fail
    refine HEM.out.mono ?_
    rintro e w3 ⟨rfl, h3⟩
    have H3 := Vx.hid h3
    clear h3
    go_wp2_with fail
    all_goals
      go_ret
      exact ⟨rfl, HH.out.step H3.out (fun _ _ h => h.elim) (fun _ h => Or.inl h), H3.out.mono (fun _ _ h => h.elim)⟩
  · rw [e2] at HEM
    rw [e1, e3]
    clear h hn hi e1 e2 e3 HWR hl
    go_enter Try.func51, Try.ntmps51
    go_wp2_with fail
    refine HEM.out.mono ?_
    rintro e w3 ⟨rfl, h3⟩
    have H3 := Vx.hid h3
    clear h3
    go_wp2_with fail
    all_goals
      go_ret
      exact ⟨rfl, HH.out.step H3.out (fun _ _ h => h.elim) (fun _ h => Or.inl h), H3.out.mono (fun _ _ h => h.elim)⟩
  · rw [e2] at HEM
    rw [e3] at HWR
    rw [e1, e3]
    have HN := Vx.hid hn
    have HI := Vx.hid hi
    clear h hn hi e1 e2 e3 hl
    go_enter Try.func51, Try.ntmps51
    go_wp2_with fail
    refine HEM.out.mono ?_
    rintro e w3 ⟨rfl, h3⟩
    obtain ⟨hw, mb, gb, D, N, hP, hx⟩ := HH.out
    have hx3 := hx.quiet h3
    have c0 := hx3.c0
    obtain ⟨w4, hrun, hm4, ht4⟩ := hx3.m.drop (t := 65) (e := 3) mi_keyed Try.underlying65 (mi_key HN.out) 0
    obtain ⟨hf1, hf2⟩ := hx3.gone hw HI.out hm4 ht4.grown
    have HF : Hid (XpAt U w4 xb P os (rs.take i ++ rs.drop (i + 1)) ∧ Only (fun k => ¬ U k) w w4) := ⟨⟨HWR.out, mb, gb, _, N, hP, hf1⟩, (h3.mono (fun _ _ h => h.elim)).trans hf2⟩
    clear h3 hx hx3 hm4 ht4 hf1 hf2 hw hP
    go_wp2_with fail
    all_goals
      go_ret
      exact ⟨rfl, HF.out.1, HF.out.2⟩
theorem remo_cases (hw : PWf P os rs) {k : Int} (hk : k ≠ 1) (n : Int) : (remE os rs (k, n) = 6 ∧ remO os (k, n) = os ∧ (k, n) ∉ os) ∨ (remE os rs (k, n) = 0 ∧ remO os (k, n) = os.filter (fun x => decide (x ≠ (k, n))) ∧ (k, n) ∈ os) := by
  unfold remE remO
  rw [if_neg hk, if_neg hk]
  by_cases hm : (k, n) ∈ os
  · exact Or.inr ⟨if_pos (List.contains_iff_mem.2 hm), rfl, hm⟩
  · refine Or.inl ⟨if_neg (fun h => hm (List.contains_iff_mem.1 h)), ?_, hm⟩
    rw [List.filter_eq_self]
    intro x hx
    exact decide_eq_true (fun e => hm (e ▸ hx))
theorem remo_g (os rs : List (Int × Int)) {k : Int} (hk : k ≠ 1) (n : Int) : remG os rs (k, n) = rs := if_neg hk
set_option maxRecDepth 100000 in
set_option maxHeartbeats 2000000 in
theorem xprem_ok (h : XpAt U w xb P os rs) (k n : Int) (hk : I64 k) (hn : I64 n) : Calls Try.prog 17 #[.pointer (some ⟨xb, 0, none⟩), .agg #[.int .i64 k, .int .i64 n]] w fun e w' => e = .returned (.int .i64 (remE os rs (k, n))) ∧ XpAt U w' xb P (remO os (k, n)) (remG os rs (k, n)) ∧ Only (fun k => ¬ U k) w w' := by
  obtain ⟨w1, hw1, ho1, hc1⟩ := new_cells w (.int .i64 k) (.int .i64 n) 33
  obtain ⟨A, hA⟩ : ∃ A, A = w.heap.size := ⟨_, rfl⟩
  rw [← hA] at hc1
  have HC1 := Vx.hid hc1
  have HO1 := Vx.hid ho1
  have hh1 : XpAt U w1 xb P os rs := h.step ho1 (fun _ _ h => h.elim) (fun _ h => Or.inl h)
  obtain ⟨q0, q1⟩ := hc1 _ (Only.refl _ _)
  by_cases hk1 : k = 1
  · subst hk1
    have HRU := Vx.hid (prunt_ok hh1 n hn)
    generalize remE os rs (1, n) = er at HRU ⊢
    generalize remO os (1, n) = os9 at HRU ⊢
    generalize remG os rs (1, n) = rs9 at HRU ⊢
    clear h hh1 hc1 ho1 hk hn
    go_enter Try.func17, Try.ntmps17
    go_upto_region 1 with fail
    rw [← hw1, ← hA]
    clear hw1 hA
    go_wp2_with fail
    refine HRU.out.mono ?_
    rintro e w3 ⟨rfl, h3, h4⟩
    have H3 := Vx.hid (⟨h3, h4⟩ : _ ∧ _)
    clear h3 h4 q0 q1
    go_wp2_with fail
    all_goals
      go_ret
      exact ⟨rfl, H3.out.1, (HO1.out.mono (fun _ _ h => h.elim)).trans H3.out.2⟩
  · have HWR := Vx.hid (h.wf.rem (k, n))
    rw [remo_g os rs hk1] at HWR ⊢
    have e2 : (k == 1) = false := beq_eq_false_iff_ne.2 hk1
    obtain ⟨hw, mb, gb, D, N, rfl, hx⟩ := h
    have hx1 := hx.quiet ho1
    have HAT := Vx.hid (pat_ok hx1 n)
    have HKP : Hid (∀ wv, Only (fun _ => False) w wv → XpAt U wv xb (N : Int) os rs ∧ Only (fun k => ¬ U k) w wv) := fun wv hv => ⟨⟨hw, mb, gb, D, N, rfl, hx.quiet hv⟩, hv.mono (fun _ _ h => h.elim)⟩
    have HX1 := Vx.hid hx1
    by_cases hout : n < 0 ∨ (N : Int) ≤ n
    · have e3 : atR (N : Int) os n = ((0, 0), 1) := if_pos hout
      rw [e3] at HAT
      have hnm : (k, n) ∉ os := fun hm => by have := hw.ok _ hm; simp only at this; omega
      have e4 : remE os rs (k, n) = 6 ∧ remO os (k, n) = os := by
        rcases remo_cases hw hk1 n with ⟨a, b, _⟩ | ⟨_, _, c⟩
        · exact ⟨a, b⟩
        · exact absurd c hnm
      rw [e4.1, e4.2]
      clear hh1 hc1 ho1 hk hn hx hx1 HWR hout e3 e4 hnm hw HX1
      go_enter Try.func17, Try.ntmps17
      go_upto_region 1 with fail
      rw [← hw1, ← hA]
      clear hw1 hA
      go_wp2_with fail
      refine HAT.out.mono ?_
      rintro e w3 ⟨rfl, h3⟩
      have H3 := Vx.hid (HO1.out.trans h3)
      clear h3 q0 q1
      obtain ⟨w4, hw4, ho4, hc4⟩ := new_cells w3 (.int .i64 0) (.int .i64 0) 33
      have H4 := Vx.hid (H3.out.trans ho4)
      clear ho4 hc4
      go_upto_region 4 with fail
      rw [← hw4]
      clear hw4
      go_wp2_with fail
      all_goals
        go_ret
        exact ⟨rfl, (HKP.out _ H4.out).1, (HKP.out _ H4.out).2⟩
    · obtain ⟨q, rfl⟩ : ∃ q : Nat, n = (q : Int) := ⟨n.toNat, by omega⟩
      have hqN : q < N := by omega
      have e3 : atR (N : Int) os (q : Int) = (pgF os (q : Int), 0) := atR_pg _ _ _ (by omega)
      rw [e3] at HAT
      have hpm : (k, (q : Int)) ∈ os → pgF os (q : Int) = (k, (q : Int)) := fun hm => pgF_mem hw.on hm
      have hpk : pgF os (q : Int) = (k, (q : Int)) → k ≠ 0 → (k, (q : Int)) ∈ os := fun he h0 => by
        rcases pgF_or os (q : Int) with ⟨x, hx2, hxe⟩ | hno
        · have := pgF_mem hw.on hx2
          rw [hxe, he] at this
          rw [this]; exact hx2
        · rw [pgF_none hno] at he
          injection he with he _
          exact absurd he.symm h0
      rcases remo_cases hw hk1 (q : Int) with ⟨e4, e5, hnm⟩ | ⟨e4, e5, hm⟩
      · rw [e4, e5]
        have hne : k ≠ 0 → pgF os (q : Int) ≠ (k, (q : Int)) := fun h0 he => hnm (hpk he h0)
        generalize pgF os (q : Int) = x at HAT hne
        obtain ⟨x0, x1⟩ := x
        dsimp only at HAT
        clear hh1 hc1 ho1 hk hn hx hx1 HWR hout e3 e4 e5 hnm hw HX1 hpm hpk hqN
        by_cases g0 : x0 = k
        · subst g0
          by_cases g1 : x1 = (q : Int)
          · subst g1
            have g2 : x0 = 0 := Classical.byContradiction (fun h0 => hne h0 rfl)
            subst g2
            clear hne
            go_enter Try.func17, Try.ntmps17
            go_upto_region 1 with fail
            rw [← hw1, ← hA]
            clear hw1 hA
            go_wp2_with fail
            refine HAT.out.mono ?_
            rintro e w3 ⟨rfl, h3⟩
            have H3 := Vx.hid h3
            clear h3 q0 q1
            obtain ⟨w4, hw4, ho4, hc4⟩ := new_cells w3 (.int .i64 0) (.int .i64 (q : Int)) 33
            have H4 := Vx.hid (H3.out.trans ho4)
            obtain ⟨q0, q1⟩ := HC1.out _ H4.out
            obtain ⟨B, hB⟩ : ∃ B, B = w3.heap.size := ⟨_, rfl⟩
            rw [← hB] at hc4
            obtain ⟨p0, p1⟩ := hc4 _ (Only.refl _ _)
            clear ho4 hc4
            go_upto_region 4 with fail
            rw [← hw4, ← hB]
            clear hw4 hB
            go_wp2_with fail
            all_goals
              go_ret
              exact ⟨rfl, (HKP.out _ (HO1.out.trans H4.out)).1, (HKP.out _ (HO1.out.trans H4.out)).2⟩
          · have g1' : (x1 == (q : Int)) = false := beq_eq_false_iff_ne.2 g1
            clear hne
            go_enter Try.func17, Try.ntmps17
            go_upto_region 1 with fail
            rw [← hw1, ← hA]
            clear hw1 hA
            go_wp2_with fail
            refine HAT.out.mono ?_
            rintro e w3 ⟨rfl, h3⟩
            have H3 := Vx.hid h3
            clear h3 q0 q1
            obtain ⟨w4, hw4, ho4, hc4⟩ := new_cells w3 (.int .i64 x0) (.int .i64 x1) 33
            have H4 := Vx.hid (H3.out.trans ho4)
            obtain ⟨q0, q1⟩ := HC1.out _ H4.out
            obtain ⟨B, hB⟩ : ∃ B, B = w3.heap.size := ⟨_, rfl⟩
            rw [← hB] at hc4
            obtain ⟨p0, p1⟩ := hc4 _ (Only.refl _ _)
            clear ho4 hc4
            go_upto_region 4 with fail
            rw [← hw4, ← hB]
            clear hw4 hB
            go_wp2_with fail
            all_goals
              go_ret
              exact ⟨rfl, (HKP.out _ (HO1.out.trans H4.out)).1, (HKP.out _ (HO1.out.trans H4.out)).2⟩
        · have g0' : (x0 == k) = false := beq_eq_false_iff_ne.2 g0
          clear hne
          go_enter Try.func17, Try.ntmps17
          go_upto_region 1 with fail
          rw [← hw1, ← hA]
          clear hw1 hA
          go_wp2_with fail
          refine HAT.out.mono ?_
          rintro e w3 ⟨rfl, h3⟩
          have H3 := Vx.hid h3
          clear h3 q0 q1
          obtain ⟨w4, hw4, ho4, hc4⟩ := new_cells w3 (.int .i64 x0) (.int .i64 x1) 33
          have H4 := Vx.hid (H3.out.trans ho4)
          obtain ⟨q0, q1⟩ := HC1.out _ H4.out
          obtain ⟨B, hB⟩ : ∃ B, B = w3.heap.size := ⟨_, rfl⟩
          rw [← hB] at hc4
          obtain ⟨p0, p1⟩ := hc4 _ (Only.refl _ _)
          clear ho4 hc4
          go_upto_region 4 with fail
          rw [← hw4, ← hB]
          clear hw4 hB
          go_wp2_with fail
          all_goals
            go_ret
            exact ⟨rfl, (HKP.out _ (HO1.out.trans H4.out)).1, (HKP.out _ (HO1.out.trans H4.out)).2⟩
      · rw [hpm hm] at HAT
        have hk0 : k ≠ 0 := by have := hw.ok _ hm; simp only at this; omega
        have e0 : (k == 0) = false := beq_eq_false_iff_ne.2 hk0
        have hrow : rowP N (remO os (k, (q : Int))) = (rowP N os).set q (0, 0) := by
          rw [e5]
          refine rowP_eq ?_ (fun j hj => ?_)
          · rw [pgF_rem hw.on hm, if_pos rfl]
          · rw [pgF_rem hw.on hm, if_neg (by simp only; omega)]
        rw [e4]
        generalize remO os (k, (q : Int)) = os9 at HWR hrow ⊢
        have HROW := Vx.hid (⟨hrow, hqN⟩ : _ ∧ _)
        have hidx : 0 ≤ (q : Int) ∧ (q : Int) < (N : Int) := by omega
        clear hh1 hc1 ho1 hk hn hx hx1 hout e3 e4 e5 hm hw HKP hpm hpk hqN hrow
        go_enter Try.func17, Try.ntmps17
        go_upto_region 1 with fail
        rw [← hw1, ← hA]
        clear hw1 hA
        go_wp2_with fail
        refine HAT.out.mono ?_
        rintro e w3 ⟨rfl, h3⟩
        have H3 := Vx.hid h3
        clear h3 q0 q1
        obtain ⟨w4, hw4, ho4, hc4⟩ := new_cells w3 (.int .i64 k) (.int .i64 (q : Int)) 33
        have H4 := Vx.hid (H3.out.trans ho4)
        obtain ⟨q0, q1⟩ := HC1.out _ H4.out
        obtain ⟨B, hB⟩ : ∃ B, B = w3.heap.size := ⟨_, rfl⟩
        rw [← hB] at hc4
        obtain ⟨p0, p1⟩ := hc4 _ (Only.refl _ _)
        have hx4 := HX1.out.quiet H4.out
        have hxd := hx4.quiet ((Only.refl (fun _ => False) w4).drew)
        have c1 := hx4.c1
        obtain ⟨b0, b1⟩ := hx4.page q HROW.out.2
        have fz0 := hx4.pg.fz (q * 2)
        have fz1 := hx4.pg.fz (q * 2 + 1)
        have HF : Hid (XpAt U ((w4.drew.setCell ⟨gb, q * 2, none⟩ (.int .i64 0)).setCell ⟨gb, q * 2 + 1, none⟩ (.int .i64 0)) xb (N : Int) os9 rs ∧ Only (fun j => ¬ U j) w ((w4.drew.setCell ⟨gb, q * 2, none⟩ (.int .i64 0)).setCell ⟨gb, q * 2 + 1, none⟩ (.int .i64 0))) := by
          obtain ⟨a1, a2⟩ := hxd.paged q HROW.out.2 (0, 0) HROW.out.1
          exact ⟨⟨HWR.out, mb, gb, D, N, rfl, a1⟩, ((HO1.out.trans (H4.out.trans ((Only.refl (fun _ => False) w4).drew))).mono (fun _ _ h => h.elim)).trans a2⟩
        clear ho4 hc4 hx4 hxd
        go_upto_region 4 with fail
        rw [← hw4, ← hB]
        clear hw4 hB
        go_wp2_with fail
        go_region
        all_goals
          go_wp2_with fail
          go_ret
          exact ⟨rfl, HF.out.1, HF.out.2⟩
end Go.Proofs.Ytbbabpgmclhinaa

/- Chapter 10, the document's bus: may, Open, Where, Word, Cancel. -/
import Derived.Test.YtdpgdjpphnbfnaaIB2
namespace Go.Proofs.Ytdpgdjpphnbfnaa
open Go.ChangeShapes Go.WideShapes Go.ChangeAt Go.RowKit
open Go.Vx
set_option linter.unusedVariables false
variable {U V S : Nat → Prop} {w w2 w3 : World} {rb : Nat} {vp vw : Value} {s : Bs}

theorem place_none (h : RbAt U w rb vp vw s) {n : Int} (hi : pF s.ps n = none) : Calls Try.prog 43 #[.pointer (some ⟨rb, 0, none⟩), .int .i64 n] w fun e w' => e = .returned (.int .i64 (-1)) ∧ w' = w := by
  have := place_ok h n
  rw [hi] at this
  exact this
theorem place_some (h : RbAt U w rb vp vw s) {n : Int} {i : Nat} (hi : pF s.ps n = some i) : Calls Try.prog 43 #[.pointer (some ⟨rb, 0, none⟩), .int .i64 n] w fun e w' => e = .returned (.int .i64 (i : Int)) ∧ w' = w := by
  have := place_ok h n
  rw [hi] at this
  exact this
theorem waits_none (h : RbAt U w rb vp vw s) {n : Int} (hi : tF s.ws n = none) : Calls Try.prog 48 #[.pointer (some ⟨rb, 0, none⟩), .int .i64 n] w fun e w' => e = .returned (.int .i64 (-1)) ∧ w' = w := by
  have := waits_ok h n
  rw [hi] at this
  exact this
theorem waits_some (h : RbAt U w rb vp vw s) {n : Int} {i : Nat} (hi : tF s.ws n = some i) : Calls Try.prog 48 #[.pointer (some ⟨rb, 0, none⟩), .int .i64 n] w fun e w' => e = .returned (.int .i64 (i : Int)) ∧ w' = w := by
  have := waits_ok h n
  rw [hi] at this
  exact this
theorem first_none (h : RbAt U w rb vp vw s) {n : Int} (hi : aF s.ws n = none) : Calls Try.prog 46 #[.pointer (some ⟨rb, 0, none⟩), .int .i64 n] w fun e w' => e = .returned (.int .i64 (-1)) ∧ w' = w := by
  have := first_ok h n
  rw [hi] at this
  exact this
theorem first_some (h : RbAt U w rb vp vw s) {n : Int} {i : Nat} (hi : aF s.ws n = some i) : Calls Try.prog 46 #[.pointer (some ⟨rb, 0, none⟩), .int .i64 n] w fun e w' => e = .returned (.int .i64 (i : Int)) ∧ w' = w := by
  have := first_ok h n
  rw [hi] at this
  exact this
/-- A place, where it lies in the list. -/
theorem RbAt.place (h : RbAt U w rb vp vw s) {n : Int} {i : Nat} (hi : pF s.ps n = some i) : ∃ (hl : i < s.ps.length) (g c : Nat), vp = .slice (some ⟨g, 0, none⟩) s.ps.length c ∧ P3 w g i s.ps[i] ∧ pAt s i = s.ps[i] ∧ s.ps[i].num = n := by
  obtain ⟨hl, hn⟩ := pF_at hi
  obtain ⟨p, c, hv, hb⟩ := own_p3 h.p
  obtain ⟨g, rfl, hg⟩ := hb i hl
  exact ⟨hl, g, c, hv, hg, getD_d hl, hn⟩
theorem RbAt.waiter (h : RbAt U w rb vp vw s) {i : Nat} (hl : i < s.ws.length) : ∃ (g c : Nat), vw = .slice (some ⟨g, 0, none⟩) s.ws.length c ∧ W9 w g i s.ws[i] ∧ wAt s i = s.ws[i] := by
  obtain ⟨p, c, hv, hb⟩ := own_w9 h.l
  obtain ⟨g, rfl, hg⟩ := hb i hl
  exact ⟨g, c, hv, hg, getD_d hl⟩
set_option maxHeartbeats 1000000 in
theorem may_ok (h : RbAt U w rb vp vw s) (n : Int) (b : Bool) (t : Int) : Calls Try.prog 45 #[.pointer (some ⟨rb, 0, none⟩), .int .i64 n, .bool b, .int .i64 t] w fun e w' => e = .returned (.int .i64 (mayE s n b t)) ∧ w' = w := by
  cases hi : pF s.ps n with
  | none =>
    have HP := Vx.hid (place_none h hi)
    have HM : Hid (mayE s n b t = 6) := by show mayE s n b t = 6; unfold mayE; rw [hi]
    rw [HM.out]
    clear h hi
    go_enter Try.func45, Try.ntmps45
    go_wp2_with fail
    refine HP.out.mono ?_
    rintro e w' ⟨rfl, h⟩
    have h3 := h.symm; clear h; subst h3
    go_wp2_with fail
    all_goals
      go_ret
      exact ⟨rfl, rfl⟩
  | some i =>
    have HP := Vx.hid (place_some h hi)
    obtain ⟨hl, g, c, hv, hg, hp, hnn⟩ := h.place hi
    clear hnn
    have c0 := h.c0
    rw [hv] at c0
    have b1 := hg.c1
    obtain ⟨N, hN⟩ : ∃ N, N = s.ps.length := ⟨_, rfl⟩
    rw [← hN] at c0
    have hidx : 0 ≤ (i : Int) ∧ (i : Int) < (N : Int) := by omega
    have hneg : ¬ (i : Int) < 0 := by omega
    have hme : mayE s n b t = if s.ps[i].bell ≠ b then 6 else if (tF s.ws t).isSome = true then 16 else 0 := by unfold mayE; rw [hi]; dsimp only; rw [hp]
    have HME := Vx.hid hme
    by_cases hb : s.ps[i].bell = b
    · have HM : Hid (mayE s n b t = if (tF s.ws t).isSome = true then 16 else 0) := by show _ = _; rw [HME.out, if_neg (fun h => h hb)]
      rw [hb] at b1
      have hbb : (b != b) = false := by simp
      cases ht : tF s.ws t with
      | none =>
        have HW := Vx.hid (waits_none h ht)
        have HM2 : Hid (mayE s n b t = 0) := by show _ = _; rw [HM.out, ht]; rfl
        rw [HM2.out]
        clear h hi hv hg hp hN hme hb ht HME hl
        go_enter Try.func45, Try.ntmps45
        go_wp2_with fail
        refine HP.out.mono ?_
        rintro e w' ⟨rfl, h⟩
        have h3 := h.symm; clear h; subst h3
        go_wp2_with fail
        refine HW.out.mono ?_
        rintro e w' ⟨rfl, h⟩
        have h3 := h.symm; clear h; subst h3
        go_wp2_with fail
        all_goals
          go_ret
          exact ⟨rfl, rfl⟩
      | some j =>
        have HW := Vx.hid (waits_some h ht)
        have HM2 : Hid (mayE s n b t = 16) := by show _ = _; rw [HM.out, ht]; rfl
        have hge : 0 ≤ (j : Int) := by omega
        rw [HM2.out]
        clear h hi hv hg hp hN hme hb ht HME hl
        go_enter Try.func45, Try.ntmps45
        go_wp2_with fail
        refine HP.out.mono ?_
        rintro e w' ⟨rfl, h⟩
        have h3 := h.symm; clear h; subst h3
        go_wp2_with fail
        refine HW.out.mono ?_
        rintro e w' ⟨rfl, h⟩
        have h3 := h.symm; clear h; subst h3
        go_wp2_with fail
        all_goals
          go_ret
          exact ⟨rfl, rfl⟩
    · have HM : Hid (mayE s n b t = 6) := by show _ = _; rw [HME.out, if_pos hb]
      have hbb : (s.ps[i].bell != b) = true := by simpa using hb
      rw [HM.out]
      generalize s.ps[i].bell = bb at b1 hb hbb
      clear h hi hv hg hp hN hme HME hl
      cases b <;> cases bb <;> first | (exact absurd rfl hb) | skip
      all_goals
        clear hb
        go_enter Try.func45, Try.ntmps45
        go_wp2_with fail
        refine HP.out.mono ?_
        rintro e w' ⟨rfl, h⟩
        have h3 := h.symm; clear h; subst h3
        go_wp2_with fail
        all_goals
          go_ret
          exact ⟨rfl, rfl⟩
set_option maxHeartbeats 2000000 in
theorem ropen_ok (h : RbAt U w rb vp vw s) (hl9 : s.ps.length < 1000000) (n : Int) (b : Bool) : Calls Try.prog 24 #[.pointer (some ⟨rb, 0, none⟩), .int .i64 n, .bool b] w fun e w' => e = .returned (.int .i64 (openE s n)) ∧ RbX U w' rb (openS s n b) ∧ Only (fun k => ¬ U k) w w' := by
  have HH := Vx.hid h
  by_cases a1 : n < 0
  · have e1 : openE s n = 1 := if_pos a1
    have e2 : openS s n b = s := if_neg (by rw [e1]; decide)
    rw [e1, e2]
    clear h e1 e2
    go_enter Try.func24, Try.ntmps24
    go_wp2_with fail
    all_goals
      go_ret
      exact ⟨rfl, ⟨_, _, HH.out⟩, Only.refl _ _⟩
  · cases hi : pF s.ps n with
    | some i =>
      have HP := Vx.hid (place_some h hi)
      have e1 : openE s n = 7 := by unfold openE; rw [if_neg a1, hi]; rfl
      have e2 : openS s n b = s := if_neg (by rw [e1]; decide)
      have hge : 0 ≤ (i : Int) := by omega
      rw [e1, e2]
      clear h e1 e2 hi
      go_enter Try.func24, Try.ntmps24
      go_wp2_with fail
      refine HP.out.mono ?_
      rintro e w' ⟨rfl, h⟩
      have h3 := h.symm; clear h; subst h3
      go_wp2_with fail
      all_goals
        go_ret
        exact ⟨rfl, ⟨_, _, HH.out⟩, Only.refl _ _⟩
    | none =>
      have HP := Vx.hid (place_none h hi)
      have e1 : openE s n = 0 := by unfold openE; rw [if_neg a1, hi]; rfl
      have e2 : openS s n b = ⟨s.ps ++ [⟨n, b, 0⟩], s.ws⟩ := if_pos e1
      rw [e1, e2]
      obtain ⟨q, c, hvl, _⟩ := h.p.form
      obtain ⟨N, hN⟩ : ∃ N, N = s.ps.length := ⟨_, rfl⟩
      rw [← hN] at hvl
      subst hvl
      have c0 := h.c0
      have HL1 : Hid (s.ps.length + 1 ≤ 10000000) := by show _ ≤ _; omega
      have HL2 : Hid ((s.ps ++ [(⟨n, b, 0⟩ : Pc)]).length ≤ 1000000) := by show _ ≤ _; rw [List.length_append, List.length_singleton]; omega
      clear h e1 e2 hi hN
      go_enter Try.func24, Try.ntmps24
      go_wp2_with fail
      refine HP.out.mono ?_
      rintro e w' ⟨rfl, h⟩
      have h3 := h.symm; clear h; subst h3
      go_wp2_with (at_builtin; refine wpList_append_one pcK _ rfl _ _ rfl 0 (.slice q N c) _ rfl HH.out.p ⟨n, b, 0⟩ _ _ rfl rfl rfl HL1.out (Nat.zero_le _) ?_; intro v' w8 hv1 hv2 hv3; obtain ⟨pz, cz, hvz, _⟩ := hv1.form; generalize (s.ps ++ [(⟨n, b, 0⟩ : Pc)]).length = mz at hvz; subst hvz; obtain ⟨⟨qx, q1⟩, q2, q3, q4⟩ := HH.out.setP hv1 hv2 (lies_of hv3) HL2.out; have HF := Vx.hid (⟨q3, q4⟩ : _ ∧ _); clear hv1 hv2 hv3 q3 q4)
      all_goals
        go_ret
        exact ⟨rfl, HF.out.1, HF.out.2⟩
theorem rwhere_ok (h : RbAt U w rb vp vw s) (t : Int) : Calls Try.prog 34 #[.pointer (some ⟨rb, 0, none⟩), .int .i64 t] w fun e w' => e = .returned (.tuple #[.int .i64 (whereA s t), .int .i64 (whereH s t)]) ∧ Only (fun _ => False) w w' := by
  cases hi : tF s.ws t with
  | none =>
    have HP := Vx.hid (waits_none h hi)
    have e1 : whereA s t = -1 := by unfold whereA; rw [hi]
    have e2 : whereH s t = 0 := by unfold whereH; rw [hi]
    rw [e1, e2]
    clear h hi e1 e2
    go_enter Try.func34, Try.ntmps34
    go_wp2_with fail
    refine HP.out.mono ?_
    rintro e w' ⟨rfl, h⟩
    have h3 := h.symm; clear h; subst h3
    go_wp2_with fail
    refine bodyPost_ret (v := .tuple #[.int .i64 (-1), .int .i64 0]) ?_ rfl ⟨rfl, Only.refl _ _⟩
    simp [results, Try.results34, go_sem]
  | some i =>
    have HP := Vx.hid (waits_some h hi)
    obtain ⟨hl, hth⟩ := tF_at hi
    clear hth
    obtain ⟨g, c, hv, hg, hw⟩ := h.waiter hl
    have c1 := h.c1
    rw [hv] at c1
    have b0 := hg.c0
    have b2 := hg.c2
    obtain ⟨N, hN⟩ : ∃ N, N = s.ws.length := ⟨_, rfl⟩
    rw [← hN] at c1
    have hidx : 0 ≤ (i : Int) ∧ (i : Int) < (N : Int) := by omega
    have hneg : ¬ (i : Int) < 0 := by omega
    have e1 : whereA s t = s.ws[i].at' := by unfold whereA; rw [hi]; dsimp only; rw [hw]
    have e2 : whereH s t = s.ws[i].how := by unfold whereH; rw [hi]; dsimp only; rw [hw]
    rw [e1, e2]
    generalize s.ws[i].at' = x0 at b0 ⊢
    generalize s.ws[i].how = x2 at b2 ⊢
    clear h hi e1 e2 hv hg hw hN hl
    go_enter Try.func34, Try.ntmps34
    go_wp2_with fail
    refine HP.out.mono ?_
    rintro e w' ⟨rfl, h⟩
    have h3 := h.symm; clear h; subst h3
    go_wp2_with fail
    first | (go_quiet (fail); go_wp2_with fail) | skip
    refine bodyPost_ret (v := .tuple #[.int .i64 x0, .int .i64 x2]) ?_ rfl ⟨rfl, by first | exact (Only.refl _ _).drewN _ | exact Only.refl _ _⟩
    simp [results, Try.results34, go_sem]
theorem bell_none {n : Int} (hi : pF s.ps n = none) : bellF s n = none := by unfold bellF; rw [hi]
theorem bell_end {n : Int} {i : Nat} (hi : pF s.ps n = some i) (hb : (pAt s i).bell = false) : bellF s n = none := by unfold bellF; rw [hi]; dsimp only; rw [hb]; rfl
theorem bell_some {n : Int} {i : Nat} (hi : pF s.ps n = some i) (hb : (pAt s i).bell = true) : bellF s n = some i := by unfold bellF; rw [hi]; dsimp only; rw [hb]; rfl
theorem rword_ok (h : RbAt U w rb vp vw s) (n : Int) : Calls Try.prog 35 #[.pointer (some ⟨rb, 0, none⟩), .int .i64 n] w fun e w' => e = .returned (.tuple #[.int .u32 (wordW s n), .int .i64 (wordE s n)]) ∧ Only (fun _ => False) w w' := by
  cases hi : pF s.ps n with
  | none =>
    have HP := Vx.hid (place_none h hi)
    have e1 : wordW s n = 0 := by unfold wordW; rw [bell_none hi]
    have e2 : wordE s n = 6 := by unfold wordE; rw [bell_none hi]
    rw [e1, e2]
    clear h hi e1 e2
    go_enter Try.func35, Try.ntmps35
    go_wp2_with fail
    refine HP.out.mono ?_
    rintro e w' ⟨rfl, h⟩
    have h3 := h.symm; clear h; subst h3
    go_wp2_with fail
    refine bodyPost_ret (v := .tuple #[.int .u32 0, .int .i64 6]) ?_ rfl ⟨rfl, Only.refl _ _⟩
    simp [results, Try.results35, go_sem]
  | some i =>
    have HP := Vx.hid (place_some h hi)
    obtain ⟨hl, g, c, hv, hg, hp, hnn⟩ := h.place hi
    clear hnn
    have c0 := h.c0
    rw [hv] at c0
    have b1 := hg.c1
    have b2 := hg.c2
    obtain ⟨N, hN⟩ : ∃ N, N = s.ps.length := ⟨_, rfl⟩
    rw [← hN] at c0
    have hidx : 0 ≤ (i : Int) ∧ (i : Int) < (N : Int) := by omega
    have hneg : ¬ (i : Int) < 0 := by omega
    cases hb : s.ps[i].bell with
    | false =>
      have e1 : wordW s n = 0 := by unfold wordW; rw [bell_end hi (by rw [hp]; exact hb)]
      have e2 : wordE s n = 6 := by unfold wordE; rw [bell_end hi (by rw [hp]; exact hb)]
      rw [e1, e2]
      rw [hb] at b1
      clear h hi e1 e2 hv hg hp hN hl hb b2
      go_enter Try.func35, Try.ntmps35
      go_wp2_with fail
      refine HP.out.mono ?_
      rintro e w' ⟨rfl, h⟩
      have h3 := h.symm; clear h; subst h3
      go_wp2_with fail
      refine bodyPost_ret (v := .tuple #[.int .u32 0, .int .i64 6]) ?_ rfl ⟨rfl, Only.refl _ _⟩
      simp [results, Try.results35, go_sem]
    | true =>
      have e1 : wordW s n = s.ps[i].word := by unfold wordW; rw [bell_some hi (by rw [hp]; exact hb)]; dsimp only; rw [hp]
      have e2 : wordE s n = 0 := by unfold wordE; rw [bell_some hi (by rw [hp]; exact hb)]
      rw [e1, e2]
      rw [hb] at b1
      generalize s.ps[i].word = x2 at b2 ⊢
      clear h hi e1 e2 hv hg hp hN hl hb
      go_enter Try.func35, Try.ntmps35
      go_wp2_with fail
      refine HP.out.mono ?_
      rintro e w' ⟨rfl, h⟩
      have h3 := h.symm; clear h; subst h3
      go_wp2_with fail
      first | (go_quiet (fail); go_wp2_with fail) | skip
      refine bodyPost_ret (v := .tuple #[.int .u32 x2, .int .i64 0]) ?_ rfl ⟨rfl, by first | exact (Only.refl _ _).drewN _ | exact Only.refl _ _⟩
      simp [results, Try.results35, go_sem]
theorem rcancel_ok (h : RbAt U w rb vp vw s) (t : Int) : Calls Try.prog 31 #[.pointer (some ⟨rb, 0, none⟩), .int .i64 t] w fun e w' => e = .returned (.int .i64 (cancE s t)) ∧ RbX U w' rb (cancS s t) ∧ Only (fun k => ¬ U k) w w' := by
  have HH := Vx.hid h
  cases hi : tF s.ws t with
  | none =>
    have HP := Vx.hid (waits_none h hi)
    have e1 : cancE s t = 16 := by unfold cancE; rw [hi]
    have e2 : cancS s t = s := by unfold cancS; rw [hi]
    rw [e1, e2]
    clear h hi e1 e2
    go_enter Try.func31, Try.ntmps31
    go_wp2_with fail
    refine HP.out.mono ?_
    rintro e w' ⟨rfl, h⟩
    have h3 := h.symm; clear h; subst h3
    go_wp2_with fail
    all_goals
      go_ret
      exact ⟨rfl, ⟨_, _, HH.out⟩, Only.refl _ _⟩
  | some i =>
    have HP := Vx.hid (waits_some h hi)
    obtain ⟨hl, hth⟩ := tF_at hi
    clear hth
    have HD := Vx.hid (drop_ok h i hl)
    have e1 : cancE s t = 0 := by unfold cancE; rw [hi]
    have e2 : cancS s t = ⟨s.ps, cuI s.ws i⟩ := by unfold cancS; rw [hi]
    rw [e1, e2]
    have hneg : ¬ (i : Int) < 0 := by omega
    clear h hi e1 e2 hl
    go_enter Try.func31, Try.ntmps31
    go_wp2_with fail
    refine HP.out.mono ?_
    rintro e w' ⟨rfl, h⟩
    have h3 := h.symm; clear h; subst h3
    go_wp2_with fail
    refine HD.out.mono ?_
    rintro e w2 ⟨rfl, hr⟩
    go_wp2_with fail
    all_goals
      go_ret
      exact ⟨rfl, hr⟩
end Go.Proofs.Ytdpgdjpphnbfnaa

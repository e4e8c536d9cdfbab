import Derived.Test.YtbbabpgmclhinaaCs5
/- Chapter 8, the document's pool: lies, Empty, Mark, At. -/
namespace Go.Proofs.Ytbbabpgmclhinaa
open Go.ChangeShapes Go.WideShapes Go.ChangeAt Go.RowKit
open Go.Vx
set_option linter.unusedVariables false
variable {U S : Nat → Prop} {w w2 : World} {pb : Nat} {P : Int} {vo vr : Value} {os rs : List (Int × Int)}

/-- What is there may be there. -/
structure PgOk (os rs : List (Int × Int)) : Prop where
  ok : ∀ o ∈ os, o.1 ≠ 1 ∧ 0 ≤ o.2 ∧ o.2 < 256
  rk : ∀ r ∈ rs, RgOk r.1
theorem any_step {α : Type} {f : α → Bool} (l : List α) (k : Nat) (hk : k < l.length) : (l.drop k).any f = (f l[k] || (l.drop (k + 1)).any f) := by
  rw [List.drop_eq_getElem_cons hk]; rfl
theorem any_end {α : Type} {f : α → Bool} (l : List α) : (l.drop l.length).any f = false := by rw [List.drop_length]; rfl
theorem own_at {base n c : Nat} {e : TypeId} {p : Option Addr} {xs : List (Int × Int)} (h : OwnL slL w base e (.slice p n c) xs) (k : Nat) (hk : k < xs.length) : ∃ g, p = some ⟨g, 0, none⟩ ∧ w.cell? ⟨g, k * 2, none⟩ = some (.int .i64 xs[k].1) ∧ w.cell? ⟨g, k * 2 + 1, none⟩ = some (.int .i64 xs[k].2) := by
  obtain ⟨p', c', hv, hc⟩ := own_two h
  injection hv with h1 h2 h3
  subst h1
  exact hc k hk
/-- Does something lie in an untyped? -/
def liesO (n : Int) (o : Int × Int) : Bool := meetB (1, n) o
def liesR (n : Int) (r : Int × Int) : Bool := meetB (1, n) (1, r.1) && decide (pgN (1, r.1) < pgN (1, n))
def liesB (os rs : List (Int × Int)) (n : Int) : Bool := os.any (liesO n) || rs.any (liesR n)
theorem meet_call (x y : Int × Int) (hx : x.1 = 1 → RgOk x.2) (hy : y.1 = 1 → RgOk y.2) (bx : 0 ≤ x.2 ∧ x.2 < 1000000) (by' : 0 ≤ y.2 ∧ y.2 < 1000000) (w : World) : Calls Try.prog 55 #[.int .i64 (pgA x), .int .i64 (pgN x), .int .i64 (pgA y), .int .i64 (pgN y)] w fun e w' => e = .returned (.bool (meetB x y)) ∧ w' = w := by
  have a1 := pgN_bd hx
  have a2 := pgN_bd hy
  have a3 : 0 ≤ pgA x ∧ pgA x < 1000000 := by unfold pgA; split <;> omega
  have a4 : 0 ≤ pgA y ∧ pgA y < 1000000 := by unfold pgA; split <;> omega
  exact meets_ok _ _ _ _ (by rw [IntKind.wrap_i64]; omega) (by rw [IntKind.wrap_i64]; omega) w
set_option maxRecDepth 100000 in
set_option maxHeartbeats 2000000 in
theorem lies_ok (h : PoAt U w pb P vo vr os rs) (hp : PgOk os rs) (n : Int) (hn : RgOk n) : Calls Try.prog 57 #[.pointer (some ⟨pb, 0, none⟩), .int .i64 n] w fun e w' => e = .returned (.bool (liesB os rs n)) ∧ Only (fun _ => False) w w' := by
  obtain ⟨po, co, rfl, _⟩ := own_two h.o
  obtain ⟨pr, cr, rfl, _⟩ := own_two h.g
  have HK := Vx.hid h
  have hno := h.no
  have hng := h.ng
  clear h
  have HEX := Vx.hid (fun wv => extent_ok 1 n (fun _ => hn) wv)
  have HPO : Hid (∀ o ∈ os, (∀ wv, Calls Try.prog 54 #[.agg #[.int .i64 o.1, .int .i64 o.2]] wv fun e w' => e = .returned (.tuple #[.int .i64 (pgA o), .int .i64 (pgN o)]) ∧ Only (fun _ => False) wv w') ∧ ∀ wv, Calls Try.prog 55 #[.int .i64 (pgA (1, n)), .int .i64 (pgN (1, n)), .int .i64 (pgA o), .int .i64 (pgN o)] wv fun e w' => e = .returned (.bool (liesO n o)) ∧ w' = wv) := fun o ho => by
    obtain ⟨h1, h2, h3⟩ := hp.ok o ho
    unfold RgOk at hn
    exact ⟨fun wv => extent_ok o.1 o.2 (fun h => absurd h h1) wv, fun wv => meet_call (1, n) o (fun _ => hn) (fun h => absurd h h1) (by simp only; omega) (by omega) wv⟩
  have HPR : Hid (∀ r ∈ rs, (∀ wv, Calls Try.prog 54 #[.agg #[.int .i64 1, .int .i64 r.1]] wv fun e w' => e = .returned (.tuple #[.int .i64 (pgA (1, r.1)), .int .i64 (pgN (1, r.1))]) ∧ Only (fun _ => False) wv w') ∧ ∀ wv, Calls Try.prog 55 #[.int .i64 (pgA (1, n)), .int .i64 (pgN (1, n)), .int .i64 (pgA (1, r.1)), .int .i64 (pgN (1, r.1))] wv fun e w' => e = .returned (.bool (meetB (1, n) (1, r.1))) ∧ w' = wv) := fun r hr => by
    have h1 := hp.rk r hr
    unfold RgOk at hn h1
    exact ⟨fun wv => extent_ok 1 r.1 (fun _ => h1) wv, fun wv => meet_call (1, n) (1, r.1) (fun _ => hn) (fun _ => h1) (by simp only; omega) (by simp only; omega) wv⟩
  have HLR : Hid (∀ r : Int × Int, liesR n r = (meetB (1, n) (1, r.1) && decide (pgN (1, r.1) < pgN (1, n)))) := fun r => rfl
  obtain ⟨N, hN⟩ : ∃ N, N = os.length := ⟨_, rfl⟩
  obtain ⟨M, hM⟩ : ∃ M, M = rs.length := ⟨_, rfl⟩
  have HNM : Hid (N = os.length ∧ M = rs.length) := ⟨hN, hM⟩
  rw [← hN] at HK hno
  rw [← hM] at HK hng
  generalize pgA (1, n) = a0 at HEX HPO HPR HLR
  generalize pgN (1, n) = n0 at HEX HPO HPR HLR
  clear hN hM hn hp
  go_enter Try.func57, Try.ntmps57
  go_wp2_with fail
  refine (HEX.out _).mono ?_
  rintro e w1 ⟨rfl, ho1⟩
  have HO1 := Vx.hid ho1
  clear ho1
  go_wp2_with fail
  go_loopw [7] (fun d wr => ∃ k : Nat, d = .int .i64 (k : Int) ∧ k ≤ N ∧ Hid ((os.drop k).any (liesO n) = os.any (liesO n)) ∧ Hid (Only (fun _ => False) w wr)) (fun d _ => N - (intOf d).toNat)
  case atStart => exact ⟨0, rfl, by omega, (show (os.drop 0).any _ = _ from by rw [List.drop_zero]), HO1⟩
  case round =>
    obtain ⟨k, rfl, hk, HQ, HO⟩ := hrel
    have c1 := (HK.out.quiet HO.out).c1
    by_cases hlt : k < N
    · have hlb : k < os.length := by have := HNM.out.1; omega
      have h1 : (k : Int) < (N : Int) := by omega
      have hidx : 0 ≤ (k : Int) ∧ (k : Int) < (N : Int) := by omega
      have hwk : IntKind.i64.wrap ((k : Int) + 1) = (k : Int) + 1 := by rw [IntKind.wrap_i64]; omega
      obtain ⟨g, rfl, b0, b1⟩ := own_at (HK.out.quiet HO.out).o k hlb
      have hq := HQ.out
      rw [any_step os k hlb] at hq
      obtain ⟨he, hm⟩ := HPO.out os[k] (List.getElem_mem _)
      have HE := Vx.hid he
      have HM := Vx.hid hm
      generalize os[k] = x at b0 b1 HE HM hq
      obtain ⟨xk, xn⟩ := x
      simp only at b0 b1 HE HM
      generalize pgA (xk, xn) = bA at HE HM
      generalize pgN (xk, xn) = bN at HE HM
      have HQ2 := Vx.hid hq
      clear hq he hm hlt HQ
      go_wp2_with fail
      refine (HE.out _).mono ?_
      rintro e w2 ⟨rfl, ho2⟩
      have HO2 := Vx.hid (HO.out.trans ho2)
      clear ho2 c1 b0 b1
      cases hT : liesO n (xk, xn) with
      | true =>
        rw [hT] at HM HQ2
        have HF : Hid (liesB os rs n = true) := by show liesB os rs n = true; unfold liesB; rw [← HQ2.out]; rfl
        go_wp2_with fail
        refine (HM.out _).mono ?_
        rintro e w' ⟨rfl, h⟩
        have h3 := h.symm; clear h; subst h3
        go_wp2_with fail
        all_goals
          go_ret
          exact ⟨by rw [HF.out]; rfl, HO2.out⟩
      | false =>
        rw [hT, Bool.false_or] at HQ2
        rw [hT] at HM
        go_wp2_with fail
        refine (HM.out _).mono ?_
        rintro e w' ⟨rfl, h⟩
        have h3 := h.symm; clear h; subst h3
        go_wp2_with fail
        go_roundw
        case rel => exact ⟨k + 1, by go_num, by omega, HQ2, HO2⟩
        case measure => simp only [intOf]; omega
    · obtain rfl : k = N := by omega
      have hq := HQ.out
      rw [HNM.out.1, any_end] at hq
      have HE1 : Hid (liesB os rs n = rs.any (liesR n)) := by show liesB os rs n = _; unfold liesB; rw [← hq]; rfl
      have h1 : ¬ (k : Int) < (k : Int) := by omega
      clear hq hlt HQ
      go_wp2_with fail
      clear c1
      go_loopw [11] (fun d wr => ∃ k : Nat, d = .int .i64 (k : Int) ∧ k ≤ M ∧ Hid ((rs.drop k).any (liesR n) = rs.any (liesR n)) ∧ Hid (Only (fun _ => False) w wr)) (fun d _ => M - (intOf d).toNat)
      case atStart => exact ⟨0, rfl, by omega, (show (rs.drop 0).any _ = _ from by rw [List.drop_zero]), HO⟩
      case round =>
        obtain ⟨j, rfl, hj, HQ, HO3⟩ := hrel
        have c2 := (HK.out.quiet HO3.out).c2
        by_cases hlt : j < M
        · have hlb : j < rs.length := by have := HNM.out.2; omega
          have h1 : (j : Int) < (M : Int) := by omega
          have hidx : 0 ≤ (j : Int) ∧ (j : Int) < (M : Int) := by omega
          have hwk : IntKind.i64.wrap ((j : Int) + 1) = (j : Int) + 1 := by rw [IntKind.wrap_i64]; omega
          obtain ⟨g, rfl, b0, _⟩ := own_at (HK.out.quiet HO3.out).g j hlb
          have hq := HQ.out
          rw [any_step rs j hlb] at hq
          obtain ⟨he, hm⟩ := HPR.out rs[j] (List.getElem_mem _)
          have HE := Vx.hid he
          have HM := Vx.hid hm
          have hl := HLR.out rs[j]
          generalize rs[j] = x at b0 HE HM hq hl
          obtain ⟨xk, xn⟩ := x
          simp only at b0 HE HM hl
          generalize pgA (1, xk) = bA at HE HM
          generalize pgN (1, xk) = bN at HE HM hl
          have HQ2 := Vx.hid hq
          have HL := Vx.hid hl
          clear hq he hm hlt HQ hl
          go_wp2_with fail
          refine (HE.out _).mono ?_
          rintro e w2 ⟨rfl, ho2⟩
          have HO2 := Vx.hid (HO3.out.trans ho2)
          clear ho2 c2 b0
          cases hT : meetB (1, n) (1, xk) with
          | true =>
            rw [hT] at HM HL
            by_cases hlt : bN < n0
            · have HF : Hid (liesB os rs n = true) := by show liesB os rs n = true; rw [HE1.out, ← HQ2.out, HL.out, decide_eq_true hlt]; rfl
              go_wp2_with fail
              refine (HM.out _).mono ?_
              rintro e w' ⟨rfl, h⟩
              have h3 := h.symm; clear h; subst h3
              go_wp2_with fail
              all_goals
                go_ret
                exact ⟨by rw [HF.out]; rfl, HO2.out⟩
            · have HR : Hid ((rs.drop (j + 1)).any (liesR n) = rs.any (liesR n)) := by show _ = _; rw [← HQ2.out, HL.out, decide_eq_false hlt]; rfl
              go_wp2_with fail
              refine (HM.out _).mono ?_
              rintro e w' ⟨rfl, h⟩
              have h3 := h.symm; clear h; subst h3
              go_wp2_with fail
              go_roundw
              case rel => exact ⟨j + 1, by go_num, by omega, HR, HO2⟩
              case measure => simp only [intOf]; omega
          | false =>
            rw [hT] at HM HL
            have HR : Hid ((rs.drop (j + 1)).any (liesR n) = rs.any (liesR n)) := by show _ = _; rw [← HQ2.out, HL.out]; rfl
            go_wp2_with fail
            refine (HM.out _).mono ?_
            rintro e w' ⟨rfl, h⟩
            have h3 := h.symm; clear h; subst h3
            go_wp2_with fail
            go_roundw
            case rel => exact ⟨j + 1, by go_num, by omega, HR, HO2⟩
            case measure => simp only [intOf]; omega
        · obtain rfl : j = M := by omega
          have hq := HQ.out
          rw [HNM.out.2, any_end] at hq
          have HF : Hid (liesB os rs n = false) := by show liesB os rs n = false; rw [HE1.out, ← hq]
          have h1 : ¬ (j : Int) < (j : Int) := by omega
          clear hq hlt HQ
          go_wp2_with fail
          all_goals
            go_ret
            exact ⟨by rw [HF.out]; rfl, HO3.out⟩
end Go.Proofs.Ytbbabpgmclhinaa

import Derived.Test.YtbbabpgmclhinaaCs8
/- Chapter 8, the document's pool: Add of an untyped. -/
namespace Go.Proofs.Ytbbabpgmclhinaa
open Go.ChangeShapes Go.WideShapes Go.ChangeAt Go.RowKit
open Go.Vx
set_option linter.unusedVariables false
variable {U S : Nat → Prop} {w w2 : World} {pb : Nat} {P : Int} {vo vr : Value} {os rs : List (Int × Int)}

set_option maxRecDepth 100000 in
set_option maxHeartbeats 4000000 in
theorem add_one (hc : PcAt U w pb P os rs) (hp : PgOk os rs) (hP : 1 ≤ P ∧ P ≤ 256) (k n : Int) (hk : k = 1) (hn : I64 n) (hlo : os.length < 1000000) (hlr : rs.length < 1000000) : Calls Try.prog 31 #[.pointer (some ⟨pb, 0, none⟩), .agg #[.int .i64 1, .int .i64 n]] w fun e w' => e = .returned (.int .i64 (addE P os rs (1, n))) ∧ PcAt U w' pb P (addO P os rs (1, n)) (addG P os rs (1, n)) ∧ Only (fun k => ¬ U k) w w' := by
  subst hk
  obtain ⟨vo, vr, h⟩ := hc
  obtain ⟨w1, hw1⟩ : ∃ w1, w1 = w.alloc (.cells #[.int .i64 1, .int .i64 n] 33) := ⟨_, rfl⟩
  have ho1 : Only (fun _ => False) w w1 := by rw [hw1]; exact (Only.refl _ w).alloc _
  have hz : w1.heap[w.heap.size]? = some (.cells #[.int .i64 1, .int .i64 n] 33 (0, 0)) := by rw [hw1]; exact heap_alloc_last _ _
  obtain ⟨ob, hob⟩ : ∃ ob, ob = w.heap.size := ⟨_, rfl⟩
  rw [← hob] at hz
  have HZ := Vx.hid hz
  have HQ1 := Vx.hid ho1
  have HMO : Hid (∀ wv, Only (fun _ => False) w1 wv → Only (fun k => ¬ U k) w wv) := fun wv hv => (ho1.trans hv).mono (fun _ _ h => h.elim)
  have HK := Vx.hid (h.quiet ho1)
  have HKEEP : Hid (addE P os rs (1, n) ≠ 0 → ∀ wv, Only (fun _ => False) w1 wv → PcAt U wv pb P (addO P os rs (1, n)) (addG P os rs (1, n))) := fun he wv hv => by
    rw [(add_keep (1, n) he).1, (add_keep (1, n) he).2]
    exact ⟨vo, vr, HK.out.quiet hv⟩
  obtain ⟨⟨z0, z1⟩, _⟩ := obj_cells hz
  clear h ho1 hz
  have e0 : ¬ (((1 : Int), n).1 < 1 ∨ 8 < ((1 : Int), n).1) := by simp only; omega
  by_cases a3 : n < 0
  · have HE : Hid (addE P os rs (1, n) = 1) := by show addE _ _ _ _ = _; unfold addE; rw [if_neg e0, if_pos (Or.inl a3)]
    clear e0
    go_enter Try.func31, Try.ntmps31
    go_upto_region 1 with fail
    rw [← hw1, ← hob]
    clear hw1 hob
    go_wp2_with fail
    all_goals
      go_ret
      exact ⟨by rw [HE.out]; rfl, HKEEP.out (by rw [HE.out]; decide) _ (Only.refl _ _), HMO.out _ (Only.refl _ _)⟩
  obtain ⟨t, ht⟩ : ∃ t, t = n / 256 := ⟨_, rfl⟩
  have htd : n.tdiv 256 = t := by rw [ht]; exact Int.tdiv_eq_ediv_of_nonneg (by omega)
  have hwt : IntKind.i64.wrap t = t := by rw [IntKind.wrap_i64]; unfold I64 at hn; omega
  by_cases a4 : 2304 ≤ n
  · have HE : Hid (addE P os rs (1, n) = 1) := by show addE _ _ _ _ = _; unfold addE; rw [if_neg e0, if_pos (Or.inr ⟨rfl, a4⟩)]
    have a6 : 8 < t := by omega
    clear e0 ht
    go_enter Try.func31, Try.ntmps31
    go_upto_region 1 with fail
    rw [← hw1, ← hob]
    clear hw1 hob
    go_wp2_with fail
    all_goals
      go_ret
      exact ⟨by rw [HE.out]; rfl, HKEEP.out (by rw [HE.out]; decide) _ (Only.refl _ _), HMO.out _ (Only.refl _ _)⟩
  have e1 : ¬ (((1 : Int), n).2 < 0 ∨ (((1 : Int), n).1 = 1 ∧ 2304 ≤ ((1 : Int), n).2)) := by simp only; omega
  have hkn : (1 : Int) = 1 → RgOk n := fun hk => ⟨by omega, by omega⟩
  have a6 : ¬ 8 < t := by omega
  have HEX := Vx.hid (fun wv => extent_ok 1 n hkn wv)
  have bN := pgN_bd (o := (1, n)) hkn
  have bA : 0 ≤ pgA (1, n) ∧ pgA (1, n) ≤ n := by unfold pgA; rw [if_pos rfl]; simp only; omega
  have HE2 : Hid (addE P os rs (1, n) = if pgA (1, n) % pgN (1, n) ≠ 0 ∨ P - pgN (1, n) < pgA (1, n) then 1 else if (os.any (meetB (1, n)) || rs.any (fun r => meetB (1, n) (1, r.1))) = true then 7 else 0) := by show addE _ _ _ _ = _; unfold addE; rw [if_neg e0, if_neg e1]
  have HMT : Hid (pgA (1, n) ≤ P - pgN (1, n) → (∀ o ∈ os, (∀ wv, Calls Try.prog 54 #[.agg #[.int .i64 o.1, .int .i64 o.2]] wv fun e w' => e = .returned (.tuple #[.int .i64 (pgA o), .int .i64 (pgN o)]) ∧ Only (fun _ => False) wv w') ∧ ∀ wv, Calls Try.prog 55 #[.int .i64 (pgA (1, n)), .int .i64 (pgN (1, n)), .int .i64 (pgA o), .int .i64 (pgN o)] wv fun e w' => e = .returned (.bool (meetB (1, n) o)) ∧ w' = wv) ∧
      (∀ r ∈ rs, (∀ wv, Calls Try.prog 54 #[.agg #[.int .i64 1, .int .i64 r.1]] wv fun e w' => e = .returned (.tuple #[.int .i64 (pgA (1, r.1)), .int .i64 (pgN (1, r.1))]) ∧ Only (fun _ => False) wv w') ∧ ∀ wv, Calls Try.prog 55 #[.int .i64 (pgA (1, n)), .int .i64 (pgN (1, n)), .int .i64 (pgA (1, r.1)), .int .i64 (pgN (1, r.1))] wv fun e w' => e = .returned (.bool (meetB (1, n) (1, r.1))) ∧ w' = wv)) := fun hle => by
    have hn2 : 0 ≤ n ∧ n < 1000000 := by
      refine ⟨by omega, ?_⟩
      have := hkn rfl; unfold RgOk at this; omega
    refine ⟨fun o ho => ?_, fun r hr => ?_⟩
    · obtain ⟨h1, h2, h3⟩ := hp.ok o ho
      exact ⟨fun wv => extent_ok o.1 o.2 (fun h => absurd h h1) wv, fun wv => meet_call (1, n) o hkn (fun h => absurd h h1) hn2 (by omega) wv⟩
    · have h1 := hp.rk r hr
      unfold RgOk at h1
      exact ⟨fun wv => extent_ok 1 r.1 (fun _ => h1) wv, fun wv => meet_call (1, n) (1, r.1) hkn (fun _ => h1) hn2 (by simp only; omega) wv⟩
  have HBO : Hid (addO P os rs (1, n) = os) := if_neg (fun e => e.2 rfl)
  have HBG : Hid (addE P os rs (1, n) = 0 → addG P os rs (1, n) = rs ++ [(n, 0)]) := fun he => if_pos ⟨he, rfl⟩
  obtain ⟨m0, hm0⟩ : ∃ m0, m0 = pgA (1, n) % pgN (1, n) := ⟨_, rfl⟩
  have htm : (pgA (1, n)).tmod (pgN (1, n)) = m0 := by rw [hm0]; exact Int.tmod_eq_emod_of_nonneg bA.1
  have hmb : 0 ≤ m0 ∧ m0 < 256 := by
    have h1 := Int.emod_nonneg (pgA (1, n)) (b := pgN (1, n)) (by omega)
    have h2 := Int.emod_lt_of_pos (pgA (1, n)) (b := pgN (1, n)) (by omega)
    omega
  have hwm : IntKind.i64.wrap m0 = m0 := by rw [IntKind.wrap_i64]; omega
  rw [← hm0] at HE2
  generalize pgA (1, n) = a0 at HEX HE2 HMT htm bA
  generalize pgN (1, n) = n0 at HEX HE2 HMT htm bN
  have hn0 : (n0 == 0) = false := by rw [beq_eq_false_iff_ne]; omega
  have hn0' : ¬ n0 = 0 := by omega
  have hws : IntKind.i64.wrap (P - n0) = P - n0 := by rw [IntKind.wrap_i64]; omega
  have hn1 : (n0 == -1) = false := by rw [beq_eq_false_iff_ne]; omega
  clear e0 e1 hkn ht hm0 hn
  have c0 := HK.out.c0
  have HPB : Hid (0 ≤ a0 ∧ 1 ≤ n0 ∧ n0 ≤ 256 ∧ 1 ≤ P ∧ P ≤ 256) := ⟨bA.1, bN.1, bN.2, hP.1, hP.2⟩
  by_cases b1 : m0 = 0
  · by_cases b2 : P - n0 < a0
    · have HE : Hid (addE P os rs (1, n) = 1) := by show addE _ _ _ _ = _; rw [HE2.out, if_pos (Or.inr b2)]
      subst b1
      go_enter Try.func31, Try.ntmps31
      go_upto_region 1 with fail
      rw [← hw1, ← hob]
      clear hw1 hob
      go_wp2_with fail
      refine (HEX.out _).mono ?_
      rintro e w3 ⟨rfl, ho3⟩
      have HQ3 := Vx.hid ho3
      have c0 := (HK.out.quiet ho3).c0
      clear ho3
      go_wp2_with fail
      all_goals
        go_ret
        exact ⟨by rw [HE.out]; rfl, HKEEP.out (by rw [HE.out]; decide) _ HQ3.out, HMO.out _ HQ3.out⟩
    · have HE3 : Hid (addE P os rs (1, n) = if (os.any (meetB (1, n)) || rs.any (fun r => meetB (1, n) (1, r.1))) = true then 7 else 0) := by show addE _ _ _ _ = _; rw [HE2.out, if_neg (by omega)]
      obtain ⟨hpo, hpr⟩ := HMT.out (by omega)
      have HPO := Vx.hid hpo
      have HPR := Vx.hid hpr
      clear hpo hpr HMT HE2
      subst b1
      obtain ⟨po, co, rfl, _⟩ := own_two HK.out.o
      obtain ⟨pr, cr, rfl, _⟩ := own_two HK.out.g
      obtain ⟨N, hN⟩ : ∃ N, N = os.length := ⟨_, rfl⟩
      obtain ⟨M, hM⟩ : ∃ M, M = rs.length := ⟨_, rfl⟩
      have HNM : Hid (N = os.length ∧ M = rs.length) := ⟨hN, hM⟩
      rw [← hN] at HK
      rw [← hM] at HK
      have hno : N < 1000000 := by omega
      have hng : M < 1000000 := by omega
      clear hN hM hlo hlr
      go_enter Try.func31, Try.ntmps31
      go_upto_region 1 with fail
      rw [← hw1, ← hob]
      clear hw1 hob
      go_wp2_with fail
      refine (HEX.out _).mono ?_
      rintro e w3 ⟨rfl, ho3⟩
      have HQ3 := Vx.hid ho3
      have c0 := (HK.out.quiet ho3).c0
      clear ho3
      go_wp2_with fail
      clear c0 z0 z1
      go_loopw [7] (fun d wr => ∃ j : Nat, d = .int .i64 (j : Int) ∧ j ≤ N ∧ Hid ((os.drop j).any (meetB (1, n)) = os.any (meetB (1, n))) ∧ Hid (Only (fun _ => False) w1 wr)) (fun d _ => N - (intOf d).toNat)
      case atStart => exact ⟨0, rfl, by omega, (show (os.drop 0).any _ = _ from by rw [List.drop_zero]), HQ3⟩
      case round =>
        obtain ⟨j, rfl, hj, HQ, HO⟩ := hrel
        have c1 := (HK.out.quiet HO.out).c1
        by_cases hlt : j < N
        · have hlb : j < os.length := by have := HNM.out.1; omega
          have h1 : (j : Int) < (N : Int) := by omega
          have hidx : 0 ≤ (j : Int) ∧ (j : Int) < (N : Int) := by omega
          have hwk : IntKind.i64.wrap ((j : Int) + 1) = (j : Int) + 1 := by rw [IntKind.wrap_i64]; omega
          obtain ⟨g, rfl, b0, b1⟩ := own_at (HK.out.quiet HO.out).o j hlb
          have hq := HQ.out
          rw [any_step os j hlb] at hq
          obtain ⟨he, hm⟩ := HPO.out os[j] (List.getElem_mem _)
          have HE := Vx.hid he
          have HM := Vx.hid hm
          generalize os[j] = x at b0 b1 HE HM hq
          obtain ⟨xk, xn⟩ := x
          simp only at b0 b1 HE HM
          generalize pgA (xk, xn) = bA' at HE HM
          generalize pgN (xk, xn) = bN' at HE HM
          have HQ2 := Vx.hid hq
          clear hq he hm hlt HQ
          go_wp2_with fail
          refine (HE.out _).mono ?_
          rintro e w4 ⟨rfl, ho2⟩
          have HO2 := Vx.hid (HO.out.trans ho2)
          clear ho2 c1 b0 b1
          cases hT : meetB (1, n) (xk, xn) with
          | true =>
            rw [hT] at HM HQ2
            have HF : Hid (addE P os rs (1, n) = 7) := by show addE _ _ _ _ = 7; rw [HE3.out, ← HQ2.out]; rfl
            go_wp2_with fail
            refine (HM.out _).mono ?_
            rintro e w' ⟨rfl, h⟩
            have h3 := h.symm; clear h; subst h3
            go_wp2_with fail
            all_goals
              go_ret
              exact ⟨by rw [HF.out]; rfl, HKEEP.out (by rw [HF.out]; decide) _ HO2.out, HMO.out _ HO2.out⟩
          | false =>
            rw [hT, Bool.false_or] at HQ2
            rw [hT] at HM
            go_wp2_with fail
            refine (HM.out _).mono ?_
            rintro e w' ⟨rfl, h⟩
            have h3 := h.symm; clear h; subst h3
            go_wp2_with fail
            go_roundw
            case rel => exact ⟨j + 1, by go_num, by omega, HQ2, HO2⟩
            case measure => simp only [intOf]; omega
        · obtain rfl : j = N := by omega
          have hq := HQ.out
          rw [HNM.out.1, any_end] at hq
          have HE4 : Hid (addE P os rs (1, n) = if rs.any (fun r => meetB (1, n) (1, r.1)) = true then 7 else 0) := by show addE _ _ _ _ = _; rw [HE3.out, ← hq]; rfl
          have h1 : ¬ (j : Int) < (j : Int) := by omega
          clear hq hlt HQ
          go_wp2_with fail
          clear c1
          go_loopw [11] (fun d wr => ∃ i : Nat, d = .int .i64 (i : Int) ∧ i ≤ M ∧ Hid ((rs.drop i).any (fun r => meetB (1, n) (1, r.1)) = rs.any (fun r => meetB (1, n) (1, r.1))) ∧ Hid (Only (fun _ => False) w1 wr)) (fun d _ => M - (intOf d).toNat)
          case atStart => exact ⟨0, rfl, by omega, (show (rs.drop 0).any _ = _ from by rw [List.drop_zero]), HO⟩
          case round =>
            obtain ⟨i, rfl, hi, HQ, HO3⟩ := hrel
            have c2 := (HK.out.quiet HO3.out).c2
            by_cases hlt : i < M
            · have hlb : i < rs.length := by have := HNM.out.2; omega
              have h1 : (i : Int) < (M : Int) := by omega
              have hidx : 0 ≤ (i : Int) ∧ (i : Int) < (M : Int) := by omega
              have hwk : IntKind.i64.wrap ((i : Int) + 1) = (i : Int) + 1 := by rw [IntKind.wrap_i64]; omega
              obtain ⟨g, rfl, b0, _⟩ := own_at (HK.out.quiet HO3.out).g i hlb
              have hq := HQ.out
              rw [any_step rs i hlb] at hq
              obtain ⟨he, hm⟩ := HPR.out rs[i] (List.getElem_mem _)
              have HE := Vx.hid he
              have HM := Vx.hid hm
              generalize rs[i] = x at b0 HE HM hq
              obtain ⟨xk, xn⟩ := x
              simp only at b0 HE HM hq
              generalize pgA (1, xk) = bA' at HE HM
              generalize pgN (1, xk) = bN' at HE HM
              have HQ2 := Vx.hid hq
              clear hq he hm hlt HQ
              go_wp2_with fail
              refine (HE.out _).mono ?_
              rintro e w4 ⟨rfl, ho2⟩
              have HO2 := Vx.hid (HO3.out.trans ho2)
              clear ho2 c2 b0
              cases hT : meetB (1, n) (1, xk) with
              | true =>
                rw [hT] at HM HQ2
                have HF : Hid (addE P os rs (1, n) = 7) := by show addE _ _ _ _ = 7; rw [HE4.out, ← HQ2.out]; rfl
                go_wp2_with fail
                refine (HM.out _).mono ?_
                rintro e w' ⟨rfl, h⟩
                have h3 := h.symm; clear h; subst h3
                go_wp2_with fail
                all_goals
                  go_ret
                  exact ⟨by rw [HF.out]; rfl, HKEEP.out (by rw [HF.out]; decide) _ HO2.out, HMO.out _ HO2.out⟩
              | false =>
                rw [hT, Bool.false_or] at HQ2
                rw [hT] at HM
                go_wp2_with fail
                refine (HM.out _).mono ?_
                rintro e w' ⟨rfl, h⟩
                have h3 := h.symm; clear h; subst h3
                go_wp2_with fail
                go_roundw
                case rel => exact ⟨i + 1, by go_num, by omega, HQ2, HO2⟩
                case measure => simp only [intOf]; omega
            · obtain rfl : i = M := by omega
              have hq := HQ.out
              rw [HNM.out.2, any_end] at hq
              have HF : Hid (addE P os rs (1, n) = 0) := by show addE _ _ _ _ = 0; rw [HE4.out, ← hq]; rfl
              have h1 : ¬ (i : Int) < (i : Int) := by omega
              have HKR := Vx.hid (HK.out.quiet HO3.out)
              have HMR := Vx.hid (HMO.out _ HO3.out)
              obtain ⟨⟨z0, z1⟩, zf⟩ := obj_cells (Only.keep HO3.out HZ.out (fun h => h))
              have c1 := HKR.out.c1
              clear hq hlt HQ zf
              have HL1 : Hid (rs.length + 1 ≤ 10000000) := by have := HNM.out; show _ ≤ _; omega
              have HL2 : Hid ((rs ++ [((n, 0) : Int × Int)]).length ≤ 1000000) := by show (rs ++ [((n, 0) : Int × Int)]).length ≤ 1000000; have := HNM.out; rw [List.length_append, List.length_singleton]; omega
              go_upto_region 23 with fail
              obtain ⟨wd, hwd⟩ : ∃ wd, wd = (wr.alloc (.cells #[.int .i64 n, .int .i64 0] 104)).drew := ⟨_, rfl⟩
              have hond : Only (fun _ => False) wr wd := by rw [hwd]; exact ((Only.refl _ wr).alloc _).drew
              have HYD : Hid (∀ j u, (slL.cf (n, 0))[j]? = some u → wd.cell? ⟨wr.heap.size, j, none⟩ = some u) := fun j u hj => by
                have hl : wd.heap[wr.heap.size]? = some (.cells #[.int .i64 n, .int .i64 0] 104 (0, 0)) := by rw [hwd]; exact heap_alloc_last wr _
                rw [cell_of_row _ _ j _ _ (0, 0) hl]
                have hj2 : (slC (n, 0))[j]? = some u := hj
                simpa [slC] using hj2
              have HOD := Vx.hid (HKR.out.quiet hond).g
              have HST : Hid (∀ v' w5, OwnL slL w5 0 104 v' (rs ++ [((n, 0) : Int × Int)]) → Only (fun k => (.slice pr i cr : Value).ownBlock = some k) wd w5 → (v'.ownBlock = (.slice pr i cr : Value).ownBlock ∨ ∃ g, v'.ownBlock = some g ∧ wd.heap.size ≤ g ∧ Only (fun _ => False) wd w5) → (∃ p m c, v' = .slice p m c) ∧ (∃ x, w5.cell? ⟨pb, 2, none⟩ = some x) ∧ w5.frozen? ⟨pb, 2, none⟩ = false ∧ Hid (PcAt U (w5.setCell ⟨pb, 2, none⟩ v') pb P os (rs ++ [(n, 0)]) ∧ Only (fun k => ¬ U k) w (w5.setCell ⟨pb, 2, none⟩ v'))) := fun v' w5 a1 a2 a3 => by
                obtain ⟨q1, q2, q3, q4⟩ := HKR.out.setG a1 ((hond.mono (fun _ _ h => h.elim)).trans a2) (fun k hk => (lies_of a3 k hk).imp (fun h => h) (fun h => Nat.le_trans hond.size h)) HL2.out
                obtain ⟨p, c, hv, _⟩ := a1.form
                exact ⟨⟨p, _, c, hv⟩, q1, q2, ⟨_, _, q3⟩, HMR.out.trans q4⟩
              have hrl : pb < wr.heap.size := lt_of_some HKR.out.r
              have hxl : ob < wr.heap.size := World.block_lt_of_cell? wr ⟨ob, 0, none⟩ z0
              clear hond
              go_region_law (refine Vx.step_append_one rgK rfl (.tmp 117) (.tmp 121) rfl 0 (.slice pr i cr) rs (by simp [Act.eval]) (by rw [← hwd]; exact HOD.out) (n, 0) wr.heap.size 1 1 (by simp [Act.eval]) (by rw [← hwd]; exact HYD.out) HL1.out (Nat.zero_le _) ?_; intro v' w5 hv1 hv2 hv3; rw [← hwd] at hv2 hv3; obtain ⟨⟨pq, mq, cq, rfl⟩, ⟨qx, hq1⟩, hq2, HQ5⟩ := HST.out v' w5 hv1 hv2 hv3; clear hv1 hv2 hv3)
              all_goals
                go_wp2_with fail
                go_ret
                exact ⟨by rw [HF.out]; rfl, by rw [HBO.out, HBG.out HF.out]; exact HQ5.out.1, HQ5.out.2⟩
  · have HE : Hid (addE P os rs (1, n) = 1) := by show addE _ _ _ _ = _; rw [HE2.out, if_pos (Or.inl b1)]
    have b3 : (m0 == 0) = false := beq_eq_false_iff_ne.2 b1
    have b4 : (m0 != 0) = true := by simpa using b1
    go_enter Try.func31, Try.ntmps31
    go_upto_region 1 with fail
    rw [← hw1, ← hob]
    clear hw1 hob
    go_wp2_with fail
    refine (HEX.out _).mono ?_
    rintro e w3 ⟨rfl, ho3⟩
    have HQ3 := Vx.hid ho3
    have c0 := (HK.out.quiet ho3).c0
    clear ho3
    go_wp2_with fail
    all_goals
      go_ret
      exact ⟨by rw [HE.out]; rfl, HKEEP.out (by rw [HE.out]; decide) _ HQ3.out, HMO.out _ HQ3.out⟩
end Go.Proofs.Ytbbabpgmclhinaa

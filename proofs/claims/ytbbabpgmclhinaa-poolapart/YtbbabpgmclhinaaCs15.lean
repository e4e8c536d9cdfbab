import Derived.Test.YtbbabpgmclhinaaCs14
/- Chapter 8, the document's pool: Give of untypeds, something lies in it: True. -/
namespace Go.Proofs.Ytbbabpgmclhinaa
open Go.ChangeShapes Go.WideShapes Go.ChangeAt Go.RowKit
open Go.Vx
set_option linter.unusedVariables false
variable {U S : Nat → Prop} {w w2 wr : World} {pb : Nat} {P : Int} {vo vr v : Value} {os rs : List (Int × Int)} {ns : List Int}

set_option maxRecDepth 100000 in
set_option maxHeartbeats 4000000 in
theorem give_oneT (hc : PcAt U w pb P os rs) (hp : PgOk os rs) (hmk : ∀ r ∈ rs, 0 ≤ r.2 ∧ r.2 ≤ 256) (hlo : os.length ≤ 900000) (hlr : rs.length ≤ 900000) (num order many : Int) (hord : 0 ≤ order ∧ order ≤ 8) (hmany : 1 ≤ many ∧ many ≤ 64) (i : Nat) (hx : rgF rs num = some i) (hl : liesB os rs num = true) :
    Calls Try.prog 38 #[.pointer (some ⟨pb, 0, none⟩), .int .i64 num, .int .i64 1, .int .i64 order, .int .i64 many] w fun e w' => ∃ v, e = .returned (.tuple #[v, .int .i64 (giveE os rs num 1 order many)]) ∧ OwnL inL w' w.heap.size 3 v (giveRs os rs num 1 order many) ∧ PcAt U w' pb P (giveRO os rs num 1 order many) (giveRG os rs num 1 order many) ∧ Only (fun k => ¬ U k) w w' := by
  obtain ⟨hi, hnum⟩ := rgF_at hx
  have hrk := rgF_ok hp hx
  have HKE : Hid (giveE os rs num 1 order many ≠ 0 → GvK U w pb P os rs num 1 order many) := fun h => gvK hc h
  obtain ⟨vo, vr, h⟩ := hc
  obtain ⟨n0, hn0⟩ : ∃ n0 : Nat, n0 = 2 ^ order.toNat := ⟨_, rfl⟩
  have hn0b : 1 ≤ n0 ∧ n0 ≤ 256 := by
    have h1 : 2 ^ order.toNat ≤ 2 ^ 8 := Nat.pow_le_pow_right (by decide) (by omega)
    have h2 : 0 < 2 ^ order.toNat := Nat.pow_pos (by decide)
    omega
  obtain ⟨mN, hmN⟩ : ∃ mN : Nat, many = (mN : Int) := ⟨many.toNat, by omega⟩
  have hmNb : 1 ≤ mN ∧ mN ≤ 64 := by omega
  have hmT : many.toNat = mN := by omega
  obtain ⟨q, hq⟩ : ∃ q, q = 256 * order := ⟨_, rfl⟩
  have hqb : 0 ≤ q ∧ q ≤ 2048 := by omega
  have HRG := Vx.hid (region_ok h num)
  rw [hx] at HRG
  have HR2 : Hid (Calls Try.prog 56 #[.pointer (some ⟨pb, 0, none⟩), .int .i64 num] w fun e w' => e = .returned (.int .i64 (i : Int)) ∧ w' = w) := HRG
  have HX1 := Vx.hid (fun wv => extent_ok 1 num (fun _ => hrk) wv)
  have HX2 := Vx.hid (fun wv => extent_ok 1 q (fun _ => ⟨by omega, by omega⟩) wv)
  have hpn : pgN (1, q) = (n0 : Int) := by unfold pgN; rw [if_pos rfl, hn0]; simp only; rw [show q / 256 = order by omega]
  have HLI : Hid (∀ wv, Only (fun _ => False) w wv → Calls Try.prog 57 #[.pointer (some ⟨pb, 0, none⟩), .int .i64 num] wv fun e w' => e = .returned (.bool true) ∧ Only (fun _ => False) wv w') := fun wv hv => by rw [← hl]; exact lies_ok (h.quiet hv) hp num hrk
  obtain ⟨mk, hmkN⟩ : ∃ mk : Nat, rs[i].2 = (mk : Int) := ⟨rs[i].2.toNat, by have := hmk rs[i] (List.getElem_mem _); omega⟩
  have hmkb : mk ≤ 256 := by have := hmk rs[i] (List.getElem_mem _); omega
  obtain ⟨M, hM⟩ : ∃ M : Nat, M = giveM os rs num i n0 := ⟨_, rfl⟩
  have hM2 : M = upN mk n0 := by rw [hM]; unfold giveM; rw [hl, getD_two hi, hmkN]; rfl
  have bA := pgA_bd (o := (1, num)) rfl
  have bP := pgN_bd (o := (1, num)) (fun _ => hrk)
  have HGE : Hid (giveE os rs num 1 order many = if (1 = 1 ∧ pgN (1, num) ≤ (n0 : Int)) ∨ pgN (1, num) < (M : Int) + many * (n0 : Int) then 14 else 0) := by show giveE _ _ _ _ _ _ = _; unfold giveE; rw [if_neg (by omega), if_neg (by omega), hx]; simp only; rw [← hn0, ← hM]
  have HNS : Hid (∀ j, giveNs os rs num 1 order i j = giveN (pgA (1, num) + (M : Int)) (n0 : Int) q j) := fun j => by unfold giveNs; rw [← hn0, ← hM]; rw [if_pos rfl, hq]
  have HGR : Hid (giveE os rs num 1 order many = 0 → giveRs os rs num 1 order many = giveN (pgA (1, num) + (M : Int)) (n0 : Int) q mN ∧ giveRO os rs num 1 order many = os ∧ giveRG os rs num 1 order many = (rs ++ (giveN (pgA (1, num) + (M : Int)) (n0 : Int) q mN).map (fun y => (y, 0))).set i (num, (M : Int) + many * (n0 : Int))) := fun he => by
    unfold giveRs giveRO giveRG giveO giveG
    rw [if_pos he, if_pos he, if_pos he, hx, hmT]
    simp only [Option.getD_some]
    rw [HNS.out, ← hn0, ← hM]
    exact ⟨rfl, by simp, by simp⟩
  generalize pgA (1, num) = a0 at HX1 HNS HGR bA
  generalize pgN (1, num) = pg at HX1 HGE bP
  rw [hpn] at HX2
  generalize pgA (1, q) = a1 at HX2
  have HIN : Hid (i < rs.length ∧ rs[i].1 = num) := ⟨hi, hnum⟩
  have HK := Vx.hid h
  have HM2 := Vx.hid hM2
  have hi0 : ¬ (i : Int) < 0 := by omega
  have hwq : IntKind.i64.wrap (256 * order) = q := by rw [← hq, IntKind.wrap_i64]; omega
  have hn1 : ((n0 : Int) == 0) = false := by rw [beq_eq_false_iff_ne]; omega
  have hn2 : ((n0 : Int) == -1) = false := by rw [beq_eq_false_iff_ne]; omega
  have hn3 : ¬ (n0 : Int) = 0 := by omega
  have hn4 : ¬ n0 = 0 := by omega
  obtain ⟨t, ht⟩ : ∃ t : Nat, t = mN * n0 := ⟨_, rfl⟩
  have htb : t ≤ 16384 := by rw [ht]; exact Nat.le_trans (Nat.mul_le_mul hmNb.2 hn0b.2) (by decide)
  have htI : many * (n0 : Int) = (t : Int) := by rw [hmN, ht]; exact (Int.natCast_mul mN n0).symm
  have htW : IntKind.i64.wrap (many * (n0 : Int)) = (t : Int) := by rw [htI, IntKind.wrap_i64]; omega
  rw [htI] at HGE HGR
  have HT := Vx.hid ht
  have HMN := Vx.hid hmN
  obtain ⟨c, hb2, hcell⟩ : ∃ c, (∀ wv, Only (fun _ => False) w wv → ∃ g, wv.cell? ⟨pb, 2, none⟩ = some (.slice (some ⟨g, 0, none⟩) rs.length c) ∧ wv.cell? ⟨g, i * 2 + 1, none⟩ = some (.int .i64 (mk : Int))) ∧ True := by
    obtain ⟨p, c, hv, hb⟩ := own_two h.g
    refine ⟨c, fun wv hw => ?_, trivial⟩
    have h2 := h.quiet hw
    obtain ⟨p2, c2, hv2, hb3⟩ := own_two h2.g
    rw [hv] at hv2
    injection hv2 with e1 e2 e3
    obtain ⟨g, hpg, _, b1⟩ := hb3 i hi
    have h3 := h2.c2
    rw [hv, e1, hpg] at h3
    rw [hmkN] at b1
    exact ⟨g, h3, b1⟩
  have HB2 := Vx.hid hb2
  have HLOW := Vx.hid h.low
  obtain ⟨L, hL⟩ : ∃ L, L = rs.length := ⟨_, rfl⟩
  rw [← hL] at HB2
  have hidx : 0 ≤ (i : Int) ∧ (i : Int) < (L : Int) := by omega
  clear hmN hcell hb2 h hx hnum hrk hn0 hmkN hM hM2 hl hp hmk hmT HRG hpn ht hq
  have e3 : ¬ order < 0 := by omega
  have e4 : ¬ 8 < order := by omega
  have e6 : ¬ many < 1 := by omega
  have e7 : ¬ 64 < many := by omega
  go_enter Try.func38, Try.ntmps38
  go_wp2_with fail
  refine HR2.out.mono ?_
  rintro e w' ⟨rfl, h⟩
  have h3 := h.symm; clear h; subst h3
  go_wp2_with fail
  refine (HX1.out _).mono ?_
  rintro e wA ⟨rfl, hoA⟩
  have HOA := Vx.hid hoA
  clear hoA
  go_wp2_with fail
  refine (HX2.out _).mono ?_
  rintro e wB ⟨rfl, hoB⟩
  have HOB := Vx.hid (HOA.out.trans hoB)
  clear hoB
  obtain ⟨g, hg1, hg2⟩ := HB2.out _ HOB.out
  go_wp2_with fail
  refine (HLI.out _ HOB.out).mono ?_
  rintro e wC ⟨rfl, hoC⟩
  have HOC := Vx.hid (HOB.out.trans hoC)
  clear hoC hg1 hg2
  go_wp2_with fail
  go_loopw [17] (fun v wr => ∃ c : Nat, v = .int .i64 (c : Int) ∧ c ≤ 600 ∧ Hid (upN c n0 = M) ∧ wr = wC) (fun v _ => M - (intOf v).toNat)
  case atStart => exact ⟨mk, rfl, by omega, HM2.out.symm, rfl⟩
  case round =>
    obtain ⟨c, rfl, hc6, HU, rfl⟩ := hrel
    obtain ⟨r, hr⟩ : ∃ r, r = c % n0 := ⟨_, rfl⟩
    have htm : (c : Int).tmod (n0 : Int) = (r : Int) := by rw [Int.tmod_eq_emod_of_nonneg (by omega), hr]; exact (Int.natCast_emod c n0).symm
    have hrb : r < n0 := by rw [hr]; exact Nat.mod_lt _ (by omega)
    have hwr : IntKind.i64.wrap (r : Int) = (r : Int) := by rw [IntKind.wrap_i64]; omega
    by_cases hr0 : r = 0
    · have HCM : Hid (c = M) := by show c = M; rw [← HU.out]; exact (upN_at (by omega)).symm
      subst hr0
      clear hr HU
      by_cases hbig : pg ≤ (n0 : Int) ∨ pg < (c : Int) + (t : Int)
      · have HE : Hid (giveE os rs num 1 order many = 14) := by show giveE _ _ _ _ _ _ = _; rw [HGE.out, if_pos (hbig.imp (fun h => ⟨(by first | exact rfl | trivial), h⟩) (fun h => by have := HCM.out; omega))]
        have HKE2 := Vx.hid (HKE.out (by rw [HE.out]; decide))
        by_cases hb1 : pg ≤ (n0 : Int)
        · clear hbig
          go_wp2_with fail
          all_goals
            go_ret2
            exact ⟨_, by rw [HE.out]; rfl, (HKE2.out _ HOC.out).1, (HKE2.out _ HOC.out).2.1, (HKE2.out _ HOC.out).2.2⟩
        · have hb2 : pg < (c : Int) + (t : Int) := by omega
          have hwct : IntKind.i64.wrap ((c : Int) + (t : Int)) = (c : Int) + (t : Int) := by rw [IntKind.wrap_i64]; omega
          clear hbig
          go_wp2_with fail
          all_goals
            go_ret2
            exact ⟨_, by rw [HE.out]; rfl, (HKE2.out _ HOC.out).1, (HKE2.out _ HOC.out).2.1, (HKE2.out _ HOC.out).2.2⟩
      · have HE : Hid (giveE os rs num 1 order many = 0) := by show giveE _ _ _ _ _ _ = _; rw [HGE.out, if_neg (fun h => h.elim (fun h => hbig (Or.inl h.2)) (fun h => hbig (Or.inr (by have := HCM.out; omega))))]
        have HGR2 := Vx.hid (HGR.out HE.out)
        have hct : (c : Int) + (t : Int) ≤ pg := by omega
        have hb1 : ¬ pg ≤ (n0 : Int) := by omega
        have hwct : IntKind.i64.wrap ((c : Int) + (t : Int)) = (c : Int) + (t : Int) := by rw [IntKind.wrap_i64]; omega
        rw [← HCM.out] at HGR2
        have H0 : Hid (GvS U w pb P (os) (rs ++ (giveN (a0 + (c : Int)) (n0 : Int) q 0).map (fun y => (y, 0))) (.slice none 0 0) (giveN (a0 + (c : Int)) (n0 : Int) q 0) wr) := ⟨⟨vo, vr, by rw [show rs ++ (giveN (a0 + (c : Int)) (n0 : Int) q 0).map (fun y => (y, (0 : Int))) = rs by simp [giveN]]; exact HK.out.quiet HOC.out⟩, OwnL.nil _ _ _ _, HOC.out.mono (fun _ _ h => h.elim), HLOW.out⟩
        clear hbig
        go_wp2_with fail
        go_loopw [17, 19, 20] (fun mv v d wr => ∃ j c2 : Nat, d = .int .i64 (j : Int) ∧ mv = .int .i64 (c2 : Int) ∧ j ≤ mN ∧ c2 ≤ 256 ∧ Hid (c2 = c + j * n0) ∧ Hid (GvS U w pb P (os) (rs ++ (giveN (a0 + (c : Int)) (n0 : Int) q j).map (fun y => (y, (0 : Int)))) v (giveN (a0 + (c : Int)) (n0 : Int) q j) wr)) (fun _ _ d _ => mN - (intOf d).toNat)
        case atStart => exact ⟨0, c, rfl, rfl, by omega, by omega, (show c = c + 0 * n0 by omega), H0⟩
        case round =>
          clear H0
          obtain ⟨j, c2, rfl, rfl, hj, hc2, HC2, HR⟩ := hrel
          obtain ⟨pv, cv, hvf, _⟩ := HR.out.l.form
          obtain ⟨m, hm⟩ : ∃ m, m = (giveN (a0 + (c : Int)) (n0 : Int) q j).length := ⟨_, rfl⟩
          rw [← hm] at hvf
          subst hvf
          by_cases hlt : j < mN
          · have h1 : (j : Int) < many := by have := HMN.out; omega
            have HJL : Hid (j + 1 ≤ mN) := hlt
            have hwj : IntKind.i64.wrap ((j : Int) + 1) = (j : Int) + 1 := by rw [IntKind.wrap_i64]; omega
            have HC3 : Hid (c2 + n0 = c + (j + 1) * n0 ∧ c2 + n0 ≤ 256) := by
              have e1 : c2 + n0 = c + (j + 1) * n0 := by rw [HC2.out, Nat.add_mul, Nat.one_mul]; omega
              have e2 : (j + 1) * n0 ≤ mN * n0 := Nat.mul_le_mul_right _ (by omega)
              have e3 := HT.out
              exact ⟨e1, by omega⟩
            obtain ⟨y, hy⟩ : ∃ y : Int, y = a0 + (c2 : Int) + q := ⟨_, rfl⟩
            have HY := Vx.hid hy
            have hcc : ((c2 + n0 : Nat) : Int) = (c2 : Int) + (n0 : Int) := by omega
            have hc3 := HC3.out.2
            have hw1 : IntKind.i64.wrap (a0 + (c2 : Int)) = a0 + (c2 : Int) := by rw [IntKind.wrap_i64]; omega
            have hw2 : IntKind.i64.wrap ((c2 : Int) + (n0 : Int)) = (c2 : Int) + (n0 : Int) := by rw [IntKind.wrap_i64]; omega
            have hw3 : IntKind.i64.wrap (a0 + (c2 : Int) + q) = y := by rw [← hy, IntKind.wrap_i64]; omega
            have hgs : giveN (a0 + (c : Int)) (n0 : Int) q (j + 1) = giveN (a0 + (c : Int)) (n0 : Int) q j ++ [y] := by
              rw [giveN_succ, hy]
              have e1 : (c2 : Int) = (c : Int) + (j : Int) * (n0 : Int) := by rw [HC2.out]; push_cast; rfl
              rw [e1]
              congr 2
              omega
            have HGS := Vx.hid hgs
            have HLE : Hid ((giveN (a0 + (c : Int)) (n0 : Int) q j).length + 1 ≤ 10000000) := by show _ + 1 ≤ 10000000; rw [giveN_len]; omega
            have HLX : Hid ((rs ++ (giveN (a0 + (c : Int)) (n0 : Int) q j).map (fun y => (y, (0 : Int)))).length ≤ 900064) := by show _ ≤ _; rw [List.length_append, List.length_map, giveN_len]; omega
            obtain ⟨vo2, vr2, hpo⟩ := HR.out.p
            obtain ⟨px, cx, hvx, _⟩ := own_two hpo.g
            subst hvx
            obtain ⟨N, hN⟩ : ∃ N, N = (rs ++ (giveN (a0 + (c : Int)) (n0 : Int) q j).map (fun y => (y, (0 : Int)))).length := ⟨_, rfl⟩
            have cX := hpo.c2
            rw [← hN] at cX
            have HNN := Vx.hid hN
            have HPO := Vx.hid hpo
            have hpl : pb < wr.heap.size := lt_of_some hpo.r
            clear hgs hm hlt hN hpo hy
            go_upto_region 25 with fail
            obtain ⟨ob, hob⟩ : ∃ ob, ob = wr.heap.size := ⟨_, rfl⟩
            obtain ⟨wa, hwa⟩ : ∃ wa, wa = wr.alloc (.cells #[.int .i64 1, .int .i64 (y)] 33) := ⟨_, rfl⟩
            rw [← hwa, ← hob]
            have hona : Only (fun _ => False) wr wa := by rw [hwa]; exact (Only.refl _ wr).alloc _
            have hza : wa.heap[ob]? = some (.cells #[.int .i64 1, .int .i64 (y)] 33 (0, 0)) := by rw [hwa, hob]; exact heap_alloc_last _ _
            obtain ⟨⟨z0, z1⟩, zf⟩ := obj_cells hza
            have cX2 : wa.cell? ⟨pb, 2, none⟩ = some (.slice px N cx) := by rw [hona.cell (p := ⟨pb, 2, none⟩) hpl (fun h => h)]; exact cX
            obtain ⟨wd, hwd⟩ : ∃ wd, wd = (wa.alloc (.cells #[.int .i64 y, .int .i64 0] 104)).drew := ⟨_, rfl⟩
            have hond : Only (fun _ => False) wa wd := by rw [hwd]; exact ((Only.refl _ wa).alloc _).drew
            have HOND := Vx.hid (hona.trans hond)
            have HYD : Hid (∀ j u, (slL.cf (y, 0))[j]? = some u → wd.cell? ⟨wa.heap.size, j, none⟩ = some u) := fun j u hj => by
              have hl : wd.heap[wa.heap.size]? = some (.cells #[.int .i64 y, .int .i64 0] 104 (0, 0)) := by rw [hwd]; exact heap_alloc_last wa _
              rw [cell_of_row _ _ j _ _ (0, 0) hl]
              have hj2 : (slC (y, 0))[j]? = some u := hj
              simpa [slC] using hj2
            have HOD : Hid (OwnL slL wd 0 104 (.slice px N cx) (rs ++ (giveN (a0 + (c : Int)) (n0 : Int) q j).map (fun y => (y, (0 : Int))))) := by
              have h5 := (HPO.out.quiet HOND.out).g
              rw [← HNN.out] at h5
              exact h5
            have HST : Hid (∀ v' w5, OwnL slL w5 0 104 v' ((rs ++ (giveN (a0 + (c : Int)) (n0 : Int) q j).map (fun y => (y, (0 : Int)))) ++ [(y, 0)]) → Only (fun k => (Value.slice px N cx).ownBlock = some k) wd w5 → (v'.ownBlock = (Value.slice px N cx).ownBlock ∨ ∃ g, v'.ownBlock = some g ∧ wd.heap.size ≤ g ∧ Only (fun _ => False) wd w5) → (∃ p m c, v' = .slice p m c) ∧ (∃ x, w5.cell? ⟨pb, 2, none⟩ = some x) ∧ w5.frozen? ⟨pb, 2, none⟩ = false ∧ (w5.cell? ⟨ob, 1, none⟩ = some (.int .i64 (y))) ∧ Hid (GvS U w pb P os ((rs ++ (giveN (a0 + (c : Int)) (n0 : Int) q j).map (fun y => (y, (0 : Int)))) ++ [(y, 0)]) (.slice pv m cv) (giveN (a0 + (c : Int)) (n0 : Int) q j) (w5.setCell ⟨pb, 2, none⟩ v'))) := fun v' w5 b1 b2 b3 => by
              rw [HNN.out] at b2 b3
              obtain ⟨q1, q2, q3, q4⟩ := HR.out.putG HPO.out HOND.out b1 b2 b3 (by rw [List.length_append, List.length_singleton]; have := HLX.out; omega)
              refine ⟨q1, q2, q3, ?_, q4⟩
              have h6 : w5.heap[ob]? = some (.cells #[.int .i64 1, .int .i64 (y)] 33 (0, 0)) := Only.keep b2 (Only.keep hond hza (fun h => h)) (fun e => by
                have := (own_lt HPO.out.g e).2
                omega)
              exact (cell_of_row _ _ 1 _ _ (0, 0) h6).trans rfl
            have hpa : pb < wa.heap.size := Nat.lt_of_lt_of_le hpl hona.size
            have hoa : ob < wa.heap.size := lt_of_some hza
            have hpo1 : ¬ pb = ob := by omega
            have hpo2 : ¬ ob = pb := by omega
            clear hond hona hza hwa cX zf hob
            go_region_law (refine Vx.step_append_one rgK rfl (.tmp 125) (.tmp 129) rfl 0 (.slice px N cx) (rs ++ (giveN (a0 + (c : Int)) (n0 : Int) q j).map (fun y => (y, (0 : Int)))) (by simp [Act.eval]) (by rw [← hwd]; exact HOD.out) (y, 0) wa.heap.size 1 1 (by simp [Act.eval]) (by rw [← hwd]; exact HYD.out) (by have := HLX.out; omega) (Nat.zero_le _) ?_; intro v' w5 hv1 hv2 hv3; rw [← hwd] at hv2 hv3; obtain ⟨⟨pq, mq, cq, rfl⟩, ⟨qx, hq1⟩, hq2, hz5, HQ5⟩ := HST.out v' w5 hv1 hv2 hv3; clear hv1 hv2 hv3)
            all_goals
              have HBL : Hid (w.heap.size ≤ (w5.setCell ⟨pb, 2, none⟩ (.slice pq mq cq)).heap.size) := HQ5.out.on.size
              go_wp2_with (at_builtin; refine wpList_append_one inK _ rfl _ _ rfl w.heap.size (.slice pv m cv) _ rfl HQ5.out.l (y) _ _ rfl (by simp) rfl HLE.out HBL.out ?_; intro v9 w9 hv1 hv2 hv3; have HNX := Vx.hid (HQ5.out.putN hv1 hv2); clear hv1 hv2 hv3)
              go_roundw
              case rel => exact ⟨j + 1, c2 + n0, by go_num, by rw [hcc], HJL.out, hc3, HC3.out.1, by rw [HGS.out, List.map_append]; first | exact HNX | (simpa using HNX) | (simpa [List.map_append, List.append_assoc] using HNX)⟩
              case measure => have h9 := HJL.out; simp only [intOf]; omega
          · obtain rfl : j = mN := by omega
            have h1 : ¬ (j : Int) < many := by have := HMN.out; omega
            have hlx : i < (rs ++ (giveN (a0 + (c : Int)) (n0 : Int) q j).map (fun y => (y, (0 : Int)))).length := by have := HIN.out.1; rw [List.length_append]; omega
            obtain ⟨g, cg, d0, ⟨dx, d1⟩, d2, HG9⟩ := HR.out.mark i hlx (c2 : Int)
            obtain ⟨L2, hL2⟩ : ∃ L2, L2 = (rs ++ (giveN (a0 + (c : Int)) (n0 : Int) q j).map (fun y => (y, (0 : Int)))).length := ⟨_, rfl⟩
            rw [← hL2] at d0 hlx
            have hidx2 : 0 ≤ (i : Int) ∧ (i : Int) < (L2 : Int) := by omega
            have HFI : Hid ((rs ++ (giveN (a0 + (c : Int)) (n0 : Int) q j).map (fun y => (y, (0 : Int)))).set i (((rs ++ (giveN (a0 + (c : Int)) (n0 : Int) q j).map (fun y => (y, (0 : Int))))[i]'(by rw [← hL2]; exact hlx)).1, (c2 : Int)) = (rs ++ (giveN (a0 + (c : Int)) (n0 : Int) q j).map (fun y => (y, (0 : Int)))).set i (num, (c : Int) + (t : Int))) := by
              have e1 : ((rs ++ (giveN (a0 + (c : Int)) (n0 : Int) q j).map (fun y => (y, (0 : Int))))[i]'(by rw [← hL2]; exact hlx)).1 = num := by rw [List.getElem_append_left HIN.out.1]; exact HIN.out.2
              have e2 : (c2 : Int) = (c : Int) + (t : Int) := by have := HC2.out; have := HT.out; omega
              show _ = _
              rw [e1, e2]
            rw [HFI.out] at HG9
            clear HFI hlt hm hL2
            go_wp2_with fail
            all_goals
              go_ret2
              exact ⟨_, by rw [HE.out]; rfl, by rw [HGR2.out.1]; exact HG9.out.l, by rw [HGR2.out.2.1, HGR2.out.2.2]; exact HG9.out.p, HG9.out.on⟩
    · have hc7 : c < M := by rw [← HU.out]; exact upN_lt (by omega) (by omega)
      have HU2 : Hid (upN (c + 1) n0 = M) := by show upN (c + 1) n0 = M; rw [upN_step (by omega) (by omega)]; exact HU.out
      have hMb : M < 600 := by have h5 := HM2.out; have h6 : upN mk n0 < mk + n0 := upN_bd (by omega); omega
      have hwc : IntKind.i64.wrap ((c : Int) + 1) = (c : Int) + 1 := by rw [IntKind.wrap_i64]; omega
      have hr1 : ((r : Int) == 0) = false := by rw [beq_eq_false_iff_ne]; omega
      have hr2 : ((r : Int) != 0) = true := by rw [bne_iff_ne]; omega
      have hr3 : ¬ r = 0 := hr0
      clear hr HU
      go_wp2_with fail
      go_roundw
      case rel => exact ⟨c + 1, by go_num, by omega, HU2, trivial⟩
      case measure => simp only [intOf]; omega
end Go.Proofs.Ytbbabpgmclhinaa

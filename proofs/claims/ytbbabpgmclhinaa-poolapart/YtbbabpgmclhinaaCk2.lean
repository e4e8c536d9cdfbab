import Derived.Test.YtbbabpgmclhinaaCk1
import Derived.Deep.RegionHeld3
import Derived.Deep.QuietTactic
import Derived.BigQuiet
/- PoolApart: its walk. -/
namespace Go.Proofs.Ytbbabpgmclhinaa
open Go.ChangeShapes Go.WideShapes Go.ChangeAt Go.RowKit
open Go.Vx
set_option linter.unusedVariables false

/-- Deals, where they lie. -/
def DeAt (w : World) (pa : Option Addr) (zs : List (Int × Int × Int × Int)) : Prop :=
  zs = [] ∨ ∃ ab ao, pa = some ⟨ab, ao, none⟩ ∧ ∀ (j : Nat) (h : j < zs.length), w.cell? ⟨ab, ao + j * 4, none⟩ = some (.int .i64 (zs[j]).1) ∧ w.cell? ⟨ab, ao + j * 4 + 1, none⟩ = some (.int .i64 (zs[j]).2.1) ∧ w.cell? ⟨ab, ao + j * 4 + 2, none⟩ = some (.int .i64 (zs[j]).2.2.1) ∧ w.cell? ⟨ab, ao + j * 4 + 3, none⟩ = some (.int .i64 (zs[j]).2.2.2)
abbrev whO : Obj := .cells #[.int .i64 1, .int .i64 1312] 33 (0, 0)
set_option maxRecDepth 100000 in
set_option maxHeartbeats 8000000 in
theorem poolApart_call (W : World) (pa : Option Addr) (len cap : Nat) (zs : List (Int × Int × Int × Int)) (hlen : zs.length = len) (hlc : len ≤ cap) (hcm : cap ≤ maxLen) (hp : DeAt W pa zs) (hz : ∀ z ∈ zs, I64 z.1 ∧ I64 z.2.1 ∧ I64 z.2.2.1 ∧ I64 z.2.2.2) :
    Calls Try.prog 4 #[.slice pa len cap] W fun e w' => e = .returned (.bool true) ∧ Below W.heap.size W w' := by
  have HP := Vx.hid hp
  have HZ := Vx.hid hz
  have HL := Vx.hid hlen
  have hlm : (len : Int) ≤ 9223372036854775807 := by simp [maxLen] at hcm; omega
  clear hp hz hlen hlc hcm
  have HXN := Vx.hid (xpnew_ok 64 (by omega) W)
  go_enter Try.func4, Try.ntmps4
  go_wp2_with fail
  refine HXN.out.mono ?_
  rintro e w1 ⟨xb, rfl, _, hx, ho1⟩
  have HX1 := Vx.hid (⟨hx, ho1⟩ : _ ∧ _)
  have HAD : Hid (Calls Try.prog 8 #[.pointer (some ⟨xb, 0, none⟩), .agg #[.int .i64 1, .int .i64 1312]] (w1.alloc whO) fun e w' => e = .returned (.int .i64 0) ∧ Hid (PaI W xb [(w1.heap.size, whO)] [] [(1312, 0)] w')) := by
    have hx2 : XpAt (fun k => k < W.heap.size ∨ k = w1.heap.size) (w1.alloc whO) xb 64 [] [] := hx.step ((Only.refl (fun _ => False) w1).alloc _) (fun _ _ h => h.elim) (fun k hk => hk.imp (fun h => h) (fun h => by subst h; simp))
    refine (xpadd_ok hx2 1 1312 (by unfold I64; omega) (by unfold I64; omega)).mono ?_
    rintro e w' ⟨rfl, h1, h2⟩
    rw [apw_start.1]
    rw [apw_start.2.1, apw_start.2.2] at h1
    exact ⟨rfl, PaI.start (w2 := w1) hx ho1 whO h1 h2⟩
  clear hx ho1 HXN HX1
  go_wp2_with fail
  refine HAD.out.mono ?_
  rintro e w3 ⟨rfl, H0⟩
  obtain ⟨wb, hwb⟩ : ∃ wb, wb = w1.heap.size := ⟨_, rfl⟩
  rw [← hwb] at H0 ⊢
  clear HAD hwb
  have HWC : Hid (∀ F os rs wv, PaI W xb F os rs wv → (wb, whO) ∈ F → wv.cell? ⟨wb, 0, none⟩ = some (.int .i64 1) ∧ wv.cell? ⟨wb, 1, none⟩ = some (.int .i64 1312)) := fun F os rs wv h hm => (obj_cells (h.at hm)).1
  go_wp2_with fail
  go_loopw [6] (fun d wr => ∃ (i : Nat) (os rs : List (Int × Int)), d = .int .i64 (i : Int) ∧ i ≤ len ∧ i ≤ 300 ∧ Hid (PaI W xb [(wb, whO)] os rs wr)) (fun d _ => len - (RowKit.intOf d).toNat)
  case atStart => exact ⟨0, _, _, rfl, by omega, by omega, H0⟩
  case round =>
    clear H0
    obtain ⟨i, os, rs, rfl, hi, hi2, HR⟩ := hrel
    by_cases hlt : i < len ∧ i < 300
    · as_aux_lemma =>
        have h1 : (i : Int) < (len : Int) := by omega
        have h2 : (i : Int) < 300 := by omega
        have hidx : 0 ≤ (i : Int) ∧ (i : Int) < (len : Int) := by omega
        have hiz : i < zs.length := by have := HL.out; omega
        obtain ⟨ab, ao, rfl, hcz⟩ : ∃ ab ao, pa = some ⟨ab, ao, none⟩ ∧ ∀ (j : Nat) (h : j < zs.length), W.cell? ⟨ab, ao + j * 4, none⟩ = some (.int .i64 (zs[j]).1) ∧ W.cell? ⟨ab, ao + j * 4 + 1, none⟩ = some (.int .i64 (zs[j]).2.1) ∧ W.cell? ⟨ab, ao + j * 4 + 2, none⟩ = some (.int .i64 (zs[j]).2.2.1) ∧ W.cell? ⟨ab, ao + j * 4 + 3, none⟩ = some (.int .i64 (zs[j]).2.2.2) := by
          rcases HP.out with h | h
          · rw [h] at hiz; simp at hiz
          · exact h
        obtain ⟨hc0, hc1, hc2, hc3⟩ := hcz i hiz
        have hab : ab < W.heap.size := World.block_lt_of_cell? W _ hc0
        have HOK := Vx.hid (HZ.out zs[i] (List.getElem_mem _))
        have HCC : Hid (∀ wv, Below W.heap.size W wv → wv.cell? ⟨ab, ao + i * 4, none⟩ = some (.int .i64 (zs[i]).1) ∧ wv.cell? ⟨ab, ao + i * 4 + 1, none⟩ = some (.int .i64 (zs[i]).2.1) ∧ wv.cell? ⟨ab, ao + i * 4 + 2, none⟩ = some (.int .i64 (zs[i]).2.2.1) ∧ wv.cell? ⟨ab, ao + i * 4 + 3, none⟩ = some (.int .i64 (zs[i]).2.2.2)) := fun wv hb => by
          have hcc : ∀ o, wv.cell? ⟨ab, o, none⟩ = W.cell? ⟨ab, o, none⟩ := fun o => hb.cell (p := ⟨ab, o, none⟩) hab
          rw [← hcc] at hc0 hc1 hc2 hc3
          exact ⟨hc0, hc1, hc2, hc3⟩
        generalize zs[i] = z at HOK HCC
        obtain ⟨zk, zw, zt, zm⟩ := z
        simp only at HOK HCC
        have hw9 : IntKind.i64.wrap ((i : Int) + 1) = (i : Int) + 1 := by rw [IntKind.wrap_i64]; omega
        have HI1 : Hid (i + 1 ≤ len ∧ i + 1 ≤ 300) := ⟨by omega, by omega⟩
        clear hcz hlt hab hc0 hc1 hc2 hc3 hiz
        go_wp2_with fail
        refine HR.out.objs.mono ?_
        rintro e w4 ⟨lv, rfl, ls, G, HG⟩
        have hlen2 := apw_len HR.out.apw HG.out.2.1
        obtain ⟨pl, cl, hlv, _⟩ := own_two HG.out.1
        obtain ⟨N, hN⟩ : ∃ N, N = ls.length := ⟨_, rfl⟩
        rw [← hN] at hlv hlen2
        subst hlv
        have HPW := Vx.hid (fun wv => pickK_any N (by omega) (by omega) zw HOK.out.2.1.1 HOK.out.2.1.2 wv)
        obtain ⟨j, hj⟩ : ∃ j, j = pickL zw N := ⟨_, rfl⟩
        have hjN : j < N := by rw [hj]; exact Nat.mod_lt _ (by omega)
        rw [← hj] at HPW
        have hjl : j < ls.length := by omega
        obtain ⟨g, rfl, a0, a1⟩ := own_at HG.out.1 j hjl
        have HOM : Hid (ls[j] ∈ allL os rs) := HG.out.2.1.mem_iff.1 (List.getElem_mem _)
        generalize ls[j] = o at a0 a1 HOM
        obtain ⟨ok, on⟩ := o
        dsimp only at a0 a1
        obtain ⟨d0, d1, d2, d3⟩ := HCC.out _ HG.out.2.2.2.1.be
        have hjx : 0 ≤ (j : Int) ∧ (j : Int) < (N : Int) := by omega
        have HNN := Vx.hid hN
        clear hj hN hjl
        go_wp2_with fail
        refine (HPW.out _).mono ?_
        rintro e w' ⟨rfl, h⟩
        have h3 := h.symm; clear h; subst h3
        go_upto_region 13 with fail
        have HP5 := Vx.hid (HG.out.2.2.2.1.alloc (.cells #[.int .i64 ok, .int .i64 on] 33 (0, 0)))
        obtain ⟨w5, hw5⟩ : ∃ w5, w5 = w4.alloc (.cells #[.int .i64 ok, .int .i64 on] 33) := ⟨_, rfl⟩
        obtain ⟨ob, hob⟩ : ∃ ob, ob = w4.heap.size := ⟨_, rfl⟩
        rw [← hw5, ← hob] at HP5 ⊢
        clear hw5 hob a0 a1 d0 d1 d2 d3
        have HP6 : Hid (PaI W xb [(ob, .cells #[.int .i64 ok, .int .i64 on] 33 (0, 0)), (wb, whO)] os rs w5) := HP5.out.less (fun p hp => by
          rcases List.mem_cons.1 hp with rfl | hp
          · exact List.mem_cons_self
          · exact List.mem_cons_of_mem _ (List.mem_append_right _ hp))
        have HOC : Hid (∀ F os rs wv, PaI W xb F os rs wv → (ob, .cells #[.int .i64 ok, .int .i64 on] 33 (0, 0)) ∈ F → wv.cell? ⟨ob, 0, none⟩ = some (.int .i64 ok) ∧ wv.cell? ⟨ob, 1, none⟩ = some (.int .i64 on)) := fun F os rs wv h hm => (obj_cells (h.at hm)).1
        clear HP5 HG hlen2 HPW HR HNN hjx hjN
        have HPK := Vx.hid (fun wv => pickK_any 3 (by decide) (by decide) zk HOK.out.1.1 HOK.out.1.2 wv)
        obtain ⟨q3, hq3⟩ : ∃ q, q = pickL zk 3 := ⟨_, rfl⟩
        have hq3b : q3 < 3 := by rw [hq3]; exact Nat.mod_lt _ (by decide)
        rw [← hq3] at HPK
        clear hq3
        obtain ⟨d0, d1, d2, d3⟩ := HCC.out _ HP6.out.be
        go_wp2_with fail
        refine (HPK.out _).mono ?_
        rintro e w' ⟨rfl, h⟩
        have h3 := h.symm; clear h; subst h3
        obtain ⟨o0, o1⟩ := HOC.out _ _ _ _ HP6.out List.mem_cons_self
        obtain ⟨b0, b1⟩ := HWC.out _ _ _ _ HP6.out (by simp)
        clear HPK
        by_cases hq : q3 = 0
        · as_aux_lemma =>
            subst hq
            by_cases how : (ok, on) = (1, 1312)
            · injection how with e1 e2
              subst e1
              subst e2
              have HR2 : Hid (PaI W xb [(wb, whO)] os rs w5) := HP6.out.less (fun p hp => List.mem_cons_of_mem _ hp)
              go_wp2_with fail
              go_roundw
              case rel => exact ⟨i + 1, os, rs, by go_num, HI1.out.1, HI1.out.2, HR2⟩
              case measure => have := HI1.out; simp only [RowKit.intOf]; omega
            · as_aux_lemma =>
                have HOB2 := Vx.hid (all_ob HP6.out.apw.wf HOM.out)
                have HI64 : Hid (I64 ok ∧ I64 on) := by
                  have h5 := HOB2.out.2
                  simp only at h5
                  refine ⟨?_, by unfold I64; omega⟩
                  rcases all_mem.1 HOM.out with h6 | ⟨r, _, h6⟩
                  · have := HP6.out.apw.wf.ok _ h6
                    unfold I64
                    simp only at this
                    omega
                  · injection h6 with h6 _
                    rw [h6]
                    unfold I64
                    omega
                have HEM : Hid (∀ F wv, PaI W xb F os rs wv → Calls Try.prog 16 #[.pointer (some ⟨xb, 0, none⟩), .int .i64 on] wv fun e w' => e = .returned (.tuple #[.bool (emptyR os rs on).1, .int .i64 (emptyR os rs on).2]) ∧ Hid (PaI W xb F os rs w')) := fun F wv h => h.xread (fun U hx => xpempty_ok hx on HI64.out.2)
                have HRM : Hid (∀ F wv, PaI W xb F os rs wv → Calls Try.prog 17 #[.pointer (some ⟨xb, 0, none⟩), .agg #[.int .i64 ok, .int .i64 on]] wv fun e w' => e = .returned (.int .i64 (remE os rs (ok, on))) ∧ Hid (PaI W xb F (remO os (ok, on)) (remG os rs (ok, on)) w')) := fun F wv h => h.xcall (h.apw.rem how) (fun U hx => xprem_ok hx ok on HI64.out.1 HI64.out.2)
                have hrt := rem_there HP6.out.apw.wf HOM.out
                generalize remO os (ok, on) = os9 at HRM
                generalize remG os rs (ok, on) = rs9 at HRM
                simp only at hrt
                have HMO : Hid ((ob, .cells #[.int .i64 ok, .int .i64 on] 33 (0, 0)) ∈ [(ob, .cells #[.int .i64 ok, .int .i64 on] 33 (0, 0)), (wb, whO)]) := List.mem_cons_self
                by_cases hk1 : ok = 1
                · as_aux_lemma =>
                    subst hk1
                    have hon : ¬ on = 1312 := fun h => how (by rw [h])
                    have e3 : (on == 1312) = false := beq_eq_false_iff_ne.2 hon
                    have hrt2 : remE os rs (1, on) = (if liesB os rs on = true then 16 else 0) ∧ emptyR os rs on = (!liesB os rs on, 0) := by
                      rcases hrt with h | h
                      · exact absurd rfl h.1
                      · exact h.2
                    cases hl : liesB os rs on with
                    | true =>
                      rw [hrt2.1, hl, if_pos rfl] at HRM
                      rw [hrt2.2, hl] at HEM
                      simp only [Bool.not_true] at HEM
                      clear hrt2 hl
                      clear hrt how
                      go_wp2_with fail
                      refine (HEM.out _ _ HP6.out).mono ?_
                      rintro e w6 ⟨rfl, HP7⟩
                      clear o0 o1 b0 b1 d0 d1 d2 d3
                      obtain ⟨o0, o1⟩ := HOC.out _ _ _ _ HP7.out List.mem_cons_self
                      go_wp2_with fail
                      refine (HRM.out _ _ HP7.out).mono ?_
                      rintro e w7 ⟨rfl, HP8⟩
                      clear o0 o1
                      obtain ⟨o0, o1⟩ := HOC.out _ _ _ _ HP8.out List.mem_cons_self
                      have HR2 : Hid (PaI W xb [(wb, whO)] os9 rs9 w7) := HP8.out.less (fun p hp => List.mem_cons_of_mem _ hp)
                      go_wp2_with fail
                      go_roundw
                      case rel => exact ⟨i + 1, os9, rs9, by go_num, HI1.out.1, HI1.out.2, HR2⟩
                      case measure => have := HI1.out; simp only [RowKit.intOf]; omega
                    | false =>
                      rw [hrt2.1, hl, if_neg (by decide)] at HRM
                      rw [hrt2.2, hl] at HEM
                      simp only [Bool.not_false] at HEM
                      clear hrt2 hl
                      clear hrt how
                      go_wp2_with fail
                      refine (HEM.out _ _ HP6.out).mono ?_
                      rintro e w6 ⟨rfl, HP7⟩
                      clear o0 o1 b0 b1 d0 d1 d2 d3
                      obtain ⟨o0, o1⟩ := HOC.out _ _ _ _ HP7.out List.mem_cons_self
                      go_wp2_with fail
                      refine (HRM.out _ _ HP7.out).mono ?_
                      rintro e w7 ⟨rfl, HP8⟩
                      clear o0 o1
                      obtain ⟨o0, o1⟩ := HOC.out _ _ _ _ HP8.out List.mem_cons_self
                      have HR2 : Hid (PaI W xb [(wb, whO)] os9 rs9 w7) := HP8.out.less (fun p hp => List.mem_cons_of_mem _ hp)
                      go_wp2_with fail
                      go_roundw
                      case rel => exact ⟨i + 1, os9, rs9, by go_num, HI1.out.1, HI1.out.2, HR2⟩
                      case measure => have := HI1.out; simp only [RowKit.intOf]; omega
                · as_aux_lemma =>
                    have e1 : (ok != 1) = true := by simpa using hk1
                    have e2 : (ok == 1) = false := by simpa using hk1
                    have hre : remE os rs (ok, on) = 0 := by
                      rcases hrt with h | h
                      · exact h.2
                      · exact absurd h.1 hk1
                    rw [hre] at HRM
                    generalize (emptyR os rs on).1 = y1 at HEM
                    generalize (emptyR os rs on).2 = y2 at HEM
                    clear hre
                    clear hrt how
                    go_wp2_with fail
                    refine (HEM.out _ _ HP6.out).mono ?_
                    rintro e w6 ⟨rfl, HP7⟩
                    clear o0 o1 b0 b1 d0 d1 d2 d3
                    obtain ⟨o0, o1⟩ := HOC.out _ _ _ _ HP7.out List.mem_cons_self
                    go_wp2_with fail
                    refine (HRM.out _ _ HP7.out).mono ?_
                    rintro e w7 ⟨rfl, HP8⟩
                    clear o0 o1
                    obtain ⟨o0, o1⟩ := HOC.out _ _ _ _ HP8.out List.mem_cons_self
                    have HR2 : Hid (PaI W xb [(wb, whO)] os9 rs9 w7) := HP8.out.less (fun p hp => List.mem_cons_of_mem _ hp)
                    go_wp2_with fail
                    go_roundw
                    case rel => exact ⟨i + 1, os9, rs9, by go_num, HI1.out.1, HI1.out.2, HR2⟩
                    case measure => have := HI1.out; simp only [RowKit.intOf]; omega
        · as_aux_lemma =>
            have hq2 : ((q3 : Int) == 0) = false := by rw [beq_eq_false_iff_ne]; omega
            by_cases hk1 : ok = 1
            · as_aux_lemma =>
                subst hk1
                have HAP := Vx.hid HP6.out.apw
                have HRR : Hid (∃ r ∈ rs, r.1 = on) := by
                  rcases all_mem.1 HOM.out with h6 | ⟨r, hr, h6⟩
                  · have := HAP.out.wf.ok _ h6
                    simp only at this
                    omega
                  · injection h6 with _ h6
                    exact ⟨r, hr, h6.symm⟩
                have HRGO : Hid (RgOk on) := by
                  obtain ⟨r, hr, rfl⟩ := HRR.out
                  exact (HAP.out.wf.rk r hr).1
                have HION : Hid (I64 on) := by have h9 := HRGO.out; unfold RgOk at h9; unfold Hid I64; omega
                have HP8 := Vx.hid (fun wv => pickK_any 8 (by decide) (by decide) zt HOK.out.2.2.1.1 HOK.out.2.2.1.2 wv)
                obtain ⟨p8, hp8⟩ : ∃ q, q = pickL zt 8 := ⟨_, rfl⟩
                have hp8b : p8 < 8 := by rw [hp8]; exact Nat.mod_lt _ (by decide)
                rw [← hp8] at HP8
                have HP5 := Vx.hid (fun wv => pickK_any 5 (by decide) (by decide) zm HOK.out.2.2.2.1 HOK.out.2.2.2.2 wv)
                obtain ⟨p5, hp5⟩ : ∃ q, q = pickL zm 5 := ⟨_, rfl⟩
                have hp5b : p5 < 5 := by rw [hp5]; exact Nat.mod_lt _ (by decide)
                rw [← hp5] at HP5
                obtain ⟨my, hmy⟩ : ∃ my : Int, my = 1 + (p5 : Int) := ⟨_, rfl⟩
                have hmyb : 1 ≤ my ∧ my ≤ 5 := by omega
                have hwmy : IntKind.i64.wrap (1 + (p5 : Int)) = my := by rw [← hmy, IntKind.wrap_i64]; omega
                clear hp8 hp5 hmy
                by_cases hp0 : p8 = 0
                · as_aux_lemma =>
                    subst hp0
                    have hztb : -9223372036854775808 ≤ zt.tdiv 8 ∧ zt.tdiv 8 ≤ 9223372036854775807 := by
                      have h9 := HOK.out.2.2.1
                      unfold I64 at h9
                      have h8 : zt.tdiv 8 = if 0 ≤ zt then zt / 8 else -((-zt) / 8) := by
                        split
                        · exact Int.tdiv_eq_ediv_of_nonneg (by omega)
                        · have h7 : zt.tdiv 8 = -((-zt).tdiv 8) := by rw [Int.neg_tdiv]; omega
                          rw [h7, Int.tdiv_eq_ediv_of_nonneg (by omega)]
                      rw [h8]
                      split <;> omega
                    have hwzt : IntKind.i64.wrap (zt.tdiv 8) = zt.tdiv 8 := by rw [IntKind.wrap_i64]; omega
                    have HP4 := Vx.hid (fun wv => pickK_any 4 (by decide) (by decide) (zt.tdiv 8) hztb.1 hztb.2 wv)
                    obtain ⟨od, hod⟩ : ∃ q, q = pickL (zt.tdiv 8) 4 := ⟨_, rfl⟩
                    have hodb : od < 4 := by rw [hod]; exact Nat.mod_lt _ (by decide)
                    rw [← hod] at HP4
                    clear hod hztb
                    go_wp2_with fail
                    refine (HP8.out _).mono ?_
                    rintro e w' ⟨rfl, h⟩
                    have h3 := h.symm; clear h; subst h3
                    go_wp2_with fail
                    refine (HP4.out _).mono ?_
                    rintro e w' ⟨rfl, h⟩
                    have h3 := h.symm; clear h; subst h3
                    go_upto_region 27 with fail
                    have HGV : Hid (∀ F wv, PaI W xb F os rs wv → Calls Try.prog 9 #[.pointer (some ⟨xb, 0, none⟩), .int .i64 on, .int .i64 (1), .int .i64 ((od : Int)), .int .i64 my] wv fun e w' => ∃ v, e = .returned (.tuple #[v, .int .i64 (giveE os rs on (1) ((od : Int)) my)]) ∧ Hid (OwnL inL w' wv.heap.size 3 v (giveRs os rs on (1) ((od : Int)) my) ∧ PaI W xb F (giveRO os rs on (1) ((od : Int)) my) (giveRG os rs on (1) ((od : Int)) my) w')) := fun F wv h => h.give HION.out (by unfold I64; omega) (by unfold I64; omega) (by unfold I64; omega)
                    have HOUT : Hid ((giveE os rs on (1) ((od : Int)) my = 0 ∧ 1 ≤ (giveRs os rs on (1) ((od : Int)) my).length ∧ (giveRs os rs on (1) ((od : Int)) my).length ≤ 5) ∨ (giveE os rs on (1) ((od : Int)) my = 14 ∧ (giveRs os rs on (1) ((od : Int)) my).length = 0)) := by
                      obtain ⟨r, hr, hrn⟩ := HRR.out
                      rcases give_room (os := os) (rs := rs) (num := on) (kind := (1)) (order := ((od : Int))) (many := my) hr hrn (by omega) (by omega) (by intro h9; exact absurd rfl h9) (by omega) with h | h
                      · left
                        refine ⟨h, ?_, ?_⟩ <;> (rw [give_count h]; omega)
                      · right
                        exact ⟨h.1, by rw [h.2]; rfl⟩
                    have HEA : Hid (∀ y ∈ giveRs os rs on (1) ((od : Int)) my, ObB (1, y) ∧ pgA (1, on) ≤ pgA (1, y) ∧ pgA (1, y) + pgN (1, y) ≤ pgA (1, on) + pgN (1, on) ∧ ((1 : Int) = 1 → pgN (1, y) < pgN (1, on))) := fun y hy => by
                      have he : giveE os rs on (1) ((od : Int)) my = 0 := by
                        rcases HOUT.out with h | h
                        · exact h.1
                        · have := List.length_pos_of_mem hy
                          omega
                      obtain ⟨q1, q2⟩ := give_each HAP.out.wf he hy
                      have hp64 := HAP.out.wf
                      rw [pgA_b, pgN_b]
                      obtain ⟨r1, r2, r3, r4⟩ := q1 rfl
                      rw [pgA_b, pgN_b]
                      unfold RgOk at r1
                      exact ⟨⟨fun _ => r1, by simp only; omega, by simp only; omega⟩, by omega, by omega, fun _ => by omega⟩
                    generalize giveE os rs on (1) ((od : Int)) my = er at HGV HOUT
                    generalize giveRO os rs on (1) ((od : Int)) my = os9 at HGV
                    generalize giveRG os rs on (1) ((od : Int)) my = rs9 at HGV
                    generalize giveRs os rs on (1) ((od : Int)) my = ns at HGV HOUT HEA
                    have HEXO := Vx.hid (fun wv => kextent_ok 1 on (fun _ => HRGO.out) wv)
                    have HBO : Hid (0 ≤ pgA (1, on) ∧ pgA (1, on) < 256 ∧ 1 ≤ pgN (1, on) ∧ pgN (1, on) ≤ 256) := ⟨(pgA_bd rfl).1, (pgA_bd rfl).2, (pgN_bd (fun _ => HRGO.out)).1, (pgN_bd (fun _ => HRGO.out)).2⟩
                    generalize pgA (1, on) = ba at HEA HEXO HBO
                    generalize pgN (1, on) = bm at HEA HEXO HBO
                    have HCE : Hid (∀ F os rs wv, PaI W xb F os rs wv → (ob, .cells #[.int .i64 1, .int .i64 on] 33 (0, 0)) ∈ F → wv.cell? ⟨ob, 1, none⟩ = some (.int .i64 on) ∧ wv.cell? ⟨ab, ao + i * 4 + 3, none⟩ = some (.int .i64 zm)) := fun F os rs wv h hm => ⟨(HOC.out _ _ _ _ h hm).2, (HCC.out _ h.be).2.2.2⟩
                    clear o0 o1 b0 b1 d0 d1 d2 d3
                    have HI0 := Vx.hid (HP6.out.quiet ((Only.refl _ _).drew))
                    have HS0 := Vx.hid (HCE.out _ _ _ _ HI0.out List.mem_cons_self)
                    have HS1 := HS0
                    go_region_held3 (fun wv => wv.cell? ⟨ob, 1, none⟩ = some (.int .i64 on) ∧ wv.cell? ⟨ab, ao + i * 4 + 3, none⟩ = some (.int .i64 zm)) (first | with_reducible exact HS0.out | with_reducible exact HS1.out) (first | (go_at_call 15; refine (HP5.out _).mono ?_; rintro e w' ⟨rfl, h⟩; have h3 := h.symm; clear h; subst h3) | (go_at_call 9; refine (HGV.out _ _ HI0.out).mono ?_; rintro e w7 ⟨gv, rfl, HG7⟩; have HS1 := Vx.hid (HCE.out _ _ _ _ HG7.out.2 List.mem_cons_self)))
                    obtain ⟨pv, cv, hgv, _, _, hgp⟩ := HG7.out.1.form
                    obtain ⟨m, hm⟩ : ∃ m, m = ns.length := ⟨_, rfl⟩
                    have HML := Vx.hid hm
                    rw [← hm] at hgv
                    subst hgv
                    have HGP : Hid (0 < ns.length → ∃ g, pv = some ⟨g, 0, none⟩) := fun h9 => by obtain ⟨g, h8, _⟩ := hgp h9; exact ⟨g, h8⟩
                    clear hgp
                    have hm5 : m ≤ 5 := by rw [hm]; rcases HOUT.out with h | h <;> omega
                    obtain ⟨o0, o1⟩ := HOC.out _ _ _ _ HG7.out.2 List.mem_cons_self
                    clear HS0 HS1 HI0 HGV hm
                    go_wp2_with fail
                    refine (HEXO.out _).mono ?_
                    rintro e w8 ⟨rfl, ho8⟩
                    have HO8 := Vx.hid ho8
                    clear ho8 o0 o1
                    go_wp2_with fail
                    go_loopw [19] (fun d wr => ∃ k : Nat, d = .int .i64 (k : Int) ∧ k ≤ m ∧ Hid (Only (fun _ => False) w7 wr)) (fun d _ => m - (RowKit.intOf d).toNat)
                    case atStart => exact ⟨0, rfl, by omega, HO8⟩
                    case round =>
                      clear HO8
                      obtain ⟨k, rfl, hk, HO9⟩ := hrel
                      by_cases hk2 : k < m
                      · as_aux_lemma =>
                          have n1 : (k : Int) < (m : Int) := by omega
                          have hidk : 0 ≤ (k : Int) ∧ (k : Int) < (m : Int) := by omega
                          have hwk : IntKind.i64.wrap ((k : Int) + 1) = (k : Int) + 1 := by rw [IntKind.wrap_i64]; omega
                          have hkl : k < ns.length := by have := HML.out; omega
                          have HK1 : Hid (k + 1 ≤ m) := hk2
                          have hown := HG7.out.1.kept HO9.out (fun _ _ h => h)
                          obtain ⟨g, hpg⟩ := HGP.out (by omega)
                          subst hpg
                          have a0 : wr.cell? ⟨g, k, none⟩ = some (.int .i64 ns[k]) := by
                            have h9 := hown.cell k 0 hkl (by decide)
                            have e9 : k * inL.sz + 0 = k := Nat.mul_one k
                            rw [e9] at h9
                            exact h9.trans rfl
                          have hey := HEA.out ns[k] (List.getElem_mem _)
                          have HEK := Vx.hid (fun wv => kextent_ok (1) ns[k] hey.1.1 wv)
                          have bk := obB_bd hey.1
                          generalize ns[k] = y at a0 hey HEK bk
                          generalize pgA (1, y) = ay at hey HEK bk
                          generalize pgN (1, y) = ny at hey HEK bk
                          have bb := HBO.out
                          have w1' : IntKind.i64.wrap (ay + ny) = ay + ny := by rw [IntKind.wrap_i64]; omega
                          have w2' : IntKind.i64.wrap (ba + bm) = ba + bm := by rw [IntKind.wrap_i64]; omega
                          have n2 : ¬ ay < ba := by omega
                          have n4 : ¬ ba + bm < ay + ny := by omega
                          clear hk2 hkl hown
                          go_wp2_with fail
                          refine (HEK.out _).mono ?_
                          rintro e w10 ⟨rfl, ho10⟩
                          have HO10 := Vx.hid (HO9.out.trans ho10)
                          clear ho10 a0
                          have n3 : ¬ bm ≤ ny := by have := hey.2.2.2 (by first | exact rfl | trivial); omega
                          go_wp2_with fail
                          go_roundw
                          case rel => exact ⟨k + 1, by go_num, HK1.out, HO10⟩
                          case measure => have := HK1.out; simp only [RowKit.intOf]; omega
                      · as_aux_lemma =>
                          obtain rfl : k = m := by omega
                          have n1 : ¬ (k : Int) < (k : Int) := by omega
                          have HP9 := Vx.hid (HG7.out.2.quiet HO9.out)
                          have HP10 : Hid (PaI W xb [(wb, whO)] os9 rs9 wr) := HP9.out.less (fun p hp => List.mem_cons_of_mem _ hp)
                          clear hk2
                          rcases HOUT.out with ⟨rfl, l1, l2⟩ | ⟨rfl, l1⟩
                          · have l3 : ¬ k = 0 := by have := HML.out; omega
                            have l4 : ((k : Int) == 0) = false := by rw [beq_eq_false_iff_ne]; omega
                            clear l1 l2
                            go_wp2_with fail
                            refine HP10.out.objs.mono ?_
                            rintro e w11 ⟨lv2, rfl, ls2, G2, HG2⟩
                            have hlen3 := apw_len HP10.out.apw HG2.out.2.1
                            have HAP2 := Vx.hid (apart_ok (own_lie HG2.out.1 (by omega)) (fun x hx => all_ob HP10.out.apw.wf (HG2.out.2.1.mem_iff.1 hx)) (all_apart HP10.out.apw.wf HG2.out.2.1 HG2.out.2.2.1))
                            clear hlen3
                            go_wp2_with fail
                            refine HAP2.out.mono ?_
                            rintro e w12 ⟨rfl, ho12⟩
                            have HR2 : Hid (PaI W xb [(wb, whO)] os9 rs9 w12) := (HG2.out.2.2.2.1.quiet ho12).less (fun p hp => List.mem_append_right _ hp)
                            clear ho12
                            go_wp2_with fail
                            go_roundw
                            case rel => exact ⟨i + 1, os9, rs9, by go_num, HI1.out.1, HI1.out.2, HR2⟩
                            case measure => have := HI1.out; simp only [RowKit.intOf]; omega
                          · obtain rfl : k = 0 := by have := HML.out; omega
                            clear l1
                            go_wp2_with fail
                            refine HP10.out.objs.mono ?_
                            rintro e w11 ⟨lv2, rfl, ls2, G2, HG2⟩
                            have hlen3 := apw_len HP10.out.apw HG2.out.2.1
                            have HAP2 := Vx.hid (apart_ok (own_lie HG2.out.1 (by omega)) (fun x hx => all_ob HP10.out.apw.wf (HG2.out.2.1.mem_iff.1 hx)) (all_apart HP10.out.apw.wf HG2.out.2.1 HG2.out.2.2.1))
                            clear hlen3
                            go_wp2_with fail
                            refine HAP2.out.mono ?_
                            rintro e w12 ⟨rfl, ho12⟩
                            have HR2 : Hid (PaI W xb [(wb, whO)] os9 rs9 w12) := (HG2.out.2.2.2.1.quiet ho12).less (fun p hp => List.mem_append_right _ hp)
                            clear ho12
                            go_wp2_with fail
                            go_roundw
                            case rel => exact ⟨i + 1, os9, rs9, by go_num, HI1.out.1, HI1.out.2, HR2⟩
                            case measure => have := HI1.out; simp only [RowKit.intOf]; omega
                · as_aux_lemma =>
                    obtain ⟨kd, hkd⟩ : ∃ kd : Int, kd = 1 + (p8 : Int) := ⟨_, rfl⟩
                    have hkdb : 2 ≤ kd ∧ kd ≤ 8 := by omega
                    have hwkd : IntKind.i64.wrap (1 + (p8 : Int)) = kd := by rw [← hkd, IntKind.wrap_i64]; omega
                    have e1 : (kd == 1) = false := by rw [beq_eq_false_iff_ne]; omega
                    clear hkd hp0
                    go_wp2_with fail
                    refine (HP8.out _).mono ?_
                    rintro e w' ⟨rfl, h⟩
                    have h3 := h.symm; clear h; subst h3
                    go_upto_region 27 with fail
                    have HGV : Hid (∀ F wv, PaI W xb F os rs wv → Calls Try.prog 9 #[.pointer (some ⟨xb, 0, none⟩), .int .i64 on, .int .i64 (kd), .int .i64 (0), .int .i64 my] wv fun e w' => ∃ v, e = .returned (.tuple #[v, .int .i64 (giveE os rs on (kd) (0) my)]) ∧ Hid (OwnL inL w' wv.heap.size 3 v (giveRs os rs on (kd) (0) my) ∧ PaI W xb F (giveRO os rs on (kd) (0) my) (giveRG os rs on (kd) (0) my) w')) := fun F wv h => h.give HION.out (by unfold I64; omega) (by unfold I64; omega) (by unfold I64; omega)
                    have HOUT : Hid ((giveE os rs on (kd) (0) my = 0 ∧ 1 ≤ (giveRs os rs on (kd) (0) my).length ∧ (giveRs os rs on (kd) (0) my).length ≤ 5) ∨ (giveE os rs on (kd) (0) my = 14 ∧ (giveRs os rs on (kd) (0) my).length = 0)) := by
                      obtain ⟨r, hr, hrn⟩ := HRR.out
                      rcases give_room (os := os) (rs := rs) (num := on) (kind := (kd)) (order := (0)) (many := my) hr hrn (by omega) (by omega) (by intro _; rfl) (by omega) with h | h
                      · left
                        refine ⟨h, ?_, ?_⟩ <;> (rw [give_count h]; omega)
                      · right
                        exact ⟨h.1, by rw [h.2]; rfl⟩
                    have HEA : Hid (∀ y ∈ giveRs os rs on (kd) (0) my, ObB (kd, y) ∧ pgA (1, on) ≤ pgA (kd, y) ∧ pgA (kd, y) + pgN (kd, y) ≤ pgA (1, on) + pgN (1, on) ∧ ((kd : Int) = 1 → pgN (kd, y) < pgN (1, on))) := fun y hy => by
                      have he : giveE os rs on (kd) (0) my = 0 := by
                        rcases HOUT.out with h | h
                        · exact h.1
                        · have := List.length_pos_of_mem hy
                          omega
                      obtain ⟨q1, q2⟩ := give_each HAP.out.wf he hy
                      have hp64 := HAP.out.wf
                      rw [pgA_b, pgN_b]
                      obtain ⟨r3, r4⟩ := q2 (by omega)
                      have hk9 : (kd, y).1 ≠ 1 := by simp only; omega
                      rw [pgA_o hk9, pgN_o hk9]
                      have hbl := bA_lt on
                      have hbn : (bN on : Int) ≤ 256 := by have := (pgN_bd (o := (1, on)) (fun _ => HRGO.out)).2; rw [pgN_b] at this; exact this
                      simp only
                      exact ⟨⟨fun h9 => by simp only at h9; omega, by simp only; omega, by simp only; omega⟩, by omega, by omega, fun h9 => by omega⟩
                    generalize giveE os rs on (kd) (0) my = er at HGV HOUT
                    generalize giveRO os rs on (kd) (0) my = os9 at HGV
                    generalize giveRG os rs on (kd) (0) my = rs9 at HGV
                    generalize giveRs os rs on (kd) (0) my = ns at HGV HOUT HEA
                    have HEXO := Vx.hid (fun wv => kextent_ok 1 on (fun _ => HRGO.out) wv)
                    have HBO : Hid (0 ≤ pgA (1, on) ∧ pgA (1, on) < 256 ∧ 1 ≤ pgN (1, on) ∧ pgN (1, on) ≤ 256) := ⟨(pgA_bd rfl).1, (pgA_bd rfl).2, (pgN_bd (fun _ => HRGO.out)).1, (pgN_bd (fun _ => HRGO.out)).2⟩
                    generalize pgA (1, on) = ba at HEA HEXO HBO
                    generalize pgN (1, on) = bm at HEA HEXO HBO
                    have HCE : Hid (∀ F os rs wv, PaI W xb F os rs wv → (ob, .cells #[.int .i64 1, .int .i64 on] 33 (0, 0)) ∈ F → wv.cell? ⟨ob, 1, none⟩ = some (.int .i64 on) ∧ wv.cell? ⟨ab, ao + i * 4 + 3, none⟩ = some (.int .i64 zm)) := fun F os rs wv h hm => ⟨(HOC.out _ _ _ _ h hm).2, (HCC.out _ h.be).2.2.2⟩
                    clear o0 o1 b0 b1 d0 d1 d2 d3
                    have HI0 := Vx.hid (HP6.out.quiet ((Only.refl _ _).drew))
                    have HS0 := Vx.hid (HCE.out _ _ _ _ HI0.out List.mem_cons_self)
                    have HS1 := HS0
                    go_region_held3 (fun wv => wv.cell? ⟨ob, 1, none⟩ = some (.int .i64 on) ∧ wv.cell? ⟨ab, ao + i * 4 + 3, none⟩ = some (.int .i64 zm)) (first | with_reducible exact HS0.out | with_reducible exact HS1.out) (first | (go_at_call 15; refine (HP5.out _).mono ?_; rintro e w' ⟨rfl, h⟩; have h3 := h.symm; clear h; subst h3) | (go_at_call 9; refine (HGV.out _ _ HI0.out).mono ?_; rintro e w7 ⟨gv, rfl, HG7⟩; have HS1 := Vx.hid (HCE.out _ _ _ _ HG7.out.2 List.mem_cons_self)))
                    obtain ⟨pv, cv, hgv, _, _, hgp⟩ := HG7.out.1.form
                    obtain ⟨m, hm⟩ : ∃ m, m = ns.length := ⟨_, rfl⟩
                    have HML := Vx.hid hm
                    rw [← hm] at hgv
                    subst hgv
                    have HGP : Hid (0 < ns.length → ∃ g, pv = some ⟨g, 0, none⟩) := fun h9 => by obtain ⟨g, h8, _⟩ := hgp h9; exact ⟨g, h8⟩
                    clear hgp
                    have hm5 : m ≤ 5 := by rw [hm]; rcases HOUT.out with h | h <;> omega
                    obtain ⟨o0, o1⟩ := HOC.out _ _ _ _ HG7.out.2 List.mem_cons_self
                    clear HS0 HS1 HI0 HGV hm
                    go_wp2_with fail
                    refine (HEXO.out _).mono ?_
                    rintro e w8 ⟨rfl, ho8⟩
                    have HO8 := Vx.hid ho8
                    clear ho8 o0 o1
                    go_wp2_with fail
                    go_loopw [19] (fun d wr => ∃ k : Nat, d = .int .i64 (k : Int) ∧ k ≤ m ∧ Hid (Only (fun _ => False) w7 wr)) (fun d _ => m - (RowKit.intOf d).toNat)
                    case atStart => exact ⟨0, rfl, by omega, HO8⟩
                    case round =>
                      clear HO8
                      obtain ⟨k, rfl, hk, HO9⟩ := hrel
                      by_cases hk2 : k < m
                      · as_aux_lemma =>
                          have n1 : (k : Int) < (m : Int) := by omega
                          have hidk : 0 ≤ (k : Int) ∧ (k : Int) < (m : Int) := by omega
                          have hwk : IntKind.i64.wrap ((k : Int) + 1) = (k : Int) + 1 := by rw [IntKind.wrap_i64]; omega
                          have hkl : k < ns.length := by have := HML.out; omega
                          have HK1 : Hid (k + 1 ≤ m) := hk2
                          have hown := HG7.out.1.kept HO9.out (fun _ _ h => h)
                          obtain ⟨g, hpg⟩ := HGP.out (by omega)
                          subst hpg
                          have a0 : wr.cell? ⟨g, k, none⟩ = some (.int .i64 ns[k]) := by
                            have h9 := hown.cell k 0 hkl (by decide)
                            have e9 : k * inL.sz + 0 = k := Nat.mul_one k
                            rw [e9] at h9
                            exact h9.trans rfl
                          have hey := HEA.out ns[k] (List.getElem_mem _)
                          have HEK := Vx.hid (fun wv => kextent_ok (kd) ns[k] hey.1.1 wv)
                          have bk := obB_bd hey.1
                          generalize ns[k] = y at a0 hey HEK bk
                          generalize pgA (kd, y) = ay at hey HEK bk
                          generalize pgN (kd, y) = ny at hey HEK bk
                          have bb := HBO.out
                          have w1' : IntKind.i64.wrap (ay + ny) = ay + ny := by rw [IntKind.wrap_i64]; omega
                          have w2' : IntKind.i64.wrap (ba + bm) = ba + bm := by rw [IntKind.wrap_i64]; omega
                          have n2 : ¬ ay < ba := by omega
                          have n4 : ¬ ba + bm < ay + ny := by omega
                          clear hk2 hkl hown
                          go_wp2_with fail
                          refine (HEK.out _).mono ?_
                          rintro e w10 ⟨rfl, ho10⟩
                          have HO10 := Vx.hid (HO9.out.trans ho10)
                          clear ho10 a0
                          by_cases n3 : bm ≤ ny
                          · go_wp2_with fail
                            go_roundw
                            case rel => exact ⟨k + 1, by go_num, HK1.out, HO10⟩
                            case measure => have := HK1.out; simp only [RowKit.intOf]; omega
                          · go_wp2_with fail
                            go_roundw
                            case rel => exact ⟨k + 1, by go_num, HK1.out, HO10⟩
                            case measure => have := HK1.out; simp only [RowKit.intOf]; omega
                      · as_aux_lemma =>
                          obtain rfl : k = m := by omega
                          have n1 : ¬ (k : Int) < (k : Int) := by omega
                          have HP9 := Vx.hid (HG7.out.2.quiet HO9.out)
                          have HP10 : Hid (PaI W xb [(wb, whO)] os9 rs9 wr) := HP9.out.less (fun p hp => List.mem_cons_of_mem _ hp)
                          clear hk2
                          rcases HOUT.out with ⟨rfl, l1, l2⟩ | ⟨rfl, l1⟩
                          · have l3 : ¬ k = 0 := by have := HML.out; omega
                            have l4 : ((k : Int) == 0) = false := by rw [beq_eq_false_iff_ne]; omega
                            clear l1 l2
                            go_wp2_with fail
                            refine HP10.out.objs.mono ?_
                            rintro e w11 ⟨lv2, rfl, ls2, G2, HG2⟩
                            have hlen3 := apw_len HP10.out.apw HG2.out.2.1
                            have HAP2 := Vx.hid (apart_ok (own_lie HG2.out.1 (by omega)) (fun x hx => all_ob HP10.out.apw.wf (HG2.out.2.1.mem_iff.1 hx)) (all_apart HP10.out.apw.wf HG2.out.2.1 HG2.out.2.2.1))
                            clear hlen3
                            go_wp2_with fail
                            refine HAP2.out.mono ?_
                            rintro e w12 ⟨rfl, ho12⟩
                            have HR2 : Hid (PaI W xb [(wb, whO)] os9 rs9 w12) := (HG2.out.2.2.2.1.quiet ho12).less (fun p hp => List.mem_append_right _ hp)
                            clear ho12
                            go_wp2_with fail
                            go_roundw
                            case rel => exact ⟨i + 1, os9, rs9, by go_num, HI1.out.1, HI1.out.2, HR2⟩
                            case measure => have := HI1.out; simp only [RowKit.intOf]; omega
                          · obtain rfl : k = 0 := by have := HML.out; omega
                            clear l1
                            go_wp2_with fail
                            refine HP10.out.objs.mono ?_
                            rintro e w11 ⟨lv2, rfl, ls2, G2, HG2⟩
                            have hlen3 := apw_len HP10.out.apw HG2.out.2.1
                            have HAP2 := Vx.hid (apart_ok (own_lie HG2.out.1 (by omega)) (fun x hx => all_ob HP10.out.apw.wf (HG2.out.2.1.mem_iff.1 hx)) (all_apart HP10.out.apw.wf HG2.out.2.1 HG2.out.2.2.1))
                            clear hlen3
                            go_wp2_with fail
                            refine HAP2.out.mono ?_
                            rintro e w12 ⟨rfl, ho12⟩
                            have HR2 : Hid (PaI W xb [(wb, whO)] os9 rs9 w12) := (HG2.out.2.2.2.1.quiet ho12).less (fun p hp => List.mem_append_right _ hp)
                            clear ho12
                            go_wp2_with fail
                            go_roundw
                            case rel => exact ⟨i + 1, os9, rs9, by go_num, HI1.out.1, HI1.out.2, HR2⟩
                            case measure => have := HI1.out; simp only [RowKit.intOf]; omega
            · have e1 : (ok != 1) = true := by simpa using hk1
              have e2 : (ok == 1) = false := by simpa using hk1
              have HR2 : Hid (PaI W xb [(wb, whO)] os rs w5) := HP6.out.less (fun p hp => List.mem_cons_of_mem _ hp)
              go_wp2_with fail
              go_roundw
              case rel => exact ⟨i + 1, os, rs, by go_num, HI1.out.1, HI1.out.2, HR2⟩
              case measure => have := HI1.out; simp only [RowKit.intOf]; omega
    · as_aux_lemma =>
        by_cases h3 : i < len
        · as_aux_lemma =>
            have h4 : ¬ (i : Int) < 300 := by omega
            have h5 : (i : Int) < (len : Int) := by omega
            clear hlt hi hi2 h3
            go_wp2_with fail
            go_loopw [23] (fun d wr => ∃ (m : Nat) (os2 rs2 : List (Int × Int)), d = .int .i64 (m : Int) ∧ m ≤ 100 ∧ Hid (PaI W xb [(wb, whO)] os2 rs2 wr) ∧ Hid ((1 ≤ m → os2 = []) ∧ (2 ≤ m → ∀ r ∈ rs2, r.1 = 1312))) (fun d _ => 100 - (RowKit.intOf d).toNat)
            case atStart => exact ⟨0, os, rs, rfl, by omega, HR, ⟨fun h => by omega, fun h => by omega⟩⟩
            case round =>
              clear HR
              obtain ⟨m, os2, rs2, rfl, hm, HR, HMI⟩ := hrel
              by_cases hm2 : m < 100
              · as_aux_lemma =>
                  have h1 : (m : Int) < 100 := by omega
                  have hwm : IntKind.i64.wrap ((m : Int) + 1) = (m : Int) + 1 := by rw [IntKind.wrap_i64]; omega
                  have HM1 : Hid (m + 1 ≤ 100) := hm2
                  clear hm2
                  go_wp2_with fail
                  refine HR.out.objs.mono ?_
                  rintro e w4 ⟨lv, rfl, ls, G, HG⟩
                  have hlen2 := apw_len HR.out.apw HG.out.2.1
                  obtain ⟨pl, cl, hlv, _⟩ := own_two HG.out.1
                  obtain ⟨N, hN⟩ : ∃ N, N = ls.length := ⟨_, rfl⟩
                  rw [← hN] at hlv hlen2
                  subst hlv
                  have HNN := Vx.hid hN
                  have HWF := Vx.hid HR.out.apw
                  have HS0 : Hid (PaI W xb (G ++ [(wb, whO)]) (cleanF (ls.take 0) (os2, rs2)).1 (cleanF (ls.take 0) (os2, rs2)).2 w4) := HG.out.2.2.2.1
                  clear hN HR
                  go_wp2_with fail
                  go_loopw [25] (fun d wr => ∃ k : Nat, d = .int .i64 (k : Int) ∧ k ≤ N ∧ Hid (PaI W xb (G ++ [(wb, whO)]) (cleanF (ls.take k) (os2, rs2)).1 (cleanF (ls.take k) (os2, rs2)).2 wr)) (fun d _ => N - (RowKit.intOf d).toNat)
                  case atStart => exact ⟨0, rfl, by omega, HS0⟩
                  case round =>
                    clear HS0
                    obtain ⟨k, rfl, hk, HQ⟩ := hrel
                    by_cases hk2 : k < N
                    · as_aux_lemma =>
                        have h2 : (k : Int) < (N : Int) := by omega
                        have hidk : 0 ≤ (k : Int) ∧ (k : Int) < (N : Int) := by omega
                        have hwk : IntKind.i64.wrap ((k : Int) + 1) = (k : Int) + 1 := by rw [IntKind.wrap_i64]; omega
                        have hkl : k < ls.length := by have := HNN.out; omega
                        have HLW : Hid (∀ F os rs wv, PaI W xb (G ++ F) os rs wv → OwnL slL wv 0 33 (.slice pl N cl) ls) := fun F os rs wv h => own_zero (own_same HG.out.1 (fun k hk => by
                          obtain ⟨o, ho⟩ := HG.out.2.2.2.2 k hk
                          rw [h.at (List.mem_append_left _ ho), HG.out.2.2.2.1.at (List.mem_append_left _ ho)]))
                        obtain ⟨g, rfl, a0, a1⟩ := own_at (HLW.out _ _ _ _ HQ.out) k hkl
                        obtain ⟨b0, b1⟩ := HWC.out _ _ _ _ HQ.out (by simp)
                        have HTK : Hid (cleanF (ls.take (k + 1)) (os2, rs2) = (if ls[k] = (1, 1312) then cleanF (ls.take k) (os2, rs2) else (remO (cleanF (ls.take k) (os2, rs2)).1 ls[k], remG (cleanF (ls.take k) (os2, rs2)).1 (cleanF (ls.take k) (os2, rs2)).2 ls[k]))) := by
                          show _ = _
                          rw [List.take_succ_eq_append_getElem hkl, cleanF_app]
                        have HOBk := Vx.hid (all_ob HWF.out.wf (HG.out.2.1.mem_iff.1 (List.getElem_mem hkl)))
                        have HKX : Hid (1 ≤ ls[k].1 ∧ ls[k].1 ≤ 8) := by
                          rcases all_mem.1 (HG.out.2.1.mem_iff.1 (List.getElem_mem hkl)) with h6 | ⟨r, _, h6⟩
                          · have := HWF.out.wf.ok _ h6
                            show _ ∧ _
                            omega
                          · rw [h6]
                            show (1 : Int) ≤ 1 ∧ (1 : Int) ≤ 8
                            omega
                        have HK1 : Hid (k + 1 ≤ N) := hk2
                        have HCL : Hid (∀ wv, PaI W xb (G ++ [(wb, whO)]) (cleanF (ls.take k) (os2, rs2)).1 (cleanF (ls.take k) (os2, rs2)).2 wv → wv.cell? ⟨g, k * 2, none⟩ = some (.int .i64 ls[k].1) ∧ wv.cell? ⟨g, k * 2 + 1, none⟩ = some (.int .i64 ls[k].2)) := fun wv h => by
                          obtain ⟨g', hg', c0, c1⟩ := own_at (HLW.out _ _ _ _ h) k hkl
                          injection hg' with hg'
                          injection hg' with hg'
                          subst hg'
                          exact ⟨c0, c1⟩
                        generalize ls[k] = x at a0 a1 HTK HOBk HKX HCL
                        obtain ⟨x1, x2⟩ := x
                        dsimp only at a0 a1 HKX HCL
                        clear hk2 hkl
                        by_cases hx : (x1, x2) = (1, 1312)
                        · rw [if_pos hx] at HTK
                          injection hx with e1 e2
                          subst e1
                          subst e2
                          go_wp2_with fail
                          go_quiet (fail)
                          go_wp2_with fail
                          go_roundw
                          case rel => exact ⟨k + 1, by go_num, HK1.out, by rw [HTK.out]; exact HQ.out.quiet ((Only.refl _ wr).drewN _)⟩
                          case measure => have := HK1.out; simp only [RowKit.intOf]; omega
                        · as_aux_lemma =>
                            rw [if_neg hx] at HTK
                            have HRM : Hid (∀ F wv, PaI W xb F (cleanF (ls.take k) (os2, rs2)).1 (cleanF (ls.take k) (os2, rs2)).2 wv → Calls Try.prog 17 #[.pointer (some ⟨xb, 0, none⟩), .agg #[.int .i64 x1, .int .i64 x2]] wv fun e w' => e = .returned (.int .i64 (remE (cleanF (ls.take k) (os2, rs2)).1 (cleanF (ls.take k) (os2, rs2)).2 (x1, x2))) ∧ Hid (PaI W xb F (remO (cleanF (ls.take k) (os2, rs2)).1 (x1, x2)) (remG (cleanF (ls.take k) (os2, rs2)).1 (cleanF (ls.take k) (os2, rs2)).2 (x1, x2)) w')) := fun F wv h => h.xcall (h.apw.rem hx) (fun U hxx => xprem_ok hxx x1 x2 (by have := HKX.out; unfold I64; omega) (by have := HOBk.out.2; unfold I64; simp only at this; omega))
                            by_cases e1 : x1 = 1
                            · subst e1
                              have hx2 : ¬ x2 = 1312 := fun h => hx (by rw [h])
                              have e3 : (x2 == 1312) = false := beq_eq_false_iff_ne.2 hx2
                              clear hx
                              go_wp2_with fail
                              go_quiet (fail)
                              obtain ⟨nqw, hnqw⟩ : ∃ wz, wz = wr.drewN nq := ⟨_, rfl⟩
                              have HPz : Hid (PaI W xb (G ++ [(wb, whO)]) (cleanF (ls.take k) (os2, rs2)).1 (cleanF (ls.take k) (os2, rs2)).2 nqw) := HQ.out.quiet (by rw [hnqw]; exact (Only.refl _ wr).drewN _)
                              obtain ⟨c0, c1⟩ := HCL.out _ HPz.out
                              rw [← hnqw]
                              clear hnqw a0 a1 b0 b1
                              go_wp2_with fail
                              refine (HRM.out _ _ HPz.out).mono ?_
                              rintro e w8 ⟨rfl, HP8⟩
                              clear c0 c1
                              go_wp2_with fail
                              go_roundw
                              case rel => exact ⟨k + 1, by go_num, HK1.out, by rw [HTK.out]; exact HP8⟩
                              case measure => have := HK1.out; simp only [RowKit.intOf]; omega
                            · have e3 : (x1 == 1) = false := beq_eq_false_iff_ne.2 e1
                              clear hx
                              go_wp2_with fail
                              go_quiet (fail)
                              obtain ⟨nqw, hnqw⟩ : ∃ wz, wz = wr.drewN nq := ⟨_, rfl⟩
                              have HPz : Hid (PaI W xb (G ++ [(wb, whO)]) (cleanF (ls.take k) (os2, rs2)).1 (cleanF (ls.take k) (os2, rs2)).2 nqw) := HQ.out.quiet (by rw [hnqw]; exact (Only.refl _ wr).drewN _)
                              obtain ⟨c0, c1⟩ := HCL.out _ HPz.out
                              rw [← hnqw]
                              clear hnqw a0 a1 b0 b1
                              go_wp2_with fail
                              refine (HRM.out _ _ HPz.out).mono ?_
                              rintro e w8 ⟨rfl, HP8⟩
                              clear c0 c1
                              go_wp2_with fail
                              go_roundw
                              case rel => exact ⟨k + 1, by go_num, HK1.out, by rw [HTK.out]; exact HP8⟩
                              case measure => have := HK1.out; simp only [RowKit.intOf]; omega
                    · obtain rfl : k = N := by omega
                      have h2 : ¬ (k : Int) < (k : Int) := by omega
                      have hq := HQ.out
                      rw [HNN.out, List.take_length] at hq
                      have HN2 : Hid (PaI W xb [(wb, whO)] (cleanF ls (os2, rs2)).1 (cleanF ls (os2, rs2)).2 wr) := hq.less (fun p hp => List.mem_append_right _ hp)
                      have HMJ : Hid ((1 ≤ m + 1 → (cleanF ls (os2, rs2)).1 = []) ∧ (2 ≤ m + 1 → ∀ r ∈ (cleanF ls (os2, rs2)).2, r.1 = 1312)) := by
                        refine ⟨fun _ => clean_one HWF.out.wf HG.out.2.1, fun h5 => ?_⟩
                        have h6 := HMI.out.1 (by omega)
                        have h7 := HWF.out
                        have h8 := HG.out.2.1
                        subst h6
                        exact clean_two h7 h8 HG.out.2.2.1
                      clear hk2 hq
                      go_wp2_with fail
                      go_roundw
                      case rel => exact ⟨m + 1, _, _, by go_num, HM1.out, HN2, HMJ⟩
                      case measure => have := HM1.out; simp only [RowKit.intOf]; omega
              · as_aux_lemma =>
                  obtain rfl : m = 100 := by omega
                  have h1 : ¬ ((100 : Nat) : Int) < 100 := by omega
                  obtain ⟨m1, m2⟩ := HMI.out
                  have m1' := m1 (by omega)
                  have m2' := m2 (by omega)
                  subst m1'
                  obtain ⟨mk, rfl⟩ := apw_end HR.out.apw m2'
                  have HGV : Hid (Calls Try.prog 9 #[.pointer (some ⟨xb, 0, none⟩), .int .i64 1312, .int .i64 2, .int .i64 0, .int .i64 32] wr fun e w' => ∃ g c, e = .returned (.tuple #[.slice (some ⟨g, 0, none⟩) 32 c, .int .i64 0]) ∧ w'.cell? ⟨g, 0, none⟩ = some (.int .i64 32) ∧ w'.cell? ⟨g, 31, none⟩ = some (.int .i64 63) ∧ Hid (Below W.heap.size W w')) := by
                    refine (HR.out.give (num := 1312) (kind := 2) (order := 0) (many := 32) (by unfold I64; omega) (by unfold I64; omega) (by unfold I64; omega) (by unfold I64; omega)).mono ?_
                    rintro e w' ⟨v, rfl, hv⟩
                    have hl := hv.out.1
                    rw [(give_end mk).2] at hl
                    obtain ⟨p, c, hvv, _, _, hg⟩ := hl.form
                    obtain ⟨g, hpg, _⟩ := hg (by decide)
                    subst hpg
                    have hvv2 : v = .slice (some ⟨g, 0, none⟩) 32 c := hvv
                    subst hvv2
                    refine ⟨g, c, by rw [(give_end mk).1], ?_, ?_, hv.out.2.be⟩
                    · exact (hl.cell 0 0 (by decide) (by decide)).trans rfl
                    · exact (hl.cell 31 0 (by decide) (by decide)).trans rfl
                  obtain ⟨b0, b1⟩ := HWC.out _ _ _ _ HR.out (by simp)
                  clear hm2 m1 m2 m2' HMI
                  go_wp2_with fail
                  refine HGV.out.mono ?_
                  rintro e w4 ⟨g, c, rfl, c0, c31, HBE⟩
                  clear b0 b1
                  go_wp2_with fail
                  all_goals
                    go_ret
                    exact ⟨by try rfl, HBE.out⟩
        · as_aux_lemma =>
            have h5 : ¬ (i : Int) < (len : Int) := by omega
            clear hlt hi hi2 h3
            go_wp2_with fail
            go_loopw [23] (fun d wr => ∃ (m : Nat) (os2 rs2 : List (Int × Int)), d = .int .i64 (m : Int) ∧ m ≤ 100 ∧ Hid (PaI W xb [(wb, whO)] os2 rs2 wr) ∧ Hid ((1 ≤ m → os2 = []) ∧ (2 ≤ m → ∀ r ∈ rs2, r.1 = 1312))) (fun d _ => 100 - (RowKit.intOf d).toNat)
            case atStart => exact ⟨0, os, rs, rfl, by omega, HR, ⟨fun h => by omega, fun h => by omega⟩⟩
            case round =>
              clear HR
              obtain ⟨m, os2, rs2, rfl, hm, HR, HMI⟩ := hrel
              by_cases hm2 : m < 100
              · as_aux_lemma =>
                  have h1 : (m : Int) < 100 := by omega
                  have hwm : IntKind.i64.wrap ((m : Int) + 1) = (m : Int) + 1 := by rw [IntKind.wrap_i64]; omega
                  have HM1 : Hid (m + 1 ≤ 100) := hm2
                  clear hm2
                  go_wp2_with fail
                  refine HR.out.objs.mono ?_
                  rintro e w4 ⟨lv, rfl, ls, G, HG⟩
                  have hlen2 := apw_len HR.out.apw HG.out.2.1
                  obtain ⟨pl, cl, hlv, _⟩ := own_two HG.out.1
                  obtain ⟨N, hN⟩ : ∃ N, N = ls.length := ⟨_, rfl⟩
                  rw [← hN] at hlv hlen2
                  subst hlv
                  have HNN := Vx.hid hN
                  have HWF := Vx.hid HR.out.apw
                  have HS0 : Hid (PaI W xb (G ++ [(wb, whO)]) (cleanF (ls.take 0) (os2, rs2)).1 (cleanF (ls.take 0) (os2, rs2)).2 w4) := HG.out.2.2.2.1
                  clear hN HR
                  go_wp2_with fail
                  go_loopw [25] (fun d wr => ∃ k : Nat, d = .int .i64 (k : Int) ∧ k ≤ N ∧ Hid (PaI W xb (G ++ [(wb, whO)]) (cleanF (ls.take k) (os2, rs2)).1 (cleanF (ls.take k) (os2, rs2)).2 wr)) (fun d _ => N - (RowKit.intOf d).toNat)
                  case atStart => exact ⟨0, rfl, by omega, HS0⟩
                  case round =>
                    clear HS0
                    obtain ⟨k, rfl, hk, HQ⟩ := hrel
                    by_cases hk2 : k < N
                    · as_aux_lemma =>
                        have h2 : (k : Int) < (N : Int) := by omega
                        have hidk : 0 ≤ (k : Int) ∧ (k : Int) < (N : Int) := by omega
                        have hwk : IntKind.i64.wrap ((k : Int) + 1) = (k : Int) + 1 := by rw [IntKind.wrap_i64]; omega
                        have hkl : k < ls.length := by have := HNN.out; omega
                        have HLW : Hid (∀ F os rs wv, PaI W xb (G ++ F) os rs wv → OwnL slL wv 0 33 (.slice pl N cl) ls) := fun F os rs wv h => own_zero (own_same HG.out.1 (fun k hk => by
                          obtain ⟨o, ho⟩ := HG.out.2.2.2.2 k hk
                          rw [h.at (List.mem_append_left _ ho), HG.out.2.2.2.1.at (List.mem_append_left _ ho)]))
                        obtain ⟨g, rfl, a0, a1⟩ := own_at (HLW.out _ _ _ _ HQ.out) k hkl
                        obtain ⟨b0, b1⟩ := HWC.out _ _ _ _ HQ.out (by simp)
                        have HTK : Hid (cleanF (ls.take (k + 1)) (os2, rs2) = (if ls[k] = (1, 1312) then cleanF (ls.take k) (os2, rs2) else (remO (cleanF (ls.take k) (os2, rs2)).1 ls[k], remG (cleanF (ls.take k) (os2, rs2)).1 (cleanF (ls.take k) (os2, rs2)).2 ls[k]))) := by
                          show _ = _
                          rw [List.take_succ_eq_append_getElem hkl, cleanF_app]
                        have HOBk := Vx.hid (all_ob HWF.out.wf (HG.out.2.1.mem_iff.1 (List.getElem_mem hkl)))
                        have HKX : Hid (1 ≤ ls[k].1 ∧ ls[k].1 ≤ 8) := by
                          rcases all_mem.1 (HG.out.2.1.mem_iff.1 (List.getElem_mem hkl)) with h6 | ⟨r, _, h6⟩
                          · have := HWF.out.wf.ok _ h6
                            show _ ∧ _
                            omega
                          · rw [h6]
                            show (1 : Int) ≤ 1 ∧ (1 : Int) ≤ 8
                            omega
                        have HK1 : Hid (k + 1 ≤ N) := hk2
                        have HCL : Hid (∀ wv, PaI W xb (G ++ [(wb, whO)]) (cleanF (ls.take k) (os2, rs2)).1 (cleanF (ls.take k) (os2, rs2)).2 wv → wv.cell? ⟨g, k * 2, none⟩ = some (.int .i64 ls[k].1) ∧ wv.cell? ⟨g, k * 2 + 1, none⟩ = some (.int .i64 ls[k].2)) := fun wv h => by
                          obtain ⟨g', hg', c0, c1⟩ := own_at (HLW.out _ _ _ _ h) k hkl
                          injection hg' with hg'
                          injection hg' with hg'
                          subst hg'
                          exact ⟨c0, c1⟩
                        generalize ls[k] = x at a0 a1 HTK HOBk HKX HCL
                        obtain ⟨x1, x2⟩ := x
                        dsimp only at a0 a1 HKX HCL
                        clear hk2 hkl
                        by_cases hx : (x1, x2) = (1, 1312)
                        · rw [if_pos hx] at HTK
                          injection hx with e1 e2
                          subst e1
                          subst e2
                          go_wp2_with fail
                          go_quiet (fail)
                          go_wp2_with fail
                          go_roundw
                          case rel => exact ⟨k + 1, by go_num, HK1.out, by rw [HTK.out]; exact HQ.out.quiet ((Only.refl _ wr).drewN _)⟩
                          case measure => have := HK1.out; simp only [RowKit.intOf]; omega
                        · as_aux_lemma =>
                            rw [if_neg hx] at HTK
                            have HRM : Hid (∀ F wv, PaI W xb F (cleanF (ls.take k) (os2, rs2)).1 (cleanF (ls.take k) (os2, rs2)).2 wv → Calls Try.prog 17 #[.pointer (some ⟨xb, 0, none⟩), .agg #[.int .i64 x1, .int .i64 x2]] wv fun e w' => e = .returned (.int .i64 (remE (cleanF (ls.take k) (os2, rs2)).1 (cleanF (ls.take k) (os2, rs2)).2 (x1, x2))) ∧ Hid (PaI W xb F (remO (cleanF (ls.take k) (os2, rs2)).1 (x1, x2)) (remG (cleanF (ls.take k) (os2, rs2)).1 (cleanF (ls.take k) (os2, rs2)).2 (x1, x2)) w')) := fun F wv h => h.xcall (h.apw.rem hx) (fun U hxx => xprem_ok hxx x1 x2 (by have := HKX.out; unfold I64; omega) (by have := HOBk.out.2; unfold I64; simp only at this; omega))
                            by_cases e1 : x1 = 1
                            · subst e1
                              have hx2 : ¬ x2 = 1312 := fun h => hx (by rw [h])
                              have e3 : (x2 == 1312) = false := beq_eq_false_iff_ne.2 hx2
                              clear hx
                              go_wp2_with fail
                              go_quiet (fail)
                              obtain ⟨nqw, hnqw⟩ : ∃ wz, wz = wr.drewN nq := ⟨_, rfl⟩
                              have HPz : Hid (PaI W xb (G ++ [(wb, whO)]) (cleanF (ls.take k) (os2, rs2)).1 (cleanF (ls.take k) (os2, rs2)).2 nqw) := HQ.out.quiet (by rw [hnqw]; exact (Only.refl _ wr).drewN _)
                              obtain ⟨c0, c1⟩ := HCL.out _ HPz.out
                              rw [← hnqw]
                              clear hnqw a0 a1 b0 b1
                              go_wp2_with fail
                              refine (HRM.out _ _ HPz.out).mono ?_
                              rintro e w8 ⟨rfl, HP8⟩
                              clear c0 c1
                              go_wp2_with fail
                              go_roundw
                              case rel => exact ⟨k + 1, by go_num, HK1.out, by rw [HTK.out]; exact HP8⟩
                              case measure => have := HK1.out; simp only [RowKit.intOf]; omega
                            · have e3 : (x1 == 1) = false := beq_eq_false_iff_ne.2 e1
                              clear hx
                              go_wp2_with fail
                              go_quiet (fail)
                              obtain ⟨nqw, hnqw⟩ : ∃ wz, wz = wr.drewN nq := ⟨_, rfl⟩
                              have HPz : Hid (PaI W xb (G ++ [(wb, whO)]) (cleanF (ls.take k) (os2, rs2)).1 (cleanF (ls.take k) (os2, rs2)).2 nqw) := HQ.out.quiet (by rw [hnqw]; exact (Only.refl _ wr).drewN _)
                              obtain ⟨c0, c1⟩ := HCL.out _ HPz.out
                              rw [← hnqw]
                              clear hnqw a0 a1 b0 b1
                              go_wp2_with fail
                              refine (HRM.out _ _ HPz.out).mono ?_
                              rintro e w8 ⟨rfl, HP8⟩
                              clear c0 c1
                              go_wp2_with fail
                              go_roundw
                              case rel => exact ⟨k + 1, by go_num, HK1.out, by rw [HTK.out]; exact HP8⟩
                              case measure => have := HK1.out; simp only [RowKit.intOf]; omega
                    · obtain rfl : k = N := by omega
                      have h2 : ¬ (k : Int) < (k : Int) := by omega
                      have hq := HQ.out
                      rw [HNN.out, List.take_length] at hq
                      have HN2 : Hid (PaI W xb [(wb, whO)] (cleanF ls (os2, rs2)).1 (cleanF ls (os2, rs2)).2 wr) := hq.less (fun p hp => List.mem_append_right _ hp)
                      have HMJ : Hid ((1 ≤ m + 1 → (cleanF ls (os2, rs2)).1 = []) ∧ (2 ≤ m + 1 → ∀ r ∈ (cleanF ls (os2, rs2)).2, r.1 = 1312)) := by
                        refine ⟨fun _ => clean_one HWF.out.wf HG.out.2.1, fun h5 => ?_⟩
                        have h6 := HMI.out.1 (by omega)
                        have h7 := HWF.out
                        have h8 := HG.out.2.1
                        subst h6
                        exact clean_two h7 h8 HG.out.2.2.1
                      clear hk2 hq
                      go_wp2_with fail
                      go_roundw
                      case rel => exact ⟨m + 1, _, _, by go_num, HM1.out, HN2, HMJ⟩
                      case measure => have := HM1.out; simp only [RowKit.intOf]; omega
              · as_aux_lemma =>
                  obtain rfl : m = 100 := by omega
                  have h1 : ¬ ((100 : Nat) : Int) < 100 := by omega
                  obtain ⟨m1, m2⟩ := HMI.out
                  have m1' := m1 (by omega)
                  have m2' := m2 (by omega)
                  subst m1'
                  obtain ⟨mk, rfl⟩ := apw_end HR.out.apw m2'
                  have HGV : Hid (Calls Try.prog 9 #[.pointer (some ⟨xb, 0, none⟩), .int .i64 1312, .int .i64 2, .int .i64 0, .int .i64 32] wr fun e w' => ∃ g c, e = .returned (.tuple #[.slice (some ⟨g, 0, none⟩) 32 c, .int .i64 0]) ∧ w'.cell? ⟨g, 0, none⟩ = some (.int .i64 32) ∧ w'.cell? ⟨g, 31, none⟩ = some (.int .i64 63) ∧ Hid (Below W.heap.size W w')) := by
                    refine (HR.out.give (num := 1312) (kind := 2) (order := 0) (many := 32) (by unfold I64; omega) (by unfold I64; omega) (by unfold I64; omega) (by unfold I64; omega)).mono ?_
                    rintro e w' ⟨v, rfl, hv⟩
                    have hl := hv.out.1
                    rw [(give_end mk).2] at hl
                    obtain ⟨p, c, hvv, _, _, hg⟩ := hl.form
                    obtain ⟨g, hpg, _⟩ := hg (by decide)
                    subst hpg
                    have hvv2 : v = .slice (some ⟨g, 0, none⟩) 32 c := hvv
                    subst hvv2
                    refine ⟨g, c, by rw [(give_end mk).1], ?_, ?_, hv.out.2.be⟩
                    · exact (hl.cell 0 0 (by decide) (by decide)).trans rfl
                    · exact (hl.cell 31 0 (by decide) (by decide)).trans rfl
                  obtain ⟨b0, b1⟩ := HWC.out _ _ _ _ HR.out (by simp)
                  clear hm2 m1 m2 m2' HMI
                  go_wp2_with fail
                  refine HGV.out.mono ?_
                  rintro e w4 ⟨g, c, rfl, c0, c31, HBE⟩
                  clear b0 b1
                  go_wp2_with fail
                  all_goals
                    go_ret
                    exact ⟨by try rfl, HBE.out⟩
end Go.Proofs.Ytbbabpgmclhinaa

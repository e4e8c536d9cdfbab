import Derived.Test.YtdpgdjpphnbfnaaCi14
/- Chapter 10, the document's bus: Close. -/
namespace Go.Proofs.Ytdpgdjpphnbfnaa
open Go.ChangeShapes Go.WideShapes Go.ChangeAt Go.RowKit
open Go.Vx
set_option linter.unusedVariables false
variable {U V S : Nat → Prop} {w w2 w3 : World} {rb : Nat} {vp vw : Value} {s : Bs}

def closeT (U : Nat → Prop) (w : World) (rb : Nat) (s : Bs) (n : Int) (e : Ending) (w' : World) : Prop := ∃ v, e = .returned (.tuple #[v, .int .i64 (lineE s n)]) ∧ OwnL inL w' w.heap.size 3 v (lineR s n) ∧ RbX U w' rb (closeS s n) ∧ Only (fun k => ¬ U k) w w'
set_option maxRecDepth 100000 in
set_option maxHeartbeats 4000000 in
theorem rclose_ok (h : RbAt U w rb vp vw s) (hnt : (s.ws.map (·.thr)).Nodup) (n : Int) : Calls Try.prog 50 #[.pointer (some ⟨rb, 0, none⟩), .int .i64 n] w (closeT U w rb s n) := by
  have HL := Vx.hid (rline_ok h n)
  have HH := Vx.hid h
  cases hi : pF s.ps n with
  | none =>
    have e1 : lineE s n = 6 := by unfold lineE; rw [hi]
    have e2 : lineR s n = [] := by unfold lineR; rw [hi]
    have HC : Hid (∀ w', Only (fun _ => False) w w' → closeT U w rb s n (.returned (.tuple #[.slice none 0 0, .int .i64 6])) w') := fun w' ho => by
      refine ⟨_, by rw [e1], by rw [e2]; exact OwnL.nil _ _ _ _, ?_, ho.mono (fun _ _ h => h.elim)⟩
      have : closeS s n = s := by unfold closeS; rw [hi]
      rw [this]
      exact ⟨_, _, HH.out.quiet ho⟩
    rw [e1, e2] at HL
    clear h hi e1 e2
    go_enter Try.func50, Try.ntmps50
    go_wp2_with fail
    refine HL.out.mono ?_
    rintro e w2 ⟨v, rfl, hv, ho⟩
    have HO := Vx.hid ho
    clear hv ho
    go_wp2_with fail
    refine bodyPost_ret (v := .tuple #[.slice none 0 0, .int .i64 6]) ?_ rfl (HC.out _ HO.out)
    simp [results, Try.results50, go_sem]
  | some i =>
    have e1 : lineE s n = 0 := by unfold lineE; rw [hi]
    have e2 : lineR s n = lineL s n := by unfold lineR; rw [hi]
    rw [e1, e2] at HL
    have HC : Hid (∀ v w', OwnL inL w' w.heap.size 3 v (lineL s n) → RbX U w' rb ⟨cuI s.ps i, s.ws.filter fun x => decide (x.at' ≠ n)⟩ → Only (fun k => ¬ U k) w w' → closeT U w rb s n (.returned (.tuple #[v, .int .i64 0])) w') := fun v w' a1 a2 a3 => by
      refine ⟨_, by rw [e1], by rw [e2]; exact a1, ?_, a3⟩
      have : closeS s n = ⟨cuI s.ps i, s.ws.filter fun x => decide (x.at' ≠ n)⟩ := by unfold closeS; rw [hi]
      rw [this]
      exact a2
    have HNT := Vx.hid hnt
    obtain ⟨hil, hin⟩ := pF_at hi
    have HPI : Hid (pF s.ps n = some i) := hi
    have hneg : ¬ (i : Int) < 0 := by omega
    have hlln : (lineL s n).length ≤ 1000000 := by
      have h9 := lineK_len s.ws n s.ws.length
      rw [lineK_all] at h9
      have := h.nl
      omega
    obtain ⟨M, hM⟩ : ∃ M, M = s.ps.length := ⟨_, rfl⟩
    have HM := Vx.hid hM
    have hnp := h.np
    rw [← hM] at hil hnp
    obtain ⟨ls, hls⟩ : ∃ ls, ls = lineL s n := ⟨_, rfl⟩
    rw [← hls] at HL HC hlln
    obtain ⟨N, hN⟩ : ∃ N, N = ls.length := ⟨_, rfl⟩
    have HN := Vx.hid hN
    have HLS := Vx.hid hls
    rw [← hN] at hlln
    clear h hi e1 e2 hin hM hnt hls hN
    go_enter Try.func50, Try.ntmps50
    go_wp2_with fail
    refine HL.out.mono ?_
    rintro e w2 ⟨v, rfl, hv, ho⟩
    obtain ⟨pv, cv, hvf, _, _, hvg⟩ := hv.form
    rw [← HN.out] at hvf hvg
    subst hvf
    have HV : Hid (OwnL inL w2 w.heap.size 3 (.slice pv N cv) ls ∧ Only (fun _ => False) w w2 ∧ (0 < N → ∃ g, pv = some ⟨g, 0, none⟩)) := ⟨hv, ho, fun h => by obtain ⟨g, hg, _⟩ := hvg h; exact ⟨g, hg⟩⟩
    have H2 : Hid (RbX (Up U w w2) w2 rb s) := up_in (rb_steps rb s) ⟨_, _, HH.out⟩ ho
    have HVK : Hid (∀ w3, Only (fun k => ¬ Up U w w2 k) w2 w3 → OwnL inL w3 w.heap.size 3 (.slice pv N cv) ls) := fun w3 h3 => HV.out.1.kept h3 (fun k hk h9 => h9 (Or.inr ⟨(own_lt HV.out.1 hk).1, (own_lt HV.out.1 hk).2⟩))
    clear hv ho hvg HL
    go_wp2_with fail
    go_loopw [8] (fun d wr => ∃ k : Nat, d = .int .i64 (k : Int) ∧ k ≤ N ∧ Hid (RbX (Up U w w2) wr rb (cancK s ls k) ∧ Only (fun k => ¬ Up U w w2 k) w2 wr)) (fun d _ => N - (RowKit.intOf d).toNat)
    case atStart => exact ⟨0, rfl, by omega, by rw [cancK_zero]; exact H2.out, Only.refl _ _⟩
    case round =>
      obtain ⟨k, rfl, hk, HR⟩ := hrel
      by_cases hlt : k < N
      · have hlb : k < ls.length := by have := HN.out; omega
        have h1 : (k : Int) < (N : Int) := by omega
        have hidx : 0 ≤ (k : Int) ∧ (k : Int) < (N : Int) := by omega
        have hwk : IntKind.i64.wrap ((k : Int) + 1) = (k : Int) + 1 := by rw [IntKind.wrap_i64]; omega
        obtain ⟨g, rfl⟩ := HV.out.2.2 (by omega)
        have b0 : wr.cell? ⟨g, k, none⟩ = some (.int .i64 ls[k]) := by
          have := (HVK.out wr HR.out.2).cell k 0 hlb (by decide)
          have e : inL.sz = 1 := rfl
          rw [e, Nat.mul_one, Nat.add_zero] at this
          exact this
        obtain ⟨vp2, vw2, hr⟩ := HR.out.1
        have HCA := Vx.hid (rcancel_ok hr ls[k])
        have HST : Hid (cancS (cancK s ls k) ls[k] = cancK s ls (k + 1)) := cancK_step s HNT.out ls k hlb
        generalize ls[k] = y at b0 HCA HST
        rw [HST.out] at HCA
        generalize cancE (cancK s ls k) y = ce at HCA
        clear hr hlt HST
        go_wp2_with fail
        refine HCA.out.mono ?_
        rintro e w4 ⟨rfl, hr4, ho4⟩
        have HR4 : Hid (RbX (Up U w w2) w4 rb (cancK s ls (k + 1)) ∧ Only (fun k => ¬ Up U w w2 k) w2 w4) := ⟨hr4, HR.out.2.trans ho4⟩
        clear hr4 ho4 HCA
        go_wp2_with fail
        go_roundw
        case rel => exact ⟨k + 1, by go_num, by omega, HR4⟩
        case measure => simp only [RowKit.intOf]; omega
      · obtain rfl : k = N := by omega
        have h1 : ¬ (k : Int) < (k : Int) := by omega
        have hst : cancK s ls k = ⟨s.ps, s.ws.filter fun x => decide (x.at' ≠ n)⟩ := by
          rw [HN.out, HLS.out]
          exact cancK_all s HNT.out n
        obtain ⟨⟨vp2, vw2, hr⟩, ho3⟩ := HR.out
        rw [hst] at hr
        have HRR := Vx.hid hr
        have HO3 := Vx.hid ho3
        have HPL := Vx.hid (place_some hr (n := n) (i := i) HPI.out)
        obtain ⟨pb0, cb, hvb, hcb, _, hbg⟩ := hr.p.form
        obtain ⟨g, rfl, _⟩ := hbg (by have := HM.out; show 0 < s.ps.length; omega)
        have hvb' : vp2 = .slice (some ⟨g, 0, none⟩) M cb := by rw [hvb, HM.out]
        have hcb' : M ≤ cb := by rw [HM.out]; exact hcb
        subst hvb'
        have c0 := hr.c0
        clear hvb hcb hbg hst hr ho3 hlt HR
        have hwi : IntKind.i64.wrap ((i : Int) + 1) = (i : Int) + 1 := by rw [IntKind.wrap_i64]; omega
        have hs1 : 0 ≤ (i : Int) ∧ (i : Int) ≤ (cb : Int) := by omega
        obtain ⟨q2, hsl, hq2⟩ := pc_from g M cb i hil hcb'
        have HQ2 := Vx.hid hq2
        have hT1 : i = (s.ps.take i).length := by rw [List.length_take]; have := HM.out; omega
        have hT2 : M - (i + 1) = (s.ps.drop (i + 1)).length := by rw [List.length_drop, HM.out]
        have HT1 := Vx.hid hT1
        have HT2 := Vx.hid hT2
        have hS1 : 0 < (s.ps.take i).length → ∃ ad, (some ⟨g, 0, none⟩ : Option Addr) = some ad ∧ ∀ j u, (fl pcL (s.ps.take i))[j]? = some u → wr.cell? (ad.add j) = some u := fun _ => ⟨_, rfl, fun j u hj => by
          have := HRR.out.p.part 0 i j u (by rw [List.drop_zero]; exact hj)
          rw [Nat.zero_mul] at this
          exact this⟩
        have HS1 := Vx.hid hS1
        have hSl : ([] : List Pc).length + (s.ps.take i).length ≤ 10000000 := by rw [← hT1]; simp; omega
        have HSL := Vx.hid hSl
        clear hq2 hT1 hT2 hS1 hSl
        go_wp2_with fail
        refine HPL.out.mono ?_
        rintro e w' ⟨rfl, h⟩
        have h3 := h.symm; clear h; subst h3
        go_upto_region 11 with (at_builtin; refine wpList_append_many pcK _ rfl _ _ rfl 0 (.slice none 0 0) [] rfl (OwnL.nil _ _ _ _) (some ⟨g, 0, none⟩) cb i (s.ps.take i) rfl HT1.out HS1.out HSL.out (Nat.zero_le _) ?_; intro v1 w4 hv1 hv2 hv3; obtain ⟨p1, c1', hv', _⟩ := hv1.form; obtain ⟨m1, hm1⟩ : ∃ m, m = (([] : List Pc) ++ s.ps.take i).length := ⟨_, rfl⟩; rw [← hm1] at hv'; subst hv'; clear hm1)
        have hon : Only (fun _ => False) wr w4 := hv2.mono (fun k _ h => by cases h)
        have hb1 : ∀ k, (Value.slice p1 m1 c1').ownBlock = some k → wr.heap.size ≤ k := fun k hk => by
          rcases lies_of hv3 k hk with h | h
          · cases h
          · exact h
        have h1' := HRR.out.quiet hon
        have c0' := h1'.c0
        have hS2 : 0 < (s.ps.drop (i + 1)).length → ∃ ad, q2 = some ad ∧ ∀ j u, (fl pcL (s.ps.drop (i + 1)))[j]? = some u → w4.cell? (ad.add j) = some u := fun h0 => ⟨_, HQ2.out (by have := HT2.out; omega), fun j u hj => by
          have := h1'.p.part (i + 1) (s.ps.drop (i + 1)).length j u (by rw [List.take_length]; exact hj)
          exact this⟩
        have hSl2 : (([] : List Pc) ++ s.ps.take i).length + (s.ps.drop (i + 1)).length ≤ 10000000 := by
          rw [List.nil_append, ← HT1.out, ← HT2.out]; omega
        have hFL : ((([] : List Pc) ++ s.ps.take i) ++ s.ps.drop (i + 1)).length ≤ 1000000 := by
          rw [List.length_append, List.nil_append, ← HT1.out, ← HT2.out]; omega
        have HS2 := Vx.hid hS2
        have HSL2 := Vx.hid hSl2
        have HFL := Vx.hid hFL
        have HV1 := Vx.hid (⟨hv1, hon, hb1⟩ : _ ∧ _ ∧ _)
        clear hv1 hv2 hv3 hon hb1 h1' hS2 hSl2 hFL HS1 HSL c0
        go_wp2_with (at_builtin; refine wpList_append_many pcK _ rfl _ _ rfl 0 (.slice p1 m1 c1') _ rfl HV1.out.1 q2 (cb - (i + 1)) (M - (i + 1)) (s.ps.drop (i + 1)) rfl HT2.out HS2.out HSL2.out (Nat.zero_le _) ?_; intro v2 w5 hv1 hv2 hv3; obtain ⟨p2, c2', hv', _⟩ := hv1.form; obtain ⟨m2, hm2⟩ : ∃ m, m = ((([] : List Pc) ++ s.ps.take i) ++ s.ps.drop (i + 1)).length := ⟨_, rfl⟩; rw [← hm2] at hv'; subst hv'; clear hm2; obtain ⟨⟨x0, hx0⟩, hf0, hR, hO⟩ := HRR.out.setP hv1 ((HV1.out.2.1.beyond hv2 HV1.out.2.2).mono (fun _ _ h => h.elim)) (fun k hk => Or.inr ((lies_of hv3 k hk).elim (fun h => HV1.out.2.2 k h) (fun h => Nat.le_trans HV1.out.2.1.size h))) HFL.out; have HR := Vx.hid hR; have HO := Vx.hid hO; clear hv1 hv2 hv3 hR hO)
        refine bodyPost_ret (v := .tuple #[.slice pv k cv, .int .i64 0]) ?_ rfl (HC.out _ _ ?_ ?_ ?_)
        · simp [results, Try.results50, go_sem]
        · exact HVK.out _ (HO3.out.trans HO.out)
        · exact up_down (rb_steps rb _) HR.out
        · exact up_only HV.out.2.1 (HO3.out.trans HO.out)
end Go.Proofs.Ytdpgdjpphnbfnaa

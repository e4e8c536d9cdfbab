import Derived.Test.YtdpgdjpphnbfnaaCi21
/- Chapter 10, the program's bus: Close. -/
namespace Go.Proofs.Ytdpgdjpphnbfnaa
open Go.ChangeShapes Go.WideShapes Go.ChangeAt Go.RowKit
open Go.Vx
set_option linter.unusedVariables false
variable {U V S : Nat → Prop} {w w2 w3 w4 : World} {xb mp mw : Nat} {DP DW DP2 DW2 : DataW Value} {GP GW GP2 GW2 : Int → Nat} {Q : Int → Value} {s : Bs}

def closeX (U : Nat → Prop) (w : World) (xb : Nat) (s : Bs) (n : Int) (e : Ending) (w' : World) : Prop := ∃ v, e = .returned (.tuple #[v, .int .i64 (lineE s n)]) ∧ OwnL inL w' w.heap.size 3 v (lineR s n) ∧ XbX (fun k => U k ∨ v.ownBlock = some k) w' xb (closeS s n) ∧ Only (fun k => ¬ U k) w w'
theorem cancK_keys (s : Bs) (hn : (s.ws.map (·.thr)).Nodup) (l : List Int) (k : Nat) (hk : k < l.length) : ((cancK s l k).ws.map (·.thr)).filter (fun t => decide (t ≠ l[k])) = (cancK s l (k + 1)).ws.map (·.thr) := by
  rw [← cancK_step s hn l k hk, cancS_filter _ (List.Nodup.sublist (List.Sublist.map _ List.filter_sublist) hn)]
  dsimp only
  rw [List.filter_map]
  rfl
set_option maxRecDepth 100000 in
set_option maxHeartbeats 4000000 in
theorem xclose_ok (h : XbX U w xb s) (n : Int) (hn : I64 n) : Calls Try.prog 49 #[.pointer (some ⟨xb, 0, none⟩), .int .i64 n] w (closeX U w xb s n) := by
  have HL := Vx.hid (xline_ok h n hn)
  have HH := Vx.hid h
  unfold lineT at HL
  cases hi : pF s.ps n with
  | none =>
    have e1 : lineE s n = 6 := by unfold lineE; rw [hi]
    have e2 : lineR s n = [] := by unfold lineR; rw [hi]
    have HC : Hid (∀ w', Only (fun _ => False) w w' → closeX U w xb s n (.returned (.tuple #[.slice none 0 0, .int .i64 6])) w') := fun w' ho => by
      refine ⟨_, by rw [e1], by rw [e2]; exact OwnL.nil _ _ _ _, ?_, ho.mono (fun _ _ h => h.elim)⟩
      have : closeS s n = s := by unfold closeS; rw [hi]
      rw [this]
      exact HH.out.step ho (fun _ _ h => h.elim) (fun k hk => by
        rcases hk with hk | hk
        · exact Or.inl hk
        · cases hk)
    rw [e1, e2] at HL
    clear h hi e1 e2 hn
    go_enter Try.func49, Try.ntmps49
    go_wp2_with fail
    refine HL.out.mono ?_
    rintro e w2 ⟨v, rfl, hv, ho⟩
    have HO := Vx.hid ho
    clear hv ho
    go_wp2_with fail
    refine bodyPost_ret (v := .tuple #[.slice none 0 0, .int .i64 6]) ?_ rfl (HC.out _ HO.out)
    simp [results, Try.results49, go_sem]
  | some i =>
    obtain ⟨hb, mp, mw, DP, DW, GP, GW, Q, h⟩ := h
    have e1 : lineE s n = 0 := by unfold lineE; rw [hi]
    have e2 : lineR s n = lineL s n := by unfold lineR; rw [hi]
    rw [e1, e2] at HL
    have HC : Hid (∀ v w', OwnL inL w' w.heap.size 3 v (lineL s n) → XbX (fun k => U k ∨ v.ownBlock = some k) w' xb ⟨cuI s.ps i, s.ws.filter fun x => decide (x.at' ≠ n)⟩ → Only (fun k => ¬ U k) w w' → closeX U w xb s n (.returned (.tuple #[v, .int .i64 0])) w') := fun v w' a1 a2 a3 => by
      refine ⟨_, by rw [e1], by rw [e2]; exact a1, ?_, a3⟩
      have : closeS s n = ⟨cuI s.ps i, s.ws.filter fun x => decide (x.at' ≠ n)⟩ := by unfold closeS; rw [hi]
      rw [this]
      exact a2
    have HB := Vx.hid hb
    have HX := Vx.hid h
    have HPI : Hid (pF s.ps n = some i ∧ I64 n) := ⟨hi, hn⟩
    have hlln : (lineL s n).length ≤ 1000000 := Nat.le_trans (lineL_len s n) h.nl
    have HIX : Hid (∀ t ∈ lineL s n, I64 t) := fun t ht => by
      obtain ⟨x, hx, rfl, _⟩ := lineL_mem ht
      exact hb.iw x hx
    obtain ⟨ls, hls⟩ : ∃ ls, ls = lineL s n := ⟨_, rfl⟩
    rw [← hls] at HL HC hlln HIX
    obtain ⟨N, hN⟩ : ∃ N, N = ls.length := ⟨_, rfl⟩
    have HN := Vx.hid hN
    have HLS := Vx.hid hls
    rw [← hN] at hlln
    clear h hi e1 e2 hls hN hb hn HH
    go_enter Try.func49, Try.ntmps49
    go_wp2_with fail
    refine HL.out.mono ?_
    rintro e w2 ⟨v, rfl, hv, ho⟩
    obtain ⟨pv, cv, hvf, _, _, hvg⟩ := hv.form
    rw [← HN.out] at hvf hvg
    subst hvf
    have HV : Hid (OwnL inL w2 w.heap.size 3 (.slice pv N cv) ls ∧ Only (fun _ => False) w w2 ∧ (0 < N → ∃ g, pv = some ⟨g, 0, none⟩)) := ⟨hv, ho, fun h => by obtain ⟨g, hg, _⟩ := hvg h; exact ⟨g, hg⟩⟩
    have H2 : Hid (XbAt (fun k => U k ∨ (Value.slice pv N cv).ownBlock = some k) w2 xb mp mw DP DW GP GW Q s) := HX.out.step ho (fun _ _ h => h.elim) (fun k hk => by
      rcases hk with hk | hk
      · exact Or.inl hk
      · exact Or.inr (own_lt hv hk))
    have HVK : Hid (∀ w3, Only (fun k => k = mw) w2 w3 → OwnL inL w3 w.heap.size 3 (.slice pv N cv) ls) := fun w3 h3 => HV.out.1.kept h3 (fun k hk e => by
      obtain ⟨cur, hc⟩ := own_tag HV.out.1 hk
      exact H2.out.wm.ne hc e)
    have HCX : Hid (∀ w3, Only (fun k => k = mw) w2 w3 → w3.cell? ⟨xb, 0, none⟩ = some (.map (some mp)) ∧ w3.cell? ⟨xb, 1, none⟩ = some (.map (some mw)) ∧ MapAt w3 mp DP (s.ps.map (·.num)) GP) := fun w3 h3 => by
      have hx := Only.keep h3 H2.out.x (fun e => H2.out.wm.ne H2.out.x e)
      exact ⟨(cell_of_row _ _ 0 _ _ (0, 0) hx).trans rfl, (cell_of_row _ _ 1 _ _ (0, 0) hx).trans rfl, H2.out.pm.keep h3 (fun e => H2.out.mn e)⟩
    clear hv ho hvg HL
    go_wp2_with fail
    go_loopw [9, 21] (fun _ d wr => ∃ k : Nat, d = .int .i64 (k : Int) ∧ k ≤ N ∧ Hid (∃ D, MapAt wr mw D ((cancK s ls k).ws.map (·.thr)) GW ∧ Only (fun k => k = mw) w2 wr)) (fun _ d _ => N - (RowKit.intOf d).toNat)
    case atStart => exact ⟨0, rfl, by omega, DW, by rw [cancK_zero]; exact H2.out.wm, Only.refl _ _⟩
    case round =>
      obtain ⟨k, rfl, hk, HR⟩ := hrel
      obtain ⟨D, hm, hom⟩ := HR.out
      obtain ⟨c0, c1, hpm⟩ := HCX.out wr hom
      by_cases hlt : k < N
      · have hlb : k < ls.length := by have := HN.out; omega
        have h1 : (k : Int) < (N : Int) := by omega
        have hidx : 0 ≤ (k : Int) ∧ (k : Int) < (N : Int) := by omega
        have hwk : IntKind.i64.wrap ((k : Int) + 1) = (k : Int) + 1 := by rw [IntKind.wrap_i64]; omega
        obtain ⟨g, rfl⟩ := HV.out.2.2 (by omega)
        have b0 : wr.cell? ⟨g, k, none⟩ = some (.int .i64 ls[k]) := by
          have := (HVK.out wr hom).cell k 0 hlb (by decide)
          have e : inL.sz = 1 := rfl
          rw [e, Nat.mul_one, Nat.add_zero] at this
          exact this
        obtain ⟨w4, hrun, hm4, ho4⟩ := hm.del (t := 68) (e := 79) Try.underlying68 ls[k] (HIX.out _ (List.getElem_mem hlb))
        rw [cancK_keys s HB.out.nt ls k hlb] at hm4
        have HR4 : Hid (∃ D, MapAt w4 mw D ((cancK s ls (k + 1)).ws.map (·.thr)) GW ∧ Only (fun k => k = mw) w2 w4) := ⟨_, hm4, hom.trans ho4⟩
        generalize ls[k] = y at b0 hrun
        clear hm hom hlt hm4 ho4 hpm c0
        go_wp2_with fail
        go_roundw
        case rel => exact ⟨k + 1, by go_num, by omega, HR4⟩
        case measure => simp only [RowKit.intOf]; omega
      · obtain rfl : k = N := by omega
        have h1 : ¬ (k : Int) < (k : Int) := by omega
        have hst : (cancK s ls k).ws = s.ws.filter fun x => decide (x.at' ≠ n) := by
          rw [HN.out, HLS.out, cancK_all s HB.out.nt n]
        rw [hst] at hm
        obtain ⟨w5, hrun, hm5, ho5⟩ := hpm.del (t := 67) (e := 71) Try.underlying67 n HPI.out.2
        obtain ⟨hx5, hO5⟩ := H2.out.closed HB.out HPI.out.1 hm hom hm5 ho5
        have hv5 : OwnL inL w5 w.heap.size 3 (.slice pv k cv) ls := (HVK.out wr hom).kept ho5 (fun j hj e => by
          obtain ⟨cur, hc⟩ := own_tag (HVK.out wr hom) hj
          exact hpm.ne hc e)
        have HF := Vx.hid (HC.out _ w5 hv5 ⟨HB.out.closed HPI.out.1, _, _, _, _, _, _, _, hx5⟩ ((HV.out.2.1.mono (fun _ _ h => h.elim)).trans (hO5.mono (fun j hj h9 h8 => h9 (Or.inl h8)))))
        clear hm hom hlt hm5 ho5 hx5 hO5 hv5 hpm c1 hst
        go_wp2_with fail
        refine bodyPost_ret (v := .tuple #[.slice pv k cv, .int .i64 0]) ?_ rfl HF.out
        simp [results, Try.results49, go_sem]
end Go.Proofs.Ytdpgdjpphnbfnaa

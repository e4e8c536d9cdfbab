/- Chapter 9, the program's scheduler: first, takeTick. -/
import Derived.Test.YtgncabcnefhkiaaSX6
namespace Go.Proofs.Ytgncabcnefhkiaa
open Go.ChangeShapes Go.WideShapes Go.ChangeAt Go.RowKit
open Go.Vx
set_option linter.unusedVariables false
variable {U V S : Nat → Prop} {w w2 : World} {xb mb : Nat} {D : DataW Value} {G : Int → Nat} {vt : Value} {vq : List Value} {ts : List (Int × Int)} {t : Nat} {lf : Int} {es : List Et} {Q : Nat → List Int} {ck : Nat}

theorem XsAt.formT (h : XsAt U w xb mb D G vt vq ts t lf es Q) (hn : 0 < ts.length) : ∃ g c, vt = .slice (some ⟨g, 0, none⟩) ts.length c := by
  obtain ⟨p, c, rfl, _, _, hg⟩ := h.t'.form
  obtain ⟨g, rfl, _⟩ := hg hn
  exact ⟨g, c, rfl⟩
theorem XsAt.turn {g m c : Nat} (h : XsAt U w xb mb D G (.slice (some ⟨g, 0, none⟩) m c) vq ts t lf es Q) (k : Nat) (hk : k < ts.length) : w.cell? ⟨g, k * 2, none⟩ = some (.int .i64 (ts.getD k (0, 0)).1) ∧ w.cell? ⟨g, k * 2 + 1, none⟩ = some (.int .i64 (ts.getD k (0, 0)).2) := by
  have e : ts.getD k (0, 0) = ts[k] := by simp [List.getD_eq_getElem?_getD, hk]
  rw [e]
  exact ⟨h.t'.cell k 0 hk (by decide), h.t'.cell k 1 hk (by decide)⟩
/-- Who runs first in a domain. -/
def fsV (G : Int → Nat) (es : List Et) (d : Int) : Value := match bestF es d with | some i => .pointer (some ⟨G (es.getD i .df).num, 0, none⟩) | none => .pointer none
set_option maxRecDepth 100000 in
set_option maxHeartbeats 4000000 in
theorem xfirst_ok (h : XgAt U w xb G ts t lf es ck) : Calls Try.prog 47 #[.pointer (some ⟨xb, 0, none⟩)] w fun e w' => e = .returned (fsV G es (ts.getD t (0, 0)).1) ∧ Only (fun _ => False) w w' := by
  obtain ⟨hw, hts, mb, D, vt, vq, Q, hq, hx⟩ := h
  obtain ⟨g, c, rfl⟩ := hx.formT hts.n1
  obtain ⟨T, hTT⟩ : ∃ T, T = ts.length := ⟨_, rfl⟩
  rw [← hTT] at hx
  have HX := Vx.hid hx
  have c0 := hx.c0
  have c1 := hx.c1
  obtain ⟨u0, _⟩ := hx.turn t hts.tl
  have hm : ts.getD t (0, 0) ∈ ts := by simp [List.getD_eq_getElem?_getD, hts.tl]
  have hdb : 0 ≤ (ts.getD t (0, 0)).1 ∧ (ts.getD t (0, 0)).1 ≤ 7 := by
    have := of_decide_eq_true (hts.ok _ hm)
    omega
  obtain ⟨d, hd⟩ : ∃ d : Nat, (ts.getD t (0, 0)).1 = (d : Int) := ⟨(ts.getD t (0, 0)).1.toNat, by omega⟩
  rw [hd] at u0 hdb ⊢
  have hd8 : d < 8 := by omega
  have hidx : 0 ≤ (t : Int) ∧ (t : Int) < (T : Int) := by have := hts.tl; omega
  have hidx2 : 0 ≤ (d : Int) ∧ (d : Int) < 8 := by omega
  have HS := Vx.hid hw
  have HQ := Vx.hid hq
  clear hx hw hts hq hm hd hdb hTT
  go_enter Try.func47, Try.ntmps47
  go_wp2_with fail
  go_quiet (fail)
  go_wp2_with fail
  go_loopw [4, 5, 6, 26] (fun pv _ _ _ wr => ∃ k : Nat, pv = .int .i64 ((k : Int) - 1) ∧ k ≤ 8 ∧ Hid (∀ q : Nat, k ≤ q → q < 8 → Q (d * 8 + q) = []) ∧ Hid (Only (fun _ => False) w wr)) (fun pv _ _ _ _ => ((RowKit.intOf pv) + 1).toNat)
  case atStart => exact ⟨8, rfl, by omega, (fun q h1 h2 => absurd h2 (by omega)), (Only.refl _ _).drewN _⟩
  case round =>
    obtain ⟨k, rfl, hk, HE, HO⟩ := hrel
    by_cases hk0 : k = 0
    · subst hk0
      have hb : bestF es (d : Int) = none := best_empty HS.out (fun q h1 h2 => by
        have := HQ.out (d * 8 + q.toNat) (by omega)
        rw [HE.out q.toNat (by omega) (by omega)] at this
        have e1 : ((((d * 8 + q.toNat) / 8 : Nat)) : Int) = (d : Int) := by omega
        have e2 : ((((d * 8 + q.toNat) % 8 : Nat)) : Int) = q := by omega
        rw [e1, e2] at this
        exact this)
      have HV : Hid (fsV G es (d : Int) = .pointer none) := by unfold fsV; rw [hb]; exact rfl
      have h1 : ¬ (0 : Int) ≤ ((0 : Nat) : Int) - 1 := by decide
      clear hb
      go_wp2_with fail
      all_goals
        go_ret
        exact ⟨by rw [HV.out]; rfl, HO.out⟩
    · obtain ⟨p, rfl⟩ : ∃ p, k = p + 1 := ⟨k - 1, by omega⟩
      have ep : (((p + 1 : Nat)) : Int) - 1 = (p : Int) := by omega
      rw [ep]
      have hp8 : p < 8 := by omega
      have hge : (0 : Int) ≤ (p : Int) := by omega
      have hip : 0 ≤ (p : Int) ∧ (p : Int) < 8 := by omega
      have hwp : IntKind.i64.wrap ((p : Int) - 1) = (p : Int) - 1 := by rw [IntKind.wrap_i64]; omega
      have hxr := HX.out.quiet HO.out
      have hql := XgAt.qlen HQ.out HX.out (d * 8 + p) (by omega)
      have hqu := hxr.queue (d * 8 + p) (by omega) hql
      have eq4 : 4 + (d * 8 + p) = 4 + d * 8 + p := by omega
      rw [eq4] at hqu
      cases hl : Q (d * 8 + p) with
      | nil =>
        rw [hl] at hqu
        have HF := Vx.hid (qfirst_nil hqu)
        have HE2 : Hid (∀ q : Nat, p ≤ q → q < 8 → Q (d * 8 + q) = []) := fun q h1 h2 => by
          by_cases e : q = p
          · rw [e]; exact hl
          · exact HE.out q (by omega) h2
        clear hxr hqu hql hl HE eq4 ep hk0
        go_wp2_with fail
        refine HF.out.mono ?_
        rintro e w' ⟨rfl, h⟩
        have h3 := h.symm; clear h; subst h3
        go_wp2_with fail
        go_roundw
        case rel => exact ⟨p, rfl, by omega, HE2, HO⟩
        case measure => simp only [RowKit.intOf]; omega
      | cons n l =>
        rw [hl] at hqu
        have HF := Vx.hid (qfirst_cons hqu)
        have hnq := HQ.out (d * 8 + p) (by omega)
        have e1 : ((((d * 8 + p) / 8 : Nat)) : Int) = (d : Int) := by omega
        have e2 : ((((d * 8 + p) % 8 : Nat)) : Int) = (p : Int) := by omega
        rw [hl, e1, e2] at hnq
        obtain ⟨i, hi, hb⟩ := best_head HS.out hnq (fun q h1 h2 => by
          have := HQ.out (d * 8 + q.toNat) (by omega)
          rw [HE.out q.toNat (by omega) (by omega)] at this
          have e1 : ((((d * 8 + q.toNat) / 8 : Nat)) : Int) = (d : Int) := by omega
          have e2 : ((((d * 8 + q.toNat) % 8 : Nat)) : Int) = q := by omega
          rw [e1, e2] at this
          exact this)
        obtain ⟨hil, hin⟩ := fnF_at hi
        have HV : Hid (fsV G es (d : Int) = .pointer (some ⟨G n, 0, none⟩)) := by unfold fsV; rw [hb]; dsimp only; rw [getD_et hil, hin]; exact rfl
        clear hxr hqu hql hl HE eq4 ep hk0 hnq e1 e2 hi hb hin
        go_wp2_with fail
        refine HF.out.mono ?_
        rintro e w' ⟨rfl, h⟩
        have h3 := h.symm; clear h; subst h3
        go_wp2_with fail
        all_goals
          go_ret
          exact ⟨by rw [HV.out]; rfl, HO.out⟩
end Go.Proofs.Ytgncabcnefhkiaa

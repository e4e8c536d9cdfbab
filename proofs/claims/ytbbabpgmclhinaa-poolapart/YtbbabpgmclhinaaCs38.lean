import Derived.Test.YtbbabpgmclhinaaCs37
import Derived.Laws.BitsLemmas
/- Chapter 8, the program's pool: what may be given; where giving begins; a mark raised. -/
namespace Go.Proofs.Ytbbabpgmclhinaa
open Go.ChangeShapes Go.WideShapes Go.ChangeAt Go.RowKit
open Go.Vx
set_option linter.unusedVariables false
variable {U V S : Nat → Prop} {w w2 w3 : World} {xb pb mb gb r N cnt cnt2 : Nat} {P : Int} {D D2 : DataW Value} {os rs os2 rs2 : List (Int × Int)}

def canE (k o c : Int) : Int := if k < 1 ∨ 8 < k then 12 else if o < 0 ∨ 8 < o ∨ (k ≠ 1 ∧ o ≠ 0) ∨ c < 1 ∨ 64 < c then 1 else 0
theorem canE_one {k o c : Int} (hk : 1 ≤ k ∧ k ≤ 8) (h : o < 0 ∨ 8 < o ∨ (k ≠ 1 ∧ o ≠ 0) ∨ c < 1 ∨ 64 < c) : canE k o c = 1 := by
  unfold canE
  rw [if_neg (by omega), if_pos h]
theorem canE_zero {k o c : Int} (hk : 1 ≤ k ∧ k ≤ 8) (h : ¬ (o < 0 ∨ 8 < o ∨ (k ≠ 1 ∧ o ≠ 0) ∨ c < 1 ∨ 64 < c)) : canE k o c = 0 := by
  unfold canE
  rw [if_neg (by omega), if_neg h]
set_option maxHeartbeats 2000000 in
theorem pcan_ok (k o c : Int) (w : World) : Calls Try.prog 26 #[.int .i64 k, .int .i64 o, .int .i64 c] w fun e w' => e = .returned (.int .i64 (canE k o c)) ∧ w' = w := by
  have HIK := Vx.hid (fun wv => isKind_ok k wv)
  by_cases hk : 1 ≤ k ∧ k ≤ 8
  · rw [decide_eq_true hk] at HIK
    by_cases o0 : o < 0
    · have HE : Hid (canE k o c = 1) := by show _ = _; exact canE_one hk (by omega)
      rw [HE.out]
      clear HE
      go_enter Try.func26, Try.ntmps26
      go_wp2_with fail
      refine (HIK.out _).mono ?_
      rintro e w' ⟨rfl, h⟩
      have h3 := h.symm; clear h; subst h3
      go_wp2_with fail
      all_goals
        go_ret
        exact ⟨by first | rfl | simp_all, rfl⟩
    · by_cases o8 : 8 < o
      · have HE : Hid (canE k o c = 1) := by show _ = _; exact canE_one hk (by omega)
        rw [HE.out]
        clear HE
        go_enter Try.func26, Try.ntmps26
        go_wp2_with fail
        refine (HIK.out _).mono ?_
        rintro e w' ⟨rfl, h⟩
        have h3 := h.symm; clear h; subst h3
        go_wp2_with fail
        all_goals
          go_ret
          exact ⟨by first | rfl | simp_all, rfl⟩
      · by_cases o1 : 0 < o
        · by_cases k1 : k = 1
          · subst k1
            by_cases c1 : c < 1
            · have HE : Hid (canE 1 o c = 1) := by show _ = _; exact canE_one hk (by omega)
              rw [HE.out]
              clear HE
              go_enter Try.func26, Try.ntmps26
              go_wp2_with fail
              refine (HIK.out _).mono ?_
              rintro e w' ⟨rfl, h⟩
              have h3 := h.symm; clear h; subst h3
              go_wp2_with fail
              all_goals
                go_ret
                exact ⟨by first | rfl | simp_all, rfl⟩
            · by_cases c2 : 64 < c
              · have HE : Hid (canE 1 o c = 1) := by show _ = _; exact canE_one hk (by omega)
                rw [HE.out]
                clear HE
                go_enter Try.func26, Try.ntmps26
                go_wp2_with fail
                refine (HIK.out _).mono ?_
                rintro e w' ⟨rfl, h⟩
                have h3 := h.symm; clear h; subst h3
                go_wp2_with fail
                all_goals
                  go_ret
                  exact ⟨by first | rfl | simp_all, rfl⟩
              · have HE : Hid (canE 1 o c = 0) := by show _ = _; exact canE_zero hk (by omega)
                rw [HE.out]
                clear HE
                go_enter Try.func26, Try.ntmps26
                go_wp2_with fail
                refine (HIK.out _).mono ?_
                rintro e w' ⟨rfl, h⟩
                have h3 := h.symm; clear h; subst h3
                go_wp2_with fail
                all_goals
                  go_ret
                  exact ⟨by first | rfl | simp_all, rfl⟩
          · have k1' : (k == 1) = false := beq_eq_false_iff_ne.2 k1
            have k1'' : (k != 1) = true := by simpa using k1
            have HE : Hid (canE k o c = 1) := by show _ = _; exact canE_one hk (by omega)
            rw [HE.out]
            clear HE
            go_enter Try.func26, Try.ntmps26
            go_wp2_with fail
            refine (HIK.out _).mono ?_
            rintro e w' ⟨rfl, h⟩
            have h3 := h.symm; clear h; subst h3
            go_wp2_with fail
            all_goals
              go_ret
              exact ⟨by first | rfl | simp_all, rfl⟩
        · by_cases c1 : c < 1
          · have HE : Hid (canE k o c = 1) := by show _ = _; exact canE_one hk (by omega)
            rw [HE.out]
            clear HE
            go_enter Try.func26, Try.ntmps26
            go_wp2_with fail
            refine (HIK.out _).mono ?_
            rintro e w' ⟨rfl, h⟩
            have h3 := h.symm; clear h; subst h3
            go_wp2_with fail
            all_goals
              go_ret
              exact ⟨by first | rfl | simp_all, rfl⟩
          · by_cases c2 : 64 < c
            · have HE : Hid (canE k o c = 1) := by show _ = _; exact canE_one hk (by omega)
              rw [HE.out]
              clear HE
              go_enter Try.func26, Try.ntmps26
              go_wp2_with fail
              refine (HIK.out _).mono ?_
              rintro e w' ⟨rfl, h⟩
              have h3 := h.symm; clear h; subst h3
              go_wp2_with fail
              all_goals
                go_ret
                exact ⟨by first | rfl | simp_all, rfl⟩
            · have HE : Hid (canE k o c = 0) := by show _ = _; exact canE_zero hk (by omega)
              rw [HE.out]
              clear HE
              go_enter Try.func26, Try.ntmps26
              go_wp2_with fail
              refine (HIK.out _).mono ?_
              rintro e w' ⟨rfl, h⟩
              have h3 := h.symm; clear h; subst h3
              go_wp2_with fail
              all_goals
                go_ret
                exact ⟨by first | rfl | simp_all, rfl⟩
  · rw [decide_eq_false hk] at HIK
    have HE : Hid (canE k o c = 12) := by show _ = _; unfold canE; rw [if_pos (by omega)]
    rw [HE.out]
    clear HE
    go_enter Try.func26, Try.ntmps26
    go_wp2_with fail
    refine (HIK.out _).mono ?_
    rintro e w' ⟨rfl, h⟩
    have h3 := h.symm; clear h; subst h3
    go_wp2_with fail
    all_goals
      go_ret
      exact ⟨rfl, rfl⟩
/-- Where giving begins. -/
def begR (os rs : List (Int × Int)) (n : Int) : Int × Int := match rgF rs n with | none => (0, 6) | some i => (if liesB os rs n = true then (rs.getD i (0, 0)).2 else 0, 0)
set_option maxHeartbeats 1000000 in
theorem pbegin_ok (h : XqAt U w xb mb gb D N os rs) (hw : PWf (N : Int) os rs) (n : Int) (hn : I64 n) : Calls Try.prog 27 #[.pointer (some ⟨xb, 0, none⟩), .int .i64 n] w fun e w' => e = .returned (.tuple #[.int .i64 (begR os rs n).1, .int .i64 (begR os rs n).2]) ∧ Only (fun _ => False) w w' := by
  have HEM := Vx.hid (pempty_ok h hw n hn)
  cases hi : rgF rs n with
  | none =>
    have e1 : emptyR os rs n = (false, 6) := by unfold emptyR; rw [hi]
    have e2 : begR os rs n = (0, 6) := by unfold begR; rw [hi]
    rw [e1] at HEM
    rw [e2]
    clear h hw hn hi e1 e2
    go_enter Try.func27, Try.ntmps27
    go_wp2_with fail
    refine HEM.out.mono ?_
    rintro e w3 ⟨rfl, h3⟩
    have H3 := Vx.hid h3
    clear h3
    go_wp2_with fail
    all_goals
      go_ret2
      exact ⟨rfl, H3.out⟩
  | some i =>
    cases hl : liesB os rs n with
    | false =>
      have e1 : emptyR os rs n = (true, 0) := by unfold emptyR; rw [hi, hl]; rfl
      have e2 : begR os rs n = (0, 0) := by unfold begR; rw [hi, hl]; rfl
      rw [e1] at HEM
      rw [e2]
      clear h hw hn hi e1 e2 hl
      go_enter Try.func27, Try.ntmps27
      go_wp2_with fail
      refine HEM.out.mono ?_
      rintro e w3 ⟨rfl, h3⟩
      have H3 := Vx.hid h3
      clear h3
      go_wp2_with fail
      all_goals
        go_ret2
        exact ⟨rfl, H3.out⟩
    | true =>
      have e1 : emptyR os rs n = (false, 0) := by unfold emptyR; rw [hi, hl]; rfl
      have e2 : begR os rs n = ((rs.getD i (0, 0)).2, 0) := by unfold begR; rw [hi, hl]; rfl
      have e3 : markR rs n = ((rs.getD i (0, 0)).2, 0) := by unfold markR; rw [hi]
      rw [e1] at HEM
      rw [e2]
      have HMK : Hid (∀ wv, Only (fun _ => False) w wv → Calls Try.prog 13 #[.pointer (some ⟨xb, 0, none⟩), .int .i64 n] wv fun e w' => e = .returned (.tuple #[.int .i64 (rs.getD i (0, 0)).2, .int .i64 0]) ∧ Only (fun _ => False) wv w') := fun wv hv => by
        have := pmark_ok (h.quiet hv) n hn
        rw [e3] at this
        exact this
      generalize (rs.getD i (0, 0)).2 = mk at HMK ⊢
      clear h hw hn hi e1 e2 e3 hl
      go_enter Try.func27, Try.ntmps27
      go_wp2_with fail
      refine HEM.out.mono ?_
      rintro e w3 ⟨rfl, h3⟩
      have H3 := Vx.hid h3
      clear h3
      go_wp2_with fail
      refine (HMK.out _ H3.out).mono ?_
      rintro e w4 ⟨rfl, h4⟩
      have H4 := Vx.hid (H3.out.trans h4)
      clear h4
      go_wp2_with fail
      all_goals
        go_ret2
        exact ⟨rfl, H4.out⟩
theorem up_bits : ∀ q : Nat, q < 9 → ∀ m : Nat, m < 257 → bits BinOp.andNot IntKind.i64 (((m + 2 ^ q - 1 : Nat)) : Int) ((2 ^ q - 1 : Nat) : Int) = ((upN m (2 ^ q) : Nat) : Int) := by decide +kernel
theorem praise_ok (m q p : Nat) (hm : m ≤ 256) (hq : q ≤ 8) (hp : p = 2 ^ q) (w : World) : Calls Try.prog 29 #[.int .i64 (m : Int), .int .i64 (p : Int)] w fun e w' => e = .returned (.int .i64 ((upN m p : Nat) : Int)) ∧ w' = w := by
  have h1 := up_bits q (by omega) m (by omega)
  rw [← hp] at h1
  have hp1 : 1 ≤ p ∧ p ≤ 256 := by
    have h2 : 0 < 2 ^ q := Nat.pow_pos (by decide)
    have h3 : 2 ^ q ≤ 2 ^ 8 := Nat.pow_le_pow_right (by decide) hq
    rw [hp]
    omega
  have e1 : ((m + p - 1 : Nat) : Int) = (m : Int) + (p : Int) - 1 := by omega
  have e2 : ((p - 1 : Nat) : Int) = (p : Int) - 1 := by omega
  rw [e1, e2] at h1
  have w1 : IntKind.i64.wrap ((m : Int) + (p : Int)) = (m : Int) + (p : Int) := by rw [IntKind.wrap_i64]; omega
  have w2 : IntKind.i64.wrap ((m : Int) + (p : Int) - 1) = (m : Int) + (p : Int) - 1 := by rw [IntKind.wrap_i64]; omega
  have w3 : IntKind.i64.wrap ((p : Int) - 1) = (p : Int) - 1 := by rw [IntKind.wrap_i64]; omega
  generalize upN m p = u at h1 ⊢
  clear hp e1 e2
  go_enter Try.func29, Try.ntmps29
  go_wp2_with fail
  all_goals
    go_ret
    exact ⟨by first | rfl | simp [w1, w2, w3, h1], rfl⟩
end Go.Proofs.Ytbbabpgmclhinaa

/- Package spec's reader: register. -/
import Derived.Test.YtgacifbpjdakaaaGreatDoorSR6
namespace Go.Proofs.YtgacifbpjdakaaaGreatDoor
open Go.ChangeShapes Go.WideShapes Go.ChangeAt Go.RowKit
open Go.Vx
set_option linter.unusedVariables false
set_option linter.unusedSimpArgs false
variable {W w w2 : World} {rb : Nat} {V : Rv} {vw : Value} {ws : List (List UInt8)} {T : Tx} {x : List UInt8}

set_option maxRecDepth 20000 in
set_option maxHeartbeats 2000000 in
theorem register_ok (r : Nat) (h1 : 1 ≤ r) (h2 : r < 32) (h : RdAt W w rb V vw ((120 :: Lib.decDigits r) :: ws) T) (hl : ws.length ≤ 30000) :
    Calls Tryz.prog 82 #[.pointer (some ⟨rb, 0, none⟩)] w fun e w' => e = .returned (.int .i64 (r : Int)) ∧ Hid (RdP W w rb V ws T w') := by
  have HW := Vx.hid (word_ok h hl)
  have HI : Hid (∀ k, 1 ≤ k → k ≤ r → ∀ wv, Calls Tryz.prog 113 #[.int .i64 (k : Int)] wv fun e w' => e = .returned (.string ⟨(Lib.decDigits k).toArray⟩) ∧ w' = wv) := fun k hk hk2 wv => Tryz.strconv_Itoa_small k (by omega) wv
  have HE : Hid (∀ k, 1 ≤ k → k < r → (Lib.decDigits r == Lib.decDigits k) = false) := fun k hk hk2 => by
    rw [beq_eq_false_iff_ne]
    intro e
    have := Vx.dec_inj (by omega) (by omega) e
    omega
  have HLE : Hid (∀ k, k < 32 → (Lib.decDigits k).length ≤ 20) := fun k hk => by rw [Lib.decDigits_length]; exact nDig_le k (by omega)
  clear h hl
  go_enter Tryz.func82, Tryz.ntmps82
  go_wp2_with fail
  refine HW.out.mono ?_
  rintro e w1 ⟨rfl, H1⟩
  clear HW
  go_wp2_with fail
  go_loop [4] (fun a => ∃ k : Nat, 1 ≤ k ∧ k ≤ r ∧ a = .int .i64 k) (fun a => 40 - (intOf a).toNat)
  case atStart => exact ⟨1, by omega, by omega, rfl⟩
  case round =>
    obtain ⟨k, hk1, hk2, rfl⟩ := hrel
    have hlt : (k : Int) < 32 := by omega
    have hit := HI.out k hk1 hk2
    have HI2 := Vx.hid hit
    clear hit
    by_cases hkr : k = r
    · subst hkr
      have hle := HLE.out k h2
      clear HE HLE HI
      generalize Lib.decDigits k = d at HI2 hle
      have hcat := catB [120] d
      have hb : (120 :: d == 120 :: d) = true := by simp
      have hb2 : (d == d) = true := by simp
      go_wp2_with (go_at_call 113; refine (HI2.out _).mono ?_; rintro e w9 ⟨rfl, rfl⟩)
      go_ret
      exact ⟨rfl, H1.out⟩
    · have hne := HE.out k hk1 (by omega)
      have hle := HLE.out k (by omega)
      clear HE HLE HI
      generalize Lib.decDigits k = d at HI2 hle hne
      have hcat := catB [120] d
      generalize Lib.decDigits r = f at hne
      have hb : (120 :: f == 120 :: d) = false := by
        rw [beq_eq_false_iff_ne] at hne ⊢
        intro e; injection e with _ e; exact hne e
      have hw : IntKind.i64.wrap ((k : Int) + 1) = (k : Int) + 1 := by rw [IntKind.wrap_i64]; omega
      go_wp2_with (go_at_call 113; refine (HI2.out _).mono ?_; rintro e w9 ⟨rfl, rfl⟩)
      go_round
      case rel => exact ⟨k + 1, by omega, by omega, by go_num⟩
      case measure => simp [intOf]; omega
end Go.Proofs.YtgacifbpjdakaaaGreatDoor

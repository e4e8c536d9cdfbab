/- Walks of the scripts: sameMaps. -/
import Derived.Test.YtflmobffeeocdaaGreatDoorG2
namespace Go.Proofs.YtflmobffeeocdaaGreatDoor
open Go.ChangeShapes Go.WideShapes Go.ChangeAt Go.RowKit
open Go.Vx

set_option maxHeartbeats 2000000 in
theorem sameMaps_ok {w : World} {b1 b2 : Nat} {v1 v2 : Value} {ms : List (Int × Int × Int)} (h1 : OwnM w b1 104 v1 ms) (h2 : OwnM w b2 104 v2 ms) (hl : ms.length ≤ 2000000) :
    Calls Tryz.prog 49 #[v1, v2] w fun e w' => e = .returned (.bool true) ∧ Only (fun _ => False) w w' := by
  obtain ⟨p1, c1, rfl, _, hc1, hp1⟩ := h1.form
  obtain ⟨p2, c2, rfl, _, hc2, hp2⟩ := h2.form
  have H1 := Vx.hid h1
  have H2 := Vx.hid h2
  have HP1 := Vx.hid hp1
  have HP2 := Vx.hid hp2
  obtain ⟨L, hL⟩ : ∃ L, L = ms.length := ⟨_, rfl⟩
  have HL := Vx.hid hL
  rw [← hL] at hl H1 H2 HP1 HP2 ⊢
  have hlm : (L : Int) ≤ 2000000 := by omega
  clear h1 h2 hp1 hp2 hL hc1 hc2
  go_enter Tryz.func49, Tryz.ntmps49
  go_wp2_with fail
  go_loopw [5] (fun d wr => ∃ k : Nat, d = .int .i64 (k : Int) ∧ k ≤ L ∧ Hid (Only (fun _ => False) w wr)) (fun d _ => L - (intOf d).toNat)
  case atStart => exact ⟨0, rfl, by omega, Only.refl _ _⟩
  case round =>
    obtain ⟨k, rfl, hk, HO⟩ := hrel
    by_cases hlt : k < L
    · have h1 : (k : Int) < (L : Int) := by omega
      have hidx : 0 ≤ (k : Int) ∧ (k : Int) < (L : Int) := by omega
      have hkt : k < ms.length := by have := HL.out; omega
      have w1' : IntKind.i64.wrap ((k : Int) + 1) = (k : Int) + 1 := by rw [IntKind.wrap_i64]; omega
      obtain ⟨g1, rfl, _, _⟩ := HP1.out (by omega)
      obtain ⟨g2, rfl, _, _⟩ := HP2.out (by omega)
      have hd : Only (fun _ => False) w wr.drew := HO.out.drew
      have HOD := Vx.hid hd
      obtain ⟨a0, a1, a2⟩ := (show OwnM wr.drew b1 104 (.slice (some ⟨g1, 0, none⟩) ms.length c1) ms from by have := H1.out.quiet hd; rw [HL.out] at this; exact this).at k hkt
      obtain ⟨d0, d1, d2⟩ := (show OwnM wr.drew b2 104 (.slice (some ⟨g2, 0, none⟩) ms.length c2) ms from by have := H2.out.quiet hd; rw [HL.out] at this; exact this).at k hkt
      generalize ms[k] = y at a0 a1 a2 d0 d1 d2
      obtain ⟨y0, y1, y2⟩ := y
      simp only at a0 a1 a2 d0 d1 d2
      clear hd hlt hkt HO
      go_wp2_with fail
      go_region
      all_goals
        go_wp2_with fail
        go_roundw
        case rel => exact ⟨k + 1, by go_num, by omega, HOD⟩
        case measure => simp only [intOf]; omega
    · have h1 : ¬ (k : Int) < (L : Int) := by omega
      go_wp2_with fail
      all_goals
        go_ret
        exact ⟨rfl, HO.out⟩
end Go.Proofs.YtflmobffeeocdaaGreatDoor

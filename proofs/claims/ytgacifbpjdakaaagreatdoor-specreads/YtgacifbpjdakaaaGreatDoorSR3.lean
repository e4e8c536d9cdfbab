/- Package spec's reader: the number 0x7. -/
import Derived.Test.YtgacifbpjdakaaaGreatDoorSR2
namespace Go.Proofs.YtgacifbpjdakaaaGreatDoor
open Go.ChangeShapes Go.WideShapes Go.ChangeAt Go.RowKit
open Go.Vx
set_option linter.unusedVariables false
variable {W w w2 : World} {rb : Nat} {V : Rv} {vw : Value} {ws : List (List UInt8)} {T : Tx} {x : List UInt8}

set_option maxRecDepth 100000 in
set_option maxHeartbeats 2000000 in
theorem hexin_ok (w : World) :
    Calls Tryz.prog 122 #[.string ⟨#[55]⟩, .int .i64 16, .int .i64 32] w fun e w' => e = .returned (.tuple #[.int .u64 7, .nilIface]) ∧ Only (fun _ => False) w w' := by
  have hcv := Lib.run_convert_string_bytes (P := Tryz.prog) w 9 115 5 ⟨#[55]⟩ (u := .string) Tryz.underlying9 Tryz.underlying115 Tryz.underlying5
  have hce := Lib.bytesWorld_cell w 5 ⟨#[55]⟩ 0 (by decide)
  have hz : ((ByteArray.mk #[55]).data.toList.getD 0 0).toNat = 55 := by decide
  have hsz : (ByteArray.mk #[55]).size = 1 := by decide
  rw [hz] at hce
  rw [hsz] at hcv
  have HO : Hid (Only (fun _ => False) w (Lib.bytesWorld w 5 ⟨#[55]⟩)) := Only.bytes _ _ _ _
  generalize Lib.bytesWorld w 5 ⟨#[55]⟩ = wb at hcv hce HO
  generalize grownCap w 1 0 5 = gc at hcv
  clear hz hsz
  go_enter Tryz.func122, Tryz.ntmps122
  go_wp2
  go_loop [12, 13, 101] (fun u n i => (u = .bool false ∧ n = .int .u64 0 ∧ i = .int .i64 0) ∨ (u = .bool false ∧ n = .int .u64 7 ∧ i = .int .i64 1)) (fun _ _ i => (1 - intOf i).toNat)
  case atStart => exact Or.inl ⟨rfl, rfl, rfl⟩
  case round =>
    rcases hrel with ⟨rfl, rfl, rfl⟩ | ⟨rfl, rfl, rfl⟩
    · go_wp2
      go_round
      case rel => exact Or.inr ⟨rfl, rfl, rfl⟩
      case measure => decide
    · go_wp2
      go_ret2
      exact ⟨rfl, HO.out⟩
set_option maxHeartbeats 1000000 in
theorem hexp_ok (w : World) :
    Calls Tryz.prog 97 #[.string ⟨#[55]⟩, .int .i64 16, .int .i64 32] w fun e w' => e = .returned (.tuple #[.int .u64 7, .nilIface]) ∧ Only (fun _ => False) w w' := by
  go_enter Tryz.func97, Tryz.ntmps97
  go_wp2_with fail
  refine (hexin_ok _).mono ?_
  rintro e w1 ⟨rfl, ho⟩
  have HO := Vx.hid ho
  clear ho
  go_wp2_with fail
  go_ret2
  exact ⟨rfl, HO.out⟩
set_option maxHeartbeats 1000000 in
theorem number_hex (h : RdAt W w rb V vw ([48, 120, 55] :: ws) T) (hl : ws.length ≤ 30000) :
    Calls Tryz.prog 63 #[.pointer (some ⟨rb, 0, none⟩)] w fun e w' => e = .returned (.int .i64 7) ∧ Hid (RdP W w rb V ws T w') := by
  have HW := Vx.hid (word_ok h hl)
  have HC := Vx.hid (fun wv => cutp_any [48, 120, 55] [48, 120] wv)
  have HP := Vx.hid (fun wv => hexp_ok wv)
  rw [show Lib.trimPrefix [48, 120, 55] [48, 120] = [55] by decide +kernel, show Lib.hasPrefix [48, 120, 55] [48, 120] = true by decide +kernel] at HC
  clear h hl
  go_enter Tryz.func63, Tryz.ntmps63
  go_wp2_with fail
  refine HW.out.mono ?_
  rintro e w1 ⟨rfl, H1⟩
  clear HW
  go_wp2_with fail
  refine (HC.out _).mono ?_
  rintro e w2 ⟨rfl, rfl⟩
  clear HC
  go_wp2_with fail
  refine (HP.out _).mono ?_
  rintro e w3 ⟨rfl, ho3⟩
  have HO := Vx.hid ho3
  clear HP ho3
  go_wp2_with fail
  go_ret
  obtain ⟨h1, vw', h2⟩ := H1.out
  exact ⟨rfl, h1.trans (HO.out.mono (fun _ _ h => h.elim)), vw', h2.quiet HO.out⟩
end Go.Proofs.YtgacifbpjdakaaaGreatDoor

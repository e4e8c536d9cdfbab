import Derived.Test.YtdpgdjpphnbfnaaCi25
/- The books: reads, readsMore. -/
namespace Go.Proofs.Ytdpgdjpphnbfnaa
open Go.ChangeShapes Go.WideShapes Go.ChangeAt Go.RowKit
open Go.Vx
set_option linter.unusedVariables false
variable {B : Nat → Prop} {w : World} {bb o : Nat} {T : TypeId} {cs : Array Value} {V : Nat → Value} {L : Nat → List Sh}

set_option maxRecDepth 100000 in
set_option maxHeartbeats 4000000 in
theorem readsMore_okQ (h : Bk6 B w bb o T cs V L) (hl : ∀ j, j < 6 → (L j).length ≤ 1000000) :
    Calls Try.prog 37 #[.pointer (some ⟨bb, o, none⟩)] w fun e w' => e = .returned (.bool true) ∧ w' = w := by
  have HH := Vx.hid h
  have HL := Vx.hid hl
  clear h hl
  go_enter Try.func37, Try.ntmps37
  go_wp2_with fail
  go_loopw [3] (fun d wx => ∃ i : Nat, d = .int .i64 (i : Int) ∧ i ≤ (L 3).length ∧ wx = w) (fun d _ => (L 3).length - (intOf d).toNat)
  case atStart => exact ⟨0, rfl, by omega, rfl⟩
  case round =>
    obtain ⟨i, rfl, hi, rfl⟩ := hrel
    obtain ⟨pv, cv, hv, hcells⟩ := (HH.out.k 3 (by decide)).at
    have hd : wr.cell? ⟨bb, o + 3, none⟩ = some (V 3) := HH.out.cell (j := 3) (by decide)
    obtain ⟨Ln, hL⟩ : ∃ Ln, Ln = (L 3).length := ⟨_, rfl⟩
    rw [hv, ← hL] at hd
    have hlm : (Ln : Int) ≤ 1000000 := by have := HL.out 3 (by decide); omega
    have HLn := Vx.hid hL
    have HCL := Vx.hid hcells
    have hi2 : i ≤ Ln := by omega
    clear hcells hv hi hL
    by_cases hlt : i < Ln
    · have d1 : (i : Int) < (Ln : Int) := by omega
      have hidx : 0 ≤ (i : Int) ∧ (i : Int) < (Ln : Int) := by omega
      have hiS : i < (L 3).length := by have := HLn.out; omega
      have v1 : IntKind.i64.wrap ((i : Int) + 1) = (i : Int) + 1 := by rw [IntKind.wrap_i64]; omega
      obtain ⟨g, rfl, hci⟩ := HCL.out i hiS
      obtain ⟨hn, hk⟩ := (HH.out.k 3 (by decide)).marks i hiS
      generalize (L 3)[i] = z at hci hn hk
      obtain ⟨p, n, cap⟩ := z
      have hci2 : wr.cell? ⟨g, i, none⟩ = some (.slice p n cap) := hci
      have HK := Vx.hid hk
      have q0 : Int.tdiv (i : Int) 2 = ((i / 2 : Nat) : Int) := by rw [Int.tdiv_eq_ediv_of_nonneg (by omega)]; omega
      have q0' : (i : Int) / 2 = ((i / 2 : Nat) : Int) := by omega
      have q1 : IntKind.i64.wrap ((i / 2 : Nat) : Int) = ((i / 2 : Nat) : Int) := by rw [IntKind.wrap_i64]; omega
      have q2 : IntKind.i64.wrap (-77 - ((i / 2 : Nat) : Int)) = -77 - ((i / 2 : Nat) : Int) := by rw [IntKind.wrap_i64]; omega
      generalize i / 2 = q at q0 q0' q1 q2 HK
      have hnm : (n : Int) ≤ 3000000 := by have : n ≤ 3000000 := hn; omega
      have HIL : Hid (i + 1 ≤ (L 3).length) := hiS
      clear hk hiS hlt hci hn hi2
      go_wp2_with fail
      go_loopw [4] (fun d wx => ∃ k : Nat, d = .int .i64 (k : Int) ∧ k ≤ n ∧ wx = wr) (fun d _ => n - (intOf d).toNat)
      case atStart => exact ⟨0, rfl, by omega, rfl⟩
      case round =>
        obtain ⟨k, rfl, hk, rfl⟩ := hrel
        by_cases hk2 : k < n
        · have d2 : (k : Int) < (n : Int) := by omega
          have hidk : 0 ≤ (k : Int) ∧ (k : Int) < (n : Int) := by omega
          have v2 : IntKind.i64.wrap ((k : Int) + 1) = (k : Int) + 1 := by rw [IntKind.wrap_i64]; omega
          obtain ⟨g2, cur, hp, _, hbl, hcell⟩ := HK.out (by show 0 < n; omega)
          have hp2 : p = some ⟨g2, 0, none⟩ := hp
          subst hp2
          have hcell2 : wr.cell? ⟨g2, k * 2 + 1, none⟩ = some (.int .i64 (-77 - (q : Int))) := (cell_of_row _ _ (k * 2 + 1) _ _ (0, 0) hbl).trans (hcell k hk2)
          clear hcell hk2 hbl hp
          go_wp2_with fail
          go_roundw
          case rel => exact ⟨k + 1, by go_num, by omega, trivial⟩
          case measure => simp only [intOf]; omega
        · have d2 : ¬ (k : Int) < (n : Int) := by omega
          clear hk2
          go_wp2_with fail
          go_roundw
          case rel => exact ⟨i + 1, by go_num, HIL.out, trivial⟩
          case measure => have h9 := HIL.out; simp only [intOf]; omega
    · have d1 : ¬ (i : Int) < (Ln : Int) := by omega
      clear hlt
      go_wp2_with fail
      clear hd
      go_loopw [5] (fun d wx => ∃ i : Nat, d = .int .i64 (i : Int) ∧ i ≤ (L 4).length ∧ wx = wr) (fun d _ => (L 4).length - (intOf d).toNat)
      case atStart => exact ⟨0, rfl, by omega, rfl⟩
      case round =>
        obtain ⟨i, rfl, hi, rfl⟩ := hrel
        obtain ⟨pv, cv, hv, hcells⟩ := (HH.out.k 4 (by decide)).at
        have hd : wr.cell? ⟨bb, o + 4, none⟩ = some (V 4) := HH.out.cell (j := 4) (by decide)
        obtain ⟨Ln, hL⟩ : ∃ Ln, Ln = (L 4).length := ⟨_, rfl⟩
        rw [hv, ← hL] at hd
        have hlm : (Ln : Int) ≤ 1000000 := by have := HL.out 4 (by decide); omega
        have HLn := Vx.hid hL
        have HCL := Vx.hid hcells
        have hi2 : i ≤ Ln := by omega
        clear hcells hv hi hL
        by_cases hlt : i < Ln
        · have d1 : (i : Int) < (Ln : Int) := by omega
          have hidx : 0 ≤ (i : Int) ∧ (i : Int) < (Ln : Int) := by omega
          have hiS : i < (L 4).length := by have := HLn.out; omega
          have v1 : IntKind.i64.wrap ((i : Int) + 1) = (i : Int) + 1 := by rw [IntKind.wrap_i64]; omega
          obtain ⟨g, rfl, hci⟩ := HCL.out i hiS
          obtain ⟨hn, hk⟩ := (HH.out.k 4 (by decide)).marks i hiS
          generalize (L 4)[i] = z at hci hn hk
          obtain ⟨p, n, cap⟩ := z
          have hci2 : wr.cell? ⟨g, i, none⟩ = some (.slice p n cap) := hci
          have HK := Vx.hid hk
          have q0 : Int.tdiv (i : Int) 2 = ((i / 2 : Nat) : Int) := by rw [Int.tdiv_eq_ediv_of_nonneg (by omega)]; omega
          have q0' : (i : Int) / 2 = ((i / 2 : Nat) : Int) := by omega
          have q1 : IntKind.i64.wrap ((i / 2 : Nat) : Int) = ((i / 2 : Nat) : Int) := by rw [IntKind.wrap_i64]; omega
          have q2 : IntKind.i64.wrap (-77 - ((i / 2 : Nat) : Int)) = -77 - ((i / 2 : Nat) : Int) := by rw [IntKind.wrap_i64]; omega
          generalize i / 2 = q at q0 q0' q1 q2 HK
          have hnm : (n : Int) ≤ 3000000 := by have : n ≤ 3000000 := hn; omega
          have HIL : Hid (i + 1 ≤ (L 4).length) := hiS
          clear hk hiS hlt hci hn hi2
          go_wp2_with fail
          go_loopw [6] (fun d wx => ∃ k : Nat, d = .int .i64 (k : Int) ∧ k ≤ n ∧ wx = wr) (fun d _ => n - (intOf d).toNat)
          case atStart => exact ⟨0, rfl, by omega, rfl⟩
          case round =>
            obtain ⟨k, rfl, hk, rfl⟩ := hrel
            by_cases hk2 : k < n
            · have d2 : (k : Int) < (n : Int) := by omega
              have hidk : 0 ≤ (k : Int) ∧ (k : Int) < (n : Int) := by omega
              have v2 : IntKind.i64.wrap ((k : Int) + 1) = (k : Int) + 1 := by rw [IntKind.wrap_i64]; omega
              obtain ⟨g2, cur, hp, _, hbl, hcell⟩ := HK.out (by show 0 < n; omega)
              have hp2 : p = some ⟨g2, 0, none⟩ := hp
              subst hp2
              have hcell2 : wr.cell? ⟨g2, k * 12, none⟩ = some (.int .i64 (-77 - (q : Int))) := (cell_of_row _ _ (k * 12) _ _ (0, 0) hbl).trans (hcell k hk2)
              clear hcell hk2 hbl hp
              go_wp2_with fail
              go_roundw
              case rel => exact ⟨k + 1, by go_num, by omega, trivial⟩
              case measure => simp only [intOf]; omega
            · have d2 : ¬ (k : Int) < (n : Int) := by omega
              clear hk2
              go_wp2_with fail
              go_roundw
              case rel => exact ⟨i + 1, by go_num, HIL.out, trivial⟩
              case measure => have h9 := HIL.out; simp only [intOf]; omega
        · have d1 : ¬ (i : Int) < (Ln : Int) := by omega
          clear hlt
          go_wp2_with fail
          clear hd
          go_loopw [7] (fun d wx => ∃ i : Nat, d = .int .i64 (i : Int) ∧ i ≤ (L 5).length ∧ wx = wr) (fun d _ => (L 5).length - (intOf d).toNat)
          case atStart => exact ⟨0, rfl, by omega, rfl⟩
          case round =>
            obtain ⟨i, rfl, hi, rfl⟩ := hrel
            obtain ⟨pv, cv, hv, hcells⟩ := (HH.out.k 5 (by decide)).at
            have hd : wr.cell? ⟨bb, o + 5, none⟩ = some (V 5) := HH.out.cell (j := 5) (by decide)
            obtain ⟨Ln, hL⟩ : ∃ Ln, Ln = (L 5).length := ⟨_, rfl⟩
            rw [hv, ← hL] at hd
            have hlm : (Ln : Int) ≤ 1000000 := by have := HL.out 5 (by decide); omega
            have HLn := Vx.hid hL
            have HCL := Vx.hid hcells
            have hi2 : i ≤ Ln := by omega
            clear hcells hv hi hL
            by_cases hlt : i < Ln
            · have d1 : (i : Int) < (Ln : Int) := by omega
              have hidx : 0 ≤ (i : Int) ∧ (i : Int) < (Ln : Int) := by omega
              have hiS : i < (L 5).length := by have := HLn.out; omega
              have v1 : IntKind.i64.wrap ((i : Int) + 1) = (i : Int) + 1 := by rw [IntKind.wrap_i64]; omega
              obtain ⟨g, rfl, hci⟩ := HCL.out i hiS
              obtain ⟨hn, hk⟩ := (HH.out.k 5 (by decide)).marks i hiS
              generalize (L 5)[i] = z at hci hn hk
              obtain ⟨p, n, cap⟩ := z
              have hci2 : wr.cell? ⟨g, i, none⟩ = some (.slice p n cap) := hci
              have HK := Vx.hid hk
              have q0 : Int.tdiv (i : Int) 2 = ((i / 2 : Nat) : Int) := by rw [Int.tdiv_eq_ediv_of_nonneg (by omega)]; omega
              have q0' : (i : Int) / 2 = ((i / 2 : Nat) : Int) := by omega
              have q1 : IntKind.i64.wrap ((i / 2 : Nat) : Int) = ((i / 2 : Nat) : Int) := by rw [IntKind.wrap_i64]; omega
              have q2 : IntKind.i64.wrap (-77 - ((i / 2 : Nat) : Int)) = -77 - ((i / 2 : Nat) : Int) := by rw [IntKind.wrap_i64]; omega
              generalize i / 2 = q at q0 q0' q1 q2 HK
              have hnm : (n : Int) ≤ 3000000 := by have : n ≤ 3000000 := hn; omega
              have HIL : Hid (i + 1 ≤ (L 5).length) := hiS
              clear hk hiS hlt hci hn hi2
              go_wp2_with fail
              go_loopw [8] (fun d wx => ∃ k : Nat, d = .int .i64 (k : Int) ∧ k ≤ n ∧ wx = wr) (fun d _ => n - (intOf d).toNat)
              case atStart => exact ⟨0, rfl, by omega, rfl⟩
              case round =>
                obtain ⟨k, rfl, hk, rfl⟩ := hrel
                by_cases hk2 : k < n
                · have d2 : (k : Int) < (n : Int) := by omega
                  have hidk : 0 ≤ (k : Int) ∧ (k : Int) < (n : Int) := by omega
                  have v2 : IntKind.i64.wrap ((k : Int) + 1) = (k : Int) + 1 := by rw [IntKind.wrap_i64]; omega
                  obtain ⟨g2, cur, hp, _, hbl, hcell⟩ := HK.out (by show 0 < n; omega)
                  have hp2 : p = some ⟨g2, 0, none⟩ := hp
                  subst hp2
                  have hcell2 : wr.cell? ⟨g2, k * 41, none⟩ = some (.int .i64 (-77 - (q : Int))) := (cell_of_row _ _ (k * 41) _ _ (0, 0) hbl).trans (hcell k hk2)
                  clear hcell hk2 hbl hp
                  go_wp2_with fail
                  go_roundw
                  case rel => exact ⟨k + 1, by go_num, by omega, trivial⟩
                  case measure => simp only [intOf]; omega
                · have d2 : ¬ (k : Int) < (n : Int) := by omega
                  clear hk2
                  go_wp2_with fail
                  go_roundw
                  case rel => exact ⟨i + 1, by go_num, HIL.out, trivial⟩
                  case measure => have h9 := HIL.out; simp only [intOf]; omega
            · have d1 : ¬ (i : Int) < (Ln : Int) := by omega
              clear hlt
              go_wp2_with fail
              clear hd
              all_goals
                go_ret
                exact ⟨rfl, rfl⟩
set_option maxRecDepth 100000 in
set_option maxHeartbeats 4000000 in
theorem reads_okQ (h : Bk6 B w bb o T cs V L) (hl : ∀ j, j < 6 → (L j).length ≤ 1000000) :
    Calls Try.prog 10 #[.pointer (some ⟨bb, o, none⟩)] w fun e w' => e = .returned (.bool true) ∧ w' = w := by
  have HM := Vx.hid (readsMore_okQ h hl)
  have HH := Vx.hid h
  have HL := Vx.hid hl
  clear h hl
  go_enter Try.func10, Try.ntmps10
  go_wp2_with fail
  go_loopw [3] (fun d wx => ∃ i : Nat, d = .int .i64 (i : Int) ∧ i ≤ (L 0).length ∧ wx = w) (fun d _ => (L 0).length - (intOf d).toNat)
  case atStart => exact ⟨0, rfl, by omega, rfl⟩
  case round =>
    obtain ⟨i, rfl, hi, rfl⟩ := hrel
    obtain ⟨pv, cv, hv, hcells⟩ := (HH.out.k 0 (by decide)).at
    have hd : wr.cell? ⟨bb, o, none⟩ = some (V 0) := HH.out.cell (j := 0) (by decide)
    obtain ⟨Ln, hL⟩ : ∃ Ln, Ln = (L 0).length := ⟨_, rfl⟩
    rw [hv, ← hL] at hd
    have hlm : (Ln : Int) ≤ 1000000 := by have := HL.out 0 (by decide); omega
    have HLn := Vx.hid hL
    have HCL := Vx.hid hcells
    have hi2 : i ≤ Ln := by omega
    clear hcells hv hi hL
    by_cases hlt : i < Ln
    · have d1 : (i : Int) < (Ln : Int) := by omega
      have hidx : 0 ≤ (i : Int) ∧ (i : Int) < (Ln : Int) := by omega
      have hiS : i < (L 0).length := by have := HLn.out; omega
      have v1 : IntKind.i64.wrap ((i : Int) + 1) = (i : Int) + 1 := by rw [IntKind.wrap_i64]; omega
      obtain ⟨g, rfl, hci⟩ := HCL.out i hiS
      obtain ⟨hn, hk⟩ := (HH.out.k 0 (by decide)).marks i hiS
      generalize (L 0)[i] = z at hci hn hk
      obtain ⟨p, n, cap⟩ := z
      have hci2 : wr.cell? ⟨g, i, none⟩ = some (.slice p n cap) := hci
      have HK := Vx.hid hk
      have q0 : Int.tdiv (i : Int) 2 = ((i / 2 : Nat) : Int) := by rw [Int.tdiv_eq_ediv_of_nonneg (by omega)]; omega
      have q0' : (i : Int) / 2 = ((i / 2 : Nat) : Int) := by omega
      have q1 : IntKind.i64.wrap ((i / 2 : Nat) : Int) = ((i / 2 : Nat) : Int) := by rw [IntKind.wrap_i64]; omega
      have q2 : IntKind.i64.wrap (-77 - ((i / 2 : Nat) : Int)) = -77 - ((i / 2 : Nat) : Int) := by rw [IntKind.wrap_i64]; omega
      generalize i / 2 = q at q0 q0' q1 q2 HK
      have hnm : (n : Int) ≤ 3000000 := by have : n ≤ 3000000 := hn; omega
      have HIL : Hid (i + 1 ≤ (L 0).length) := hiS
      clear hk hiS hlt hci hn hi2
      go_wp2_with fail
      go_loopw [4] (fun d wx => ∃ k : Nat, d = .int .i64 (k : Int) ∧ k ≤ n ∧ wx = wr) (fun d _ => n - (intOf d).toNat)
      case atStart => exact ⟨0, rfl, by omega, rfl⟩
      case round =>
        obtain ⟨k, rfl, hk, rfl⟩ := hrel
        by_cases hk2 : k < n
        · have d2 : (k : Int) < (n : Int) := by omega
          have hidk : 0 ≤ (k : Int) ∧ (k : Int) < (n : Int) := by omega
          have v2 : IntKind.i64.wrap ((k : Int) + 1) = (k : Int) + 1 := by rw [IntKind.wrap_i64]; omega
          obtain ⟨g2, cur, hp, _, hbl, hcell⟩ := HK.out (by show 0 < n; omega)
          have hp2 : p = some ⟨g2, 0, none⟩ := hp
          subst hp2
          have hcell2 : wr.cell? ⟨g2, k, none⟩ = some (.int .i64 (-77 - (q : Int))) := by have h9 := hcell k hk2; rw [show k * bkS 0 + bkM 0 = k from Nat.mul_one k] at h9; exact (cell_of_row _ _ k _ _ (0, 0) hbl).trans h9
          clear hcell hk2 hbl hp
          go_wp2_with fail
          go_roundw
          case rel => exact ⟨k + 1, by go_num, by omega, trivial⟩
          case measure => simp only [intOf]; omega
        · have d2 : ¬ (k : Int) < (n : Int) := by omega
          clear hk2
          go_wp2_with fail
          go_roundw
          case rel => exact ⟨i + 1, by go_num, HIL.out, trivial⟩
          case measure => have h9 := HIL.out; simp only [intOf]; omega
    · have d1 : ¬ (i : Int) < (Ln : Int) := by omega
      clear hlt
      go_wp2_with fail
      clear hd
      go_loopw [5] (fun d wx => ∃ i : Nat, d = .int .i64 (i : Int) ∧ i ≤ (L 1).length ∧ wx = wr) (fun d _ => (L 1).length - (intOf d).toNat)
      case atStart => exact ⟨0, rfl, by omega, rfl⟩
      case round =>
        obtain ⟨i, rfl, hi, rfl⟩ := hrel
        obtain ⟨pv, cv, hv, hcells⟩ := (HH.out.k 1 (by decide)).at
        have hd : wr.cell? ⟨bb, o + 1, none⟩ = some (V 1) := HH.out.cell (j := 1) (by decide)
        obtain ⟨Ln, hL⟩ : ∃ Ln, Ln = (L 1).length := ⟨_, rfl⟩
        rw [hv, ← hL] at hd
        have hlm : (Ln : Int) ≤ 1000000 := by have := HL.out 1 (by decide); omega
        have HLn := Vx.hid hL
        have HCL := Vx.hid hcells
        have hi2 : i ≤ Ln := by omega
        clear hcells hv hi hL
        by_cases hlt : i < Ln
        · have d1 : (i : Int) < (Ln : Int) := by omega
          have hidx : 0 ≤ (i : Int) ∧ (i : Int) < (Ln : Int) := by omega
          have hiS : i < (L 1).length := by have := HLn.out; omega
          have v1 : IntKind.i64.wrap ((i : Int) + 1) = (i : Int) + 1 := by rw [IntKind.wrap_i64]; omega
          obtain ⟨g, rfl, hci⟩ := HCL.out i hiS
          obtain ⟨hn, hk⟩ := (HH.out.k 1 (by decide)).marks i hiS
          generalize (L 1)[i] = z at hci hn hk
          obtain ⟨p, n, cap⟩ := z
          have hci2 : wr.cell? ⟨g, i, none⟩ = some (.slice p n cap) := hci
          have HK := Vx.hid hk
          have q0 : Int.tdiv (i : Int) 2 = ((i / 2 : Nat) : Int) := by rw [Int.tdiv_eq_ediv_of_nonneg (by omega)]; omega
          have q0' : (i : Int) / 2 = ((i / 2 : Nat) : Int) := by omega
          have q1 : IntKind.i64.wrap ((i / 2 : Nat) : Int) = ((i / 2 : Nat) : Int) := by rw [IntKind.wrap_i64]; omega
          have q2 : IntKind.i64.wrap (-77 - ((i / 2 : Nat) : Int)) = -77 - ((i / 2 : Nat) : Int) := by rw [IntKind.wrap_i64]; omega
          generalize i / 2 = q at q0 q0' q1 q2 HK
          have hnm : (n : Int) ≤ 3000000 := by have : n ≤ 3000000 := hn; omega
          have HIL : Hid (i + 1 ≤ (L 1).length) := hiS
          clear hk hiS hlt hci hn hi2
          go_wp2_with fail
          go_loopw [6] (fun d wx => ∃ k : Nat, d = .int .i64 (k : Int) ∧ k ≤ n ∧ wx = wr) (fun d _ => n - (intOf d).toNat)
          case atStart => exact ⟨0, rfl, by omega, rfl⟩
          case round =>
            obtain ⟨k, rfl, hk, rfl⟩ := hrel
            by_cases hk2 : k < n
            · have d2 : (k : Int) < (n : Int) := by omega
              have hidk : 0 ≤ (k : Int) ∧ (k : Int) < (n : Int) := by omega
              have v2 : IntKind.i64.wrap ((k : Int) + 1) = (k : Int) + 1 := by rw [IntKind.wrap_i64]; omega
              obtain ⟨g2, cur, hp, _, hbl, hcell⟩ := HK.out (by show 0 < n; omega)
              have hp2 : p = some ⟨g2, 0, none⟩ := hp
              subst hp2
              have hcell2 : wr.cell? ⟨g2, k * 2, none⟩ = some (.int .i64 (-77 - (q : Int))) := (cell_of_row _ _ (k * 2) _ _ (0, 0) hbl).trans (hcell k hk2)
              clear hcell hk2 hbl hp
              go_wp2_with fail
              go_roundw
              case rel => exact ⟨k + 1, by go_num, by omega, trivial⟩
              case measure => simp only [intOf]; omega
            · have d2 : ¬ (k : Int) < (n : Int) := by omega
              clear hk2
              go_wp2_with fail
              go_roundw
              case rel => exact ⟨i + 1, by go_num, HIL.out, trivial⟩
              case measure => have h9 := HIL.out; simp only [intOf]; omega
        · have d1 : ¬ (i : Int) < (Ln : Int) := by omega
          clear hlt
          go_wp2_with fail
          clear hd
          go_loopw [7] (fun d wx => ∃ i : Nat, d = .int .i64 (i : Int) ∧ i ≤ (L 2).length ∧ wx = wr) (fun d _ => (L 2).length - (intOf d).toNat)
          case atStart => exact ⟨0, rfl, by omega, rfl⟩
          case round =>
            obtain ⟨i, rfl, hi, rfl⟩ := hrel
            obtain ⟨pv, cv, hv, hcells⟩ := (HH.out.k 2 (by decide)).at
            have hd : wr.cell? ⟨bb, o + 2, none⟩ = some (V 2) := HH.out.cell (j := 2) (by decide)
            obtain ⟨Ln, hL⟩ : ∃ Ln, Ln = (L 2).length := ⟨_, rfl⟩
            rw [hv, ← hL] at hd
            have hlm : (Ln : Int) ≤ 1000000 := by have := HL.out 2 (by decide); omega
            have HLn := Vx.hid hL
            have HCL := Vx.hid hcells
            have hi2 : i ≤ Ln := by omega
            clear hcells hv hi hL
            by_cases hlt : i < Ln
            · have d1 : (i : Int) < (Ln : Int) := by omega
              have hidx : 0 ≤ (i : Int) ∧ (i : Int) < (Ln : Int) := by omega
              have hiS : i < (L 2).length := by have := HLn.out; omega
              have v1 : IntKind.i64.wrap ((i : Int) + 1) = (i : Int) + 1 := by rw [IntKind.wrap_i64]; omega
              obtain ⟨g, rfl, hci⟩ := HCL.out i hiS
              obtain ⟨hn, hk⟩ := (HH.out.k 2 (by decide)).marks i hiS
              generalize (L 2)[i] = z at hci hn hk
              obtain ⟨p, n, cap⟩ := z
              have hci2 : wr.cell? ⟨g, i, none⟩ = some (.slice p n cap) := hci
              have HK := Vx.hid hk
              have q0 : Int.tdiv (i : Int) 2 = ((i / 2 : Nat) : Int) := by rw [Int.tdiv_eq_ediv_of_nonneg (by omega)]; omega
              have q0' : (i : Int) / 2 = ((i / 2 : Nat) : Int) := by omega
              have q1 : IntKind.i64.wrap ((i / 2 : Nat) : Int) = ((i / 2 : Nat) : Int) := by rw [IntKind.wrap_i64]; omega
              have q2 : IntKind.i64.wrap (-77 - ((i / 2 : Nat) : Int)) = -77 - ((i / 2 : Nat) : Int) := by rw [IntKind.wrap_i64]; omega
              generalize i / 2 = q at q0 q0' q1 q2 HK
              have hnm : (n : Int) ≤ 3000000 := by have : n ≤ 3000000 := hn; omega
              have HIL : Hid (i + 1 ≤ (L 2).length) := hiS
              clear hk hiS hlt hci hn hi2
              go_wp2_with fail
              go_loopw [8] (fun d wx => ∃ k : Nat, d = .int .i64 (k : Int) ∧ k ≤ n ∧ wx = wr) (fun d _ => n - (intOf d).toNat)
              case atStart => exact ⟨0, rfl, by omega, rfl⟩
              case round =>
                obtain ⟨k, rfl, hk, rfl⟩ := hrel
                by_cases hk2 : k < n
                · have d2 : (k : Int) < (n : Int) := by omega
                  have hidk : 0 ≤ (k : Int) ∧ (k : Int) < (n : Int) := by omega
                  have v2 : IntKind.i64.wrap ((k : Int) + 1) = (k : Int) + 1 := by rw [IntKind.wrap_i64]; omega
                  obtain ⟨g2, cur, hp, _, hbl, hcell⟩ := HK.out (by show 0 < n; omega)
                  have hp2 : p = some ⟨g2, 0, none⟩ := hp
                  subst hp2
                  have hcell2 : wr.cell? ⟨g2, k * 3 + 1, none⟩ = some (.int .i64 (-77 - (q : Int))) := (cell_of_row _ _ (k * 3 + 1) _ _ (0, 0) hbl).trans (hcell k hk2)
                  clear hcell hk2 hbl hp
                  go_wp2_with fail
                  go_roundw
                  case rel => exact ⟨k + 1, by go_num, by omega, trivial⟩
                  case measure => simp only [intOf]; omega
                · have d2 : ¬ (k : Int) < (n : Int) := by omega
                  clear hk2
                  go_wp2_with fail
                  go_roundw
                  case rel => exact ⟨i + 1, by go_num, HIL.out, trivial⟩
                  case measure => have h9 := HIL.out; simp only [intOf]; omega
            · have d1 : ¬ (i : Int) < (Ln : Int) := by omega
              clear hlt
              go_wp2_with fail
              clear hd
              refine HM.out.mono ?_
              rintro e w' ⟨rfl, h⟩
              have h2 := h.symm; clear h; subst h2
              go_wp2_with fail
              all_goals
                go_ret
                exact ⟨rfl, rfl⟩
end Go.Proofs.Ytdpgdjpphnbfnaa

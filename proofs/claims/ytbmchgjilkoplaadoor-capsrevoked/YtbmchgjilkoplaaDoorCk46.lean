import Derived.Test.YtbmchgjilkoplaaDoorCk16
import Derived.Test.YtbmchgjilkoplaaDoorCk7
/- Chapter 7, the law: two lists that are the same are told so. -/
namespace Go.Proofs.YtbmchgjilkoplaaDoor
open Go.ChangeShapes Go.WideShapes Go.ChangeAt Go.RowKit
open Go.Vx
set_option linter.unusedVariables false

set_option maxRecDepth 100000 in
set_option maxHeartbeats 2000000 in
theorem sameSlots_ok {w : World} {v1 v2 : Value} {xs : List Sl} (h1 : LieL slL w v1 xs) (h2 : LieL slL w v2 xs) : Calls Tryd.prog 40 #[v1, v2] w fun e w' => e = .returned (.bool true) ∧ Only (fun _ => False) w w' := by
  obtain ⟨p1, c1, rfl, hn, q1⟩ := h1
  obtain ⟨p2, c2, rfl, _, q2⟩ := h2
  have HQ := Vx.hid (⟨q1, q2⟩ : _ ∧ _)
  obtain ⟨N, hN⟩ : ∃ N, N = xs.length := ⟨_, rfl⟩
  have HN := Vx.hid hN
  rw [← hN] at hn ⊢
  clear q1 q2 hN
  go_enter Tryd.func40, Tryd.ntmps40
  go_wp2_with fail
  go_loopw [5] (fun d wr => ∃ k j : Nat, d = .int .i64 (k : Int) ∧ k ≤ N ∧ wr = w.drewN j) (fun d _ => N - (intOf d).toNat)
  case atStart => exact ⟨0, 0, rfl, by omega, rfl⟩
  case round =>
    obtain ⟨k, jj, rfl, hk, rfl⟩ := hrel
    by_cases hlt : k < N
    · have hkl : k < xs.length := by have := HN.out; omega
      have h1 : (k : Int) < (N : Int) := by omega
      have hidk : 0 ≤ (k : Int) ∧ (k : Int) < (N : Int) := by omega
      have hwk : IntKind.i64.wrap ((k : Int) + 1) = (k : Int) + 1 := by rw [IntKind.wrap_i64]; omega
      obtain ⟨g1, rfl, ha⟩ := HQ.out.1 k hkl
      obtain ⟨g2, rfl, hb⟩ := HQ.out.2 k hkl
      generalize xs[k] = z at ha hb
      obtain ⟨z0, z1⟩ := z
      have a0 := ha 0 (by decide)
      have b0 := hb 0 (by decide)
      have a1 := ha 1 (by decide)
      have b1 := hb 1 (by decide)
      replace a0 : w.cell? ⟨g1, k * 2, none⟩ = some (.int .i64 z0) := a0
      replace b0 : w.cell? ⟨g2, k * 2, none⟩ = some (.int .i64 z0) := b0
      replace a1 : w.cell? ⟨g1, k * 2 + 1, none⟩ = some (.int .i64 z1) := a1
      replace b1 : w.cell? ⟨g2, k * 2 + 1, none⟩ = some (.int .i64 z1) := b1
      clear ha hb hlt
      go_wp2_with fail
      go_quiet (fail)
      go_wp2_with fail
      go_roundw
      case rel => exact ⟨k + 1, _, by go_num, by omega, rfl⟩
      case measure => simp only [intOf]; omega
    · obtain rfl : k = N := by omega
      have h1 : ¬ (k : Int) < (k : Int) := by omega
      clear hlt
      go_wp2_with fail
      all_goals
        go_ret
        exact ⟨rfl, (Only.refl _ _).drewN _⟩
set_option maxRecDepth 100000 in
set_option maxHeartbeats 2000000 in
theorem sameEntries_ok {w : World} {v1 v2 : Value} {xs : List En} (h1 : LieL enL w v1 xs) (h2 : LieL enL w v2 xs) : Calls Tryd.prog 45 #[v1, v2] w fun e w' => e = .returned (.bool true) ∧ Only (fun _ => False) w w' := by
  obtain ⟨p1, c1, rfl, hn, q1⟩ := h1
  obtain ⟨p2, c2, rfl, _, q2⟩ := h2
  have HQ := Vx.hid (⟨q1, q2⟩ : _ ∧ _)
  obtain ⟨N, hN⟩ : ∃ N, N = xs.length := ⟨_, rfl⟩
  have HN := Vx.hid hN
  rw [← hN] at hn ⊢
  clear q1 q2 hN
  go_enter Tryd.func45, Tryd.ntmps45
  go_wp2_with fail
  go_loopw [5] (fun d wr => ∃ k j : Nat, d = .int .i64 (k : Int) ∧ k ≤ N ∧ wr = w.drewN j) (fun d _ => N - (intOf d).toNat)
  case atStart => exact ⟨0, 0, rfl, by omega, rfl⟩
  case round =>
    obtain ⟨k, jj, rfl, hk, rfl⟩ := hrel
    by_cases hlt : k < N
    · have hkl : k < xs.length := by have := HN.out; omega
      have h1 : (k : Int) < (N : Int) := by omega
      have hidk : 0 ≤ (k : Int) ∧ (k : Int) < (N : Int) := by omega
      have hwk : IntKind.i64.wrap ((k : Int) + 1) = (k : Int) + 1 := by rw [IntKind.wrap_i64]; omega
      obtain ⟨g1, rfl, ha⟩ := HQ.out.1 k hkl
      obtain ⟨g2, rfl, hb⟩ := HQ.out.2 k hkl
      generalize xs[k] = z at ha hb
      obtain ⟨⟨z0, z1⟩, ⟨z2, z3, z4, z5, z6, z7, z8, z9⟩, ⟨z10, z11⟩⟩ := z
      have a0 := ha 0 (by decide)
      have b0 := hb 0 (by decide)
      have a1 := ha 1 (by decide)
      have b1 := hb 1 (by decide)
      have a2 := ha 2 (by decide)
      have b2 := hb 2 (by decide)
      have a3 := ha 3 (by decide)
      have b3 := hb 3 (by decide)
      have a4 := ha 4 (by decide)
      have b4 := hb 4 (by decide)
      have a5 := ha 5 (by decide)
      have b5 := hb 5 (by decide)
      have a6 := ha 6 (by decide)
      have b6 := hb 6 (by decide)
      have a7 := ha 7 (by decide)
      have b7 := hb 7 (by decide)
      have a8 := ha 8 (by decide)
      have b8 := hb 8 (by decide)
      have a9 := ha 9 (by decide)
      have b9 := hb 9 (by decide)
      have a10 := ha 10 (by decide)
      have b10 := hb 10 (by decide)
      have a11 := ha 11 (by decide)
      have b11 := hb 11 (by decide)
      replace a0 : w.cell? ⟨g1, k * 12, none⟩ = some (.int .i64 z0) := a0
      replace b0 : w.cell? ⟨g2, k * 12, none⟩ = some (.int .i64 z0) := b0
      replace a1 : w.cell? ⟨g1, k * 12 + 1, none⟩ = some (.int .i64 z1) := a1
      replace b1 : w.cell? ⟨g2, k * 12 + 1, none⟩ = some (.int .i64 z1) := b1
      replace a2 : w.cell? ⟨g1, k * 12 + 2, none⟩ = some (.int .i64 z2) := a2
      replace b2 : w.cell? ⟨g2, k * 12 + 2, none⟩ = some (.int .i64 z2) := b2
      replace a3 : w.cell? ⟨g1, k * 12 + 3, none⟩ = some (.int .i64 z3) := a3
      replace b3 : w.cell? ⟨g2, k * 12 + 3, none⟩ = some (.int .i64 z3) := b3
      replace a4 : w.cell? ⟨g1, k * 12 + 4, none⟩ = some (.int .i64 z4) := a4
      replace b4 : w.cell? ⟨g2, k * 12 + 4, none⟩ = some (.int .i64 z4) := b4
      replace a5 : w.cell? ⟨g1, k * 12 + 5, none⟩ = some (.int .u32 z5) := a5
      replace b5 : w.cell? ⟨g2, k * 12 + 5, none⟩ = some (.int .u32 z5) := b5
      replace a6 : w.cell? ⟨g1, k * 12 + 6, none⟩ = some (.int .u32 z6) := a6
      replace b6 : w.cell? ⟨g2, k * 12 + 6, none⟩ = some (.int .u32 z6) := b6
      replace a7 : w.cell? ⟨g1, k * 12 + 7, none⟩ = some (.int .i64 z7) := a7
      replace b7 : w.cell? ⟨g2, k * 12 + 7, none⟩ = some (.int .i64 z7) := b7
      replace a8 : w.cell? ⟨g1, k * 12 + 8, none⟩ = some (.int .i64 z8) := a8
      replace b8 : w.cell? ⟨g2, k * 12 + 8, none⟩ = some (.int .i64 z8) := b8
      replace a9 : w.cell? ⟨g1, k * 12 + 9, none⟩ = some (.int .u32 z9) := a9
      replace b9 : w.cell? ⟨g2, k * 12 + 9, none⟩ = some (.int .u32 z9) := b9
      replace a10 : w.cell? ⟨g1, k * 12 + 10, none⟩ = some (.int .i64 z10) := a10
      replace b10 : w.cell? ⟨g2, k * 12 + 10, none⟩ = some (.int .i64 z10) := b10
      replace a11 : w.cell? ⟨g1, k * 12 + 11, none⟩ = some (.int .i64 z11) := a11
      replace b11 : w.cell? ⟨g2, k * 12 + 11, none⟩ = some (.int .i64 z11) := b11
      clear ha hb hlt
      go_wp2_with fail
      go_quiet (fail)
      go_wp2_with fail
      go_roundw
      case rel => exact ⟨k + 1, _, by go_num, by omega, rfl⟩
      case measure => simp only [intOf]; omega
    · obtain rfl : k = N := by omega
      have h1 : ¬ (k : Int) < (k : Int) := by omega
      clear hlt
      go_wp2_with fail
      all_goals
        go_ret
        exact ⟨rfl, (Only.refl _ _).drewN _⟩
end Go.Proofs.YtbmchgjilkoplaaDoor

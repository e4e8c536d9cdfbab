/- The document's Walk: no root; no use. -/
import Derived.Test.YtflmobffeeocdaaGreatDoorX0
namespace Go.Proofs.YtflmobffeeocdaaGreatDoor
open Go.ChangeShapes Go.WideShapes Go.ChangeAt Go.RowKit
open Go.Vx

theorem refUse_no (p : Value) (root va use : Int) (h : use < 0 ∨ 2 < use) (w : World) :
    Calls Tryz.prog 38 #[p, .int .i64 root, .int .i64 va, .int .i64 use] w fun x w' => x = .returned (.tuple #[.int .i64 0, .int .i64 2]) ∧ w' = w := by
  by_cases h0 : use < 0
  · have d0 : decide (use < 0) = true := decide_eq_true h0
    clear h
    go_enter Tryz.func38, Tryz.ntmps38
    go_wp2_with fail
    all_goals
      go_ret2
      exact ⟨rfl, rfl⟩
  · have d0 : decide (use < 0) = false := decide_eq_false h0
    have h1 : 2 < use := by omega
    clear h
    go_enter Tryz.func38, Tryz.ntmps38
    go_wp2_with fail
    all_goals
      go_ret2
      exact ⟨rfl, rfl⟩
set_option maxRecDepth 100000 in
set_option maxHeartbeats 2000000 in
theorem refRoot_0 {w : World} {br bb n : Nat} {f : Nat → UInt8} (h : RefAt w br bb n f) (root : Int) (va : Nat) (hva : va < 4294967296) (hno : root < 0 ∨ (n : Int) ≤ root) :
    Calls Tryz.prog 38 #[.pointer (some ⟨br, 0, none⟩), .int .i64 root, .int .i64 (va : Int), .int .i64 0] w fun x w' => x = .returned (.tuple #[.int .i64 0, .int .i64 1]) ∧ Only (fun _ => False) w w' := by
  have hn := h.top
  have HRA : Hid (∀ (a : Int), Calls Tryz.prog 30 #[.pointer (some ⟨br, 0, none⟩), .int .i64 a] w fun e w' => ∃ x rc : Nat, e = .returned (.tuple #[.int .i64 (x : Int), .int .i64 (rc : Int)]) ∧ (rc = 0 ∨ rc = 1) ∧ Only (fun _ => False) w w') := fun a => by
    refine (refWord_any h a).mono ?_
    rintro e w' ⟨rfl, ho⟩
    exact ⟨_, _, rfl, wordR_err f n a, ho⟩
  have q1' : (va : Int) / 4194304 = ((va / 4194304 : Nat) : Int) := rfl
  have q1 : Int.tdiv (va : Int) 4194304 = ((va / 4194304 : Nat) : Int) := rfl
  have hk1 : va / 4194304 < 1024 := by omega
  by_cases hr : root < 0 ∨ 255 < root
  · have hc : root < 0 ∨ (¬ root < 0 ∧ 255 < root) := by omega
    generalize va / 4194304 = k1 at q1 q1'
    clear h hva hn hr hk1 hno
    go_enter Tryz.func38, Tryz.ntmps38
    go_upto_region 14 with fail
    go_wp2_with fail
    refine (HRA.out _).mono ?_
    rintro e w2 ⟨x, rc, rfl, hrc, ho⟩
    have HO := Vx.hid ho
    clear ho
    rcases hrc with rfl | rfl
    · rcases hc with h1 | ⟨h1, h2⟩
      · have d1 : decide (root < 0) = true := decide_eq_true h1
        go_wp2_with fail
        all_goals
          go_ret2
          exact ⟨rfl, HO.out⟩
      · have d1 : decide (root < 0) = false := decide_eq_false (by omega)
        go_wp2_with fail
        all_goals
          go_ret2
          exact ⟨rfl, HO.out⟩
    · go_wp2_with fail
      all_goals
        go_ret2
        exact ⟨rfl, HO.out⟩
  · obtain ⟨r, rfl⟩ : ∃ r : Nat, root = (r : Int) := ⟨root.toNat, by omega⟩
    have hrn : n ≤ r := by omega
    have e3 : 4096 * (r : Int) + ((va / 4194304 : Nat) : Int) * 4 = ((4096 * r + 4 * (va / 4194304) : Nat) : Int) := by omega
    have v1 : wrap64 ((va / 4194304 : Nat) : Int) = ((va / 4194304 : Nat) : Int) := by simp only [wrap64]; omega
    have v2 : wrap64 (((va / 4194304 : Nat) : Int) * 4) = ((va / 4194304 : Nat) : Int) * 4 := by simp only [wrap64]; omega
    have v3 : wrap64 ((4096 * r + 4 * (va / 4194304) : Nat) : Int) = ((4096 * r + 4 * (va / 4194304) : Nat) : Int) := by simp only [wrap64]; omega
    have v4 : wrap64 (4096 * (r : Int)) = 4096 * (r : Int) := by simp only [wrap64]; omega
    have r1 : ¬ (r : Int) < 0 := by omega
    have r2 : ¬ 255 < (r : Int) := by omega
    have dr1 : decide ((r : Int) < 0) = false := decide_eq_false r1
    have HRW := Vx.hid (refWord_any h ((4096 * r + 4 * (va / 4194304) : Nat) : Int))
    rw [wordR_out f n r (va / 4194304) hrn] at HRW
    generalize 4096 * r + 4 * (va / 4194304) = pl at e3 HRW v3
    generalize va / 4194304 = k1 at q1 q1' e3 v1 v2
    clear h hva hn hr hk1 hrn hno HRA
    go_enter Tryz.func38, Tryz.ntmps38
    go_upto_region 14 with fail
    go_wp2_with fail
    refine HRW.out.mono ?_
    rintro e w2 ⟨rfl, ho⟩
    have HO := Vx.hid ho
    clear ho
    go_wp2_with fail
    all_goals
      go_ret2
      exact ⟨rfl, HO.out⟩
set_option maxRecDepth 100000 in
set_option maxHeartbeats 2000000 in
theorem refRoot_1 {w : World} {br bb n : Nat} {f : Nat → UInt8} (h : RefAt w br bb n f) (root : Int) (va : Nat) (hva : va < 4294967296) (hno : root < 0 ∨ (n : Int) ≤ root) :
    Calls Tryz.prog 38 #[.pointer (some ⟨br, 0, none⟩), .int .i64 root, .int .i64 (va : Int), .int .i64 1] w fun x w' => x = .returned (.tuple #[.int .i64 0, .int .i64 5]) ∧ Only (fun _ => False) w w' := by
  have hn := h.top
  have HRA : Hid (∀ (a : Int), Calls Tryz.prog 30 #[.pointer (some ⟨br, 0, none⟩), .int .i64 a] w fun e w' => ∃ x rc : Nat, e = .returned (.tuple #[.int .i64 (x : Int), .int .i64 (rc : Int)]) ∧ (rc = 0 ∨ rc = 1) ∧ Only (fun _ => False) w w') := fun a => by
    refine (refWord_any h a).mono ?_
    rintro e w' ⟨rfl, ho⟩
    exact ⟨_, _, rfl, wordR_err f n a, ho⟩
  have q1' : (va : Int) / 4194304 = ((va / 4194304 : Nat) : Int) := rfl
  have q1 : Int.tdiv (va : Int) 4194304 = ((va / 4194304 : Nat) : Int) := rfl
  have hk1 : va / 4194304 < 1024 := by omega
  by_cases hr : root < 0 ∨ 255 < root
  · have hc : root < 0 ∨ (¬ root < 0 ∧ 255 < root) := by omega
    generalize va / 4194304 = k1 at q1 q1'
    clear h hva hn hr hk1 hno
    go_enter Tryz.func38, Tryz.ntmps38
    go_upto_region 14 with fail
    go_wp2_with fail
    refine (HRA.out _).mono ?_
    rintro e w2 ⟨x, rc, rfl, hrc, ho⟩
    have HO := Vx.hid ho
    clear ho
    rcases hrc with rfl | rfl
    · rcases hc with h1 | ⟨h1, h2⟩
      · have d1 : decide (root < 0) = true := decide_eq_true h1
        go_wp2_with fail
        all_goals
          go_ret2
          exact ⟨rfl, HO.out⟩
      · have d1 : decide (root < 0) = false := decide_eq_false (by omega)
        go_wp2_with fail
        all_goals
          go_ret2
          exact ⟨rfl, HO.out⟩
    · go_wp2_with fail
      all_goals
        go_ret2
        exact ⟨rfl, HO.out⟩
  · obtain ⟨r, rfl⟩ : ∃ r : Nat, root = (r : Int) := ⟨root.toNat, by omega⟩
    have hrn : n ≤ r := by omega
    have e3 : 4096 * (r : Int) + ((va / 4194304 : Nat) : Int) * 4 = ((4096 * r + 4 * (va / 4194304) : Nat) : Int) := by omega
    have v1 : wrap64 ((va / 4194304 : Nat) : Int) = ((va / 4194304 : Nat) : Int) := by simp only [wrap64]; omega
    have v2 : wrap64 (((va / 4194304 : Nat) : Int) * 4) = ((va / 4194304 : Nat) : Int) * 4 := by simp only [wrap64]; omega
    have v3 : wrap64 ((4096 * r + 4 * (va / 4194304) : Nat) : Int) = ((4096 * r + 4 * (va / 4194304) : Nat) : Int) := by simp only [wrap64]; omega
    have v4 : wrap64 (4096 * (r : Int)) = 4096 * (r : Int) := by simp only [wrap64]; omega
    have r1 : ¬ (r : Int) < 0 := by omega
    have r2 : ¬ 255 < (r : Int) := by omega
    have dr1 : decide ((r : Int) < 0) = false := decide_eq_false r1
    have HRW := Vx.hid (refWord_any h ((4096 * r + 4 * (va / 4194304) : Nat) : Int))
    rw [wordR_out f n r (va / 4194304) hrn] at HRW
    generalize 4096 * r + 4 * (va / 4194304) = pl at e3 HRW v3
    generalize va / 4194304 = k1 at q1 q1' e3 v1 v2
    clear h hva hn hr hk1 hrn hno HRA
    go_enter Tryz.func38, Tryz.ntmps38
    go_upto_region 14 with fail
    go_wp2_with fail
    refine HRW.out.mono ?_
    rintro e w2 ⟨rfl, ho⟩
    have HO := Vx.hid ho
    clear ho
    go_wp2_with fail
    all_goals
      go_ret2
      exact ⟨rfl, HO.out⟩
set_option maxRecDepth 100000 in
set_option maxHeartbeats 2000000 in
theorem refRoot_2 {w : World} {br bb n : Nat} {f : Nat → UInt8} (h : RefAt w br bb n f) (root : Int) (va : Nat) (hva : va < 4294967296) (hno : root < 0 ∨ (n : Int) ≤ root) :
    Calls Tryz.prog 38 #[.pointer (some ⟨br, 0, none⟩), .int .i64 root, .int .i64 (va : Int), .int .i64 2] w fun x w' => x = .returned (.tuple #[.int .i64 0, .int .i64 7]) ∧ Only (fun _ => False) w w' := by
  have hn := h.top
  have HRA : Hid (∀ (a : Int), Calls Tryz.prog 30 #[.pointer (some ⟨br, 0, none⟩), .int .i64 a] w fun e w' => ∃ x rc : Nat, e = .returned (.tuple #[.int .i64 (x : Int), .int .i64 (rc : Int)]) ∧ (rc = 0 ∨ rc = 1) ∧ Only (fun _ => False) w w') := fun a => by
    refine (refWord_any h a).mono ?_
    rintro e w' ⟨rfl, ho⟩
    exact ⟨_, _, rfl, wordR_err f n a, ho⟩
  have q1' : (va : Int) / 4194304 = ((va / 4194304 : Nat) : Int) := rfl
  have q1 : Int.tdiv (va : Int) 4194304 = ((va / 4194304 : Nat) : Int) := rfl
  have hk1 : va / 4194304 < 1024 := by omega
  by_cases hr : root < 0 ∨ 255 < root
  · have hc : root < 0 ∨ (¬ root < 0 ∧ 255 < root) := by omega
    generalize va / 4194304 = k1 at q1 q1'
    clear h hva hn hr hk1 hno
    go_enter Tryz.func38, Tryz.ntmps38
    go_upto_region 14 with fail
    go_wp2_with fail
    refine (HRA.out _).mono ?_
    rintro e w2 ⟨x, rc, rfl, hrc, ho⟩
    have HO := Vx.hid ho
    clear ho
    rcases hrc with rfl | rfl
    · rcases hc with h1 | ⟨h1, h2⟩
      · have d1 : decide (root < 0) = true := decide_eq_true h1
        go_wp2_with fail
        all_goals
          go_ret2
          exact ⟨rfl, HO.out⟩
      · have d1 : decide (root < 0) = false := decide_eq_false (by omega)
        go_wp2_with fail
        all_goals
          go_ret2
          exact ⟨rfl, HO.out⟩
    · go_wp2_with fail
      all_goals
        go_ret2
        exact ⟨rfl, HO.out⟩
  · obtain ⟨r, rfl⟩ : ∃ r : Nat, root = (r : Int) := ⟨root.toNat, by omega⟩
    have hrn : n ≤ r := by omega
    have e3 : 4096 * (r : Int) + ((va / 4194304 : Nat) : Int) * 4 = ((4096 * r + 4 * (va / 4194304) : Nat) : Int) := by omega
    have v1 : wrap64 ((va / 4194304 : Nat) : Int) = ((va / 4194304 : Nat) : Int) := by simp only [wrap64]; omega
    have v2 : wrap64 (((va / 4194304 : Nat) : Int) * 4) = ((va / 4194304 : Nat) : Int) * 4 := by simp only [wrap64]; omega
    have v3 : wrap64 ((4096 * r + 4 * (va / 4194304) : Nat) : Int) = ((4096 * r + 4 * (va / 4194304) : Nat) : Int) := by simp only [wrap64]; omega
    have v4 : wrap64 (4096 * (r : Int)) = 4096 * (r : Int) := by simp only [wrap64]; omega
    have r1 : ¬ (r : Int) < 0 := by omega
    have r2 : ¬ 255 < (r : Int) := by omega
    have dr1 : decide ((r : Int) < 0) = false := decide_eq_false r1
    have HRW := Vx.hid (refWord_any h ((4096 * r + 4 * (va / 4194304) : Nat) : Int))
    rw [wordR_out f n r (va / 4194304) hrn] at HRW
    generalize 4096 * r + 4 * (va / 4194304) = pl at e3 HRW v3
    generalize va / 4194304 = k1 at q1 q1' e3 v1 v2
    clear h hva hn hr hk1 hrn hno HRA
    go_enter Tryz.func38, Tryz.ntmps38
    go_upto_region 14 with fail
    go_wp2_with fail
    refine HRW.out.mono ?_
    rintro e w2 ⟨rfl, ho⟩
    have HO := Vx.hid ho
    clear ho
    go_wp2_with fail
    all_goals
      go_ret2
      exact ⟨rfl, HO.out⟩
end Go.Proofs.YtflmobffeeocdaaGreatDoor

import Derived.Test.YtflmobffeeocdaaDoorCa27
/- Walks of package vspace: its small functions. -/
namespace Go.Vx
/-- The places of an address's two entries. -/
def tabP (root va : Nat) : Nat := 4096 * root + va / 4194304 * 4
def frmP (t va : Nat) : Nat := 4096 * t + va / 4096 % 1024 * 4
def mayB (r : Int) : Bool := decide (r = 1) || decide (r = 3) || decide (r = 4) || decide (r = 5) || decide (r = 7)
theorem mayB_cases {r : Int} (h : mayB r = true) : r = 1 ∨ r = 3 ∨ r = 4 ∨ r = 5 ∨ r = 7 := by
  simp [mayB] at h
  omega
/-- Are all these pages there? -/
def allB (n : Nat) (ps : List Int) : Bool := ps.all fun p => decide (0 ≤ p) && decide (p < (n : Int))
end Go.Vx
namespace Go.Proofs.YtflmobffeeocdaaDoor
open Go.ChangeShapes Go.WideShapes Go.ChangeAt Go.RowKit
open Go.Vx

theorem vpage_any (e : Nat) (he : e < 4294967296) (w : World) :
    Calls Tryd.prog 43 #[.int .u32 (e : Int)] w fun x w' => x = .returned (.int .i64 ((e / 1024 : Nat) : Int)) ∧ w' = w := by
  have h1 : (e : Int) / 1024 = ((e / 1024 : Nat) : Int) := by omega
  have hw : IntKind.i64.wrap ((e / 1024 : Nat) : Int) = ((e / 1024 : Nat) : Int) := by rw [IntKind.wrap_i64]; omega
  generalize e / 1024 = p at h1 hw
  have hb : (e : Int) < 4294967296 := by omega
  clear he
  go_enter Tryd.func43, Tryd.ntmps43
  go_wp2
  all_goals
    go_ret
    refine ⟨?_, rfl⟩
    first | rfl | (simp [h1])
theorem entry_any (p b : Nat) (hp : p < 256) (hb : b < 1024) (w : World) :
    Calls Tryd.prog 25 #[.int .i64 (p : Int), .int .u32 (b : Int)] w fun x w' => x = .returned (.int .u32 ((1024 * p + b : Nat) : Int)) ∧ w' = w := by
  have w1 : IntKind.u32.wrap (p : Int) = (p : Int) := by rw [IntKind.wrap_u32]; omega
  have w2 : IntKind.u32.wrap ((p : Int) * 1024) = (p : Int) * 1024 := by rw [IntKind.wrap_u32]; omega
  have hj : bits .or .u32 ((p : Int) * 1024) (b : Int) = ((1024 * p + b : Nat) : Int) := by
    rw [u32_join 10 1024 ((p : Int) * 1024) (b : Int) rfl (by decide) (by omega)]; omega
  generalize 1024 * p + b = r at hj
  clear hp hb
  go_enter Tryd.func25, Tryd.ntmps25
  go_wp2
  all_goals
    go_ret
    exact ⟨rfl, rfl⟩
theorem tableAt_any (root va : Nat) (hr : root < 256) (hv : va < 4294967296) (w : World) :
    Calls Tryd.prog 24 #[.int .i64 (root : Int), .int .u32 (va : Int)] w fun x w' => x = .returned (.int .i64 ((tabP root va : Nat) : Int)) ∧ w' = w := by
  have h1 : (va : Int) / 4194304 = ((va / 4194304 : Nat) : Int) := by omega
  have h2 : Int.tdiv (va : Int) 4194304 = ((va / 4194304 : Nat) : Int) := by rw [Int.tdiv_eq_ediv_of_nonneg (by omega)]; omega
  have hq : va / 4194304 < 1024 := by omega
  have HT : Hid (tabP root va = 4096 * root + va / 4194304 * 4) := rfl
  generalize tabP root va = T at HT
  generalize va / 4194304 = q at h1 h2 hq HT
  have w0 : IntKind.i64.wrap (q : Int) = (q : Int) := by rw [IntKind.wrap_i64]; omega
  have w0' : IntKind.u32.wrap (q : Int) = (q : Int) := by rw [IntKind.wrap_u32]; omega
  have w1 : IntKind.i64.wrap ((root : Int) * 4096) = (root : Int) * 4096 := by rw [IntKind.wrap_i64]; omega
  have w2 : IntKind.i64.wrap ((q : Int) * 4) = (q : Int) * 4 := by rw [IntKind.wrap_i64]; omega
  have w3 : IntKind.i64.wrap ((root : Int) * 4096 + (q : Int) * 4) = (root : Int) * 4096 + (q : Int) * 4 := by rw [IntKind.wrap_i64]; omega
  clear hr hv hq
  go_enter Tryd.func24, Tryd.ntmps24
  go_wp2
  all_goals
    go_ret
    refine ⟨?_, rfl⟩
    rw [HT.out]
    refine ret_val ?_
    exact congrArg (Value.int .i64) (by omega : (root : Int) * 4096 + (q : Int) * 4 = ((4096 * root + q * 4 : Nat) : Int))
theorem frameAt_any (t va : Nat) (hr : t < 256) (hv : va < 4294967296) (w : World) :
    Calls Tryd.prog 28 #[.int .i64 (t : Int), .int .u32 (va : Int)] w fun x w' => x = .returned (.int .i64 ((frmP t va : Nat) : Int)) ∧ w' = w := by
  have h0 : (va : Int) % 4194304 = ((va % 4194304 : Nat) : Int) := by omega
  have h0' : Int.tmod (va : Int) 4194304 = ((va % 4194304 : Nat) : Int) := by rw [Int.tmod_eq_emod_of_nonneg (by omega)]; omega
  have h1 : ((va % 4194304 : Nat) : Int) / 4096 = ((va / 4096 % 1024 : Nat) : Int) := by omega
  have h2 : Int.tdiv ((va % 4194304 : Nat) : Int) 4096 = ((va / 4096 % 1024 : Nat) : Int) := by rw [Int.tdiv_eq_ediv_of_nonneg (by omega)]; omega
  have hq : va / 4096 % 1024 < 1024 := by omega
  have hm : va % 4194304 < 4294967296 := by omega
  have HT : Hid (frmP t va = 4096 * t + va / 4096 % 1024 * 4) := rfl
  generalize frmP t va = T at HT
  generalize va / 4096 % 1024 = q at h1 h2 hq HT
  generalize va % 4194304 = m at h0 h0' h1 h2 hm
  have w0 : IntKind.i64.wrap (q : Int) = (q : Int) := by rw [IntKind.wrap_i64]; omega
  have w0' : IntKind.u32.wrap (q : Int) = (q : Int) := by rw [IntKind.wrap_u32]; omega
  have w00 : IntKind.u32.wrap (m : Int) = (m : Int) := by rw [IntKind.wrap_u32]; omega
  have w1 : IntKind.i64.wrap ((t : Int) * 4096) = (t : Int) * 4096 := by rw [IntKind.wrap_i64]; omega
  have w2 : IntKind.i64.wrap ((q : Int) * 4) = (q : Int) * 4 := by rw [IntKind.wrap_i64]; omega
  have w3 : IntKind.i64.wrap ((t : Int) * 4096 + (q : Int) * 4) = (t : Int) * 4096 + (q : Int) * 4 := by rw [IntKind.wrap_i64]; omega
  clear hr hv hq hm
  go_enter Tryd.func28, Tryd.ntmps28
  go_wp2
  all_goals
    go_ret
    refine ⟨?_, rfl⟩
    rw [HT.out]
    refine ret_val ?_
    exact congrArg (Value.int .i64) (by omega : (t : Int) * 4096 + (q : Int) * 4 = ((4096 * t + q * 4 : Nat) : Int))
theorem mayBe_any (r : Int) (w : World) :
    Calls Tryd.prog 26 #[.int .i64 r] w fun x w' => x = .returned (.bool (mayB r)) ∧ w' = w := by
  by_cases h1 : 0 < r
  · by_cases h7 : r ≤ 7
    · have hc : r = 1 ∨ r = 2 ∨ r = 3 ∨ r = 4 ∨ r = 5 ∨ r = 6 ∨ r = 7 := by omega
      clear h1 h7
      rcases hc with rfl | rfl | rfl | rfl | rfl | rfl | rfl
      all_goals
        go_enter Tryd.func26, Tryd.ntmps26
        go_wp2
        all_goals
          go_ret
          exact ⟨rfl, rfl⟩
    · have HM : Hid (mayB r = false) := by show _ = _; simp [mayB]; omega
      go_enter Tryd.func26, Tryd.ntmps26
      go_wp2
      all_goals
        go_ret
        rw [HM.out]
        exact ⟨rfl, rfl⟩
  · have HM : Hid (mayB r = false) := by show _ = _; simp [mayB]; omega
    go_enter Tryd.func26, Tryd.ntmps26
    go_wp2
    all_goals
      go_ret
      rw [HM.out]
      exact ⟨rfl, rfl⟩
end Go.Proofs.YtflmobffeeocdaaDoor

import Derived.Test.YtflmobffeeocdaaGreatDoorCh9
/- Walks of the document's chapter 6: sign, wrap, takes, bytes, oneIf. -/
namespace Go.Proofs.YtflmobffeeocdaaGreatDoor
open Go.ChangeShapes Go.WideShapes Go.ChangeAt Go.RowKit
open Go.Vx

theorem refSign_any (a : Nat) (ha : a < 4294967296) (w : World) :
    Calls Tryz.prog 98 #[.int .i64 (a : Int)] w fun e w' => e = .returned (.int .i64 (sgn a)) ∧ w' = w := by
  by_cases h : 2147483648 ≤ a
  · have HS : Hid (sgn a = (a : Int) - 4294967296) := if_pos h
    have c1 : (2147483648 : Int) ≤ (a : Int) := by omega
    have v1 : IntKind.i64.wrap ((a : Int) - 4294967296) = (a : Int) - 4294967296 := by rw [IntKind.wrap_i64]; omega
    clear h ha
    go_enter Tryz.func98, Tryz.ntmps98
    go_wp2_with fail
    all_goals
      go_ret
      rw [HS.out]
      exact ⟨rfl, rfl⟩
  · have HS : Hid (sgn a = (a : Int)) := if_neg h
    have c1 : ¬ (2147483648 : Int) ≤ (a : Int) := by omega
    clear h ha
    go_enter Tryz.func98, Tryz.ntmps98
    go_wp2_with fail
    all_goals
      go_ret
      rw [HS.out]
      exact ⟨rfl, rfl⟩
theorem refWrap_any (v : Int) (w : World) :
    Calls Tryz.prog 80 #[.int .i64 v] w fun e w' => e = .returned (.int .i64 (m32 v : Nat)) ∧ w' = w := by
  have hm := m32_cast v
  have hl := m32_lt v
  have HM := Vx.hid hm
  obtain ⟨t, ht⟩ : ∃ t : Int, t = Int.tmod v 4294967296 := ⟨_, rfl⟩
  have t0 : Int.tmod v 4294967296 = t := ht.symm
  have hc := tmod32 v
  rw [t0] at hc
  have hb : -4294967296 < t ∧ t < 4294967296 := by omega
  have v1 : IntKind.i64.wrap t = t := by rw [IntKind.wrap_i64]; omega
  by_cases hn : t < 0
  · have HS : Hid ((m32 v : Int) = t + 4294967296) := by show _ = _; omega
    have v2 : IntKind.i64.wrap (t + 4294967296) = t + 4294967296 := by rw [IntKind.wrap_i64]; omega
    clear hm hl ht hb hc
    go_enter Tryz.func80, Tryz.ntmps80
    go_wp2_with fail
    all_goals
      go_ret
      rw [HS.out]
      exact ⟨rfl, rfl⟩
  · have HS : Hid ((m32 v : Int) = t) := by show _ = _; omega
    clear hm hl ht hb hc
    go_enter Tryz.func80, Tryz.ntmps80
    go_wp2_with fail
    all_goals
      go_ret
      rw [HS.out]
      exact ⟨rfl, rfl⟩
theorem oneIf_any (b : Bool) (w : World) :
    Calls Tryz.prog 99 #[.bool b] w fun e w' => e = .returned (.int .i64 (if b = true then 1 else 0)) ∧ w' = w := by
  cases b
  all_goals
    go_enter Tryz.func99, Tryz.ntmps99
    go_wp2_with fail
    all_goals
      go_ret
      exact ⟨rfl, rfl⟩
theorem refBytes_any (op : Nat) (h : 11 ≤ op) (h2 : op ≤ 18) (w : World) :
    Calls Tryz.prog 97 #[.int .i64 (op : Int)] w fun e w' => e = .returned (.int .i64 (bytesF op : Nat)) ∧ w' = w := by
  have hc : op = 11 ∨ op = 12 ∨ op = 13 ∨ op = 14 ∨ op = 15 ∨ op = 16 ∨ op = 17 ∨ op = 18 := by omega
  clear h h2
  rcases hc with rfl | rfl | rfl | rfl | rfl | rfl | rfl | rfl
  all_goals
    go_enter Tryz.func97, Tryz.ntmps97
    go_wp2_with fail
    all_goals
      go_ret
      exact ⟨rfl, rfl⟩
theorem refTakes_any (op a b : Nat) (h : 5 ≤ op) (h2 : op ≤ 10) (ha : a < 4294967296) (hb : b < 4294967296) (w : World) :
    Calls Tryz.prog 82 #[.int .i64 (op : Int), .int .i64 (a : Int), .int .i64 (b : Int)] w fun e w' => e = .returned (.bool (takesF op a b)) ∧ w' = w := by
  have HA := Vx.hid (fun wv => refSign_any a ha wv)
  have HB := Vx.hid (fun wv => refSign_any b hb wv)
  have HT : Hid (takesF op a b = if op = 5 then decide (a = b) else if op = 6 then decide (a ≠ b) else if op = 7 then decide (sgn a < sgn b) else if op = 8 then decide (sgn b ≤ sgn a) else if op = 9 then decide (a < b) else decide (b ≤ a)) := rfl
  generalize takesF op a b = T at HT
  generalize sgn a = x at HA HT
  generalize sgn b = y at HB HT
  have hc : op = 5 ∨ op = 6 ∨ op = 7 ∨ op = 8 ∨ op = 9 ∨ op = 10 := by omega
  clear h h2 ha hb
  rcases hc with rfl | rfl | rfl | rfl | rfl | rfl
  all_goals
    go_enter Tryz.func82, Tryz.ntmps82
    go_wp2_with fail
    refine (HA.out _).mono ?_
    rintro e w' ⟨rfl, h⟩
    have h2 := h.symm; clear h; subst h2
    go_wp2_with fail
    refine (HB.out _).mono ?_
    rintro e w' ⟨rfl, h⟩
    have h2 := h.symm; clear h; subst h2
    go_wp2_with fail
    all_goals
      go_ret
      refine ⟨?_, rfl⟩
      rw [HT.out]
      refine ret_val (congrArg Value.bool ?_)
      rw [Bool.eq_iff_iff]
      simp
      try omega
end Go.Proofs.YtflmobffeeocdaaGreatDoor

/- Chapter 10, the program's bus: met, find, come. -/
import Derived.Test.YtdpgdjpphnbfnaaIX3
import Derived.BigQuiet
import Derived.Deep.RegionHeld3
import Derived.Deep.RegionLaw
namespace Go.Proofs.Ytdpgdjpphnbfnaa
open Go.ChangeShapes Go.WideShapes Go.ChangeAt Go.RowKit
open Go.Vx
set_option linter.unusedVariables false
variable {U V S : Nat → Prop} {w w2 w3 w4 : World} {xb mp mw : Nat} {DP DW DP2 DW2 : DataW Value} {GP GW GP2 GW2 : Int → Nat} {Q : Int → Value} {s : Bs}

set_option maxHeartbeats 1000000 in
theorem xmet_ok (w : World) (p h m0 m1 m2 m3 m4 m5 : Int) : Calls Try.prog 40 #[.int .i64 p, .int .i64 h, .agg #[.int .u32 m0, .int .u32 m1, .int .u32 m2, .int .u32 m3, .int .u32 m4, .int .u32 m5]] w fun x w' => x = .returned (.agg #[.int .i64 0, .int .i64 p, .int .u32 m0, .int .u32 m1, .int .u32 m2, .int .u32 m3, .int .u32 m4, .int .u32 m5, .bool false, .bool (asB h), .bool (decide (h = 7))]) ∧ Only (fun _ => False) w w' := by
  have HA := Vx.hid (fun wv => asks_ok wv h)
  generalize asB h = ab at HA ⊢
  by_cases h7 : h = 7
  · subst h7
    go_enter Try.func40, Try.ntmps40
    go_wp2_with fail
    go_region_with (go_at_call 55; refine (HA.out _).mono ?_; rintro e w' ⟨rfl, h⟩; have h3 := h.symm; clear h; subst h3)
    all_goals
      go_wp2_with fail
      refine bodyPost_ret (v := .agg #[.int .i64 0, .int .i64 p, .int .u32 m0, .int .u32 m1, .int .u32 m2, .int .u32 m3, .int .u32 m4, .int .u32 m5, .bool false, .bool ab, .bool true]) ?_ rfl ⟨rfl, ?_⟩
      · simp [results, Try.results40, go_sem]
      · repeat' (first | exact Only.refl _ _ | refine Only.drew ?_ | refine Only.alloc ?_ _)
  · have e7 : (h == 7) = false := by simpa using h7
    rw [decide_eq_false h7]
    go_enter Try.func40, Try.ntmps40
    go_wp2_with fail
    go_region_with (go_at_call 55; refine (HA.out _).mono ?_; rintro e w' ⟨rfl, h⟩; have h3 := h.symm; clear h; subst h3)
    all_goals
      go_wp2_with fail
      refine bodyPost_ret (v := .agg #[.int .i64 0, .int .i64 p, .int .u32 m0, .int .u32 m1, .int .u32 m2, .int .u32 m3, .int .u32 m4, .int .u32 m5, .bool false, .bool ab, .bool false]) ?_ rfl ⟨rfl, ?_⟩
      · simp [results, Try.results40, go_sem]
      · repeat' (first | exact Only.refl _ _ | refine Only.drew ?_ | refine Only.alloc ?_ _)
/-- What find tells. -/
def findV (GP : Int → Nat) (s : Bs) (n : Int) (b : Bool) : Value := match pF s.ps n with
  | none => .pointer none
  | some i => if (pAt s i).bell = b then .pointer (some ⟨GP n, 0, none⟩) else .pointer none
theorem bfind_ok (h : XbAt U w xb mp mw DP DW GP GW Q s) (n : Int) (hn : I64 n) (b : Bool) : Calls Try.prog 17 #[.pointer (some ⟨xb, 0, none⟩), .int .i64 n, .bool b] w fun e w' => e = .returned (findV GP s n b) ∧ w' = w := by
  have c0 := h.c0
  cases hi : pF s.ps n with
  | none =>
    have hk := h.lookP_none hi hn
    have HV : Hid (findV GP s n b = .pointer none) := by show _ = _; unfold findV; rw [hi]
    rw [HV.out]
    clear h hi hn
    go_enter Try.func17, Try.ntmps17
    go_wp2_with fail
    all_goals
      go_ret
      exact ⟨rfl, rfl⟩
  | some i =>
    have hk := h.lookP_some hi hn
    obtain ⟨hl, hnum, hp, hj1, hL, hj2⟩ := h.place hi
    clear hj1 hj2
    have b0 := hL.c0
    by_cases hb : s.ps[i].bell = b
    · have HV : Hid (findV GP s n b = .pointer (some ⟨GP n, 0, none⟩)) := by show _ = _; unfold findV; rw [hi]; dsimp only; rw [hp, if_pos hb]
      rw [HV.out]
      rw [hb] at b0
      have hbb : (b != b) = false := by simp
      generalize GP n = g at b0 hk ⊢
      clear h hi hn hL hp hb hnum HV hl
      go_enter Try.func17, Try.ntmps17
      go_wp2_with fail
      all_goals
        go_ret
        exact ⟨rfl, rfl⟩
    · have HV : Hid (findV GP s n b = .pointer none) := by show _ = _; unfold findV; rw [hi]; dsimp only; rw [hp, if_neg hb]
      rw [HV.out]
      have hb2 : s.ps[i].bell = !b := by
        cases h1 : s.ps[i].bell <;> cases b <;> simp_all
      rw [hb2] at b0
      generalize GP n = g at b0 hk
      clear h hi hn hL hp hb hnum HV hb2 hl
      cases b with
      | true =>
        go_enter Try.func17, Try.ntmps17
        go_wp2_with fail
        all_goals
          go_ret
          exact ⟨rfl, rfl⟩
      | false =>
        go_enter Try.func17, Try.ntmps17
        go_wp2_with fail
        all_goals
          go_ret
          exact ⟨rfl, rfl⟩
/-- What come tells. -/
def comeV (GP : Int → Nat) (s : Bs) (n : Int) (b : Bool) (t : Int) : Value := if mayE s n b t = 0 then .tuple #[.pointer (some ⟨GP n, 0, none⟩), .int .i64 0] else .tuple #[.pointer none, .int .i64 (mayE s n b t)]
theorem bfind_no {n : Int} {b : Bool} (h : findV GP s n b = .pointer none) (t : Int) : mayE s n b t = 6 := by
  unfold findV at h
  unfold mayE
  cases hi : pF s.ps n with
  | none => rfl
  | some i =>
    rw [hi] at h
    dsimp only at h ⊢
    by_cases hb : (pAt s i).bell = b
    · rw [if_pos hb] at h; cases h
    · rw [if_pos hb]
theorem bfind_yes {n : Int} {b : Bool} (h : findV GP s n b = .pointer (some ⟨GP n, 0, none⟩)) (t : Int) : (∃ i, pF s.ps n = some i ∧ (pAt s i).bell = b) ∧ mayE s n b t = if (tF s.ws t).isSome = true then 16 else 0 := by
  unfold findV at h
  unfold mayE
  cases hi : pF s.ps n with
  | none => rw [hi] at h; cases h
  | some i =>
    rw [hi] at h
    dsimp only at h ⊢
    by_cases hb : (pAt s i).bell = b
    · exact ⟨⟨i, rfl, hb⟩, by rw [if_neg (fun h9 => h9 hb)]⟩
    · rw [if_neg hb] at h; cases h
theorem bfind_or (GP : Int → Nat) (s : Bs) (n : Int) (b : Bool) : findV GP s n b = .pointer none ∨ findV GP s n b = .pointer (some ⟨GP n, 0, none⟩) := by
  unfold findV
  split
  · exact Or.inl rfl
  · split
    · exact Or.inr rfl
    · exact Or.inl rfl
theorem bcome_ok (h : XbAt U w xb mp mw DP DW GP GW Q s) (n : Int) (hn : I64 n) (b : Bool) (t : Int) (ht : I64 t) : Calls Try.prog 39 #[.pointer (some ⟨xb, 0, none⟩), .int .i64 n, .int .i64 t, .bool b] w fun e w' => e = .returned (comeV GP s n b t) ∧ w' = w := by
  have HF := Vx.hid (bfind_ok h n hn b)
  have c1 := h.c1
  rcases bfind_or GP s n b with hf | hf
  · have hm := bfind_no hf t
    have HV : Hid (comeV GP s n b t = .tuple #[.pointer none, .int .i64 6]) := by show _ = _; unfold comeV; rw [hm]; rfl
    rw [hf] at HF
    rw [HV.out]
    clear h hf hm hn ht HV
    go_enter Try.func39, Try.ntmps39
    go_wp2_with fail
    refine HF.out.mono ?_
    rintro e w' ⟨rfl, h⟩
    have h3 := h.symm; clear h; subst h3
    go_wp2_with fail
    all_goals
      go_ret2
      exact ⟨rfl, rfl⟩
  · obtain ⟨_, hm⟩ := bfind_yes hf t
    rw [hf] at HF
    cases hi : tF s.ws t with
    | none =>
      have hk := h.lookW_none hi ht
      have HV : Hid (comeV GP s n b t = .tuple #[.pointer (some ⟨GP n, 0, none⟩), .int .i64 0]) := by show _ = _; unfold comeV; rw [hm, hi]; rfl
      rw [HV.out]
      generalize GP n = g at HF ⊢
      clear h hf hm hn ht HV hi
      go_enter Try.func39, Try.ntmps39
      go_wp2_with fail
      refine HF.out.mono ?_
      rintro e w' ⟨rfl, h⟩
      have h3 := h.symm; clear h; subst h3
      go_wp2_with fail
      all_goals
        go_ret2
        exact ⟨rfl, rfl⟩
    | some j =>
      have hk := h.lookW_some hi ht
      have HV : Hid (comeV GP s n b t = .tuple #[.pointer none, .int .i64 16]) := by show _ = _; unfold comeV; rw [hm, hi]; rfl
      rw [HV.out]
      generalize GP n = g at HF
      generalize GW t = g2 at hk
      clear h hf hm hn ht HV hi
      go_enter Try.func39, Try.ntmps39
      go_wp2_with fail
      refine HF.out.mono ?_
      rintro e w' ⟨rfl, h⟩
      have h3 := h.symm; clear h; subst h3
      go_wp2_with fail
      all_goals
        go_ret2
        exact ⟨rfl, rfl⟩
end Go.Proofs.Ytdpgdjpphnbfnaa

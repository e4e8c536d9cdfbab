/- Chapter 10, the program's bus: Open, Word, Where, Cancel, New. -/
import Derived.Test.YtdpgdjpphnbfnaaIX5
namespace Go.Proofs.Ytdpgdjpphnbfnaa
open Go.ChangeShapes Go.WideShapes Go.ChangeAt Go.RowKit
open Go.Vx
set_option linter.unusedVariables false
variable {U V S : Nat → Prop} {w w2 w3 w4 : World} {xb mp mw : Nat} {DP DW DP2 DW2 : DataW Value} {GP GW GP2 GW2 : Int → Nat} {Q : Int → Value} {s : Bs}

set_option maxRecDepth 100000 in
set_option maxHeartbeats 2000000 in
theorem xopen_ok (h : XbX U w xb s) (hl9 : s.ps.length < 1000000) (n : Int) (hn : I64 n) (b : Bool) : Calls Try.prog 6 #[.pointer (some ⟨xb, 0, none⟩), .int .i64 n, .bool b] w fun e w' => e = .returned (.int .i64 (openE s n)) ∧ XbX U w' xb (openS s n b) ∧ Only (fun k => ¬ U k) w w' := by
  have HH := Vx.hid h
  obtain ⟨hb, mp, mw, DP, DW, GP, GW, Q, h⟩ := h
  have c0 := h.c0
  by_cases a1 : n < 0
  · have e1 : openE s n = 1 := if_pos a1
    have e2 : openS s n b = s := if_neg (by rw [e1]; decide)
    rw [e1, e2]
    clear h e1 e2 hb hl9 hn
    go_enter Try.func6, Try.ntmps6
    go_wp2_with fail
    all_goals
      go_ret
      exact ⟨rfl, HH.out, Only.refl _ _⟩
  · cases hi : pF s.ps n with
    | some i =>
      have hk := h.lookP_some hi hn
      have e1 : openE s n = 7 := by unfold openE; rw [if_neg a1, hi]; rfl
      have e2 : openS s n b = s := if_neg (by rw [e1]; decide)
      rw [e1, e2]
      generalize GP n = g at hk
      clear h e1 e2 hi hb hl9 hn
      go_enter Try.func6, Try.ntmps6
      go_wp2_with fail
      all_goals
        go_ret
        exact ⟨rfl, HH.out, Only.refl _ _⟩
    | none =>
      have hk := h.lookP_none hi hn
      have e1 : openE s n = 0 := by unfold openE; rw [if_neg a1, hi]; rfl
      have e2 : openS s n b = ⟨s.ps ++ [⟨n, b, 0⟩], s.ws⟩ := if_pos e1
      rw [e1, e2]
      have ho1 : Only (fun _ => False) w (w.alloc (.cells (plC ⟨n, b, 0⟩ (.slice none 0 0)) 76)) := (Only.refl _ w).alloc _
      have h1 := h.quiet ho1
      have hg1 : (w.alloc (.cells (plC ⟨n, b, 0⟩ (.slice none 0 0)) 76)).heap[w.heap.size]? = some (.cells (plC ⟨n, b, 0⟩ (.slice none 0 0)) 76 (0, 0)) := heap_alloc_last w _
      obtain ⟨w3, hrun, hm3, ho3⟩ := h1.pm.put (t := 67) (e := 71) Try.underlying67 (by rw [List.length_map]; unfold maxLen; omega) n hn (fun h9 => by obtain ⟨i, h8⟩ := pF_mem.2 h9; rw [hi] at h8; cases h8) w.heap.size
      obtain ⟨⟨Q', hx'⟩, hO⟩ := h1.opened hb hi b hg1 (fun p hp e => by have := lt_of_some (h.pb p hp); omega) (fun hu => by have := h.low _ hu; omega) hm3 ho3 hl9
      have HF : Hid (XbX U w3 xb ⟨s.ps ++ [⟨n, b, 0⟩], s.ws⟩ ∧ Only (fun k => ¬ U k) w w3) := ⟨⟨hb.opened hn hi b, _, _, _, _, _, _, _, hx'⟩, (ho1.mono (fun _ _ h => h.elim)).trans hO⟩
      have hrun' : (Instr.mapUpdate 67 (.map (some mp)) (.int .i64 n) (.pointer (some ⟨w.heap.size, 0, none⟩))).run Try.prog (w.alloc (.cells #[.bool b, .int .u32 0, .slice none 0 0] 76)) = .ok () w3 := hrun
      have c01 : (w.alloc (.cells #[.bool b, .int .u32 0, .slice none 0 0] 76)).cell? ⟨xb, 0, none⟩ = some (.map (some mp)) := h1.c0
      clear h e1 e2 hi hb hl9 hn ho1 h1 hg1 hm3 ho3 hx' hO hrun
      go_enter Try.func6, Try.ntmps6
      go_wp2_with fail
      all_goals
        go_ret
        exact ⟨rfl, HF.out⟩
theorem xword_ok (h : XbX U w xb s) (n : Int) (hn : I64 n) : Calls Try.prog 11 #[.pointer (some ⟨xb, 0, none⟩), .int .i64 n] w fun e w' => e = .returned (.tuple #[.int .u32 (wordW s n), .int .i64 (wordE s n)]) ∧ Only (fun _ => False) w w' := by
  obtain ⟨hb, mp, mw, DP, DW, GP, GW, Q, h⟩ := h
  have HF := Vx.hid (bfind_ok h n hn true)
  rcases bfind_or GP s n true with hf | hf
  · have hbe : bellF s n = none := by
      unfold findV at hf
      unfold bellF
      cases hi : pF s.ps n with
      | none => rfl
      | some i =>
        rw [hi] at hf
        dsimp only at hf ⊢
        by_cases h9 : (pAt s i).bell = true
        · rw [if_pos h9] at hf; cases hf
        · rw [if_neg h9]
    have e1 : wordW s n = 0 := by unfold wordW; rw [hbe]
    have e2 : wordE s n = 6 := by unfold wordE; rw [hbe]
    rw [hf] at HF
    rw [e1, e2]
    clear h hf hbe e1 e2 hb hn
    go_enter Try.func11, Try.ntmps11
    go_wp2_with fail
    refine HF.out.mono ?_
    rintro e w' ⟨rfl, h⟩
    have h3 := h.symm; clear h; subst h3
    go_wp2_with fail
    refine bodyPost_ret (v := .tuple #[.int .u32 0, .int .i64 6]) ?_ rfl ⟨rfl, Only.refl _ _⟩
    simp [results, Try.results11, go_sem]
  · obtain ⟨⟨i, hi, hbl⟩, _⟩ := bfind_yes hf 0
    obtain ⟨hl, hnum, hp, hj1, hL, hj2⟩ := h.place hi
    have b1 := hL.c1
    have hbe := bell_some hi hbl
    have e1 : wordW s n = s.ps[i].word := by unfold wordW; rw [hbe]; dsimp only; rw [hp]
    have e2 : wordE s n = 0 := by unfold wordE; rw [hbe]
    rw [hf] at HF
    rw [e1, e2]
    generalize s.ps[i].word = x1 at b1 ⊢
    generalize GP n = g at b1 HF
    clear h hf hbe e1 e2 hb hn hi hbl hnum hp hj1 hL hj2 hl
    go_enter Try.func11, Try.ntmps11
    go_wp2_with fail
    refine HF.out.mono ?_
    rintro e w' ⟨rfl, h⟩
    have h3 := h.symm; clear h; subst h3
    go_wp2_with fail
    first | (go_quiet (fail); go_wp2_with fail) | skip
    refine bodyPost_ret (v := .tuple #[.int .u32 x1, .int .i64 0]) ?_ rfl ⟨rfl, by first | exact (Only.refl _ _).drewN _ | exact Only.refl _ _⟩
    simp [results, Try.results11, go_sem]
theorem xwhere_ok (h : XbX U w xb s) (t : Int) (ht : I64 t) : Calls Try.prog 33 #[.pointer (some ⟨xb, 0, none⟩), .int .i64 t] w fun e w' => e = .returned (.tuple #[.int .i64 (whereA s t), .int .i64 (whereH s t)]) ∧ Only (fun _ => False) w w' := by
  obtain ⟨hb, mp, mw, DP, DW, GP, GW, Q, h⟩ := h
  have c1 := h.c1
  cases hi : tF s.ws t with
  | none =>
    have hk := h.lookW_none hi ht
    have e1 : whereA s t = -1 := by unfold whereA; rw [hi]
    have e2 : whereH s t = 0 := by unfold whereH; rw [hi]
    rw [e1, e2]
    clear h hi e1 e2 hb ht
    go_enter Try.func33, Try.ntmps33
    go_wp2_with fail
    refine bodyPost_ret (v := .tuple #[.int .i64 (-1), .int .i64 0]) ?_ rfl ⟨rfl, Only.refl _ _⟩
    simp [results, Try.results33, go_sem]
  | some i =>
    have hk := h.lookW_some hi ht
    obtain ⟨hl, hnum, hp, hj1, hL, hj2⟩ := h.waiter hi
    have b1 := hL.c1
    have b2 := hL.c2
    have e1 : whereA s t = s.ws[i].at' := by unfold whereA; rw [hi]; dsimp only; rw [hp]
    have e2 : whereH s t = s.ws[i].how := by unfold whereH; rw [hi]; dsimp only; rw [hp]
    rw [e1, e2]
    generalize s.ws[i].at' = x1 at b1 ⊢
    generalize s.ws[i].how = x2 at b2 ⊢
    generalize GW t = g at b1 b2 hk
    clear h hi e1 e2 hb ht hnum hp hj1 hL hj2 hl
    go_enter Try.func33, Try.ntmps33
    go_wp2_with fail
    first | (go_quiet (fail); go_wp2_with fail) | skip
    refine bodyPost_ret (v := .tuple #[.int .i64 x1, .int .i64 x2]) ?_ rfl ⟨rfl, by first | exact (Only.refl _ _).drewN _ | exact Only.refl _ _⟩
    simp [results, Try.results33, go_sem]
theorem xcancel_ok (h : XbX U w xb s) (t : Int) (ht : I64 t) : Calls Try.prog 13 #[.pointer (some ⟨xb, 0, none⟩), .int .i64 t] w fun e w' => e = .returned (.int .i64 (cancE s t)) ∧ XbX U w' xb (cancS s t) ∧ Only (fun k => ¬ U k) w w' := by
  have HH := Vx.hid h
  obtain ⟨hb, mp, mw, DP, DW, GP, GW, Q, h⟩ := h
  have c1 := h.c1
  cases hi : tF s.ws t with
  | none =>
    have hk := h.lookW_none hi ht
    have e1 : cancE s t = 16 := by unfold cancE; rw [hi]
    have e2 : cancS s t = s := by unfold cancS; rw [hi]
    rw [e1, e2]
    clear h hi e1 e2 hb ht
    go_enter Try.func13, Try.ntmps13
    go_wp2_with fail
    all_goals
      go_ret
      exact ⟨rfl, HH.out, Only.refl _ _⟩
  | some i =>
    have hk := h.lookW_some hi ht
    have HL := Vx.hid (bleave_ok h hb hi)
    have e1 : cancE s t = 0 := by unfold cancE; rw [hi]
    have e2 : cancS s t = ⟨s.ps, cuI s.ws i⟩ := by unfold cancS; rw [hi]
    rw [e1, e2]
    generalize GW t = g at hk HL
    clear h hi e1 e2 hb ht
    go_enter Try.func13, Try.ntmps13
    go_wp2_with fail
    refine HL.out.mono ?_
    rintro e w2 ⟨⟨x, rfl⟩, hr, ho, _⟩
    go_wp2_with fail
    all_goals
      go_ret
      exact ⟨rfl, hr, ho⟩
theorem xnew_ok (w : World) : Calls Try.prog 5 #[] w fun e w' => ∃ xb, e = .returned (.pointer (some ⟨xb, 0, none⟩)) ∧ w.heap.size ≤ xb ∧ Hid (XbX (fun k => k < w.heap.size) w' xb ⟨[], []⟩ ∧ Only (fun _ => False) w w') := by
  have hmm := @run_makeMap Try.prog
  have HF : Hid (XbX (fun k => k < w.heap.size) (((w.alloc (.map #[] 0)).alloc (.map #[] 0)).alloc (.cells #[.map (some w.heap.size), .map (some (w.heap.size + 1))] 70)) (w.heap.size + 2) ⟨[], []⟩ ∧ Only (fun _ => False) w (((w.alloc (.map #[] 0)).alloc (.map #[] 0)).alloc (.cells #[.map (some w.heap.size), .map (some (w.heap.size + 1))] 70))) := by
    have m1 := MapAt.made w (fun _ => 0)
    have m2 := MapAt.made (w.alloc (.map #[] 0)) (fun _ => 0)
    have o2 : Only (fun _ => False) (w.alloc (.map #[] 0)) ((w.alloc (.map #[] 0)).alloc (.map #[] 0)) := (Only.refl _ _).alloc _
    have o3 : Only (fun _ => False) ((w.alloc (.map #[] 0)).alloc (.map #[] 0)) (((w.alloc (.map #[] 0)).alloc (.map #[] 0)).alloc (.cells #[.map (some w.heap.size), .map (some (w.heap.size + 1))] 70)) := (Only.refl _ _).alloc _
    have m1' := (m1.keep o2 (fun h => h)).keep o3 (fun h => h)
    have m2' := m2.keep o3 (fun h => h)
    have s1 : (w.alloc (.map #[] 0)).heap.size = w.heap.size + 1 := by simp
    have s2 : ((w.alloc (.map #[] 0)).alloc (.map #[] 0)).heap.size = w.heap.size + 2 := by simp
    rw [s1] at m2'
    have hx := heap_alloc_last ((w.alloc (.map #[] 0)).alloc (.map #[] 0)) (.cells #[.map (some w.heap.size), .map (some (w.heap.size + 1))] 70)
    rw [s2] at hx
    have ho : Only (fun _ => False) w (((w.alloc (.map #[] 0)).alloc (.map #[] 0)).alloc (.cells #[.map (some w.heap.size), .map (some (w.heap.size + 1))] 70)) := (((Only.refl _ w).alloc _).trans o2).trans o3
    refine ⟨⟨BWf.nil, w.heap.size, w.heap.size + 1, _, _, fun _ => 0, fun _ => 0, fun _ => .slice none 0 0, hx, m1', m2', (by omega), (fun p hp => by cases hp), (fun p hp => by cases hp), (fun p hp => by cases hp), (fun p hp => by cases hp), (fun p hp => by cases hp), (fun p hp => by cases hp), (by omega), (by omega), (by omega), (fun p hp => by cases hp), (fun p hp => by cases hp), (fun p hp => by cases hp), (fun k hk => Nat.lt_of_lt_of_le hk ho.size), Nat.zero_le _, Nat.zero_le _⟩, ho⟩
  go_enter Try.func5, Try.ntmps5
  go_wp2_with fail
  go_ret
  exact ⟨w.heap.size + 2, by first | rfl | simp, by omega, HF⟩
end Go.Proofs.Ytdpgdjpphnbfnaa

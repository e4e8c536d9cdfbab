import Derived.Test.YtbmchgjilkoplaaDoorCk3
/- Chapter 7, the document's store: entry, Size, full, free. -/
namespace Go.Proofs.YtbmchgjilkoplaaDoor
open Go.ChangeShapes Go.WideShapes Go.ChangeAt Go.RowKit
open Go.Vx
set_option linter.unusedVariables false

theorem entry_ok {U : Nat → Prop} {w : World} {rb : Nat} {vb ve : Value} {bs : List (Int × Int)} {es : List En} (h : RsAt U w rb vb ve bs es) (s : Sl) : Calls Tryd.prog 69 #[.pointer (some ⟨rb, 0, none⟩), .agg #[.int .i64 s.1, .int .i64 s.2]] w fun e w' => e = .returned (.int .i64 (idI (entF es s))) ∧ Only (fun _ => False) w w' := by
  obtain ⟨s1, s2⟩ := s
  obtain ⟨w1, hw1⟩ : ∃ w1, w1 = w.alloc (.cells #[.int .i64 s1, .int .i64 s2] 62) := ⟨_, rfl⟩
  have ho : Only (fun _ => False) w w1 := by rw [hw1]; exact (Only.refl _ w).alloc _
  have h1 := h.quiet ho
  obtain ⟨p, c, rfl, hb⟩ := h1.en
  have c1 := h1.c1
  have HB := Vx.hid hb
  have HO := Vx.hid ho
  have hn := h.ne
  have hsl : w1.heap[w.heap.size]? = some (.cells #[.int .i64 s1, .int .i64 s2] 62 (0, 0)) := by rw [hw1]; exact heap_alloc_last _ _
  have k0 : w1.cell? ⟨w.heap.size, 0, none⟩ = some (.int .i64 s1) := (cell_of_row _ _ 0 _ _ (0, 0) hsl).trans rfl
  have k1 : w1.cell? ⟨w.heap.size, 1, none⟩ = some (.int .i64 s2) := (cell_of_row _ _ 1 _ _ (0, 0) hsl).trans rfl
  clear h hb h1 ho hsl
  obtain ⟨N, hN⟩ : ∃ N, N = es.length := ⟨_, rfl⟩
  have HN := Vx.hid hN
  rw [← hN] at c1 hn
  clear hN
  dsimp only
  go_enter Tryd.func69, Tryd.ntmps69
  go_wp2_with fail
  rw [← hw1]
  obtain ⟨sb, hsb⟩ : ∃ sb, sb = w.heap.size := ⟨_, rfl⟩
  rw [← hsb] at k0 k1 ⊢
  clear hw1 hsb
  go_loopw [5] (fun d wr => ∃ k : Nat, d = .int .i64 (k : Int) ∧ k ≤ N ∧ Hid (idxF (fun e => decide (e.at' = (s1, s2))) (es.drop k) k = entF es (s1, s2)) ∧ ∃ j, wr = w1.drewN j) (fun d _ => N - (intOf d).toNat)
  case atStart => exact ⟨0, rfl, by omega, (show idxF _ (es.drop 0) 0 = _ from by rw [List.drop_zero]; rfl), 0, rfl⟩
  case round =>
    obtain ⟨k, rfl, hk, HQ, j, rfl⟩ := hrel
    by_cases hlt : k < N
    · have hlb : k < es.length := by have := HN.out; omega
      have h1 : (k : Int) < (N : Int) := by omega
      have hidx : 0 ≤ (k : Int) ∧ (k : Int) < (N : Int) := by omega
      have hwk : IntKind.i64.wrap ((k : Int) + 1) = (k : Int) + 1 := by rw [IntKind.wrap_i64]; omega
      obtain ⟨g, rfl, b⟩ := HB.out k hlb
      have b0 := b 0 (by decide)
      have b1 := b 1 (by decide)
      rw [enC_eq] at b0 b1
      simp only [List.getElem?_cons_zero, List.getElem?_cons_succ, Nat.add_zero] at b0 b1
      have hq := HQ.out
      rw [idxF_step es k hlb] at hq
      generalize hz : es[k].at' = z at b0 b1 hq
      obtain ⟨z1, z2⟩ := z
      clear b hz
      by_cases e1 : z1 = s1
      · subst e1
        by_cases e2 : z2 = s2
        · subst e2
          rw [if_pos (decide_eq_true rfl)] at hq
          have HE := Vx.hid hq
          clear hq hlt HQ
          go_wp2_with fail
          go_quiet (fail)
          go_wp2_with fail
          all_goals
            go_ret
            exact ⟨by rw [← HE.out]; rfl, HO.out.trans (by repeat' (first | exact Only.refl _ _ | refine Only.drewN ?_ _ | refine Only.drew ?_))⟩
        · rw [if_neg (by simp; exact e2)] at hq
          have HE := Vx.hid hq
          have e3 : (z2 == s2) = false := beq_eq_false_iff_ne.2 e2
          clear hq hlt HQ
          go_wp2_with fail
          go_quiet (fail)
          go_wp2_with fail
          go_roundw
          case rel => exact ⟨k + 1, by go_num, by omega, HE, _, rfl⟩
          case measure => simp only [intOf]; omega
      · rw [if_neg (by simp; exact fun h => absurd h e1)] at hq
        have HE := Vx.hid hq
        have e3 : (z1 == s1) = false := beq_eq_false_iff_ne.2 e1
        clear hq hlt HQ
        go_wp2_with fail
        go_quiet (fail)
        go_wp2_with fail
        go_roundw
        case rel => exact ⟨k + 1, by go_num, by omega, HE, _, rfl⟩
        case measure => simp only [intOf]; omega
    · obtain rfl : k = N := by omega
      have hq := HQ.out
      rw [HN.out, idxF_end] at hq
      have HE := Vx.hid hq
      have h1 : ¬ (k : Int) < (k : Int) := by omega
      clear hq hlt HQ
      go_wp2_with fail
      all_goals
        go_ret
        exact ⟨by rw [← HE.out]; rfl, HO.out.trans ((Only.refl _ _).drewN _)⟩
theorem boxF_at {bs : List (Int × Int)} {n : Int} {i : Nat} (h : boxF bs n = some i) : ∃ hi : i < bs.length, bs[i].1 = n ∧ sizeF bs n = some bs[i].2 := by
  obtain ⟨hi, hp⟩ := idxF_get h
  rw [Nat.sub_zero] at hi
  refine ⟨hi, by simpa using hp, ?_⟩
  unfold sizeF
  rw [h]
  simp [hi]
theorem sizeF_none {bs : List (Int × Int)} {n : Int} (h : boxF bs n = none) : sizeF bs n = none := by unfold sizeF; rw [h]; rfl
/-- What Size answers. -/
def sizeR (bs : List (Int × Int)) (n : Int) : Int × Int := match sizeF bs n with | some k => (k, 0) | none => (0, 6)
theorem size_ok {U : Nat → Prop} {w : World} {rb : Nat} {vb ve : Value} {bs : List (Int × Int)} {es : List En} (h : RsAt U w rb vb ve bs es) (n : Int) : Calls Tryd.prog 37 #[.pointer (some ⟨rb, 0, none⟩), .int .i64 n] w fun e w' => e = .returned (.tuple #[.int .i64 (sizeR bs n).1, .int .i64 (sizeR bs n).2]) ∧ w' = w := by
  have HBX := Vx.hid (box_ok h n)
  have hn := h.nb
  obtain ⟨p, c, rfl, hb⟩ := h.bx
  have c0 := h.c0
  cases hx : boxF bs n with
  | none =>
    have HS : Hid (sizeR bs n = (0, 6)) := by show sizeR bs n = _; unfold sizeR; rw [sizeF_none hx]
    rw [hx] at HBX
    have HB2 : Hid (Calls Tryd.prog 58 #[.pointer (some ⟨rb, 0, none⟩), .int .i64 n] w fun e w' => e = .returned (.int .i64 (-1)) ∧ w' = w) := HBX
    clear h hb hx c0 HBX
    go_enter Tryd.func37, Tryd.ntmps37
    go_wp2_with fail
    refine HB2.out.mono ?_
    rintro e w' ⟨rfl, h⟩
    have h2 := h.symm; clear h; subst h2
    go_wp2_with fail
    all_goals
      go_ret2
      exact ⟨by rw [HS.out]; rfl, rfl⟩
  | some i =>
    obtain ⟨hi, _, hsz⟩ := boxF_at hx
    obtain ⟨g, rfl, _, b1⟩ := hb i hi
    have HS : Hid (sizeR bs n = (bs[i].2, 0)) := by show sizeR bs n = _; unfold sizeR; rw [hsz]
    rw [hx] at HBX
    have HB2 : Hid (Calls Tryd.prog 58 #[.pointer (some ⟨rb, 0, none⟩), .int .i64 n] w fun e w' => e = .returned (.int .i64 (i : Int)) ∧ w' = w) := HBX
    generalize bs[i].2 = m at b1 HS hsz
    obtain ⟨N, hN⟩ : ∃ N, N = bs.length := ⟨_, rfl⟩
    rw [← hN] at c0 hn hi
    have h1 : ¬ (i : Int) < 0 := by omega
    have hidx : 0 ≤ (i : Int) ∧ (i : Int) < (N : Int) := by omega
    clear h hb hx HBX hN hsz hi
    go_enter Tryd.func37, Tryd.ntmps37
    go_wp2_with fail
    refine HB2.out.mono ?_
    rintro e w' ⟨rfl, h⟩
    have h2 := h.symm; clear h; subst h2
    go_wp2_with fail
    all_goals
      go_ret2
      exact ⟨by rw [HS.out]; rfl, rfl⟩
theorem full_ok {U : Nat → Prop} {w : World} {rb : Nat} {vb ve : Value} {bs : List (Int × Int)} {es : List En} (h : RsAt U w rb vb ve bs es) (s : Sl) : Calls Tryd.prog 62 #[.pointer (some ⟨rb, 0, none⟩), .agg #[.int .i64 s.1, .int .i64 s.2]] w fun e w' => e = .returned (.tuple #[.int .i64 (fullI (fullF bs es s)), .int .i64 (fullE (fullF bs es s))]) ∧ Only (fun _ => False) w w' := by
  obtain ⟨s1, s2⟩ := s
  have HSZ : Hid (∀ wv, Only (fun _ => False) w wv → Calls Tryd.prog 37 #[.pointer (some ⟨rb, 0, none⟩), .int .i64 s1] wv fun e w' => e = .returned (.tuple #[.int .i64 (sizeR bs s1).1, .int .i64 (sizeR bs s1).2]) ∧ w' = wv) := fun wv hv => size_ok (h.quiet hv) s1
  have HEN : Hid (∀ wv, Only (fun _ => False) w wv → Calls Tryd.prog 69 #[.pointer (some ⟨rb, 0, none⟩), .agg #[.int .i64 s1, .int .i64 s2]] wv fun e w' => e = .returned (.int .i64 (idI (entF es (s1, s2)))) ∧ Only (fun _ => False) wv w') := fun wv hv => entry_ok (h.quiet hv) (s1, s2)
  have HO : Hid (∀ o, Only (fun _ => False) w (w.alloc o)) := fun o => (Only.refl _ w).alloc _
  clear h
  dsimp only
  cases hx : sizeF bs s1 with
  | none =>
    have HF : Hid (fullF bs es (s1, s2) = .error 9) := by show fullF bs es (s1, s2) = _; unfold fullF; rw [show sizeF bs ((s1, s2) : Sl).1 = none from hx]
    have hz : sizeR bs s1 = (0, 6) := by unfold sizeR; rw [hx]
    rw [hz] at HSZ
    clear hz hx HEN
    go_enter Tryd.func62, Tryd.ntmps62
    go_wp2_with fail
    refine (HSZ.out _ (HO.out _)).mono ?_
    rintro e w' ⟨rfl, h⟩
    have h2 := h.symm; clear h; subst h2
    go_wp2_with fail
    all_goals
      go_ret2
      exact ⟨by rw [HF.out]; rfl, HO.out _⟩
  | some m =>
    have hz : sizeR bs s1 = (m, 0) := by unfold sizeR; rw [hx]
    rw [hz] at HSZ
    by_cases h0 : s2 < 0
    · have HF : Hid (fullF bs es (s1, s2) = .error 9) := by show fullF bs es (s1, s2) = _; unfold fullF; rw [show sizeF bs ((s1, s2) : Sl).1 = some m from hx]; exact if_pos (Or.inl h0)
      clear hz hx HEN
      go_enter Tryd.func62, Tryd.ntmps62
      go_wp2_with fail
      refine (HSZ.out _ (HO.out _)).mono ?_
      rintro e w' ⟨rfl, h⟩
      have h2 := h.symm; clear h; subst h2
      go_wp2_with fail
      all_goals
        go_ret2
        exact ⟨by rw [HF.out]; rfl, HO.out _⟩
    · by_cases h1 : m ≤ s2
      · have HF : Hid (fullF bs es (s1, s2) = .error 9) := by show fullF bs es (s1, s2) = _; unfold fullF; rw [show sizeF bs ((s1, s2) : Sl).1 = some m from hx]; exact if_pos (Or.inr h1)
        clear hz hx HEN
        go_enter Tryd.func62, Tryd.ntmps62
        go_wp2_with fail
        refine (HSZ.out _ (HO.out _)).mono ?_
        rintro e w' ⟨rfl, h⟩
        have h2 := h.symm; clear h; subst h2
        go_wp2_with fail
        all_goals
          go_ret2
          exact ⟨by rw [HF.out]; rfl, HO.out _⟩
      · have hfe : fullF bs es (s1, s2) = (match entF es (s1, s2) with | none => .error 11 | some i => .ok i) := by unfold fullF; rw [show sizeF bs ((s1, s2) : Sl).1 = some m from hx]; exact if_neg (by rintro (h | h); exact h0 h; exact h1 h)
        cases hy : entF es (s1, s2) with
        | none =>
          have HF : Hid (fullF bs es (s1, s2) = .error 11) := by show fullF bs es (s1, s2) = _; rw [hfe, hy]
          rw [hy] at HEN
          have HE2 : Hid (∀ wv, Only (fun _ => False) w wv → Calls Tryd.prog 69 #[.pointer (some ⟨rb, 0, none⟩), .agg #[.int .i64 s1, .int .i64 s2]] wv fun e w' => e = .returned (.int .i64 (-1)) ∧ Only (fun _ => False) wv w') := HEN
          clear hz hx hfe hy HEN
          go_enter Tryd.func62, Tryd.ntmps62
          go_wp2_with fail
          refine (HSZ.out _ (HO.out _)).mono ?_
          rintro e w' ⟨rfl, h⟩
          have h2 := h.symm; clear h; subst h2
          go_wp2_with fail
          refine (HE2.out _ (HO.out _)).mono ?_
          rintro e w2 ⟨rfl, hq⟩
          have HQ := Vx.hid hq
          clear hq
          go_wp2_with fail
          all_goals
            go_ret2
            exact ⟨by rw [HF.out]; rfl, (HO.out _).trans HQ.out⟩
        | some i =>
          have HF : Hid (fullF bs es (s1, s2) = .ok i) := by show fullF bs es (s1, s2) = _; rw [hfe, hy]
          rw [hy] at HEN
          have HE2 : Hid (∀ wv, Only (fun _ => False) w wv → Calls Tryd.prog 69 #[.pointer (some ⟨rb, 0, none⟩), .agg #[.int .i64 s1, .int .i64 s2]] wv fun e w' => e = .returned (.int .i64 (i : Int)) ∧ Only (fun _ => False) wv w') := HEN
          have hni : ¬ (i : Int) < 0 := by omega
          clear hz hx hfe hy HEN
          go_enter Tryd.func62, Tryd.ntmps62
          go_wp2_with fail
          refine (HSZ.out _ (HO.out _)).mono ?_
          rintro e w' ⟨rfl, h⟩
          have h2 := h.symm; clear h; subst h2
          go_wp2_with fail
          refine (HE2.out _ (HO.out _)).mono ?_
          rintro e w2 ⟨rfl, hq⟩
          have HQ := Vx.hid hq
          clear hq
          go_wp2_with fail
          all_goals
            go_ret2
            exact ⟨by rw [HF.out]; rfl, (HO.out _).trans HQ.out⟩
end Go.Proofs.YtbmchgjilkoplaaDoor

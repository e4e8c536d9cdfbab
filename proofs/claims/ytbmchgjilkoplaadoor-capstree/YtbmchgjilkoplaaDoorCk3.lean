import Derived.Test.YtbmchgjilkoplaaDoorCk2
/- Chapter 7, the document's store: where it lies; box, entry, Size, full, free. -/
namespace Go.Proofs.YtbmchgjilkoplaaDoor
open Go.ChangeShapes Go.WideShapes Go.ChangeAt Go.RowKit
open Go.Vx
set_option linter.unusedVariables false

/-- The document's store; U: blocks that are none of its own. -/
structure RsAt (U : Nat → Prop) (w : World) (rb : Nat) (vb ve : Value) (bs : List (Int × Int)) (es : List En) : Prop where
  r : w.heap[rb]? = some (.cells #[vb, ve] 30 (0, 0))
  b : OwnL bxL w 0 116 vb bs
  e : OwnL enL w 0 72 ve es
  ur : ¬ U rb
  ub : ∀ k, vb.ownBlock = some k → ¬ U k
  ue : ∀ k, ve.ownBlock = some k → ¬ U k
  low : ∀ k, U k → k < w.heap.size
  nb : bs.length ≤ 1000000
  ne : es.length ≤ 1000000
theorem RsAt.c0 {U : Nat → Prop} {w : World} {rb : Nat} {vb ve : Value} {bs : List (Int × Int)} {es : List En} (h : RsAt U w rb vb ve bs es) : w.cell? ⟨rb, 0, none⟩ = some vb := (cell_of_row _ _ 0 _ _ (0, 0) h.r).trans rfl
theorem RsAt.c1 {U : Nat → Prop} {w : World} {rb : Nat} {vb ve : Value} {bs : List (Int × Int)} {es : List En} (h : RsAt U w rb vb ve bs es) : w.cell? ⟨rb, 1, none⟩ = some ve := (cell_of_row _ _ 1 _ _ (0, 0) h.r).trans rfl
theorem RsAt.only {U S : Nat → Prop} {w w' : World} {rb : Nat} {vb ve : Value} {bs : List (Int × Int)} {es : List En} (h : RsAt U w rb vb ve bs es) (ho : Only S w w') (hS : ∀ k, S k → U k) : RsAt U w' rb vb ve bs es :=
  ⟨by rw [ho.block rb (lt_of_some h.r) (fun h1 => h.ur (hS _ h1))]; exact h.r, h.b.kept ho (fun k hk h1 => h.ub k hk (hS _ h1)), h.e.kept ho (fun k hk h1 => h.ue k hk (hS _ h1)), h.ur, h.ub, h.ue, fun k hk => Nat.lt_of_lt_of_le (h.low k hk) ho.size, h.nb, h.ne⟩
theorem RsAt.quiet {U : Nat → Prop} {w w' : World} {rb : Nat} {vb ve : Value} {bs : List (Int × Int)} {es : List En} (h : RsAt U w rb vb ve bs es) (ho : Only (fun _ => False) w w') : RsAt U w' rb vb ve bs es := h.only ho (fun _ h => h.elim)
/-- A box as it lies. -/
theorem RsAt.bx {U : Nat → Prop} {w : World} {rb : Nat} {vb ve : Value} {bs : List (Int × Int)} {es : List En} (h : RsAt U w rb vb ve bs es) : ∃ p c, vb = .slice p bs.length c ∧ ∀ (k : Nat) (hk : k < bs.length), ∃ g, p = some ⟨g, 0, none⟩ ∧ w.cell? ⟨g, k * 2, none⟩ = some (.int .i64 bs[k].1) ∧ w.cell? ⟨g, k * 2 + 1, none⟩ = some (.int .i64 bs[k].2) := by
  obtain ⟨p, c, rfl, _, _, hg⟩ := h.b.form
  refine ⟨p, c, rfl, fun k hk => ?_⟩
  obtain ⟨g, rfl, _⟩ := hg (by omega)
  have h0 := h.b.cell k 0 hk (by decide)
  have h1 := h.b.cell k 1 hk (by decide)
  exact ⟨g, rfl, h0, h1⟩
theorem RsAt.en {U : Nat → Prop} {w : World} {rb : Nat} {vb ve : Value} {bs : List (Int × Int)} {es : List En} (h : RsAt U w rb vb ve bs es) : ∃ p c, ve = .slice p es.length c ∧ ∀ (k : Nat) (hk : k < es.length), ∃ g, p = some ⟨g, 0, none⟩ ∧ ∀ j, j < 12 → w.cell? ⟨g, k * 12 + j, none⟩ = (enC es[k])[j]? := by
  obtain ⟨p, c, rfl, _, _, hg⟩ := h.e.form
  refine ⟨p, c, rfl, fun k hk => ?_⟩
  obtain ⟨g, rfl, _⟩ := hg (by omega)
  exact ⟨g, rfl, fun j hj => h.e.cell k j hk hj⟩
theorem twoPower_ok (n : Int) (w : World) : Calls Tryd.prog 57 #[.int .i64 n] w fun e w' => e = .returned (.bool (twoB n)) ∧ w' = w := by
  go_enter Tryd.func57, Tryd.ntmps57
  go_wp2_with fail
  go_loopw [3] (fun d wr => ∃ p : Int, d = .int .i64 p ∧ (p = 1 ∨ p = 2 ∨ p = 4 ∨ p = 8 ∨ p = 16 ∨ p = 32 ∨ p = 64 ∨ p = 128) ∧ Hid (∀ q : Int, (q = 1 ∨ q = 2 ∨ q = 4 ∨ q = 8 ∨ q = 16 ∨ q = 32 ∨ q = 64) → q < p → n ≠ q) ∧ wr = w) (fun d _ => 128 - (intOf d).toNat)
  case atStart => exact ⟨1, rfl, by omega, fun q h1 h2 => by omega, rfl⟩
  case round =>
    obtain ⟨p, rfl, hp, HN, rfl⟩ := hrel
    rcases hp with rfl | rfl | rfl | rfl | rfl | rfl | rfl | rfl
    · by_cases he : n = 1
      · have HT : Hid (twoB n = true) := decide_eq_true (by omega)
        clear HN
        subst he
        go_wp2_with fail
        all_goals
          go_ret
          exact ⟨by rw [HT.out]; rfl, rfl⟩
      · have he2 : (n == 1) = false := beq_eq_false_iff_ne.2 he
        have HM : Hid (∀ q : Int, (q = 1 ∨ q = 2 ∨ q = 4 ∨ q = 8 ∨ q = 16 ∨ q = 32 ∨ q = 64) → q < 2 → n ≠ q) := fun q h1 h2 h3 => by
          by_cases hq : q < 1
          · exact HN.out q h1 hq h3
          · omega
        clear HN
        go_wp2_with fail
        go_roundw
        case rel => exact ⟨2, rfl, by omega, HM, trivial⟩
        case measure => decide
    · by_cases he : n = 2
      · have HT : Hid (twoB n = true) := decide_eq_true (by omega)
        clear HN
        subst he
        go_wp2_with fail
        all_goals
          go_ret
          exact ⟨by rw [HT.out]; rfl, rfl⟩
      · have he2 : (n == 2) = false := beq_eq_false_iff_ne.2 he
        have HM : Hid (∀ q : Int, (q = 1 ∨ q = 2 ∨ q = 4 ∨ q = 8 ∨ q = 16 ∨ q = 32 ∨ q = 64) → q < 4 → n ≠ q) := fun q h1 h2 h3 => by
          by_cases hq : q < 2
          · exact HN.out q h1 hq h3
          · omega
        clear HN
        go_wp2_with fail
        go_roundw
        case rel => exact ⟨4, rfl, by omega, HM, trivial⟩
        case measure => decide
    · by_cases he : n = 4
      · have HT : Hid (twoB n = true) := decide_eq_true (by omega)
        clear HN
        subst he
        go_wp2_with fail
        all_goals
          go_ret
          exact ⟨by rw [HT.out]; rfl, rfl⟩
      · have he2 : (n == 4) = false := beq_eq_false_iff_ne.2 he
        have HM : Hid (∀ q : Int, (q = 1 ∨ q = 2 ∨ q = 4 ∨ q = 8 ∨ q = 16 ∨ q = 32 ∨ q = 64) → q < 8 → n ≠ q) := fun q h1 h2 h3 => by
          by_cases hq : q < 4
          · exact HN.out q h1 hq h3
          · omega
        clear HN
        go_wp2_with fail
        go_roundw
        case rel => exact ⟨8, rfl, by omega, HM, trivial⟩
        case measure => decide
    · by_cases he : n = 8
      · have HT : Hid (twoB n = true) := decide_eq_true (by omega)
        clear HN
        subst he
        go_wp2_with fail
        all_goals
          go_ret
          exact ⟨by rw [HT.out]; rfl, rfl⟩
      · have he2 : (n == 8) = false := beq_eq_false_iff_ne.2 he
        have HM : Hid (∀ q : Int, (q = 1 ∨ q = 2 ∨ q = 4 ∨ q = 8 ∨ q = 16 ∨ q = 32 ∨ q = 64) → q < 16 → n ≠ q) := fun q h1 h2 h3 => by
          by_cases hq : q < 8
          · exact HN.out q h1 hq h3
          · omega
        clear HN
        go_wp2_with fail
        go_roundw
        case rel => exact ⟨16, rfl, by omega, HM, trivial⟩
        case measure => decide
    · by_cases he : n = 16
      · have HT : Hid (twoB n = true) := decide_eq_true (by omega)
        clear HN
        subst he
        go_wp2_with fail
        all_goals
          go_ret
          exact ⟨by rw [HT.out]; rfl, rfl⟩
      · have he2 : (n == 16) = false := beq_eq_false_iff_ne.2 he
        have HM : Hid (∀ q : Int, (q = 1 ∨ q = 2 ∨ q = 4 ∨ q = 8 ∨ q = 16 ∨ q = 32 ∨ q = 64) → q < 32 → n ≠ q) := fun q h1 h2 h3 => by
          by_cases hq : q < 16
          · exact HN.out q h1 hq h3
          · omega
        clear HN
        go_wp2_with fail
        go_roundw
        case rel => exact ⟨32, rfl, by omega, HM, trivial⟩
        case measure => decide
    · by_cases he : n = 32
      · have HT : Hid (twoB n = true) := decide_eq_true (by omega)
        clear HN
        subst he
        go_wp2_with fail
        all_goals
          go_ret
          exact ⟨by rw [HT.out]; rfl, rfl⟩
      · have he2 : (n == 32) = false := beq_eq_false_iff_ne.2 he
        have HM : Hid (∀ q : Int, (q = 1 ∨ q = 2 ∨ q = 4 ∨ q = 8 ∨ q = 16 ∨ q = 32 ∨ q = 64) → q < 64 → n ≠ q) := fun q h1 h2 h3 => by
          by_cases hq : q < 32
          · exact HN.out q h1 hq h3
          · omega
        clear HN
        go_wp2_with fail
        go_roundw
        case rel => exact ⟨64, rfl, by omega, HM, trivial⟩
        case measure => decide
    · by_cases he : n = 64
      · have HT : Hid (twoB n = true) := decide_eq_true (by omega)
        clear HN
        subst he
        go_wp2_with fail
        all_goals
          go_ret
          exact ⟨by rw [HT.out]; rfl, rfl⟩
      · have he2 : (n == 64) = false := beq_eq_false_iff_ne.2 he
        have HM : Hid (∀ q : Int, (q = 1 ∨ q = 2 ∨ q = 4 ∨ q = 8 ∨ q = 16 ∨ q = 32 ∨ q = 64) → q < 128 → n ≠ q) := fun q h1 h2 h3 => by
          by_cases hq : q < 64
          · exact HN.out q h1 hq h3
          · omega
        clear HN
        go_wp2_with fail
        go_roundw
        case rel => exact ⟨128, rfl, by omega, HM, trivial⟩
        case measure => decide
    · have HF : Hid (twoB n = false) := by
        have h := HN.out
        refine decide_eq_false ?_
        rintro (e | e | e | e | e | e | e) <;> exact h _ (by omega) (by omega) e
      clear HN
      go_wp2_with fail
      all_goals
        go_ret
        exact ⟨by rw [HF.out]; rfl, rfl⟩
theorem box_ok {U : Nat → Prop} {w : World} {rb : Nat} {vb ve : Value} {bs : List (Int × Int)} {es : List En} (h : RsAt U w rb vb ve bs es) (n : Int) : Calls Tryd.prog 58 #[.pointer (some ⟨rb, 0, none⟩), .int .i64 n] w fun e w' => e = .returned (.int .i64 (idI (boxF bs n))) ∧ w' = w := by
  obtain ⟨p, c, rfl, hb⟩ := h.bx
  have c0 := h.c0
  have HB := Vx.hid hb
  have hn := h.nb
  clear h hb
  obtain ⟨N, hN⟩ : ∃ N, N = bs.length := ⟨_, rfl⟩
  have HN := Vx.hid hN
  rw [← hN] at c0 hn
  clear hN
  go_enter Tryd.func58, Tryd.ntmps58
  go_wp2_with fail
  go_loopw [5] (fun d wr => ∃ k : Nat, d = .int .i64 (k : Int) ∧ k ≤ N ∧ Hid (idxF (fun b => decide (b.1 = n)) (bs.drop k) k = boxF bs n) ∧ wr = w) (fun d _ => N - (intOf d).toNat)
  case atStart => exact ⟨0, rfl, by omega, (show idxF _ (bs.drop 0) 0 = _ from by rw [List.drop_zero]; rfl), rfl⟩
  case round =>
    obtain ⟨k, rfl, hk, HQ, rfl⟩ := hrel
    by_cases hlt : k < N
    · have hlb : k < bs.length := by have := HN.out; omega
      have h1 : (k : Int) < (N : Int) := by omega
      have hidx : 0 ≤ (k : Int) ∧ (k : Int) < (N : Int) := by omega
      have hwk : IntKind.i64.wrap ((k : Int) + 1) = (k : Int) + 1 := by rw [IntKind.wrap_i64]; omega
      obtain ⟨g, rfl, b0, _⟩ := HB.out k hlb
      have hq := HQ.out
      rw [idxF_step bs k hlb] at hq
      by_cases he : bs[k].1 = n
      · rw [if_pos (decide_eq_true he)] at hq
        have HE := Vx.hid hq
        rw [he] at b0
        clear hq hlt HQ he
        go_wp2_with fail
        all_goals
          go_ret
          exact ⟨by rw [← HE.out]; rfl, rfl⟩
      · rw [if_neg (by simpa using he)] at hq
        have HE := Vx.hid hq
        have he2 : (bs[k].1 == n) = false := by simpa using he
        generalize bs[k].1 = m at b0 he he2
        clear hq hlt HQ
        go_wp2_with fail
        go_roundw
        case rel => exact ⟨k + 1, by go_num, by omega, HE, trivial⟩
        case measure => simp only [intOf]; omega
    · obtain rfl : k = N := by omega
      have hq := HQ.out
      rw [HN.out, idxF_end] at hq
      have HE := Vx.hid hq
      have h1 : ¬ (k : Int) < (k : Int) := by omega
      clear hq hlt HQ
      go_wp2_with fail
      all_goals
        go_ret
        exact ⟨by rw [← HE.out]; rfl, rfl⟩
theorem ahead_ok (a b : Sl) (w : World) : Calls Tryd.prog 75 #[.agg #[.int .i64 a.1, .int .i64 a.2], .agg #[.int .i64 b.1, .int .i64 b.2]] w fun e w' => e = .returned (.bool (aheadB a b)) ∧ Only (fun _ => False) w w' := by
  obtain ⟨a1, a2⟩ := a
  obtain ⟨b1, b2⟩ := b
  have HO : Hid (∀ o1 o2, Only (fun _ => False) w ((w.alloc o1).alloc o2)) := fun o1 o2 => ((Only.refl _ w).alloc _).alloc _
  by_cases h1 : a1 < b1
  · have HT : Hid (aheadB (a1, a2) (b1, b2) = true) := decide_eq_true (Or.inl h1)
    dsimp only
    go_enter Tryd.func75, Tryd.ntmps75
    go_wp2_with fail
    all_goals
      go_ret
      exact ⟨by rw [HT.out]; rfl, HO.out _ _⟩
  · by_cases h2 : a1 = b1
    · subst h2
      by_cases h3 : a2 < b2
      · have HT : Hid (aheadB (a1, a2) (a1, b2) = true) := decide_eq_true (Or.inr ⟨rfl, h3⟩)
        dsimp only
        go_enter Tryd.func75, Tryd.ntmps75
        go_wp2_with fail
        all_goals
          go_ret
          exact ⟨by rw [HT.out]; rfl, HO.out _ _⟩
      · have HT : Hid (aheadB (a1, a2) (a1, b2) = false) := decide_eq_false (by rintro (h | ⟨_, h⟩); exact h1 h; exact h3 h)
        dsimp only
        go_enter Tryd.func75, Tryd.ntmps75
        go_wp2_with fail
        all_goals
          go_ret
          exact ⟨by rw [HT.out]; rfl, HO.out _ _⟩
    · have HT : Hid (aheadB (a1, a2) (b1, b2) = false) := decide_eq_false (by rintro (h | ⟨h, _⟩); exact h1 h; exact h2 h)
      have h4 : (a1 == b1) = false := beq_eq_false_iff_ne.2 h2
      dsimp only
      go_enter Tryd.func75, Tryd.ntmps75
      go_wp2_with fail
      all_goals
        go_ret
        exact ⟨by rw [HT.out]; rfl, HO.out _ _⟩
theorem nowhere_ok (w : World) : Calls Tryd.prog 63 #[] w fun e w' => e = .returned (.agg #[.int .i64 (-1), .int .i64 (-1)]) ∧ Only (fun _ => False) w w' := by
  have HO : Hid (∀ o1, Only (fun _ => False) w (w.alloc o1)) := fun o1 => (Only.refl _ w).alloc _
  go_enter Tryd.func63, Tryd.ntmps63
  go_wp2_with fail
  refine bodyPost_ret (v := .agg #[.int .i64 (-1), .int .i64 (-1)]) ?_ rfl ⟨rfl, HO.out _⟩
  simp [results, Tryd.results63, go_sem]
end Go.Proofs.YtbmchgjilkoplaaDoor

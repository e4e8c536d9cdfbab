import Derived.Test.YtbbabpgmclhinaaCs4
/- Chapter 8, the document's pool: where it lies; extent, meets, region. -/
namespace Go.Proofs.Ytbbabpgmclhinaa
open Go.ChangeShapes Go.WideShapes Go.ChangeAt Go.RowKit
open Go.Vx
set_option linter.unusedVariables false

/-- An object's pages: how many, the first one. -/
def pgN (o : Int × Int) : Int := if o.1 = 1 then ((2 ^ (o.2 / 256).toNat : Nat) : Int) else 1
def pgA (o : Int × Int) : Int := if o.1 = 1 then o.2 % 256 else o.2
def meetN (a n b m : Int) : Bool := decide (a < b + m ∧ b < a + n)
def meetB (x y : Int × Int) : Bool := meetN (pgA x) (pgN x) (pgA y) (pgN y)
/-- A number that an untyped may have. -/
def RgOk (n : Int) : Prop := 0 ≤ n ∧ n < 2304
theorem pgN_bd {o : Int × Int} (h : o.1 = 1 → RgOk o.2) : 1 ≤ pgN o ∧ pgN o ≤ 256 := by
  unfold pgN
  split
  · rename_i h1
    obtain ⟨h2, h3⟩ := h h1
    have h4 : (o.2 / 256).toNat ≤ 8 := by omega
    have h5 : 2 ^ (o.2 / 256).toNat ≤ 2 ^ 8 := Nat.pow_le_pow_right (by decide) h4
    have h6 : 0 < 2 ^ (o.2 / 256).toNat := Nat.pow_pos (by decide)
    omega
  · omega
theorem pgA_bd {o : Int × Int} (h : o.1 = 1) : 0 ≤ pgA o ∧ pgA o < 256 := by
  unfold pgA
  rw [if_pos h]
  omega
set_option maxRecDepth 100000 in
set_option maxHeartbeats 1000000 in
theorem extent_ok (k n : Int) (h : k = 1 → RgOk n) (w : World) : Calls Try.prog 54 #[.agg #[.int .i64 k, .int .i64 n]] w fun e w' => e = .returned (.tuple #[.int .i64 (pgA (k, n)), .int .i64 (pgN (k, n))]) ∧ Only (fun _ => False) w w' := by
  have HO : Hid (∀ o, Only (fun _ => False) w (w.alloc o)) := fun o => (Only.refl _ w).alloc _
  by_cases hk : k = 1
  · subst hk
    have hn := h rfl
    have HA : Hid (pgA (1, n) = n % 256) := if_pos rfl
    have HN : Hid (pgN (1, n) = ((2 ^ (n / 256).toNat : Nat) : Int)) := if_pos rfl
    obtain ⟨q, r, hqr, hr, hq⟩ : ∃ q r : Nat, n = 256 * q + r ∧ r < 256 ∧ q ≤ 8 := ⟨(n / 256).toNat, (n % 256).toNat, by unfold RgOk at hn; omega, by omega, by unfold RgOk at hn; omega⟩
    have e1 : n.tdiv 256 = (q : Int) := by rw [Int.tdiv_eq_ediv_of_nonneg (by omega)]; omega
    have e2 : n.tmod 256 = (r : Int) := by rw [Int.tmod_eq_emod_of_nonneg (by omega)]; omega
    have e3 : (n / 256).toNat = q := by omega
    have e4 : n % 256 = (r : Int) := by omega
    have w1 : IntKind.i64.wrap (q : Int) = (q : Int) := by rw [IntKind.wrap_i64]; omega
    have w2 : IntKind.i64.wrap (r : Int) = (r : Int) := by rw [IntKind.wrap_i64]; omega
    rw [e3] at HN
    rw [e4] at HA
    clear h hn hqr e3 e4
    go_enter Try.func54, Try.ntmps54
    go_wp2_with fail
    go_loopw [4, 5] (fun v d wr => ∃ j p : Nat, v = .int .i64 (p : Int) ∧ d = .int .i64 (j : Int) ∧ j ≤ q ∧ p ≤ 256 ∧ Hid (p = 2 ^ j) ∧ wr = w.alloc (.cells #[.int .i64 1, .int .i64 n] 33)) (fun _ d _ => q - (intOf d).toNat)
    case atStart => exact ⟨0, 1, rfl, rfl, by omega, by omega, (show (1 : Nat) = 2 ^ 0 by decide), rfl⟩
    case round =>
      obtain ⟨j, p, rfl, rfl, hj, hp, HPJ, rfl⟩ := hrel
      by_cases hlt : j < q
      · have h1 : (j : Int) < (q : Int) := by omega
        have w3 : IntKind.i64.wrap ((j : Int) + 1) = (j : Int) + 1 := by rw [IntKind.wrap_i64]; omega
        have w4 : IntKind.i64.wrap (2 * (p : Int)) = 2 * (p : Int) := by rw [IntKind.wrap_i64]; omega
        have HP2 : Hid (2 * p = 2 ^ (j + 1) ∧ 2 * p ≤ 256) := by
          have h2 : 2 * p = 2 ^ (j + 1) := by rw [HPJ.out, Nat.pow_succ]; omega
          have h3 : 2 ^ (j + 1) ≤ 2 ^ 8 := Nat.pow_le_pow_right (by decide) (by omega)
          exact ⟨h2, by omega⟩
        clear hlt
        go_wp2_with fail
        go_roundw
        case rel => exact ⟨j + 1, 2 * p, by go_num, by go_num, by omega, HP2.out.2, HP2.out.1, trivial⟩
        case measure => simp only [intOf]; omega
      · obtain rfl : j = q := by omega
        have h1 : ¬ (j : Int) < (j : Int) := by omega
        rw [← HPJ.out] at HN
        clear hlt
        go_wp2_with fail
        all_goals
          go_ret2
          exact ⟨by rw [HA.out, HN.out]; rfl, HO.out _⟩
  · have HA : Hid (pgA (k, n) = n) := if_neg hk
    have HN : Hid (pgN (k, n) = 1) := if_neg hk
    have h1 : (k != 1) = true := by simpa using hk
    have h2 : (k == 1) = false := by simpa using hk
    clear h
    go_enter Try.func54, Try.ntmps54
    go_wp2_with fail
    all_goals
      go_ret2
      exact ⟨by rw [HA.out, HN.out]; rfl, HO.out _⟩
theorem meets_ok (a n b m : Int) (h1 : IntKind.i64.wrap (b + m) = b + m) (h2 : IntKind.i64.wrap (a + n) = a + n) (w : World) : Calls Try.prog 55 #[.int .i64 a, .int .i64 n, .int .i64 b, .int .i64 m] w fun e w' => e = .returned (.bool (meetN a n b m)) ∧ w' = w := by
  by_cases h3 : a < b + m
  · by_cases h4 : b < a + n
    · have HT : Hid (meetN a n b m = true) := decide_eq_true ⟨h3, h4⟩
      go_enter Try.func55, Try.ntmps55
      go_wp2_with fail
      all_goals
        go_ret
        exact ⟨by rw [HT.out]; rfl, rfl⟩
    · have HT : Hid (meetN a n b m = false) := decide_eq_false (fun h => h4 h.2)
      go_enter Try.func55, Try.ntmps55
      go_wp2_with fail
      all_goals
        go_ret
        exact ⟨by rw [HT.out]; rfl, rfl⟩
  · have HT : Hid (meetN a n b m = false) := decide_eq_false (fun h => h3 h.1)
    go_enter Try.func55, Try.ntmps55
    go_wp2_with fail
    all_goals
      go_ret
      exact ⟨by rw [HT.out]; rfl, rfl⟩
/-- The document's pool; U: blocks that are none of its own. -/
structure PoAt (U : Nat → Prop) (w : World) (pb : Nat) (P : Int) (vo vr : Value) (os rs : List (Int × Int)) : Prop where
  r : w.heap[pb]? = some (.cells #[.int .i64 P, vo, vr] 70 (0, 0))
  o : OwnL slL w 0 33 vo os
  g : OwnL slL w 0 104 vr rs
  ur : ¬ U pb
  uo : ∀ k, vo.ownBlock = some k → ¬ U k
  ug : ∀ k, vr.ownBlock = some k → ¬ U k
  low : ∀ k, U k → k < w.heap.size
  no : os.length ≤ 1000000
  ng : rs.length ≤ 1000000
variable {U S : Nat → Prop} {w w2 : World} {pb : Nat} {P : Int} {vo vr : Value} {os rs : List (Int × Int)}
theorem PoAt.c0 (h : PoAt U w pb P vo vr os rs) : w.cell? ⟨pb, 0, none⟩ = some (.int .i64 P) := (cell_of_row _ _ 0 _ _ (0, 0) h.r).trans rfl
theorem PoAt.c1 (h : PoAt U w pb P vo vr os rs) : w.cell? ⟨pb, 1, none⟩ = some vo := (cell_of_row _ _ 1 _ _ (0, 0) h.r).trans rfl
theorem PoAt.c2 (h : PoAt U w pb P vo vr os rs) : w.cell? ⟨pb, 2, none⟩ = some vr := (cell_of_row _ _ 2 _ _ (0, 0) h.r).trans rfl
theorem PoAt.fz (h : PoAt U w pb P vo vr os rs) (j : Nat) : w.frozen? ⟨pb, j, none⟩ = false := by
  have := h.r
  simp [World.frozen?, this]
theorem PoAt.aside (h : PoAt U w pb P vo vr os rs) (ho : Only S w w2) (h1 : ¬ S pb) (h2 : ∀ k, vo.ownBlock = some k → ¬ S k) (h3 : ∀ k, vr.ownBlock = some k → ¬ S k) : PoAt U w2 pb P vo vr os rs :=
  ⟨by rw [ho.block pb (lt_of_some h.r) h1]; exact h.r, h.o.kept ho h2, h.g.kept ho h3, h.ur, h.uo, h.ug, fun k hk => Nat.lt_of_lt_of_le (h.low k hk) ho.size, h.no, h.ng⟩
theorem PoAt.only (h : PoAt U w pb P vo vr os rs) (ho : Only S w w2) (hS : ∀ k, S k → U k) : PoAt U w2 pb P vo vr os rs := h.aside ho (fun s => h.ur (hS _ s)) (fun k hk s => h.uo k hk (hS _ s)) (fun k hk s => h.ug k hk (hS _ s))
theorem PoAt.quiet (h : PoAt U w pb P vo vr os rs) (ho : Only (fun _ => False) w w2) : PoAt U w2 pb P vo vr os rs := h.only ho (fun _ h => h.elim)
/-- A row of pairs, as it lies. -/
theorem own_two {base : Nat} {e : TypeId} {v : Value} {xs : List (Int × Int)} (h : OwnL slL w base e v xs) : ∃ p c, v = .slice p xs.length c ∧ ∀ (k : Nat) (hk : k < xs.length), ∃ g, p = some ⟨g, 0, none⟩ ∧ w.cell? ⟨g, k * 2, none⟩ = some (.int .i64 xs[k].1) ∧ w.cell? ⟨g, k * 2 + 1, none⟩ = some (.int .i64 xs[k].2) := by
  obtain ⟨p, c, rfl, _, _, hg⟩ := h.form
  refine ⟨p, c, rfl, fun k hk => ?_⟩
  obtain ⟨g, rfl, _⟩ := hg (by omega)
  have h0 := h.cell k 0 hk (by decide)
  have h1 := h.cell k 1 hk (by decide)
  exact ⟨g, rfl, h0, h1⟩
/-- Where an untyped is among them. -/
def rgF (rs : List (Int × Int)) (n : Int) : Option Nat := idxF (fun b => decide (b.1 = n)) rs 0
theorem region_ok (h : PoAt U w pb P vo vr os rs) (n : Int) : Calls Try.prog 56 #[.pointer (some ⟨pb, 0, none⟩), .int .i64 n] w fun e w' => e = .returned (.int .i64 (idI (rgF rs n))) ∧ w' = w := by
  obtain ⟨p, c, rfl, hb⟩ := own_two h.g
  have c0 := h.c2
  have HB := Vx.hid hb
  have hn := h.ng
  clear h hb
  obtain ⟨N, hN⟩ : ∃ N, N = rs.length := ⟨_, rfl⟩
  have HN := Vx.hid hN
  rw [← hN] at c0 hn
  clear hN
  go_enter Try.func56, Try.ntmps56
  go_wp2_with fail
  go_loopw [5] (fun d wr => ∃ k : Nat, d = .int .i64 (k : Int) ∧ k ≤ N ∧ Hid (idxF (fun b => decide (b.1 = n)) (rs.drop k) k = rgF rs n) ∧ wr = w) (fun d _ => N - (intOf d).toNat)
  case atStart => exact ⟨0, rfl, by omega, (show idxF _ (rs.drop 0) 0 = _ from by rw [List.drop_zero]; rfl), rfl⟩
  case round =>
    obtain ⟨k, rfl, hk, HQ, rfl⟩ := hrel
    by_cases hlt : k < N
    · have hlb : k < rs.length := by have := HN.out; omega
      have h1 : (k : Int) < (N : Int) := by omega
      have hidx : 0 ≤ (k : Int) ∧ (k : Int) < (N : Int) := by omega
      have hwk : IntKind.i64.wrap ((k : Int) + 1) = (k : Int) + 1 := by rw [IntKind.wrap_i64]; omega
      obtain ⟨g, rfl, b0, _⟩ := HB.out k hlb
      have hq := HQ.out
      rw [idxF_step rs k hlb] at hq
      by_cases he : rs[k].1 = n
      · rw [if_pos (decide_eq_true he)] at hq
        have HE := Vx.hid hq
        rw [he] at b0
        clear hq hlt HQ he
        go_wp2_with fail
        all_goals
          go_ret
          exact ⟨by rw [← HE.out]; rfl, rfl⟩
      · rw [if_neg (by simpa using he)] at hq
        have HE := Vx.hid hq
        have he2 : (rs[k].1 == n) = false := by simpa using he
        generalize rs[k].1 = m at b0 he he2
        clear hq hlt HQ
        go_wp2_with fail
        go_roundw
        case rel => exact ⟨k + 1, by go_num, by omega, HE, trivial⟩
        case measure => simp only [intOf]; omega
    · obtain rfl : k = N := by omega
      have hq := HQ.out
      rw [HN.out, idxF_end] at hq
      have HE := Vx.hid hq
      have h1 : ¬ (k : Int) < (k : Int) := by omega
      clear hq hlt HQ
      go_wp2_with fail
      all_goals
        go_ret
        exact ⟨by rw [← HE.out]; rfl, rfl⟩
end Go.Proofs.Ytbbabpgmclhinaa

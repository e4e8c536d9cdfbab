import Derived.Test.YtbbabpgmclhinaaCs6
import Derived.Test.YtbbabpgmclhinaaCs4
import Derived.Test.YtbbabpgmclhinaaCs22
import Derived.Test.YtbbabpgmclhinaaCs8
import Derived.Test.YtbbabpgmclhinaaCs44
import Derived.Test.YtbbabpgmclhinaaCs49
/- PoolApart: extent, apart. -/
namespace Go.Proofs.Ytbbabpgmclhinaa
open Go.ChangeShapes Go.WideShapes Go.ChangeAt Go.RowKit
open Go.Vx
set_option linter.unusedVariables false

set_option maxRecDepth 100000 in
set_option maxHeartbeats 1000000 in
theorem kextent_ok (k n : Int) (h : k = 1 → RgOk n) (w : World) : Calls Try.prog 18 #[.agg #[.int .i64 k, .int .i64 n]] w fun e w' => e = .returned (.tuple #[.int .i64 (pgA (k, n)), .int .i64 (pgN (k, n))]) ∧ Only (fun _ => False) w w' := by
  have HO : Hid (∀ o, Only (fun _ => False) w (w.alloc o)) := fun o => (Only.refl _ w).alloc _
  by_cases hk : k = 1
  · subst hk
    have hn := h rfl
    have HA : Hid (pgA (1, n) = n % 256) := if_pos rfl
    have HN : Hid (pgN (1, n) = ((2 ^ (n / 256).toNat : Nat) : Int)) := if_pos rfl
    obtain ⟨q, r, hqr, hr, hq⟩ : ∃ q r : Nat, n = 256 * q + r ∧ r < 256 ∧ q ≤ 8 := ⟨(n / 256).toNat, (n % 256).toNat, by unfold RgOk at hn; omega, by omega, by unfold RgOk at hn; omega⟩
    have e1 : n.tdiv 256 = (q : Int) := by rw [Int.tdiv_eq_ediv_of_nonneg (by omega)]; omega
    have e2 : n.tmod 256 = (r : Int) := by rw [Int.tmod_eq_emod_of_nonneg (by omega)]; omega
    have e3 : (n / 256).toNat = q := by omega
    have e4 : n % 256 = (r : Int) := by omega
    have w1 : IntKind.i64.wrap (q : Int) = (q : Int) := by rw [IntKind.wrap_i64]; omega
    have w2 : IntKind.i64.wrap (r : Int) = (r : Int) := by rw [IntKind.wrap_i64]; omega
    rw [e3] at HN
    rw [e4] at HA
    clear h hn hqr e3 e4
    go_enter Try.func18, Try.ntmps18
    go_wp2_with fail
    go_loopw [4, 5] (fun v d wr => ∃ j p : Nat, v = .int .i64 (p : Int) ∧ d = .int .i64 (j : Int) ∧ j ≤ q ∧ p ≤ 256 ∧ Hid (p = 2 ^ j) ∧ wr = w.alloc (.cells #[.int .i64 1, .int .i64 n] 33)) (fun _ d _ => q - (intOf d).toNat)
    case atStart => exact ⟨0, 1, rfl, rfl, by omega, by omega, (show (1 : Nat) = 2 ^ 0 by decide), rfl⟩
    case round =>
      obtain ⟨j, p, rfl, rfl, hj, hp, HPJ, rfl⟩ := hrel
      by_cases hlt : j < q
      · have h1 : (j : Int) < (q : Int) := by omega
        have w3 : IntKind.i64.wrap ((j : Int) + 1) = (j : Int) + 1 := by rw [IntKind.wrap_i64]; omega
        have w4 : IntKind.i64.wrap (2 * (p : Int)) = 2 * (p : Int) := by rw [IntKind.wrap_i64]; omega
        have HP2 : Hid (2 * p = 2 ^ (j + 1) ∧ 2 * p ≤ 256) := by
          have h2 : 2 * p = 2 ^ (j + 1) := by rw [HPJ.out, Nat.pow_succ]; omega
          have h3 : 2 ^ (j + 1) ≤ 2 ^ 8 := Nat.pow_le_pow_right (by decide) (by omega)
          exact ⟨h2, by omega⟩
        clear hlt
        go_wp2_with fail
        go_roundw
        case rel => exact ⟨j + 1, 2 * p, by go_num, by go_num, by omega, HP2.out.2, HP2.out.1, trivial⟩
        case measure => simp only [intOf]; omega
      · obtain rfl : j = q := by omega
        have h1 : ¬ (j : Int) < (j : Int) := by omega
        rw [← HPJ.out] at HN
        clear hlt
        go_wp2_with fail
        all_goals
          go_ret2
          exact ⟨by rw [HA.out, HN.out]; rfl, HO.out _⟩
  · have HA : Hid (pgA (k, n) = n) := if_neg hk
    have HN : Hid (pgN (k, n) = 1) := if_neg hk
    have h1 : (k != 1) = true := by simpa using hk
    have h2 : (k == 1) = false := by simpa using hk
    clear h
    go_enter Try.func18, Try.ntmps18
    go_wp2_with fail
    all_goals
      go_ret2
      exact ⟨by rw [HA.out, HN.out]; rfl, HO.out _⟩
/-- Two things, the second ahead of the first in the list: they share no page, or one lies in the other. -/
def ApC (x y : Int × Int) : Prop := (pgA y + pgN y ≤ pgA x ∨ pgA x + pgN x ≤ pgA y) ∨ (x.1 = 1 ∧ y.1 = 1 ∧ pgA x ≤ pgA y ∧ pgA y + pgN y ≤ pgA x + pgN x ∧ pgN y < pgN x) ∨ (y.1 = 1 ∧ x.1 ≠ 1 ∧ pgA y ≤ pgA x ∧ pgA x + pgN x ≤ pgA y + pgN y)
def ObB (x : Int × Int) : Prop := (x.1 = 1 → RgOk x.2) ∧ 0 ≤ x.2 ∧ x.2 < 1000000
theorem obB_bd {x : Int × Int} (h : ObB x) : 0 ≤ pgA x ∧ pgA x < 1000000 ∧ 1 ≤ pgN x ∧ pgN x ≤ 256 := by
  have h1 := pgN_bd h.1
  have h2 := h.2
  refine ⟨?_, ?_, h1.1, h1.2⟩ <;> (unfold pgA; split <;> omega)
set_option maxRecDepth 100000 in
set_option maxHeartbeats 4000000 in
theorem apart_ok {w : World} {v : Value} {xs : List (Int × Int)} (h : LieL slL w v xs) (hb : ∀ x ∈ xs, ObB x) (ha : ∀ i k (hi : i < xs.length) (hk : k < i), ApC xs[i] (xs[k]'(by omega))) : Calls Try.prog 19 #[v] w fun e w' => e = .returned (.bool true) ∧ Only (fun _ => False) w w' := by
  obtain ⟨p, c, rfl, hn, hq⟩ := h
  have HQ : Hid (∀ (k : Nat) (hk : k < xs.length) wv, Only (fun _ => False) w wv → ∃ g, p = some ⟨g, 0, none⟩ ∧ wv.cell? ⟨g, k * 2, none⟩ = some (.int .i64 xs[k].1) ∧ wv.cell? ⟨g, k * 2 + 1, none⟩ = some (.int .i64 xs[k].2)) := fun k hk wv ho => by
    obtain ⟨g, hg, hc⟩ := hq k hk
    have c0 := hc 0 (by decide)
    have c1 := hc 1 (by decide)
    have hl : g < w.heap.size := World.block_lt_of_cell? w ⟨g, k * 2, none⟩ (c0.trans rfl)
    exact ⟨g, hg, (ho.cell (p := ⟨g, k * 2, none⟩) hl (fun h => h)).trans (c0.trans rfl), (ho.cell (p := ⟨g, k * 2 + 1, none⟩) hl (fun h => h)).trans (c1.trans rfl)⟩
  have HEX : Hid (∀ x : Int × Int, ObB x → ∀ wv, Calls Try.prog 18 #[.agg #[.int .i64 x.1, .int .i64 x.2]] wv fun e w' => e = .returned (.tuple #[.int .i64 (pgA x), .int .i64 (pgN x)]) ∧ Only (fun _ => False) wv w') := fun x hx wv => kextent_ok x.1 x.2 hx.1 wv
  obtain ⟨N, hN⟩ : ∃ N, N = xs.length := ⟨_, rfl⟩
  have HN := Vx.hid hN
  have HB := Vx.hid hb
  have HA := Vx.hid ha
  rw [← hN] at hn ⊢
  clear hq hN hb ha
  go_enter Try.func19, Try.ntmps19
  go_wp2_with fail
  go_loopw [3] (fun d wr => ∃ i : Nat, d = .int .i64 (i : Int) ∧ i ≤ N ∧ Hid (Only (fun _ => False) w wr)) (fun d _ => N - (intOf d).toNat)
  case atStart => exact ⟨0, rfl, by omega, Only.refl _ _⟩
  case round =>
    obtain ⟨i, rfl, hi, HO⟩ := hrel
    by_cases hlt : i < N
    · have hil : i < xs.length := by have := HN.out; omega
      have h1 : (i : Int) < (N : Int) := by omega
      have hidx : 0 ≤ (i : Int) ∧ (i : Int) < (N : Int) := by omega
      have hwi : IntKind.i64.wrap ((i : Int) + 1) = (i : Int) + 1 := by rw [IntKind.wrap_i64]; omega
      obtain ⟨g, rfl, a0, a1⟩ := HQ.out i hil _ HO.out
      have HAI : Hid (∀ k (hk : k < i), ApC xs[i] (xs[k]'(by omega))) := fun k hk => HA.out i k hil hk
      have HQI : Hid (∀ wv, Only (fun _ => False) w wv → wv.cell? ⟨g, i * 2, none⟩ = some (.int .i64 xs[i].1)) := fun wv ho => by
        obtain ⟨g', hg', b0, _⟩ := HQ.out i hil wv ho
        injection hg' with hg'
        injection hg' with hg'
        rw [hg']
        exact b0
      have hbi := HB.out xs[i] (List.getElem_mem _)
      have HE := Vx.hid (HEX.out xs[i] hbi)
      have bi := obB_bd hbi
      generalize xs[i] = x at a0 a1 HE HAI bi HQI hbi
      obtain ⟨x1, x2⟩ := x
      dsimp only at a0 a1 HE HQI
      have HAI2 : Hid (∀ k (hk : k < i), (pgA (xs[k]'(by omega)) + pgN (xs[k]'(by omega)) ≤ pgA (x1, x2) ∨ pgA (x1, x2) + pgN (x1, x2) ≤ pgA (xs[k]'(by omega))) ∨ (x1 = 1 ∧ (xs[k]'(by omega)).1 = 1 ∧ pgA (x1, x2) ≤ pgA (xs[k]'(by omega)) ∧ pgA (xs[k]'(by omega)) + pgN (xs[k]'(by omega)) ≤ pgA (x1, x2) + pgN (x1, x2) ∧ pgN (xs[k]'(by omega)) < pgN (x1, x2)) ∨ ((xs[k]'(by omega)).1 = 1 ∧ x1 ≠ 1 ∧ pgA (xs[k]'(by omega)) ≤ pgA (x1, x2) ∧ pgA (x1, x2) + pgN (x1, x2) ≤ pgA (xs[k]'(by omega)) + pgN (xs[k]'(by omega)))) := fun k hk => HAI.out k hk
      generalize pgA (x1, x2) = ax at HE HAI2 bi
      generalize pgN (x1, x2) = nx at HE HAI2 bi
      have HIL := Vx.hid hil
      clear hlt HAI hbi
      go_wp2_with fail
      refine (HE.out _).mono ?_
      rintro e w2 ⟨rfl, ho2⟩
      have HO2 := Vx.hid (HO.out.trans ho2)
      clear ho2 a0 a1
      go_wp2_with fail
      go_loopw [6] (fun d wr => ∃ k : Nat, d = .int .i64 (k : Int) ∧ k ≤ i ∧ Hid (Only (fun _ => False) w wr)) (fun d _ => i - (intOf d).toNat)
      case atStart => exact ⟨0, rfl, by omega, HO2⟩
      case round =>
        obtain ⟨k, rfl, hk, HO3⟩ := hrel
        by_cases hki : k < i
        · have hkl : k < xs.length := by have := HIL.out; omega
          have h2 : (k : Int) < (i : Int) := by omega
          have hidk : 0 ≤ (k : Int) ∧ (k : Int) < (N : Int) := by omega
          have hwk : IntKind.i64.wrap ((k : Int) + 1) = (k : Int) + 1 := by rw [IntKind.wrap_i64]; omega
          obtain ⟨g', hg', b0, b1⟩ := HQ.out k hkl _ HO3.out
          obtain rfl : g = g' := by simpa using hg'
          have HQK : Hid (∀ wv, Only (fun _ => False) w wv → wv.cell? ⟨g, k * 2, none⟩ = some (.int .i64 xs[k].1)) := fun wv ho => by
            obtain ⟨g', hg', b0, _⟩ := HQ.out k hkl wv ho
            injection hg' with hg'
            injection hg' with hg'
            rw [hg']
            exact b0
          have hbk := HB.out xs[k] (List.getElem_mem _)
          have HEK := Vx.hid (HEX.out xs[k] hbk)
          have bk := obB_bd hbk
          have hap := HAI2.out k hki
          generalize xs[k] = y at b0 b1 HEK hap bk HQK hbk
          obtain ⟨y1, y2⟩ := y
          dsimp only at b0 b1 HEK HQK hap
          generalize pgA (y1, y2) = ay at HEK hap bk
          generalize pgN (y1, y2) = ny at HEK hap bk
          have w1 : IntKind.i64.wrap (ay + ny) = ay + ny := by rw [IntKind.wrap_i64]; omega
          have w2' : IntKind.i64.wrap (ax + nx) = ax + nx := by rw [IntKind.wrap_i64]; omega
          have HKI : Hid (k + 1 ≤ i) := hki
          clear hkl hki hg' hbk
          go_wp2_with fail
          refine (HEK.out _).mono ?_
          rintro e w4 ⟨rfl, ho4⟩
          have HO4 := Vx.hid (HO3.out.trans ho4)
          have c0 := HQI.out _ HO4.out
          have c1 := HQK.out _ HO4.out
          have hii : 0 ≤ (i : Int) ∧ (i : Int) < (N : Int) := by have := HIL.out; have := HN.out; omega
          clear ho4 b0 b1
          by_cases m1 : ay + ny ≤ ax
          · clear hap
            go_wp2_with fail
            go_roundw
            case rel => exact ⟨k + 1, by go_num, HKI.out, HO4⟩
            case measure => have := HKI.out; simp only [intOf]; omega
          by_cases m2 : ax + nx ≤ ay
          · clear hap
            go_wp2_with fail
            go_roundw
            case rel => exact ⟨k + 1, by go_num, HKI.out, HO4⟩
            case measure => have := HKI.out; simp only [intOf]; omega
          rcases hap with hap | ⟨rfl, rfl, p1, p2, p3⟩ | ⟨rfl, p1, p2, p3⟩
          · omega
          · go_wp2_with fail
            all_goals
              go_roundw
              case rel => exact ⟨k + 1, by go_num, HKI.out, HO4⟩
              case measure => have := HKI.out; simp only [intOf]; omega
          · have e1 : (x1 == 1) = false := beq_eq_false_iff_ne.2 p1
            have e2 : (x1 != 1) = true := by simpa using p1
            by_cases p4 : nx < ny
            · go_wp2_with fail
              go_roundw
              case rel => exact ⟨k + 1, by go_num, HKI.out, HO4⟩
              case measure => have := HKI.out; simp only [intOf]; omega
            · go_wp2_with fail
              go_roundw
              case rel => exact ⟨k + 1, by go_num, HKI.out, HO4⟩
              case measure => have := HKI.out; simp only [intOf]; omega
        · have h2 : ¬ (k : Int) < (i : Int) := by omega
          clear hki
          go_wp2_with fail
          go_roundw
          case rel => exact ⟨i + 1, by go_num, by have := HIL.out; have := HN.out; omega, HO3⟩
          case measure => have := HIL.out; have := HN.out; simp only [intOf]; omega
    · have h1 : ¬ (i : Int) < (N : Int) := by omega
      clear hlt
      go_wp2_with fail
      all_goals
        go_ret
        exact ⟨rfl, HO.out⟩
end Go.Proofs.Ytbbabpgmclhinaa

/- PoolApart, pure. -/
namespace Go.Proofs.Ytbbabpgmclhinaa
open Go.Vx
set_option linter.unusedVariables false
variable {P : Int} {os rs : List (Int × Int)}

theorem map_inj {β : Type} {l : List (Int × Int)} {f : Int × Int → β} (h : (l.map f).Nodup) {x y : Int × Int} (hx : x ∈ l) (hy : y ∈ l) (he : f x = f y) : x = y := by
  obtain ⟨i, hi, rfl⟩ := List.mem_iff_getElem.1 hx
  obtain ⟨j, hj, rfl⟩ := List.mem_iff_getElem.1 hy
  rw [List.nodup_iff_pairwise_ne, List.pairwise_iff_getElem] at h
  rcases Nat.lt_trichotomy i j with hl | hl | hl
  · have h9 := h i j (by simpa using hi) (by simpa using hj) hl
    rw [List.getElem_map, List.getElem_map] at h9
    exact absurd he h9
  · subst hl; rfl
  · have h9 := h j i (by simpa using hj) (by simpa using hi) hl
    rw [List.getElem_map, List.getElem_map] at h9
    exact absurd he.symm h9
theorem all_mem {x : Int × Int} : x ∈ allL os rs ↔ x ∈ os ∨ ∃ r ∈ rs, x = (1, r.1) := by
  unfold allL
  rw [List.mem_append, List.mem_map]
  constructor
  · rintro (h | ⟨r, h, rfl⟩)
    · exact Or.inl h
    · exact Or.inr ⟨r, h, rfl⟩
  · rintro (h | ⟨r, h, rfl⟩)
    · exact Or.inl h
    · exact Or.inr ⟨r, h, rfl⟩
theorem all_ob (h : PWf P os rs) {x : Int × Int} (hx : x ∈ allL os rs) : ObB x := by
  have hp := h.p
  rcases all_mem.1 hx with hx | ⟨r, hr, rfl⟩
  · have := h.ok x hx
    exact ⟨fun h1 => by omega, by omega, by omega⟩
  · have := (h.rk r hr).1
    unfold RgOk at this
    exact ⟨fun _ => this, by simp only; omega, by simp only; omega⟩
theorem all_nodup (h : PWf P os rs) : (allL os rs).Nodup := by
  unfold allL
  rw [List.nodup_append]
  refine ⟨?_, ?_, fun a ha b hb => ?_⟩
  · have := h.on
    rw [List.nodup_iff_pairwise_ne, List.pairwise_map] at this
    rw [List.nodup_iff_pairwise_ne]
    exact this.imp (fun hab e => hab (by rw [e]))
  · have := h.rn
    rw [List.nodup_iff_pairwise_ne, List.pairwise_map] at this
    rw [List.nodup_iff_pairwise_ne, List.pairwise_map]
    exact this.imp (fun hab e => hab (by injection e))
  · obtain ⟨r, hr, rfl⟩ := List.mem_map.1 hb
    intro hc
    have := h.ok a ha
    rw [hc] at this
    simp only at this
    omega
theorem order_le {m n : Int} (hm : RgOk m) (hn : RgOk n) (h : m ≤ n) : bN m ≤ bN n := by
  unfold bN
  unfold RgOk at hm hn
  exact Nat.pow_le_pow_right (by decide) (by omega)
theorem order_lt {m n : Int} (hm : RgOk m) (hn : RgOk n) (h : bN m < bN n) : m < n := by
  refine Classical.byContradiction (fun hc => ?_)
  have := order_le hn hm (by omega)
  omega
/-- What the law looks at. -/
theorem all_apart (h : PWf P os rs) {ls : List (Int × Int)} (hp : ls.Perm (allL os rs)) (hs : ls.Pairwise leO) : ∀ i k (hi : i < ls.length) (hk : k < i), ApC ls[i] (ls[k]'(by omega)) := by
  intro i k hi hk
  have hle := (List.pairwise_iff_getElem.1 hs) k i (by omega) hi hk
  have hnd := hp.nodup_iff.2 (all_nodup h)
  have hne : ls[k]'(by omega) ≠ ls[i] := by
    rw [List.nodup_iff_pairwise_ne, List.pairwise_iff_getElem] at hnd
    exact hnd k i (by omega) hi hk
  have hx := hp.mem_iff.1 (List.getElem_mem hi)
  have hy := hp.mem_iff.1 (List.getElem_mem (show k < ls.length by omega))
  generalize ls[i] = x at hle hne hx
  generalize ls[k]'(by omega) = y at hle hne hy
  rcases all_mem.1 hx with hx | ⟨r, hr, rfl⟩
  · have kx := h.ok x hx
    have nx : x.1 ≠ 1 := by omega
    rcases all_mem.1 hy with hy | ⟨s, hs, rfl⟩
    · have ky := h.ok y hy
      have ny : y.1 ≠ 1 := by omega
      left
      rw [pgA_o nx, pgN_o nx, pgA_o ny, pgN_o ny]
      have : x.2 ≠ y.2 := fun e => hne (map_inj h.on hy hx e.symm)
      omega
    · unfold ApC
      rw [pgA_o nx, pgN_o nx, pgA_b, pgN_b]
      by_cases hin : (bA s.1 : Int) ≤ x.2 ∧ x.2 < (bA s.1 : Int) + (bN s.1 : Int)
      · exact Or.inr (Or.inr ⟨rfl, nx, by omega, by omega⟩)
      · left
        omega
  · rcases all_mem.1 hy with hy | ⟨s, hs, rfl⟩
    · have ky := h.ok y hy
      unfold leO ltO at hle
      simp only at hle
      omega
    · unfold ApC
      rw [pgA_b, pgN_b, pgA_b, pgN_b]
      obtain ⟨r1, r2, _⟩ := h.rk r hr
      obtain ⟨s1, s2, _⟩ := h.rk s hs
      have hlt : s.1 < r.1 := by
        have h3 : ¬ r.1 < s.1 := fun hc => hle (Or.inr ⟨rfl, hc⟩)
        have : s.1 ≠ r.1 := fun e => hne (by rw [e])
        omega
      have hbn := order_le s1 r1 (by omega)
      by_cases hm : Meet r.1 s.1
      · have hne2 : bN s.1 ≠ bN r.1 := fun e => by
          have := same_num r1 s1 r2 s2 hm e
          omega
        have hns := nest r2 s2 hm hbn
        exact Or.inr (Or.inl ⟨rfl, rfl, by omega, by omega, by omega⟩)
      · left
        unfold Meet at hm
        omega
/-- What is so between the rounds of PoolApart. -/
structure Apw (os rs : List (Int × Int)) : Prop where
  wf : PWf 64 os rs
  wh : ∃ mk, (1312, mk) ∈ rs
  sm : ∀ r ∈ rs, bN r.1 ≤ 32
theorem apw_start : addE 64 [] [] (1, 1312) = 0 ∧ addO 64 [] [] (1, 1312) = [] ∧ addG 64 [] [] (1, 1312) = [(1312, 0)] := by decide
theorem Apw.start : Apw [] [(1312, 0)] := by
  refine ⟨?_, ⟨0, by simp⟩, fun r hr => ?_⟩
  · have := (PWf.nil (P := 64) (by omega)).add (1, 1312)
    rw [apw_start.2.1, apw_start.2.2] at this
    exact this
  · rw [List.mem_singleton] at hr
    subst hr
    decide
theorem rgF_some {n : Int} {r : Int × Int} (hr : r ∈ rs) (hn : r.1 = n) : ∃ i, rgF rs n = some i := by
  cases hx : rgF rs n with
  | some i => exact ⟨i, rfl⟩
  | none =>
    have := idxF_none hx r hr
    simp [hn] at this
/-- What Empty and Remove tell of one that is there. -/
theorem rem_there (h : PWf P os rs) {o : Int × Int} (ho : o ∈ allL os rs) : (o.1 ≠ 1 ∧ remE os rs o = 0) ∨ (o.1 = 1 ∧ remE os rs o = (if liesB os rs o.2 = true then 16 else 0) ∧ emptyR os rs o.2 = (!liesB os rs o.2, 0)) := by
  rcases all_mem.1 ho with ho | ⟨r, hr, rfl⟩
  · have := h.ok o ho
    left
    refine ⟨by omega, ?_⟩
    unfold remE
    rw [if_neg (by omega), if_pos (List.contains_iff_mem.2 ho)]
  · right
    obtain ⟨i, hi⟩ := rgF_some hr rfl
    refine ⟨rfl, ?_, ?_⟩
    · unfold remE
      rw [if_pos rfl]
      simp only [hi]
    · unfold emptyR
      simp only [hi]
theorem Apw.rem (h : Apw os rs) {o : Int × Int} (hne : o ≠ (1, 1312)) : Apw (remO os o) (remG os rs o) := by
  have hsub : (remG os rs o).Sublist rs := by
    unfold remG
    split
    · split
      · exact List.Sublist.refl _
      · rename_i i hi
        split
        · exact List.Sublist.refl _
        · have h1 : (rs.take i ++ rs.drop (i + 1)).Sublist (rs.take i ++ rs.drop i) := by
            refine List.Sublist.append (List.Sublist.refl _) ?_
            rw [← List.drop_drop]
            exact List.drop_sublist _ _
          rw [List.take_append_drop] at h1
          exact h1
    · exact List.Sublist.refl _
  refine ⟨h.wf.rem o, ?_, fun r hr => h.sm r (hsub.mem hr)⟩
  obtain ⟨mk, hw⟩ := h.wh
  refine ⟨mk, ?_⟩
  unfold remG
  split
  · rename_i hk
    split
    · exact hw
    · rename_i i hi
      split
      · exact hw
      · obtain ⟨hil, hin⟩ := rgF_at hi
        obtain ⟨j, hj, hjw⟩ := List.mem_iff_getElem.1 hw
        have hij : i ≠ j := fun e => by
          subst e
          rw [hjw] at hin
          simp only at hin
          exact hne (Prod.ext hk hin.symm)
        rw [List.mem_append]
        by_cases hl : j < i
        · left
          rw [← hjw]
          exact List.mem_take_iff_getElem.2 ⟨j, by omega, rfl⟩
        · right
          rw [← hjw]
          exact List.mem_drop_iff_getElem.2 ⟨j - (i + 1), by omega, by congr 1; omega⟩
  · exact hw
end Go.Proofs.Ytbbabpgmclhinaa

/- PoolApart, pure: what is given; all goes. -/
namespace Go.Proofs.Ytbbabpgmclhinaa
open Go.Vx
set_option linter.unusedVariables false
variable {P : Int} {os rs : List (Int × Int)}

/-- What is given lies in the untyped. -/
theorem give_each (h : PWf P os rs) {num kind order many y : Int} (he : giveE os rs num kind order many = 0) (hy : y ∈ giveRs os rs num kind order many) :
    (kind = 1 → RgOk y ∧ bN y < bN num ∧ bA num ≤ bA y ∧ bA y + bN y ≤ bA num + bN num) ∧ (kind ≠ 1 → (bA num : Int) ≤ y ∧ y < (bA num : Int) + (bN num : Int)) := by
  obtain ⟨hk, ho, hko, hm, i, hx, hk1, hroom⟩ := give_zero he
  unfold giveRs giveNs at hy
  rw [if_pos he, hx, pgA_b] at hy
  simp only [Option.getD_some] at hy
  have hP := h.p
  obtain ⟨hi, hnum⟩ := rgF_at hx
  obtain ⟨k1, k2, k3, k4, k5⟩ := h.rk _ (List.getElem_mem hi)
  rw [hnum] at k1 k2 k3 k5
  obtain ⟨n, hn⟩ : ∃ n : Nat, n = 2 ^ order.toNat := ⟨_, rfl⟩
  have hn0 : 0 < n := by rw [hn]; exact Nat.pow_pos (by decide)
  rw [← hn] at hroom hk1 hy
  obtain ⟨M, hM⟩ : ∃ M : Nat, M = giveM os rs num i n := ⟨_, rfl⟩
  rw [← hM] at hroom hy
  rw [pgN_b] at hroom hk1
  obtain ⟨t, ht, rfl⟩ := giveN_mem hy
  obtain ⟨mN, hmN⟩ : ∃ mN : Nat, many = (mN : Int) := ⟨many.toNat, by omega⟩
  have hmT : many.toNat = mN := by omega
  rw [hmT] at ht
  obtain ⟨z, hz⟩ : ∃ z : Nat, (z : Int) = (t : Int) * (n : Int) := ⟨t * n, Int.natCast_mul t n⟩
  have e2 : (z : Int) + (n : Int) ≤ many * (n : Int) := by
    have e1 : (t + 1) * n ≤ mN * n := Nat.mul_le_mul_right _ ht
    rw [Nat.add_mul, Nat.one_mul] at e1
    have e3 : ((t * n : Nat) : Int) = (t : Int) * (n : Int) := Int.natCast_mul t n
    have e4 : ((mN * n : Nat) : Int) = many * (n : Int) := by rw [hmN]; exact Int.natCast_mul mN n
    omega
  rw [← hz]
  constructor
  · intro hk2
    rw [if_pos hk2]
    have f1 : ((bA num : Int) + (M : Int) + (z : Int) + 256 * order) / 256 = order := by omega
    have f2 : ((bA num : Int) + (M : Int) + (z : Int) + 256 * order) % 256 = (bA num : Int) + (M : Int) + (z : Int) := by omega
    have f3 : bN ((bA num : Int) + (M : Int) + (z : Int) + 256 * order) = n := by unfold bN; rw [f1, hn]
    have f4 : bA ((bA num : Int) + (M : Int) + (z : Int) + 256 * order) = bA num + M + z := by unfold bA at f2 ⊢; omega
    have := hk1 hk2
    refine ⟨by unfold RgOk; omega, by rw [f3]; omega, by rw [f4]; omega, by rw [f3, f4]; omega⟩
  · intro hk2
    rw [if_neg hk2]
    omega
theorem give_count {num kind order many : Int} (he : giveE os rs num kind order many = 0) : (giveRs os rs num kind order many).length = many.toNat := by
  unfold giveRs giveNs
  rw [if_pos he, giveN_len]
/-- Of one that is there Give refuses only for room. -/
theorem give_room {num kind order many : Int} {r : Int × Int} (hr : r ∈ rs) (hn : r.1 = num) (hk : 1 ≤ kind ∧ kind ≤ 8) (ho : 0 ≤ order ∧ order ≤ 8) (hko : kind ≠ 1 → order = 0) (hm : 1 ≤ many ∧ many ≤ 64) : giveE os rs num kind order many = 0 ∨ (giveE os rs num kind order many = 14 ∧ giveRs os rs num kind order many = []) := by
  obtain ⟨i, hi⟩ := rgF_some hr hn
  have key : giveE os rs num kind order many = 0 ∨ giveE os rs num kind order many = 14 := by
    unfold giveE
    rw [if_neg (by omega), if_neg (by
      rintro (h | h | h | h | h)
      · omega
      · omega
      · exact h.2 (hko h.1)
      · omega
      · omega), hi]
    simp only
    split
    · exact Or.inr rfl
    · exact Or.inl rfl
  rcases key with h | h
  · exact Or.inl h
  · refine Or.inr ⟨h, ?_⟩
    unfold giveRs
    rw [if_neg (by rw [h]; decide)]
theorem Apw.give (h : Apw os rs) (num kind order many : Int) : Apw (giveRO os rs num kind order many) (giveRG os rs num kind order many) := by
  by_cases he : giveE os rs num kind order many = 0
  · obtain ⟨hk, ho, hko, hm, i, hx, hk1, hroom⟩ := give_zero he
    obtain ⟨hi, hnum⟩ := rgF_at hx
    have hG : giveRG os rs num kind order many = (if kind = 1 then rs ++ (giveRs os rs num kind order many).map (fun y => (y, 0)) else rs).set i (num, (giveM os rs num i (2 ^ order.toNat) : Int) + many * ((2 ^ order.toNat : Nat) : Int)) := by
      unfold giveRG giveG giveRs
      rw [if_pos he, if_pos he, hx]
      rfl
    generalize (giveM os rs num i (2 ^ order.toNat) : Int) + many * ((2 ^ order.toNat : Nat) : Int) = m' at hG
    refine ⟨h.wf.give num kind order many, ?_, fun r hr => ?_⟩
    · obtain ⟨mk, hw⟩ := h.wh
      obtain ⟨j, hj, hjw⟩ := List.mem_iff_getElem.1 hw
      rw [hG]
      by_cases hij : i = j
      · subst hij
        rw [hjw] at hnum
        simp only at hnum
        refine ⟨m', ?_⟩
        rw [← hnum]
        refine List.mem_iff_getElem.2 ⟨i, ?_, ?_⟩
        · rw [List.length_set]
          split
          · rw [List.length_append]; omega
          · exact hi
        · simp
      · refine ⟨mk, ?_⟩
        have hlen : j < (if kind = 1 then rs ++ (giveRs os rs num kind order many).map (fun y => (y, (0 : Int))) else rs).length := by
          split
          · rw [List.length_append]; omega
          · exact hj
        refine List.mem_iff_getElem.2 ⟨j, by rw [List.length_set]; exact hlen, ?_⟩
        rw [List.getElem_set_ne hij]
        rw [← hjw]
        split
        · exact List.getElem_append_left hj
        · rfl
    · rw [hG] at hr
      rcases List.mem_or_eq_of_mem_set hr with hr | rfl
      · by_cases hk2 : kind = 1
        · rw [if_pos hk2] at hr
          rcases List.mem_append.1 hr with hr | hr
          · exact h.sm r hr
          · obtain ⟨y, hy, rfl⟩ := List.mem_map.1 hr
            have h1 := ((give_each h.wf he hy).1 hk2).2.1
            have h2 := h.sm _ (List.getElem_mem hi)
            rw [hnum] at h2
            simp only
            omega
        · rw [if_neg hk2] at hr
          exact h.sm r hr
      · have h2 := h.sm _ (List.getElem_mem hi)
        rw [hnum] at h2
        exact h2
  · unfold giveRO giveRG
    rw [if_neg he, if_neg he]
    exact h
/-- All but the whole goes, one by one. -/
def cleanF : List (Int × Int) → List (Int × Int) × List (Int × Int) → List (Int × Int) × List (Int × Int)
  | [], s => s
  | x :: l, s => cleanF l (if x = (1, 1312) then s else (remO s.1 x, remG s.1 s.2 x))
theorem cleanF_app (x : Int × Int) : ∀ (l : List (Int × Int)) (s : List (Int × Int) × List (Int × Int)), cleanF (l ++ [x]) s = (if x = (1, 1312) then cleanF l s else (remO (cleanF l s).1 x, remG (cleanF l s).1 (cleanF l s).2 x))
  | [], s => by
    show cleanF [] _ = _
    unfold cleanF
    rfl
  | y :: l, s => by
    show cleanF (l ++ [x]) _ = _
    rw [cleanF_app x l]
    rfl
theorem cleanF_apw : ∀ (l : List (Int × Int)) {s : List (Int × Int) × List (Int × Int)}, Apw s.1 s.2 → Apw (cleanF l s).1 (cleanF l s).2
  | [], s, h => h
  | x :: l, s, h => by
    refine cleanF_apw l ?_
    by_cases hx : x = (1, 1312)
    · rw [if_pos hx]; exact h
    · rw [if_neg hx]; exact h.rem hx
theorem remG_sub (os rs : List (Int × Int)) (o : Int × Int) : ∀ r ∈ remG os rs o, r ∈ rs := by
  intro r hr
  unfold remG at hr
  split at hr
  · split at hr
    · exact hr
    · split at hr
      · exact hr
      · rcases List.mem_append.1 hr with hr | hr
        · exact List.mem_of_mem_take hr
        · exact List.mem_of_mem_drop hr
  · exact hr
theorem cleanF_sub : ∀ (l : List (Int × Int)) (s : List (Int × Int) × List (Int × Int)), (∀ x ∈ (cleanF l s).1, x ∈ s.1 ∧ (x ∈ l → x.1 = 1)) ∧ ∀ r ∈ (cleanF l s).2, r ∈ s.2
  | [], s => ⟨fun x hx => ⟨hx, fun h => by cases h⟩, fun r hr => hr⟩
  | y :: l, s => by
    have ih := cleanF_sub l (if y = (1, 1312) then s else (remO s.1 y, remG s.1 s.2 y))
    by_cases hy : y = (1, 1312)
    · rw [if_pos hy] at ih
      have e : cleanF (y :: l) s = cleanF l s := by show cleanF l _ = _; rw [if_pos hy]
      rw [e]
      refine ⟨fun x hx => ⟨(ih.1 x hx).1, fun hm => ?_⟩, ih.2⟩
      rcases List.mem_cons.1 hm with rfl | hm
      · rw [hy]
      · exact (ih.1 x hx).2 hm
    · rw [if_neg hy] at ih
      have e : cleanF (y :: l) s = cleanF l (remO s.1 y, remG s.1 s.2 y) := by show cleanF l _ = _; rw [if_neg hy]
      rw [e]
      refine ⟨fun x hx => ?_, fun r hr => remG_sub _ _ _ _ (ih.2 r hr)⟩
      obtain ⟨h1, h2⟩ := ih.1 x hx
      have h3 : x ∈ s.1 ∧ (x = y → y.1 = 1) := by
        simp only at h1
        unfold remO at h1
        split at h1
        · rename_i hk
          exact ⟨h1, fun _ => hk⟩
        · have := List.mem_filter.1 h1
          exact ⟨this.1, fun hc => by simp [hc] at this⟩
      refine ⟨h3.1, fun hm => ?_⟩
      rcases List.mem_cons.1 hm with rfl | hm
      · exact h3.2 rfl
      · exact h2 hm
/-- Behind a first round no object is there. -/
theorem clean_one (h : PWf P os rs) {ls : List (Int × Int)} (hp : ls.Perm (allL os rs)) : (cleanF ls (os, rs)).1 = [] := by
  rw [List.eq_nil_iff_forall_not_mem]
  intro x hx
  obtain ⟨h1, h2⟩ := (cleanF_sub ls (os, rs)).1 x hx
  have h3 := h2 (hp.mem_iff.2 (all_mem.2 (Or.inl h1)))
  have := h.ok x h1
  omega
/-- Behind a second one no untyped but the whole. -/
theorem clean_go : ∀ (l : List (Int × Int)) (rs : List (Int × Int)), Apw [] rs → (∀ x ∈ l, x.1 = 1) → l.Pairwise leO → (∀ r ∈ rs, r.1 = 1312 ∨ (1, r.1) ∈ l) → ∀ r ∈ (cleanF l ([], rs)).2, r.1 = 1312
  | [], rs, _, _, _, h, r, hr => by
    rcases h r hr with h | h
    · exact h
    · cases h
  | x :: l, rs, hA, h1, hs, h, r, hr => by
    have hx1 := h1 x List.mem_cons_self
    have hsl := (List.pairwise_cons.1 hs)
    have hr' : r ∈ (cleanF l (if x = (1, 1312) then ([], rs) else (remO [] x, remG [] rs x))).2 := hr
    by_cases hx : x = (1, 1312)
    · rw [if_pos hx] at hr'
      refine clean_go l rs hA (fun y hy => h1 y (List.mem_cons_of_mem _ hy)) hsl.2 (fun r hr => ?_) r hr'
      rcases h r hr with h2 | h2
      · exact Or.inl h2
      · rcases List.mem_cons.1 h2 with h2 | h2
        · rw [hx] at h2
          injection h2 with _ h2
          exact Or.inl h2
        · exact Or.inr h2
    · rw [if_neg hx] at hr'
      have e0 : remO [] x = [] := by unfold remO; rw [if_pos hx1]
      rw [e0] at hr'
      have hA2 := hA.rem hx
      rw [e0] at hA2
      refine clean_go l (remG [] rs x) hA2 (fun y hy => h1 y (List.mem_cons_of_mem _ hy)) hsl.2 (fun r hr => ?_) r hr'
      have hrr := remG_sub _ _ _ _ hr
      rcases h r hrr with h2 | h2
      · exact Or.inl h2
      · rcases List.mem_cons.1 h2 with h2 | h2
        · -- it is the one that goes
          exfalso
          have hn : r.1 = x.2 := by rw [← h2]
          obtain ⟨i, hi⟩ := rgF_some hrr hn
          have hl : liesB [] rs x.2 = false := by
            cases hl : liesB [] rs x.2 with
            | false => rfl
            | true =>
              exfalso
              unfold liesB at hl
              simp only [List.any_nil, Bool.false_or, List.any_eq_true] at hl
              obtain ⟨s, hs2, hs3⟩ := hl
              unfold liesR at hs3
              rw [Bool.and_eq_true, decide_eq_true_iff, pgN_b, pgN_b] at hs3
              have hbn : bN s.1 < bN x.2 := by omega
              have hx2 := (hA.wf.rk r hrr).1
              rw [hn] at hx2
              have hlt := order_lt (hA.wf.rk s hs2).1 hx2 hbn
              rcases h s hs2 with h4 | h4
              · have h5 := hA.sm r hrr
                rw [hn] at h5
                rw [h4] at hbn
                have : bN 1312 = 32 := by decide
                omega
              · rcases List.mem_cons.1 h4 with h4 | h4
                · have : s.1 = x.2 := by rw [← h4]
                  omega
                · have h5 := hsl.1 _ h4
                  exact h5 (Or.inr ⟨hx1.symm, hlt⟩)
          have e1 : remG [] rs x = rs.take i ++ rs.drop (i + 1) := by
            unfold remG
            rw [if_pos hx1]
            simp only [hi, hl]
            rfl
          rw [e1] at hr
          obtain ⟨hil, hin⟩ := rgF_at hi
          have hnd := hA.wf.rn
          rw [List.nodup_iff_pairwise_ne, List.pairwise_map, List.pairwise_iff_getElem] at hnd
          rcases List.mem_append.1 hr with hr | hr
          · obtain ⟨j, hj, hjr⟩ := List.mem_take_iff_getElem.1 hr
            exact hnd j i (by omega) hil (by omega) (by rw [hjr, hin, hn])
          · obtain ⟨j, hj, hjr⟩ := List.mem_drop_iff_getElem.1 hr
            exact hnd i (i + 1 + j) hil (by omega) (by omega) (by rw [hin, hjr, hn])
        · exact Or.inr h2
theorem clean_two (h : Apw [] rs) {ls : List (Int × Int)} (hp : ls.Perm (allL [] rs)) (hs : ls.Pairwise leO) : ∀ r ∈ (cleanF ls ([], rs)).2, r.1 = 1312 := by
  refine clean_go ls rs h (fun x hx => ?_) hs (fun r hr => Or.inr (hp.mem_iff.2 (all_mem.2 (Or.inr ⟨r, hr, rfl⟩))))
  rcases all_mem.1 (hp.mem_iff.1 hx) with h1 | ⟨r, _, rfl⟩
  · cases h1
  · rfl
/-- What is left at the end. -/
theorem apw_end (h : Apw [] rs) (h1 : ∀ r ∈ rs, r.1 = 1312) : ∃ mk, rs = [(1312, mk)] := by
  obtain ⟨mk, hw⟩ := h.wh
  have hnd := h.wf.rn
  cases rs with
  | nil => cases hw
  | cons r l =>
    cases l with
    | nil =>
      rw [List.mem_singleton] at hw
      exact ⟨mk, by rw [hw]⟩
    | cons s l =>
      exfalso
      simp only [List.map_cons, List.nodup_cons, List.mem_cons, not_or] at hnd
      exact hnd.1.1 (by rw [h1 r (by simp), h1 s (by simp)])
theorem give_end (mk : Int) : giveE [] [(1312, mk)] 1312 2 0 32 = 0 ∧ giveRs [] [(1312, mk)] 1312 2 0 32 = giveN 32 1 0 32 := by
  have hx : rgF [(1312, mk)] 1312 = some 0 := by unfold rgF idxF; rfl
  have hl : liesB [] [(1312, mk)] 1312 = false := by
    unfold liesB
    simp only [List.any_nil, Bool.false_or, List.any_cons, Bool.or_false]
    unfold liesR
    rw [Bool.and_eq_false_iff]
    right
    exact decide_eq_false (by simp)
  have hM : giveM [] [(1312, mk)] 1312 0 (2 ^ (0 : Int).toNat) = 0 := by
    unfold giveM
    rw [hl, if_neg (by decide)]
    decide
  have he : giveE [] [(1312, mk)] 1312 2 0 32 = 0 := by
    unfold giveE
    rw [if_neg (by omega), if_neg (by omega), hx]
    simp only
    rw [hM]
    decide
  refine ⟨he, ?_⟩
  unfold giveRs giveNs
  rw [if_pos he, hx]
  simp only [Option.getD_some]
  rw [hM]
  decide
end Go.Proofs.Ytbbabpgmclhinaa

/- vaultkeep's pick. -/
namespace Go.Proofs.Ytbbabpgmclhinaa
open Go.ChangeShapes Go.WideShapes Go.ChangeAt Go.RowKit
open Go.Vx

theorem pickK_any (m : Nat) (hm : 1 ≤ m) (hm2 : m ≤ 4398046511104) (n : Int) (h0 : -9223372036854775808 ≤ n) (h1 : n ≤ 9223372036854775807) (w : World) :
    Calls Try.prog 15 #[.int .i64 n, .int .i64 (m : Int)] w fun e w' => e = .returned (.int .i64 (pickL n m : Nat)) ∧ w' = w := by
  have hz : ¬ (m : Int) = 0 := by omega
  have hz1 : ¬ (m : Int) = -1 := by omega
  by_cases hn : n < 0
  · have hr : -(n + 1).tmod (m : Int) = (pickL n m : Nat) := by
      rw [← Int.neg_tmod, Int.tmod_eq_emod_of_nonneg (by omega)]
      unfold pickL
      rw [if_pos hn, Int.natCast_emod, Int.toNat_of_nonneg (by omega)]
    have HR := Vx.hid hr
    clear hr
    generalize pickL n m = k at HR
    go_enter Try.func15, Try.ntmps15
    go_wp2
    all_goals
      go_ret
      refine ⟨?_, rfl⟩
      show Ending.returned (Value.int .i64 (-(n + 1).tmod (m : Int))) = _
      rw [HR.out]
  · have hr : n.tmod (m : Int) = (pickL n m : Nat) := by
      rw [Int.tmod_eq_emod_of_nonneg (by omega)]
      unfold pickL
      rw [if_neg hn, Int.natCast_emod, Int.toNat_of_nonneg (by omega)]
    have hk : (pickL n m) < m := Nat.mod_lt _ (by omega)
    generalize pickL n m = k at hr hk
    have hw3 : IntKind.i64.wrap (k : Int) = (k : Int) := by rw [IntKind.wrap_i64]; omega
    go_enter Try.func15, Try.ntmps15
    go_wp2
    all_goals
      go_ret
      first | exact ⟨rfl, rfl⟩ | skip
end Go.Proofs.Ytbbabpgmclhinaa

/- PoolApart: the pool under way, with blocks of the law's own. -/
namespace Go.Proofs.Ytbbabpgmclhinaa
open Go.ChangeShapes Go.WideShapes Go.ChangeAt Go.RowKit
open Go.Vx
set_option linter.unusedVariables false

def PaI (W : World) (xb : Nat) (F : List (Nat × Obj)) (os rs : List (Int × Int)) (wv : World) : Prop :=
  ∃ X : Nat → Prop, XpAt (fun k => k < wv.heap.size ∧ ¬ X k) wv xb 64 os rs ∧ Apw os rs ∧ (∀ k, X k → W.heap.size ≤ k ∧ k < wv.heap.size) ∧ Below W.heap.size W wv ∧ ∀ p ∈ F, wv.heap[p.1]? = some p.2 ∧ ¬ X p.1 ∧ W.heap.size ≤ p.1
variable {W : World} {xb : Nat} {F : List (Nat × Obj)} {os rs os2 rs2 : List (Int × Int)} {wv w2 : World}
theorem PaI.apw (h : PaI W xb F os rs wv) : Apw os rs := by obtain ⟨X, _, h, _⟩ := h; exact h
theorem PaI.be (h : PaI W xb F os rs wv) : Below W.heap.size W wv := by obtain ⟨X, _, _, _, h, _⟩ := h; exact h
theorem PaI.quiet (h : PaI W xb F os rs wv) (ho : Only (fun _ => False) wv w2) : PaI W xb F os rs w2 := by
  obtain ⟨X, h1, h2, h3, h4, h5⟩ := h
  have hs := ho.size
  refine ⟨X, h1.step ho (fun _ _ h => h.elim) (fun k hk => ?_), h2, fun k hk => ⟨(h3 k hk).1, by have := (h3 k hk).2; omega⟩, h4.trans (ho.below h4.size (fun _ _ h => h)), fun p hp => ⟨Only.keep ho (h5 p hp).1 (fun h => h), (h5 p hp).2⟩⟩
  by_cases h6 : k < wv.heap.size
  · exact Or.inl ⟨h6, hk.2⟩
  · exact Or.inr ⟨by omega, hk.1⟩
theorem PaI.more (h : PaI W xb F os rs wv) (ho : Only (fun _ => False) wv w2) {b : Nat} {o : Obj} (hb : w2.heap[b]? = some o) (hl : wv.heap.size ≤ b) : PaI W xb ((b, o) :: F) os rs w2 := by
  have hq := h.quiet ho
  obtain ⟨X, h1, h2, h3, h4, h5⟩ := h
  have hs := ho.size
  refine ⟨X, h1.step ho (fun _ _ h => h.elim) (fun k hk => ?_), h2, fun k hk => ⟨(h3 k hk).1, by have := (h3 k hk).2; omega⟩, h4.trans (ho.below h4.size (fun _ _ h => h)), fun p hp => ?_⟩
  · by_cases h6 : k < wv.heap.size
    · exact Or.inl ⟨h6, hk.2⟩
    · exact Or.inr ⟨by omega, hk.1⟩
  · rcases List.mem_cons.1 hp with rfl | hp
    · have h7 := h4.size
      exact ⟨hb, fun h6 => by have := (h3 _ h6).2; simp only at this; omega, by simp only; omega⟩
    · exact ⟨Only.keep ho (h5 p hp).1 (fun h => h), (h5 p hp).2⟩
theorem PaI.alloc (h : PaI W xb F os rs wv) (o : Obj) : PaI W xb ((wv.heap.size, o) :: F) os rs (wv.alloc o) := h.more ((Only.refl _ _).alloc _) (heap_alloc_last wv o) (Nat.le_refl _)
theorem PaI.at (h : PaI W xb F os rs wv) {b : Nat} {o : Obj} (hm : (b, o) ∈ F) : wv.heap[b]? = some o := by
  obtain ⟨X, _, _, _, _, h5⟩ := h
  exact (h5 _ hm).1
theorem PaI.less (h : PaI W xb F os rs wv) {G : List (Nat × Obj)} (hG : ∀ p ∈ G, p ∈ F) : PaI W xb G os rs wv := by
  obtain ⟨X, h1, h2, h3, h4, h5⟩ := h
  exact ⟨X, h1, h2, h3, h4, fun p hp => h5 p (hG p hp)⟩
theorem PaI.changed {X : Nat → Prop} (h3 : ∀ k, X k → W.heap.size ≤ k ∧ k < wv.heap.size) (h4 : Below W.heap.size W wv) (h5 : ∀ p ∈ F, wv.heap[p.1]? = some p.2 ∧ ¬ X p.1 ∧ W.heap.size ≤ p.1) (ha : Apw os2 rs2) (hx : XpAt (fun k => k < wv.heap.size ∧ ¬ X k) w2 xb 64 os2 rs2) (ho : Only (fun k => ¬ (k < wv.heap.size ∧ ¬ X k)) wv w2) : PaI W xb F os2 rs2 w2 := by
  have hs := ho.size
  have h7 := h4.size
  refine ⟨fun k => X k ∨ (wv.heap.size ≤ k ∧ k < w2.heap.size), hx.step (Only.refl (fun _ => False) _) (fun _ _ h => h.elim) (fun k hk => Or.inl ⟨?_, fun h6 => hk.2 (Or.inl h6)⟩), ha, fun k hk => ?_, h4.trans (ho.below h7 (fun k hk h6 => h6 ⟨by omega, fun h8 => by have := (h3 k h8).1; omega⟩)), fun p hp => ?_⟩
  · have h6 : ¬ (wv.heap.size ≤ k ∧ k < w2.heap.size) := fun h8 => hk.2 (Or.inr h8)
    have := hk.1
    omega
  · rcases hk with hk | hk
    · have := h3 k hk; exact ⟨this.1, by omega⟩
    · exact ⟨by omega, hk.2⟩
  · obtain ⟨a1, a2, a3⟩ := h5 p hp
    have hl := lt_of_some a1
    refine ⟨Only.keep ho a1 (fun h6 => h6 ⟨hl, a2⟩), fun h6 => ?_, a3⟩
    rcases h6 with h6 | h6
    · exact a2 h6
    · omega
theorem PaI.xcall {f : FuncId} {args : Array Value} {v : Value} (h : PaI W xb F os rs wv) (ha : Apw os2 rs2) (hc : ∀ U, XpAt U wv xb 64 os rs → Calls Try.prog f args wv fun e w' => e = .returned v ∧ XpAt U w' xb 64 os2 rs2 ∧ Only (fun k => ¬ U k) wv w') :
    Calls Try.prog f args wv fun e w' => e = .returned v ∧ Hid (PaI W xb F os2 rs2 w') := by
  obtain ⟨X, h1, h2, h3, h4, h5⟩ := h
  refine (hc _ h1).mono ?_
  rintro e w' ⟨rfl, hx, ho⟩
  exact ⟨rfl, PaI.changed h3 h4 h5 ha hx ho⟩
theorem PaI.xread {f : FuncId} {args : Array Value} {v : Value} (h : PaI W xb F os rs wv) (hc : ∀ U, XpAt U wv xb 64 os rs → Calls Try.prog f args wv fun e w' => e = .returned v ∧ Only (fun _ => False) wv w') :
    Calls Try.prog f args wv fun e w' => e = .returned v ∧ Hid (PaI W xb F os rs w') := by
  have h0 := h
  obtain ⟨X, h1, _⟩ := h
  refine (hc _ h1).mono ?_
  rintro e w' ⟨rfl, ho⟩
  exact ⟨rfl, h0.quiet ho⟩
theorem PaI.give (h : PaI W xb F os rs wv) {num kind order many : Int} (h1 : I64 num) (h2 : I64 kind) (h3 : I64 order) (h4 : I64 many) :
    Calls Try.prog 9 #[.pointer (some ⟨xb, 0, none⟩), .int .i64 num, .int .i64 kind, .int .i64 order, .int .i64 many] wv fun e w' => ∃ v, e = .returned (.tuple #[v, .int .i64 (giveE os rs num kind order many)]) ∧ Hid (OwnL inL w' wv.heap.size 3 v (giveRs os rs num kind order many) ∧ PaI W xb F (giveRO os rs num kind order many) (giveRG os rs num kind order many) w') := by
  obtain ⟨X, a1, a2, a3, a4, a5⟩ := h
  refine (xpgive_ok a1 num kind order many h1 h2 h3 h4).mono ?_
  rintro e w' ⟨v, rfl, hl, hx, ho⟩
  exact ⟨v, rfl, hl, PaI.changed a3 a4 a5 (a2.give num kind order many) (hx.step (Only.refl (fun _ => False) _) (fun _ _ h => h.elim) (fun k hk => Or.inl (Or.inl hk))) ho⟩
/-- All of them: a list of its own, its block among the law's. -/
theorem PaI.objs (h : PaI W xb F os rs wv) : Calls Try.prog 14 #[.pointer (some ⟨xb, 0, none⟩)] wv fun e w' => ∃ lv, e = .returned lv ∧ ∃ ls G, Hid (OwnL slL w' wv.heap.size 33 lv ls ∧ ls.Perm (allL os rs) ∧ ls.Pairwise leO ∧ PaI W xb (G ++ F) os rs w' ∧ ∀ k, lv.ownBlock = some k → ∃ o, (k, o) ∈ G) := by
  have h0 := h
  obtain ⟨X, h1, _⟩ := h
  refine (xpobjects_ok h1).mono ?_
  rintro e w' ⟨lv, rfl, ls, hl, hp, hs, ho⟩
  refine ⟨lv, rfl, ls, ?_⟩
  cases hv : lv.ownBlock with
  | none => exact ⟨[], hl, hp, hs, h0.quiet ho, fun k hk => by cases hk⟩
  | some g =>
    obtain ⟨hg1, ⟨cur, hg2⟩, _⟩ := hl.blk hv
    exact ⟨[(g, .cells cur 33 (0, 0))], hl, hp, hs, h0.more ho hg2 hg1, fun k hk => by injection hk with hk; subst hk; exact ⟨_, List.mem_cons_self⟩⟩
/-- A list that came out, in a later world. -/
theorem PaI.kept {α : Type} {La : Lay α} {e : TypeId} {base : Nat} {l : Value} {xs : List α} {os' rs' : List (Int × Int)} {w1 : World} (hl : OwnL La w1 base e l xs) (h1 : PaI W xb F os rs w1) (h2 : PaI W xb F os' rs' w2) (hF : ∀ k, l.ownBlock = some k → ∃ o, (k, o) ∈ F) : OwnL La w2 base e l xs :=
  own_same hl (fun k hk => by
    obtain ⟨o, ho⟩ := hF k hk
    rw [h1.at ho, h2.at ho])
theorem apw_len {ls : List (Int × Int)} (h : Apw os rs) (hp : ls.Perm (allL os rs)) : 1 ≤ ls.length ∧ ls.length ≤ 3000 := by
  rw [hp.length_eq]
  refine ⟨?_, all_len h.wf⟩
  obtain ⟨mk, hw⟩ := h.wh
  exact List.length_pos_of_mem (all_mem.2 (Or.inr ⟨_, hw, rfl⟩))
/-- The beginning. -/
theorem PaI.start {w1 w2 w3 : World} (hx : XpAt (fun k => k < W.heap.size) w1 xb 64 [] []) (ho1 : Only (fun _ => False) W w1) (o : Obj) (hx3 : XpAt (fun k => k < W.heap.size ∨ k = w1.heap.size) w3 xb 64 [] [(1312, 0)]) (ho3 : Only (fun k => ¬ (k < W.heap.size ∨ k = w1.heap.size)) (w1.alloc o) w3) : PaI W xb [(w1.heap.size, o)] [] [(1312, 0)] w3 := by
  have s1 := ho1.size
  have s3 := ho3.size
  have s2 : (w1.alloc o).heap.size = w1.heap.size + 1 := by simp
  have hb : Below W.heap.size W w3 := ((ho1.alloc o).below (Nat.le_refl _) (fun _ _ h => h)).trans (ho3.below (by omega) (fun k hk h => h (Or.inl hk)))
  refine ⟨fun k => W.heap.size ≤ k ∧ k < w3.heap.size ∧ k ≠ w1.heap.size, hx3.step (Only.refl (fun _ => False) _) (fun _ _ h => h.elim) (fun k hk => Or.inl ?_), Apw.start, fun k hk => ⟨hk.1, hk.2.1⟩, hb, fun p hp => ?_⟩
  · by_cases h6 : k < W.heap.size
    · exact Or.inl h6
    · right
      exact Classical.byContradiction (fun h7 => hk.2 ⟨by omega, hk.1, h7⟩)
  · rw [List.mem_singleton] at hp
    subst hp
    exact ⟨Only.keep ho3 (heap_alloc_last w1 o) (fun h => h (Or.inr rfl)), fun h => h.2.2 rfl, s1⟩
end Go.Proofs.Ytbbabpgmclhinaa

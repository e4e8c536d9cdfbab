import Derived.Test.YtbbabpgmclhinaaCs6
import Derived.Deep.CutRange
/- Chapter 8, the document's pool: Empty, Mark, At. -/
namespace Go.Proofs.Ytbbabpgmclhinaa
open Go.ChangeShapes Go.WideShapes Go.ChangeAt Go.RowKit
open Go.Vx
set_option linter.unusedVariables false
variable {U S : Nat → Prop} {w w2 : World} {pb : Nat} {P : Int} {vo vr : Value} {os rs : List (Int × Int)}

def emptyR (os rs : List (Int × Int)) (n : Int) : Bool × Int := match rgF rs n with | none => (false, 6) | some _ => (!liesB os rs n, 0)
def markR (rs : List (Int × Int)) (n : Int) : Int × Int := match rgF rs n with | none => (0, 6) | some i => ((rs.getD i (0, 0)).2, 0)
def atI (os : List (Int × Int)) (g : Int) : Option Nat := idxF (fun o => decide (o.2 = g)) os 0
def atR (P : Int) (os : List (Int × Int)) (g : Int) : (Int × Int) × Int := if g < 0 ∨ P ≤ g then ((0, 0), 1) else match atI os g with | none => ((0, 0), 0) | some i => (os.getD i (0, 0), 0)
theorem rgF_at {n : Int} {i : Nat} (h : rgF rs n = some i) : ∃ hi : i < rs.length, rs[i].1 = n := by
  obtain ⟨hi, h2⟩ := idxF_get h
  simp only [Nat.sub_zero] at hi h2
  exact ⟨hi, by simpa using h2⟩
theorem rgF_ok {n : Int} {i : Nat} (hp : PgOk os rs) (h : rgF rs n = some i) : RgOk n := by
  obtain ⟨hi, h2⟩ := rgF_at h
  rw [← h2]
  exact hp.rk _ (List.getElem_mem _)
theorem getD_two {xs : List (Int × Int)} {k : Nat} (hk : k < xs.length) (d : Int × Int) : xs.getD k d = xs[k] := by simp [List.getD_eq_getElem?_getD, hk]
theorem obj_cells {w : World} {rc : Nat} {a0 a1 : Value} (h : w.heap[rc]? = some (.cells #[a0, a1] 33 (0, 0))) : (w.cell? ⟨rc, 0, none⟩ = some a0 ∧ w.cell? ⟨rc, 1, none⟩ = some a1) ∧ ∀ j, w.frozen? ⟨rc, j, none⟩ = false :=
  ⟨⟨(cell_of_row _ _ 0 _ _ (0, 0) h).trans rfl, (cell_of_row _ _ 1 _ _ (0, 0) h).trans rfl⟩, fun j => by simp [World.frozen?, h]⟩
theorem empty_ok (h : PoAt U w pb P vo vr os rs) (hp : PgOk os rs) (n : Int) : Calls Try.prog 34 #[.pointer (some ⟨pb, 0, none⟩), .int .i64 n] w fun e w' => e = .returned (.tuple #[.bool (emptyR os rs n).1, .int .i64 (emptyR os rs n).2]) ∧ Only (fun _ => False) w w' := by
  have HRG := Vx.hid (region_ok h n)
  cases hx : rgF rs n with
  | none =>
    have HE : Hid (emptyR os rs n = (false, 6)) := by show emptyR os rs n = _; unfold emptyR; rw [hx]
    rw [hx] at HRG
    have HR2 : Hid (Calls Try.prog 56 #[.pointer (some ⟨pb, 0, none⟩), .int .i64 n] w fun e w' => e = .returned (.int .i64 (-1)) ∧ w' = w) := HRG
    clear hx HRG h
    go_enter Try.func34, Try.ntmps34
    go_wp2_with fail
    refine HR2.out.mono ?_
    rintro e w' ⟨rfl, h⟩
    have h3 := h.symm; clear h; subst h3
    go_wp2_with fail
    all_goals
      go_ret2
      exact ⟨by rw [HE.out]; rfl, Only.refl _ _⟩
  | some i =>
    have HE : Hid (emptyR os rs n = (!liesB os rs n, 0)) := by show emptyR os rs n = _; unfold emptyR; rw [hx]
    have HLI := Vx.hid (lies_ok h hp n (rgF_ok hp hx))
    rw [hx] at HRG
    have HR2 : Hid (Calls Try.prog 56 #[.pointer (some ⟨pb, 0, none⟩), .int .i64 n] w fun e w' => e = .returned (.int .i64 (i : Int)) ∧ w' = w) := HRG
    have h4 : ¬ (i : Int) < 0 := by omega
    generalize liesB os rs n = lb at HE HLI
    clear hx HRG h
    go_enter Try.func34, Try.ntmps34
    go_wp2_with fail
    refine HR2.out.mono ?_
    rintro e w' ⟨rfl, h⟩
    have h3 := h.symm; clear h; subst h3
    go_wp2_with fail
    refine HLI.out.mono ?_
    rintro e w1 ⟨rfl, ho⟩
    have HO := Vx.hid ho
    clear ho
    go_wp2_with fail
    all_goals
      go_ret2
      exact ⟨by rw [HE.out]; rfl, HO.out⟩
theorem mark_ok (h : PoAt U w pb P vo vr os rs) (n : Int) : Calls Try.prog 35 #[.pointer (some ⟨pb, 0, none⟩), .int .i64 n] w fun e w' => e = .returned (.tuple #[.int .i64 (markR rs n).1, .int .i64 (markR rs n).2]) ∧ w' = w := by
  have HRG := Vx.hid (region_ok h n)
  cases hx : rgF rs n with
  | none =>
    have HE : Hid (markR rs n = (0, 6)) := by show markR rs n = _; unfold markR; rw [hx]
    rw [hx] at HRG
    have HR2 : Hid (Calls Try.prog 56 #[.pointer (some ⟨pb, 0, none⟩), .int .i64 n] w fun e w' => e = .returned (.int .i64 (-1)) ∧ w' = w) := HRG
    clear hx HRG h
    go_enter Try.func35, Try.ntmps35
    go_wp2_with fail
    refine HR2.out.mono ?_
    rintro e w' ⟨rfl, h⟩
    have h3 := h.symm; clear h; subst h3
    go_wp2_with fail
    all_goals
      go_ret2
      exact ⟨by rw [HE.out]; rfl, rfl⟩
  | some i =>
    obtain ⟨hi, hi2⟩ := rgF_at hx
    clear hi2
    have HE : Hid (markR rs n = (rs[i].2, 0)) := by show markR rs n = _; unfold markR; rw [hx]; dsimp only; rw [getD_two hi]
    rw [hx] at HRG
    have HR2 : Hid (Calls Try.prog 56 #[.pointer (some ⟨pb, 0, none⟩), .int .i64 n] w fun e w' => e = .returned (.int .i64 (i : Int)) ∧ w' = w) := HRG
    have h4 : ¬ (i : Int) < 0 := by omega
    have c2 := h.c2
    obtain ⟨p, c, rfl, hb⟩ := own_two h.g
    obtain ⟨g, rfl, b0, b1⟩ := hb i hi
    clear b0
    obtain ⟨N, hN⟩ : ∃ N, N = rs.length := ⟨_, rfl⟩
    have hidx : 0 ≤ (i : Int) ∧ (i : Int) < (N : Int) := by omega
    rw [← hN] at c2
    generalize rs[i].2 = mk at b1 HE
    clear hx HRG h hb hi hN
    go_enter Try.func35, Try.ntmps35
    go_wp2_with fail
    refine HR2.out.mono ?_
    rintro e w' ⟨rfl, h⟩
    have h3 := h.symm; clear h; subst h3
    go_wp2_with fail
    all_goals
      go_ret2
      exact ⟨by rw [HE.out]; rfl, rfl⟩
set_option maxRecDepth 100000 in
set_option maxHeartbeats 2000000 in
theorem at_ok (h : PoAt U w pb P vo vr os rs) (q : Int) : Calls Try.prog 37 #[.pointer (some ⟨pb, 0, none⟩), .int .i64 q] w fun e w' => e = .returned (.tuple #[.agg #[.int .i64 (atR P os q).1.1, .int .i64 (atR P os q).1.2], .int .i64 (atR P os q).2]) ∧ Only (fun _ => False) w w' := by
  obtain ⟨w1, hw1⟩ : ∃ w1, w1 = w.alloc (.cells #[.int .i64 0, .int .i64 0] 33) := ⟨_, rfl⟩
  have ho1 : Only (fun _ => False) w w1 := by rw [hw1]; exact (Only.refl _ w).alloc _
  have hz : w1.heap[w.heap.size]? = some (.cells #[.int .i64 0, .int .i64 0] 33 (0, 0)) := by rw [hw1]; exact heap_alloc_last _ _
  obtain ⟨rc, hrc⟩ : ∃ rc, rc = w.heap.size := ⟨_, rfl⟩
  rw [← hrc] at hz
  have HO : Hid (Only (fun _ => False) w w1 ∧ w.heap.size ≤ rc) := ⟨ho1, by omega⟩
  have HS : Hid (∀ x y : Value, Only (fun _ => False) w ((w1.setCell ⟨rc, 0, none⟩ x).setCell ⟨rc, 1, none⟩ y)) := fun x y => Only.setCell (Only.setCell HO.out.1 (Or.inr HO.out.2) _) (Or.inr HO.out.2) _
  obtain ⟨⟨z0, z1⟩, zf⟩ := obj_cells hz
  have f0 := zf 0
  have f1 := zf 1
  have hk := h.quiet ho1
  have c0 := hk.c0
  have c1 := hk.c1
  have hno := h.no
  obtain ⟨p, c, rfl, hb⟩ := own_two hk.o
  have HB := Vx.hid hb
  clear h hb hk zf hz ho1
  by_cases hout : q < 0 ∨ P ≤ q
  · have HG : Hid (atR P os q = ((0, 0), 1)) := if_pos hout
    by_cases h1 : q < 0
    · clear hout
      go_enter Try.func37, Try.ntmps37
      go_upto_region 1 with fail
      rw [← hw1, ← hrc]
      clear hw1 hrc
      go_wp2_with fail
      refine bodyPost_ret (v := .tuple #[.agg #[.int .i64 0, .int .i64 0], .int .i64 1]) ?_ rfl ⟨by rw [HG.out], HS.out _ _⟩
      simp [results, Try.results37, go_sem, z0, z1]
    · have h2 : P ≤ q := by omega
      clear hout
      go_enter Try.func37, Try.ntmps37
      go_upto_region 1 with fail
      rw [← hw1, ← hrc]
      clear hw1 hrc
      go_wp2_with fail
      refine bodyPost_ret (v := .tuple #[.agg #[.int .i64 0, .int .i64 0], .int .i64 1]) ?_ rfl ⟨by rw [HG.out], HS.out _ _⟩
      simp [results, Try.results37, go_sem, z0, z1]
  · have h1 : ¬ q < 0 := fun h => hout (Or.inl h)
    have h2 : ¬ P ≤ q := fun h => hout (Or.inr h)
    have HG : Hid (atR P os q = match atI os q with | none => ((0, 0), 0) | some i => (os.getD i (0, 0), 0)) := if_neg hout
    obtain ⟨N, hN⟩ : ∃ N, N = os.length := ⟨_, rfl⟩
    have HN := Vx.hid hN
    rw [← hN] at c1 hno
    clear hout hN
    go_enter Try.func37, Try.ntmps37
    go_upto_region 1 with fail
    rw [← hw1, ← hrc]
    clear hw1 hrc
    go_wp2_with fail
    go_loopw [6] (fun d wr => ∃ k : Nat, d = .int .i64 (k : Int) ∧ k ≤ N ∧ Hid (idxF (fun o => decide (o.2 = q)) (os.drop k) k = atI os q) ∧ wr = w1) (fun d _ => N - (intOf d).toNat)
    case atStart => exact ⟨0, rfl, by omega, (show idxF _ (os.drop 0) 0 = _ from by rw [List.drop_zero]; rfl), rfl⟩
    case round =>
      obtain ⟨k, rfl, hk, HQ, rfl⟩ := hrel
      by_cases hlt : k < N
      · have hlb : k < os.length := by have := HN.out; omega
        have h3 : (k : Int) < (N : Int) := by omega
        have hidx : 0 ≤ (k : Int) ∧ (k : Int) < (N : Int) := by omega
        have hwk : IntKind.i64.wrap ((k : Int) + 1) = (k : Int) + 1 := by rw [IntKind.wrap_i64]; omega
        obtain ⟨g, rfl, b0, b1⟩ := HB.out k hlb
        have hq := HQ.out
        rw [idxF_step os k hlb] at hq
        by_cases he : os[k].2 = q
        · rw [if_pos (decide_eq_true he)] at hq
          have HE : Hid (atR P os q = (os[k], 0)) := by show atR P os q = _; rw [HG.out, ← hq]; dsimp only; rw [getD_two hlb]
          generalize os[k] = x at b0 b1 he HE
          obtain ⟨x0, x1⟩ := x
          dsimp only at b0 b1 he
          subst he
          have HG := HE
          clear hq hlt HQ
          go_wp2_with fail
          refine bodyPost_ret (v := .tuple #[.agg #[.int .i64 x0, .int .i64 x1], .int .i64 0]) ?_ rfl ⟨by rw [HG.out], HS.out _ _⟩
          simp [results, Try.results37, go_sem, z0, z1]
        · rw [if_neg (by simpa using he)] at hq
          have HE := Vx.hid hq
          have he2 : (os[k].2 == q) = false := by simpa using he
          generalize os[k].2 = m at b1 he he2
          clear hq hlt HQ b0
          go_wp2_with fail
          go_roundw
          case rel => exact ⟨k + 1, by go_num, by omega, HE, trivial⟩
          case measure => simp only [intOf]; omega
      · obtain rfl : k = N := by omega
        have hq := HQ.out
        rw [HN.out, idxF_end] at hq
        have HE : Hid (atR P os q = ((0, 0), 0)) := by show atR P os q = _; rw [HG.out, ← hq]
        have HG := HE
        have h3 : ¬ (k : Int) < (k : Int) := by omega
        clear hq hlt HQ
        go_wp2_with fail
        refine bodyPost_ret (v := .tuple #[.agg #[.int .i64 0, .int .i64 0], .int .i64 0]) ?_ rfl ⟨by rw [HG.out], HS.out _ _⟩
        simp [results, Try.results37, go_sem, z0, z1]
end Go.Proofs.Ytbbabpgmclhinaa

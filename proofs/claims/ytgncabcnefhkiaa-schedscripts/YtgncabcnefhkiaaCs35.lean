import Derived.Test.YtgncabcnefhkiaaCs30
import Derived.Shelf.Abstract
/- Chapter 9, the program's scheduler: isWrong, ContainsFunc, Clone. -/
namespace Go.Proofs.Ytgncabcnefhkiaa
open Go.ChangeShapes Go.WideShapes Go.ChangeAt Go.RowKit
open Go.Vx
set_option linter.unusedVariables false
variable {U V S : Nat → Prop} {w w2 w3 : World} {ts : List (Int × Int)}

theorem isWrong_ok (a b : Int) (w : World) : Calls Try.prog 21 #[.agg #[.int .i64 a, .int .i64 b]] w fun e w' => e = .returned (.bool (!tuB (a, b))) ∧ Only (fun _ => False) w w' := by
  have HD := Vx.hid (isDom_ok a)
  obtain ⟨w1, hw1, ho1, hz1⟩ : ∃ w1, w1 = w.alloc (.cells #[.int .i64 a, .int .i64 b] 34) ∧ Only (fun _ => False) w w1 ∧ w1.heap[w.heap.size]? = some (.cells #[.int .i64 a, .int .i64 b] 34 (0, 0)) := ⟨_, rfl, (Only.refl _ w).alloc _, heap_alloc_last w _⟩
  obtain ⟨A, hA⟩ : ∃ A, A = w.heap.size := ⟨_, rfl⟩
  rw [← hA] at hz1
  have z0 : w1.cell? ⟨A, 0, none⟩ = some (.int .i64 a) := (cell_of_row _ _ 0 _ _ (0, 0) hz1).trans rfl
  have z1 : w1.cell? ⟨A, 1, none⟩ = some (.int .i64 b) := (cell_of_row _ _ 1 _ _ (0, 0) hz1).trans rfl
  have HO := Vx.hid ho1
  have HT : Hid (tuB (a, b) = (ltB a && decide (1 ≤ b ∧ b ≤ 1000))) := by
    show decide (0 ≤ a ∧ a ≤ 7 ∧ 1 ≤ b ∧ b ≤ 1000) = (decide (0 ≤ a ∧ a ≤ 7) && decide (1 ≤ b ∧ b ≤ 1000))
    rw [← Bool.decide_and]
    congr 1
    simp [and_assoc]
  rw [HT.out]
  clear ho1 hz1 HT
  cases hb : ltB a with
  | false =>
    rw [hb] at HD
    clear hb
    go_enter Try.func21, Try.ntmps21
    go_upto_region 1 with fail
    rw [← hw1, ← hA]
    clear hw1 hA
    go_wp2_with fail
    refine (HD.out _).mono ?_
    rintro e w' ⟨rfl, h⟩
    have h3 := h.symm; clear h; subst h3
    go_wp2_with fail
    all_goals
      go_ret
      exact ⟨by first | rfl | simp_all, HO.out⟩
  | true =>
    rw [hb] at HD
    clear hb
    by_cases b1 : b < 1
    · have HB : Hid (decide (1 ≤ b ∧ b ≤ 1000) = false) := decide_eq_false (by omega)
      rw [HB.out]
      go_enter Try.func21, Try.ntmps21
      go_upto_region 1 with fail
      rw [← hw1, ← hA]
      clear hw1 hA
      go_wp2_with fail
      refine (HD.out _).mono ?_
      rintro e w' ⟨rfl, h⟩
      have h3 := h.symm; clear h; subst h3
      go_wp2_with fail
      all_goals
        go_ret
        exact ⟨by first | rfl | simp_all, HO.out⟩
    · by_cases b2 : 1000 < b
      · have HB : Hid (decide (1 ≤ b ∧ b ≤ 1000) = false) := decide_eq_false (by omega)
        rw [HB.out]
        go_enter Try.func21, Try.ntmps21
        go_upto_region 1 with fail
        rw [← hw1, ← hA]
        clear hw1 hA
        go_wp2_with fail
        refine (HD.out _).mono ?_
        rintro e w' ⟨rfl, h⟩
        have h3 := h.symm; clear h; subst h3
        go_wp2_with fail
        all_goals
          go_ret
          exact ⟨by first | rfl | simp_all, HO.out⟩
      · have HB : Hid (decide (1 ≤ b ∧ b ≤ 1000) = true) := decide_eq_true (by omega)
        rw [HB.out]
        go_enter Try.func21, Try.ntmps21
        go_upto_region 1 with fail
        rw [← hw1, ← hA]
        clear hw1 hA
        go_wp2_with fail
        refine (HD.out _).mono ?_
        rintro e w' ⟨rfl, h⟩
        have h3 := h.symm; clear h; subst h3
        go_wp2_with fail
        all_goals
          go_ret
          exact ⟨by first | rfl | simp_all, HO.out⟩
theorem tu_at {pa : Option Addr} (hp : TuAt w pa ts) (hn : 0 < ts.length) : ∃ ab ao, pa = some ⟨ab, ao, none⟩ ∧ ∀ wv, Only (fun _ => False) w wv → ∀ j (h : j < ts.length), wv.cell? ⟨ab, ao + j * 2, none⟩ = some (.int .i64 ts[j].1) ∧ wv.cell? ⟨ab, ao + j * 2 + 1, none⟩ = some (.int .i64 ts[j].2) := by
  rcases hp with h | ⟨ab, ao, rfl, h⟩
  · rw [h] at hn; cases hn
  · refine ⟨ab, ao, rfl, fun wv ho j hj => ?_⟩
    have hp2 : TuAt wv (some ⟨ab, ao, none⟩) ts := TuAt.quiet (Or.inr ⟨ab, ao, rfl, h⟩) ho
    rcases hp2 with h9 | ⟨a2, o2, e, h9⟩
    · rw [h9] at hj; cases hj
    · injection e with e
      injection e with e1 e2
      subst e1; subst e2
      exact h9 j hj
/-- Some turn is wrong. -/
def bdT (ts : List (Int × Int)) : Bool := !ts.all tuB
set_option maxHeartbeats 1000000 in
theorem tindex_ok {pa : Option Addr} (hp : TuAt w pa ts) (m c : Nat) (hm : m = ts.length) (h16 : m ≤ 16) : Calls Try.prog 50 #[.slice pa m c, .func (.func 21) #[] #[]] w fun e w' => ∃ r : Int, e = .returned (.int .i64 r) ∧ (0 ≤ r ↔ bdT ts = true) ∧ Only (fun _ => False) w w' := by
  have HX := Vx.hid hp
  have HM := Vx.hid hm
  clear hp hm
  go_enter Try.func50, Try.ntmps50
  go_wp2_with fail
  go_loopw [5, 8] (fun _ d wr => ∃ k : Nat, d = .int .i64 (k : Int) ∧ k ≤ m ∧ Hid (∀ j (h : j < ts.length), j < k → tuB ts[j] = true) ∧ Hid (Only (fun _ => False) w wr)) (fun _ d _ => m - (RowKit.intOf d).toNat)
  case atStart => exact ⟨0, rfl, by omega, fun j _ hj => absurd hj (Nat.not_lt_zero _), Only.refl _ _⟩
  case round =>
    obtain ⟨k, rfl, hk, HQ, HW⟩ := hrel
    by_cases hlt : k < m
    · have h1 : (k : Int) < (m : Int) := by omega
      have hidx : 0 ≤ (k : Int) ∧ (k : Int) < (m : Int) := by omega
      have hwk : IntKind.i64.wrap ((k : Int) + 1) = (k : Int) + 1 := by rw [IntKind.wrap_i64]; omega
      have hkl : k < ts.length := by have := HM.out; omega
      obtain ⟨ab, ao, rfl, hC⟩ := tu_at HX.out (by omega)
      obtain ⟨c0, c1⟩ := hC _ HW.out k hkl
      have HF := Vx.hid (fun wv => isWrong_ok ts[k].1 ts[k].2 wv)
      clear hC
      cases hb : tuB ts[k] with
      | true =>
        have HQ2 : Hid (∀ j (h : j < ts.length), j < k + 1 → tuB ts[j] = true) := fun j hj hjk => by
          by_cases e : j = k
          · subst e; exact hb
          · exact HQ.out j hj (by omega)
        have e9 : (!tuB (ts[k].1, ts[k].2)) = false := by rw [show (ts[k].1, ts[k].2) = ts[k] from rfl, hb]; rfl
        rw [e9] at HF
        generalize ts[k].1 = d0 at c0 HF
        generalize ts[k].2 = d1 at c1 HF
        clear hb e9 hkl HQ
        go_wp2_with fail
        refine (HF.out _).mono ?_
        rintro e w3 ⟨rfl, h3⟩
        have H3 := Vx.hid (HW.out.trans h3)
        clear h3 c0 c1
        go_wp2_with fail
        go_roundw
        case rel => exact ⟨k + 1, by go_num, by omega, HQ2, H3⟩
        case measure => simp only [RowKit.intOf]; omega
      | false =>
        have HA : Hid (bdT ts = true) := by
          show (!ts.all tuB) = true
          rw [Bool.not_eq_true', List.all_eq_false]
          exact ⟨ts[k], List.getElem_mem hkl, by rw [hb]; decide⟩
        have e9 : (!tuB (ts[k].1, ts[k].2)) = true := by rw [show (ts[k].1, ts[k].2) = ts[k] from rfl, hb]; rfl
        rw [e9] at HF
        generalize ts[k].1 = d0 at c0 HF
        generalize ts[k].2 = d1 at c1 HF
        clear hb e9 hkl HQ
        go_wp2_with fail
        refine (HF.out _).mono ?_
        rintro e w3 ⟨rfl, h3⟩
        have H3 := Vx.hid (HW.out.trans h3)
        clear h3 c0 c1
        go_wp2_with fail
        go_ret
        exact ⟨(k : Int), rfl, ⟨fun _ => HA.out, fun _ => by omega⟩, H3.out⟩
    · obtain rfl : k = m := by omega
      have h1 : ¬ (k : Int) < (k : Int) := by omega
      go_wp2_with fail
      go_ret
      refine ⟨-1, rfl, ⟨fun h => by omega, fun h => ?_⟩, HW.out⟩
      exfalso
      unfold bdT at h
      rw [Bool.not_eq_true', List.all_eq_false] at h
      obtain ⟨x, hx, hn⟩ := h
      obtain ⟨j, hj, rfl⟩ := List.getElem_of_mem hx
      exact hn (HQ.out j hj (by have := HM.out; omega))
theorem tcont_ok {pa : Option Addr} (hp : TuAt w pa ts) (m c : Nat) (hm : m = ts.length) (h16 : m ≤ 16) : Calls Try.prog 20 #[.slice pa m c, .func (.func 21) #[] #[]] w fun e w' => e = .returned (.bool (bdT ts)) ∧ Only (fun _ => False) w w' := by
  have HI := Vx.hid (tindex_ok hp m c hm h16)
  clear hp hm h16
  go_enter Try.func20, Try.ntmps20
  go_wp2_with fail
  refine HI.out.mono ?_
  rintro e w2 ⟨r, rfl, h1, h2⟩
  have H1 := Vx.hid h1
  have H2 := Vx.hid h2
  clear h1 h2
  by_cases hr : 0 ≤ r
  · have HA : Hid (bdT ts = true) := H1.out.1 hr
    go_wp2_with fail
    go_ret
    exact ⟨by rw [HA.out]; first | rfl | simp [hr], H2.out⟩
  · have HA : Hid (bdT ts = false) := by
      show _ = _
      cases hb : bdT ts with
      | false => rfl
      | true => exact absurd (H1.out.2 hb) hr
    go_wp2_with fail
    go_ret
    exact ⟨by rw [HA.out]; first | rfl | simp [hr], H2.out⟩
/-- The turns' cells, for an append. -/
theorem tu_src {ab ao : Nat} (hc : ∀ j (h : j < ts.length), w.cell? ⟨ab, ao + j * 2, none⟩ = some (.int .i64 ts[j].1) ∧ w.cell? ⟨ab, ao + j * 2 + 1, none⟩ = some (.int .i64 ts[j].2)) : 0 < ts.length → ∃ ad, (some ⟨ab, ao, none⟩ : Option Addr) = some ad ∧ ∀ j u, (fl slL ts)[j]? = some u → w.cell? (ad.add j) = some u := fun _ => ⟨_, rfl, fun j u hj => by
  have hlt : j < (fl slL ts).length := by
    apply Classical.byContradiction
    intro hx
    rw [List.getElem?_eq_none (by omega)] at hj
    cases hj
  have hl2 : (fl slL ts).length = ts.length * 2 := length_fl slL ts
  have hd2 : j / 2 < ts.length := by omega
  have hg := get_fl slL ts (j / 2) (j % 2) hd2 (Nat.mod_lt _ (by decide))
  have e : j / 2 * slL.sz + j % 2 = j := by show j / 2 * 2 + j % 2 = j; omega
  rw [e, hj] at hg
  obtain ⟨y0, y1⟩ := hc (j / 2) hd2
  rw [addr_add]
  rcases (by omega : j % 2 = 0 ∨ j % 2 = 1) with hm | hm
  · rw [hm] at hg
    have e2 : ao + j = ao + j / 2 * 2 := by omega
    rw [e2, y0]
    exact hg.symm
  · rw [hm] at hg
    have e2 : ao + j = ao + j / 2 * 2 + 1 := by omega
    rw [e2, y1]
    exact hg.symm⟩
theorem eql_nilT (w : World) (a : Option Addr) (n c : Nat) : (binOp .eql 22 (.slice a n c) (.slice none 0 0)).run Try.prog w = .ok (.bool a.isNone) w := Lib.run_eql_slice_nil w _ _ a n c 0 0 Try.underlying22
set_option maxRecDepth 100000 in
set_option maxHeartbeats 1000000 in
theorem tclone_ok {ab ao m c : Nat} (hc : ∀ wv, Only (fun _ => False) w wv → ∀ j (h : j < ts.length), wv.cell? ⟨ab, ao + j * 2, none⟩ = some (.int .i64 ts[j].1) ∧ wv.cell? ⟨ab, ao + j * 2 + 1, none⟩ = some (.int .i64 ts[j].2)) (hm : m = ts.length) (h16 : m ≤ 16) : Calls Try.prog 22 #[.slice (some ⟨ab, ao, none⟩) m c] w fun e w' => ∃ v, e = .returned v ∧ OwnL slL w' w.heap.size 34 v ts ∧ Only (fun _ => False) w w' := by
  obtain ⟨w1, hw1, ho1, hz1⟩ : ∃ w1, w1 = w.alloc (.cells #[] 34) ∧ Only (fun _ => False) w w1 ∧ w1.heap[w.heap.size]? = some (.cells #[] 34 (0, 0)) := ⟨_, rfl, (Only.refl _ w).alloc _, heap_alloc_last w _⟩
  obtain ⟨A, hA⟩ : ∃ A, A = w.heap.size := ⟨_, rfl⟩
  rw [← hA] at hz1
  have HW : Hid (OwnL slL w1 w.heap.size 34 (.slice (some ⟨A, 0, none⟩) 0 0) []) := ⟨rfl, Or.inr ⟨A, 0, #[], rfl, by omega, hz1, Nat.le_refl _, Nat.zero_le _, rfl, rfl⟩⟩
  have HS := Vx.hid (tu_src (w := w1) (ab := ab) (ao := ao) (ts := ts) (fun j hj => hc w1 ho1 j hj))
  have HSL : Hid (([] : List (Int × Int)).length + ts.length ≤ 10000000) := by show _ ≤ _; simp; omega
  have HM := Vx.hid hm
  have HO1 := Vx.hid ho1
  have HAA := Vx.hid hA
  have HBB : Hid (w.heap.size ≤ w1.heap.size) := ho1.size
  have hq := eql_nilT
  clear hc hm ho1 hz1 h16
  go_enter Try.func22, Try.ntmps22
  go_wp2_with (at_builtin; rw [← hw1, ← hA]; refine wpList_append_many tuK _ rfl _ _ rfl _ (.slice (some ⟨A, 0, none⟩) 0 0) [] rfl HW.out (some ⟨ab, ao, none⟩) c m ts rfl HM.out HS.out HSL.out HBB.out ?_; intro v' w7 hv1 hv2 hv3; rw [List.nil_append] at hv1; obtain ⟨pz, cz, hvz, _⟩ := hv1.form; generalize ts.length = mz at hvz; subst hvz; have HF := Vx.hid hv1; have HG := Vx.hid hv2; clear hv1 hv2 hv3)
  all_goals
    go_ret
    refine ⟨_, rfl, HF.out, HO1.out.beyond HG.out (fun k hk => ?_)⟩
    have : A = k := by simpa [Value.ownBlock] using hk
    have := HAA.out
    omega
end Go.Proofs.Ytgncabcnefhkiaa

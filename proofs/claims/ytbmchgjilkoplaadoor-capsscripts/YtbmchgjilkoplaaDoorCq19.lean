import Derived.Test.YtbmchgjilkoplaaDoorCq18
import Derived.Test.YtbmchgjilkoplaaDoorCq1
/- Chapter 7, pure: every call keeps the store sound: Set, Make, Drop, Move. -/
namespace Go.Proofs.YtbmchgjilkoplaaDoor
open Go.Vx
set_option linter.unusedVariables false

theorem mem_set_cap {es : List En} {i : Nat} (hi : i < es.length) {c : Cp} {y : En} (hy : y ∈ es.set i ⟨es[i].at', c, es[i].from'⟩) : ∃ e ∈ es, y.at' = e.at' ∧ y.from' = e.from' ∧ (y.cap = c ∨ y.cap = e.cap) := by
  rcases List.mem_or_eq_of_mem_set hy with h | h
  · exact ⟨y, h, rfl, rfl, Or.inr rfl⟩
  · subst h; exact ⟨es[i], List.getElem_mem hi, rfl, rfl, Or.inl rfl⟩
theorem map_set_at {es : List En} {i : Nat} (hi : i < es.length) (c : Cp) : (es.set i ⟨es[i].at', c, es[i].from'⟩).map (·.at') = es.map (·.at') := by
  apply List.ext_getElem?
  intro j
  rw [List.getElem?_map, List.getElem?_map, List.getElem?_set]
  by_cases h : i = j
  · subst h
    rw [if_pos rfl, if_pos hi, List.getElem?_eq_getElem hi]
    rfl
  · rw [if_neg h]
theorem srt_iff {es : List En} : Srt es ↔ (es.map (·.at')).Pairwise (fun a b => aheadB a b = true) := by
  unfold Srt
  rw [List.pairwise_map]
theorem Wf.set {bs : List (Int × Int)} {es : List En} (h : Wf bs es) (s : Sl) (c : Cp) (hg : GuOk c) : Wf bs (setL bs es s c) := by
  unfold setL
  rcases full_cases bs es s with ⟨i, hf, _⟩ | hf | hf
  · obtain ⟨hi, _⟩ := full_at hf
    rw [hf]
    dsimp only
    rw [getD_at es i hi]
    by_cases hs : sameO es[i].cap c = true
    · rw [if_pos hs]
      have hat : ∀ e ∈ es, ∃ y ∈ es.set i ⟨es[i].at', c, es[i].from'⟩, y.at' = e.at' := fun e he => by
        have h1 : e.at' ∈ es.map (·.at') := List.mem_map.2 ⟨e, he, rfl⟩
        rw [← map_set_at hi c] at h1
        obtain ⟨y, hy, hE⟩ := List.mem_map.1 h1
        exact ⟨y, hy, hE⟩
      refine ⟨h.bn, fun y hy => ?_, ?_, fun y hy => ?_, ?_, fun y hy => ?_⟩
      · obtain ⟨e, he, h1, _⟩ := mem_set_cap hi hy
        rw [h1]; exact h.pl e he
      · rw [srt_iff, map_set_at hi c, ← srt_iff]; exact h.so
      · obtain ⟨e, he, _, h2, _⟩ := mem_set_cap hi hy
        rw [h2]
        refine (h.fr e he).imp (fun h => h) (fun ⟨e2, h3, h4⟩ => ?_)
        obtain ⟨y2, hy2, h5⟩ := hat e2 h3
        exact ⟨y2, hy2, by rw [h5, h4]⟩
      · obtain ⟨r, hr⟩ := h.rk
        refine ⟨r, fun y hy => ?_⟩
        obtain ⟨e, he, h1, h2, _⟩ := mem_set_cap hi hy
        rw [h1, h2]; exact hr e he
      · obtain ⟨e, he, _, _, h3⟩ := mem_set_cap hi hy
        rcases h3 with h3 | h3
        · rw [h3]; exact hg
        · rw [h3]; exact h.gu e he
    · rw [if_neg hs]; exact h
  · rw [hf]; exact h
  · rw [hf]; exact h
theorem Wf.make {bs : List (Int × Int)} {es : List En} (h : Wf bs es) (num n : Int) : Wf (makeL bs num n) es := by
  unfold makeL
  by_cases he : makeE bs num n = 0
  · rw [if_pos he]
    unfold makeE at he
    by_cases hk : num < 0 ∨ twoB n = false
    · rw [if_pos hk] at he; cases he
    · refine ⟨fun b hb => ?_, fun e he2 => ?_, h.so, h.fr, h.rk, h.gu⟩
      · rcases List.mem_append.1 hb with hb | hb
        · exact h.bn b hb
        · rw [List.mem_singleton] at hb
          subst hb
          refine ⟨?_, by show 0 ≤ num; omega⟩
          show twoB n = true
          cases ht : twoB n
          · exact absurd (Or.inr ht) hk
          · rfl
      · obtain ⟨b, hb, hE⟩ := h.pl e he2
        exact ⟨b, List.mem_append.2 (Or.inl hb), hE⟩
  · rw [if_neg he]; exact h
theorem Wf.drop {bs : List (Int × Int)} {es : List En} (h : Wf bs es) (n : Int) : Wf (dropL bs es n) es := by
  unfold dropL
  cases hb : boxF bs n with
  | none => exact h
  | some i =>
    dsimp only
    cases hf : inF es n with
    | some k => exact h
    | none =>
      obtain ⟨hi, hE, _⟩ := boxF_at hb
      have hmem : ∀ b, b ∈ bs.take i ++ bs.drop (i + 1) → b ∈ bs := fun b h1 => by
        rcases List.mem_append.1 h1 with h1 | h1
        · exact List.mem_of_mem_take h1
        · exact List.mem_of_mem_drop h1
      refine ⟨fun b h1 => h.bn b (hmem b h1), fun e he => ?_, h.so, h.fr, h.rk, h.gu⟩
      obtain ⟨b, h1, h2⟩ := h.pl e he
      have h3 := idxF_none hf e he
      have h4 : b.1 ≠ n := fun h5 => by
        rw [h2] at h5
        simp [h5] at h3
      refine ⟨b, ?_, h2⟩
      obtain ⟨j, hj, rfl⟩ := List.getElem_of_mem h1
      by_cases hji : j < i
      · exact List.mem_append.2 (Or.inl (List.mem_iff_getElem?.2 ⟨j, by rw [List.getElem?_take, if_pos hji, List.getElem?_eq_getElem hj]⟩))
      · have h5 : j ≠ i := fun e => h4 (by subst e; exact hE)
        exact List.mem_append.2 (Or.inr (List.mem_iff_getElem?.2 ⟨j - (i + 1), by rw [List.getElem?_drop, show i + 1 + (j - (i + 1)) = j by omega, List.getElem?_eq_getElem hj]⟩))
theorem Wf.move {bs : List (Int × Int)} {es : List En} (h : Wf bs es) (s t : Sl) : Wf bs (moveL bs es s t) := by
  unfold moveL
  rcases full_cases bs es s with ⟨i, hf, _⟩ | hf | hf
  · obtain ⟨hi, hE⟩ := full_at hf
    rw [hf]
    dsimp only
    by_cases hz : freeF bs es t = 0
    · rw [if_pos hz]
      obtain ⟨hb, hx⟩ := free_none hz
      have hg := getD_at es i hi
      have hnx : t ≠ (-1, -1) := fun e => by
        obtain ⟨b, hb, hE⟩ := hb
        have h1 := (h.bn b hb).2
        rw [e] at hE
        simp only at hE
        omega
      have hfe : ∀ e ∈ es, e.from' ≠ t := fun e he hE => by
        rcases h.fr e he with h1 | ⟨e2, h2, h3⟩
        · exact hnx (by rw [← hE, h1])
        · exact hx e2 h2 (by rw [h3, hE])
      have hatC : ∀ y ∈ cutL es i t, y.at' ≠ t := fun y hy => by
        obtain ⟨e, he, rfl⟩ := mem_cutL hy
        rw [(cutY_at _ _ e).1]
        exact hx e (erase_ne h.so hi he).1
      have hmem : ∀ e2 ∈ es, e2.at' ≠ es[i].at' → ∃ y ∈ cutL es i t, y.at' = e2.at' := fun e2 h2 h3 => ⟨cutY (es.getD i .df).at' t e2, List.mem_map.2 ⟨e2, mem_erase hi h2 h3, rfl⟩, (cutY_at _ _ e2).1⟩
      obtain ⟨r, hr⟩ := h.rk
      refine ⟨h.bn, fun y hy => ?_, insF_srt (cutL_srt h.so i t) _ hatC, fun y hy => ?_, ?_, fun y hy => ?_⟩
      · rcases mem_insF.1 hy with rfl | hy
        · exact hb
        · obtain ⟨e, he, rfl⟩ := mem_cutL hy
          rw [(cutY_at _ _ e).1]
          exact h.pl e (erase_ne h.so hi he).1
      · rcases mem_insF.1 hy with rfl | hy
        · dsimp only
          rw [hg]
          rcases h.fr es[i] (List.getElem_mem hi) with h1 | ⟨e2, h2, h3⟩
          · exact Or.inl h1
          · right
            obtain ⟨y, hy1, hy2⟩ := hmem e2 h2 (fun h4 => by
              have h5 := hr _ (List.getElem_mem hi)
              rw [← h3, h4] at h5
              omega)
            exact ⟨y, mem_insF.2 (Or.inr hy1), by rw [hy2, h3]⟩
        · obtain ⟨e, he, rfl⟩ := mem_cutL hy
          unfold cutY
          by_cases hc : e.from' = (es.getD i .df).at'
          · rw [if_pos hc]
            exact Or.inr ⟨_, mem_insF.2 (Or.inl rfl), rfl⟩
          · rw [if_neg hc]
            rcases h.fr e (erase_ne h.so hi he).1 with h1 | ⟨e2, h2, h3⟩
            · exact Or.inl h1
            · right
              obtain ⟨y, hy1, hy2⟩ := hmem e2 h2 (fun h4 => hc (by rw [hg, ← h4, h3]))
              exact ⟨y, mem_insF.2 (Or.inr hy1), by rw [hy2, h3]⟩
      · refine ⟨fun z => if z = t then r es[i].at' else r z, fun y hy => ?_⟩
        dsimp only
        rcases mem_insF.1 hy with rfl | hy
        · dsimp only
          rw [hg, if_neg (hfe _ (List.getElem_mem hi)), if_pos rfl]
          exact hr _ (List.getElem_mem hi)
        · obtain ⟨e, he, rfl⟩ := mem_cutL hy
          obtain ⟨hem, hne⟩ := erase_ne h.so hi he
          rw [(cutY_at _ _ e).1, if_neg (hx e hem)]
          have h1 := hr e hem
          unfold cutY
          by_cases hc : e.from' = (es.getD i .df).at'
          · rw [if_pos hc]
            dsimp only
            rw [if_pos rfl]
            rw [hc, hg] at h1
            exact h1
          · rw [if_neg hc, if_neg (hfe e hem)]; exact h1
      · rcases mem_insF.1 hy with rfl | hy
        · dsimp only
          rw [hg]
          exact h.gu _ (List.getElem_mem hi)
        · obtain ⟨e, he, rfl⟩ := mem_cutL hy
          rw [(cutY_at _ _ e).2]
          exact h.gu e (erase_ne h.so hi he).1
    · rw [if_neg hz]; exact h
  · rw [hf]; exact h
  · rw [hf]; exact h
/-- What Below needs. -/
theorem Wf.deep {bs : List (Int × Int)} {es : List En} (h : Wf bs es) (hl : es.length ≤ 1000000) : ∃ (r : Sl → Nat) (D : Nat), (∀ e ∈ es, r e.from' < r e.at') ∧ (∀ e ∈ es, r e.at' ≤ D) ∧ ∀ d s, (belN es d s).length ≤ 1000000 := by
  obtain ⟨r, hr⟩ := h.rk
  have hn := h.so.nodup
  have hD : ∃ D, ∀ e ∈ es, r e.at' ≤ D := by
    clear hr hn hl h
    induction es with
    | nil => exact ⟨0, fun e he => by cases he⟩
    | cons x es ih =>
      obtain ⟨D, hD⟩ := ih
      refine ⟨max D (r x.at'), fun e he => ?_⟩
      rcases List.mem_cons.1 he with rfl | he
      · exact Nat.le_max_right _ _
      · exact Nat.le_trans (hD e he) (Nat.le_max_left _ _)
  obtain ⟨D, hD⟩ := hD
  exact ⟨r, D, hr, hD, fun d s => Nat.le_trans (belN_len es (once_of_nodup hn) hn r hr d s) hl⟩
end Go.Proofs.YtbmchgjilkoplaaDoor

/- The law's pick and near. -/
namespace Go.Proofs.YtbmchgjilkoplaaDoor
open Go.ChangeShapes Go.WideShapes Go.ChangeAt Go.RowKit
open Go.Vx

/-- The number that pick makes. -/
def pickL (n : Int) (m : Nat) : Nat := (if n < 0 then (-(n + 1)).toNat else n.toNat) % m
theorem pickL_any (m : Nat) (hm : 1 ≤ m) (hm2 : m ≤ 4398046511104) (n : Int) (h0 : -9223372036854775808 ≤ n) (h1 : n ≤ 9223372036854775807) (w : World) :
    Calls Tryd.prog 56 #[.int .i64 n, .int .i64 (m : Int)] w fun e w' => e = .returned (.int .i64 (pickL n m : Nat)) ∧ w' = w := by
  have hz : ¬ (m : Int) = 0 := by omega
  have hz1 : ¬ (m : Int) = -1 := by omega
  by_cases hn : n < 0
  · have hr : -(n + 1).tmod (m : Int) = (pickL n m : Nat) := by
      rw [← Int.neg_tmod, Int.tmod_eq_emod_of_nonneg (by omega)]
      unfold pickL
      rw [if_pos hn, Int.natCast_emod, Int.toNat_of_nonneg (by omega)]
    have HR := Vx.hid hr
    clear hr
    generalize pickL n m = k at HR
    go_enter Tryd.func56, Tryd.ntmps56
    go_wp2
    all_goals
      go_ret
      refine ⟨?_, rfl⟩
      show Ending.returned (Value.int .i64 (-(n + 1).tmod (m : Int))) = _
      rw [HR.out]
  · have hr : n.tmod (m : Int) = (pickL n m : Nat) := by
      rw [Int.tmod_eq_emod_of_nonneg (by omega)]
      unfold pickL
      rw [if_neg hn, Int.natCast_emod, Int.toNat_of_nonneg (by omega)]
    have hk : (pickL n m) < m := Nat.mod_lt _ (by omega)
    generalize pickL n m = k at hr hk
    have hw3 : IntKind.i64.wrap (k : Int) = (k : Int) := by rw [IntKind.wrap_i64]; omega
    go_enter Tryd.func56, Tryd.ntmps56
    go_wp2
    all_goals
      go_ret
      first | exact ⟨rfl, rfl⟩ | skip
/-- A number of 64 bits. -/
def I64 (n : Int) : Prop := -9223372036854775808 ≤ n ∧ n ≤ 9223372036854775807
def nearF (c : Int) (n : Nat) : Int := if c.tmod 31 = 30 then c else (pickL c (n + 2) : Nat) - 1
theorem near_i64 {c : Int} (h : I64 c) (n : Nat) (hn : n ≤ 1048576) : I64 (nearF c n) := by
  unfold nearF
  split
  · exact h
  · have : pickL c (n + 2) < n + 2 := Nat.mod_lt _ (by omega)
    unfold I64
    omega
theorem near_any (c : Int) (h : I64 c) (n : Nat) (hn : n ≤ 1048576) (w : World) :
    Calls Tryd.prog 24 #[.int .i64 c, .int .i64 (n : Int)] w fun e w' => e = .returned (.int .i64 (nearF c n)) ∧ w' = w := by
  obtain ⟨h0, h1⟩ := h
  by_cases h3 : c.tmod 31 = 30
  · have HN : Hid (nearF c n = c) := if_pos h3
    go_enter Tryd.func24, Tryd.ntmps24
    go_wp2_with fail
    all_goals
      go_ret
      rw [HN.out]
      exact ⟨rfl, rfl⟩
  · have HN : Hid (nearF c n = (pickL c (n + 2) : Nat) - 1) := if_neg h3
    have HP := Vx.hid (pickL_any (n + 2) (by omega) (by omega) c h0 h1)
    have hk : pickL c (n + 2) < n + 2 := Nat.mod_lt _ (by omega)
    generalize pickL c (n + 2) = k at HP HN hk
    obtain ⟨m, hm⟩ : ∃ m, m = n + 2 := ⟨_, rfl⟩
    rw [← hm] at HP
    have e1 : (n : Int) + 2 = (m : Int) := by omega
    have w1 : IntKind.i64.wrap (m : Int) = (m : Int) := by rw [IntKind.wrap_i64]; omega
    have w2 : IntKind.i64.wrap ((k : Int) - 1) = (k : Int) - 1 := by rw [IntKind.wrap_i64]; omega
    clear hm hk
    go_enter Tryd.func24, Tryd.ntmps24
    go_wp2_with fail
    refine (HP.out _).mono ?_
    rintro e w' ⟨rfl, h⟩
    have h3 := h.symm; clear h; subst h3
    go_wp2_with fail
    all_goals
      go_ret
      rw [HN.out]
      exact ⟨rfl, rfl⟩
end Go.Proofs.YtbmchgjilkoplaaDoor

import Derived.Test.YtbbabpgmclhinaaCs21
/- Chapter 8, pure: Give keeps what is always so. -/
namespace Go.Proofs.Ytbbabpgmclhinaa
open Go.Vx
set_option linter.unusedVariables false
variable {P : Int} {os rs : List (Int × Int)}

theorem map_set_same {l : List (Int × Int)} {i : Nat} {y : Int × Int} (hi : i < l.length) (hy : l[i].1 = y.1) : (l.set i y).map (·.1) = l.map (·.1) := by
  apply List.ext_getElem?
  intro j
  rw [List.getElem?_map, List.getElem?_map, List.getElem?_set]
  by_cases h : i = j
  · subst h
    rw [if_pos rfl, if_pos hi, List.getElem?_eq_getElem hi]
    simp [hy]
  · rw [if_neg h]
theorem set_mem {l : List (Int × Int)} {i : Nat} {y r : Int × Int} (hn : (l.map (·.1)).Nodup) (hi : i < l.length) (hy : l[i].1 = y.1) (hr : r ∈ l.set i y) : r = y ∨ (r ∈ l ∧ r.1 ≠ y.1) := by
  obtain ⟨j, hj, rfl⟩ := List.mem_iff_getElem.1 hr
  rw [List.length_set] at hj
  rw [List.getElem_set]
  by_cases h : i = j
  · rw [if_pos h]; exact Or.inl rfl
  · rw [if_neg h]
    refine Or.inr ⟨List.getElem_mem _, fun hc => ?_⟩
    rw [List.nodup_iff_pairwise_ne, List.pairwise_iff_getElem] at hn
    rw [← hy] at hc
    rcases Nat.lt_or_gt_of_ne h with h1 | h1
    · exact hn i j (by simpa using hi) (by simpa using hj) h1 (by simpa using hc.symm)
    · exact hn j i (by simpa using hj) (by simpa using hi) h1 (by simpa using hc)
/-- Things are made in an untyped, from M on. -/
theorem PWf.grow (h : PWf P os rs) {i : Nat} {num : Int} (hi : i < rs.length) (hnum : rs[i].1 = num) {M m' : Int} (hM0 : 0 ≤ M) (hMm : M ≤ m') (hm' : m' ≤ (bN num : Int))
    (hbo : ∀ o ∈ os, (bA num : Int) ≤ o.2 → o.2 < (bA num : Int) + (bN num : Int) → o.2 < (bA num : Int) + M) (hbr : ∀ s ∈ rs, Meet num s.1 → bN s.1 < bN num → (bA s.1 : Int) + (bN s.1 : Int) ≤ (bA num : Int) + M)
    {O G : List (Int × Int)} (hO : ∀ o ∈ O, 2 ≤ o.1 ∧ o.1 ≤ 8 ∧ (bA num : Int) + M ≤ o.2 ∧ o.2 < (bA num : Int) + m') (hOn : (O.map (·.2)).Nodup)
    (hG : ∀ g ∈ G, RgOk g.1 ∧ bA g.1 % bN g.1 = 0 ∧ g.2 = 0 ∧ (bA num : Int) + M ≤ (bA g.1 : Int) ∧ (bA g.1 : Int) + (bN g.1 : Int) ≤ (bA num : Int) + m' ∧ bN g.1 < bN num) (hGn : (G.map (·.1)).Nodup) (hGs : ∀ g ∈ G, ∀ g' ∈ G, ¬ bN g'.1 < bN g.1) (hOG : O = [] ∨ G = []) :
    PWf P (os ++ O) ((rs ++ G).set i (num, m')) := by
  have hr0 : rs[i] ∈ rs := List.getElem_mem _
  obtain ⟨k1, k2, k3, k4, k5⟩ := h.rk _ hr0
  rw [hnum] at k1 k2 k3 k5
  have hp := h.p
  have hi2 : i < (rs ++ G).length := by rw [List.length_append]; omega
  have hn2 : (rs ++ G)[i].1 = (num, m').1 := by rw [List.getElem_append_left hi]; exact hnum
  have nd : ((rs ++ G).map (·.1)).Nodup := by
    rw [List.map_append, List.nodup_append]
    refine ⟨h.rn, hGn, fun a ha b hb => ?_⟩
    obtain ⟨r, hr, rfl⟩ := List.mem_map.1 ha
    obtain ⟨g, hg, rfl⟩ := List.mem_map.1 hb
    intro hc
    obtain ⟨g1, g2, g3, g4, g5, g6⟩ := hG g hg
    have hb := bN_pos g.1
    have hme : Meet num r.1 := by rw [hc]; unfold Meet; omega
    have := hbr r hr hme (by rw [hc]; exact g6)
    rw [hc] at this
    omega
  -- an old untyped that meets a thing made in this one
  have old : ∀ r ∈ rs, r.1 ≠ num → ∀ a b : Int, (bA num : Int) + M ≤ a → b ≤ (bA num : Int) + m' → a < b → (bA r.1 : Int) < b → a < (bA r.1 : Int) + (bN r.1 : Int) → b ≤ (bA r.1 : Int) + r.2 := by
    intro r hr hne a b h1 h2 h3 h4 h5
    have hme : Meet num r.1 := by unfold Meet; omega
    have r2 := (h.rk r hr)
    rcases Nat.lt_trichotomy (bN r.1) (bN num) with hl | hl | hl
    · have := hbr r hr hme hl
      omega
    · exact absurd (same_num k1 r2.1 k2 r2.2.1 hme hl) hne
    · have h6 := h.br r hr _ hr0 (by rw [hnum]; exact hme.symm) (by rw [hnum]; exact hl)
      rw [hnum] at h6
      omega
  refine ⟨hp, fun o ho => ?_, fun r hr => ?_, ?_, ?_, fun r hr o ho a b => ?_, fun r hr s hs a b => ?_⟩
  · rcases List.mem_append.1 ho with ho | ho
    · exact h.ok o ho
    · have := hO o ho
      omega
  · rcases set_mem nd hi2 hn2 hr with rfl | ⟨hr, _⟩
    · exact ⟨k1, k2, k3, by simp only; omega, hm'⟩
    · rcases List.mem_append.1 hr with hr | hr
      · exact h.rk r hr
      · obtain ⟨g1, g2, g3, g4, g5, g6⟩ := hG r hr
        exact ⟨g1, g2, by omega, by omega, by omega⟩
  · rw [List.map_append, List.nodup_append]
    refine ⟨h.on, hOn, fun a ha b hb => ?_⟩
    obtain ⟨o, ho, rfl⟩ := List.mem_map.1 ha
    obtain ⟨x, hx, rfl⟩ := List.mem_map.1 hb
    intro hc
    have h1 := hO x hx
    have h2 := hbo o ho (by omega) (by omega)
    omega
  · rw [map_set_same hi2 hn2]
    exact nd
  · rcases set_mem nd hi2 hn2 hr with rfl | ⟨hr, hne⟩
    · simp only at a b ⊢
      rcases List.mem_append.1 ho with ho | ho
      · have := hbo o ho a b
        omega
      · exact (hO o ho).2.2.2
    · rcases List.mem_append.1 hr with hr | hr
      · rcases List.mem_append.1 ho with ho | ho
        · exact h.bo r hr o ho a b
        · have h1 := hO o ho
          have := old r hr hne o.2 (o.2 + 1) h1.2.2.1 (by omega) (by omega) (by omega) b
          omega
      · obtain ⟨g1, g2, g3, g4, g5, g6⟩ := hG r hr
        rcases List.mem_append.1 ho with ho | ho
        · have := hbo o ho (by omega) (by omega)
          omega
        · rcases hOG with rfl | rfl
          · cases ho
          · cases hr
  · rcases set_mem nd hi2 hn2 hr with rfl | ⟨hr, hne⟩
    · simp only at a b ⊢
      rcases set_mem nd hi2 hn2 hs with rfl | ⟨hs, hne2⟩
      · exact absurd b (Nat.lt_irrefl _)
      · rcases List.mem_append.1 hs with hs | hs
        · have := hbr s hs a b
          omega
        · exact (hG s hs).2.2.2.2.1
    · rcases List.mem_append.1 hr with hr | hr
      · rcases set_mem nd hi2 hn2 hs with rfl | ⟨hs, hne2⟩
        · simp only at a b ⊢
          have h6 := h.br r hr _ hr0 (by rw [hnum]; exact a) (by rw [hnum]; exact b)
          rw [hnum] at h6
          exact h6
        · rcases List.mem_append.1 hs with hs | hs
          · exact h.br r hr s hs a b
          · obtain ⟨g1, g2, g3, g4, g5, g6⟩ := hG s hs
            have hb := bN_pos s.1
            have hme := a
            unfold Meet at hme
            exact old r hr hne _ _ g4 g5 (by omega) (by omega) (by omega)
      · obtain ⟨g1, g2, g3, g4, g5, g6⟩ := hG r hr
        have hme := a
        unfold Meet at hme
        rcases set_mem nd hi2 hn2 hs with rfl | ⟨hs, hne2⟩
        · simp only at b
          omega
        · rcases List.mem_append.1 hs with hs | hs
          · have hb := bN_pos s.1
            have := hbr s hs (by unfold Meet; omega) (by omega)
            omega
          · exact absurd b (hGs r hr s hs)
theorem upN_mod {m n : Nat} (hn : 0 < n) : upN m n % n = 0 := by
  have hr := Nat.mod_lt m hn
  have hd := Nat.div_add_mod m n
  unfold upN
  by_cases h : m % n = 0
  · rw [h, Nat.sub_zero, Nat.mod_self, Nat.add_zero]
    exact h
  · rw [Nat.mod_eq_of_lt (show n - m % n < n by omega)]
    have e : m + (n - m % n) = n * (m / n) + n := by omega
    rw [e, Nat.mul_add_mod, Nat.mod_self]
theorem giveN_mem {b n x y : Int} {j : Nat} (h : y ∈ giveN b n x j) : ∃ t : Nat, t < j ∧ y = b + (t : Int) * n + x := by
  unfold giveN at h
  obtain ⟨t, ht, rfl⟩ := List.mem_map.1 h
  exact ⟨t, List.mem_range.1 ht, rfl⟩
theorem giveN_nodup {b n x : Int} (hn : 0 < n) (j : Nat) : (giveN b n x j).Nodup := by
  unfold giveN
  rw [List.nodup_iff_pairwise_ne, List.pairwise_map]
  refine (List.pairwise_lt_range).imp ?_
  intro s t hst hc
  have h1 : (s : Int) * n = (t : Int) * n := by omega
  have h2 : (s : Int) * n < (t : Int) * n := Int.mul_lt_mul_of_pos_right (by omega) hn
  omega
/-- What stands behind a Give that did not refuse. -/
theorem give_zero {num kind order many : Int} (he : giveE os rs num kind order many = 0) : (1 ≤ kind ∧ kind ≤ 8) ∧ (0 ≤ order ∧ order ≤ 8) ∧ (kind ≠ 1 → order = 0) ∧ (1 ≤ many ∧ many ≤ 64) ∧ ∃ i, rgF rs num = some i ∧ (kind = 1 → ((2 ^ order.toNat : Nat) : Int) < pgN (1, num)) ∧ (giveM os rs num i (2 ^ order.toNat) : Int) + many * ((2 ^ order.toNat : Nat) : Int) ≤ pgN (1, num) := by
  unfold giveE at he
  by_cases e1 : kind < 1 ∨ 8 < kind
  · rw [if_pos e1] at he; cases he
  rw [if_neg e1] at he
  by_cases e2 : order < 0 ∨ 8 < order ∨ (kind ≠ 1 ∧ order ≠ 0) ∨ many < 1 ∨ 64 < many
  · rw [if_pos e2] at he; cases he
  rw [if_neg e2] at he
  cases hx : rgF rs num with
  | none => rw [hx] at he; cases he
  | some i =>
    rw [hx] at he
    simp only at he
    by_cases e3 : (kind = 1 ∧ pgN (1, num) ≤ ((2 ^ order.toNat : Nat) : Int)) ∨ pgN (1, num) < (giveM os rs num i (2 ^ order.toNat) : Int) + many * ((2 ^ order.toNat : Nat) : Int)
    · rw [if_pos e3] at he; cases he
    · refine ⟨by omega, by omega, fun hk => ?_, by omega, i, rfl, fun hk => ?_, ?_⟩
      · exact Classical.byContradiction (fun hc => e2 (Or.inr (Or.inr (Or.inl ⟨hk, hc⟩))))
      · exact Int.not_le.1 (fun hc => e3 (Or.inl ⟨hk, hc⟩))
      · exact Int.not_lt.1 (fun hc => e3 (Or.inr hc))
theorem PWf.give (h : PWf P os rs) (num kind order many : Int) : PWf P (giveRO os rs num kind order many) (giveRG os rs num kind order many) := by
  by_cases he : giveE os rs num kind order many = 0
  · obtain ⟨hk, ho, hko, hm, i, hx, hk1, hroom⟩ := give_zero he
    obtain ⟨hi, hnum⟩ := rgF_at hx
    unfold giveRO giveRG
    rw [if_pos he, if_pos he]
    unfold giveO giveG
    rw [hx]
    simp only [Option.getD_some]
    obtain ⟨n, hn⟩ : ∃ n : Nat, n = 2 ^ order.toNat := ⟨_, rfl⟩
    have hn0 : 0 < n := by rw [hn]; exact Nat.pow_pos (by decide)
    rw [← hn] at hroom hk1 ⊢
    obtain ⟨M, hM⟩ : ∃ M : Nat, M = giveM os rs num i n := ⟨_, rfl⟩
    rw [← hM] at hroom ⊢
    rw [pgN_b] at hroom hk1
    have hr0 : rs[i] ∈ rs := List.getElem_mem _
    obtain ⟨k1, k2, k3, k4, k5⟩ := h.rk _ hr0
    rw [hnum] at k1 k2 k3 k5
    have hmod : M % n = 0 := by rw [hM]; exact upN_mod hn0
    have hMb : (∀ o ∈ os, (bA num : Int) ≤ o.2 → o.2 < (bA num : Int) + (bN num : Int) → o.2 < (bA num : Int) + (M : Int)) ∧ (∀ s ∈ rs, Meet num s.1 → bN s.1 < bN num → (bA s.1 : Int) + (bN s.1 : Int) ≤ (bA num : Int) + (M : Int)) := by
      cases hl : liesB os rs num with
      | true =>
        have hge : rs[i].2 ≤ (M : Int) := by
          have h1 := upN_le (rs[i].2.toNat) n
          rw [hM]
          unfold giveM
          rw [hl, if_pos rfl, getD_two hi]
          omega
        constructor
        · intro o ho a b
          have := h.bo _ hr0 o ho (by rw [hnum]; exact a) (by rw [hnum]; exact b)
          rw [hnum] at this
          omega
        · intro s hs a b
          have := h.br _ hr0 s hs (by rw [hnum]; exact a) (by rw [hnum]; exact b)
          rw [hnum] at this
          omega
      | false =>
        obtain ⟨f1, f2⟩ := lies_false hl (fun o ho => by have := h.ok o ho; omega)
        exact ⟨fun o ho a b => absurd ⟨a, b⟩ (f1 o ho), fun s hs a b => absurd b (f2 s hs a)⟩
    obtain ⟨mN, hmN⟩ : ∃ mN : Nat, many = (mN : Int) := ⟨many.toNat, by omega⟩
    have hmT : many.toNat = mN := by omega
    rw [hmT]
    have hpos : 0 ≤ many * (n : Int) := Int.mul_nonneg (by omega) (by omega)
    have each : ∀ t : Nat, t < mN → 0 ≤ (t : Int) * (n : Int) ∧ (t : Int) * (n : Int) + (n : Int) ≤ many * (n : Int) := fun t ht => by
      have e1 : (t + 1) * n ≤ mN * n := Nat.mul_le_mul_right _ ht
      rw [Nat.add_mul, Nat.one_mul] at e1
      have e2 : ((t * n : Nat) : Int) = (t : Int) * (n : Int) := Int.natCast_mul t n
      have e3 : ((mN * n : Nat) : Int) = many * (n : Int) := by rw [hmN]; exact Int.natCast_mul mN n
      omega
    have hnsE : giveNs os rs num kind order i mN = giveN ((bA num : Int) + (M : Int)) (n : Int) (if kind = 1 then 256 * order else 0) mN := by
      unfold giveNs
      rw [← hn, ← hM, pgA_b]
    by_cases hk2 : kind = 1
    · subst hk2
      rw [if_pos rfl, if_pos rfl, hnsE, if_pos rfl]
      have hlt := hk1 rfl
      have hnum2 : ∀ y ∈ giveN ((bA num : Int) + (M : Int)) (n : Int) (256 * order) mN, RgOk y ∧ bN y = n ∧ (bA num : Int) + (M : Int) ≤ (bA y : Int) ∧ (bA y : Int) + (n : Int) ≤ (bA num : Int) + ((M : Int) + many * (n : Int)) ∧ bA y % n = 0 := by
        intro y hy
        obtain ⟨t, ht, rfl⟩ := giveN_mem hy
        obtain ⟨e1, e2⟩ := each t ht
        have hP := h.p
        obtain ⟨z, hz⟩ : ∃ z : Nat, (z : Int) = (t : Int) * (n : Int) := ⟨t * n, Int.natCast_mul t n⟩
        rw [← hz] at e1 e2 ⊢
        have hzn : z % n = 0 := by
          have : z = t * n := by have := (Int.natCast_mul t n).trans hz.symm; omega
          rw [this, Nat.mul_mod_left]
        have f1 : ((bA num : Int) + (M : Int) + (z : Int) + 256 * order) / 256 = order := by omega
        have f2 : ((bA num : Int) + (M : Int) + (z : Int) + 256 * order) % 256 = (bA num : Int) + (M : Int) + (z : Int) := by omega
        have f3 : bN ((bA num : Int) + (M : Int) + (z : Int) + 256 * order) = n := by unfold bN; rw [f1, hn]
        have f4 : bA ((bA num : Int) + (M : Int) + (z : Int) + 256 * order) = bA num + M + z := by unfold bA at f2 ⊢; omega
        have f5 : bA num % n = 0 := by
          have hd : n ∣ bN num := by
            rw [← f3]
            exact bN_dvd (by rw [f3]; omega)
          exact Nat.mod_eq_zero_of_dvd (Nat.dvd_trans hd (Nat.dvd_of_mod_eq_zero k2))
        refine ⟨?_, f3, by rw [f4]; omega, by rw [f4]; omega, ?_⟩
        · unfold RgOk; omega
        · rw [f4, Nat.add_mod, Nat.add_mod (bA num), f5, hmod, hzn]
          simp
      have := h.grow (O := []) (G := (giveN ((bA num : Int) + (M : Int)) (n : Int) (256 * order) mN).map (fun y => (y, 0))) hi hnum (M := (M : Int)) (m' := (M : Int) + many * (n : Int)) (by omega) (by omega) (by omega) hMb.1 hMb.2
        (fun o ho => by cases ho) List.nodup_nil (fun g hg => by
          obtain ⟨y, hy, rfl⟩ := List.mem_map.1 hg
          obtain ⟨a1, a2, a3, a4, a5⟩ := hnum2 y hy
          exact ⟨a1, by simp only; rw [a2]; exact a5, rfl, a3, by simp only; rw [a2]; exact a4, by simp only; rw [a2]; omega⟩) (by
          rw [List.map_map]
          have e : ((fun x : Int × Int => x.1) ∘ fun y : Int => (y, (0 : Int))) = id := rfl
          rw [e, List.map_id]
          exact giveN_nodup (by omega) _) (fun g hg g' hg' => by
          obtain ⟨y, hy, rfl⟩ := List.mem_map.1 hg
          obtain ⟨y', hy', rfl⟩ := List.mem_map.1 hg'
          have b1 := (hnum2 y hy).2.1
          have b2 := (hnum2 y' hy').2.1
          simp only
          omega) (Or.inl rfl)
      rw [List.append_nil] at this
      exact this
    · have ho0 := hko hk2
      rw [if_neg hk2, if_neg hk2, hnsE, if_neg hk2]
      have hn1 : n = 1 := by rw [hn, ho0]; rfl
      have := h.grow (O := (giveN ((bA num : Int) + (M : Int)) (n : Int) 0 mN).map (fun y => (kind, y))) (G := []) hi hnum (M := (M : Int)) (m' := (M : Int) + many * (n : Int)) (by omega) (by omega) (by omega) hMb.1 hMb.2
        (fun o ho => by
          obtain ⟨y, hy, rfl⟩ := List.mem_map.1 ho
          obtain ⟨t, ht, rfl⟩ := giveN_mem hy
          obtain ⟨e1, e2⟩ := each t ht
          simp only
          omega) (by
          rw [List.map_map]
          have e : ((fun x : Int × Int => x.2) ∘ fun y : Int => (kind, y)) = id := rfl
          rw [e, List.map_id]
          exact giveN_nodup (by omega) _) (fun g hg => by cases hg) List.nodup_nil (fun g hg => by cases hg) (Or.inr rfl)
      rw [List.append_nil] at this
      exact this
  · unfold giveRO giveRG
    rw [if_neg he, if_neg he]
    exact h
end Go.Proofs.Ytbbabpgmclhinaa

import Derived.Test.YtbbabpgmclhinaaCs19
/- Chapter 8, pure: pages of untypeds. -/
namespace Go.Proofs.Ytbbabpgmclhinaa
open Go.Vx
set_option linter.unusedVariables false

/-- An untyped's first page, and how many. -/
def bA (n : Int) : Nat := (n % 256).toNat
def bN (n : Int) : Nat := 2 ^ (n / 256).toNat
theorem bN_pos (n : Int) : 0 < bN n := Nat.pow_pos (by decide)
theorem bA_lt (n : Int) : bA n < 256 := by unfold bA; omega
theorem pgA_b (n : Int) : pgA (1, n) = (bA n : Int) := by unfold pgA bA; rw [if_pos rfl]; simp only; omega
theorem pgN_b (n : Int) : pgN (1, n) = (bN n : Int) := if_pos rfl
theorem pgA_o {o : Int × Int} (h : o.1 ≠ 1) : pgA o = o.2 := if_neg h
theorem pgN_o {o : Int × Int} (h : o.1 ≠ 1) : pgN o = 1 := if_neg h
def Meet (m n : Int) : Prop := bA m < bA n + bN n ∧ bA n < bA m + bN m
theorem meet_r (m n : Int) : meetB (1, m) (1, n) = true ↔ Meet m n := by
  unfold meetB meetN Meet
  rw [pgA_b, pgA_b, pgN_b, pgN_b, decide_eq_true_iff]
  omega
theorem meet_o (m : Int) {o : Int × Int} (h : o.1 ≠ 1) : meetB (1, m) o = true ↔ (bA m : Int) ≤ o.2 ∧ o.2 < (bA m : Int) + (bN m : Int) := by
  unfold meetB meetN
  rw [pgA_b, pgN_b, pgA_o h, pgN_o h, decide_eq_true_iff]
  omega
theorem meet_oo {x o : Int × Int} (hx : x.1 ≠ 1) (h : o.1 ≠ 1) : meetB x o = true ↔ x.2 = o.2 := by
  unfold meetB meetN
  rw [pgA_o hx, pgN_o hx, pgA_o h, pgN_o h, decide_eq_true_iff]
  omega
theorem meet_or {x : Int × Int} (hx : x.1 ≠ 1) (m : Int) : meetB x (1, m) = true ↔ (bA m : Int) ≤ x.2 ∧ x.2 < (bA m : Int) + (bN m : Int) := by
  unfold meetB meetN
  rw [pgA_b, pgN_b, pgA_o hx, pgN_o hx, decide_eq_true_iff]
  omega
theorem Meet.symm {m n : Int} (h : Meet m n) : Meet n m := ⟨h.2, h.1⟩
/-- Of two regions that meet, the smaller lies in the other. -/
theorem nest_nat {a b n m : Nat} (hm : 0 < m) (hd : m ∣ n) (ha : n ∣ a) (hb : m ∣ b) (h1 : a < b + m) (h2 : b < a + n) : a ≤ b ∧ b + m ≤ a + n := by
  obtain ⟨c, rfl⟩ := hd
  obtain ⟨p, rfl⟩ := ha
  obtain ⟨q, rfl⟩ := hb
  have e1 : m * c * p = m * (c * p) := Nat.mul_assoc _ _ _
  rw [e1] at h1 h2 ⊢
  have h3 : c * p < q + 1 := by
    have : m * (c * p) < m * (q + 1) := by rw [Nat.mul_add, Nat.mul_one]; exact h1
    exact Nat.lt_of_mul_lt_mul_left this
  have h4 : q < c * p + c := by
    have : m * q < m * (c * p + c) := by rw [Nat.mul_add]; exact h2
    exact Nat.lt_of_mul_lt_mul_left this
  constructor
  · exact Nat.mul_le_mul_left m (by omega)
  · have : m * (q + 1) ≤ m * (c * p + c) := Nat.mul_le_mul_left m (by omega)
    rw [Nat.mul_add, Nat.mul_one, Nat.mul_add] at this
    exact this
theorem bN_dvd {m n : Int} (h : bN n ≤ bN m) : bN n ∣ bN m := by
  unfold bN at *
  have h1 : (n / 256).toNat ≤ (m / 256).toNat := (Nat.pow_le_pow_iff_right (by decide)).1 h
  exact Nat.pow_dvd_pow 2 h1
theorem nest {m n : Int} (hm : bA m % bN m = 0) (hn : bA n % bN n = 0) (h : Meet m n) (hle : bN n ≤ bN m) : bA m ≤ bA n ∧ bA n + bN n ≤ bA m + bN m :=
  nest_nat (bN_pos n) (bN_dvd hle) (Nat.dvd_of_mod_eq_zero hm) (Nat.dvd_of_mod_eq_zero hn) h.1 h.2
theorem same_num {m n : Int} (rm : RgOk m) (rn : RgOk n) (hm : bA m % bN m = 0) (hn : bA n % bN n = 0) (h : Meet m n) (he : bN n = bN m) : n = m := by
  have h1 := nest hm hn h (by omega)
  have h2 : bA m = bA n := by omega
  have h3 : (n / 256).toNat = (m / 256).toNat := by
    unfold bN at he
    exact Nat.le_antisymm ((Nat.pow_le_pow_iff_right (by decide)).1 (Nat.le_of_eq he)) ((Nat.pow_le_pow_iff_right (by decide)).1 (Nat.le_of_eq he.symm))
  unfold bA at h2
  unfold RgOk at rm rn
  omega
theorem Meet.refl (n : Int) : Meet n n := by
  have := bN_pos n
  unfold Meet
  omega
/-- Nothing lies in it. -/
theorem lies_false {os rs : List (Int × Int)} {n : Int} (h : liesB os rs n = false) (hok : ∀ o ∈ os, o.1 ≠ 1) : (∀ o ∈ os, ¬ ((bA n : Int) ≤ o.2 ∧ o.2 < (bA n : Int) + (bN n : Int))) ∧ ∀ s ∈ rs, Meet n s.1 → ¬ bN s.1 < bN n := by
  unfold liesB at h
  rw [Bool.or_eq_false_iff, List.any_eq_false, List.any_eq_false] at h
  constructor
  · intro o ho hc
    exact h.1 o ho ((meet_o n (hok o ho)).2 hc)
  · intro s hs hM hlt
    apply h.2 s hs
    unfold liesR
    rw [(meet_r n s.1).2 hM, pgN_b, pgN_b, Bool.true_and, decide_eq_true_iff]
    omega
/-- What is always so. -/
structure PWf (P : Int) (os rs : List (Int × Int)) : Prop where
  p : 1 ≤ P ∧ P ≤ 256
  ok : ∀ o ∈ os, 2 ≤ o.1 ∧ o.1 ≤ 8 ∧ 0 ≤ o.2 ∧ o.2 < P
  rk : ∀ r ∈ rs, RgOk r.1 ∧ bA r.1 % bN r.1 = 0 ∧ (bA r.1 : Int) + (bN r.1 : Int) ≤ P ∧ 0 ≤ r.2 ∧ r.2 ≤ (bN r.1 : Int)
  on : (os.map (·.2)).Nodup
  rn : (rs.map (·.1)).Nodup
  bo : ∀ r ∈ rs, ∀ o ∈ os, (bA r.1 : Int) ≤ o.2 → o.2 < (bA r.1 : Int) + (bN r.1 : Int) → o.2 < (bA r.1 : Int) + r.2
  br : ∀ r ∈ rs, ∀ s ∈ rs, Meet r.1 s.1 → bN s.1 < bN r.1 → (bA s.1 : Int) + (bN s.1 : Int) ≤ (bA r.1 : Int) + r.2
variable {P : Int} {os rs : List (Int × Int)}
theorem PWf.nil (hP : 1 ≤ P ∧ P ≤ 256) : PWf P [] [] := ⟨hP, (fun _ h => by cases h), (fun _ h => by cases h), List.nodup_nil, List.nodup_nil, (fun _ h => by cases h), (fun _ h => by cases h)⟩
theorem PWf.pg (h : PWf P os rs) : PgOk os rs := ⟨fun o ho => by have := h.ok o ho; have := h.p; omega, fun r hr => (h.rk r hr).1⟩
theorem PWf.marks (h : PWf P os rs) : ∀ r ∈ rs, 0 ≤ r.2 ∧ r.2 ≤ 256 := fun r hr => by
  obtain ⟨h1, h2, h3, h4, h5⟩ := h.rk r hr
  have := h.p
  have := bN_pos r.1
  omega
theorem PWf.lo (h : PWf P os rs) : os.length ≤ 256 := by
  have h1 := nodup_le (os.map (·.2)) ((List.range 256).map (fun k : Nat => (k : Int))) h.on (fun x hx => by
    obtain ⟨o, ho, rfl⟩ := List.mem_map.1 hx
    have := h.ok o ho
    have := h.p
    exact List.mem_map.2 ⟨o.2.toNat, List.mem_range.2 (by omega), by omega⟩)
  simpa using h1
theorem PWf.lr (h : PWf P os rs) : rs.length ≤ 2304 := by
  have h1 := nodup_le (rs.map (·.1)) ((List.range 2304).map (fun k : Nat => (k : Int))) h.rn (fun x hx => by
    obtain ⟨r, hr, rfl⟩ := List.mem_map.1 hx
    have := (h.rk r hr).1
    unfold RgOk at this
    exact List.mem_map.2 ⟨r.1.toNat, List.mem_range.2 (by omega), by omega⟩)
  simpa using h1
theorem PWf.sub {os2 rs2 : List (Int × Int)} (h : PWf P os rs) (h1 : os2.Sublist os) (h2 : rs2.Sublist rs) : PWf P os2 rs2 :=
  ⟨h.p, fun o ho => h.ok o (h1.mem ho), fun r hr => h.rk r (h2.mem hr), h.on.sublist (h1.map _), h.rn.sublist (h2.map _), fun r hr o ho => h.bo r (h2.mem hr) o (h1.mem ho), fun r hr s hs => h.br r (h2.mem hr) s (h2.mem hs)⟩
theorem PWf.rem (h : PWf P os rs) (o : Int × Int) : PWf P (remO os o) (remG os rs o) := by
  refine h.sub ?_ ?_
  · unfold remO
    split
    · exact List.Sublist.refl _
    · exact List.filter_sublist
  · unfold remG
    split
    · split
      · exact List.Sublist.refl _
      · rename_i i hi
        split
        · exact List.Sublist.refl _
        · have h1 : (rs.take i ++ rs.drop (i + 1)).Sublist (rs.take i ++ rs.drop i) := by
            refine List.Sublist.append (List.Sublist.refl _) ?_
            rw [← List.drop_drop]
            exact List.drop_sublist _ _
          rw [List.take_append_drop] at h1
          exact h1
    · exact List.Sublist.refl _
theorem PWf.add (h : PWf P os rs) (o : Int × Int) : PWf P (addO P os rs o) (addG P os rs o) := by
  by_cases he : addE P os rs o = 0
  · unfold addE at he
    by_cases e1 : o.1 < 1 ∨ 8 < o.1
    · rw [if_pos e1] at he; cases he
    rw [if_neg e1] at he
    by_cases e2 : o.2 < 0 ∨ (o.1 = 1 ∧ 2304 ≤ o.2)
    · rw [if_pos e2] at he; cases he
    rw [if_neg e2] at he
    by_cases e3 : pgA o % pgN o ≠ 0 ∨ P - pgN o < pgA o
    · rw [if_pos e3] at he; cases he
    rw [if_neg e3] at he
    by_cases e4 : (os.any (meetB o) || rs.any (fun r => meetB o (1, r.1))) = true
    · rw [if_pos e4] at he; cases he
    have e5 : (os.any (meetB o) || rs.any (fun r => meetB o (1, r.1))) = false := by simpa using e4
    rw [Bool.or_eq_false_iff, List.any_eq_false, List.any_eq_false] at e5
    obtain ⟨fo, fr⟩ := e5
    have he0 : addE P os rs o = 0 := by unfold addE; rw [if_neg e1, if_neg e2, if_neg e3, if_neg e4]
    have hp := h.p
    by_cases hk : o.1 = 1
    · have e6 : addO P os rs o = os := if_neg (fun e => e.2 hk)
      have e7 : addG P os rs o = rs ++ [(o.2, 0)] := if_pos ⟨he0, hk⟩
      rw [e6, e7]
      obtain ⟨k, n⟩ := o
      simp only at hk
      subst hk
      rw [pgA_b, pgN_b] at e3
      have hrk : RgOk n := by
        have a1 : ¬ n < 0 := fun hc => e2 (Or.inl hc)
        have a2 : ¬ 2304 ≤ n := fun hc => e2 (Or.inr ⟨rfl, hc⟩)
        unfold RgOk
        omega
      have g1 : bA n % bN n = 0 := by
        have : ((bA n % bN n : Nat) : Int) = 0 := by rw [Int.natCast_emod]; exact Classical.byContradiction (fun hc => e3 (Or.inl hc))
        omega
      have g2 : (bA n : Int) + (bN n : Int) ≤ P := by have := fun hc => e3 (Or.inr hc); omega
      have no : ∀ o ∈ os, ¬ ((bA n : Int) ≤ o.2 ∧ o.2 < (bA n : Int) + (bN n : Int)) := fun o ho hc => fo o ho ((meet_o n (by have := h.ok o ho; omega)).2 hc)
      have nr : ∀ r ∈ rs, ¬ Meet n r.1 := fun r hr hc => fr r hr ((meet_r n r.1).2 hc)
      refine ⟨hp, h.ok, fun r hr => ?_, h.on, ?_, fun r hr o ho a b => ?_, fun r hr s hs a b => ?_⟩
      · rcases List.mem_append.1 hr with hr | hr
        · exact h.rk r hr
        · rw [List.mem_singleton] at hr
          subst hr
          have := bN_pos n
          exact ⟨hrk, g1, g2, by simp, by simp⟩
      · rw [List.map_append, List.nodup_append]
        refine ⟨h.rn, by simp, fun a ha b hb => ?_⟩
        simp only [List.map_cons, List.map_nil, List.mem_singleton] at hb
        obtain ⟨r, hr, rfl⟩ := List.mem_map.1 ha
        intro hc
        rw [hb] at hc
        exact nr r hr (by rw [hc]; exact Meet.refl n)
      · rcases List.mem_append.1 hr with hr | hr
        · exact h.bo r hr o ho a b
        · rw [List.mem_singleton] at hr
          subst hr
          exact absurd ⟨a, b⟩ (no o ho)
      · rcases List.mem_append.1 hr with hr | hr
        · rcases List.mem_append.1 hs with hs | hs
          · exact h.br r hr s hs a b
          · rw [List.mem_singleton] at hs
            subst hs
            exact absurd a.symm (nr r hr)
        · rw [List.mem_singleton] at hr
          subst hr
          rcases List.mem_append.1 hs with hs | hs
          · exact absurd a (nr s hs)
          · rw [List.mem_singleton] at hs
            subst hs
            exact absurd b (Nat.lt_irrefl _)
    · have e6 : addO P os rs o = os ++ [o] := if_pos ⟨he0, hk⟩
      have e7 : addG P os rs o = rs := if_neg (fun e => hk e.2)
      rw [e6, e7]
      rw [pgA_o hk, pgN_o hk] at e3
      refine ⟨hp, fun x hx => ?_, h.rk, ?_, h.rn, fun r hr x hx a b => ?_, h.br⟩
      · rcases List.mem_append.1 hx with hx | hx
        · exact h.ok x hx
        · rw [List.mem_singleton] at hx
          subst hx
          have := fun hc => e3 (Or.inr hc)
          omega
      · rw [List.map_append, List.nodup_append]
        refine ⟨h.on, by simp, fun a ha b hb => ?_⟩
        simp only [List.map_cons, List.map_nil, List.mem_singleton] at hb
        obtain ⟨x, hx, rfl⟩ := List.mem_map.1 ha
        intro hc
        exact fo x hx ((meet_oo hk (by have := h.ok x hx; omega)).2 (by rw [hc, hb]))
      · rcases List.mem_append.1 hx with hx | hx
        · exact h.bo r hr x hx a b
        · rw [List.mem_singleton] at hx
          subst hx
          exact absurd ((meet_or hk r.1).2 ⟨a, b⟩) (fr r hr)
  · rw [(add_keep o he).1, (add_keep o he).2]
    exact h
end Go.Proofs.Ytbbabpgmclhinaa

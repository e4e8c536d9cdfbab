import Derived.Test.YtbbabpgmclhinaaCs9
import Derived.Test.YtbbabpgmclhinaaCs10
import Derived.Test.YtbbabpgmclhinaaCs15
import Derived.Test.YtbbabpgmclhinaaCs16
import Derived.Test.YtbbabpgmclhinaaCs17
import Derived.Test.YtbbabpgmclhinaaCs18
/- Chapter 8, the document's pool: Add, Remove, Give, whole. -/
namespace Go.Proofs.Ytbbabpgmclhinaa
open Go.ChangeShapes Go.WideShapes Go.ChangeAt Go.RowKit
open Go.Vx
set_option linter.unusedVariables false
variable {U S : Nat → Prop} {w w2 wr : World} {pb : Nat} {P : Int} {vo vr v : Value} {os rs : List (Int × Int)} {ns : List Int}

theorem add_ok (hc : PcAt U w pb P os rs) (hp : PgOk os rs) (hP : 1 ≤ P ∧ P ≤ 256) (k n : Int) (hn : I64 n) (hlo : os.length < 1000000) (hlr : rs.length < 1000000) : Calls Try.prog 31 #[.pointer (some ⟨pb, 0, none⟩), .agg #[.int .i64 k, .int .i64 n]] w fun e w' => e = .returned (.int .i64 (addE P os rs (k, n))) ∧ PcAt U w' pb P (addO P os rs (k, n)) (addG P os rs (k, n)) ∧ Only (fun k => ¬ U k) w w' := by
  by_cases hk : k = 1
  · subst hk
    exact add_one hc hp hP 1 n rfl hn hlo hlr
  · exact add_obj hc hp hP k n hk hn hlo hlr
theorem remove_ok (hc : PcAt U w pb P os rs) (hp : PgOk os rs) (k n : Int) : Calls Try.prog 32 #[.pointer (some ⟨pb, 0, none⟩), .agg #[.int .i64 k, .int .i64 n]] w fun e w' => e = .returned (.int .i64 (remE os rs (k, n))) ∧ PcAt U w' pb P (remO os (k, n)) (remG os rs (k, n)) ∧ Only (fun k => ¬ U k) w w' := by
  by_cases hk : k = 1
  · subst hk
    exact remove_one hc hp n
  · exact remove_obj hc k n hk
theorem give_ok (hc : PcAt U w pb P os rs) (hp : PgOk os rs) (hmk : ∀ r ∈ rs, 0 ≤ r.2 ∧ r.2 ≤ 256) (hlo : os.length ≤ 900000) (hlr : rs.length ≤ 900000) (num kind order many : Int) :
    Calls Try.prog 38 #[.pointer (some ⟨pb, 0, none⟩), .int .i64 num, .int .i64 kind, .int .i64 order, .int .i64 many] w fun e w' => ∃ v, e = .returned (.tuple #[v, .int .i64 (giveE os rs num kind order many)]) ∧ OwnL inL w' w.heap.size 3 v (giveRs os rs num kind order many) ∧ PcAt U w' pb P (giveRO os rs num kind order many) (giveRG os rs num kind order many) ∧ Only (fun k => ¬ U k) w w' := by
  by_cases h0 : kind < 1
  · exact give_k0 hc num kind order many h0
  by_cases h8 : 8 < kind
  · exact give_k8 hc num kind order many h0 h8
  by_cases h1 : order < 0
  · exact give_o0 hc num kind order many h0 h8 h1
  by_cases h2 : 8 < order
  · exact give_o8 hc num kind order many h0 h8 h1 h2
  by_cases hk : kind = 1
  · by_cases h4 : many < 1
    · exact give_m0a hc num kind order many h0 h8 h1 h2 hk h4
    by_cases h5 : 64 < many
    · exact give_m8a hc num kind order many h0 h8 h1 h2 hk h4 h5
    cases hx : rgF rs num with
    | none => exact give_na hc num kind order many h0 h8 h1 h2 hk h4 h5 hx
    | some i =>
      subst hk
      cases hl : liesB os rs num with
      | true => exact give_oneT hc hp hmk hlo hlr num order many (by omega) (by omega) i hx hl
      | false => exact give_oneF hc hp hmk hlo hlr num order many (by omega) (by omega) i hx hl
  · by_cases h3 : order = 0
    · by_cases h4 : many < 1
      · exact give_m0b hc num kind order many h0 h8 h1 h2 hk h3 h4
      by_cases h5 : 64 < many
      · exact give_m8b hc num kind order many h0 h8 h1 h2 hk h3 h4 h5
      cases hx : rgF rs num with
      | none => exact give_nb hc num kind order many h0 h8 h1 h2 hk h3 h4 h5 hx
      | some i =>
        subst h3
        cases hl : liesB os rs num with
        | true => exact give_objT hc hp hmk hlo hlr num kind many (by omega) (by omega) i hx hl
        | false => exact give_objF hc hp hmk hlo hlr num kind many (by omega) (by omega) i hx hl
    · exact give_ko hc num kind order many h0 h8 h1 h2 hk h3
end Go.Proofs.Ytbbabpgmclhinaa

/- Chapter 8, the document's pool: All. -/
namespace Go.Proofs.Ytbbabpgmclhinaa
open Go.ChangeShapes Go.WideShapes Go.ChangeAt Go.RowKit
open Go.Vx
set_option linter.unusedVariables false
variable {U S : Nat → Prop} {w w2 wr : World} {pb : Nat} {P : Int} {vo vr v : Value} {os rs : List (Int × Int)} {ns : List Int}

/-- By kinds, and of one kind by numbers. -/
def ltO (x y : Int × Int) : Prop := x.1 < y.1 ∨ (x.1 = y.1 ∧ x.2 < y.2)
def leO (x y : Int × Int) : Prop := ¬ ltO y x
theorem leO_trans {x y z : Int × Int} (h1 : leO x y) (h2 : leO y z) : leO x z := by unfold leO ltO at *; omega
theorem leO_anti {x y : Int × Int} (h1 : leO x y) (h2 : leO y x) : x = y := by
  unfold leO ltO at *
  exact Prod.ext (by omega) (by omega)
theorem ltO_le {x y : Int × Int} (h : ltO x y) : leO x y := by unfold leO ltO at *; omega
/-- In order up to i, but for what stands at k. -/
def SrtK (xs : List (Int × Int)) (i k : Nat) : Prop := ∀ a b, a < b → b ≤ i → b ≠ k → leO (xs.getD a (0, 0)) (xs.getD b (0, 0))
theorem getD_set (xs : List (Int × Int)) (k a : Nat) (y : Int × Int) (hk : k < xs.length) : (xs.set k y).getD a (0, 0) = if a = k then y else xs.getD a (0, 0) := by
  rw [List.getD_eq_getElem?_getD, List.getD_eq_getElem?_getD, List.getElem?_set]
  by_cases h : a = k
  · rw [if_pos h, if_pos h.symm, if_pos hk]; rfl
  · rw [if_neg h, if_neg (fun e => h e.symm)]
theorem SrtK.swap {xs : List (Int × Int)} {i p : Nat} (h : SrtK xs i (p + 1)) (hp : p + 1 ≤ i) (hl : p + 1 < xs.length) (hlt : ltO (xs.getD (p + 1) (0, 0)) (xs.getD p (0, 0))) :
    SrtK ((xs.set (p + 1) (xs.getD p (0, 0))).set p (xs.getD (p + 1) (0, 0))) i p := by
  intro a b hab hb hne
  have hl1 : p < (xs.set (p + 1) (xs.getD p (0, 0))).length := by rw [List.length_set]; omega
  rw [getD_set _ _ _ _ hl1, getD_set _ _ _ _ hl1, getD_set _ _ _ _ hl, getD_set _ _ _ _ hl, if_neg hne]
  by_cases hb1 : b = p + 1
  · rw [if_pos hb1]
    by_cases ha : a = p
    · rw [if_pos ha]; exact ltO_le hlt
    · rw [if_neg ha, if_neg (by omega)]
      exact h a p (by omega) (by omega) (by omega)
  · rw [if_neg hb1]
    by_cases ha : a = p
    · rw [if_pos ha]
      exact h (p + 1) b (by omega) hb hb1
    · rw [if_neg ha]
      by_cases ha2 : a = p + 1
      · rw [if_pos ha2]
        exact h p b (by omega) hb hb1
      · rw [if_neg ha2]
        exact h a b hab hb hb1
theorem SrtK.stop {xs : List (Int × Int)} {i k : Nat} (h : SrtK xs i k) (hs : k = 0 ∨ ∃ p, k = p + 1 ∧ ¬ ltO (xs.getD (p + 1) (0, 0)) (xs.getD p (0, 0))) : SrtK xs (i + 1) (i + 1) := by
  intro a b hab hb hne
  by_cases hbk : b = k
  · rcases hs with hs | ⟨p, hp, hs⟩
    · omega
    · subst hbk
      subst hp
      have h1 : leO (xs.getD p (0, 0)) (xs.getD (p + 1) (0, 0)) := hs
      by_cases ha : a = p
      · rw [ha]; exact h1
      · exact leO_trans (h a p (by omega) (by omega) (by omega)) h1
  · exact h a b hab (by omega) hbk
theorem SrtK.whole {xs : List (Int × Int)} {i : Nat} (h : SrtK xs i i) (hi : xs.length ≤ i) : xs.Pairwise leO := by
  rw [List.pairwise_iff_getElem]
  intro a b ha hb hab
  have := h a b hab (by omega) (by omega)
  rw [getD_two ha, getD_two hb] at this
  exact this
theorem perm_swap {xs : List (Int × Int)} {p : Nat} (hl : p + 1 < xs.length) : ((xs.set (p + 1) (xs.getD p (0, 0))).set p (xs.getD (p + 1) (0, 0))).Perm xs := by
  rw [getD_two hl, getD_two (show p < xs.length by omega)]
  exact List.set_set_perm hl (by omega)
/-- All that is there, in order. -/
def allL (os rs : List (Int × Int)) : List (Int × Int) := os ++ rs.map (fun r => (1, r.1))
/-- While it is put in order. -/
def AlS (w : World) (v : Value) (xs0 : List (Int × Int)) (i k : Nat) (wr : World) : Prop := ∃ xs, MkL 33 w v xs wr ∧ xs.Perm xs0 ∧ SrtK xs i k
theorem AlS.quiet {xs0 : List (Int × Int)} {i k : Nat} (h : AlS w v xs0 i k wr) (ho : Only (fun _ => False) wr w2) : AlS w v xs0 i k w2 := by
  obtain ⟨xs, h1, h2⟩ := h
  exact ⟨xs, h1.quiet ho, h2⟩
/-- A pair changes its place with the one ahead. -/
theorem MkL.swap {T : TypeId} {xs : List (Int × Int)} {g m c p : Nat} (h : MkL T w (.slice (some ⟨g, 0, none⟩) m c) xs wr) (hp : p + 1 < xs.length) :
    MkL T w (.slice (some ⟨g, 0, none⟩) m c) ((xs.set (p + 1) (xs.getD p (0, 0))).set p (xs.getD (p + 1) (0, 0)))
      ((((wr.setCell ⟨g, (p + 1) * 2, none⟩ (.int .i64 (xs.getD p (0, 0)).1)).setCell ⟨g, (p + 1) * 2 + 1, none⟩ (.int .i64 (xs.getD p (0, 0)).2)).setCell ⟨g, p * 2, none⟩ (.int .i64 (xs.getD (p + 1) (0, 0)).1)).setCell ⟨g, p * 2 + 1, none⟩ (.int .i64 (xs.getD (p + 1) (0, 0)).2)) := by
  have hm : m = xs.length := by
    obtain ⟨p', c', hv, _⟩ := h.own.form
    injection hv
  obtain ⟨a1, a2⟩ := own_slot h.own hm (p + 1) hp (xs.getD p (0, 0))
  obtain ⟨b1, b2⟩ := own_slot a1 (by rw [List.length_set]; exact hm) p (by rw [List.length_set]; omega) (xs.getD (p + 1) (0, 0))
  have hg : w.heap.size ≤ g := (own_lt h.own (k := g) rfl).1
  exact ⟨h.on.beyond (a2.trans b2) (fun k hk => by subst hk; exact hg), b1⟩
end Go.Proofs.Ytbbabpgmclhinaa

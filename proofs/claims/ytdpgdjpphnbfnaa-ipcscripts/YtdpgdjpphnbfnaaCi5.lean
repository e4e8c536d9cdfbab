import Derived.Test.YtdpgdjpphnbfnaaCi1
import Derived.Test.YtdpgdjpphnbfnaaCi4
import Derived.Maps.RangeWalk
import Derived.Maps.OwnSet
import Derived.Lib.SlKeysI
import Derived.BigQuiet
/- The law's pick and near. -/
namespace Go.Proofs.Ytdpgdjpphnbfnaa
open Go.ChangeShapes Go.WideShapes Go.ChangeAt Go.RowKit
open Go.Vx

/-- The number that pick makes. -/
def pickL (n : Int) (m : Nat) : Nat := (if n < 0 then (-(n + 1)).toNat else n.toNat) % m
theorem pickL_any (m : Nat) (hm : 1 ≤ m) (hm2 : m ≤ 4398046511104) (n : Int) (h0 : -9223372036854775808 ≤ n) (h1 : n ≤ 9223372036854775807) (w : World) :
    Calls Try.prog 23 #[.int .i64 n, .int .i64 (m : Int)] w fun e w' => e = .returned (.int .i64 (pickL n m : Nat)) ∧ w' = w := by
  have hz : ¬ (m : Int) = 0 := by omega
  have hz1 : ¬ (m : Int) = -1 := by omega
  by_cases hn : n < 0
  · have hr : -(n + 1).tmod (m : Int) = (pickL n m : Nat) := by
      rw [← Int.neg_tmod, Int.tmod_eq_emod_of_nonneg (by omega)]
      unfold pickL
      rw [if_pos hn, Int.natCast_emod, Int.toNat_of_nonneg (by omega)]
    have HR := Vx.hid hr
    clear hr
    generalize pickL n m = k at HR
    go_enter Try.func23, Try.ntmps23
    go_wp2
    all_goals
      go_ret
      refine ⟨?_, rfl⟩
      show Ending.returned (Value.int .i64 (-(n + 1).tmod (m : Int))) = _
      rw [HR.out]
  · have hr : n.tmod (m : Int) = (pickL n m : Nat) := by
      rw [Int.tmod_eq_emod_of_nonneg (by omega)]
      unfold pickL
      rw [if_neg hn, Int.natCast_emod, Int.toNat_of_nonneg (by omega)]
    have hk : (pickL n m) < m := Nat.mod_lt _ (by omega)
    generalize pickL n m = k at hr hk
    have hw3 : IntKind.i64.wrap (k : Int) = (k : Int) := by rw [IntKind.wrap_i64]; omega
    go_enter Try.func23, Try.ntmps23
    go_wp2
    all_goals
      go_ret
      first | exact ⟨rfl, rfl⟩ | skip
/-- A number of 64 bits. -/
def I64 (n : Int) : Prop := -9223372036854775808 ≤ n ∧ n ≤ 9223372036854775807
def nearF (c : Int) (n : Nat) : Int := if c.tmod 31 = 30 then c else (pickL c (n + 2) : Nat) - 1
theorem near_i64 {c : Int} (h : I64 c) (n : Nat) (hn : n ≤ 1048576) : I64 (nearF c n) := by
  unfold nearF
  split
  · exact h
  · have : pickL c (n + 2) < n + 2 := Nat.mod_lt _ (by omega)
    unfold I64
    omega
theorem near_any (c : Int) (h : I64 c) (n : Nat) (hn : n ≤ 1048576) (w : World) :
    Calls Try.prog 22 #[.int .i64 c, .int .i64 (n : Int)] w fun e w' => e = .returned (.int .i64 (nearF c n)) ∧ w' = w := by
  obtain ⟨h0, h1⟩ := h
  by_cases h3 : c.tmod 31 = 30
  · have HN : Hid (nearF c n = c) := if_pos h3
    go_enter Try.func22, Try.ntmps22
    go_wp2_with fail
    all_goals
      go_ret
      rw [HN.out]
      exact ⟨rfl, rfl⟩
  · have HN : Hid (nearF c n = (pickL c (n + 2) : Nat) - 1) := if_neg h3
    have HP := Vx.hid (pickL_any (n + 2) (by omega) (by omega) c h0 h1)
    have hk : pickL c (n + 2) < n + 2 := Nat.mod_lt _ (by omega)
    generalize pickL c (n + 2) = k at HP HN hk
    obtain ⟨m, hm⟩ : ∃ m, m = n + 2 := ⟨_, rfl⟩
    rw [← hm] at HP
    have e1 : (n : Int) + 2 = (m : Int) := by omega
    have w1 : IntKind.i64.wrap (m : Int) = (m : Int) := by rw [IntKind.wrap_i64]; omega
    have w2 : IntKind.i64.wrap ((k : Int) - 1) = (k : Int) - 1 := by rw [IntKind.wrap_i64]; omega
    clear hm hk
    go_enter Try.func22, Try.ntmps22
    go_wp2_with fail
    refine (HP.out _).mono ?_
    rintro e w' ⟨rfl, h⟩
    have h3 := h.symm; clear h; subst h3
    go_wp2_with fail
    all_goals
      go_ret
      rw [HN.out]
      exact ⟨rfl, rfl⟩
end Go.Proofs.Ytdpgdjpphnbfnaa

/- Maps from numbers to numbers, as a program's own. -/
namespace Go.Proofs.Ytdpgdjpphnbfnaa
open Go.ChangeShapes Go.WideShapes Go.ChangeAt Go.RowKit
open Go.Vx
set_option linter.unusedVariables false

/-- A number, as an element of a map. -/
def RI (v : Value) : Option (DataW Value × List MemPlace) := match v with | .int .i64 n => if (Lit.int .i64 n).wf = true then some (.lit (.int .i64 n), []) else none | _ => none
theorem mi_wf {k : Int} (h : I64 k) : (Lit.int .i64 k).wf = true := by
  unfold I64 at h
  simp [Lit.wf, IntKind.min, IntKind.max, IntKind.bits, IntKind.signed] <;> omega
theorem wf_mi {k : Int} (h : (Lit.int .i64 k).wf = true) : I64 k := by
  unfold I64
  simp [Lit.wf, IntKind.min, IntKind.max, IntKind.bits, IntKind.signed] at h <;> omega
theorem mi_key {k : Int} (h : I64 k) : keyOf Try.prog 3 (.int .i64 k) = some (.int .i64 k) := Maps.keyOf_int_mk Try.underlying3 (mi_wf h)
theorem mi_keyed : Maps.Keyed Try.prog 3 := Maps.int_keyed Try.underlying3
theorem mi_zero (w : World) : (zeroValue 3).run Try.prog w = .ok (.int .i64 0) w := by kernel_rfl
theorem mi_ri {k : Int} (h : I64 k) : RI (.int .i64 k) = some (.lit (.int .i64 k), []) := if_pos (mi_wf h)
theorem ri_inv {v : Value} {y : DataW Value × List MemPlace} (h : RI v = some y) : ∃ a, v = .int .i64 a ∧ y = (.lit (.int .i64 a), []) ∧ I64 a := by
  unfold RI at h
  split at h
  · rename_i n
    by_cases hw : (Lit.int .i64 n).wf = true
    · rw [if_pos hw] at h
      injection h with h
      exact ⟨n, rfl, h.symm, wf_mi hw⟩
    · rw [if_neg hw] at h; cases h
  · cases h
variable {w w2 : World} {mb r n cnt : Nat} {D : DataW Value} {left : Lit → Bool} {S : Nat → Prop}
theorem mi_owns (h : w.ownsMap Try.prog 3 RI mb n D) (ho : Only S w w2) (hb : ¬ S mb) : w2.ownsMap Try.prog 3 RI mb n D := by
  have hml := h.lt
  obtain ⟨e, clock, hb2, F, hs, hD⟩ := h
  exact ⟨e, clock, (ho.block mb hml hb).trans hb2, F, hs, hD⟩
theorem mi_ranges (h : w.ranges Try.prog 3 RI mb r n D left cnt) (ho : Only S w w2) (hb : ¬ S mb) (hr : ¬ S r) : w2.ranges Try.prog 3 RI mb r n D left cnt := by
  have h1 := h.owns.lt
  have h2 := h.lt
  obtain ⟨l, clock, since, seen, c0, hb2, F, hs, hD, hr2, rest⟩ := h
  exact ⟨l, clock, since, seen, c0, (ho.block mb h1 hb).trans hb2, F, hs, hD, (ho.block r h2 hr).trans hr2, rest⟩
theorem mi_iter {k : Nat} {c : Array Value} {t : TypeId} {fr : Nat × Nat} (h : w.ranges Try.prog 3 RI mb r n D left cnt) (hc : w.heap[k]? = some (.cells c t fr)) : r ≠ k := by
  obtain ⟨l, clock, since, seen, c0, hb2, F, hs, hD, hr2, rest⟩ := h
  rintro rfl
  rw [hr2] at hc
  cases hc
theorem mi_ne {j : Nat} {c : Array Value} {t : TypeId} {fr : Nat × Nat} (h : w.heap[j]? = some (.cells c t fr)) (h2 : w.ownsMap Try.prog 3 RI mb n D) : j ≠ mb := by
  obtain ⟨es, clock, hb, _⟩ := h2
  rintro rfl
  rw [h] at hb
  cases hb
theorem mi_grown {r : Nat} (h : w.grownBy w2 (some r)) : Only (fun j => j = r) w w2 := ⟨h.os, h.tape, h.output, h.size, fun k hk hn => h.block k hk (fun e => hn (by injection e))⟩
theorem mi_none (h : w.grownBy w2 none) : Only (fun _ => False) w w2 := ⟨h.os, h.tape, h.output, h.size, fun k hk _ => h.block k hk (by simp)⟩
theorem mi_exact (hm : w.ownsMap Try.prog 3 RI mb n D) : w.ownsMap Try.prog 3 RI mb (Maps.size D) D := by
  obtain ⟨l, clock, hb, F, hs, rfl⟩ := hm
  exact ⟨l, clock, hb, F, by simp [Maps.size, length_sorted], rfl⟩
/-- A map's keys, by what it has. -/
theorem mi_keys {ks : List Int} (hm : w.ownsMap Try.prog 3 RI mb n D) (hs : ∀ k, I64 k → Maps.has D (.int .i64 k) = true → k ∈ ks) (hs2 : ∀ k ∈ ks, Maps.has D (.int .i64 k) = true) (hnd : ks.Nodup) : ks.Perm (intKeys D) ∧ Maps.size D = ks.length := by
  obtain ⟨l, hD, hpw, _⟩ := hm.entries mi_keyed
  obtain ⟨l2, hD2, hko⟩ := hm.keysOf
  obtain rfl : l = l2 := by rw [hD] at hD2; simpa using hD2
  have hk : ∀ p ∈ l, ∃ x, p.1 = .int .i64 x ∧ I64 x := fun p hp => by
    obtain ⟨v, hv⟩ := hko p hp
    obtain ⟨x, _, hx, hw⟩ := Maps.keyOf_i64 Try.underlying3 hv
    exact ⟨x, hx, wf_mi hw⟩
  have hp : ks.Perm (intKeys D) := by
    rw [hD] at hs hs2 ⊢
    refine perm_intKeys hpw (fun p hp => ?_) hnd (fun x => ?_)
    · obtain ⟨x, hx, _⟩ := hk p hp
      exact ⟨x, hx⟩
    · constructor
      · intro hx
        exact hs2 x hx
      · intro hx
        have hx2 := hx
        rw [Maps.has_eq, List.any_eq_true] at hx2
        obtain ⟨p, hp, hpk⟩ := hx2
        obtain ⟨y, hy, hyi⟩ := hk p hp
        rw [hy] at hpk
        have hyx : y = x := by simpa [Lit.sameKey] using hpk
        subst hyx
        exact hs y hyi hx
  refine ⟨hp, ?_⟩
  have h1 := hp.length_eq
  rw [hD] at h1 ⊢
  rw [Maps.size_eq]
  simp only [intKeys, List.length_map] at h1
  exact h1.symm
/-- What is still to come, struck by one. -/
def strike (left : Lit → Bool) (x : Int) : Lit → Bool := fun z => left z && !z.sameKey (.int .i64 x)
theorem strike_at (left : Lit → Bool) (x y : Int) : strike left x (.int .i64 y) = (left (.int .i64 y) && !decide (y = x)) := by
  unfold strike
  simp [Lit.sameKey]
end Go.Proofs.Ytdpgdjpphnbfnaa

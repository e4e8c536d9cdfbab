/- Maps from numbers to numbers, as a program's own. -/
import Derived.Test.YtdpgdjpphnbfnaaGC
import Derived.Test.YtdpgdjpphnbfnaaPL
import Derived.Maps.RangeWalk
import Derived.Maps.OwnSet
import Derived.Lib.SlKeysI
import Derived.BigQuiet
namespace Go.Proofs.Ytdpgdjpphnbfnaa
open Go.ChangeShapes Go.WideShapes Go.ChangeAt Go.RowKit
open Go.Vx
set_option linter.unusedVariables false

/-- A number, as an element of a map. -/
def RI (v : Value) : Option (DataW Value × List MemPlace) := match v with | .int .i64 n => if (Lit.int .i64 n).wf = true then some (.lit (.int .i64 n), []) else none | _ => none
theorem mi_wf {k : Int} (h : I64 k) : (Lit.int .i64 k).wf = true := by
  unfold I64 at h
  simp [Lit.wf, IntKind.min, IntKind.max, IntKind.bits, IntKind.signed] <;> omega
theorem wf_mi {k : Int} (h : (Lit.int .i64 k).wf = true) : I64 k := by
  unfold I64
  simp [Lit.wf, IntKind.min, IntKind.max, IntKind.bits, IntKind.signed] at h <;> omega
theorem mi_key {k : Int} (h : I64 k) : keyOf Try.prog 3 (.int .i64 k) = some (.int .i64 k) := Maps.keyOf_int_mk Try.underlying3 (mi_wf h)
theorem mi_keyed : Maps.Keyed Try.prog 3 := Maps.int_keyed Try.underlying3
theorem mi_zero (w : World) : (zeroValue 3).run Try.prog w = .ok (.int .i64 0) w := by kernel_rfl
theorem mi_ri {k : Int} (h : I64 k) : RI (.int .i64 k) = some (.lit (.int .i64 k), []) := if_pos (mi_wf h)
theorem ri_inv {v : Value} {y : DataW Value × List MemPlace} (h : RI v = some y) : ∃ a, v = .int .i64 a ∧ y = (.lit (.int .i64 a), []) ∧ I64 a := by
  unfold RI at h
  split at h
  · rename_i n
    by_cases hw : (Lit.int .i64 n).wf = true
    · rw [if_pos hw] at h
      injection h with h
      exact ⟨n, rfl, h.symm, wf_mi hw⟩
    · rw [if_neg hw] at h; cases h
  · cases h
variable {w w2 : World} {mb r n cnt : Nat} {D : DataW Value} {left : Lit → Bool} {S : Nat → Prop}
theorem mi_owns (h : w.ownsMap Try.prog 3 RI mb n D) (ho : Only S w w2) (hb : ¬ S mb) : w2.ownsMap Try.prog 3 RI mb n D := by
  have hml := h.lt
  obtain ⟨e, clock, hb2, F, hs, hD⟩ := h
  exact ⟨e, clock, (ho.block mb hml hb).trans hb2, F, hs, hD⟩
theorem mi_ranges (h : w.ranges Try.prog 3 RI mb r n D left cnt) (ho : Only S w w2) (hb : ¬ S mb) (hr : ¬ S r) : w2.ranges Try.prog 3 RI mb r n D left cnt := by
  have h1 := h.owns.lt
  have h2 := h.lt
  obtain ⟨l, clock, since, seen, c0, hb2, F, hs, hD, hr2, rest⟩ := h
  exact ⟨l, clock, since, seen, c0, (ho.block mb h1 hb).trans hb2, F, hs, hD, (ho.block r h2 hr).trans hr2, rest⟩
theorem mi_iter {k : Nat} {c : Array Value} {t : TypeId} {fr : Nat × Nat} (h : w.ranges Try.prog 3 RI mb r n D left cnt) (hc : w.heap[k]? = some (.cells c t fr)) : r ≠ k := by
  obtain ⟨l, clock, since, seen, c0, hb2, F, hs, hD, hr2, rest⟩ := h
  rintro rfl
  rw [hr2] at hc
  cases hc
theorem mi_ne {j : Nat} {c : Array Value} {t : TypeId} {fr : Nat × Nat} (h : w.heap[j]? = some (.cells c t fr)) (h2 : w.ownsMap Try.prog 3 RI mb n D) : j ≠ mb := by
  obtain ⟨es, clock, hb, _⟩ := h2
  rintro rfl
  rw [h] at hb
  cases hb
theorem mi_grown {r : Nat} (h : w.grownBy w2 (some r)) : Only (fun j => j = r) w w2 := ⟨h.os, h.tape, h.output, h.size, fun k hk hn => h.block k hk (fun e => hn (by injection e))⟩
theorem mi_none (h : w.grownBy w2 none) : Only (fun _ => False) w w2 := ⟨h.os, h.tape, h.output, h.size, fun k hk _ => h.block k hk (by simp)⟩
theorem mi_exact (hm : w.ownsMap Try.prog 3 RI mb n D) : w.ownsMap Try.prog 3 RI mb (Maps.size D) D := by
  obtain ⟨l, clock, hb, F, hs, rfl⟩ := hm
  exact ⟨l, clock, hb, F, by simp [Maps.size, length_sorted], rfl⟩
/-- A map's keys, by what it has. -/
theorem mi_keys {ks : List Int} (hm : w.ownsMap Try.prog 3 RI mb n D) (hs : ∀ k, I64 k → Maps.has D (.int .i64 k) = true → k ∈ ks) (hs2 : ∀ k ∈ ks, Maps.has D (.int .i64 k) = true) (hnd : ks.Nodup) : ks.Perm (intKeys D) ∧ Maps.size D = ks.length := by
  obtain ⟨l, hD, hpw, _⟩ := hm.entries mi_keyed
  obtain ⟨l2, hD2, hko⟩ := hm.keysOf
  obtain rfl : l = l2 := by rw [hD] at hD2; simpa using hD2
  have hk : ∀ p ∈ l, ∃ x, p.1 = .int .i64 x ∧ I64 x := fun p hp => by
    obtain ⟨v, hv⟩ := hko p hp
    obtain ⟨x, _, hx, hw⟩ := Maps.keyOf_i64 Try.underlying3 hv
    exact ⟨x, hx, wf_mi hw⟩
  have hp : ks.Perm (intKeys D) := by
    rw [hD] at hs hs2 ⊢
    refine perm_intKeys hpw (fun p hp => ?_) hnd (fun x => ?_)
    · obtain ⟨x, hx, _⟩ := hk p hp
      exact ⟨x, hx⟩
    · constructor
      · intro hx
        exact hs2 x hx
      · intro hx
        have hx2 := hx
        rw [Maps.has_eq, List.any_eq_true] at hx2
        obtain ⟨p, hp, hpk⟩ := hx2
        obtain ⟨y, hy, hyi⟩ := hk p hp
        rw [hy] at hpk
        have hyx : y = x := by simpa [Lit.sameKey] using hpk
        subst hyx
        exact hs y hyi hx
  refine ⟨hp, ?_⟩
  have h1 := hp.length_eq
  rw [hD] at h1 ⊢
  rw [Maps.size_eq]
  simp only [intKeys, List.length_map] at h1
  exact h1.symm
/-- What is still to come, struck by one. -/
def strike (left : Lit → Bool) (x : Int) : Lit → Bool := fun z => left z && !z.sameKey (.int .i64 x)
theorem strike_at (left : Lit → Bool) (x y : Int) : strike left x (.int .i64 y) = (left (.int .i64 y) && !decide (y = x)) := by
  unfold strike
  simp [Lit.sameKey]
end Go.Proofs.Ytdpgdjpphnbfnaa

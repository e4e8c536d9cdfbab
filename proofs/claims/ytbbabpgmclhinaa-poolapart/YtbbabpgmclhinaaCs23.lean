import Derived.Test.YtbbabpgmclhinaaCs4
import Derived.Test.YtbbabpgmclhinaaCs8
import Derived.Maps.RangeWalk
import Derived.Maps.OwnSet
import Derived.Lib.SlKeysI
import Derived.BigQuiet
import Derived.Test.YtbbabpgmclhinaaCs20
import Derived.Test.YtbbabpgmclhinaaCs22
/- Maps from numbers to numbers, as a program's own. -/
namespace Go.Proofs.Ytbbabpgmclhinaa
open Go.ChangeShapes Go.WideShapes Go.ChangeAt Go.RowKit
open Go.Vx
set_option linter.unusedVariables false

/-- A number, as an element of a map. -/
def RI (v : Value) : Option (DataW Value × List MemPlace) := match v with | .int .i64 n => if (Lit.int .i64 n).wf = true then some (.lit (.int .i64 n), []) else none | _ => none
theorem mi_wf {k : Int} (h : I64 k) : (Lit.int .i64 k).wf = true := by
  unfold I64 at h
  simp [Lit.wf, IntKind.min, IntKind.max, IntKind.bits, IntKind.signed] <;> omega
theorem wf_mi {k : Int} (h : (Lit.int .i64 k).wf = true) : I64 k := by
  unfold I64
  simp [Lit.wf, IntKind.min, IntKind.max, IntKind.bits, IntKind.signed] at h <;> omega
theorem mi_key {k : Int} (h : I64 k) : keyOf Try.prog 3 (.int .i64 k) = some (.int .i64 k) := Maps.keyOf_int_mk Try.underlying3 (mi_wf h)
theorem mi_keyed : Maps.Keyed Try.prog 3 := Maps.int_keyed Try.underlying3
theorem mi_zero (w : World) : (zeroValue 3).run Try.prog w = .ok (.int .i64 0) w := by kernel_rfl
theorem mi_ri {k : Int} (h : I64 k) : RI (.int .i64 k) = some (.lit (.int .i64 k), []) := if_pos (mi_wf h)
theorem ri_inv {v : Value} {y : DataW Value × List MemPlace} (h : RI v = some y) : ∃ a, v = .int .i64 a ∧ y = (.lit (.int .i64 a), []) ∧ I64 a := by
  unfold RI at h
  split at h
  · rename_i n
    by_cases hw : (Lit.int .i64 n).wf = true
    · rw [if_pos hw] at h
      injection h with h
      exact ⟨n, rfl, h.symm, wf_mi hw⟩
    · rw [if_neg hw] at h; cases h
  · cases h
variable {w w2 : World} {mb r n cnt : Nat} {D : DataW Value} {left : Lit → Bool} {S : Nat → Prop}
theorem mi_owns (h : w.ownsMap Try.prog 3 RI mb n D) (ho : Only S w w2) (hb : ¬ S mb) : w2.ownsMap Try.prog 3 RI mb n D := by
  have hml := h.lt
  obtain ⟨e, clock, hb2, F, hs, hD⟩ := h
  exact ⟨e, clock, (ho.block mb hml hb).trans hb2, F, hs, hD⟩
theorem mi_ranges (h : w.ranges Try.prog 3 RI mb r n D left cnt) (ho : Only S w w2) (hb : ¬ S mb) (hr : ¬ S r) : w2.ranges Try.prog 3 RI mb r n D left cnt := by
  have h1 := h.owns.lt
  have h2 := h.lt
  obtain ⟨l, clock, since, seen, c0, hb2, F, hs, hD, hr2, rest⟩ := h
  exact ⟨l, clock, since, seen, c0, (ho.block mb h1 hb).trans hb2, F, hs, hD, (ho.block r h2 hr).trans hr2, rest⟩
theorem mi_iter {k : Nat} {c : Array Value} {t : TypeId} {fr : Nat × Nat} (h : w.ranges Try.prog 3 RI mb r n D left cnt) (hc : w.heap[k]? = some (.cells c t fr)) : r ≠ k := by
  obtain ⟨l, clock, since, seen, c0, hb2, F, hs, hD, hr2, rest⟩ := h
  rintro rfl
  rw [hr2] at hc
  cases hc
theorem mi_ne {j : Nat} {c : Array Value} {t : TypeId} {fr : Nat × Nat} (h : w.heap[j]? = some (.cells c t fr)) (h2 : w.ownsMap Try.prog 3 RI mb n D) : j ≠ mb := by
  obtain ⟨es, clock, hb, _⟩ := h2
  rintro rfl
  rw [h] at hb
  cases hb
theorem mi_grown {r : Nat} (h : w.grownBy w2 (some r)) : Only (fun j => j = r) w w2 := ⟨h.os, h.tape, h.output, h.size, fun k hk hn => h.block k hk (fun e => hn (by injection e))⟩
theorem mi_none (h : w.grownBy w2 none) : Only (fun _ => False) w w2 := ⟨h.os, h.tape, h.output, h.size, fun k hk _ => h.block k hk (by simp)⟩
theorem mi_exact (hm : w.ownsMap Try.prog 3 RI mb n D) : w.ownsMap Try.prog 3 RI mb (Maps.size D) D := by
  obtain ⟨l, clock, hb, F, hs, rfl⟩ := hm
  exact ⟨l, clock, hb, F, by simp [Maps.size, length_sorted], rfl⟩
/-- A map's keys, by what it has. -/
theorem mi_keys {ks : List Int} (hm : w.ownsMap Try.prog 3 RI mb n D) (hs : ∀ k, I64 k → Maps.has D (.int .i64 k) = true → k ∈ ks) (hs2 : ∀ k ∈ ks, Maps.has D (.int .i64 k) = true) (hnd : ks.Nodup) : ks.Perm (intKeys D) ∧ Maps.size D = ks.length := by
  obtain ⟨l, hD, hpw, _⟩ := hm.entries mi_keyed
  obtain ⟨l2, hD2, hko⟩ := hm.keysOf
  obtain rfl : l = l2 := by rw [hD] at hD2; simpa using hD2
  have hk : ∀ p ∈ l, ∃ x, p.1 = .int .i64 x ∧ I64 x := fun p hp => by
    obtain ⟨v, hv⟩ := hko p hp
    obtain ⟨x, _, hx, hw⟩ := Maps.keyOf_i64 Try.underlying3 hv
    exact ⟨x, hx, wf_mi hw⟩
  have hp : ks.Perm (intKeys D) := by
    rw [hD] at hs hs2 ⊢
    refine perm_intKeys hpw (fun p hp => ?_) hnd (fun x => ?_)
    · obtain ⟨x, hx, _⟩ := hk p hp
      exact ⟨x, hx⟩
    · constructor
      · intro hx
        exact hs2 x hx
      · intro hx
        have hx2 := hx
        rw [Maps.has_eq, List.any_eq_true] at hx2
        obtain ⟨p, hp, hpk⟩ := hx2
        obtain ⟨y, hy, hyi⟩ := hk p hp
        rw [hy] at hpk
        have hyx : y = x := by simpa [Lit.sameKey] using hpk
        subst hyx
        exact hs y hyi hx
  refine ⟨hp, ?_⟩
  have h1 := hp.length_eq
  rw [hD] at h1 ⊢
  rw [Maps.size_eq]
  simp only [intKeys, List.length_map] at h1
  exact h1.symm
/-- What is still to come, struck by one. -/
def strike (left : Lit → Bool) (x : Int) : Lit → Bool := fun z => left z && !z.sameKey (.int .i64 x)
theorem strike_at (left : Lit → Bool) (x y : Int) : strike left x (.int .i64 y) = (left (.int .i64 y) && !decide (y = x)) := by
  unfold strike
  simp [Lit.sameKey]
end Go.Proofs.Ytbbabpgmclhinaa

/- Chapter 8, the program's pool: where it lies; what stays. -/
namespace Go.Proofs.Ytbbabpgmclhinaa
open Go.ChangeShapes Go.WideShapes Go.ChangeAt Go.RowKit
open Go.Vx
set_option linter.unusedVariables false
variable {U V S : Nat → Prop} {w w2 : World} {xb pb mb gb N : Nat} {P : Int} {D : DataW Value} {os rs : List (Int × Int)}

theorem PcAt.step (h : PcAt U w pb P os rs) (ho : Only S w w2) (hS : ∀ k, k < w.heap.size → S k → U k) (hV : ∀ k, V k → U k ∨ (w.heap.size ≤ k ∧ k < w2.heap.size)) : PcAt V w2 pb P os rs := by
  obtain ⟨vo, vr, h⟩ := h
  have ho' : ∀ k, vo.ownBlock = some k → k < w.heap.size := fun k hk => (own_lt h.o hk).2
  have hg' : ∀ k, vr.ownBlock = some k → k < w.heap.size := fun k hk => (own_lt h.g hk).2
  have hr := lt_of_some h.r
  have h2 := h.aside ho (fun s => h.ur (hS _ hr s)) (fun k hk s => h.uo k hk (hS _ (ho' k hk) s)) (fun k hk s => h.ug k hk (hS _ (hg' k hk) s))
  refine ⟨vo, vr, h2.r, h2.o, h2.g, fun hv => ?_, fun k hk hv => ?_, fun k hk hv => ?_, fun k hv => ?_, h2.no, h2.ng⟩
  · rcases hV _ hv with h3 | h3
    · exact h.ur h3
    · omega
  · rcases hV _ hv with h3 | h3
    · exact h.uo k hk h3
    · have := ho' k hk; omega
  · rcases hV _ hv with h3 | h3
    · exact h.ug k hk h3
    · have := hg' k hk; omega
  · rcases hV _ hv with h3 | h3
    · exact Nat.lt_of_lt_of_le (h.low k h3) ho.size
    · exact h3.2
/-- Who has a page. -/
def pgF (os : List (Int × Int)) (q : Int) : Int × Int := match atI os q with | none => (0, 0) | some i => os.getD i (0, 0)
theorem pgF_or (os : List (Int × Int)) (q : Int) : (∃ o ∈ os, o.2 = q) ∨ ∀ o ∈ os, o.2 ≠ q := by
  by_cases h : ∃ o ∈ os, o.2 = q
  · exact Or.inl h
  · exact Or.inr fun o ho hq => h ⟨o, ho, hq⟩
theorem pgF_none {q : Int} (h : ∀ o ∈ os, o.2 ≠ q) : pgF os q = (0, 0) := by
  unfold pgF
  cases hi : atI os q with
  | none => rfl
  | some i =>
    obtain ⟨hl, hp⟩ := idxF_get hi
    exact absurd (of_decide_eq_true hp) (h _ (List.getElem_mem hl))
theorem page_once (hn : (os.map (·.2)).Nodup) {a b : Int × Int} (ha : a ∈ os) (hb : b ∈ os) (h : a.2 = b.2) : a = b := by
  obtain ⟨i, hi, rfl⟩ := List.getElem_of_mem ha
  obtain ⟨j, hj, rfl⟩ := List.getElem_of_mem hb
  have h1 := List.pairwise_iff_getElem.1 hn
  rcases Nat.lt_trichotomy i j with h2 | h2 | h2
  · exact absurd (by rw [List.getElem_map, List.getElem_map]; exact h) (h1 i j (by simpa using hi) (by simpa using hj) h2)
  · subst h2; rfl
  · exact absurd (by rw [List.getElem_map, List.getElem_map]; exact h.symm) (h1 j i (by simpa using hj) (by simpa using hi) h2)
theorem pgF_mem (hn : (os.map (·.2)).Nodup) {o : Int × Int} (h : o ∈ os) : pgF os o.2 = o := by
  unfold pgF
  cases hi : atI os o.2 with
  | none => have := idxF_none hi o h; simp at this
  | some i =>
    obtain ⟨hl, hp⟩ := idxF_get hi
    have h1 : os.getD i (0, 0) = os[i - 0] := by simp [List.getD_eq_getElem?_getD]; rw [List.getElem?_eq_getElem (by simpa using hl)]; rfl
    dsimp only
    rw [h1]
    exact page_once hn (List.getElem_mem hl) h (of_decide_eq_true hp)
def rowP (N : Nat) (os : List (Int × Int)) : List (Int × Int) := (List.range N).map (fun k : Nat => pgF os (k : Int))
theorem rowP_len (N : Nat) (os : List (Int × Int)) : (rowP N os).length = N := by unfold rowP; simp
theorem rowP_at (k : Nat) (hk : k < (rowP N os).length) : (rowP N os)[k] = pgF os (k : Int) := by
  have h2 : k < N := by rw [rowP_len] at hk; exact hk
  have h : (rowP N os)[k]? = some (pgF os (k : Int)) := by unfold rowP; rw [List.getElem?_map, List.getElem?_range h2]; rfl
  rw [List.getElem?_eq_getElem hk] at h
  injection h
theorem rowP_eq {os2 : List (Int × Int)} {q : Nat} {y : Int × Int} (h1 : pgF os2 (q : Int) = y) (h2 : ∀ k : Nat, k ≠ q → pgF os2 (k : Int) = pgF os (k : Int)) : rowP N os2 = (rowP N os).set q y := by
  apply List.ext_getElem
  · rw [List.length_set, rowP_len, rowP_len]
  · intro k h3 h4
    rw [rowP_at, List.getElem_set]
    by_cases hk : q = k
    · subst hk; rw [if_pos rfl, h1]
    · rw [if_neg hk, rowP_at, h2 k (fun e => hk e.symm)]
theorem pgF_add {o : Int × Int} (hn : (os.map (·.2)).Nodup) (hf : ∀ x ∈ os, x.2 ≠ o.2) (q : Int) : pgF (os ++ [o]) q = if q = o.2 then o else pgF os q := by
  have hn2 : ((os ++ [o]).map (·.2)).Nodup := by
    rw [List.map_append, List.nodup_append]
    refine ⟨hn, by simp, fun a ha b hb => ?_⟩
    obtain ⟨x, hx, rfl⟩ := List.mem_map.1 ha
    simp only [List.map_cons, List.map_nil, List.mem_singleton] at hb
    rw [hb]
    exact hf x hx
  by_cases hq : q = o.2
  · rw [if_pos hq, hq]
    exact pgF_mem hn2 (by simp)
  · rw [if_neg hq]
    rcases pgF_or os q with ⟨x, hx, rfl⟩ | h
    · rw [pgF_mem hn hx]
      exact pgF_mem hn2 (by simp [hx])
    · rw [pgF_none h]
      refine pgF_none fun x hx => ?_
      rcases List.mem_append.1 hx with hx | hx
      · exact h x hx
      · rw [List.mem_singleton] at hx
        subst hx
        exact fun e => hq e.symm
theorem pgF_rem {o : Int × Int} (hn : (os.map (·.2)).Nodup) (ho : o ∈ os) (q : Int) : pgF (os.filter (fun x => decide (x ≠ o))) q = if q = o.2 then (0, 0) else pgF os q := by
  have hn2 : ((os.filter (fun x => decide (x ≠ o))).map (·.2)).Nodup := List.Nodup.sublist (List.Sublist.map _ List.filter_sublist) hn
  by_cases hq : q = o.2
  · rw [if_pos hq]
    refine pgF_none fun x hx he => ?_
    obtain ⟨h1, h2⟩ := List.mem_filter.1 hx
    exact (of_decide_eq_true h2) (page_once hn h1 ho (he.trans hq))
  · rw [if_neg hq]
    rcases pgF_or os q with ⟨x, hx, rfl⟩ | h
    · rw [pgF_mem hn hx]
      exact pgF_mem hn2 (List.mem_filter.2 ⟨hx, decide_eq_true (fun e => hq (by rw [e]))⟩)
    · rw [pgF_none h]
      exact pgF_none fun x hx => h x (List.mem_filter.1 hx).1
theorem pgF_kind (h : PWf P os rs) (q : Int) : (pgF os q).1 ≠ 0 ↔ ∃ o ∈ os, o.2 = q := by
  rcases pgF_or os q with ⟨x, hx, rfl⟩ | hq
  · rw [pgF_mem h.on hx]
    have := h.ok x hx
    exact ⟨fun _ => ⟨x, hx, rfl⟩, fun _ => by omega⟩
  · rw [pgF_none hq]
    exact ⟨fun h => absurd rfl h, fun ⟨o, ho, he⟩ => absurd he (hq o ho)⟩
theorem atR_pg (P : Int) (os : List (Int × Int)) (q : Int) (h : 0 ≤ q ∧ q < P) : atR P os q = (pgF os q, 0) := by
  unfold atR pgF
  rw [if_neg (by omega)]
  cases atI os q <;> rfl
/-- The program's pool: where it lies. -/
structure XqAt (U : Nat → Prop) (w : World) (xb mb gb : Nat) (D : DataW Value) (N : Nat) (os rs : List (Int × Int)) : Prop where
  x : w.heap[xb]? = some (.cells #[.map (some mb), .slice (some ⟨gb, 0, none⟩) N N] 67 (0, 0))
  m : w.ownsMap Try.prog 3 RI mb rs.length D
  hs : ∀ k, I64 k → Maps.has D (.int .i64 k) = (rgF rs k).isSome
  ha : ∀ k i z, rgF rs k = some i → D.atKey (.int .i64 k) z = .lit (.int .i64 (rs.getD i (0, 0)).2)
  pg : OwnL slL w 0 33 (.slice (some ⟨gb, 0, none⟩) N N) (rowP N os)
  ux : ¬ U xb
  um : ¬ U mb
  ug : ¬ U gb
  low : ∀ k, U k → k < w.heap.size
theorem XqAt.gl (h : XqAt U w xb mb gb D N os rs) : gb < w.heap.size := (own_lt h.pg rfl).2
theorem XqAt.aside (h : XqAt U w xb mb gb D N os rs) (ho : Only S w w2) (s1 : ¬ S xb) (s2 : ¬ S mb) (s3 : ¬ S gb) (v1 : ¬ V xb) (v2 : ¬ V mb) (v3 : ¬ V gb) (vl : ∀ k, V k → k < w2.heap.size) : XqAt V w2 xb mb gb D N os rs :=
  ⟨Only.keep ho h.x s1, mi_owns h.m ho s2, h.hs, h.ha, h.pg.kept ho (fun j hj => by
    have : gb = j := by simpa [Value.ownBlock] using hj
    rw [← this]; exact s3), v1, v2, v3, vl⟩
theorem XqAt.step (h : XqAt U w xb mb gb D N os rs) (ho : Only S w w2) (hS : ∀ k, k < w.heap.size → S k → U k) (hV : ∀ k, V k → U k ∨ (w.heap.size ≤ k ∧ k < w2.heap.size)) : XqAt V w2 xb mb gb D N os rs := by
  have l1 := lt_of_some h.x
  have l2 := h.m.lt
  have l3 := h.gl
  have hv : ∀ k, k < w.heap.size → ¬ U k → ¬ V k := fun k hk hu hv => by
    rcases hV k hv with h3 | h3
    · exact hu h3
    · omega
  exact h.aside ho (fun s => h.ux (hS _ l1 s)) (fun s => h.um (hS _ l2 s)) (fun s => h.ug (hS _ l3 s)) (hv _ l1 h.ux) (hv _ l2 h.um) (hv _ l3 h.ug) (fun k hk => by
    rcases hV k hk with h3 | h3
    · exact Nat.lt_of_lt_of_le (h.low k h3) ho.size
    · exact h3.2)
theorem XqAt.quiet (h : XqAt U w xb mb gb D N os rs) (ho : Only (fun _ => False) w w2) : XqAt U w2 xb mb gb D N os rs := h.step ho (fun _ _ h => h.elim) (fun _ h => Or.inl h)
theorem XqAt.c0 (h : XqAt U w xb mb gb D N os rs) : w.cell? ⟨xb, 0, none⟩ = some (.map (some mb)) := (cell_of_row _ _ 0 _ _ (0, 0) h.x).trans rfl
theorem XqAt.c1 (h : XqAt U w xb mb gb D N os rs) : w.cell? ⟨xb, 1, none⟩ = some (.slice (some ⟨gb, 0, none⟩) N N) := (cell_of_row _ _ 1 _ _ (0, 0) h.x).trans rfl
theorem XqAt.page (h : XqAt U w xb mb gb D N os rs) (k : Nat) (hk : k < N) : w.cell? ⟨gb, k * 2, none⟩ = some (.int .i64 (pgF os (k : Int)).1) ∧ w.cell? ⟨gb, k * 2 + 1, none⟩ = some (.int .i64 (pgF os (k : Int)).2) := by
  have hl : k < (rowP N os).length := by rw [rowP_len]; exact hk
  have a := h.pg.cell k 0 hl (by decide)
  have b := h.pg.cell k 1 hl (by decide)
  rw [rowP_at] at a b
  exact ⟨a, b⟩
theorem XqAt.look (h : XqAt U w xb mb gb D N os rs) (k : Int) (hk : I64 k) :
    (Instr.lookup 65 (.map (some mb)) (.int .i64 k) true).run Try.prog w = .ok (.tuple #[.int .i64 (markR rs k).1, .bool (rgF rs k).isSome]) w := by
  obtain ⟨v2, ps2, hr2, hv2⟩ := h.m.look_ok (t := 65) (e := 3) mi_keyed Try.underlying65 (mi_zero w) (mi_ri (k := 0) (by unfold I64; omega)) (mi_key hk)
  have hD : D.atKey (.int .i64 k) (.lit (.int .i64 0)) = .lit (.int .i64 (markR rs k).1) := by
    unfold markR
    cases hs : rgF rs k with
    | some i => exact h.ha k i _ hs
    | none => exact Maps.atKey_of_not_has (by rw [h.hs k hk, hs]; rfl) _
  rw [hD] at hv2
  obtain ⟨a, rfl, he, _⟩ := ri_inv hv2
  simp only [Prod.mk.injEq, DataW.lit.injEq, Lit.int.injEq, true_and] at he
  rw [hr2, he.1, h.hs k hk]
theorem rg_mem {n : Int} (h : n ∈ rs.map (·.1)) : ∃ i, rgF rs n = some i := by
  obtain ⟨r, hr, rfl⟩ := List.mem_map.1 h
  cases hi : rgF rs r.1 with
  | some i => exact ⟨i, rfl⟩
  | none => have := idxF_none hi r hr; simp at this
theorem mem_rg {n : Int} (h : (rgF rs n).isSome = true) : n ∈ rs.map (·.1) := by
  obtain ⟨i, hi⟩ := Option.isSome_iff_exists.1 h
  obtain ⟨hl, hE⟩ := rgF_at hi
  exact List.mem_map.2 ⟨_, List.getElem_mem hl, hE⟩
/-- The program's pool. -/
def XpAt (U : Nat → Prop) (w : World) (xb : Nat) (P : Int) (os rs : List (Int × Int)) : Prop := PWf P os rs ∧ ∃ mb gb D N, P = ((N : Nat) : Int) ∧ XqAt U w xb mb gb D N os rs
theorem XpAt.wf (h : XpAt U w xb P os rs) : PWf P os rs := h.1
theorem XpAt.step (h : XpAt U w xb P os rs) (ho : Only S w w2) (hS : ∀ k, k < w.heap.size → S k → U k) (hV : ∀ k, V k → U k ∨ (w.heap.size ≤ k ∧ k < w2.heap.size)) : XpAt V w2 xb P os rs := by
  obtain ⟨hw, mb, gb, D, N, hP, hx⟩ := h
  exact ⟨hw, mb, gb, D, N, hP, hx.step ho hS hV⟩
end Go.Proofs.Ytbbabpgmclhinaa

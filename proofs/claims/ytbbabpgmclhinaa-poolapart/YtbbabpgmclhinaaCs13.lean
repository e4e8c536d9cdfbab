import Derived.Test.YtbbabpgmclhinaaCs12
import Derived.Test.YtbbabpgmclhinaaCs8
/- Chapter 8, the document's pool: what Give makes, pure; the lists under way. -/
namespace Go.Proofs.Ytbbabpgmclhinaa
open Go.ChangeShapes Go.WideShapes Go.ChangeAt Go.RowKit
open Go.Vx
set_option linter.unusedVariables false
variable {U S : Nat → Prop} {w w2 wr : World} {pb : Nat} {P : Int} {vo vr v : Value} {os rs : List (Int × Int)} {ns : List Int}

theorem inK : Kind Try.prog inL 34 3 := kind_of (z := .int .i64 0) (b := 8) Try.underlying34 (by kernel_rfl) rfl (by decide)
/-- The next multiple. -/
def upN (m n : Nat) : Nat := m + (n - m % n) % n
theorem upN_at {m n : Nat} (h : m % n = 0) : upN m n = m := by
  unfold upN
  rw [h, Nat.sub_zero, Nat.mod_self]
  rfl
theorem upN_step {m n : Nat} (hn : 0 < n) (h : m % n ≠ 0) : upN (m + 1) n = upN m n := by
  have hr := Nat.mod_lt m hn
  have hd := Nat.div_add_mod m n
  obtain ⟨r, hrr⟩ : ∃ r, r = m % n := ⟨_, rfl⟩
  have e1 : (m + 1) % n = (r + 1) % n := by
    have h2 : m + 1 = n * (m / n) + (r + 1) := by omega
    have h3 := Nat.mul_add_mod n (m / n) (r + 1)
    rw [← h2] at h3
    exact h3
  unfold upN
  rw [e1, ← hrr]
  rw [← hrr] at hr h
  by_cases h1 : r + 1 = n
  · rw [h1, Nat.mod_self, Nat.sub_zero, Nat.mod_self, show n - r = 1 by omega, Nat.mod_eq_of_lt (by omega)]
  · rw [Nat.mod_eq_of_lt (show r + 1 < n by omega), Nat.mod_eq_of_lt (show n - (r + 1) < n by omega), Nat.mod_eq_of_lt (show n - r < n by omega)]
    omega
theorem upN_le (m n : Nat) : m ≤ upN m n := Nat.le_add_right _ _
theorem upN_lt {m n : Nat} (hn : 0 < n) (h : m % n ≠ 0) : m < upN m n := by
  have h1 := upN_le (m + 1) n
  rw [upN_step hn h] at h1
  omega
theorem upN_bd {m n : Nat} (hn : 0 < n) : upN m n < m + n := by
  unfold upN
  have := Nat.mod_lt (n - m % n) hn
  omega
/-- The numbers that are told. -/
def giveN (b n x : Int) (j : Nat) : List Int := (List.range j).map (fun t : Nat => b + (t : Int) * n + x)
theorem giveN_succ (b n x : Int) (j : Nat) : giveN b n x (j + 1) = giveN b n x j ++ [b + (j : Int) * n + x] := by
  unfold giveN
  rw [List.range_succ, List.map_append]
  rfl
theorem giveN_len (b n x : Int) (j : Nat) : (giveN b n x j).length = j := by unfold giveN; simp
/-- Where the marks begin. -/
def giveM (os rs : List (Int × Int)) (num : Int) (i n : Nat) : Nat := upN (if liesB os rs num = true then (rs.getD i (0, 0)).2.toNat else 0) n
def giveE (os rs : List (Int × Int)) (num kind order many : Int) : Int :=
  if kind < 1 ∨ 8 < kind then 12 else if order < 0 ∨ 8 < order ∨ (kind ≠ 1 ∧ order ≠ 0) ∨ many < 1 ∨ 64 < many then 1
  else match rgF rs num with
  | none => 6
  | some i => if (kind = 1 ∧ pgN (1, num) ≤ ((2 ^ order.toNat : Nat) : Int)) ∨ pgN (1, num) < (giveM os rs num i (2 ^ order.toNat) : Int) + many * ((2 ^ order.toNat : Nat) : Int) then 14 else 0
/-- What is there behind it, so many of them made. -/
def giveNs (os rs : List (Int × Int)) (num kind order : Int) (i j : Nat) : List Int := giveN (pgA (1, num) + (giveM os rs num i (2 ^ order.toNat) : Int)) ((2 ^ order.toNat : Nat) : Int) (if kind = 1 then 256 * order else 0) j
def giveO (os rs : List (Int × Int)) (num kind order many : Int) : List (Int × Int) := if kind = 1 then os else os ++ (giveNs os rs num kind order ((rgF rs num).getD 0) many.toNat).map (fun y => (kind, y))
def giveG (os rs : List (Int × Int)) (num kind order many : Int) : List (Int × Int) :=
  let i := (rgF rs num).getD 0
  (if kind = 1 then rs ++ (giveNs os rs num kind order i many.toNat).map (fun y => (y, 0)) else rs).set i (num, (giveM os rs num i (2 ^ order.toNat) : Int) + many * ((2 ^ order.toNat : Nat) : Int))
def giveRs (os rs : List (Int × Int)) (num kind order many : Int) : List Int := if giveE os rs num kind order many = 0 then giveNs os rs num kind order ((rgF rs num).getD 0) many.toNat else []
def giveRO (os rs : List (Int × Int)) (num kind order many : Int) : List (Int × Int) := if giveE os rs num kind order many = 0 then giveO os rs num kind order many else os
def giveRG (os rs : List (Int × Int)) (num kind order many : Int) : List (Int × Int) := if giveE os rs num kind order many = 0 then giveG os rs num kind order many else rs
/-- Between the rounds. -/
structure GvS (U : Nat → Prop) (w : World) (pb : Nat) (P : Int) (os rs : List (Int × Int)) (v : Value) (ns : List Int) (wr : World) : Prop where
  p : PcAt U wr pb P os rs
  l : OwnL inL wr w.heap.size 3 v ns
  on : Only (fun k => ¬ U k) w wr
  low : ∀ k, U k → k < w.heap.size
theorem GvS.quiet (h : GvS U w pb P os rs v ns wr) (ho : Only (fun _ => False) wr w2) : GvS U w pb P os rs v ns w2 := by
  obtain ⟨vo, vr, hp⟩ := h.p
  exact ⟨⟨vo, vr, hp.quiet ho⟩, h.l.kept ho (fun _ _ h => h), h.on.trans (ho.mono (fun _ _ h => h.elim)), h.low⟩
/-- An object more. -/
theorem GvS.putO {w5 wd : World} {v' : Value} {xs' : List (Int × Int)} (h : GvS U w pb P os rs v ns wr) (hp : PoAt U wr pb P vo vr os rs) (hond : Only (fun _ => False) wr wd) (a1 : OwnL slL w5 0 33 v' xs') (a2 : Only (fun k => vo.ownBlock = some k) wd w5) (a3 : v'.ownBlock = vo.ownBlock ∨ ∃ g, v'.ownBlock = some g ∧ wd.heap.size ≤ g ∧ Only (fun _ => False) wd w5) (hn : xs'.length ≤ 1000000) :
    (∃ p m c, v' = .slice p m c) ∧ (∃ x, w5.cell? ⟨pb, 1, none⟩ = some x) ∧ w5.frozen? ⟨pb, 1, none⟩ = false ∧ Hid (GvS U w pb P xs' rs v ns (w5.setCell ⟨pb, 1, none⟩ v')) := by
  have ho := (hond.mono (T := fun k => vo.ownBlock = some k) (fun _ _ h => h.elim)).trans a2
  obtain ⟨q1, q2, q3, q4⟩ := hp.setO a1 ho (fun k hk => (lies_of a3 k hk).imp (fun h => h) (fun h => Nat.le_trans hond.size h)) hn
  obtain ⟨p, c, hv, _⟩ := a1.form
  refine ⟨⟨p, _, c, hv⟩, q1, q2, ⟨⟨_, _, q3⟩, ?_, h.on.trans q4, h.low⟩⟩
  have h1 : OwnL inL w5 w.heap.size 3 v ns := h.l.kept ho (fun k hk e => by
    obtain ⟨c1, t1⟩ := own_tag h.l hk
    obtain ⟨c2, t2⟩ := own_tag hp.o e
    exact tag_ne t1 t2 (by decide) rfl)
  exact h1.kept (Only.setCell (S := fun k => k = pb) (Only.refl _ w5) (Or.inl rfl) _) (fun k hk e => by
    obtain ⟨c1, t1⟩ := own_tag h.l hk
    exact tag_ne t1 hp.r (by decide) e)
/-- An untyped more. -/
theorem GvS.putG {w5 wd : World} {v' : Value} {xs' : List (Int × Int)} (h : GvS U w pb P os rs v ns wr) (hp : PoAt U wr pb P vo vr os rs) (hond : Only (fun _ => False) wr wd) (a1 : OwnL slL w5 0 104 v' xs') (a2 : Only (fun k => vr.ownBlock = some k) wd w5) (a3 : v'.ownBlock = vr.ownBlock ∨ ∃ g, v'.ownBlock = some g ∧ wd.heap.size ≤ g ∧ Only (fun _ => False) wd w5) (hn : xs'.length ≤ 1000000) :
    (∃ p m c, v' = .slice p m c) ∧ (∃ x, w5.cell? ⟨pb, 2, none⟩ = some x) ∧ w5.frozen? ⟨pb, 2, none⟩ = false ∧ Hid (GvS U w pb P os xs' v ns (w5.setCell ⟨pb, 2, none⟩ v')) := by
  have ho := (hond.mono (T := fun k => vr.ownBlock = some k) (fun _ _ h => h.elim)).trans a2
  obtain ⟨q1, q2, q3, q4⟩ := hp.setG a1 ho (fun k hk => (lies_of a3 k hk).imp (fun h => h) (fun h => Nat.le_trans hond.size h)) hn
  obtain ⟨p, c, hv, _⟩ := a1.form
  refine ⟨⟨p, _, c, hv⟩, q1, q2, ⟨⟨_, _, q3⟩, ?_, h.on.trans q4, h.low⟩⟩
  have h1 : OwnL inL w5 w.heap.size 3 v ns := h.l.kept ho (fun k hk e => by
    obtain ⟨c1, t1⟩ := own_tag h.l hk
    obtain ⟨c2, t2⟩ := own_tag hp.g e
    exact tag_ne t1 t2 (by decide) rfl)
  exact h1.kept (Only.setCell (S := fun k => k = pb) (Only.refl _ w5) (Or.inl rfl) _) (fun k hk e => by
    obtain ⟨c1, t1⟩ := own_tag h.l hk
    exact tag_ne t1 hp.r (by decide) e)
/-- A number more. -/
theorem GvS.putN {v' : Value} {ns' : List Int} (h : GvS U w pb P os rs v ns wr) (a1 : OwnL inL w2 w.heap.size 3 v' ns') (a2 : Only (fun k => v.ownBlock = some k) wr w2) : GvS U w pb P os rs v' ns' w2 := by
  obtain ⟨vo, vr, hp⟩ := h.p
  have hl : ∀ k, v.ownBlock = some k → ¬ U k := fun k hk hu => by
    have := (own_lt h.l hk).1
    have := h.low k hu
    omega
  refine ⟨⟨vo, vr, hp.aside a2 (fun e => ?_) (fun k hk e => ?_) (fun k hk e => ?_)⟩, a1, h.on.trans (a2.mono (fun k _ hk => hl k hk)), h.low⟩
  · obtain ⟨c1, t1⟩ := own_tag h.l e
    exact tag_ne t1 hp.r (by decide) rfl
  · obtain ⟨c1, t1⟩ := own_tag h.l e
    obtain ⟨c2, t2⟩ := own_tag hp.o hk
    exact tag_ne t1 t2 (by decide) rfl
  · obtain ⟨c1, t1⟩ := own_tag h.l e
    obtain ⟨c2, t2⟩ := own_tag hp.g hk
    exact tag_ne t1 t2 (by decide) rfl
/-- The second number of a pair put anew. -/
theorem own_snd {w : World} {base g c m : Nat} {T : TypeId} {xs : List (Int × Int)} (h : OwnL slL w base T (.slice (some ⟨g, 0, none⟩) m c) xs) (hm : m = xs.length) (k : Nat) (hk : k < xs.length) (y : Int) :
    OwnL slL (w.setCell ⟨g, k * 2 + 1, none⟩ (.int .i64 y)) base T (.slice (some ⟨g, 0, none⟩) m c) (xs.set k (xs[k].1, y)) ∧ Only (fun b => b = g) w (w.setCell ⟨g, k * 2 + 1, none⟩ (.int .i64 y)) := by
  subst hm
  have h1 := (World.ownsRow.stored h (k * 2 + 1) (.int .i64 y)).1
  refine ⟨?_, Only.setCell (S := fun b => b = g) (Only.refl _ w) (Or.inl rfl) _⟩
  have hz : (fl slL xs).set (k * 2 + 1) (.int .i64 y) = fl slL (xs.set k (xs[k].1, y)) := by
    refine fl_set slL xs k (xs[k].1, y) hk _ (by simp) (fun j hj => ?_) (fun i hi => ?_)
    · have hj' : j < 2 := hj
      have hlen : (fl slL xs).length = xs.length * 2 := length_fl slL xs
      have hs2 : slL.sz = 2 := rfl
      rw [hs2, List.getElem?_set]
      rcases (by omega : j = 0 ∨ j = 1) with rfl | rfl
      · rw [if_neg (by omega)]
        have := get_fl slL xs k 0 hk (by decide)
        rw [hs2] at this
        rw [this]
        rfl
      · rw [if_pos (by omega), if_pos (by rw [hlen]; omega)]; rfl
    · have hs2 : slL.sz = 2 := rfl
      rw [hs2] at hi
      rw [List.getElem?_set, if_neg (by omega)]
  rw [hz] at h1
  show World.ownsRow _ _ _ _ _ (xs.set k (xs[k].1, y)).length _
  rw [List.length_set]
  exact h1
/-- The mark put anew. -/
theorem GvS.mark (h : GvS U w pb P os rs v ns wr) (i : Nat) (hi : i < rs.length) (y : Int) :
    ∃ g c, wr.cell? ⟨pb, 2, none⟩ = some (.slice (some ⟨g, 0, none⟩) rs.length c) ∧ (∃ x, wr.cell? ⟨g, i * 2 + 1, none⟩ = some x) ∧ wr.frozen? ⟨g, i * 2 + 1, none⟩ = false ∧ Hid (GvS U w pb P os (rs.set i (rs[i].1, y)) v ns (wr.setCell ⟨g, i * 2 + 1, none⟩ (.int .i64 y))) := by
  obtain ⟨vo, vr, hp⟩ := h.p
  have hp0 := hp
  obtain ⟨p, c, rfl, hb⟩ := own_two hp.g
  obtain ⟨g, rfl, b0, b1⟩ := hb i hi
  obtain ⟨o1, o2⟩ := own_snd hp.g rfl i hi y
  have hg : (Value.slice (some ⟨g, 0, none⟩) rs.length c).ownBlock = some g := rfl
  obtain ⟨cg, tg⟩ := own_tag hp.g hg
  have hu : ¬ U g := hp.ug g hg
  refine ⟨g, c, hp.c2, ⟨_, b1⟩, by simp [World.frozen?, tg], ⟨⟨vo, _, ?_, ?_, o1, hp.ur, hp.uo, hp.ug, fun k hk => Nat.lt_of_lt_of_le (hp.low k hk) o2.size, hp.no, by rw [List.length_set]; exact hp.ng⟩, ?_, h.on.trans (o2.mono (fun k _ hk => by subst hk; exact hu)), h.low⟩⟩
  · rw [o2.block pb (lt_of_some hp.r) (fun e => tag_ne tg hp.r (by decide) e.symm)]
    exact hp.r
  · exact hp.o.kept o2 (fun k hk e => by
      obtain ⟨c2, t2⟩ := own_tag hp.o hk
      exact tag_ne tg t2 (by decide) e.symm)
  · exact h.l.kept o2 (fun k hk e => by
      obtain ⟨c2, t2⟩ := own_tag h.l hk
      exact tag_ne tg t2 (by decide) e.symm)
end Go.Proofs.Ytbbabpgmclhinaa

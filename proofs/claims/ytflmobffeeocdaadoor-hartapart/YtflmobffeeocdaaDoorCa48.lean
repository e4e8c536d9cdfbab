import Derived.Test.YtflmobffeeocdaaDoorCa47
import Derived.Test.YtflmobffeeocdaaDoorCa45
/- HartApart: two memories in one world. -/
namespace Go.Proofs.YtflmobffeeocdaaDoor
open Go.ChangeShapes Go.WideShapes Go.ChangeAt Go.RowKit
open Go.Vx
set_option linter.unusedVariables false

/-- Whatever changes what is not a memory's, and adds: it stands, with what is new beside it. -/
theorem MemAt.wide {U S : Nat → Prop} {w wv : World} {bm n : Nat} {f : Nat → UInt8} (h : MemAt U w bm n f) (ho : Only S w wv) (hS : ∀ k, S k → k < w.heap.size → U k) : MemAt (fun k => U k ∨ (w.heap.size ≤ k ∧ k < wv.heap.size)) wv bm n f := by
  obtain ⟨bp, q, h1⟩ := h
  have h2 := h1.only ho hS
  refine ⟨bp, q, h2.pos, h2.top, h2.m, h2.p, h2.nil, h2.pg, h2.inj, ?_, ?_, ?_, ?_⟩
  · rintro (hu | hu)
    · exact h2.um hu
    · have := lt_of_some h1.m; omega
  · rintro (hu | hu)
    · exact h2.up hu
    · have := lt_of_some h1.p; omega
  · rintro i b hi hq (hu | hu)
    · exact h2.ug i b hi hq hu
    · have := lt_of_some (h1.pg i hi b hq); omega
  · rintro k (hu | hu)
    · exact h2.low k hu
    · exact hu.2
/-- Two memories, none the other's; V: blocks that are neither's. -/
def Two (V : Nat → Prop) (w : World) (b1 b2 n : Nat) (f1 f2 : Nat → UInt8) : Prop :=
  ∃ U1 U2 : Nat → Prop, MemAt U1 w b1 n f1 ∧ MemAt U2 w b2 n f2 ∧ (∀ k, k < w.heap.size → ¬ U1 k → U2 k) ∧ (∀ k, k < w.heap.size → ¬ U2 k → U1 k) ∧ ∀ k, V k → U1 k ∧ U2 k
theorem Two.symm {V : Nat → Prop} {w : World} {b1 b2 n : Nat} {f1 f2 : Nat → UInt8} (h : Two V w b1 b2 n f1 f2) : Two V w b2 b1 n f2 f1 := by
  obtain ⟨U1, U2, h1, h2, h3, h4, h5⟩ := h
  exact ⟨U2, U1, h2, h1, h4, h3, fun k hk => ⟨(h5 k hk).2, (h5 k hk).1⟩⟩
/-- The first, for a call; and what stands behind it. -/
theorem Two.left {V : Nat → Prop} {w : World} {b1 b2 n : Nat} {f1 f2 : Nat → UInt8} (h : Two V w b1 b2 n f1 f2) : ∃ U, MemAt U w b1 n f1 ∧ (∀ k, V k → U k) ∧ ∀ (w' : World) (g1 : Nat → UInt8) (S : Nat → Prop), Only S w w' → (∀ k, k < w.heap.size → S k → ¬ U k ∨ V k) → MemAt U w' b1 n g1 → Two V w' b1 b2 n g1 f2 := by
  obtain ⟨U1, U2, h1, h2, h3, h4, h5⟩ := h
  refine ⟨U1, h1, fun k hk => (h5 k hk).1, fun w' g1 S ho hS hm => ⟨U1, _, hm, h2.wide ho (fun k hs hk => ?_), fun k hk hu => ?_, fun k hk hu => ?_, fun k hk => ⟨(h5 k hk).1, Or.inl (h5 k hk).2⟩⟩⟩
  · rcases hS k hk hs with h | h
    · exact h3 k hk h
    · exact (h5 k h).2
  · by_cases hl : k < w.heap.size
    · exact Or.inl (h3 k hl hu)
    · exact Or.inr ⟨by omega, hk⟩
  · by_cases hl : k < w.heap.size
    · exact h4 k hl (fun h => hu (Or.inl h))
    · exact absurd (Or.inr ⟨by omega, hk⟩) hu
/-- What changes neither, and what is new is neither's. -/
theorem Two.wide {V S : Nat → Prop} {w w' : World} {b1 b2 n : Nat} {f1 f2 : Nat → UInt8} (h : Two V w b1 b2 n f1 f2) (ho : Only S w w') (hS : ∀ k, k < w.heap.size → S k → V k) : Two (fun k => V k ∨ (w.heap.size ≤ k ∧ k < w'.heap.size)) w' b1 b2 n f1 f2 := by
  obtain ⟨U1, U2, h1, h2, h3, h4, h5⟩ := h
  refine ⟨_, _, h1.wide ho (fun k hs hk => (h5 k (hS k hk hs)).1), h2.wide ho (fun k hs hk => (h5 k (hS k hk hs)).2), fun k hk hu => ?_, fun k hk hu => ?_, fun k hk => ?_⟩
  · by_cases hl : k < w.heap.size
    · exact Or.inl (h3 k hl (fun h => hu (Or.inl h)))
    · exact Or.inr ⟨by omega, hk⟩
  · by_cases hl : k < w.heap.size
    · exact Or.inl (h4 k hl (fun h => hu (Or.inl h)))
    · exact Or.inr ⟨by omega, hk⟩
  · rcases hk with hk | hk
    · exact ⟨Or.inl (h5 k hk).1, Or.inl (h5 k hk).2⟩
    · exact ⟨Or.inr hk, Or.inr hk⟩
theorem Two.less {V V' : Nat → Prop} {w : World} {b1 b2 n : Nat} {f1 f2 : Nat → UInt8} (h : Two V w b1 b2 n f1 f2) (hV : ∀ k, V' k → V k) : Two V' w b1 b2 n f1 f2 := by
  obtain ⟨U1, U2, h1, h2, h3, h4, h5⟩ := h
  exact ⟨U1, U2, h1, h2, h3, h4, fun k hk => h5 k (hV k hk)⟩
theorem Two.only {V S : Nat → Prop} {w w' : World} {b1 b2 n : Nat} {f1 f2 : Nat → UInt8} (h : Two V w b1 b2 n f1 f2) (ho : Only S w w') (hS : ∀ k, k < w.heap.size → S k → V k) : Two V w' b1 b2 n f1 f2 := (h.wide ho hS).less (fun k hk => Or.inl hk)
/-- Both as they were laid. -/
theorem Two.start {U : Nat → Prop} {w1 w2 : World} {b1 b2 n : Nat} {f1 f2 : Nat → UInt8} (h1 : MemAt U w1 b1 n f1) (hb2 : Below w1.heap.size w1 w2) (h2 : MemAt (fun k => k < w1.heap.size) w2 b2 n f2) : Two U w2 b1 b2 n f1 f2 := by
  have hlow : ∀ k, U k → k < w1.heap.size := by obtain ⟨bp, q, h⟩ := h1; exact h.low
  refine ⟨_, _, h1.wide (Only.of_below (S := fun _ => False) hb2 (fun k hk hB => by omega)) (fun _ h _ => h.elim), h2, fun k hk hu => ?_, fun k hk hu => Or.inr ⟨by omega, hk⟩, fun k hk => ⟨Or.inl hk, hlow k hk⟩⟩
  by_cases hl : k < w1.heap.size
  · exact hl
  · exact absurd (Or.inr ⟨by omega, hk⟩) hu
/-- A step of the first. -/
theorem Two.step {V : Nat → Prop} {w : World} {b1 b2 : Nat} {f1 f2 : Nat → UInt8} (h : Two V w b1 b2 12 f1 f2) (hus : UsesAt w) (hmi : MisAt w) (hfo : FormsAt w) {cb off pc : Nat} {T : TypeId} {cs : Array Value} {R : Nat → Nat} (hc : CxAt w cb off T cs R pc) (hv : V cb) (hpc : pc < 4294967296) (hR : ∀ i, i < 32 → R i < 4294967296) :
    Calls Tryd.prog 9 #[.pointer (some ⟨b1, 0, none⟩), .int .i64 1, .pointer (some ⟨cb, off, none⟩)] w fun e w' =>
      (∀ c t, stepF f1 12 1 R pc = .error (c, t) → e = .returned (.agg (evC true c t)) ∧ Only (fun _ => False) w w') ∧
      (∀ g R' pc', stepF f1 12 1 R pc = .ok (g, R', pc') → e = .returned (.agg (evC false 0 0)) ∧ Two V w' b1 b2 12 g f2 ∧ (∃ cs', CxAt w' cb off T cs' R' pc' ∧ Beside cs cs' off) ∧ Only (fun k => ¬ V k ∨ k = cb) w w') := by
  obtain ⟨U, hm, hU, hT⟩ := h.left
  refine (step_any hm hus hmi hfo hc (hU cb hv) hpc hR 1).mono ?_
  rintro e w' (⟨c, t, he, rfl, ho⟩ | ⟨g1, R1, p1, he, rfl, hm', hx, ho⟩)
  · refine ⟨fun c' t' he' => ?_, fun g' R' pc' he' => ?_⟩
    · rw [he] at he'
      injection he' with he'
      injection he' with e1 e2
      subst e1 e2
      exact ⟨rfl, ho⟩
    · rw [he] at he'; cases he'
  · refine ⟨fun c' t' he' => ?_, fun g' R' pc' he' => ?_⟩
    · rw [he] at he'; cases he'
    · rw [he] at he'
      injection he' with he'
      injection he' with e1 e2
      injection e2 with e2 e3
      subst e1 e2 e3
      refine ⟨rfl, hT w' _ _ ho (fun k _ hs => ?_) hm', hx, ho.mono (fun k _ hs => ?_)⟩
      · rcases hs with hs | hs
        · exact Or.inl hs
        · exact Or.inr (by rw [hs]; exact hv)
      · rcases hs with hs | hs
        · exact Or.inl (fun h => hs (hU k h))
        · exact Or.inr hs
end Go.Proofs.YtflmobffeeocdaaDoor

/- HartApart, pure: what is laid into the frames. -/
namespace Go.Proofs.YtflmobffeeocdaaDoor
open Go.ChangeShapes Go.WideShapes Go.ChangeAt Go.RowKit
open Go.Vx
set_option linter.unusedVariables false

/-- Pages that the first k entries map; that they map for stores. -/
def seenB (H : Nat → Nat × Nat) (k p : Nat) : Bool := (List.range k).any fun v => decide (0 < (H v).2) && decide ((H v).1 = p)
def openB (H : Nat → Nat × Nat) (k p : Nat) : Bool := (List.range k).any fun v => decide (0 < (H v).2) && (decide ((H v).1 = p) && mayU 2 (H v).2)
theorem seenB_succ (H : Nat → Nat × Nat) (k p : Nat) : seenB H (k + 1) p = (seenB H k p || (decide (0 < (H k).2) && decide ((H k).1 = p))) := by
  unfold seenB
  rw [List.range_succ, List.any_append]
  simp
theorem openB_succ (H : Nat → Nat × Nat) (k p : Nat) : openB H (k + 1) p = (openB H k p || (decide (0 < (H k).2) && (decide ((H k).1 = p) && mayU 2 (H k).2))) := by
  unfold openB
  rw [List.range_succ, List.any_append]
  simp
theorem seenB_of {H : Nat → Nat × Nat} {k v : Nat} (hv : v < k) (h0 : (H v).2 ≠ 0) : seenB H k (H v).1 = true := by
  unfold seenB
  rw [List.any_eq_true]
  exact ⟨v, List.mem_range.2 hv, by simp; omega⟩
theorem wr_open {H : Nat → Nat × Nat} {p : Nat} : Wr H p ↔ openB H 12 p = true := by
  unfold Wr openB
  rw [List.any_eq_true]
  constructor
  · rintro ⟨v, hv, hm, hp⟩
    have := mayU_pos hm
    exact ⟨v, List.mem_range.2 hv, by simp [hm, hp]; omega⟩
  · rintro ⟨v, hv, h⟩
    simp only [Bool.and_eq_true, decide_eq_true_eq] at h
    exact ⟨v, List.mem_range.1 hv, h.2.2, h.2.1⟩
/-- A text a page, at its start, in the pages from 4 to k. -/
def layP (f : Nat → UInt8) (t : Nat → List UInt8) (k : Nat) : Nat → UInt8 := fun x => if 4 ≤ x / 4096 ∧ x / 4096 < k ∧ x % 4096 < (t (x / 4096)).length then (t (x / 4096)).getD (x % 4096) 0 else f x
theorem layP_four (f : Nat → UInt8) (t : Nat → List UInt8) : layP f t 4 = f := by
  funext x
  unfold layP
  rw [if_neg (by omega)]
theorem layP_succ (f : Nat → UInt8) (t : Nat → List UInt8) (k : Nat) (hk : 4 ≤ k) (hl : (t k).length ≤ 4096) : putF (layP f t k) (4096 * k) (t k) = layP f t (k + 1) := by
  funext x
  unfold putF layP
  by_cases h1 : 4096 * k ≤ x ∧ x < 4096 * k + (t k).length
  · have e : x / 4096 = k := by omega
    have e2 : x - 4096 * k = x % 4096 := by omega
    rw [if_pos h1, if_pos (by rw [e]; omega), e, e2]
  · rw [if_neg h1]
    by_cases h2 : 4 ≤ x / 4096 ∧ x / 4096 < k ∧ x % 4096 < (t (x / 4096)).length
    · rw [if_pos h2, if_pos ⟨h2.1, by omega, h2.2.2⟩]
    · rw [if_neg h2, if_neg]
      rintro ⟨h3, h4, h5⟩
      by_cases e : x / 4096 = k
      · rw [e] at h5; omega
      · exact h2 ⟨h3, by omega, h5⟩
/-- What stands ahead of the first step. -/
theorem ag_start (H : Nat → Nat × Nat) (a b : List UInt8) : Ag H (layP (laidF H) (fun _ => a) 12) (layP (laidF H) (fun _ => a) 12) (layP (laidF H) (fun p => if seenB H 12 p = true then a else b) 12) := by
  refine ⟨fun x hx => ?_, fun x hx => ?_, fun v hv h0 i hi => ?_, fun x _ => rfl⟩
  · unfold layP; rw [if_neg (by omega)]
  · unfold layP; rw [if_neg (by omega)]
  · unfold layP
    have e : (4096 * (H v).1 + i) / 4096 = (H v).1 := by omega
    simp only [e, seenB_of hv h0, if_true]
/-- A page that is not mapped for stores is as it was. -/
theorem ag_row {H : Nat → Nat × Nat} {f0 f1 f2 : Nat → UInt8} (h : Ag H f0 f1 f2) (p : Nat) (hp : openB H 12 p = false) : rowL f1 (4096 * p) 4096 = rowL f0 (4096 * p) 4096 := by
  refine List.ext_getElem? (fun j => ?_)
  by_cases hj : j < 4096
  · rw [get_rowL _ _ _ _ hj, get_rowL _ _ _ _ hj, h.keep]
    intro hw
    rw [show (4096 * p + j) / 4096 = p by omega] at hw
    rw [wr_open.1 hw] at hp
    cases hp
  · rw [List.getElem?_eq_none (by rw [length_rowL]; omega), List.getElem?_eq_none (by rw [length_rowL]; omega)]
end Go.Proofs.YtflmobffeeocdaaDoor

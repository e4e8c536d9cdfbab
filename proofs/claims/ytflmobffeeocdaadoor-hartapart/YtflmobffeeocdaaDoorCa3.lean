import Derived.Test.YtflmobffeeocdaaDoorCa2
/- Walks of package mem: a memory where it lies; holds, split, seen, made, New. -/
namespace Go.Proofs.YtflmobffeeocdaaDoor
open Go.ChangeShapes Go.WideShapes Go.ChangeAt Go.RowKit
open Go.Vx

theorem ret_val {a b : Value} (h : a = b) : Ending.returned a = .returned b := by rw [h]
/-- A memory of n pages, whose bytes are f; it lies in blocks outside U. -/
structure MemIs (U : Nat → Prop) (w : World) (bm bp n : Nat) (q : Nat → Option Nat) (f : Nat → UInt8) : Prop where
  pos : 1 ≤ n
  top : n ≤ 256
  m : w.heap[bm]? = some (.cells #[.slice (some ⟨bp, 0, none⟩) n n] 70 (0, 0))
  p : w.heap[bp]? = some (.cells (ptrs q n).toArray 58 (0, 0))
  nil : ∀ i, i < n → q i = none → ∀ j, j < 4096 → f (4096 * i + j) = 0
  pg : ∀ i, i < n → ∀ b, q i = some b → w.heap[b]? = some (.cells (rowV f (4096 * i) 4096).toArray 79 (0, 0))
  inj : ∀ i j b, i < n → j < n → q i = some b → q j = some b → i = j
  um : ¬ U bm
  up : ¬ U bp
  ug : ∀ i b, i < n → q i = some b → ¬ U b
  low : ∀ k, U k → k < w.heap.size
/-- The same, with its rows somewhere. -/
def MemAt (U : Nat → Prop) (w : World) (bm n : Nat) (f : Nat → UInt8) : Prop := ∃ bp q, MemIs U w bm bp n q f
theorem MemIs.only {U S : Nat → Prop} {w w' : World} {bm bp n : Nat} {q : Nat → Option Nat} {f : Nat → UInt8} (h : MemIs U w bm bp n q f) (ho : Only S w w') (hS : ∀ k, S k → k < w.heap.size → U k) : MemIs U w' bm bp n q f := by
  have hk : ∀ b o, w.heap[b]? = some o → ¬ U b → w'.heap[b]? = some o := fun b o hb hu => by
    rw [ho.block b (lt_of_some hb) (fun s => hu (hS b s (lt_of_some hb)))]; exact hb
  exact ⟨h.pos, h.top, hk _ _ h.m h.um, hk _ _ h.p h.up, h.nil, fun i hi b hb => hk _ _ (h.pg i hi b hb) (h.ug i b hi hb), h.inj, h.um, h.up, h.ug, fun k hu => Nat.lt_of_lt_of_le (h.low k hu) ho.size⟩
theorem MemAt.only {U S : Nat → Prop} {w w' : World} {bm n : Nat} {f : Nat → UInt8} (h : MemAt U w bm n f) (ho : Only S w w') (hS : ∀ k, S k → k < w.heap.size → U k) : MemAt U w' bm n f := by
  obtain ⟨bp, q, h⟩ := h
  exact ⟨bp, q, h.only ho hS⟩
theorem MemIs.ne {U : Nat → Prop} {w : World} {bm bp n : Nat} {q : Nat → Option Nat} {f : Nat → UInt8} (h : MemIs U w bm bp n q f) : bm ≠ bp := by
  intro e
  have h1 := h.m
  have h2 := h.p
  rw [← e, h1] at h2
  simp at h2
theorem MemIs.pne {U : Nat → Prop} {w : World} {bm bp n : Nat} {q : Nat → Option Nat} {f : Nat → UInt8} (h : MemIs U w bm bp n q f) {i b : Nat} (hi : i < n) (hq : q i = some b) : b ≠ bm ∧ b ≠ bp := by
  have h3 := h.pg i hi b hq
  refine ⟨fun e => ?_, fun e => ?_⟩
  · have h1 := h.m
    rw [← e, h3] at h1
    simp at h1
  · have h1 := h.p
    rw [← e, h3] at h1
    simp at h1
theorem MemIs.cm {U : Nat → Prop} {w : World} {bm bp n : Nat} {q : Nat → Option Nat} {f : Nat → UInt8} (h : MemIs U w bm bp n q f) : w.cell? ⟨bm, 0, none⟩ = some (.slice (some ⟨bp, 0, none⟩) n n) := by
  rw [cell_of_row _ _ 0 _ _ (0, 0) h.m]; rfl
theorem MemIs.cp {U : Nat → Prop} {w : World} {bm bp n : Nat} {q : Nat → Option Nat} {f : Nat → UInt8} (h : MemIs U w bm bp n q f) {i : Nat} (hi : i < n) : w.cell? ⟨bp, i, none⟩ = some (ptrV (q i)) := by
  rw [cell_of_row _ _ i _ _ (0, 0) h.p]
  simpa using get_ptrs q n i hi
theorem MemIs.cg {U : Nat → Prop} {w : World} {bm bp n : Nat} {q : Nat → Option Nat} {f : Nat → UInt8} (h : MemIs U w bm bp n q f) {i b : Nat} (hi : i < n) (hq : q i = some b) {j : Nat} (hj : j < 4096) : w.cell? ⟨b, j, none⟩ = some (byteV (f (4096 * i + j))) := by
  rw [cell_of_row _ _ j _ _ (0, 0) (h.pg i hi b hq)]
  simpa using get_rowV f (4096 * i) 4096 j hj

/-- Are k bytes from a place on there? -/
def insB (n : Nat) (a k : Int) : Bool := decide (0 ≤ a) && decide (a ≤ (n : Int) * 4096) && decide (0 ≤ k) && decide (k ≤ (n : Int) * 4096 - a)
theorem holds_any {U : Nat → Prop} {w : World} {bm n : Nat} {f : Nat → UInt8} (h : MemAt U w bm n f) (a k : Int) :
    Calls Tryd.prog 14 #[.pointer (some ⟨bm, 0, none⟩), .int .i64 a, .int .i64 k] w fun e w' => e = .returned (.bool (insB n a k)) ∧ w' = w := by
  obtain ⟨bp, q, h⟩ := h
  have hcm := h.cm
  have hw1 : IntKind.i64.wrap ((n : Int) * 4096) = (n : Int) * 4096 := by have := h.top; rw [IntKind.wrap_i64]; omega
  have hn1 : (n : Int) ≤ 256 := by have := h.top; omega
  have HT : Hid (insB n a k = (decide (0 ≤ a) && decide (a ≤ (n : Int) * 4096) && decide (0 ≤ k) && decide (k ≤ (n : Int) * 4096 - a))) := rfl
  have hw2 : 0 ≤ a → a ≤ (n : Int) * 4096 → IntKind.i64.wrap ((n : Int) * 4096 - a) = (n : Int) * 4096 - a := fun h1 h2 => by rw [IntKind.wrap_i64]; omega
  clear h
  generalize insB n a k = b at HT
  by_cases c1 : 0 ≤ a
  · by_cases c2 : a ≤ (n : Int) * 4096
    · by_cases c3 : 0 ≤ k
      · have hw3 := hw2 c1 c2
        clear hw2
        go_enter Tryd.func14, Tryd.ntmps14
        go_wp2
        all_goals
          go_ret
          refine ⟨?_, rfl⟩
          rw [HT.out]
          refine ret_val (congrArg Value.bool ?_)
          rw [Bool.eq_iff_iff]
          simp [c1, c2, c3]
          try omega
      · clear hw2
        go_enter Tryd.func14, Tryd.ntmps14
        go_wp2
        all_goals
          go_ret
          refine ⟨?_, rfl⟩
          rw [HT.out, show decide (0 ≤ k) = false from decide_eq_false (by omega)]
          simp
    · clear hw2
      go_enter Tryd.func14, Tryd.ntmps14
      go_wp2
      all_goals
        go_ret
        refine ⟨?_, rfl⟩
        rw [HT.out, show decide (a ≤ (n : Int) * 4096) = false from decide_eq_false (by omega)]
        simp
  · clear hw2
    go_enter Tryd.func14, Tryd.ntmps14
    go_wp2
    all_goals
      go_ret
      refine ⟨?_, rfl⟩
      rw [HT.out, show decide (0 ≤ a) = false from decide_eq_false (by omega)]
      simp
theorem split_any (x : Nat) (hx : x ≤ 1048576) (w : World) :
    Calls Tryd.prog 15 #[.int .i64 (x : Int)] w fun e w' => e = .returned (.tuple #[.int .i64 ((x / 4096 : Nat) : Int), .int .i64 ((x % 4096 : Nat) : Int)]) ∧ w' = w := by
  have h1 : Int.tdiv (x : Int) 4096 = ((x / 4096 : Nat) : Int) := by rw [Int.tdiv_eq_ediv_of_nonneg (by omega)]; omega
  have h2 : Int.tmod (x : Int) 4096 = ((x % 4096 : Nat) : Int) := by rw [Int.tmod_eq_emod_of_nonneg (by omega)]; omega
  have h3 : IntKind.i64.wrap ((x / 4096 : Nat) : Int) = ((x / 4096 : Nat) : Int) := by rw [IntKind.wrap_i64]; omega
  have h4 : IntKind.i64.wrap ((x % 4096 : Nat) : Int) = ((x % 4096 : Nat) : Int) := by rw [IntKind.wrap_i64]; omega
  generalize hp : x / 4096 = p at *
  generalize ho : x % 4096 = o at *
  clear hp ho
  go_enter Tryd.func15, Tryd.ntmps15
  go_wp2
  all_goals
    go_ret2
    exact ⟨rfl, rfl⟩
end Go.Proofs.YtflmobffeeocdaaDoor

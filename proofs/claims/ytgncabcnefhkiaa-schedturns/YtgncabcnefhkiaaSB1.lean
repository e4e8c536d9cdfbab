/- Chapter 9, the document's scheduler: where it lies; find, Look, Turn. -/
import Derived.Test.YtgncabcnefhkiaaGC
import Derived.Test.YtgncabcnefhkiaaCB0
import Derived.Test.YtgncabcnefhkiaaPL
import Derived.BigQuiet
import Derived.Deep.RegionHeld3
import Derived.Deep.CutRange
namespace Go.Vx
/-- A thread. -/
structure Et where
  num : Int
  dom : Int
  prio : Int
  left : Int
  came : Int
def Et.df : Et := ⟨0, 0, 0, 0, 0⟩
def etC (e : Et) : List Value := [.int .i64 e.num, .int .i64 e.dom, .int .i64 e.prio, .int .i64 e.left, .int .i64 e.came]
def etL : Lay Et := ⟨etC, 5, fun _ => rfl, fun a u hu => by
  simp only [etC, List.mem_cons, List.not_mem_nil, or_false] at hu
  rcases hu with rfl | rfl | rfl | rfl | rfl <;> rfl, by decide⟩
def fnF (es : List Et) (n : Int) : Option Nat := idxF (fun e => decide (e.num = n)) es 0
end Go.Vx
namespace Go.Proofs.Ytgncabcnefhkiaa
open Go.ChangeShapes Go.WideShapes Go.ChangeAt Go.RowKit
open Go.Vx
set_option linter.unusedVariables false

/-- The document's scheduler; U: blocks that are none of its own; t: the turn's place; lf: its ticks left; ck: the clock. -/
structure SdAt (U : Nat → Prop) (w : World) (sb : Nat) (vt vl : Value) (ts : List (Int × Int)) (t : Nat) (lf : Int) (es : List Et) (ck : Nat) : Prop where
  r : w.heap[sb]? = some (.cells #[vt, .int .i64 (t : Int), .int .i64 lf, vl, .int .i64 (ck : Int)] 74 (0, 0))
  t' : OwnL slL w 0 34 vt ts
  l : OwnL etL w 0 104 vl es
  ur : ¬ U sb
  ut : ∀ k, vt.ownBlock = some k → ¬ U k
  ul : ∀ k, vl.ownBlock = some k → ¬ U k
  low : ∀ k, U k → k < w.heap.size
  nl : es.length ≤ 1000000
variable {U V S : Nat → Prop} {w w2 w3 : World} {sb : Nat} {vt vl : Value} {ts : List (Int × Int)} {t : Nat} {lf : Int} {es : List Et} {ck : Nat}
theorem SdAt.c0 (h : SdAt U w sb vt vl ts t lf es ck) : w.cell? ⟨sb, 0, none⟩ = some vt := (cell_of_row _ _ 0 _ _ (0, 0) h.r).trans rfl
theorem SdAt.c1 (h : SdAt U w sb vt vl ts t lf es ck) : w.cell? ⟨sb, 1, none⟩ = some (.int .i64 (t : Int)) := (cell_of_row _ _ 1 _ _ (0, 0) h.r).trans rfl
theorem SdAt.c2 (h : SdAt U w sb vt vl ts t lf es ck) : w.cell? ⟨sb, 2, none⟩ = some (.int .i64 lf) := (cell_of_row _ _ 2 _ _ (0, 0) h.r).trans rfl
theorem SdAt.c3 (h : SdAt U w sb vt vl ts t lf es ck) : w.cell? ⟨sb, 3, none⟩ = some vl := (cell_of_row _ _ 3 _ _ (0, 0) h.r).trans rfl
theorem SdAt.c4 (h : SdAt U w sb vt vl ts t lf es ck) : w.cell? ⟨sb, 4, none⟩ = some (.int .i64 (ck : Int)) := (cell_of_row _ _ 4 _ _ (0, 0) h.r).trans rfl
theorem SdAt.fz (h : SdAt U w sb vt vl ts t lf es ck) (j : Nat) : w.frozen? ⟨sb, j, none⟩ = false := by
  have := h.r
  simp [World.frozen?, this]
theorem SdAt.step (h : SdAt U w sb vt vl ts t lf es ck) (ho : Only S w w2) (hS : ∀ k, k < w.heap.size → S k → U k) (hV : ∀ k, V k → U k ∨ (w.heap.size ≤ k ∧ k < w2.heap.size)) : SdAt V w2 sb vt vl ts t lf es ck := by
  have l1 := lt_of_some h.r
  have hn : ∀ k, k < w.heap.size → ¬ U k → ¬ V k := fun k hk hu hv => by
    rcases hV k hv with h3 | h3
    · exact hu h3
    · omega
  refine ⟨Only.keep ho h.r (fun s => h.ur (hS _ l1 s)), h.t'.kept ho (fun k hk s => h.ut k hk (hS _ (own_lt h.t' hk).2 s)), h.l.kept ho (fun k hk s => h.ul k hk (hS _ (own_lt h.l hk).2 s)), hn _ l1 h.ur, fun k hk => hn _ (own_lt h.t' hk).2 (h.ut k hk), fun k hk => hn _ (own_lt h.l hk).2 (h.ul k hk), fun k hk => ?_, h.nl⟩
  rcases hV k hk with h3 | h3
  · exact Nat.lt_of_lt_of_le (h.low k h3) ho.size
  · exact h3.2
theorem SdAt.quiet (h : SdAt U w sb vt vl ts t lf es ck) (ho : Only (fun _ => False) w w2) : SdAt U w2 sb vt vl ts t lf es ck := h.step ho (fun _ _ h => h.elim) (fun _ h => Or.inl h)
/-- A thread as it lies. -/
structure E5 (w : World) (g k : Nat) (e : Et) : Prop where
  c0 : w.cell? ⟨g, k * 5, none⟩ = some (.int .i64 e.num)
  c1 : w.cell? ⟨g, k * 5 + 1, none⟩ = some (.int .i64 e.dom)
  c2 : w.cell? ⟨g, k * 5 + 2, none⟩ = some (.int .i64 e.prio)
  c3 : w.cell? ⟨g, k * 5 + 3, none⟩ = some (.int .i64 e.left)
  c4 : w.cell? ⟨g, k * 5 + 4, none⟩ = some (.int .i64 e.came)
theorem own_e5 {base : Nat} {T : TypeId} {v : Value} {xs : List Et} (h : OwnL etL w base T v xs) : ∃ p c, v = .slice p xs.length c ∧ ∀ (k : Nat) (hk : k < xs.length), ∃ g, p = some ⟨g, 0, none⟩ ∧ E5 w g k xs[k] := by
  obtain ⟨p, c, rfl, _, _, hg⟩ := h.form
  refine ⟨p, c, rfl, fun k hk => ?_⟩
  obtain ⟨g, rfl, _⟩ := hg (by omega)
  exact ⟨g, rfl, h.cell k 0 hk (by decide), h.cell k 1 hk (by decide), h.cell k 2 hk (by decide), h.cell k 3 hk (by decide), h.cell k 4 hk (by decide)⟩
theorem find_ok (h : SdAt U w sb vt vl ts t lf es ck) (n : Int) : Calls Try.prog 53 #[.pointer (some ⟨sb, 0, none⟩), .int .i64 n] w fun e w' => e = .returned (.int .i64 (idI (fnF es n))) ∧ w' = w := by
  obtain ⟨p, c, rfl, hb⟩ := own_e5 h.l
  have c0 := h.c3
  have HB := Vx.hid hb
  have hn := h.nl
  clear h hb
  obtain ⟨N, hN⟩ : ∃ N, N = es.length := ⟨_, rfl⟩
  have HN := Vx.hid hN
  rw [← hN] at c0 hn
  clear hN
  go_enter Try.func53, Try.ntmps53
  go_wp2_with fail
  go_loopw [5] (fun d wr => ∃ k : Nat, d = .int .i64 (k : Int) ∧ k ≤ N ∧ Hid (idxF (fun b : Et => decide (b.num = n)) (es.drop k) k = fnF es n) ∧ wr = w) (fun d _ => N - (RowKit.intOf d).toNat)
  case atStart => exact ⟨0, rfl, by omega, (show idxF _ (es.drop 0) 0 = _ from by rw [List.drop_zero]; rfl), rfl⟩
  case round =>
    obtain ⟨k, rfl, hk, HQ, rfl⟩ := hrel
    by_cases hlt : k < N
    · have hlb : k < es.length := by have := HN.out; omega
      have h1 : (k : Int) < (N : Int) := by omega
      have hidx : 0 ≤ (k : Int) ∧ (k : Int) < (N : Int) := by omega
      have hwk : IntKind.i64.wrap ((k : Int) + 1) = (k : Int) + 1 := by rw [IntKind.wrap_i64]; omega
      obtain ⟨g, rfl, hg⟩ := HB.out k hlb
      have b0 := hg.c0
      have hq := HQ.out
      rw [idxF_step es k hlb] at hq
      by_cases he : es[k].num = n
      · rw [if_pos (decide_eq_true he)] at hq
        have HE := Vx.hid hq
        rw [he] at b0
        clear hq hlt HQ he hg
        go_wp2_with fail
        all_goals
          go_ret
          exact ⟨by rw [← HE.out]; rfl, rfl⟩
      · rw [if_neg (by simpa using he)] at hq
        have HE := Vx.hid hq
        have he2 : (es[k].num == n) = false := by simpa using he
        clear hg
        generalize es[k].num = m at b0 he he2
        clear hq hlt HQ
        go_wp2_with fail
        go_roundw
        case rel => exact ⟨k + 1, by go_num, by omega, HE, trivial⟩
        case measure => simp only [RowKit.intOf]; omega
    · obtain rfl : k = N := by omega
      have hq := HQ.out
      rw [HN.out, idxF_end] at hq
      have HE := Vx.hid hq
      have h1 : ¬ (k : Int) < (k : Int) := by omega
      clear hq hlt HQ
      go_wp2_with fail
      all_goals
        go_ret
        exact ⟨by rw [← HE.out]; rfl, rfl⟩
theorem sturn_ok (h : SdAt U w sb vt vl ts t lf es ck) : Calls Try.prog 38 #[.pointer (some ⟨sb, 0, none⟩)] w fun e w' => e = .returned (.tuple #[.int .i64 (t : Int), .int .i64 lf]) ∧ Only (fun _ => False) w w' := by
  have c1 := h.c1
  have c2 := h.c2
  clear h
  go_enter Try.func38, Try.ntmps38
  go_wp2_with fail
  go_quiet (fail)
  go_wp2_with fail
  all_goals
    go_ret2
    exact ⟨rfl, (Only.refl _ _).drewN _⟩
end Go.Proofs.Ytgncabcnefhkiaa

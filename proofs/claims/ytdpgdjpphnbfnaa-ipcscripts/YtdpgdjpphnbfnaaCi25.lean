import Derived.Test.YtdpgdjpphnbfnaaCi24
import Derived.Test.YtdpgdjpphnbfnaaCi4
/- The six books, in one place. -/
namespace Go.Vx
/-- append of two lists to a book. -/
theorem append_twoQ {P : Program} {t e : TypeId} (hk : Kind P shL t e) (w : World) {ops : Array Oper} {rest : List Oper} {o : Oper} {a : Act} {Q : Exit → Act → World → Prop} (hgd : o.guard = none) (s x : Operand)
    (ho : o.op = .call { callee := .builtin .append, args := #[s, x], argTypes := #[t, t] }) (v : Value) (ss : List Sh) (hs : a.eval s = v) (hown : OwnL shL w 0 e v ss) (s1 s2 : Sh) (v1 v2 : Value) (h1 : v1 = shV s1) (h2 : v2 = shV s2) {b : Nat} (hb : b = w.heap.size) (hx : a.eval x = .slice (some ⟨b, 0, none⟩) 2 2) (hlen : ss.length ≤ 1000000)
    (h : ∀ v' w', OwnL shL w' 0 e v' (ss ++ [s1, s2]) → Only (fun k => v.ownBlock = some k) w w' → (v'.ownBlock = v.ownBlock ∨ ∃ g, v'.ownBlock = some g ∧ w.heap.size ≤ g ∧ Only (fun _ => False) w w') → wpList P ops Q rest (a.put o.dst v') w') : wpList P ops Q (o :: rest) a (w.alloc (.cells #[v1, v2] e)) := by
  subst hb h1 h2
  have ha : Only (fun _ => False) w (w.alloc (.cells #[shV s1, shV s2] e)) := (Only.refl _ w).alloc _
  refine wpList_append_many hk _ hgd s x ho 0 v ss hs (hown.kept ha (fun _ _ h => h)) (some ⟨w.heap.size, 0, none⟩) 2 2 [s1, s2] hx rfl (fun _ => ⟨_, rfl, fun j u hj => ?_⟩) (by simp only [List.length_cons, List.length_nil]; omega) (Nat.zero_le _) (fun v' w' h1 h2 h3 => ?_)
  · rw [addr_add, Nat.zero_add, cell_of_row _ _ j _ _ (0, 0) (heap_alloc_last w _)]
    have hj' : [shV s1, shV s2][j]? = some u := hj
    simpa using hj'
  · refine h v' w' h1 ((ha.mono (fun _ _ h => h.elim)).trans h2) ?_
    rcases h3 with h3 | ⟨g, h3, h4, h5⟩
    · exact Or.inl h3
    · exact Or.inr ⟨g, h3, Nat.le_trans ha.size h4, ha.trans h5⟩
end Go.Vx
namespace Go.Proofs.Ytdpgdjpphnbfnaa
open Go.ChangeShapes Go.WideShapes Go.ChangeAt Go.RowKit
open Go.Vx
set_option linter.unusedVariables false

/-- Of each book: what its lists hold, the lists' type, cells of one thing, where the mark is. -/
def bkE : Nat → TypeId | 0 => 3 | 1 => 94 | 2 => 97 | 3 => 117 | 4 => 122 | _ => 128
def bkL : Nat → TypeId | 0 => 51 | 1 => 92 | 2 => 95 | 3 => 115 | 4 => 118 | _ => 123
def bkS : Nat → Nat | 0 => 1 | 1 => 2 | 2 => 3 | 3 => 2 | 4 => 12 | _ => 41
def bkM : Nat → Nat | 0 => 0 | 1 => 0 | 2 => 1 | 3 => 1 | 4 => 0 | _ => 0
theorem bk_tags : ∀ j, j < 6 → ∀ k, k < 6 → bkL j ≠ bkE k ∧ (j ≠ k → bkL j ≠ bkL k) := by decide
def upd {β : Type} (f : Nat → β) (j : Nat) (x : β) : Nat → β := fun k => if k = j then x else f k
theorem upd_at {β : Type} (f : Nat → β) (j : Nat) (x : β) : upd f j x j = x := if_pos rfl
theorem upd_ne {β : Type} (f : Nat → β) {j k : Nat} (x : β) (h : k ≠ j) : upd f j x k = f k := if_neg h
/-- The books, from cell o of a block on. -/
structure Bk6 (B : Nat → Prop) (w : World) (bb o : Nat) (T : TypeId) (cs : Array Value) (V : Nat → Value) (L : Nat → List Sh) : Prop where
  bl : w.heap[bb]? = some (.cells cs T (0, 0))
  c : ∀ j, j < 6 → cs[o + j]? = some (V j)
  k : ∀ j, j < 6 → BkQ (bkE j) (bkL j) (bkS j) (bkM j) B w (V j) (L j)
  nb : ¬ B bb
variable {B C S : Nat → Prop} {w w2 : World} {bb o : Nat} {T : TypeId} {cs : Array Value} {V : Nat → Value} {L : Nat → List Sh}
theorem Bk6.only (h : Bk6 B w bb o T cs V L) (ho : Only S w w2) (hS : ∀ k, B k → ¬ S k) (hb : ¬ S bb) : Bk6 B w2 bb o T cs V L :=
  ⟨by rw [ho.block bb (lt_of_some h.bl) hb]; exact h.bl, h.c, fun j hj => (h.k j hj).only ho hS (fun _ h => h), h.nb⟩
theorem Bk6.more (h : Bk6 B w bb o T cs V L) (hBC : ∀ k, B k → C k) (hb : ¬ C bb) : Bk6 C w bb o T cs V L :=
  ⟨h.bl, h.c, fun j hj => (h.k j hj).keep (fun _ _ _ _ _ _ => rfl) hBC, hb⟩
theorem Bk6.cell (h : Bk6 B w bb o T cs V L) {j : Nat} (hj : j < 6) : w.cell? ⟨bb, o + j, none⟩ = some (V j) := (cell_of_row _ _ (o + j) _ _ (0, 0) h.bl).trans (h.c j hj)
theorem Bk6.fz (h : Bk6 B w bb o T cs V L) (j : Nat) : w.frozen? ⟨bb, j, none⟩ = false := by have := h.bl; simp [World.frozen?, this]
/-- None yet. -/
theorem Bk6.nil (hb : w.heap[bb]? = some (.cells cs T (0, 0))) (hc : ∀ j, j < 6 → cs[o + j]? = some (.slice none 0 0)) : Bk6 (fun _ => False) w bb o T cs (fun _ => .slice none 0 0) (fun _ => []) :=
  ⟨hb, hc, fun j hj => BkQ.nil _ _ _ _ _ _, fun h => h⟩
/-- What an own.. leaves. -/
theorem Bk6.push {α : Type} {La : Lay α} {m : α} {j : Nat} (hj : j < 6) {wr w5 : World} {l xv v2 : Value} {mb base N cl cx : Nat} {pl px : Option Addr} {c : Int} (hk : Bk6 B w bb o T cs V L) (hsz : La.sz = bkS j) (hmo : bkM j < La.sz) (h : OqB (bkM j) La (bkE j) m w mb base l N 33 xv wr) (hl : l = .slice pl N cl) (hx : xv = .slice px (N + 33) cx) (hN : N ≤ 2000000)
    (hm0 : (La.cf m)[bkM j]? = some (.int .i64 c)) (hc : c = -77 - (((L j).length / 2 : Nat) : Int)) (hlB : ∀ k, l.ownBlock = some k → ¬ B k ∧ k ≠ bb) (hwm : w.heap.size ≤ mb + 1) (own' : OwnL shL w5 0 (bkL j) v2 (L j ++ [(pl, N, cl), (px, N + 33, cx)])) (hon : Only (fun k => (V j).ownBlock = some k) wr w5)
    (hg : v2.ownBlock = (V j).ownBlock ∨ ∃ g, v2.ownBlock = some g ∧ wr.heap.size ≤ g ∧ Only (fun _ => False) wr w5) :
    Bk6 (fun k => B k ∨ l.ownBlock = some k ∨ (w.heap.size ≤ k ∧ k < w5.heap.size)) (w5.setCell ⟨bb, o + j, none⟩ v2) bb o T (cs.setIfInBounds (o + j) v2) (upd V j v2) (upd L j (L j ++ [(pl, N, cl), (px, N + 33, cx)])) ∧ Only (fun k => B k ∨ l.ownBlock = some k ∨ k = bb) w (w5.setCell ⟨bb, o + j, none⟩ v2) := by
  have h4 : Bk6 B wr bb o T cs V L := hk.only h.on (fun k hb hs => (hlB k hs).1 hb) (fun hs => (hlB bb hs).2 rfl)
  have hbl := lt_of_some hk.bl
  have hvb : ∀ k, (V j).ownBlock = some k → k ≠ bb := fun k hv e => hk.nb (by rw [← e]; exact (hk.k j hj).inB k hv)
  have hvt : ∀ k, (V j).ownBlock = some k → ∃ cur, wr.heap[k]? = some (.cells cur (bkL j) (0, 0)) := fun k hv => ((h4.k j hj).own.blk hv).2.1
  have h5b : w5.heap[bb]? = some (.cells cs T (0, 0)) := by
    rw [hon.block bb (lt_of_some h4.bl) (fun hv => hvb bb hv rfl)]; exact h4.bl
  have hnC : ¬ (B bb ∨ l.ownBlock = some bb ∨ (w.heap.size ≤ bb ∧ bb < w5.heap.size)) := by
    rintro (h1 | h1 | h1)
    · exact hk.nb h1
    · exact (hlB bb h1).2 rfl
    · omega
  have hC : ∀ k cur, wr.heap[k]? = some (.cells cur (bkE j) (0, 0)) → (l.ownBlock = some k ∨ mb < k) → (B k ∨ l.ownBlock = some k ∨ (w.heap.size ≤ k ∧ k < w5.heap.size)) := fun k cur hkk h2 => by
    rcases h2 with h2 | h2
    · exact Or.inr (Or.inl h2)
    · have h3 := lt_of_some hkk
      have h6 := hon.size
      exact Or.inr (Or.inr ⟨by omega, by omega⟩)
  obtain ⟨m1, m2⟩ := h.marks hmo hl hx (by omega) hm0 hC
  rw [hsz] at m1 m2
  have hset : ∀ k, k ≠ bb → (w5.setCell ⟨bb, o + j, none⟩ v2).heap[k]? = w5.heap[k]? := fun k hkb => RowKit.Below.heap_setCell _ _ _ _ (fun e => hkb e)
  have hs : BkQ (bkE j) (bkL j) (bkS j) (bkM j) (fun k => B k ∨ l.ownBlock = some k ∨ (w.heap.size ≤ k ∧ k < w5.heap.size)) w5 v2 (L j ++ [(pl, N, cl), (px, N + 33, cx)]) := by
    refine (h4.k j hj).push own' (fun k hv => ?_) (fun g cur hCg hh => hon.block g (lt_of_some hh) (fun hv => ?_)) (fun k hb => Or.inl hb) m1 m2 hc
    · rcases hg with hg | ⟨g, hg, hge, _⟩
      · exact Or.inl ((hk.k j hj).inB k (by rw [← hg]; exact hv))
      · have h7 := (own'.blk hv).2.1
        obtain ⟨_, h7⟩ := h7
        have h8 := lt_of_some h7
        rw [hg] at hv
        injection hv with hv
        have h9 := h.on.size
        exact Or.inr (Or.inr ⟨by omega, h8⟩)
    · obtain ⟨cur2, h7⟩ := hvt g hv
      exact tag_ne h7 hh (bk_tags j hj j hj).1 rfl
  refine ⟨⟨?_, fun i hi => ?_, fun i hi => ?_, hnC⟩, ?_⟩
  · exact heap_setCell_same _ _ (o + j) _ _ v2 h5b
  · by_cases hij : i = j
    · subst hij
      rw [upd_at, Array.getElem?_setIfInBounds_self_of_lt]
      exact (Array.getElem?_eq_some_iff.1 (hk.c i hi)).1
    · rw [upd_ne _ _ hij, Array.getElem?_setIfInBounds_ne (by omega)]
      exact hk.c i hi
  · by_cases hij : i = j
    · subst hij
      rw [upd_at, upd_at]
      exact hs.keep (fun g cur T hCg _ hh => hset g (fun e => hnC (by rw [← e]; exact hCg))) (fun _ h => h)
    · rw [upd_ne _ _ hij, upd_ne _ _ hij]
      refine (h4.k i hi).keep (fun g cur T hB hT hh => ?_) (fun k hb => Or.inl hb)
      rw [hset g (fun e => hk.nb (by rw [← e]; exact hB))]
      refine hon.block g (lt_of_some hh) (fun hv => ?_)
      obtain ⟨cur2, h7⟩ := hvt g hv
      rcases hT with rfl | rfl
      · exact tag_ne h7 hh (bk_tags j hj i hi).1 rfl
      · exact tag_ne h7 hh ((bk_tags j hj i hi).2 (fun e => hij e.symm)) rfl
  · have o5 : Only (fun k => B k ∨ l.ownBlock = some k ∨ k = bb) w w5 := (h.on.mono (fun _ _ h => Or.inr (Or.inl h))).trans (hon.mono (fun k _ hv => Or.inl ((hk.k j hj).inB k hv)))
    exact Only.setCell (S := fun k => B k ∨ l.ownBlock = some k ∨ k = bb) o5 (p := ⟨bb, o + j, none⟩) (Or.inl (Or.inr (Or.inr rfl))) _
end Go.Proofs.Ytdpgdjpphnbfnaa

import Derived.Test.YtbmchgjilkoplaaDoorCq3
import Derived.Test.YtbmchgjilkoplaaDoorCq7
import Derived.Test.YtbmchgjilkoplaaDoorCq6
import Derived.Test.YtbmchgjilkoplaaDoorCq5
/- CapsScripts: the books where they lie. -/
namespace Go.Vx
variable {α : Type}
/-- append of two lists to a book. -/
theorem append_two {P : Program} {t e : TypeId} (hk : Kind P shL t e) (w : World) {ops : Array Oper} {rest : List Oper} {o : Oper} {a : Act} {Q : Exit → Act → World → Prop} (hgd : o.guard = none) (s x : Operand)
    (ho : o.op = .call { callee := .builtin .append, args := #[s, x], argTypes := #[t, t] }) (v : Value) (ss : List Sh) (hs : a.eval s = v) (hown : OwnL shL w 0 e v ss) (s1 s2 : Sh) (v1 v2 : Value) (h1 : v1 = shV s1) (h2 : v2 = shV s2) {b : Nat} (hb : b = w.heap.size) (hx : a.eval x = .slice (some ⟨b, 0, none⟩) 2 2) (hlen : ss.length ≤ 1000000)
    (h : ∀ v' w', OwnL shL w' 0 e v' (ss ++ [s1, s2]) → Only (fun k => v.ownBlock = some k) w w' → (v'.ownBlock = v.ownBlock ∨ ∃ g, v'.ownBlock = some g ∧ w.heap.size ≤ g ∧ Only (fun _ => False) w w') → wpList P ops Q rest (a.put o.dst v') w') : wpList P ops Q (o :: rest) a (w.alloc (.cells #[v1, v2] e)) := by
  subst hb h1 h2
  have ha : Only (fun _ => False) w (w.alloc (.cells #[shV s1, shV s2] e)) := (Only.refl _ w).alloc _
  refine wpList_append_many hk _ hgd s x ho 0 v ss hs (hown.kept ha (fun _ _ h => h)) (some ⟨w.heap.size, 0, none⟩) 2 2 [s1, s2] hx rfl (fun _ => ⟨_, rfl, fun j u hj => ?_⟩) (by simp only [List.length_cons, List.length_nil]; omega) (Nat.zero_le _) (fun v' w' h1 h2 h3 => ?_)
  · rw [addr_add, Nat.zero_add, cell_of_row _ _ j _ _ (0, 0) (heap_alloc_last w _)]
    have hj' : [shV s1, shV s2][j]? = some u := hj
    simpa using hj'
  · refine h v' w' h1 ((ha.mono (fun _ _ h => h.elim)).trans h2) ?_
    rcases h3 with h3 | ⟨g, h3, h4, h5⟩
    · exact Or.inl h3
    · exact Or.inr ⟨g, h3, Nat.le_trans ha.size h4, ha.trans h5⟩
end Go.Vx
namespace Go.Proofs.YtbmchgjilkoplaaDoor
open Go.ChangeShapes Go.WideShapes Go.ChangeAt Go.RowKit
open Go.Vx
set_option linter.unusedVariables false

theorem ssK : Kind Tryd.prog shL 32 57 := kind_of (z := .slice none 0 0) (b := 24) Tryd.underlying32 (by kernel_rfl) rfl (by decide)
theorem seK : Kind Tryd.prog shL 35 28 := kind_of (z := .slice none 0 0) (b := 24) Tryd.underlying35 (by kernel_rfl) rfl (by decide)
def slM (c : Int) : Sl := (c, 0)
def enM (c : Int) : En := ⟨(c, 0), ⟨0, 0, 0, 0, 0, 0, 0, 0⟩, (0, 0)⟩
theorem slM0 (c : Int) : (slL.cf (slM c))[0]? = some (.int .i64 c) := rfl
theorem enM0 (c : Int) : (enL.cf (enM c))[0]? = some (.int .i64 c) := rfl
/-- Both stores and the books, in a block. -/
structure Bks (B : Nat → Prop) (w : World) (bb : Nat) (x r vs : Value) (ss : List Sh) (ve : Value) (ls : List Sh) : Prop where
  bl : w.heap[bb]? = some (.cells #[x, r, .slice none 0 0, vs, .slice none 0 0, .slice none 0 0, ve, .slice none 0 0] 40 (0, 0))
  s : BkG 62 57 2 B w vs ss
  n : BkG 72 28 12 B w ve ls
  nb : ¬ B bb
variable {B C S : Nat → Prop} {w w2 : World} {bb : Nat} {x r vs ve : Value} {ss ls : List Sh}
theorem Bks.only (h : Bks B w bb x r vs ss ve ls) (ho : Only S w w2) (hS : ∀ k, B k → ¬ S k) (hb : ¬ S bb) : Bks B w2 bb x r vs ss ve ls :=
  ⟨by rw [ho.block bb (lt_of_some h.bl) hb]; exact h.bl, h.s.only ho hS (fun _ h => h), h.n.only ho hS (fun _ h => h), h.nb⟩
theorem Bks.more (h : Bks B w bb x r vs ss ve ls) (hBC : ∀ k, B k → C k) (hb : ¬ C bb) : Bks C w bb x r vs ss ve ls :=
  ⟨h.bl, h.s.keep (fun _ _ _ _ _ _ => rfl) hBC, h.n.keep (fun _ _ _ _ _ _ => rfl) hBC, hb⟩
theorem Bks.cells (h : Bks B w bb x r vs ss ve ls) : (w.cell? ⟨bb, 0, none⟩ = some x ∧ w.cell? ⟨bb, 1, none⟩ = some r ∧ w.cell? ⟨bb, 2, none⟩ = some (.slice none 0 0) ∧ w.cell? ⟨bb, 3, none⟩ = some vs ∧ w.cell? ⟨bb, 4, none⟩ = some (.slice none 0 0) ∧ w.cell? ⟨bb, 5, none⟩ = some (.slice none 0 0) ∧ w.cell? ⟨bb, 6, none⟩ = some ve ∧ w.cell? ⟨bb, 7, none⟩ = some (.slice none 0 0)) ∧ ∀ j, w.frozen? ⟨bb, j, none⟩ = false :=
  ⟨⟨(cell_of_row _ _ 0 _ _ (0, 0) h.bl).trans rfl, (cell_of_row _ _ 1 _ _ (0, 0) h.bl).trans rfl, (cell_of_row _ _ 2 _ _ (0, 0) h.bl).trans rfl, (cell_of_row _ _ 3 _ _ (0, 0) h.bl).trans rfl, (cell_of_row _ _ 4 _ _ (0, 0) h.bl).trans rfl, (cell_of_row _ _ 5 _ _ (0, 0) h.bl).trans rfl, (cell_of_row _ _ 6 _ _ (0, 0) h.bl).trans rfl, (cell_of_row _ _ 7 _ _ (0, 0) h.bl).trans rfl⟩, fun j => by have := h.bl; simp [World.frozen?, this]⟩

/-- What ownS leaves. -/
theorem Bks.pushS {wr w5 : World} {l xv v2 : Value} {mb base N cl cx : Nat} {pl px : Option Addr} {c : Int} (hk : Bks B w bb x r vs ss ve ls) (h : OmB slL 62 (slM c) w mb base l N 33 xv wr) (hl : l = .slice pl N cl) (hx : xv = .slice px (N + 33) cx) (hN : N ≤ 2000000) (hc : c = -77 - ((ss.length / 2 : Nat) : Int))
    (hlB : ∀ k, l.ownBlock = some k → ¬ B k ∧ k ≠ bb) (hwm : w.heap.size ≤ mb) (own' : OwnL shL w5 0 57 v2 (ss ++ [(pl, N, cl), (px, N + 33, cx)])) (hon : Only (fun k => vs.ownBlock = some k) wr w5)
    (hg : v2.ownBlock = vs.ownBlock ∨ ∃ g, v2.ownBlock = some g ∧ wr.heap.size ≤ g ∧ Only (fun _ => False) wr w5) :
    ∃ s1 s2, Bks (fun k => B k ∨ l.ownBlock = some k ∨ (w.heap.size ≤ k ∧ k < w5.heap.size)) (w5.setCell ⟨bb, 3, none⟩ v2) bb x r v2 (ss ++ [s1, s2]) ve ls ∧ Only (fun k => B k ∨ l.ownBlock = some k ∨ k = bb) w (w5.setCell ⟨bb, 3, none⟩ v2) := by
  refine ⟨(pl, N, cl), (px, N + 33, cx), ?_⟩
  have h4 : Bks B wr bb x r vs ss ve ls := hk.only h.on (fun k hb hs => (hlB k hs).1 hb) (fun hs => (hlB bb hs).2 rfl)
  have hbl := lt_of_some hk.bl
  have hvb : ∀ k, vs.ownBlock = some k → k ≠ bb := fun k hv e => hk.nb (by rw [← e]; exact hk.s.inB k hv)
  have hvt : ∀ k, vs.ownBlock = some k → ∃ cur, wr.heap[k]? = some (.cells cur 57 (0, 0)) := fun k hv => (h4.s.own.blk hv).2.1
  have h5b : w5.heap[bb]? = some (.cells #[x, r, .slice none 0 0, vs, .slice none 0 0, .slice none 0 0, ve, .slice none 0 0] 40 (0, 0)) := by
    rw [hon.block bb (lt_of_some h4.bl) (fun hv => hvb bb hv rfl)]; exact h4.bl
  have hnC : ¬ (B bb ∨ l.ownBlock = some bb ∨ (w.heap.size ≤ bb ∧ bb < w5.heap.size)) := by
    rintro (h1 | h1 | h1)
    · exact hk.nb h1
    · exact (hlB bb h1).2 rfl
    · omega
  have hC : ∀ k cur, wr.heap[k]? = some (.cells cur 62 (0, 0)) → (l.ownBlock = some k ∨ mb < k) → (B k ∨ l.ownBlock = some k ∨ (w.heap.size ≤ k ∧ k < w5.heap.size)) := fun k cur hkk h2 => by
    rcases h2 with h2 | h2
    · exact Or.inr (Or.inl h2)
    · have h3 := lt_of_some hkk
      have h6 := hon.size
      exact Or.inr (Or.inr ⟨by omega, by omega⟩)
  obtain ⟨m1, m2⟩ := h.marks (by decide) hl hx (by omega) (slM0 c) hC
  have hset : ∀ k, k ≠ bb → (w5.setCell ⟨bb, 3, none⟩ v2).heap[k]? = w5.heap[k]? := fun k hkb => RowKit.Below.heap_setCell _ _ _ _ (fun e => hkb e)
  have hs : BkG 62 57 2 (fun k => B k ∨ l.ownBlock = some k ∨ (w.heap.size ≤ k ∧ k < w5.heap.size)) w5 v2 (ss ++ [(pl, N, cl), (px, N + 33, cx)]) := by
    refine h4.s.push own' (fun k hv => ?_) (fun g cur hCg hh => hon.block g (lt_of_some hh) (fun hv => ?_)) (fun k hb => Or.inl hb) m1 m2 hc
    · rcases hg with hg | ⟨g, hg, hge, _⟩
      · exact Or.inl (hk.s.inB k (by rw [← hg]; exact hv))
      · have h7 := (own'.blk hv).2.1
        obtain ⟨_, h7⟩ := h7
        have h8 := lt_of_some h7
        rw [hg] at hv
        injection hv with hv
        have h9 := h.on.size
        exact Or.inr (Or.inr ⟨by omega, h8⟩)
    · obtain ⟨cur2, h7⟩ := hvt g hv
      rw [h7] at hh
      simp at hh
  have hs2 : BkG 62 57 2 (fun k => B k ∨ l.ownBlock = some k ∨ (w.heap.size ≤ k ∧ k < w5.heap.size)) (w5.setCell ⟨bb, 3, none⟩ v2) v2 (ss ++ [(pl, N, cl), (px, N + 33, cx)]) :=
    hs.keep (fun g cur T hCg _ hh => hset g (fun e => hnC (by rw [← e]; exact hCg))) (fun _ h => h)
  have hn2 : BkG 72 28 12 (fun k => B k ∨ l.ownBlock = some k ∨ (w.heap.size ≤ k ∧ k < w5.heap.size)) (w5.setCell ⟨bb, 3, none⟩ v2) ve ls := by
    refine h4.n.keep (fun g cur T hB hT hh => ?_) (fun k hb => Or.inl hb)
    rw [hset g (fun e => hk.nb (by rw [← e]; exact hB))]
    refine hon.block g (lt_of_some hh) (fun hv => ?_)
    obtain ⟨cur2, h7⟩ := hvt g hv
    rw [h7] at hh
    rcases hT with rfl | rfl <;> simp at hh
  have hb6 : (w5.setCell ⟨bb, 3, none⟩ v2).heap[bb]? = some (.cells #[x, r, .slice none 0 0, v2, .slice none 0 0, .slice none 0 0, ve, .slice none 0 0] 40 (0, 0)) := heap_setCell_same _ _ 3 _ _ v2 h5b
  refine ⟨⟨hb6, hs2, hn2, hnC⟩, ?_⟩
  have o5 : Only (fun k => B k ∨ l.ownBlock = some k ∨ k = bb) w w5 := (h.on.mono (fun _ _ h => Or.inr (Or.inl h))).trans (hon.mono (fun k _ hv => Or.inl (hk.s.inB k hv)))
  exact Only.setCell (S := fun k => B k ∨ l.ownBlock = some k ∨ k = bb) o5 (p := ⟨bb, 3, none⟩) (Or.inl (Or.inr (Or.inr rfl))) _

/-- What ownE leaves. -/
theorem Bks.pushE {wr w5 : World} {l xv v2 : Value} {mb base N cl cx : Nat} {pl px : Option Addr} {c : Int} (hk : Bks B w bb x r vs ss ve ls) (h : OmB enL 72 (enM c) w mb base l N 33 xv wr) (hl : l = .slice pl N cl) (hx : xv = .slice px (N + 33) cx) (hN : N ≤ 2000000) (hc : c = -77 - ((ls.length / 2 : Nat) : Int))
    (hlB : ∀ k, l.ownBlock = some k → ¬ B k ∧ k ≠ bb) (hwm : w.heap.size ≤ mb) (own' : OwnL shL w5 0 28 v2 (ls ++ [(pl, N, cl), (px, N + 33, cx)])) (hon : Only (fun k => ve.ownBlock = some k) wr w5)
    (hg : v2.ownBlock = ve.ownBlock ∨ ∃ g, v2.ownBlock = some g ∧ wr.heap.size ≤ g ∧ Only (fun _ => False) wr w5) :
    ∃ s1 s2, Bks (fun k => B k ∨ l.ownBlock = some k ∨ (w.heap.size ≤ k ∧ k < w5.heap.size)) (w5.setCell ⟨bb, 6, none⟩ v2) bb x r vs ss v2 (ls ++ [s1, s2]) ∧ Only (fun k => B k ∨ l.ownBlock = some k ∨ k = bb) w (w5.setCell ⟨bb, 6, none⟩ v2) := by
  refine ⟨(pl, N, cl), (px, N + 33, cx), ?_⟩
  have h4 : Bks B wr bb x r vs ss ve ls := hk.only h.on (fun k hb hs => (hlB k hs).1 hb) (fun hs => (hlB bb hs).2 rfl)
  have hbl := lt_of_some hk.bl
  have hvb : ∀ k, ve.ownBlock = some k → k ≠ bb := fun k hv e => hk.nb (by rw [← e]; exact hk.n.inB k hv)
  have hvt : ∀ k, ve.ownBlock = some k → ∃ cur, wr.heap[k]? = some (.cells cur 28 (0, 0)) := fun k hv => (h4.n.own.blk hv).2.1
  have h5b : w5.heap[bb]? = some (.cells #[x, r, .slice none 0 0, vs, .slice none 0 0, .slice none 0 0, ve, .slice none 0 0] 40 (0, 0)) := by
    rw [hon.block bb (lt_of_some h4.bl) (fun hv => hvb bb hv rfl)]; exact h4.bl
  have hnC : ¬ (B bb ∨ l.ownBlock = some bb ∨ (w.heap.size ≤ bb ∧ bb < w5.heap.size)) := by
    rintro (h1 | h1 | h1)
    · exact hk.nb h1
    · exact (hlB bb h1).2 rfl
    · omega
  have hC : ∀ k cur, wr.heap[k]? = some (.cells cur 72 (0, 0)) → (l.ownBlock = some k ∨ mb < k) → (B k ∨ l.ownBlock = some k ∨ (w.heap.size ≤ k ∧ k < w5.heap.size)) := fun k cur hkk h2 => by
    rcases h2 with h2 | h2
    · exact Or.inr (Or.inl h2)
    · have h3 := lt_of_some hkk
      have h6 := hon.size
      exact Or.inr (Or.inr ⟨by omega, by omega⟩)
  obtain ⟨m1, m2⟩ := h.marks (by decide) hl hx (by omega) (enM0 c) hC
  have hset : ∀ k, k ≠ bb → (w5.setCell ⟨bb, 6, none⟩ v2).heap[k]? = w5.heap[k]? := fun k hkb => RowKit.Below.heap_setCell _ _ _ _ (fun e => hkb e)
  have hs : BkG 72 28 12 (fun k => B k ∨ l.ownBlock = some k ∨ (w.heap.size ≤ k ∧ k < w5.heap.size)) w5 v2 (ls ++ [(pl, N, cl), (px, N + 33, cx)]) := by
    refine h4.n.push own' (fun k hv => ?_) (fun g cur hCg hh => hon.block g (lt_of_some hh) (fun hv => ?_)) (fun k hb => Or.inl hb) m1 m2 hc
    · rcases hg with hg | ⟨g, hg, hge, _⟩
      · exact Or.inl (hk.n.inB k (by rw [← hg]; exact hv))
      · have h7 := (own'.blk hv).2.1
        obtain ⟨_, h7⟩ := h7
        have h8 := lt_of_some h7
        rw [hg] at hv
        injection hv with hv
        have h9 := h.on.size
        exact Or.inr (Or.inr ⟨by omega, h8⟩)
    · obtain ⟨cur2, h7⟩ := hvt g hv
      rw [h7] at hh
      simp at hh
  have hs2 : BkG 72 28 12 (fun k => B k ∨ l.ownBlock = some k ∨ (w.heap.size ≤ k ∧ k < w5.heap.size)) (w5.setCell ⟨bb, 6, none⟩ v2) v2 (ls ++ [(pl, N, cl), (px, N + 33, cx)]) :=
    hs.keep (fun g cur T hCg _ hh => hset g (fun e => hnC (by rw [← e]; exact hCg))) (fun _ h => h)
  have hn2 : BkG 62 57 2 (fun k => B k ∨ l.ownBlock = some k ∨ (w.heap.size ≤ k ∧ k < w5.heap.size)) (w5.setCell ⟨bb, 6, none⟩ v2) vs ss := by
    refine h4.s.keep (fun g cur T hB hT hh => ?_) (fun k hb => Or.inl hb)
    rw [hset g (fun e => hk.nb (by rw [← e]; exact hB))]
    refine hon.block g (lt_of_some hh) (fun hv => ?_)
    obtain ⟨cur2, h7⟩ := hvt g hv
    rw [h7] at hh
    rcases hT with rfl | rfl <;> simp at hh
  have hb6 : (w5.setCell ⟨bb, 6, none⟩ v2).heap[bb]? = some (.cells #[x, r, .slice none 0 0, vs, .slice none 0 0, .slice none 0 0, v2, .slice none 0 0] 40 (0, 0)) := heap_setCell_same _ _ 6 _ _ v2 h5b
  refine ⟨⟨hb6, hn2, hs2, hnC⟩, ?_⟩
  have o5 : Only (fun k => B k ∨ l.ownBlock = some k ∨ k = bb) w w5 := (h.on.mono (fun _ _ h => Or.inr (Or.inl h))).trans (hon.mono (fun k _ hv => Or.inl (hk.n.inB k hv)))
  exact Only.setCell (S := fun k => B k ∨ l.ownBlock = some k ∨ k = bb) o5 (p := ⟨bb, 6, none⟩) (Or.inl (Or.inr (Or.inr rfl))) _
end Go.Proofs.YtbmchgjilkoplaaDoor

/- CapsScripts: ownSlots, ownEntries. -/
namespace Go.Proofs.YtbmchgjilkoplaaDoor
open Go.ChangeShapes Go.WideShapes Go.ChangeAt Go.RowKit
open Go.Vx
set_option linter.unusedVariables false
variable {B : Nat → Prop} {w : World} {bb : Nat} {x r vs ve : Value} {ss ls : List Sh}

set_option maxRecDepth 100000 in
set_option maxHeartbeats 4000000 in
theorem ownSlots_ok {base : Nat} {l : Value} {ms : List Sl} (hk : Bks B w bb x r vs ss ve ls) (hsz : ss.length ≤ 1000000) (hl : OwnL slL w base 62 l ms) (hbase : base ≤ w.heap.size) (hm : ms.length ≤ 2000000) (hlB : ∀ k, l.ownBlock = some k → ¬ B k ∧ k ≠ bb) :
    Calls Tryd.prog 41 #[.pointer (some ⟨bb, 2, none⟩), l] w fun e w' => e = .returned (.tuple #[]) ∧ ∃ v2 s1 s2, Bks (fun k => B k ∨ l.ownBlock = some k ∨ (w.heap.size ≤ k ∧ k < w'.heap.size)) w' bb x r v2 (ss ++ [s1, s2]) ve ls ∧ Only (fun k => B k ∨ l.ownBlock = some k ∨ k = bb) w w' := by
  obtain ⟨pl, cl, rfl, _, _, hpl⟩ := hl.form
  obtain ⟨pv, cv, hv, _⟩ := hk.s.at
  obtain ⟨⟨_, _, _, d3, _, _, d6, _⟩, _⟩ := hk.cells
  have h5 := d3
  clear d3 d6
  obtain ⟨Ln, hL⟩ : ∃ Ln, Ln = ss.length := ⟨_, rfl⟩
  obtain ⟨N, hN⟩ : ∃ N, N = ms.length := ⟨_, rfl⟩
  have q0 : Int.tdiv (Ln : Int) 2 = ((Ln / 2 : Nat) : Int) := by rw [Int.tdiv_eq_ediv_of_nonneg (by omega)]; omega
  have q0' : (Ln : Int) / 2 = ((Ln / 2 : Nat) : Int) := by omega
  have q1 : IntKind.i64.wrap ((Ln / 2 : Nat) : Int) = ((Ln / 2 : Nat) : Int) := by rw [IntKind.wrap_i64]; omega
  obtain ⟨c, hc⟩ : ∃ c : Int, c = -77 - ((Ln / 2 : Nat) : Int) := ⟨_, rfl⟩
  have q2 : -77 - ((Ln / 2 : Nat) : Int) = c := hc.symm
  have q3 : IntKind.i64.wrap c = c := by rw [IntKind.wrap_i64]; omega
  rw [← hN] at hlB hpl ⊢
  have HLm : Hid (∀ k, (Value.slice pl N cl).ownBlock = some k → k < w.heap.size) := fun k hkk => by
    obtain ⟨_, ⟨cur, h⟩, _⟩ := hl.blk (k := k) (by rw [← hN]; exact hkk)
    exact lt_of_some h
  have H0 : Hid (OmA slL 62 (slM c) w w.heap.size base (.slice pl N cl) N 0 (w.alloc (.cells #[.int .i64 c, .int .i64 0] 62))) := ⟨⟨ms, by rw [hN]; exact hl.kept ((Only.refl _ _).alloc _) (fun _ _ h => h), hN.symm, fun k hk => by omega⟩, heap_alloc_last _ _, (Only.refl _ _).alloc _⟩
  have HLB := Vx.hid hlB
  have HPL := Vx.hid hpl
  have HCC : Hid (c = -77 - ((ss.length / 2 : Nat) : Int)) := by show c = _; rw [hc, hL]
  have HK := Vx.hid hk
  have HBS := Vx.hid hbase
  have HSZ := Vx.hid hsz
  have HV : Hid (vs = .slice pv Ln cv) := by show vs = _; rw [hv, hL]
  have hNm : N ≤ 2000000 := by omega
  have hNi : (N : Int) ≤ 2000000 := by omega
  rw [hv, ← hL] at h5
  obtain ⟨mb, hmb⟩ : ∃ mb, mb = w.heap.size := ⟨_, rfl⟩
  have HMB := Vx.hid hmb
  clear hc
  generalize Ln / 2 = q at q0 q0' q1 q2
  clear hk hsz hl hbase hm hlB hpl hN hv hL
  go_enter Tryd.func41, Tryd.ntmps41
  go_wp2_with fail
  rw [← hmb] at H0 ⊢
  obtain ⟨w0, hw0⟩ : ∃ w0, w0 = w.alloc (.cells #[.int .i64 c, .int .i64 0] 62) := ⟨_, rfl⟩
  rw [← hw0] at H0 ⊢
  clear hw0 hmb h5
  go_loopw [5] (fun d wr => ∃ i : Nat, d = .int .i64 (i : Int) ∧ i ≤ N ∧ Hid (OmA slL 62 (slM c) w mb base (.slice pl N cl) N i wr)) (fun d _ => N - (intOf d).toNat)
  case atStart => exact ⟨0, rfl, by omega, H0⟩
  case round =>
    clear H0
    obtain ⟨i, rfl, hi, HR⟩ := hrel
    by_cases hlt : i < N
    · have d1 : (i : Int) < (N : Int) := by omega
      have hidx : 0 ≤ (i : Int) ∧ (i : Int) < (N : Int) := by omega
      have v1 : IntKind.i64.wrap ((i : Int) + 1) = (i : Int) + 1 := by rw [IntKind.wrap_i64]; omega
      obtain ⟨g, rfl, _, _⟩ := HPL.out (by omega)
      obtain ⟨ms2, hms, hml, hmk⟩ := HR.out.ex
      obtain ⟨y0, c0⟩ : ∃ y, wr.cell? ⟨g, i * 2, none⟩ = some y := ⟨_, (hms.cell i 0 (by omega) (by decide)).trans rfl⟩
      obtain ⟨y1, c1⟩ : ∃ y, wr.cell? ⟨g, i * 2 + 1, none⟩ = some y := ⟨_, (hms.cell i 1 (by omega) (by decide)).trans rfl⟩
      have f0 := hms.fz (i * 2)
      have f1 := hms.fz (i * 2 + 1)
      have m0 : wr.cell? ⟨mb, 0, none⟩ = some (.int .i64 c) := (cell_of_row _ _ 0 _ _ (0, 0) HR.out.mk').trans rfl
      have m1 : wr.cell? ⟨mb, 1, none⟩ = some (.int .i64 0) := (cell_of_row _ _ 1 _ _ (0, 0) HR.out.mk').trans rfl
      have HR2 : Hid (OmA slL 62 (slM c) w mb base (.slice (some ⟨g, 0, none⟩) N cl) N (i + 1) ((wr.setCell ⟨g, i * 2, none⟩ (.int .i64 c)).setCell ⟨g, i * 2 + 1, none⟩ (.int .i64 0))) := by
        obtain ⟨s1, s2⟩ := own_slot hms hml.symm i (by omega) (slM c)
        refine ⟨⟨ms2.set i (slM c), s1, by simp [hml], fun k hk => ?_⟩, ?_, ?_⟩
        · rw [List.getElem?_set]
          by_cases hki : i = k
          · rw [if_pos hki, if_pos (by omega)]
          · rw [if_neg hki]; exact hmk k (by omega)
        · exact (s2.block mb (lt_of_some HR.out.mk') (fun e => by have := HLm.out g rfl; have := HMB.out; omega)).trans HR.out.mk'
        · exact HR.out.on.trans (s2.mono (fun k _ hk => by rw [hk]; rfl))
      clear hms hml hmk hlt HR
      go_wp2_with fail
      go_roundw
      case rel => exact ⟨i + 1, by go_num, by omega, HR2⟩
      case measure => simp only [intOf]; omega
    · obtain rfl : i = N := by omega
      have d1 : ¬ (i : Int) < (i : Int) := by omega
      have HB0 := Vx.hid (HR.out.fin (by decide))
      clear hlt hi HR
      go_wp2_with fail
      go_loopw [6, 7] (fun y d wr => ∃ j : Nat, d = .int .i64 (j : Int) ∧ j ≤ 33 ∧ Hid (OmB slL 62 (slM c) w mb base (.slice pl i cl) i j y wr)) (fun _ d _ => 33 - (intOf d).toNat)
      case atStart => exact ⟨0, rfl, by omega, HB0⟩
      case round =>
        clear HB0
        obtain ⟨j, rfl, hj, HR⟩ := hrel
        by_cases hj2 : j < 33
        · have d2 : (j : Int) < 33 := by omega
          have v1 : IntKind.i64.wrap ((j : Int) + 1) = (j : Int) + 1 := by rw [IntKind.wrap_i64]; omega
          have m0 : wr.cell? ⟨mb, 0, none⟩ = some (.int .i64 c) := (cell_of_row _ _ 0 _ _ (0, 0) HR.out.mk').trans rfl
          have m1 : wr.cell? ⟨mb, 1, none⟩ = some (.int .i64 0) := (cell_of_row _ _ 1 _ _ (0, 0) HR.out.mk').trans rfl
          have HLE : Hid ((List.replicate (i + j) (slM c)).length + 1 ≤ 10000000) := by show _ ≤ _; simp; omega
          have HBW : Hid (base ≤ wr.heap.size) := Nat.le_trans HBS.out HR.out.on.size
          clear hj2
          go_wp2_with (at_builtin; refine wpList_append_one slK _ rfl _ _ rfl base _ _ rfl HR.out.own (slM c) _ _ rfl rfl rfl HLE.out HBW.out (fun x2 w4 h1 h2 h3 => ?_); have HR2 := Vx.hid (HR.out.push (by decide) h1 h2 h3 (fun k hk => by have := HLm.out k hk; have := HMB.out; omega) (by have := HMB.out; omega)); clear h1 h2 h3)
          go_roundw
          case rel => exact ⟨j + 1, by go_num, by omega, HR2⟩
          case measure => simp only [intOf]; omega
        · obtain rfl : j = 33 := by omega
          have HKR : Hid (Bks B wr bb x r vs ss ve ls) := HK.out.only HR.out.on (fun k hb hs => (HLB.out k hs).1 hb) (fun hs => (HLB.out bb hs).2 rfl)
          obtain ⟨⟨_, _, _, d3, _, _, d6, _⟩, hfz⟩ := HKR.out.cells
          have h5 := d3
          rw [HV.out] at h5
          have HOW : Hid (OwnL shL wr 0 57 (.slice pv Ln cv) ss) := by have := HKR.out.s.own; rw [HV.out] at this; exact this
          obtain ⟨px, cx, hx, _⟩ := HR.out.own.form
          rw [List.length_replicate] at hx
          subst hx
          have HFZ := Vx.hid hfz
          have HBB := Vx.hid HKR.out.bl
          have HVB : Hid (∀ k, (Value.slice pv Ln cv).ownBlock = some k → k ≠ bb) := fun k hkk e => by
            have h8 := HKR.out.s.inB k (by rw [HV.out]; exact hkk)
            rw [e] at h8
            exact HKR.out.nb h8
          clear hj hj2 hfz d3 d6
          go_wp2_with (at_builtin; refine append_two ssK _ rfl _ _ rfl _ ss rfl HOW.out (pl, i, cl) (px, i + 33, cx) _ _ rfl rfl rfl rfl HSZ.out (fun v2 w4 h1 h2 h3 => ?_); obtain ⟨p2, c2, hv2, _⟩ := h1.form; subst hv2; have hsm := h2.block bb (lt_of_some HBB.out) (fun hv => HVB.out bb hv rfl); have hc5 := (World.cell?_of_block (a := ⟨bb, 3, none⟩) hsm).trans h5; have hf5 := (World.frozen?_of_block (a := ⟨bb, 3, none⟩) hsm).trans (HFZ.out 3); have H1 := Vx.hid h1; have H2 := Vx.hid h2; have H3 := Vx.hid h3; clear h1 h2 h3 hsm)
          all_goals
            go_end0
            refine ⟨rfl, ?_⟩
            have hws : ∀ u : Value, (w4.setCell ⟨bb, 3, none⟩ u).heap.size = w4.heap.size := fun u => by simp [World.setCell]
            rw [hws]
            obtain ⟨s1, s2, hb, hon⟩ := HK.out.pushS HR.out rfl rfl hNm HCC.out HLB.out (by have := HMB.out; omega) H1.out (by rw [HV.out]; exact H2.out) (by rw [HV.out]; exact H3.out)
            have hln : (ss ++ [(pl, i, cl), (px, i + 33, cx)]).length = ss.length + 2 := by simp
            rw [hln] at hb hon
            exact ⟨_, s1, s2, hb, hon⟩
end Go.Proofs.YtbmchgjilkoplaaDoor

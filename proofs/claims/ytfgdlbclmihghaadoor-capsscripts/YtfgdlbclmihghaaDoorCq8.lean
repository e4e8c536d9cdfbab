import Derived.Test.YtfgdlbclmihghaaDoorCq3
import Derived.Test.YtfgdlbclmihghaaDoorCq7
import Derived.Test.YtfgdlbclmihghaaDoorCq6
/- CapsScripts: the books where they lie. -/
namespace Go.Vx
variable {α : Type}
/-- append of two lists to a book. -/
theorem append_two {P : Program} {t e : TypeId} (hk : Kind P shL t e) (w : World) {ops : Array Oper} {rest : List Oper} {o : Oper} {a : Act} {Q : Exit → Act → World → Prop} (hgd : o.guard = none) (s x : Operand)
    (ho : o.op = .call { callee := .builtin .append, args := #[s, x], argTypes := #[t, t] }) (v : Value) (ss : List Sh) (hs : a.eval s = v) (hown : OwnL shL w 0 e v ss) (s1 s2 : Sh) (v1 v2 : Value) (h1 : v1 = shV s1) (h2 : v2 = shV s2) {b : Nat} (hb : b = w.heap.size) (hx : a.eval x = .slice (some ⟨b, 0, none⟩) 2 2) (hlen : ss.length ≤ 1000000)
    (h : ∀ v' w', OwnL shL w' 0 e v' (ss ++ [s1, s2]) → Only (fun k => v.ownBlock = some k) w w' → (v'.ownBlock = v.ownBlock ∨ ∃ g, v'.ownBlock = some g ∧ w.heap.size ≤ g ∧ Only (fun _ => False) w w') → wpList P ops Q rest (a.put o.dst v') w') : wpList P ops Q (o :: rest) a (w.alloc (.cells #[v1, v2] e)) := by
  subst hb h1 h2
  have ha : Only (fun _ => False) w (w.alloc (.cells #[shV s1, shV s2] e)) := (Only.refl _ w).alloc _
  refine wpList_append_many hk _ hgd s x ho 0 v ss hs (hown.kept ha (fun _ _ h => h)) (some ⟨w.heap.size, 0, none⟩) 2 2 [s1, s2] hx rfl (fun _ => ⟨_, rfl, fun j u hj => ?_⟩) (by simp only [List.length_cons, List.length_nil]; omega) (Nat.zero_le _) (fun v' w' h1 h2 h3 => ?_)
  · rw [addr_add, Nat.zero_add, cell_of_row _ _ j _ _ (0, 0) (heap_alloc_last w _)]
    have hj' : [shV s1, shV s2][j]? = some u := hj
    simpa using hj'
  · refine h v' w' h1 ((ha.mono (fun _ _ h => h.elim)).trans h2) ?_
    rcases h3 with h3 | ⟨g, h3, h4, h5⟩
    · exact Or.inl h3
    · exact Or.inr ⟨g, h3, Nat.le_trans ha.size h4, ha.trans h5⟩
end Go.Vx
namespace Go.Proofs.YtfgdlbclmihghaaDoor
open Go.ChangeShapes Go.WideShapes Go.ChangeAt Go.RowKit
open Go.Vx
set_option linter.unusedVariables false

theorem ssK : Kind Tryd.prog shL 32 57 := kind_of (z := .slice none 0 0) (b := 24) Tryd.underlying32 (by kernel_rfl) rfl (by decide)
theorem seK : Kind Tryd.prog shL 35 28 := kind_of (z := .slice none 0 0) (b := 24) Tryd.underlying35 (by kernel_rfl) rfl (by decide)
def slM (c : Int) : Sl := (c, 0)
def enM (c : Int) : En := ⟨(c, 0), ⟨0, 0, 0, 0, 0, 0, 0, 0⟩, (0, 0)⟩
theorem slM0 (c : Int) : (slL.cf (slM c))[0]? = some (.int .i64 c) := rfl
theorem enM0 (c : Int) : (enL.cf (enM c))[0]? = some (.int .i64 c) := rfl
/-- Both stores and the books, in a block. -/
structure Bks (B : Nat → Prop) (w : World) (bb : Nat) (x r vs : Value) (ss : List Sh) (ve : Value) (ls : List Sh) : Prop where
  bl : w.heap[bb]? = some (.cells #[x, r, .slice none 0 0, vs, .slice none 0 0, .slice none 0 0, ve, .slice none 0 0] 40 (0, 0))
  s : BkG 62 57 2 B w vs ss
  n : BkG 72 28 12 B w ve ls
  nb : ¬ B bb
variable {B C S : Nat → Prop} {w w2 : World} {bb : Nat} {x r vs ve : Value} {ss ls : List Sh}
theorem Bks.only (h : Bks B w bb x r vs ss ve ls) (ho : Only S w w2) (hS : ∀ k, B k → ¬ S k) (hb : ¬ S bb) : Bks B w2 bb x r vs ss ve ls :=
  ⟨by rw [ho.block bb (lt_of_some h.bl) hb]; exact h.bl, h.s.only ho hS (fun _ h => h), h.n.only ho hS (fun _ h => h), h.nb⟩
theorem Bks.more (h : Bks B w bb x r vs ss ve ls) (hBC : ∀ k, B k → C k) (hb : ¬ C bb) : Bks C w bb x r vs ss ve ls :=
  ⟨h.bl, h.s.keep (fun _ _ _ _ _ _ => rfl) hBC, h.n.keep (fun _ _ _ _ _ _ => rfl) hBC, hb⟩
theorem Bks.cells (h : Bks B w bb x r vs ss ve ls) : (w.cell? ⟨bb, 0, none⟩ = some x ∧ w.cell? ⟨bb, 1, none⟩ = some r ∧ w.cell? ⟨bb, 2, none⟩ = some (.slice none 0 0) ∧ w.cell? ⟨bb, 3, none⟩ = some vs ∧ w.cell? ⟨bb, 4, none⟩ = some (.slice none 0 0) ∧ w.cell? ⟨bb, 5, none⟩ = some (.slice none 0 0) ∧ w.cell? ⟨bb, 6, none⟩ = some ve ∧ w.cell? ⟨bb, 7, none⟩ = some (.slice none 0 0)) ∧ ∀ j, w.frozen? ⟨bb, j, none⟩ = false :=
  ⟨⟨(cell_of_row _ _ 0 _ _ (0, 0) h.bl).trans rfl, (cell_of_row _ _ 1 _ _ (0, 0) h.bl).trans rfl, (cell_of_row _ _ 2 _ _ (0, 0) h.bl).trans rfl, (cell_of_row _ _ 3 _ _ (0, 0) h.bl).trans rfl, (cell_of_row _ _ 4 _ _ (0, 0) h.bl).trans rfl, (cell_of_row _ _ 5 _ _ (0, 0) h.bl).trans rfl, (cell_of_row _ _ 6 _ _ (0, 0) h.bl).trans rfl, (cell_of_row _ _ 7 _ _ (0, 0) h.bl).trans rfl⟩, fun j => by have := h.bl; simp [World.frozen?, this]⟩
/-- The marks of a slot, where it lies. -/
theorem own_slot {w : World} {base g c m : Nat} {T : TypeId} {xs : List Sl} (h : OwnL slL w base T (.slice (some ⟨g, 0, none⟩) m c) xs) (hm : m = xs.length) (k : Nat) (hk : k < xs.length) (y : Sl) :
    OwnL slL ((w.setCell ⟨g, k * 2, none⟩ (.int .i64 y.1)).setCell ⟨g, k * 2 + 1, none⟩ (.int .i64 y.2)) base T (.slice (some ⟨g, 0, none⟩) m c) (xs.set k y) ∧ Only (fun b => b = g) w ((w.setCell ⟨g, k * 2, none⟩ (.int .i64 y.1)).setCell ⟨g, k * 2 + 1, none⟩ (.int .i64 y.2)) := by
  subst hm
  have h0 := (World.ownsRow.stored h (k * 2) (.int .i64 y.1)).1
  have h1 := (World.ownsRow.stored h0 (k * 2 + 1) (.int .i64 y.2)).1
  have o1 : Only (fun b => b = g) w (w.setCell ⟨g, k * 2, none⟩ (.int .i64 y.1)) := Only.setCell (S := fun b => b = g) (Only.refl _ w) (Or.inl rfl) _
  have o2 := Only.setCell (S := fun b => b = g) o1 (p := ⟨g, k * 2 + 1, none⟩) (Or.inl rfl) (.int .i64 y.2)
  refine ⟨?_, o2⟩
  have hz : ((fl slL xs).set (k * 2) (.int .i64 y.1)).set (k * 2 + 1) (.int .i64 y.2) = fl slL (xs.set k y) := by
    refine fl_set slL xs k y hk _ (by simp) (fun j hj => ?_) (fun i hi => ?_)
    · have hj' : j < 2 := hj
      have hlen : (fl slL xs).length = xs.length * 2 := length_fl slL xs
      have hs2 : slL.sz = 2 := rfl
      rw [hs2, List.getElem?_set, List.getElem?_set]
      rcases (by omega : j = 0 ∨ j = 1) with rfl | rfl
      · rw [if_neg (by omega), if_pos (by omega), if_pos (by rw [hlen]; omega)]; rfl
      · rw [if_pos (by omega), if_pos (by rw [List.length_set, hlen]; omega)]; rfl
    · have hs2 : slL.sz = 2 := rfl
      rw [hs2] at hi
      rw [List.getElem?_set, List.getElem?_set, if_neg (by omega), if_neg (by omega)]
  rw [hz] at h1
  show World.ownsRow _ _ _ _ _ (xs.set k y).length _
  rw [List.length_set]
  exact h1

/-- What ownS leaves. -/
theorem Bks.pushS {wr w5 : World} {l xv v2 : Value} {mb base N cl cx : Nat} {pl px : Option Addr} {c : Int} (hk : Bks B w bb x r vs ss ve ls) (h : OmB slL 62 (slM c) w mb base l N 33 xv wr) (hl : l = .slice pl N cl) (hx : xv = .slice px (N + 33) cx) (hN : N ≤ 2000000) (hc : c = -77 - ((ss.length / 2 : Nat) : Int))
    (hlB : ∀ k, l.ownBlock = some k → ¬ B k ∧ k ≠ bb) (hwm : w.heap.size ≤ mb) (own' : OwnL shL w5 0 57 v2 (ss ++ [(pl, N, cl), (px, N + 33, cx)])) (hon : Only (fun k => vs.ownBlock = some k) wr w5)
    (hg : v2.ownBlock = vs.ownBlock ∨ ∃ g, v2.ownBlock = some g ∧ wr.heap.size ≤ g ∧ Only (fun _ => False) wr w5) :
    ∃ s1 s2, Bks (fun k => B k ∨ l.ownBlock = some k ∨ (w.heap.size ≤ k ∧ k < w5.heap.size)) (w5.setCell ⟨bb, 3, none⟩ v2) bb x r v2 (ss ++ [s1, s2]) ve ls ∧ Only (fun k => B k ∨ l.ownBlock = some k ∨ k = bb) w (w5.setCell ⟨bb, 3, none⟩ v2) := by
  refine ⟨(pl, N, cl), (px, N + 33, cx), ?_⟩
  have h4 : Bks B wr bb x r vs ss ve ls := hk.only h.on (fun k hb hs => (hlB k hs).1 hb) (fun hs => (hlB bb hs).2 rfl)
  have hbl := lt_of_some hk.bl
  have hvb : ∀ k, vs.ownBlock = some k → k ≠ bb := fun k hv e => hk.nb (by rw [← e]; exact hk.s.inB k hv)
  have hvt : ∀ k, vs.ownBlock = some k → ∃ cur, wr.heap[k]? = some (.cells cur 57 (0, 0)) := fun k hv => (h4.s.own.blk hv).2.1
  have h5b : w5.heap[bb]? = some (.cells #[x, r, .slice none 0 0, vs, .slice none 0 0, .slice none 0 0, ve, .slice none 0 0] 40 (0, 0)) := by
    rw [hon.block bb (lt_of_some h4.bl) (fun hv => hvb bb hv rfl)]; exact h4.bl
  have hnC : ¬ (B bb ∨ l.ownBlock = some bb ∨ (w.heap.size ≤ bb ∧ bb < w5.heap.size)) := by
    rintro (h1 | h1 | h1)
    · exact hk.nb h1
    · exact (hlB bb h1).2 rfl
    · omega
  have hC : ∀ k cur, wr.heap[k]? = some (.cells cur 62 (0, 0)) → (l.ownBlock = some k ∨ mb < k) → (B k ∨ l.ownBlock = some k ∨ (w.heap.size ≤ k ∧ k < w5.heap.size)) := fun k cur hkk h2 => by
    rcases h2 with h2 | h2
    · exact Or.inr (Or.inl h2)
    · have h3 := lt_of_some hkk
      have h6 := hon.size
      exact Or.inr (Or.inr ⟨by omega, by omega⟩)
  obtain ⟨m1, m2⟩ := h.marks (by decide) hl hx (by omega) (slM0 c) hC
  have hset : ∀ k, k ≠ bb → (w5.setCell ⟨bb, 3, none⟩ v2).heap[k]? = w5.heap[k]? := fun k hkb => RowKit.Below.heap_setCell _ _ _ _ (fun e => hkb e)
  have hs : BkG 62 57 2 (fun k => B k ∨ l.ownBlock = some k ∨ (w.heap.size ≤ k ∧ k < w5.heap.size)) w5 v2 (ss ++ [(pl, N, cl), (px, N + 33, cx)]) := by
    refine h4.s.push own' (fun k hv => ?_) (fun g cur hCg hh => hon.block g (lt_of_some hh) (fun hv => ?_)) (fun k hb => Or.inl hb) m1 m2 hc
    · rcases hg with hg | ⟨g, hg, hge, _⟩
      · exact Or.inl (hk.s.inB k (by rw [← hg]; exact hv))
      · have h7 := (own'.blk hv).2.1
        obtain ⟨_, h7⟩ := h7
        have h8 := lt_of_some h7
        rw [hg] at hv
        injection hv with hv
        have h9 := h.on.size
        exact Or.inr (Or.inr ⟨by omega, h8⟩)
    · obtain ⟨cur2, h7⟩ := hvt g hv
      rw [h7] at hh
      simp at hh
  have hs2 : BkG 62 57 2 (fun k => B k ∨ l.ownBlock = some k ∨ (w.heap.size ≤ k ∧ k < w5.heap.size)) (w5.setCell ⟨bb, 3, none⟩ v2) v2 (ss ++ [(pl, N, cl), (px, N + 33, cx)]) :=
    hs.keep (fun g cur T hCg _ hh => hset g (fun e => hnC (by rw [← e]; exact hCg))) (fun _ h => h)
  have hn2 : BkG 72 28 12 (fun k => B k ∨ l.ownBlock = some k ∨ (w.heap.size ≤ k ∧ k < w5.heap.size)) (w5.setCell ⟨bb, 3, none⟩ v2) ve ls := by
    refine h4.n.keep (fun g cur T hB hT hh => ?_) (fun k hb => Or.inl hb)
    rw [hset g (fun e => hk.nb (by rw [← e]; exact hB))]
    refine hon.block g (lt_of_some hh) (fun hv => ?_)
    obtain ⟨cur2, h7⟩ := hvt g hv
    rw [h7] at hh
    rcases hT with rfl | rfl <;> simp at hh
  have hb6 : (w5.setCell ⟨bb, 3, none⟩ v2).heap[bb]? = some (.cells #[x, r, .slice none 0 0, v2, .slice none 0 0, .slice none 0 0, ve, .slice none 0 0] 40 (0, 0)) := heap_setCell_same _ _ 3 _ _ v2 h5b
  refine ⟨⟨hb6, hs2, hn2, hnC⟩, ?_⟩
  have o5 : Only (fun k => B k ∨ l.ownBlock = some k ∨ k = bb) w w5 := (h.on.mono (fun _ _ h => Or.inr (Or.inl h))).trans (hon.mono (fun k _ hv => Or.inl (hk.s.inB k hv)))
  exact Only.setCell (S := fun k => B k ∨ l.ownBlock = some k ∨ k = bb) o5 (p := ⟨bb, 3, none⟩) (Or.inl (Or.inr (Or.inr rfl))) _

/-- What ownE leaves. -/
theorem Bks.pushE {wr w5 : World} {l xv v2 : Value} {mb base N cl cx : Nat} {pl px : Option Addr} {c : Int} (hk : Bks B w bb x r vs ss ve ls) (h : OmB enL 72 (enM c) w mb base l N 33 xv wr) (hl : l = .slice pl N cl) (hx : xv = .slice px (N + 33) cx) (hN : N ≤ 2000000) (hc : c = -77 - ((ls.length / 2 : Nat) : Int))
    (hlB : ∀ k, l.ownBlock = some k → ¬ B k ∧ k ≠ bb) (hwm : w.heap.size ≤ mb) (own' : OwnL shL w5 0 28 v2 (ls ++ [(pl, N, cl), (px, N + 33, cx)])) (hon : Only (fun k => ve.ownBlock = some k) wr w5)
    (hg : v2.ownBlock = ve.ownBlock ∨ ∃ g, v2.ownBlock = some g ∧ wr.heap.size ≤ g ∧ Only (fun _ => False) wr w5) :
    ∃ s1 s2, Bks (fun k => B k ∨ l.ownBlock = some k ∨ (w.heap.size ≤ k ∧ k < w5.heap.size)) (w5.setCell ⟨bb, 6, none⟩ v2) bb x r vs ss v2 (ls ++ [s1, s2]) ∧ Only (fun k => B k ∨ l.ownBlock = some k ∨ k = bb) w (w5.setCell ⟨bb, 6, none⟩ v2) := by
  refine ⟨(pl, N, cl), (px, N + 33, cx), ?_⟩
  have h4 : Bks B wr bb x r vs ss ve ls := hk.only h.on (fun k hb hs => (hlB k hs).1 hb) (fun hs => (hlB bb hs).2 rfl)
  have hbl := lt_of_some hk.bl
  have hvb : ∀ k, ve.ownBlock = some k → k ≠ bb := fun k hv e => hk.nb (by rw [← e]; exact hk.n.inB k hv)
  have hvt : ∀ k, ve.ownBlock = some k → ∃ cur, wr.heap[k]? = some (.cells cur 28 (0, 0)) := fun k hv => (h4.n.own.blk hv).2.1
  have h5b : w5.heap[bb]? = some (.cells #[x, r, .slice none 0 0, vs, .slice none 0 0, .slice none 0 0, ve, .slice none 0 0] 40 (0, 0)) := by
    rw [hon.block bb (lt_of_some h4.bl) (fun hv => hvb bb hv rfl)]; exact h4.bl
  have hnC : ¬ (B bb ∨ l.ownBlock = some bb ∨ (w.heap.size ≤ bb ∧ bb < w5.heap.size)) := by
    rintro (h1 | h1 | h1)
    · exact hk.nb h1
    · exact (hlB bb h1).2 rfl
    · omega
  have hC : ∀ k cur, wr.heap[k]? = some (.cells cur 72 (0, 0)) → (l.ownBlock = some k ∨ mb < k) → (B k ∨ l.ownBlock = some k ∨ (w.heap.size ≤ k ∧ k < w5.heap.size)) := fun k cur hkk h2 => by
    rcases h2 with h2 | h2
    · exact Or.inr (Or.inl h2)
    · have h3 := lt_of_some hkk
      have h6 := hon.size
      exact Or.inr (Or.inr ⟨by omega, by omega⟩)
  obtain ⟨m1, m2⟩ := h.marks (by decide) hl hx (by omega) (enM0 c) hC
  have hset : ∀ k, k ≠ bb → (w5.setCell ⟨bb, 6, none⟩ v2).heap[k]? = w5.heap[k]? := fun k hkb => RowKit.Below.heap_setCell _ _ _ _ (fun e => hkb e)
  have hs : BkG 72 28 12 (fun k => B k ∨ l.ownBlock = some k ∨ (w.heap.size ≤ k ∧ k < w5.heap.size)) w5 v2 (ls ++ [(pl, N, cl), (px, N + 33, cx)]) := by
    refine h4.n.push own' (fun k hv => ?_) (fun g cur hCg hh => hon.block g (lt_of_some hh) (fun hv => ?_)) (fun k hb => Or.inl hb) m1 m2 hc
    · rcases hg with hg | ⟨g, hg, hge, _⟩
      · exact Or.inl (hk.n.inB k (by rw [← hg]; exact hv))
      · have h7 := (own'.blk hv).2.1
        obtain ⟨_, h7⟩ := h7
        have h8 := lt_of_some h7
        rw [hg] at hv
        injection hv with hv
        have h9 := h.on.size
        exact Or.inr (Or.inr ⟨by omega, h8⟩)
    · obtain ⟨cur2, h7⟩ := hvt g hv
      rw [h7] at hh
      simp at hh
  have hs2 : BkG 72 28 12 (fun k => B k ∨ l.ownBlock = some k ∨ (w.heap.size ≤ k ∧ k < w5.heap.size)) (w5.setCell ⟨bb, 6, none⟩ v2) v2 (ls ++ [(pl, N, cl), (px, N + 33, cx)]) :=
    hs.keep (fun g cur T hCg _ hh => hset g (fun e => hnC (by rw [← e]; exact hCg))) (fun _ h => h)
  have hn2 : BkG 62 57 2 (fun k => B k ∨ l.ownBlock = some k ∨ (w.heap.size ≤ k ∧ k < w5.heap.size)) (w5.setCell ⟨bb, 6, none⟩ v2) vs ss := by
    refine h4.s.keep (fun g cur T hB hT hh => ?_) (fun k hb => Or.inl hb)
    rw [hset g (fun e => hk.nb (by rw [← e]; exact hB))]
    refine hon.block g (lt_of_some hh) (fun hv => ?_)
    obtain ⟨cur2, h7⟩ := hvt g hv
    rw [h7] at hh
    rcases hT with rfl | rfl <;> simp at hh
  have hb6 : (w5.setCell ⟨bb, 6, none⟩ v2).heap[bb]? = some (.cells #[x, r, .slice none 0 0, vs, .slice none 0 0, .slice none 0 0, v2, .slice none 0 0] 40 (0, 0)) := heap_setCell_same _ _ 6 _ _ v2 h5b
  refine ⟨⟨hb6, hn2, hs2, hnC⟩, ?_⟩
  have o5 : Only (fun k => B k ∨ l.ownBlock = some k ∨ k = bb) w w5 := (h.on.mono (fun _ _ h => Or.inr (Or.inl h))).trans (hon.mono (fun k _ hv => Or.inl (hk.n.inB k hv)))
  exact Only.setCell (S := fun k => B k ∨ l.ownBlock = some k ∨ k = bb) o5 (p := ⟨bb, 6, none⟩) (Or.inl (Or.inr (Or.inr rfl))) _
end Go.Proofs.YtfgdlbclmihghaaDoor

/- Walks of the scripts: ownMaps. -/
import Derived.Test.YtflmobffeeocdaaGreatDoorG9
namespace Go.Proofs.YtflmobffeeocdaaGreatDoor
open Go.ChangeShapes Go.WideShapes Go.ChangeAt Go.RowKit
open Go.Vx

/-- Behind some of its elements have become marks. -/
structure OmA (w : World) (mb base : Nat) (c : Int) (l : Value) (N i : Nat) (wr : World) : Prop where
  ex : ∃ ms, OwnM wr base 104 l ms ∧ ms.length = N ∧ ∀ k, k < i → ms[k]? = some ((0 : Int), c, (0 : Int))
  mk' : wr.heap[mb]? = some (.cells #[.int .u32 0, .int .i64 c, .int .i64 0] 104 (0, 0))
  on : Only (fun k => l.ownBlock = some k) w wr
/-- Behind j marks have been put to its end. -/
structure OmB (w : World) (mb base : Nat) (c : Int) (l : Value) (N j : Nat) (x : Value) (wr : World) : Prop where
  own : OwnM wr base 104 x (List.replicate (N + j) ((0 : Int), c, (0 : Int)))
  lrow : 0 < N → ∃ g cur, (l.ownBlock = some g ∧ ∃ n c', l = .slice (some ⟨g, 0, none⟩) n c') ∧ wr.heap[g]? = some (.cells cur 104 (0, 0)) ∧ ∀ k, k < N → cur[k * 3 + 1]? = some (.int .i64 c)
  mk' : wr.heap[mb]? = some (.cells #[.int .u32 0, .int .i64 c, .int .i64 0] 104 (0, 0))
  on : Only (fun k => l.ownBlock = some k) w wr
  xw : ∀ k, x.ownBlock = some k → l.ownBlock = some k ∨ mb < k
theorem OmA.store {w : World} {mb base g N cl : Nat} {c : Int} {i : Nat} {wr : World} (h : OmA w mb base c (.slice (some ⟨g, 0, none⟩) N cl) N i wr) (hi : i < N) (hmb : g ≠ mb) :
    (∃ x, wr.cell? ⟨g, i * 3, none⟩ = some x) ∧ (∃ x, wr.cell? ⟨g, i * 3 + 1, none⟩ = some x) ∧ (∃ x, wr.cell? ⟨g, i * 3 + 2, none⟩ = some x) ∧ (∀ j, wr.frozen? ⟨g, j, none⟩ = false) ∧ wr.cell? ⟨mb, 0, none⟩ = some (.int .u32 0) ∧ wr.cell? ⟨mb, 1, none⟩ = some (.int .i64 c) ∧ wr.cell? ⟨mb, 2, none⟩ = some (.int .i64 0) ∧
    OmA w mb base c (.slice (some ⟨g, 0, none⟩) N cl) N (i + 1) (((wr.setCell ⟨g, i * 3, none⟩ (.int .u32 0)).setCell ⟨g, i * 3 + 1, none⟩ (.int .i64 c)).setCell ⟨g, i * 3 + 2, none⟩ (.int .i64 0)) := by
  obtain ⟨ms, ho, hn, hm⟩ := h.ex
  have hi' : i < ms.length := by omega
  obtain ⟨c0, c1, c2⟩ := OwnM.at (c := cl) (by rw [hn]; exact ho) i hi'
  obtain ⟨s1, s2⟩ := ho.store hn.symm i hi' ((0 : Int), c, (0 : Int))
  refine ⟨⟨_, c0⟩, ⟨_, c1⟩, ⟨_, c2⟩, fun j => World.ownsRow.frozenAt (show World.ownsRow wr base 104 3 (.slice (some ⟨g, 0, none⟩) ms.length cl) ms.length (flat ms) from by rw [hn]; have := ho; unfold OwnM at this; rw [hn] at this; exact this) j, ?_, ?_, ?_, ⟨⟨ms.set i ((0 : Int), c, (0 : Int)), s1, by simp [hn], fun k hk => ?_⟩, ?_, ?_⟩⟩
  · rw [cell_of_row _ _ 0 _ _ (0, 0) h.mk']; rfl
  · rw [cell_of_row _ _ 1 _ _ (0, 0) h.mk']; rfl
  · rw [cell_of_row _ _ 2 _ _ (0, 0) h.mk']; rfl
  · rw [List.getElem?_set]
    by_cases hki : i = k
    · rw [if_pos hki, if_pos hi']
    · rw [if_neg hki]; exact hm k (by omega)
  · rw [s2.block mb (lt_of_some h.mk') (fun e => hmb e.symm)]; exact h.mk'
  · exact h.on.trans (s2.mono (fun k _ hk => by rw [hk]; rfl))
theorem OmA.fin {w : World} {mb base N cl : Nat} {c : Int} {pl : Option Addr} {wr : World} (h : OmA w mb base c (.slice pl N cl) N N wr) : OmB w mb base c (.slice pl N cl) N 0 (.slice pl N cl) wr := by
  obtain ⟨ms, ho, hn, hm⟩ := h.ex
  have hms : ms = List.replicate N ((0 : Int), c, (0 : Int)) := by
    apply List.ext_getElem?
    intro k
    by_cases hk : k < N
    · rw [hm k hk]; simp [hk]
    · rw [List.getElem?_eq_none (by omega)]; simp [hk]
  refine ⟨by rw [Nat.add_zero, ← hms]; exact ho, fun h0 => ?_, h.mk', h.on, fun k hk => Or.inl hk⟩
  obtain ⟨p, cc, hv, _, _, hp⟩ := ho.form
  obtain ⟨g, hg, _, _⟩ := hp (by omega)
  subst hg
  have e1 : pl = some ⟨g, 0, none⟩ := by simp at hv; exact hv.1
  subst e1
  obtain ⟨cur, hcur, hc⟩ := ho.row
  refine ⟨g, cur, ⟨rfl, _, _, rfl⟩, hcur, fun k hk => ?_⟩
  have := hc k (by omega)
  rw [this]
  subst hms
  simp
theorem OmB.push {w : World} {mb base N cl g cap : Nat} {c : Int} {pl : Option Addr} {j : Nat} {x : Value} {wr wx : World} (h : OmB w mb base c (.slice pl N cl) N j x wr) (hw : mb < wr.heap.size) (ho : OwnM wx base 104 (.slice (some ⟨g, 0, none⟩) (N + j + 1) cap) (List.replicate (N + j) ((0 : Int), c, (0 : Int)) ++ [((0 : Int), c, (0 : Int))]))
    (hg : (x.ownBlock = some g ∧ Only (fun k => k = g) wr wx) ∨ (wr.heap.size < g ∧ Only (fun _ => False) wr wx)) (hlm : ∀ k, (Value.slice pl N cl).ownBlock = some k → k ≠ mb) (hwm : w.heap.size ≤ mb) : OmB w mb base c (.slice pl N cl) N (j + 1) (.slice (some ⟨g, 0, none⟩) (N + j + 1) cap) wx := by
  have hms : List.replicate (N + j) ((0 : Int), c, (0 : Int)) ++ [((0 : Int), c, (0 : Int))] = List.replicate (N + (j + 1)) ((0 : Int), c, (0 : Int)) := by
    rw [← Nat.add_assoc, List.replicate_succ']
  rw [hms] at ho
  have hxm : ∀ k, x.ownBlock = some k → k ≠ mb := fun k hk => by
    rcases h.xw k hk with h1 | h1
    · exact hlm k h1
    · omega
  refine ⟨ho, fun h0 => ?_, ?_, ?_, fun k hk => ?_⟩
  · obtain ⟨gl, cur, hgl, hcur, hc⟩ := h.lrow h0
    rcases hg with ⟨hx, hon⟩ | ⟨_, hon⟩
    · by_cases e : gl = g
      · subst e
        obtain ⟨cur2, hcur2, hc2⟩ := ho.row
        refine ⟨gl, cur2, hgl, hcur2, fun k hk => ?_⟩
        rw [hc2 k (by simp; omega)]
        simp
      · exact ⟨gl, cur, hgl, by rw [hon.block gl (lt_of_some hcur) e]; exact hcur, hc⟩
    · exact ⟨gl, cur, hgl, by rw [hon.block gl (lt_of_some hcur) (fun h => h)]; exact hcur, hc⟩
  · rcases hg with ⟨hx, hon⟩ | ⟨_, hon⟩
    · rw [hon.block mb hw (fun e => hxm g hx e.symm)]; exact h.mk'
    · rw [hon.block mb hw (fun h => h)]; exact h.mk'
  · rcases hg with ⟨hx, hon⟩ | ⟨_, hon⟩
    · refine ⟨hon.os.trans h.on.os, hon.tape.trans h.on.tape, hon.output.trans h.on.output, Nat.le_trans h.on.size hon.size, fun k hk hn => (hon.block k (Nat.lt_of_lt_of_le hk h.on.size) (fun e => ?_)).trans (h.on.block k hk hn)⟩
      rcases h.xw g hx with h1 | h1
      · exact hn (by rw [e]; exact h1)
      · omega
    · exact h.on.trans (hon.mono (fun _ _ h => h.elim))
  · have e : g = k := by simpa [Value.ownBlock] using hk
    subst e
    rcases hg with ⟨hx, _⟩ | ⟨h1, _⟩
    · exact h.xw g hx
    · exact Or.inr (by omega)
/-- What ownMaps leaves. -/
def OmR (B : Nat → Prop) (w : World) (sb : Nat) (v l : Value) (ss : List Value) (w' : World) : Prop := ∃ w4 v' s1 s2, Only (fun k => v.ownBlock = some k ∨ l.ownBlock = some k) w w4 ∧ w' = w4.setCell ⟨sb, 70, none⟩ v' ∧ BkM (fun k => B k ∨ l.ownBlock = some k ∨ (w.heap.size ≤ k ∧ k < w'.heap.size)) w' sb v' (ss ++ [s1, s2])
theorem OmB.fin {B : Nat → Prop} {w wr w5 : World} {mb base N cl sb g cap j : Nat} {c : Int} {pl : Option Addr} {x v : Value} {ss : List Value} (h : OmB w mb base c (.slice pl N cl) N j x wr) (hN : N + j ≤ 3000000) (hk : BkM B wr sb v ss) (hc : c = -77 - ((ss.length / 2 : Nat) : Int))
    (own' : w5.ownsRow 0 86 1 (.slice (some ⟨g, 0, none⟩) (ss.length + 2) cap) (ss.length + 2) (ss ++ [.slice pl N cl, x])) (hg : (v.ownBlock = some g ∧ Only (fun k => k = g) wr w5) ∨ (wr.heap.size < g ∧ Only (fun _ => False) wr w5))
    (hlB : ∀ k, (Value.slice pl N cl).ownBlock = some k → ¬ B k ∧ k ≠ sb) (hsB : ¬ B sb) (hsl : sb < w.heap.size) (hwm : w.heap.size ≤ mb) : OmR B w sb v (.slice pl N cl) ss (w5.setCell ⟨sb, 70, none⟩ (.slice (some ⟨g, 0, none⟩) (ss.length + 2) cap)) := by
  have hs5 : wr.heap.size ≤ w5.heap.size := by rcases hg with ⟨_, ho⟩ | ⟨_, ho⟩ <;> exact ho.size
  have hg5 : g < w5.heap.size := (own'.lt g rfl).2
  have hws : (w5.setCell ⟨sb, 70, none⟩ (.slice (some ⟨g, 0, none⟩) (ss.length + 2) cap)).heap.size = w5.heap.size := by simp [World.setCell]
  have hC : ∀ k cur, wr.heap[k]? = some cur → ((Value.slice pl N cl).ownBlock = some k ∨ mb < k) → (B k ∨ (Value.slice pl N cl).ownBlock = some k ∨ (w.heap.size ≤ k ∧ k < w5.heap.size)) := fun k cur hk h2 => by
    rcases h2 with h2 | h2
    · exact Or.inr (Or.inl h2)
    · have := lt_of_some hk
      exact Or.inr (Or.inr ⟨by omega, by omega⟩)
  refine ⟨w5, _, .slice pl N cl, x, ?_, rfl, ?_⟩
  · rcases hg with ⟨hv, ho⟩ | ⟨_, ho⟩
    · exact (h.on.mono (fun _ _ h => Or.inr h)).trans (ho.mono (fun k _ hk => Or.inl (by rw [hk]; exact hv)))
    · exact (h.on.mono (fun _ _ h => Or.inr h)).trans (ho.mono (fun _ _ h => h.elim))
  · rw [hws]
    refine hk.push own' hg (fun k hk => Or.inl hk) ?_ ?_ ?_ hc ?_
    · rcases hg with ⟨hv, _⟩ | ⟨h1, _⟩
      · exact Or.inl (hk.inB g hv)
      · exact Or.inr (Or.inr ⟨by have := h.on.size; omega, hg5⟩)
    · refine ⟨pl, N, cl, rfl, by omega, fun h0 => ?_⟩
      obtain ⟨gl, cur, ⟨hgl, n', c', hle⟩, hcur, hcc⟩ := h.lrow h0
      exact ⟨gl, cur, by simp at hle; exact hle.1, hC gl _ hcur (Or.inl hgl), hcur, hcc⟩
    · obtain ⟨p, cc, hv, _, _, hp⟩ := h.own.form
      refine ⟨p, _, cc, hv, by simp; omega, fun h0 => ?_⟩
      obtain ⟨gx, hgx, _, _⟩ := hp h0
      subst hgx
      subst hv
      obtain ⟨cur, hcur, hcc⟩ := h.own.row
      refine ⟨gx, cur, rfl, hC gx _ hcur (h.xw gx rfl), hcur, fun k hk => ?_⟩
      rw [hcc k hk]
      simp
    · rintro (h1 | h1 | h1)
      · exact hsB h1
      · exact (hlB sb h1).2 rfl
      · omega
end Go.Proofs.YtflmobffeeocdaaGreatDoor

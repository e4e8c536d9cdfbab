/- Walks of VspaceWalks: what stands between its steps. -/
import Derived.Test.YthcngafjklihcaaDoorJ4
namespace Go.Proofs.YthcngafjklihcaaDoor
open Go.ChangeShapes Go.WideShapes Go.ChangeAt Go.RowKit
open Go.Vx

/-- The memory that G tells, the row that H tells. -/
structure VwR (W : World) (bm hb : Nat) (H G : Nat → Nat × Nat) (wr : World) : Prop where
  m : MemAt (fun k => k < W.heap.size ∨ k = hb) wr bm 12 (laidF G)
  h : HvAt wr hb H
  okH : ∀ v, v < 12 → okE (H v)
  okG : ∀ v, v < 12 → okE (G v)
  be : Below W.heap.size W wr
  us : UsesAt wr
  gl : 0 < W.heap.size
  lb : W.heap.size ≤ hb
theorem VwR.quiet {W : World} {bm hb : Nat} {H G : Nat → Nat × Nat} {wr wx : World} (h : VwR W bm hb H G wr) (ho : Only (fun _ => False) wr wx) : VwR W bm hb H G wx :=
  ⟨h.m.quiet ho, h.h.only ho (fun h => h), h.okH, h.okG, h.be.trans (ho.below h.be.size (fun _ _ h => h)), h.us.only ho (fun h => h), h.gl, h.lb⟩
theorem VwR.start {W w1 : World} {bm : Nat} {H : Nat → Nat × Nat} (hm : MemAt (fun k => k < W.heap.size) w1 bm 12 (laidF H)) (hok : ∀ v, v < 12 → okE (H v)) (hb : Below W.heap.size W w1) (hus : UsesAt W) :
    VwR W bm w1.heap.size H H (w1.alloc (.cells (hvL H).toArray 29)) := by
  have hgl : 0 < W.heap.size := World.block_lt_of_cell? W _ (hus 0 (by decide)).1
  have ho : Only (fun _ => False) w1 (w1.alloc (.cells (hvL H).toArray 29)) := (Only.refl _ _).alloc _
  exact ⟨hm.beside _, ⟨heap_alloc_last _ _⟩, hok, hok, hb.trans (ho.below hb.size (fun _ _ h => h)), (hus.below hb hgl).only ho (fun h => h), hgl, hb.size⟩
theorem okE_upd {H : Nat → Nat × Nat} (h : ∀ v, v < 12 → okE (H v)) (v : Nat) : ∀ i, i < 12 → okE (updH H v (0, 0) i) := fun i hi => by
  unfold updH
  split
  · exact Or.inl rfl
  · exact h i hi
theorem VwR.reached {W : World} {bm hb : Nat} {H : Nat → Nat × Nat} {wr : World} (h : VwR W bm hb H H wr) (v o u : Nat) (hv : v < 12) (ho : o < 4096) (hu : u < 3) (x : Int) :
    Calls Tryd.prog 10 #[.pointer (some ⟨bm, 0, none⟩), .agg #[.int .i64 x, .int .i64 ((H v).1 : Nat), .int .i64 ((H v).2 : Nat)], .int .i64 ((4096 * v + o : Nat) : Int), .int .i64 (u : Int), .int .i64 (rgtN u : Nat), .int .i64 (pageC u : Nat)] wr fun e w' => e = .returned (.bool true) ∧ VwR W bm hb H H w' := by
  refine (reached_any h.m h.us v o u hv ho hu (h.okH v hv) x).mono ?_
  rintro e w' ⟨rfl, ho⟩
  exact ⟨rfl, h.quiet ho⟩
theorem VwR.unmap {W : World} {bm hb : Nat} {H G : Nat → Nat × Nat} {wr : World} (h : VwR W bm hb H G wr) (v : Nat) (hv : v < 12) (he : G v = H v) (hr : (H v).2 ≠ 0) :
    Calls Tryd.prog 11 #[.pointer (some ⟨bm, 0, none⟩), .int .i64 1, .int .u32 ((4096 * v : Nat) : Int), .int .i64 ((H v).1 : Nat)] wr fun e w' => e = .returned (.int .i64 0) ∧ VwR W bm hb H (updH G v (0, 0)) w' := by
  rw [← he] at hr ⊢
  refine (unmap_any h.m 1 (4096 * v) (by omega) ((G v).1 : Int)).mono ?_
  rintro e w' ⟨rfl, hm, ho⟩
  rw [unmapR_laid G v hv (h.okG v hv) hr] at hm ⊢
  have hU : ∀ k, (k < W.heap.size ∨ k = hb) → ¬ ¬ (k < W.heap.size ∨ k = hb) := fun k hk hn => hn hk
  exact ⟨rfl, hm, h.h.only ho (hU _ (Or.inr rfl)), h.okH, okE_upd h.okG v, h.be.trans (ho.below h.be.size (fun k hk => hU k (Or.inl hk))), h.us.only ho (hU _ (Or.inl h.gl)), h.gl, h.lb⟩
theorem VwR.clear {W : World} {bm hb : Nat} {H : Nat → Nat × Nat} {wr : World} (v : Nat) (hv : v < 12) (h : VwR W bm hb H (updH H v (0, 0)) wr) :
    VwR W bm hb (updH H v (0, 0)) (updH H v (0, 0)) (((wr.setCell ⟨hb, v * 3, none⟩ (.int .i64 0)).setCell ⟨hb, v * 3 + 1, none⟩ (.int .i64 0)).setCell ⟨hb, v * 3 + 2, none⟩ (.int .i64 0)) := by
  obtain ⟨s1, s2⟩ := h.h.store v 0 0 hv 0 (by rw [if_pos rfl])
  have hgb := h.gl
  have hlb := h.lb
  exact ⟨h.m.only s2 (fun k hk _ => Or.inr hk), s1, h.okG, h.okG, h.be.trans (s2.below h.be.size (fun k hk hs => by omega)), h.us.only s2 (fun hs => by omega), h.gl, h.lb⟩
/-- The memory behind the first v of them have gone. -/
def goneH (H : Nat → Nat × Nat) (v : Nat) : Nat → Nat × Nat := fun i => if i < v then (0, 0) else H i
theorem gone_zero (H : Nat → Nat × Nat) : goneH H 0 = H := by
  funext i
  unfold goneH
  rw [if_neg (by omega)]
theorem gone_next (H : Nat → Nat × Nat) (v : Nat) : updH (goneH H v) v (0, 0) = goneH H (v + 1) := by
  funext i
  unfold updH goneH
  by_cases h : i = v
  · rw [if_pos h, if_pos (by omega)]
  · rw [if_neg h]
    by_cases h2 : i < v
    · rw [if_pos h2, if_pos (by omega)]
    · rw [if_neg h2, if_neg (by omega)]
theorem gone_same (H : Nat → Nat × Nat) (v : Nat) (h : H v = (0, 0)) : goneH H (v + 1) = goneH H v := by
  funext i
  unfold goneH
  by_cases h2 : i < v
  · rw [if_pos h2, if_pos (by omega)]
  · rw [if_neg h2]
    by_cases h3 : i = v
    · rw [if_pos (by omega), h3, h]
    · rw [if_neg (by omega)]
theorem gone_at (H : Nat → Nat × Nat) (v : Nat) : goneH H v v = H v := by
  unfold goneH
  rw [if_neg (by omega)]
theorem VwR.ends {W : World} {bm hb : Nat} {H : Nat → Nat × Nat} {wr : World} (h : VwR W bm hb H (goneH H 12) wr) :
    Calls Tryd.prog 12 #[.pointer (some ⟨bm, 0, none⟩), .int .i64 1, .int .u32 0, .int .i64 2] wr fun e w' => e = .returned (.int .i64 0) ∧ MemAt (fun k => k < W.heap.size) w' bm 12 (fun _ => 0) ∧ Below W.heap.size W w' := by
  refine (noTable_any h.m 1 0 (by decide) 2).mono ?_
  rintro e w' ⟨rfl, hm, ho⟩
  rw [noTableR_laid] at hm ⊢
  rw [laid_end _ (fun v hv => by unfold goneH; rw [if_pos hv])] at hm
  exact ⟨rfl, hm.weaken (fun k hk => Or.inl hk), h.be.trans (ho.below h.be.size (fun k hk hn => hn (Or.inl hk)))⟩
theorem text_noughts (w : World) : (convert 39 9 (.slice (some ⟨w.heap.size, 0, none⟩) 49152 49152)).run Tryd.prog (w.alloc (.cells (rowV (fun _ => 0) 0 49152).toArray 5)) = .ok (.string ⟨(rowL (fun _ => 0) 0 49152).toArray⟩) (w.alloc (.cells (rowV (fun _ => 0) 0 49152).toArray 5)) := by
  obtain ⟨N, hN⟩ : ∃ N, N = 49152 := ⟨_, rfl⟩
  rw [← hN]
  have hl := length_rowL (fun _ => 0) 0 N
  have h := run_convert_bytes_back (P := Tryd.prog) (w.alloc (.cells (rowV (fun _ => 0) 0 N).toArray 5)) 39 9 5 ⟨w.heap.size, 0, none⟩ N (rowL (fun _ => 0) 0 N) Tryd.underlying39 Tryd.underlying5 Tryd.underlying9 (fun j hj => by
    rw [addr_add, Nat.zero_add, cell_of_row _ _ j _ _ (0, 0) (heap_alloc_last w _)]
    rw [hl] at hj
    have h1 := get_rowV (fun _ => 0) 0 N j hj
    have h2 : (rowL (fun _ => 0) 0 N)[j] = 0 := by
      have := get_rowL (fun _ => 0) 0 N j hj
      rw [List.getElem?_eq_getElem (by rw [hl]; exact hj)] at this
      exact Option.some.inj this
    rw [h2]
    simpa [byteV] using h1)
  rw [hl] at h
  exact h
end Go.Proofs.YthcngafjklihcaaDoor

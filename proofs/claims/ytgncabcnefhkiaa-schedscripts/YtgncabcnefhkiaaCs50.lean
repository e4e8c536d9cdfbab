import Derived.Test.YtgncabcnefhkiaaCs49
/- Chapter 9, the law's own: lent. -/
namespace Go.Proofs.Ytgncabcnefhkiaa
open Go.ChangeShapes Go.WideShapes Go.ChangeAt Go.RowKit
open Go.Vx
set_option linter.unusedVariables false
variable {w w2 : World} {ts : List (Int × Int)}

/-- Turns where they lie, cell by cell. -/
theorem TuAt.cells {pa : Option Addr} (h : TuAt w pa ts) (hpos : 0 < (fl slL ts).length) : ∃ ad, pa = some ad ∧ ∀ j u, (fl slL ts)[j]? = some u → w.cell? (ad.add j) = some u := by
  have hl2 : (fl slL ts).length = ts.length * 2 := length_fl slL ts
  rcases h with h | ⟨ab, ao, h1, h2⟩
  · rw [h] at hl2; rw [h] at hpos; simp only [List.length_nil] at hl2; omega
  · refine ⟨_, h1, fun j u hj => ?_⟩
    have hlt : j < (fl slL ts).length := by
      rcases Nat.lt_or_ge j (fl slL ts).length with h | h
      · exact h
      · rw [List.getElem?_eq_none h] at hj; cases hj
    have hd2 : j / 2 < ts.length := by omega
    have hg := get_fl slL ts (j / 2) (j % 2) hd2 (Nat.mod_lt _ (by decide))
    have e : j / 2 * slL.sz + j % 2 = j := by show j / 2 * 2 + j % 2 = j; omega
    rw [e, hj] at hg
    obtain ⟨a, b⟩ := h2 (j / 2) hd2
    have hadd : (⟨ab, ao, none⟩ : Addr).add j = ⟨ab, ao + j, none⟩ := by unfold Addr.add; split <;> simp_all
    rw [hadd]
    have hm : j % 2 = 0 ∨ j % 2 = 1 := by omega
    rcases hm with hm | hm
    · rw [hm] at hg
      have e2 : ao + j / 2 * 2 = ao + j := by omega
      rw [e2] at a
      rw [a]
      exact hg.symm
    · rw [hm] at hg
      have e2 : ao + j / 2 * 2 + 1 = ao + j := by omega
      rw [e2] at b
      rw [b]
      exact hg.symm
/-- The turns as they are handed in: one behind them, and room. -/
def lentL (ts : List (Int × Int)) (y : Int × Int) : List (Int × Int) := ts ++ [y, (0, 0)]
theorem lent_splice : splice (fl slL (List.replicate (ts.length + 2) ((0, 0) : Int × Int))) 0 (fl slL ts) = fl slL (lentL ts (0, 0)) := by
  have e : List.replicate (ts.length + 2) ((0, 0) : Int × Int) = List.replicate ts.length (0, 0) ++ [(0, 0), (0, 0)] := by
    rw [← List.replicate_append_replicate]; rfl
  have hl : (fl slL ts).length = ts.length * 2 := length_fl slL ts
  have hl2 : (fl slL (List.replicate ts.length ((0, 0) : Int × Int))).length = ts.length * 2 := by rw [length_fl, List.length_replicate]; rfl
  unfold splice lentL
  rw [e, fl_app, fl_app, List.take_zero, List.nil_append, Nat.zero_add, hl, ← hl2, List.drop_left]
theorem lent_ok (w : World) (pa : Option Addr) (len cap : Nat) (hlen : len = ts.length) (hb : len ≤ 10000000000000) (hp : TuAt w pa ts) : Calls Try.prog 6 #[.slice pa len cap] w fun e w' => ∃ g, e = .returned (.slice (some ⟨g, 0, none⟩) len (len + 2)) ∧ w.heap.size ≤ g ∧ w'.heap[g]? = some (.cells (fl slL (lentL ts (7, 999))).toArray 34 (0, 0)) ∧ Only (fun _ => False) w w' := by
  obtain ⟨M, hM⟩ : ∃ M, M = len + 2 := ⟨_, rfl⟩
  have eM : (M : Int) = (len : Int) + 2 := by omega
  have hmk : ∀ wv : World, (Instr.makeSlice 22 (.int .i64 ((len : Int) + 2)) (.int .i64 ((len : Int) + 2))).run Try.prog wv = .ok (.slice (some ⟨wv.heap.size, 0, none⟩) M M) (wv.alloc (.cells (fl slL (List.replicate M ((0, 0) : Int × Int))).toArray 34)) := fun wv => by
    rw [← eM]; exact make_turns M (by omega) wv
  have hwl : IntKind.i64.wrap ((len : Int) + 2) = (len : Int) + 2 := by rw [IntKind.wrap_i64]; omega
  obtain ⟨X, hX⟩ : ∃ X, X = fl slL (List.replicate M ((0, 0) : Int × Int)) := ⟨_, rfl⟩
  rw [← hX] at hmk
  obtain ⟨w1, hw1⟩ : ∃ w1, w1 = w.alloc (.cells X.toArray 34) := ⟨_, rfl⟩
  have ho1 : Only (fun _ => False) w w1 := by rw [hw1]; exact (Only.refl _ w).alloc _
  obtain ⟨G, hG⟩ : ∃ G, G = w.heap.size := ⟨_, rfl⟩
  have hz : w1.heap[G]? = some (.cells X.toArray 34 (0, 0)) := by rw [hw1, hG]; exact heap_alloc_last _ _
  obtain ⟨C, hC⟩ : ∃ C, C = fl slL ts := ⟨_, rfl⟩
  have hCl : C.length = len * 2 := by rw [hC, length_fl, hlen]; rfl
  have hXl : X.length = M * 2 := by rw [hX, length_fl, List.length_replicate]; rfl
  have hmin : Nat.min len M = len := Nat.min_eq_left (by omega)
  have HC1 : Hid (C.length = Nat.min len M * 2) := by show _ = _; rw [hmin, hCl]
  have HC2 : Hid (0 < C.length → (some ⟨G, 0, none⟩ : Option Addr) = some ⟨G, 0, none⟩ ∧ ∃ ad, pa = some ad ∧ ∀ j v, C[j]? = some v → w1.cell? (ad.add j) = some v) := fun h0 => by
    rw [hC] at h0 ⊢
    exact ⟨rfl, (hp.quiet ho1).cells h0⟩
  have HC3 : Hid (0 + C.length ≤ X.length) := by show _ ≤ _; omega
  have HC4 : Hid (∀ v ∈ C, v.oneCell' = true) := fun v hv => by
    rw [hC] at hv
    exact one_fl slL ts v hv
  have HR : Hid (∀ w3, w3 = w1.setRow G (splice X 0 C).toArray → Only (fun _ => False) w w3 ∧ w3.heap[G]? = some (.cells (fl slL (lentL ts (0, 0))).toArray 34 (0, 0))) := fun w3 h3 => by
    subst h3
    have h4 := setRow_heap w1 G _ (splice X 0 C).toArray _ _ hz
    have h5 : splice X 0 C = fl slL (lentL ts (0, 0)) := by rw [hX, hC, hM, hlen]; exact lent_splice
    rw [h5] at h4 ⊢
    exact ⟨ho1.setRow (Or.inr (by omega)) _, h4⟩
  have HFI : Hid (∀ w3 : World, w3.heap[G]? = some (.cells (fl slL (lentL ts (0, 0))).toArray 34 (0, 0)) → (w3.cell? ⟨G, len * 2, none⟩ = some (.int .i64 0) ∧ w3.cell? ⟨G, len * 2 + 1, none⟩ = some (.int .i64 0) ∧ (∀ j, w3.frozen? ⟨G, j, none⟩ = false)) ∧ (((w3.setCell ⟨G, len * 2, none⟩ (.int .i64 7)).setCell ⟨G, len * 2 + 1, none⟩ (.int .i64 999)).heap[G]? = some (.cells (fl slL (lentL ts (7, 999))).toArray 34 (0, 0)))) := fun w3 h3 => by
    have e1 : ∀ y, fl slL (lentL ts y) = fl slL ts ++ [.int .i64 y.1, .int .i64 y.2, .int .i64 0, .int .i64 0] := fun y => by unfold lentL; rw [fl_app]; rfl
    have hl : (fl slL ts).length = len * 2 := by rw [length_fl, hlen]; rfl
    refine ⟨⟨?_, ?_, fun j => by simp [World.frozen?, h3]⟩, ?_⟩
    · rw [cell_of_row _ _ _ _ _ (0, 0) h3, e1, ← hl]
      simp
    · rw [cell_of_row _ _ _ _ _ (0, 0) h3, e1, ← hl]
      simp
    · have h4 := heap_setCell_same _ _ (len * 2) _ _ (.int .i64 7) h3
      have h5 := heap_setCell_same _ _ (len * 2 + 1) _ _ (.int .i64 999) h4
      rw [h5, e1, e1, ← hl]
      simp
  have HZ := Vx.hid hz
  have HGB : Hid (w.heap.size ≤ G) := by show _ ≤ _; omega
  have hidx : 0 ≤ (len : Int) ∧ (len : Int) < (M : Int) := by omega
  have hcut : 0 ≤ (len : Int) ∧ (len : Int) ≤ (M : Int) := by omega
  have HMM := Vx.hid hM
  clear hz hp hC hX hCl hXl hlen hM eM ho1 hb
  go_enter Try.func6, Try.ntmps6
  go_upto_region 2 with fail
  rw [← hw1, ← hG]
  clear hw1 hG hmk
  go_upto_region 3 with (refine Vx.wpList_copy_wide rfl (.tmp 8) (.tmp 9) 22 22 rfl 34 2 Try.underlying22 tu_size (by decide) (some ⟨G, 0, none⟩) pa M M len cap (by simp [Act.eval]) (by simp [Act.eval]) G 0 X 34 HZ.out C HC1.out HC2.out HC3.out HC4.out (fun w3 => w3 = w1.setRow G (splice X 0 C).toArray) rfl ?_; intro w3 hw3; have H3 := Vx.hid (HR.out w3 hw3); clear hw3)
  obtain ⟨⟨t0, t1, tf⟩, hq⟩ := HFI.out w3 H3.out.2
  have f0 := tf (len * 2)
  have f1 := tf (len * 2 + 1)
  have HQ := Vx.hid hq
  clear tf hq
  go_wp2_with fail
  all_goals
    go_ret
    exact ⟨G, by rw [HMM.out]; rfl, HGB.out, HQ.out, (H3.out.1.setCell (Or.inr HGB.out) _).setCell (Or.inr HGB.out) _⟩
end Go.Proofs.Ytgncabcnefhkiaa

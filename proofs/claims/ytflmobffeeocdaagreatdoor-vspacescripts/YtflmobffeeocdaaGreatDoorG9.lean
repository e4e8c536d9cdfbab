/- Walks of the scripts: ownMaps. -/
import Derived.Test.YtflmobffeeocdaaGreatDoorG8
namespace Go.Vx
theorem OwnM.row {w : World} {base g n c : Nat} {e : TypeId} {ms : List (Int × Int × Int)} (h : OwnM w base e (.slice (some ⟨g, 0, none⟩) n c) ms) : ∃ cur, w.heap[g]? = some (.cells cur e (0, 0)) ∧ ∀ (k : Nat) (hk : k < ms.length), cur[k * 3 + 1]? = some (.int .i64 ms[k].2.1) := by
  rcases h.2 with ⟨h', _⟩ | ⟨g', cap', cur, h', _, hg, _, _, _, htake⟩
  · simp at h'
  · simp only [Value.slice.injEq, Option.some.injEq, Addr.mk.injEq, and_true] at h'
    obtain ⟨rfl, _⟩ := h'
    refine ⟨cur, hg, fun k hk => ?_⟩
    have h1 := get_flat ms k 1 hk (by decide)
    rw [← htake, List.getElem?_take, if_pos (by omega)] at h1
    simpa [cells3] using h1
theorem flat_set (ms : List (Int × Int × Int)) (k : Nat) (y : Int × Int × Int) (hk : k < ms.length) : (((flat ms).set (k * 3) (.int .u32 y.1)).set (k * 3 + 1) (.int .i64 y.2.1)).set (k * 3 + 2) (.int .i64 y.2.2) = flat (ms.set k y) := by
  apply List.ext_getElem?
  intro j
  by_cases hj : j < ms.length * 3
  · have hjd : j / 3 < ms.length := by omega
    have ej : j = j / 3 * 3 + j % 3 := by omega
    have h1 := get_flat ms (j / 3) (j % 3) hjd (Nat.mod_lt _ (by decide))
    have h2 := get_flat (ms.set k y) (j / 3) (j % 3) (by simpa using hjd) (Nat.mod_lt _ (by decide))
    rw [← ej] at h1 h2
    rw [h2, List.getElem?_set, List.getElem?_set, List.getElem?_set]
    simp only [List.length_set, length_flat]
    by_cases hq : j / 3 = k
    · have hg : (ms.set k y)[j / 3]'(by simpa using hjd) = y := by simp [hq]
      rw [hg]
      have hc : j % 3 = 0 ∨ j % 3 = 1 ∨ j % 3 = 2 := by omega
      rcases hc with h | h | h
      · rw [if_neg (by omega), if_neg (by omega), if_pos (by omega), if_pos (by omega), h]; rfl
      · rw [if_neg (by omega), if_pos (by omega), if_pos (by omega), h]; rfl
      · rw [if_pos (by omega), if_pos (by omega), h]; rfl
    · have hg : (ms.set k y)[j / 3]'(by simpa using hjd) = ms[j / 3] := by
        rw [List.getElem_set, if_neg (fun e => hq e.symm)]
      rw [hg, if_neg (by omega), if_neg (by omega), if_neg (by omega), h1]
  · rw [List.getElem?_eq_none (by simp [length_flat]; omega), List.getElem?_eq_none (by rw [length_flat, List.length_set]; omega)]
theorem OwnM.store {w : World} {base g c : Nat} {e : TypeId} {ms : List (Int × Int × Int)} {n : Nat} (h : OwnM w base e (.slice (some ⟨g, 0, none⟩) n c) ms) (hn : n = ms.length) (k : Nat) (hk : k < ms.length) (y : Int × Int × Int) :
    OwnM (((w.setCell ⟨g, k * 3, none⟩ (.int .u32 y.1)).setCell ⟨g, k * 3 + 1, none⟩ (.int .i64 y.2.1)).setCell ⟨g, k * 3 + 2, none⟩ (.int .i64 y.2.2)) base e (.slice (some ⟨g, 0, none⟩) n c) (ms.set k y) ∧
    Only (fun b => b = g) w (((w.setCell ⟨g, k * 3, none⟩ (.int .u32 y.1)).setCell ⟨g, k * 3 + 1, none⟩ (.int .i64 y.2.1)).setCell ⟨g, k * 3 + 2, none⟩ (.int .i64 y.2.2)) := by
  subst hn
  have h1 := (World.ownsRow.stored h (k * 3) (.int .u32 y.1)).1
  have h2 := (World.ownsRow.stored h1 (k * 3 + 1) (.int .i64 y.2.1)).1
  have h3 := (World.ownsRow.stored h2 (k * 3 + 2) (.int .i64 y.2.2)).1
  have o1 : Only (fun b => b = g) w (w.setCell ⟨g, k * 3, none⟩ (.int .u32 y.1)) := Only.setCell (S := fun b => b = g) (Only.refl _ w) (Or.inl rfl) _
  have o2 := Only.setCell (S := fun b => b = g) o1 (p := ⟨g, k * 3 + 1, none⟩) (Or.inl rfl) (.int .i64 y.2.1)
  have o3 := Only.setCell (S := fun b => b = g) o2 (p := ⟨g, k * 3 + 2, none⟩) (Or.inl rfl) (.int .i64 y.2.2)
  refine ⟨?_, o3⟩
  rw [flat_set ms k y hk] at h3
  show World.ownsRow _ _ _ _ _ (ms.set k y).length _
  rw [List.length_set]
  exact h3
end Go.Vx
namespace Go.Proofs.YtflmobffeeocdaaGreatDoor
open Go.ChangeShapes Go.WideShapes Go.ChangeAt Go.RowKit
open Go.Vx

/-- append of one mapping onto a list of one's own: where it lies. -/
theorem append_mp2 (w : World) {ops : Array Oper} {rest : List Oper} {o : Oper} {a : Act} {Q : Exit → Act → World → Prop} (hgd : o.guard = none) (s x : Operand)
    (ho : o.op = .call { callee := .builtin .append, args := #[s, x], argTypes := #[86, 86] }) (base : Nat) (v : Value) (ms : List (Int × Int × Int)) (hs : a.eval s = v) (hown : OwnM w base 104 v ms)
    (y : Int × Int × Int) (hx : a.eval x = .slice (some ⟨w.heap.size, 0, none⟩) 1 1) (hlen : ms.length ≤ 3000000) (hbase : base ≤ w.heap.size)
    (h : ∀ g cap w', OwnM w' base 104 (.slice (some ⟨g, 0, none⟩) (ms.length + 1) cap) (ms ++ [y]) → ((v.ownBlock = some g ∧ Only (fun k => k = g) w w') ∨ (w.heap.size < g ∧ Only (fun _ => False) w w')) → wpList Tryz.prog ops Q rest (a.put o.dst (.slice (some ⟨g, 0, none⟩) (ms.length + 1) cap)) w') :
    wpList Tryz.prog ops Q (o :: rest) a (w.alloc (.cells #[.int .u32 y.1, .int .i64 y.2.1, .int .i64 y.2.2] 104)) := by
  obtain ⟨i, hi, hz, hsz, hby⟩ := infoMp
  refine wpList_append_keep _ hgd s x 86 ho base 104 i _ 3 24 Tryz.underlying86 hi hz hsz hby rfl (by decide) v ms.length (flat ms) hs (World.ownsRow.alloc hown _) ⟨w.heap.size, 0, none⟩ 1 1 (cells3 y) hx rfl (fun j u hj => ?_) (fun u hu => oneCell_flat [y] u (by rw [flat_one]; exact hu)) (by decide) (by unfold maxLen; omega) (by omega) (by simp; omega) (fun g cap w' h1 h2 h3 => ?_)
  · rw [addr_add, Nat.zero_add, cell_of_row _ _ j _ _ (0, 0) (heap_alloc_last w _)]
    have hj' : (cells3 y)[j]? = some u := hj
    simpa [cells3] using hj'
  · refine h g cap w' ?_ ?_
    · show w'.ownsRow _ _ _ _ (ms ++ [y]).length (flat (ms ++ [y]))
      rw [flat_app, flat_one, List.length_append]
      exact h1
    · rcases h2 with ⟨h2, h4⟩ | ⟨h2, h4⟩
      · exact Or.inl ⟨h2, Only.grown (((Only.refl (fun k => k = g) w).alloc _)) h4 (fun k hk => Or.inl (Option.some.inj hk).symm)⟩
      · exact Or.inr ⟨by rw [h2]; simp, Only.grown (((Only.refl (fun _ => False) w).alloc _)) h4 (fun k hk => by cases hk)⟩
theorem infoSs : ∃ i, Tryz.prog.info? 86 = some i ∧ i.zero = some (.slice none 0 0) ∧ i.size = 1 ∧ i.bytes = 24 := by
  have h : (Tryz.prog.info? 86).map (fun i => (i.zero, i.size, i.bytes)) = some (some (.slice none 0 0), 1, 24) := by kernel_rfl
  cases hq : Tryz.prog.info? 86 with
  | none => rw [hq] at h; simp at h
  | some i =>
    rw [hq] at h
    simp only [Option.map_some, Option.some.injEq, Prod.mk.injEq] at h
    exact ⟨i, rfl, h.1, h.2.1, h.2.2⟩
/-- append of two lists to the book. -/
theorem append_ss (w : World) {ops : Array Oper} {rest : List Oper} {o : Oper} {a : Act} {Q : Exit → Act → World → Prop} (hgd : o.guard = none) (s x : Operand)
    (ho : o.op = .call { callee := .builtin .append, args := #[s, x], argTypes := #[37, 37] }) (v : Value) (ss : List Value) (hs : a.eval s = v) (hown : w.ownsRow 0 86 1 v ss.length ss)
    (s1 s2 : Value) (h1c : s1.oneCell' = true) (h2c : s2.oneCell' = true) (hx : a.eval x = .slice (some ⟨w.heap.size, 0, none⟩) 2 2) (hlen : ss.length ≤ 1000000)
    (h : ∀ g cap w', w'.ownsRow 0 86 1 (.slice (some ⟨g, 0, none⟩) (ss.length + 2) cap) (ss.length + 2) (ss ++ [s1, s2]) → ((v.ownBlock = some g ∧ Only (fun k => k = g) w w') ∨ (w.heap.size < g ∧ Only (fun _ => False) w w')) → wpList Tryz.prog ops Q rest (a.put o.dst (.slice (some ⟨g, 0, none⟩) (ss.length + 2) cap)) w') :
    wpList Tryz.prog ops Q (o :: rest) a (w.alloc (.cells #[s1, s2] 86)) := by
  obtain ⟨i, hi, hz, hsz, hby⟩ := infoSs
  refine wpList_append_keep _ hgd s x 37 ho 0 86 i _ 1 24 Tryz.underlying37 hi hz hsz hby rfl (by decide) v ss.length ss hs (World.ownsRow.alloc hown _) ⟨w.heap.size, 0, none⟩ 2 2 [s1, s2] hx rfl (fun j u hj => ?_) (fun u hu => ?_) (by decide) (by unfold maxLen; omega) (by omega) (Nat.zero_le _) (fun g cap w' h1 h2 h3 => ?_)
  · rw [addr_add, Nat.zero_add, cell_of_row _ _ j _ _ (0, 0) (heap_alloc_last w _)]
    simpa using hj
  · simp only [List.mem_cons, List.not_mem_nil, or_false] at hu
    rcases hu with rfl | rfl
    · exact h1c
    · exact h2c
  · refine h g cap w' h1 ?_
    rcases h2 with ⟨h2, h4⟩ | ⟨h2, h4⟩
    · exact Or.inl ⟨h2, Only.grown (((Only.refl (fun k => k = g) w).alloc _)) h4 (fun k hk => Or.inl (Option.some.inj hk).symm)⟩
    · exact Or.inr ⟨by rw [h2]; simp, Only.grown (((Only.refl (fun _ => False) w).alloc _)) h4 (fun k hk => by cases hk)⟩
theorem BkM.push {B C : Nat → Prop} {w4 w5 : World} {sb g cap : Nat} {v s1 s2 : Value} {ss : List Value} {c : Int} (hk : BkM B w4 sb v ss) (own' : w5.ownsRow 0 86 1 (.slice (some ⟨g, 0, none⟩) (ss.length + 2) cap) (ss.length + 2) (ss ++ [s1, s2]))
    (hg : (v.ownBlock = some g ∧ Only (fun k => k = g) w4 w5) ∨ (w4.heap.size < g ∧ Only (fun _ => False) w4 w5)) (hBC : ∀ k, B k → C k) (hC : C g) (h1 : MkAt C w4 c s1) (h2 : MkAt C w4 c s2) (hc : c = -77 - ((ss.length / 2 : Nat) : Int)) (hCsb : ¬ C sb) :
    BkM C (w5.setCell ⟨sb, 70, none⟩ (.slice (some ⟨g, 0, none⟩) (ss.length + 2) cap)) sb (.slice (some ⟨g, 0, none⟩) (ss.length + 2) cap) (ss ++ [s1, s2]) := by
  have hsg : sb ≠ g := fun e => hCsb (by rw [e]; exact hC)
  have hsl : sb < w4.heap.size := World.block_lt_of_cell? w4 ⟨sb, 68, none⟩ hk.c0
  have hs45 : w5.heap[sb]? = w4.heap[sb]? := by
    rcases hg with ⟨_, ho⟩ | ⟨_, ho⟩
    · exact ho.block sb hsl hsg
    · exact ho.block sb hsl (fun h => h)
  have hcell : ∀ j, w5.cell? ⟨sb, j, none⟩ = w4.cell? ⟨sb, j, none⟩ := fun j => World.cell?_of_block (a := ⟨sb, j, none⟩) hs45
  have hmk : ∀ g' cur, C g' → w4.heap[g']? = some (.cells cur 104 (0, 0)) → (w5.setCell ⟨sb, 70, none⟩ (.slice (some ⟨g, 0, none⟩) (ss.length + 2) cap)).heap[g']? = w4.heap[g']? := fun g' cur hCg hh => by
    have hl := lt_of_some hh
    have hne : g' ≠ sb := fun e => hCsb (by rw [← e]; exact hCg)
    rw [RowKit.Below.heap_setCell _ _ _ _ (fun e => hne e)]
    rcases hg with ⟨hv, ho⟩ | ⟨_, ho⟩
    · refine ho.block g' hl (fun e => ?_)
      rcases hk.own.2 with ⟨hv2, _⟩ | ⟨g2, cap2, cur2, hv2, _, hg2, _⟩
      · rw [hv2] at hv; cases hv
      · rw [hv2] at hv
        have e2 : g2 = g := by simpa [Value.ownBlock] using hv
        rw [e2, ← e, hh] at hg2
        simp at hg2
    · exact ho.block g' hl (fun h => h)
  have hot : ∀ j, j ≠ 70 → (w5.setCell ⟨sb, 70, none⟩ (.slice (some ⟨g, 0, none⟩) (ss.length + 2) cap)).cell? ⟨sb, j, none⟩ = w4.cell? ⟨sb, j, none⟩ := fun j hj => by
    rw [World.cell?_setCell_other _ _ _ _ (by intro e; injection e with _ e2; exact hj (by omega)), hcell]
  have hlen : (ss ++ [s1, s2]).length = ss.length + 2 := by simp
  refine ⟨?_, fun k hk => by have : g = k := by simpa [Value.ownBlock] using hk
                             rw [← this]; exact hC, fun i hi => ?_, by rw [hlen]; have := hk.even; omega, by rw [hot _ (by decide)]; exact hk.c0, by rw [hot _ (by decide)]; exact hk.c1, ?_, by rw [hot _ (by decide)]; exact hk.c3, by rw [hot _ (by decide)]; exact hk.c4, by rw [hot _ (by decide)]; exact hk.c5⟩
  · rw [hlen]
    refine ⟨own'.1, own'.2.imp (fun h => h) (fun ⟨g2, cap2, cur2, a, b, c2, d⟩ => ⟨g2, cap2, cur2, a, b, ?_, d⟩)⟩
    have e2 : g = g2 := by simp at a; exact a.1
    subst e2
    rw [RowKit.Below.heap_setCell _ _ _ _ (fun e => hsg e.symm)]
    exact c2
  · rw [hlen] at hi
    by_cases h0 : i < ss.length
    · rw [List.getElem_append_left h0]
      exact (hk.marks i h0).keep (fun g' cur hB hh => hmk g' cur (hBC _ hB) hh) hBC
    · have he := hk.even
      have hi2 : i / 2 = ss.length / 2 := by omega
      rw [hi2, ← hc]
      by_cases h3 : i = ss.length
      · subst h3
        rw [List.getElem_append_right (Nat.le_refl _)]
        simp only [Nat.sub_self]
        exact h1.keep hmk (fun _ h => h)
      · have h4 : i = ss.length + 1 := by omega
        subst h4
        rw [List.getElem_append_right (by omega)]
        simp only [show ss.length + 1 - ss.length = 1 by omega]
        exact h2.keep hmk (fun _ h => h)
  · exact World.cell?_setCell_same _ _ _ ((hcell 70).trans hk.c2)
end Go.Proofs.YtflmobffeeocdaaGreatDoor

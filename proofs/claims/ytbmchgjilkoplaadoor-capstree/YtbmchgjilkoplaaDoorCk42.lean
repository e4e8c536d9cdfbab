import Derived.Test.YtbmchgjilkoplaaDoorCk41
/- Chapter 7, the program's comers. -/
namespace Go.Proofs.YtbmchgjilkoplaaDoor
open Go.ChangeShapes Go.WideShapes Go.ChangeAt Go.RowKit Go.Shelf
open Go.Vx
set_option linter.unusedVariables false
attribute [local go_sem] Oper.semAt_some
variable {U : Nat → Prop} {w : World} {xb mb : Nat} {D : DataW Value} {G : Int → Nat} {bs : List (Int × Int)} {es : List En} {Q : Sl → Pl}

theorem wpListIn_append_run {F : Fence} {n : Nat} {P : Program} {w : World} {ops : Array Oper} {rest : List Oper} {o : Oper} {a : Act} {Q : Exit → Act → World → Prop}
    (hg : o.guard = none) (s x : Operand) (t : TypeId) (hop : o.op = Op.call { callee := Callee.builtin Builtin.append, args := #[s, x], argTypes := #[t, t] })
    (v xv v2 : Value) (w2 : World) (hs : a.eval s = v) (hx : a.eval x = xv) (hrun : (Builtin.append_ #[t, t] o.type #[v, xv]).run P w = .ok v2 w2) (hK : wpListIn F n P ops Q rest (a.put o.dst v2) w2) :
    wpListIn F n P ops Q (o :: rest) a w := by
  refine wpListIn_plain hg fun K hK' => ?_
  unfold Oper.wpIn
  refine ⟨?_, ?_⟩
  · simp [Oper.about, hop, resolve, Target.leads, Sem.run_pure]
  · rw [Oper.semAt_plain F _ _ (by rw [hop]; intro c hc'; cases hc')]
    simp [execOp, hop, resolve, invoke, builtin, hs, hx, hrun, Result.andThen]
    exact hK' _ _ hK
theorem cells_of_own {α : Type} {L : Lay α} {W : World} {base k : Nat} {e : TypeId} {v : Value} {xs : List α} (h : OwnL L W base e v xs) (hk : v.ownBlock = some k) {o : Obj} (ho : W.heap[k]? = some o) : o.isCells = true := by
  obtain ⟨cur, hc⟩ := own_tag h hk
  rw [hc] at ho
  injection ho with ho
  subst ho
  rfl
theorem only_of_row {W W2 : World} {row : Option Nat} (hg : W.grownBy W2 row) : Only (fun k => row = some k) W W2 := ⟨hg.os, hg.tape, hg.output, hg.size, fun k hk hn => hg.block k hk (fun e => hn e.symm)⟩
theorem CoR.grow {w0 : World} {mx cb n B : Nat} {Dc : DataW Value} {V : Sl → Value} {pre : List En} {W W2 : World} {row : Option Nat} (h : CoR w0 mx cb n Dc V pre W) (hg : W.grownBy W2 row) (hr : ∀ r, row = some r → B ≤ r ∧ ∃ o : Obj, W.heap[r]? = some o ∧ o.isCells = false) (hB : cb < B) (hB0 : w0.heap.size ≤ B) : CoR w0 mx cb n Dc V pre W2 := by
  have ho := only_of_row hg
  refine ⟨Only.beyond h.on ho (fun k hk => Nat.le_trans hB0 (hr k hk).1), ?_, ownsS_only h.m ho (fun e => by have := (hr cb e).1; omega), h.at', fun s => (h.ow s).kept ho (fun k hk e => ?_), h.dj, h.ge, h.le⟩
  · rw [ho.block mx (lt_of_some h.bx) (fun e => by
      obtain ⟨_, o, ho1, ho2⟩ := hr mx e
      rw [h.bx] at ho1
      injection ho1 with ho1
      subst ho1
      cases ho2)]
    exact h.bx
  · obtain ⟨_, o, ho1, ho2⟩ := hr k e
    rw [cells_of_own (h.ow s) hk ho1] at ho2
    cases ho2
/-- What stands between the rounds. -/
structure CoI (w0 : World) (mx cb Bs g N : Nat) (sv : Value) (cg : Array Value) (pre : List En) (W : World) : Prop where
  co : ∃ n Dc V, CoR w0 mx cb n Dc V pre W
  bs : W.heap[Bs]? = some (.cells #[sv] 28 (0, 0))
  gg : 0 < N → W.heap[g]? = some (.cells cg 72 (0, 0))
theorem CoI.grow {w0 : World} {mx cb Bs g N B : Nat} {sv : Value} {cg : Array Value} {pre : List En} {W W2 : World} {row : Option Nat} (h : CoI w0 mx cb Bs g N sv cg pre W) (hg : W.grownBy W2 row) (hr : ∀ r, row = some r → B ≤ r ∧ ∃ o : Obj, W.heap[r]? = some o ∧ o.isCells = false) (hB : cb < B) (hB0 : w0.heap.size ≤ B) : CoI w0 mx cb Bs g N sv cg pre W2 := by
  have ho := only_of_row hg
  have hcell : ∀ k c t, W.heap[k]? = some (.cells c t (0, 0)) → ¬ (row = some k) := fun k c t hk e => by
    obtain ⟨_, o, ho1, ho2⟩ := hr k e
    rw [hk] at ho1
    injection ho1 with ho1
    subst ho1
    cases ho2
  obtain ⟨n, Dc, V, hco⟩ := h.co
  exact ⟨⟨n, Dc, V, hco.grow hg hr hB hB0⟩, by rw [ho.block Bs (lt_of_some h.bs) (hcell _ _ _ h.bs)]; exact h.bs, fun hN => by rw [ho.block g (lt_of_some (h.gg hN)) (hcell _ _ _ (h.gg hN))]; exact h.gg hN⟩
/-- The entries, numbered. -/
def enumB (es : List En) (h : ∀ e ∈ es, SlI e.from') : List BkE := List.ofFn (n := es.length) fun i => ((i.1 : Int), ⟨es[i.1], h _ (List.getElem_mem i.2)⟩)
theorem enumB_len (es : List En) (h : ∀ e ∈ es, SlI e.from') : (enumB es h).length = es.length := by simp [enumB]
theorem enumB_at (es : List En) (h : ∀ e ∈ es, SlI e.from') (k : Nat) (hk : k < (enumB es h).length) : (enumB es h)[k].1 = (k : Int) ∧ (enumB es h)[k].2.1 = es[k]'(by rw [enumB_len] at hk; exact hk) := by
  simp [enumB]
theorem enumB_map (es : List En) (h : ∀ e ∈ es, SlI e.from') : (enumB es h).map (·.2.1) = es := by
  apply List.ext_getElem
  · simp [enumB]
  · intro i h1 h2
    rw [List.getElem_map, (enumB_at es h i (by rw [List.length_map] at h1; exact h1)).2]
set_option maxRecDepth 100000 in
set_option maxHeartbeats 2000000 in
theorem comers_ok (hc : XcAt U w xb bs es) (hsl : ∀ e ∈ es, SlI e.from') : Calls Tryd.prog 53 #[.pointer (some ⟨xb, 0, none⟩)] w fun e w' => ∃ mx cb n Dc V, e = .returned (.map (some cb)) ∧ CoR w mx cb n Dc V es.reverse w' := by
  have hmm := @run_makeMap Tryd.prog
  refine (callsIn_wide (n := 6)).1 ?_
  have hf1 : Fence.wide.fn 15 := trivial
  have hf2 : Fence.wide.fn 73 := trivial
  obtain ⟨w2, hw2⟩ : ∃ w2, w2 = (w.alloc (.map #[] 0)).alloc (.cells #[.map (some w.heap.size)] 109) := ⟨_, rfl⟩
  have ho2 : Only (fun _ => False) w w2 := by rw [hw2]; exact ((Only.refl _ w).alloc _).alloc _
  have HEN := Vx.hid (xentries_ok (hc.quiet ho2))
  have HO2 := Vx.hid ho2
  have hln : es.length ≤ 1000000 := by obtain ⟨_, _, _, _, _, _, h⟩ := hc; exact h
  clear ho2 hc
  refine callsIn_of_wp_marks Tryd.func53 rfl trivial ?_ rfl
  simp only [Tryd.ntmps53, List.size_toArray, List.length_cons, List.length_nil, Nat.reduceAdd, Nat.reduceSub, Array.replicate_succ, Array.replicate_zero, List.push_toArray, List.append_toArray, List.nil_append, List.cons_append]
  gi_wp2
  rw [← hw2]
  refine (callsIn_wide.2 HEN.out).mono ?_
  rintro e w3 ⟨ev, rfl, hev, ho3⟩
  obtain ⟨ep, ec, hevf, _, _, heg⟩ := hev.form
  obtain ⟨N, hN⟩ : ∃ N, N = es.length := ⟨_, rfl⟩
  rw [← hN] at hevf
  subst hevf
  have HEV := Vx.hid (⟨hev, ho3, heg, hN⟩ : _ ∧ _ ∧ _ ∧ _)
  clear hev ho3 heg hN HEN
  gi_wp2
  refine (back_in Fence.wide 5 trivial rfl ep N ec w3).mono ?_
  rintro e w4 ⟨rfl, hw4⟩
  have HW4 := Vx.hid hw4
  clear hw4
  gi_wp2
  have hns : 0 < es.length → ∃ g, ep = some ⟨g, 0, none⟩ := fun h => by
    obtain ⟨g, h1, _⟩ := HEV.out.2.2.1 h
    exact ⟨g, h1⟩
  obtain ⟨g, hg⟩ : ∃ g, 0 < es.length → ep = some ⟨g, 0, none⟩ := by
    by_cases h0 : 0 < es.length
    · obtain ⟨g, hg⟩ := hns h0
      exact ⟨g, fun _ => hg⟩
    · exact ⟨0, fun h => absurd h h0⟩
  clear hns
  obtain ⟨hev, ho3, heg, hN⟩ := HEV.out
  have ho4 : Only (fun _ => False) w3 w4 := by rw [HW4.out]; exact (Only.refl _ w3).alloc _
  have hBl : w4.heap[w3.heap.size]? = some (.cells #[.slice ep N ec] 28 (0, 0)) := by rw [HW4.out]; exact heap_alloc_last w3 _
  have hev4 := hev.kept ho4 (fun _ _ h => h)
  obtain ⟨cg, hcg⟩ : ∃ cg, 0 < es.length → w4.heap[g]? = some (.cells cg 72 (0, 0)) := by
    by_cases h0 : 0 < es.length
    · obtain ⟨cur, hc⟩ := own_tag hev4 (k := g) (by rw [hg h0]; rfl)
      exact ⟨cur, fun _ => hc⟩
    · exact ⟨#[], fun h => absurd h h0⟩
  have hmx2 : w2.heap[w.heap.size + 1]? = some (.cells #[.map (some w.heap.size)] 109 (0, 0)) := by
    rw [hw2]
    have := heap_alloc_last (w.alloc (.map #[] 0)) (.cells #[.map (some w.heap.size)] 109)
    simpa using this
  have hm2 : w2.ownsMap Tryd.prog 62 RH w.heap.size 0 (.map []) := by rw [hw2]; exact (World.ownsMap_made w Tryd.prog 62 RH).alloc _
  have ho24 := ho3.trans ho4
  have hC0 : CoR w (w.heap.size + 1) w.heap.size 0 (.map []) (fun _ => .slice none 0 0) [] w4 := ⟨HO2.out.trans ho24, by rw [ho24.block _ (lt_of_some hmx2) (fun h => h)]; exact hmx2, ownsS_only hm2 ho24 (fun h => h), fun s _ => rfl, fun s => OwnL.nil _ _ _ _, fun s t k h => (by cases h), ⟨by omega, Nat.le_refl _⟩, Nat.le_refl _⟩
  have hsz : w.heap.size + 2 ≤ w3.heap.size := by
    have h1 := ho3.size
    have h2 : w2.heap.size = w.heap.size + 2 := by rw [hw2]; simp
    omega
  have hsz4 : w3.heap.size < w4.heap.size := lt_of_some hBl
  have hE12 : ∀ (k : Nat) (hk : k < es.length), E12 w4 g k es[k] := fun k hk => by
    have h0 := hg (by omega)
    have := hev4
    rw [h0] at this
    exact own_e12 this k hk
  obtain ⟨xs, hxs⟩ : ∃ xs, xs = enumB es hsl := ⟨_, rfl⟩
  have hxl : xs.length = es.length := by rw [hxs]; exact enumB_len es hsl
  have hxm : xs.map (·.2.1) = es := by rw [hxs]; exact enumB_map es hsl
  have hseq := back_stops Fence.wide 5 trivial rfl (by omega) w3.heap.size g ec xs (fun k hk => by subst hxs; exact (enumB_at es hsl k hk).1) (by rw [hxl]; exact hln) ep (fun h => hg (by omega)) (fun b => b = w3.heap.size ∨ (0 < es.length ∧ b = g)) (Or.inl rfl) (fun h => Or.inr ⟨by omega, rfl⟩) w4 hsz4 (fun h => lt_of_some (hcg (by omega))) (by rw [hxl, ← hN]; exact (cell_of_row _ _ 0 _ _ (0, 0) hBl).trans rfl) (fun k hk => by
    have h1 := hE12 k (by omega)
    have h2 : xs[k].2.1 = es[k]'(by omega) := by subst hxs; exact (enumB_at es hsl k hk).2
    rw [h2]
    exact h1)
  have hglt : 0 < es.length → g < w4.heap.size := fun h => lt_of_some (hcg h)
  obtain ⟨cb, hcb⟩ : ∃ cb, cb = w.heap.size := ⟨_, rfl⟩
  obtain ⟨mx, hmx⟩ : ∃ mx, mx = w.heap.size + 1 := ⟨_, rfl⟩
  obtain ⟨Bs, hBs⟩ : ∃ Bs, Bs = w3.heap.size := ⟨_, rfl⟩
  rw [← hmx, ← hcb] at hC0
  rw [← hBs] at hseq hBl hsz4
  rw [← hmx, ← hcb, ← hBs]
  have hB1 : cb < w4.heap.size := by omega
  have hB0 : w.heap.size ≤ w4.heap.size := by omega
  have HC0 : Hid (CoI w mx cb Bs g es.length (.slice ep N ec) cg [] w4) := ⟨⟨_, _, _, hC0⟩, hBl, hcg⟩
  have HXM := Vx.hid (⟨hxl, hxm, hln⟩ : _ ∧ _ ∧ _)
  have HGL := Vx.hid hglt
  have HNN := Vx.hid hN
  clear hN hC0 hBl hcg hE12 hev hev4 ho3 ho4 ho24 heg hm2 hmx2 hcb hmx hBs hxs hg HEV HW4 hw2 hxl hxm hln hglt
  refine wpIn_rangeFunc_ownH (α := BkE) rfl (by omega) (gf := 81) (lb := #[.pointer (some ⟨Bs, 0, none⟩)]) rfl trivial (enters_of Tryd.func81 (by kernel_rfl) rfl)
    hseq (fun {A B C} h k => Kq.trans h k) ?hKb (Below.refl _ _) (fun x => rfl)
    (fun (pre : List BkE) W => CoI w mx cb Bs g es.length (.slice ep N ec) cg (pre.map (fun x : BkE => x.2.1)) W) (fun _ _ _ => False)
    (by intro pre W W2 row hs hg hr; exact CoI.grow hs hg hr hB1 hB0) (fun _ _ _ _ _ h _ _ => h) HC0.out
    (fun x a2 W => ∃ Bx, W.heap[Bx]? = some (.cells #[.int .i64 x.2.1.at'.1, .int .i64 x.2.1.at'.2, .int .i64 x.2.1.cap.kind, .int .i64 x.2.1.cap.num, .int .i64 x.2.1.cap.rights, .int .u32 x.2.1.cap.badge, .int .u32 x.2.1.cap.guard, .int .i64 x.2.1.cap.gbits, .int .i64 x.2.1.cap.root, .int .u32 x.2.1.cap.va, .int .i64 x.2.1.from'.1, .int .i64 x.2.1.from'.2] 72 (0, 0)) ∧ a2 = { tmps := #[.pointer (some ⟨xb, 0, none⟩), undef, .map none, .pointer (some ⟨mx, 0, none⟩), undef, .pointer (some ⟨Bx, 0, none⟩), .map (some cb), .pointer (some ⟨xb, 0, none⟩), .slice ep N ec, .func (.func 81) #[] #[.pointer (some ⟨Bs, 0, none⟩)], .int .i64 x.1, .agg #[.int .i64 x.2.1.at'.1, .int .i64 x.2.1.at'.2, .int .i64 x.2.1.cap.kind, .int .i64 x.2.1.cap.num, .int .i64 x.2.1.cap.rights, .int .u32 x.2.1.cap.badge, .int .u32 x.2.1.cap.guard, .int .i64 x.2.1.cap.gbits, .int .i64 x.2.1.cap.root, .int .u32 x.2.1.cap.va, .int .i64 x.2.1.from'.1, .int .i64 x.2.1.from'.2], undef, undef, undef, undef, undef, undef, undef, undef, undef, undef, undef], defers := [] }) ?hAx ?assign ?body ?done ?stop
  case hKb =>
    intro W l o o2 hl _ _ _ b hb
    have hne : b ≠ l := by
      rcases hb with rfl | ⟨h0, rfl⟩
      · omega
      · have := HGL.out h0; omega
    exact World.putObj_heap_other hne
  case hAx =>
    rintro x a2 u W W2 row ⟨Bx, hBx, rfl⟩ hg hr
    refine ⟨Bx, ?_, rfl⟩
    have ho := only_of_row hg
    rw [ho.block Bx (lt_of_some hBx) (fun e => by
      obtain ⟨_, o, ho1, ho2⟩ := hr Bx e
      rw [hBx] at ho1
      injection ho1 with ho1
      subst ho1
      cases ho2)]
    exact hBx
  case assign =>
    rintro l pre x W K hi hK
    obtain ⟨xi, ⟨⟨⟨a1, a2⟩, ⟨d0, d1, d2, d3, d4, d5, d6, d7⟩, ⟨f1, f2⟩⟩, hf⟩⟩ := x
    unfold bkV
    dsimp only
    gi_wp2
    refine hK _ _ ((KeepsOthers.alloc _ _).from _) (fun b hb => Below.heap_alloc W _ b ?_) (CoI.grow (B := w4.heap.size) hi (World.grownBy_alloc W _ none) (fun r e => by cases e) hB1 hB0) ⟨W.heap.size, heap_alloc_last W _, rfl⟩
    rcases hb with rfl | ⟨h0, rfl⟩
    · exact lt_of_some hi.bs
    · exact lt_of_some (hi.gg h0)
  case body =>
    rintro l pre x a2 W hl ⟨r, hr⟩ hI ⟨Bx, hBx, rfl⟩ hlt
    have HI := Vx.hid hI
    obtain ⟨n, Dc, V, hco⟩ := hI.co
    obtain ⟨xi, ⟨⟨⟨a1, a2⟩, ⟨d0, d1, d2, d3, d4, d5, d6, d7⟩, ⟨f1, f2⟩⟩, hf⟩⟩ := x
    obtain ⟨v0, st, W3, v1, W4, W5, Dd, V2, ⟨p0, l0, c0, rfl⟩, ⟨p1, l1, c1, rfl⟩, hr1, hr2, hr3, hco5, ho5⟩ := hco.step ⟨(a1, a2), ⟨d0, d1, d2, d3, d4, d5, d6, d7⟩, (f1, f2)⟩ hf (by rw [List.length_map]; have := HXM.out; omega)
    have hcell : W.cell? ⟨mx, 0, none⟩ = some (.map (some cb)) := (cell_of_row _ _ 0 _ _ (0, 0) hco.bx).trans rfl
    dsimp only at hBx hr1 hr2 hr3 ⊢
    obtain ⟨⟨e0, e1, e2, e3, e4, e5, e6, e7, e8, e9, e10, e11⟩, _⟩ := entry_cells hBx
    have HCO := Vx.hid hco
    have HC5 := Vx.hid hco5
    have HO5 := Vx.hid ho5
    have HR2 := Vx.hid hr2
    clear hI hco hco5 ho5 e2 e3 e4 e5 e6 e7 e8 e9 hBx hr hl hr2
    gi_wp2_with (gi_at_builtin; refine wpListIn_append_run rfl _ _ 57 rfl _ _ _ _ rfl rfl HR2.out ?_)
    have hkq : ∀ (b : Nat) (c : Array Value) (t : TypeId), W.heap[b]? = some (.cells c t (0, 0)) → t ≠ 62 → W5.heap[b]? = W.heap[b]? := fun b c t hb ht => HO5.out.block b (lt_of_some hb) (fun e => by
      rcases e with e | e
      · exact map_neS hb HCO.out.m e
      · obtain ⟨cur, hc⟩ := own_tag (HCO.out.ow _) e
        exact tag_ne hb hc ht rfl)
    have hk1 := hkq Bs _ _ HI.out.bs (by decide)
    have hk2 : 0 < es.length → W5.heap[g]? = W.heap[g]? := fun h0 => hkq g _ _ (HI.out.gg h0) (by decide)
    refine (show KeepsFrom w4.heap.size W W5 ∧ Kq (fun b => b = Bs ∨ 0 < es.length ∧ b = g) W W5 ∧ CoI w mx cb Bs g es.length (.slice ep N ec) cg (List.map (fun x : BkE => x.2.1) (pre ++ [(xi, ⟨⟨(a1, a2), ⟨d0, d1, d2, d3, d4, d5, d6, d7⟩, (f1, f2)⟩, hf⟩)])) W5 from ⟨⟨HO5.out.size, fun k o hBk hk hoc => ?_⟩, fun b hb => ?_, ⟨⟨n + 1, Dd, V2, ?_⟩, by rw [hk1]; exact HI.out.bs, fun h0 => by rw [hk2 h0]; exact HI.out.gg h0⟩⟩)
    · rw [HO5.out.block k (lt_of_some hk) (fun e => by
        rcases e with e | e
        · omega
        · rw [cells_of_own (HCO.out.ow _) e hk] at hoc
          cases hoc)]
      exact hk
    · rcases hb with rfl | ⟨h0, rfl⟩
      · exact hk1
      · exact hk2 h0
    · rw [List.map_append]
      exact HC5.out
  case done =>
    rintro D ys W hD rfl hI hK
    obtain ⟨n, Dc, V, hco⟩ := hI.co
    have hcell : W.cell? ⟨mx, 0, none⟩ = some (.map (some cb)) := (cell_of_row _ _ 0 _ _ (0, 0) hco.bx).trans rfl
    gi_wp2
    refine ⟨by simp, .inl ⟨_, _, rfl, run_takeDeferred hK, ?_⟩⟩
    refine ⟨_, results_tmp rfl _ _ _, mx, cb, n, Dc, V, rfl, ?_⟩
    have h1 := hco.grow (B := w4.heap.size) (grownBy_putObj' W D (.deferred none)) (fun r e => by cases e; exact ⟨hD, _, hK, rfl⟩) hB1 hB0
    rw [List.map_reverse, HXM.out.2.1] at h1
    exact h1
  case stop =>
    rintro D c pre W _ _ h _
    exact h.elim
end Go.Proofs.YtbmchgjilkoplaaDoor

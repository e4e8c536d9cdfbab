import Derived.Test.YtgncabcnefhkiaaCs31
import Derived.Test.YtgncabcnefhkiaaCs33
import Derived.RegionIn
/- Chapter 9, the program's scheduler: Queue. -/
namespace Go.Proofs.Ytgncabcnefhkiaa
open Go.ChangeShapes Go.WideShapes Go.ChangeAt Go.RowKit Go.Shelf
open Go.Vx
set_option linter.unusedVariables false
attribute [local go_sem] Oper.semAt_some
variable {U V S : Nat → Prop} {w w2 w3 : World} {xb mb n : Nat} {D D2 : DataW Value} {G : Int → Nat} {vt : Value} {vq : List Value} {ts : List (Int × Int)} {t : Nat} {lf : Int} {es es2 : List Et} {Q : Nat → List Int} {ck : Nat}

/-- What the program's Queue tells. -/
def QxQ (w : World) (es : List Et) (d p : Int) (e : Ending) (w' : World) : Prop := ((quE d p = 1 ∧ e = .returned (.tuple #[.slice none 0 0, .int .i64 1])) ∨ (quE d p = 0 ∧ ∃ v l, e = .returned (.tuple #[v, .int .i64 0]) ∧ OwnL inL w' w.heap.size 3 v l ∧ NQ es d p l)) ∧ Only (fun _ => False) w w'
theorem inK : Kind Try.prog inL 84 3 := kind_of (z := .int .i64 0) (b := 8) Try.underlying84 (by kernel_rfl) rfl (by decide)
theorem only_of_row {W W2 : World} {row : Option Nat} (hg : W.grownBy W2 row) : Only (fun k => row = some k) W W2 := ⟨hg.os, hg.tape, hg.output, hg.size, fun k hk hn => hg.block k hk (fun e => hn e.symm)⟩
theorem cells_of_own {α : Type} {L : Lay α} {W : World} {base k : Nat} {e : TypeId} {v : Value} {xs : List α} (h : OwnL L W base e v xs) (hk : v.ownBlock = some k) {o : Obj} (ho : W.heap[k]? = some o) : o.isCells = true := by
  obtain ⟨cur, hc⟩ := own_tag h hk
  rw [hc] at ho
  injection ho with ho
  subst ho
  rfl
/-- What stands between the rounds. -/
structure QuI (w4 : World) (lb : Nat) (ns : List Int) (W : World) : Prop where
  on : Only (fun k => k = lb) w4 W
  bx : ∃ v, W.heap[lb]? = some (.cells #[v] 84 (0, 0)) ∧ OwnL inL W w4.heap.size 3 v ns
theorem QuI.grow {w4 W W2 : World} {lb : Nat} {ns : List Int} {row : Option Nat} (h : QuI w4 lb ns W) (hg : W.grownBy W2 row) (hr : ∀ r, row = some r → w4.heap.size ≤ r ∧ ∃ o : Obj, W.heap[r]? = some o ∧ o.isCells = false) : QuI w4 lb ns W2 := by
  have ho := only_of_row hg
  obtain ⟨v, hb, hv⟩ := h.bx
  refine ⟨⟨ho.os.trans h.on.os, ho.tape.trans h.on.tape, ho.output.trans h.on.output, Nat.le_trans h.on.size ho.size, fun k hk hn => (ho.block k (Nat.lt_of_lt_of_le hk h.on.size) (fun e => by have := (hr k e).1; omega)).trans (h.on.block k hk hn)⟩, v, Only.keep ho hb (fun e => ?_), hv.kept ho (fun k hk e => ?_)⟩
  · obtain ⟨_, o, ho1, ho2⟩ := hr lb e
    rw [hb] at ho1
    injection ho1 with ho1
    subst ho1
    cases ho2
  · obtain ⟨_, o, ho1, ho2⟩ := hr k e
    rw [cells_of_own hv hk ho1] at ho2
    cases ho2
/-- One round. -/
theorem QuI.push {w4 W : World} {lb : Nat} {ns : List Int} (h : QuI w4 lb ns W) (hn : ns.length ≤ 1000000) (x : Int) : ∃ q m c v' W1, W.cell? ⟨lb, 0, none⟩ = some (.slice q m c) ∧ lb < W.heap.size ∧ (∀ ty, (Builtin.append_ #[84, 84] ty #[.slice q m c, .slice (some ⟨W.heap.size, 0, none⟩) 1 1]).run Try.prog (W.drew.alloc (.cells #[.int .i64 x] 3)) = .ok v' W1) ∧ (∃ y, W1.cell? ⟨lb, 0, none⟩ = some y) ∧ W1.frozen? ⟨lb, 0, none⟩ = false ∧ (∃ q m c, v' = .slice q m c) ∧ QuI w4 lb (ns ++ [x]) (W1.setCell ⟨lb, 0, none⟩ v') ∧ (∀ b c t, W.heap[b]? = some (.cells c t (0, 0)) → b ≠ lb → t ≠ 3 → (W1.setCell ⟨lb, 0, none⟩ v').heap[b]? = W.heap[b]?) ∧ KeepsFrom w4.heap.size W (W1.setCell ⟨lb, 0, none⟩ v') := by
  obtain ⟨v, hb, hv⟩ := h.bx
  obtain ⟨q, c, rfl, _⟩ := hv.form
  have ha : Only (fun _ => False) W (W.drew.alloc (.cells #[.int .i64 x] 3)) := ((Only.refl _ W).drew).alloc _
  have hva := hv.kept ha (fun _ _ h => h)
  have hcx : (W.drew.alloc (.cells #[.int .i64 x] 3)).heap[W.heap.size]? = some (.cells #[.int .i64 x] 3 (0, 0)) := heap_alloc_last W.drew _
  have hrn := fun ty => run_append_many inK (W.drew.alloc (.cells #[.int .i64 x] 3)) ty w4.heap.size _ ns hva (some ⟨W.heap.size, 0, none⟩) 1 [x] (fun _ => ⟨_, rfl, fun j u hj => by
    have e1 : fl inL [x] = [.int .i64 x] := rfl
    rw [e1] at hj
    rw [addr_add, Nat.zero_add, cell_of_row _ _ j _ _ (0, 0) hcx]
    simpa using hj⟩) (by simp; omega) (Nat.le_trans h.on.size ha.size)
  obtain ⟨v', W1, hr0, h2, h3, h4⟩ := hrn 0
  have hrun : ∀ ty, (Builtin.append_ #[84, 84] ty #[.slice q ns.length c, .slice (some ⟨W.heap.size, 0, none⟩) 1 1]).run Try.prog (W.drew.alloc (.cells #[.int .i64 x] 3)) = .ok v' W1 := fun ty => hr0
  have hbn : ∀ k, (Value.slice q ns.length c).ownBlock = some k → k ≠ lb := fun k hk e => by
    obtain ⟨cur, hc⟩ := own_tag hv hk
    exact tag_ne hc hb (by decide) e
  have o1 := (ha.mono (fun _ _ h => h.elim)).trans h3
  have hb1 := Only.keep o1 hb (fun e => hbn lb e rfl)
  have o2 : Only (fun k => k = lb) W1 (W1.setCell ⟨lb, 0, none⟩ v') := Only.setCell (S := fun k => k = lb) (Only.refl _ _) (Or.inl rfl) _
  have hlies := lies_of h4
  have hvn : ∀ k, v'.ownBlock = some k → k ≠ lb := fun k hk e => by
    obtain ⟨cur, hc⟩ := own_tag h2 hk
    exact tag_ne hc hb1 (by decide) e
  obtain ⟨q', c', hv', _⟩ := h2.form
  have oo : Only (fun k => k = lb ∨ (Value.slice q ns.length c).ownBlock = some k) W (W1.setCell ⟨lb, 0, none⟩ v') := (o1.mono (fun _ _ h => Or.inr h)).trans (o2.mono (fun _ _ h => Or.inl h))
  refine ⟨q, ns.length, c, v', W1, (cell_of_row _ _ 0 _ _ (0, 0) hb).trans rfl, lt_of_some hb, hrun, ⟨_, (cell_of_row _ _ 0 _ _ (0, 0) hb1).trans rfl⟩, by simp [World.frozen?, hb1], ⟨_, _, _, hv'⟩, ⟨⟨oo.os.trans h.on.os, oo.tape.trans h.on.tape, oo.output.trans h.on.output, Nat.le_trans h.on.size oo.size, fun k hk hn => ?_⟩, v', ?_, ?_⟩, fun b cc t hbb hne ht => ?_, ⟨oo.size, fun k o hBk hk hoc => ?_⟩⟩
  · refine (oo.block k (Nat.lt_of_lt_of_le hk h.on.size) (fun e => ?_)).trans (h.on.block k hk hn)
    rcases e with e | e
    · exact hn e
    · have := (own_lt hv e).1
      omega
  · rw [heap_setCell_same _ _ 0 _ _ v' hb1]; rfl
  · exact OwnL.kept h2 o2 (fun k hk e => hvn k hk e)
  · refine oo.block b (lt_of_some hbb) (fun e => ?_)
    rcases e with e | e
    · exact hne e
    · obtain ⟨cur, hc⟩ := own_tag hv e
      exact tag_ne hbb hc ht rfl
  · rw [oo.block k (lt_of_some hk) (fun e => by
      rcases e with e | e
      · rw [e, hb] at hk
        injection hk with hk
        subst hk
        cases hoc
      · rw [cells_of_own hv e hk] at hoc
        cases hoc)]
    exact hk
theorem stepIn_append_run {F : Fence} {n : Nat} {P : Program} {w : World} {ops : Array Oper} {o : Oper} {a : Act} {K : Act → World → Prop} {Q : Exit → Act → World → Prop} {E : Prop}
    (hg : o.guard = none) (s x : Operand) (t : TypeId) (hop : o.op = Op.call { callee := Callee.builtin Builtin.append, args := #[s, x], argTypes := #[t, t] })
    (v xv v2 : Value) (w2 : World) (hs : a.eval s = v) (hx : a.eval x = xv) (hrun : (Builtin.append_ #[t, t] o.type #[v, xv]).run P w = .ok v2 w2) (hK : K (a.put o.dst v2) w2) :
    if Region.wanted o (yielded ops a.tmps) = true then Oper.wpIn F n P o a w K Q else E := by
  have hw : Region.wanted o (yielded ops a.tmps) = true := by simp [Region.wanted, hg]
  rw [if_pos hw]
  unfold Oper.wpIn
  refine ⟨?_, ?_⟩
  · simp [Oper.about, hop, resolve, Target.leads, Sem.run_pure]
  · rw [Oper.semAt_plain F _ _ (by rw [hop]; intro c hc'; cases hc')]
    simp [execOp, hop, resolve, invoke, builtin, hs, hx, hrun, Result.andThen]
    exact hK
set_option maxRecDepth 100000 in
set_option maxHeartbeats 8000000 in
theorem xqueue_run (h : XgAt U w xb G ts t lf es ck) (d p : Nat) (hd8 : d < 8) (hp8 : p < 8) : Calls Try.prog 39 #[.pointer (some ⟨xb, 0, none⟩), .int .i64 (d : Int), .int .i64 (p : Int)] w (QxQ w es (d : Int) (p : Int)) := by
  obtain ⟨hw, hts, mb, D, vt, vq, Q, hq, hx⟩ := h
  have HD := Vx.hid (isDom_ok (d : Int))
  have HP := Vx.hid (isPrio_ok (p : Int))
  have e1 : ltB (d : Int) = true := decide_eq_true (by omega)
  have e2 : ltB (p : Int) = true := decide_eq_true (by omega)
  rw [e1] at HD
  rw [e2] at HP
  have i1 : 0 ≤ (d : Int) ∧ (d : Int) < 8 := by omega
  have i2 : 0 ≤ (p : Int) ∧ (p : Int) < 8 := by omega
  have HX := Vx.hid hx
  have HQ := Vx.hid hq
  have HW := Vx.hid hw
  clear e1 e2 hx hq hw hts
  refine (callsIn_wide (n := 6)).1 ?_
  have hf1 : Fence.wide.fn 23 := trivial
  have hf2 : Fence.wide.fn 24 := trivial
  have hf3 : Fence.wide.fn 56 := trivial
  refine callsIn_of_wp_marks Try.func39 rfl trivial ?_ rfl
  simp only [Try.ntmps39, List.size_toArray, List.length_cons, List.length_nil, Nat.reduceAdd, Nat.reduceSub, Array.replicate_succ, Array.replicate_zero, List.push_toArray, List.append_toArray, List.nil_append, List.cons_append]
  gi_wp2
  refine (callsIn_wide.2 (HD.out _)).mono ?_
  rintro e w' ⟨rfl, h⟩
  have h3 := h.symm; clear h; subst h3
  gi_wp2
  refine (callsIn_wide.2 (HP.out _)).mono ?_
  rintro e w' ⟨rfl, h⟩
  have h3 := h.symm; clear h; subst h3
  gi_wp2
  refine (all_in Fence.wide 5 trivial rfl xb _ _).mono ?_
  rintro e w4 ⟨rfl, hw4⟩
  have HW4 := Vx.hid hw4
  clear hw4
  gi_wp2
  obtain ⟨lb, hlb⟩ : ∃ lb, lb = w.heap.size := ⟨_, rfl⟩
  obtain ⟨w2, hw2⟩ : ∃ w2, w2 = w.alloc (.cells #[.slice none 0 0] 84) := ⟨_, rfl⟩
  have hs2 : w2.heap.size = w.heap.size + 1 := by rw [hw2]; simp
  have ho2 : Only (fun _ => False) w w2 := by rw [hw2]; exact (Only.refl _ w).alloc _
  have hb2 : w2.heap[lb]? = some (.cells #[.slice none 0 0] 84 (0, 0)) := by rw [hw2, hlb]; exact heap_alloc_last w _
  have hw4 := HW4.out
  rw [← hw2] at hw4
  rw [← hlb]
  have ho4 : Only (fun _ => False) w2 w4 := by rw [hw4]; exact (Only.refl _ w2).alloc _
  have hB4 : w4.heap[lb + 1]? = some (.cells #[.pointer (some ⟨xb, 4 + d * 8 + p, none⟩)] 100 (0, 0)) := by
    rw [hw4, hlb, ← hs2]; exact heap_alloc_last w2 _
  have hb4 := Only.keep ho4 hb2 (fun h => h)
  have ho := ho2.trans ho4
  have hx4 := HX.out.quiet ho
  have hj : d * 8 + p < 64 := by omega
  have hlenQ := XgAt.qlen HQ.out HX.out _ hj
  have hmem : ∀ x ∈ Q (d * 8 + p), ∃ e ∈ es, e.num = x := fun x hx9 => by
    obtain ⟨e, he, h9, _⟩ := (HQ.out _ hj).mem.1 hx9
    exact ⟨e, he, h9⟩
  have hcq : w4.cell? ⟨xb, 4 + d * 8 + p, none⟩ = some (qv vq (d * 8 + p)) := by
    rw [Nat.add_assoc]; exact hx4.cq _ hj
  obtain ⟨rq, rc, hrv, _, _, hrg⟩ := (hx4.qs _ hj).form
  obtain ⟨gb, hgb⟩ : ∃ gb, 0 < ((Q (d * 8 + p)).map G).length → rq = some ⟨gb, 0, none⟩ ∧ (qv vq (d * 8 + p)).ownBlock = some gb := by
    by_cases h0 : 0 < ((Q (d * 8 + p)).map G).length
    · obtain ⟨g, h1, _, _, h2⟩ := hrg h0
      exact ⟨g, fun _ => ⟨h1, h2⟩⟩
    · exact ⟨0, fun h => absurd h h0⟩
  obtain ⟨xs, hxs⟩ : ∃ xs : List { x : Int // ∃ e ∈ es, e.num = x }, xs = (Q (d * 8 + p)).pmap (fun x hx => ⟨x, hx⟩) hmem := ⟨_, rfl⟩
  have hxl : xs.length = (Q (d * 8 + p)).length := by rw [hxs, List.length_pmap]
  have hxm : xs.map (·.1) = Q (d * 8 + p) := by rw [hxs, List.map_pmap]; simp
  have hgx : ∀ (k : Nat) (hk : k < xs.length), w4.cell? ⟨gb, k, none⟩ = some (.pointer (some ⟨G xs[k].1, 0, none⟩)) := fun k hk => by
    have hk2 : k < ((Q (d * 8 + p)).map G).length := by rw [List.length_map, ← hxl]; exact hk
    have h1 := hx4.qs _ hj
    rw [hrv, (hgb (by omega)).1] at h1
    have h2 := pr_cell (N := ((Q (d * 8 + p)).map G).length) (cap := rc) h1 k hk2
    rw [h2, List.getElem_map]
    have h3 : (Q (d * 8 + p))[k]'(by rw [← hxl]; exact hk) = xs[k].1 := by
      have : (xs.map (·.1))[k]'(by rw [List.length_map]; exact hk) = xs[k].1 := by rw [List.getElem_map]
      rw [← this]
      congr 1
      exact hxm.symm
    rw [h3]
  have hql4 : xb < w4.heap.size := lt_of_some hx4.x
  have hrow4 : 0 < xs.length → ∃ cur, w4.heap[gb]? = some (.cells cur 76 (0, 0)) := fun h0 => own_tag (hx4.qs _ hj) (hgb (by rw [List.length_map, ← hxl]; exact h0)).2
  have hseq := all_stops Fence.wide 5 trivial rfl (by omega) (lb + 1) xb (4 + d * 8 + p) gb rc (fun x : { x : Int // ∃ e ∈ es, e.num = x } => G x.1) xs (by omega) rq (fun h0 => (hgb (by rw [List.length_map, ← hxl]; exact h0)).1) (fun b => b = lb + 1 ∨ b = xb ∨ (0 < xs.length ∧ b = gb)) (Or.inl rfl) (Or.inr (Or.inl rfl)) (fun h0 => Or.inr (Or.inr ⟨h0, rfl⟩)) w4 (lt_of_some hB4) hql4 (fun h0 => by obtain ⟨cur, hc⟩ := hrow4 h0; exact lt_of_some hc) ((cell_of_row _ _ 0 _ _ (0, 0) hB4).trans rfl) (by rw [hcq, hrv, List.length_map, hxl]) hgx
  have hI0 : QuI w4 lb [] w4 := ⟨Only.refl _ _, _, hb4, OwnL.nil _ _ _ _⟩
  have hrun4 : ∀ x : { x : Int // ∃ e ∈ es, e.num = x }, ∃ e ∈ es, e.num = x.1 ∧ w4.heap[G x.1]? = some (.cells (rnC e) 78 (0, 0)) := fun ⟨x, e, he, h9⟩ => ⟨e, he, h9, by subst h9; exact hx4.rn e he⟩
  have hB : ∀ b c t, w4.heap[b]? = some (.cells c t (0, 0)) → t ≠ 84 → b ≠ lb := fun b c t h1 h2 => tag_ne h1 hb4 h2
  have HI0 := Vx.hid hI0
  have HRN := Vx.hid hrun4
  have HXL := Vx.hid (⟨hxl, hxm, hlenQ⟩ : _ ∧ _ ∧ _)
  have HBB := Vx.hid hB
  have HB4 := Vx.hid hB4
  have HX4 := Vx.hid hx4.x
  have HRW := Vx.hid hrow4
  have HOO := Vx.hid (⟨ho, hs2, hw4, ho4⟩ : _ ∧ _ ∧ _ ∧ _)
  have HLB := Vx.hid hlb
  have HQN := Vx.hid (HQ.out _ hj)
  clear hI0 hrun4 hxl hxm hlenQ hB hB4 hx4 hrow4 ho hs2 hw4 ho4 ho2 hb2 hb4 hw2 hcq hrv hrg hgb hxs hgx hql4 hmem hlb HW4 HX HQ HW
  refine wpIn_rangeFunc_ownH (α := { x : Int // ∃ e ∈ es, e.num = x }) rfl (by omega) (gf := 59) (lb := #[.pointer (some ⟨lb + 1, 0, none⟩)]) rfl trivial (enters_of Try.func59 (by kernel_rfl) rfl)
    hseq (fun {A B C} h k => Kq.trans h k) ?hKb (Below.refl _ _) (fun x => rfl)
    (fun (pre : List { x : Int // ∃ e ∈ es, e.num = x }) W => QuI w4 lb (pre.map (fun x => x.1)) W) (fun _ _ _ => False)
    (by intro pre W W2 row hs hg hr; exact QuI.grow hs hg hr) (fun _ _ _ _ _ h _ _ => h) HI0.out
    (fun x a2 W => a2 = { tmps := #[.pointer (some ⟨xb, 0, none⟩), .int .i64 (d : Int), .int .i64 (p : Int), undef, undef, undef, .slice none 0 0, .int .i64 0, .pointer (some ⟨lb, 0, none⟩), .pointer (some ⟨G x.1, 0, none⟩), .int .i64 (d : Int), .bool true, .bool false, .bool false, .int .i64 (p : Int), .bool true, .bool false, .bool false, .pointer (some ⟨xb, 0, none⟩), .int .i64 (d : Int), .int .i64 (p : Int), .pointer (some ⟨xb, 0, none⟩), .pointer (some ⟨xb, 4, none⟩), .pointer (some ⟨xb, 4 + d * 8, none⟩), .pointer (some ⟨xb, 4 + d * 8 + p, none⟩), .func (.func 59) #[] #[.pointer (some ⟨lb + 1, 0, none⟩)], .pointer (some ⟨G x.1, 0, none⟩), undef, undef, undef, undef, undef, undef, undef, undef], defers := [] }) (fun x a2 _ _ _ _ hs _ _ => hs) ?assign ?body ?done ?stop
  case hKb =>
    intro W l o o2 hl _ _ _ b hb
    have hne : b ≠ l := by
      rcases hb with rfl | rfl | ⟨h0, rfl⟩
      · have := lt_of_some HB4.out; omega
      · have := lt_of_some HX4.out; omega
      · obtain ⟨cur, hc⟩ := HRW.out h0
        have := lt_of_some hc; omega
    exact World.putObj_heap_other hne
  case assign =>
    rintro l pre x W K hi hK
    unfold alV
    gi_wp2
    exact hK _ _ (KeepsFrom.refl _ _) (fun _ _ => rfl) hi rfl
  case body =>
    rintro l pre x a2 W hl hr hI rfl hlt
    obtain ⟨e, he, hen, hrb⟩ := HRN.out x
    have hrb2 : W.heap[G x.1]? = some (.cells (rnC e) 78 (0, 0)) := Only.keep hI.on hrb (HBB.out _ _ _ hrb (by decide))
    have r0 := (r5_of hrb2).c0
    rw [hen] at r0
    have hrl := lt_of_some hrb2
    obtain ⟨q, m, c, v', W1, c0, hlt0, hrun, ⟨y, hy⟩, hf, ⟨q', m', c', rfl⟩, hQ, hkeep, hkf⟩ := hI.push (by rw [List.length_map]; have := HXL.out; omega) x.1
    have hK3 : Kq (fun b => b = lb + 1 ∨ b = xb ∨ (0 < xs.length ∧ b = gb)) W (W1.setCell ⟨lb, 0, none⟩ (.slice q' m' c')) := by
      have hk : ∀ (b : Nat) (c : Array Value) (t : TypeId), w4.heap[b]? = some (.cells c t (0, 0)) → t ≠ 84 → t ≠ 3 → (W1.setCell ⟨lb, 0, none⟩ (.slice q' m' c')).heap[b]? = W.heap[b]? := fun b c t h1 h2 h3 => by
        have hne := HBB.out b c t h1 h2
        exact hkeep b c t (Only.keep hI.on h1 hne) hne h3
      intro b hb
      rcases hb with rfl | rfl | ⟨h0, rfl⟩
      · exact hk _ _ _ HB4.out (by decide) (by decide)
      · exact hk _ _ _ HX4.out (by decide) (by decide)
      · obtain ⟨cur, hc⟩ := HRW.out h0
        exact hk _ _ _ hc (by decide) (by decide)
    have HFIN : Hid (KeepsFrom w4.heap.size W (W1.setCell ⟨lb, 0, none⟩ (.slice q' m' c')) ∧ Kq (fun b => b = lb + 1 ∨ b = xb ∨ (0 < xs.length ∧ b = gb)) W (W1.setCell ⟨lb, 0, none⟩ (.slice q' m' c')) ∧ QuI w4 lb (List.map (fun x => x.1) (pre ++ [x])) (W1.setCell ⟨lb, 0, none⟩ (.slice q' m' c'))) := ⟨hkf, hK3, by rw [List.map_append]; exact hQ⟩
    obtain ⟨x, hxx⟩ := x
    dsimp only at r0 hrun hrl
    clear hI hQ hkeep hkf hK3 hrb hrb2 hen hr hl
    generalize G x = gx at r0 hrl ⊢
    gi_wp2
    refine wpIn_region_any (by kernel_rfl) ?_
    try (change wpAnyIn _ _ _ _ _ _ _ _ _ (World.drew _))
    refine wpAnyIn_ready (rs := [0, 1]) (by kernel_rfl) (by simp) ?_
    refine AllReadyIn.cons rfl (fun K hK => ?_) ?_
    · go_simp
      refine hK _ _ ?_
      clear hK K
      refine wpAnyIn_ready (rs := [1]) (by kernel_rfl) (by simp) ?_
      refine AllReadyIn.cons rfl (fun K hK => ?_) ?_
      · go_simp
        refine hK _ _ ?_
        clear hK K
        refine wpAnyIn_ready (rs := [2]) (by kernel_rfl) (by simp) ?_
        refine AllReadyIn.cons rfl (fun K hK => ?_) ?_
        · go_simp
          refine hK _ _ ?_
          clear hK K
          refine wpAnyIn_ready (rs := [3]) (by kernel_rfl) (by simp) ?_
          refine AllReadyIn.cons rfl (fun K hK => ?_) ?_
          · go_simp
            refine hK _ _ ?_
            clear hK K
            refine wpAnyIn_ready (rs := [4]) (by kernel_rfl) (by simp) ?_
            refine AllReadyIn.cons rfl (fun K hK => ?_) ?_
            · go_simp
              refine hK _ _ ?_
              clear hK K
              refine wpAnyIn_ready (rs := [5]) (by kernel_rfl) (by simp) ?_
              refine AllReadyIn.cons rfl (fun K hK => ?_) ?_
              · go_simp
                refine hK _ _ ?_
                clear hK K
                refine wpAnyIn_ready (rs := [6]) (by kernel_rfl) (by simp) ?_
                refine AllReadyIn.cons rfl (fun K hK => ?_) ?_
                · refine stepIn_append_run rfl (.tmp 27) (.tmp 32) 84 rfl (.slice q m c) (.slice (some ⟨W.heap.size, 0, none⟩) 1 1) _ _ rfl rfl (hrun _) ?_
                  refine hK _ _ ?_
                  clear hK K
                  refine wpAnyIn_ready (rs := [7]) (by kernel_rfl) (by simp) ?_
                  refine AllReadyIn.cons rfl (fun K hK => ?_) ?_
                  · go_simp
                    refine hK _ _ ?_
                    clear hK K
                    refine wpAnyIn_done (by kernel_rfl) ?_ _
                    gi_wp2
                    exact HFIN.out
                  exact AllReadyIn.nil
                exact AllReadyIn.nil
              exact AllReadyIn.nil
            exact AllReadyIn.nil
          exact AllReadyIn.nil
        exact AllReadyIn.nil
      exact AllReadyIn.nil
    refine AllReadyIn.cons rfl (fun K hK => ?_) ?_
    · go_simp
      refine hK _ _ ?_
      clear hK K
      refine wpAnyIn_ready (rs := [0, 2]) (by kernel_rfl) (by simp) ?_
      refine AllReadyIn.cons rfl (fun K hK => ?_) ?_
      · go_simp
        refine hK _ _ ?_
        clear hK K
        refine wpAnyIn_ready (rs := [2]) (by kernel_rfl) (by simp) ?_
        refine AllReadyIn.cons rfl (fun K hK => ?_) ?_
        · go_simp
          refine hK _ _ ?_
          clear hK K
          refine wpAnyIn_ready (rs := [3]) (by kernel_rfl) (by simp) ?_
          refine AllReadyIn.cons rfl (fun K hK => ?_) ?_
          · go_simp
            refine hK _ _ ?_
            clear hK K
            refine wpAnyIn_ready (rs := [4]) (by kernel_rfl) (by simp) ?_
            refine AllReadyIn.cons rfl (fun K hK => ?_) ?_
            · go_simp
              refine hK _ _ ?_
              clear hK K
              refine wpAnyIn_ready (rs := [5]) (by kernel_rfl) (by simp) ?_
              refine AllReadyIn.cons rfl (fun K hK => ?_) ?_
              · go_simp
                refine hK _ _ ?_
                clear hK K
                refine wpAnyIn_ready (rs := [6]) (by kernel_rfl) (by simp) ?_
                refine AllReadyIn.cons rfl (fun K hK => ?_) ?_
                · refine stepIn_append_run rfl (.tmp 27) (.tmp 32) 84 rfl (.slice q m c) (.slice (some ⟨W.heap.size, 0, none⟩) 1 1) _ _ rfl rfl (hrun _) ?_
                  refine hK _ _ ?_
                  clear hK K
                  refine wpAnyIn_ready (rs := [7]) (by kernel_rfl) (by simp) ?_
                  refine AllReadyIn.cons rfl (fun K hK => ?_) ?_
                  · go_simp
                    refine hK _ _ ?_
                    clear hK K
                    refine wpAnyIn_done (by kernel_rfl) ?_ _
                    gi_wp2
                    exact HFIN.out
                  exact AllReadyIn.nil
                exact AllReadyIn.nil
              exact AllReadyIn.nil
            exact AllReadyIn.nil
          exact AllReadyIn.nil
        exact AllReadyIn.nil
      refine AllReadyIn.cons rfl (fun K hK => ?_) ?_
      · go_simp
        refine hK _ _ ?_
        clear hK K
        refine wpAnyIn_ready (rs := [0, 3]) (by kernel_rfl) (by simp) ?_
        refine AllReadyIn.cons rfl (fun K hK => ?_) ?_
        · go_simp
          refine hK _ _ ?_
          clear hK K
          refine wpAnyIn_ready (rs := [3]) (by kernel_rfl) (by simp) ?_
          refine AllReadyIn.cons rfl (fun K hK => ?_) ?_
          · go_simp
            refine hK _ _ ?_
            clear hK K
            refine wpAnyIn_ready (rs := [4]) (by kernel_rfl) (by simp) ?_
            refine AllReadyIn.cons rfl (fun K hK => ?_) ?_
            · go_simp
              refine hK _ _ ?_
              clear hK K
              refine wpAnyIn_ready (rs := [5]) (by kernel_rfl) (by simp) ?_
              refine AllReadyIn.cons rfl (fun K hK => ?_) ?_
              · go_simp
                refine hK _ _ ?_
                clear hK K
                refine wpAnyIn_ready (rs := [6]) (by kernel_rfl) (by simp) ?_
                refine AllReadyIn.cons rfl (fun K hK => ?_) ?_
                · refine stepIn_append_run rfl (.tmp 27) (.tmp 32) 84 rfl (.slice q m c) (.slice (some ⟨W.heap.size, 0, none⟩) 1 1) _ _ rfl rfl (hrun _) ?_
                  refine hK _ _ ?_
                  clear hK K
                  refine wpAnyIn_ready (rs := [7]) (by kernel_rfl) (by simp) ?_
                  refine AllReadyIn.cons rfl (fun K hK => ?_) ?_
                  · go_simp
                    refine hK _ _ ?_
                    clear hK K
                    refine wpAnyIn_done (by kernel_rfl) ?_ _
                    gi_wp2
                    exact HFIN.out
                  exact AllReadyIn.nil
                exact AllReadyIn.nil
              exact AllReadyIn.nil
            exact AllReadyIn.nil
          exact AllReadyIn.nil
        refine AllReadyIn.cons rfl (fun K hK => ?_) ?_
        · go_simp
          refine hK _ _ ?_
          clear hK K
          refine wpAnyIn_ready (rs := [0, 4]) (by kernel_rfl) (by simp) ?_
          refine AllReadyIn.cons rfl (fun K hK => ?_) ?_
          · go_simp
            refine hK _ _ ?_
            clear hK K
            refine wpAnyIn_ready (rs := [4]) (by kernel_rfl) (by simp) ?_
            refine AllReadyIn.cons rfl (fun K hK => ?_) ?_
            · go_simp
              refine hK _ _ ?_
              clear hK K
              refine wpAnyIn_ready (rs := [5]) (by kernel_rfl) (by simp) ?_
              refine AllReadyIn.cons rfl (fun K hK => ?_) ?_
              · go_simp
                refine hK _ _ ?_
                clear hK K
                refine wpAnyIn_ready (rs := [6]) (by kernel_rfl) (by simp) ?_
                refine AllReadyIn.cons rfl (fun K hK => ?_) ?_
                · refine stepIn_append_run rfl (.tmp 27) (.tmp 32) 84 rfl (.slice q m c) (.slice (some ⟨W.heap.size, 0, none⟩) 1 1) _ _ rfl rfl (hrun _) ?_
                  refine hK _ _ ?_
                  clear hK K
                  refine wpAnyIn_ready (rs := [7]) (by kernel_rfl) (by simp) ?_
                  refine AllReadyIn.cons rfl (fun K hK => ?_) ?_
                  · go_simp
                    refine hK _ _ ?_
                    clear hK K
                    refine wpAnyIn_done (by kernel_rfl) ?_ _
                    gi_wp2
                    exact HFIN.out
                  exact AllReadyIn.nil
                exact AllReadyIn.nil
              exact AllReadyIn.nil
            exact AllReadyIn.nil
          refine AllReadyIn.cons rfl (fun K hK => ?_) ?_
          · go_simp
            refine hK _ _ ?_
            clear hK K
            refine wpAnyIn_ready (rs := [0, 5]) (by kernel_rfl) (by simp) ?_
            refine AllReadyIn.cons rfl (fun K hK => ?_) ?_
            · go_simp
              refine hK _ _ ?_
              clear hK K
              refine wpAnyIn_ready (rs := [5]) (by kernel_rfl) (by simp) ?_
              refine AllReadyIn.cons rfl (fun K hK => ?_) ?_
              · go_simp
                refine hK _ _ ?_
                clear hK K
                refine wpAnyIn_ready (rs := [6]) (by kernel_rfl) (by simp) ?_
                refine AllReadyIn.cons rfl (fun K hK => ?_) ?_
                · refine stepIn_append_run rfl (.tmp 27) (.tmp 32) 84 rfl (.slice q m c) (.slice (some ⟨W.heap.size, 0, none⟩) 1 1) _ _ rfl rfl (hrun _) ?_
                  refine hK _ _ ?_
                  clear hK K
                  refine wpAnyIn_ready (rs := [7]) (by kernel_rfl) (by simp) ?_
                  refine AllReadyIn.cons rfl (fun K hK => ?_) ?_
                  · go_simp
                    refine hK _ _ ?_
                    clear hK K
                    refine wpAnyIn_done (by kernel_rfl) ?_ _
                    gi_wp2
                    exact HFIN.out
                  exact AllReadyIn.nil
                exact AllReadyIn.nil
              exact AllReadyIn.nil
            refine AllReadyIn.cons rfl (fun K hK => ?_) ?_
            · go_simp
              refine hK _ _ ?_
              clear hK K
              refine wpAnyIn_ready (rs := [0]) (by kernel_rfl) (by simp) ?_
              refine AllReadyIn.cons rfl (fun K hK => ?_) ?_
              · go_simp
                refine hK _ _ ?_
                clear hK K
                refine wpAnyIn_ready (rs := [6]) (by kernel_rfl) (by simp) ?_
                refine AllReadyIn.cons rfl (fun K hK => ?_) ?_
                · refine stepIn_append_run rfl (.tmp 27) (.tmp 32) 84 rfl (.slice q m c) (.slice (some ⟨W.heap.size, 0, none⟩) 1 1) _ _ rfl rfl (hrun _) ?_
                  refine hK _ _ ?_
                  clear hK K
                  refine wpAnyIn_ready (rs := [7]) (by kernel_rfl) (by simp) ?_
                  refine AllReadyIn.cons rfl (fun K hK => ?_) ?_
                  · go_simp
                    refine hK _ _ ?_
                    clear hK K
                    refine wpAnyIn_done (by kernel_rfl) ?_ _
                    gi_wp2
                    exact HFIN.out
                  exact AllReadyIn.nil
                exact AllReadyIn.nil
              exact AllReadyIn.nil
            exact AllReadyIn.nil
          exact AllReadyIn.nil
        exact AllReadyIn.nil
      exact AllReadyIn.nil
    exact AllReadyIn.nil
  case done =>
    rintro D ys W hD rfl hI hK
    obtain ⟨v, hb, hv⟩ := hI.bx
    have hcell : W.cell? ⟨lb, 0, none⟩ = some v := (cell_of_row _ _ 0 _ _ (0, 0) hb).trans rfl
    have h1 := hI.grow (grownBy_putObj' W D (.deferred none)) (fun r e => by cases e; exact ⟨hD, _, hK, rfl⟩)
    obtain ⟨v2, hb2, hv2⟩ := h1.bx
    have hvv : v2 = v := by
      have := Only.keep (only_of_row (grownBy_putObj' W D (.deferred none))) hb (fun e => by
        cases e
        rw [hb] at hK
        cases hK)
      rw [hb2] at this
      simpa using this
    subst hvv
    have hO := Only.beyond HOO.out.1 h1.on (fun k e => by rw [e, HLB.out]; exact Nat.le_refl _)
    have hsz := HOO.out.1.size
    have HF : Hid (QxQ w es (d : Int) (p : Int) (.returned (.tuple #[v2, .int .i64 0])) (W.putObj D (.deferred none))) := by
      have hv3 := hv2
      rw [HXL.out.2.1] at hv3
      refine ⟨Or.inr ⟨if_neg (by omega), v2, Q (d * 8 + p), rfl, ?_, ?_⟩, hO⟩
      · refine ⟨hv3.1, ?_⟩
        rcases hv3.2 with h6 | ⟨g, c, cur, e, hbb, r⟩
        · exact Or.inl h6
        · exact Or.inr ⟨g, c, cur, e, by omega, r⟩
      · have := HQN.out
        have e1 : (((d * 8 + p) / 8 : Nat) : Int) = (d : Int) := by omega
        have e2 : (((d * 8 + p) % 8 : Nat) : Int) = (p : Int) := by omega
        rw [e1, e2] at this
        exact this
    clear hv hv2 hb hb2 h1 hI hO
    gi_wp2
    refine ⟨by simp, .inl ⟨_, _, rfl, run_takeDeferred hK, ?_⟩⟩
    refine ⟨.tuple #[v2, .int .i64 0], by simp [results, Try.results39, go_sem], HF.out⟩
  case stop =>
    rintro D c pre W _ _ h _
    exact h.elim
theorem xqueue_ok (h : XgAt U w xb G ts t lf es ck) (d p : Int) : Calls Try.prog 39 #[.pointer (some ⟨xb, 0, none⟩), .int .i64 d, .int .i64 p] w (QxQ w es d p) := by
  have HD := Vx.hid (isDom_ok d)
  have HP := Vx.hid (isPrio_ok p)
  cases hb : ltB d with
  | false =>
    have HB1 : Hid (QxQ w es d p (.returned (.tuple #[.slice none 0 0, .int .i64 1])) w) := ⟨Or.inl ⟨if_pos (by have := of_decide_eq_false hb; omega), rfl⟩, Only.refl _ _⟩
    rw [hb] at HD
    clear h hb
    go_enter Try.func39, Try.ntmps39
    go_wp2_with fail
    refine (HD.out _).mono ?_
    rintro e w' ⟨rfl, h⟩
    have h3 := h.symm; clear h; subst h3
    go_wp2_with fail
    all_goals
      go_ret2
      exact HB1.out
  | true =>
    cases hc : ltB p with
    | false =>
      have HB1 : Hid (QxQ w es d p (.returned (.tuple #[.slice none 0 0, .int .i64 1])) w) := ⟨Or.inl ⟨if_pos (by have := of_decide_eq_false hc; omega), rfl⟩, Only.refl _ _⟩
      rw [hb] at HD
      rw [hc] at HP
      clear h hb hc
      go_enter Try.func39, Try.ntmps39
      go_wp2_with fail
      refine (HD.out _).mono ?_
      rintro e w' ⟨rfl, h⟩
      have h3 := h.symm; clear h; subst h3
      go_wp2_with fail
      refine (HP.out _).mono ?_
      rintro e w' ⟨rfl, h⟩
      have h3 := h.symm; clear h; subst h3
      go_wp2_with fail
      all_goals
        go_ret2
        exact HB1.out
    | true =>
      have h1 := of_decide_eq_true hb
      have h2 := of_decide_eq_true hc
      have := xqueue_run h d.toNat p.toNat (by omega) (by omega)
      have e1 : ((d.toNat : Nat) : Int) = d := by omega
      have e2 : ((p.toNat : Nat) : Int) = p := by omega
      rw [e1, e2] at this
      exact this
end Go.Proofs.Ytgncabcnefhkiaa

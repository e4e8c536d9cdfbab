import Derived.Test.YtbmchgjilkoplaaDoorCk31
import Derived.Test.YtbmchgjilkoplaaDoorCk49
import Derived.Test.YtbmchgjilkoplaaDoorCk45
import Derived.Test.YtbmchgjilkoplaaDoorCk47
/- Grafts as an argument. -/
namespace Go.Proofs.YtbmchgjilkoplaaDoor
open Go.ChangeShapes Go.WideShapes Go.ChangeAt Go.RowKit Go.Deep
open Go.Vx

theorem three_of {α : Type} : ∀ (l : List α), l.length = 3 → ∃ a b c, l = [a, b, c]
  | [a, b, c], _ => ⟨a, b, c, rfl⟩
  | [], h => by simp at h
  | [_], h => by simp at h
  | [_, _], h => by simp at h
  | _ :: _ :: _ :: _ :: _, h => by simp at h
theorem cGraft : Tryd.prog.cellsOf 100 = 3 := by kernel_rfl
theorem open_grafts {H : Type} {enc : TypeId × Value → H} {W : World} {a0 : Option Addr} {len cap fuel : Nat} {x : DataW H × List MemPlace} (hf : DataW.trod enc Tryd.prog W 0 (fun _ => true) true fuel 50 (Value.slice a0 len cap).cells.toList = some x) :
    ∃ zs : List (Int × Int × Int), zs.length = len ∧ len ≤ cap ∧ cap ≤ maxLen ∧ GrAt W a0 zs ∧ ∀ z ∈ zs, I64 z.1 ∧ I64 z.2.1 ∧ I64 z.2.2 := by
  rcases open_slice Tryd.underlying50 hf with ⟨hc, _⟩ | ⟨a, len', cap', m, n, D, Pl, hc, _, hl, hm, hmm, _, hx⟩
  · simp [Value.cells] at hc
    obtain ⟨rfl, rfl, rfl⟩ := hc
    exact ⟨[], rfl, Nat.le_refl _, by decide, Or.inl rfl, by simp⟩
  · simp [Value.cells] at hc
    obtain ⟨rfl, rfl, rfl⟩ := hc
    simp only [if_true] at hmm
    subst hmm
    have each : ∀ i, i < m → ∃ z : Int × Int × Int, (I64 z.1 ∧ I64 z.2.1 ∧ I64 z.2.2) ∧ W.cell? (a.add (i * 3)) = some (.int .i64 z.1) ∧ W.cell? (a.add (i * 3 + 1)) = some (.int .i64 z.2.1) ∧ W.cell? (a.add (i * 3 + 2)) = some (.int .i64 z.2.2) := by
      intro i hi
      obtain ⟨cs', h1, h2⟩ := hx i hi
      rw [cGraft] at h1
      obtain ⟨_, hlen, hcell⟩ := World.cells?_some h1
      obtain ⟨xs, k, hk, hxy, _, hxl, hfld⟩ := DataW.trod_struct Tryd.underlying100 h2
      obtain ⟨y0, y1, y2, rfl⟩ := three_of xs hxl
      obtain ⟨v0, v1, v2, rfl⟩ := three_of cs' hlen
      have g0 := hfld 0 _ rfl
      have g1 := hfld 1 _ rfl
      have g2 := hfld 2 _ rfl
      simp [cInt] at g0 g1 g2
      obtain ⟨n0, q0, _, b0⟩ := DataW.trod_int Tryd.underlying3 g0
      obtain ⟨n1, q1, _, b1⟩ := DataW.trod_int Tryd.underlying3 g1
      obtain ⟨n2, q2, _, b2⟩ := DataW.trod_int Tryd.underlying3 g2
      simp only [List.cons.injEq, and_true] at q0 q1 q2
      subst q0 q1 q2
      have e0 := hcell 0 (by decide)
      have e1 := hcell 1 (by decide)
      have e2 := hcell 2 (by decide)
      rw [add_add] at e0 e1 e2
      exact ⟨⟨n0, n1, n2⟩, ⟨bounds_i64 b0, bounds_i64 b1, bounds_i64 b2⟩, by simpa using e0, by simpa using e1, by simpa using e2⟩
    haveI : Inhabited (Int × Int × Int) := ⟨⟨0, 0, 0⟩⟩
    obtain ⟨Z, hZ⟩ := choose_lt each
    refine ⟨(List.range len).map Z, by simp, hl, hm, ?_, ?_⟩
    · by_cases hz : len = 0
      · subst hz
        exact Or.inl rfl
      · right
        obtain ⟨ab, ao, sp⟩ := a
        have hspot : sp = none := by simpa [Addr.add] using World.cell?_spot (hZ 0 (by omega)).2.1
        subst hspot
        refine ⟨ab, ao, rfl, fun j hj => ?_⟩
        have hj' : j < len := by simpa using hj
        have hh := (hZ j (by omega)).2
        simp only [addr_add, ← Nat.add_assoc] at hh
        simp only [List.getElem_map, List.getElem_range]
        exact hh
    · intro z hz
      simp only [List.mem_map, List.mem_range] at hz
      obtain ⟨i, hi, rfl⟩ := hz
      exact (hZ i (by omega)).1
end Go.Proofs.YtbmchgjilkoplaaDoor

/- CapsTree, CapsRevoked, pure: what Below tells is what comes from a slot, each once, parents first. -/
namespace Go.Proofs.YtbmchgjilkoplaaDoor
open Go.Vx
set_option linter.unusedVariables false
variable {es : List En}

theorem bel_head {s t : Sl} (h : Bel es s t) : ∃ e ∈ es, e.from' = s ∧ (e.at' = t ∨ Bel es e.at' t) := by
  refine h.ind (fun t => ∃ e ∈ es, e.from' = s ∧ (e.at' = t ∨ Bel es e.at' t)) (fun e he hf => ⟨e, he, hf, Or.inl rfl⟩) (fun e he h1 ih => ?_)
  obtain ⟨e2, he2, h2, h3⟩ := ih
  refine ⟨e2, he2, h2, Or.inr ?_⟩
  rcases h3 with h3 | h3
  · rw [h3]; exact Bel.one e he
  · exact Bel.step e h3 he
theorem com_in {s : Sl} {e : En} (he : e ∈ es) (hf : e.from' = s) : e.at' ∈ comF es s := by
  unfold comF
  simp only [List.mem_map, List.mem_filter]
  exact ⟨e, ⟨he, by simpa using hf⟩, rfl⟩
theorem bel_in {r : Sl → Nat} {D : Nat} (hr : ∀ e ∈ es, r e.from' < r e.at') (hD : ∀ e ∈ es, r e.at' ≤ D) : ∀ (n : Nat) (s t : Sl), r t - r s ≤ n → Bel es s t → t ∈ belN es (D + 1) s
  | 0, s, t, hn, h => by have := h.rank hr; omega
  | n + 1, s, t, hn, h => by
    obtain ⟨e, he, hf, h2⟩ := bel_head h
    rw [belN_all hr hD s, List.mem_flatMap]
    refine ⟨e.at', com_in he hf, ?_⟩
    rcases h2 with h2 | h2
    · rw [h2]; exact List.mem_cons_self
    · refine List.mem_cons_of_mem _ (bel_in hr hD n e.at' t ?_ h2)
      have := hr e he
      rw [hf] at this
      omega
theorem bel_iff {r : Sl → Nat} {D : Nat} (hr : ∀ e ∈ es, r e.from' < r e.at') (hD : ∀ e ∈ es, r e.at' ≤ D) (s t : Sl) : t ∈ belN es (D + 1) s ↔ Bel es s t :=
  ⟨belN_bel es _ s t, bel_in hr hD _ s t (Nat.le_refl _)⟩
theorem bel_entry {r : Sl → Nat} {D : Nat} (ho : Once es) (hr : ∀ e ∈ es, r e.from' < r e.at') (hD : ∀ e ∈ es, r e.at' ≤ D) (s : Sl) {e : En} (he : e ∈ es) : e.at' ∈ belN es (D + 1) s ↔ (e.from' = s ∨ e.from' ∈ belN es (D + 1) s) := by
  rw [bel_iff hr hD, bel_iff hr hD]
  constructor
  · intro h
    rcases Bel.last ho he h with h | h
    · exact Or.inl h.symm
    · exact Or.inr h
  · rintro (h | h)
    · rw [← h]; exact Bel.one e he
    · exact Bel.step e h he
/-- Each stands behind the one from which it comes. -/
def OrdL (es : List En) (s : Sl) (L : List Sl) : Prop := ∀ pre t post, L = pre ++ t :: post → ∀ e ∈ es, e.at' = t → e.from' = s ∨ e.from' ∈ pre
theorem OrdL.nil (s : Sl) : OrdL es s [] := fun pre t post h => by simp at h
theorem OrdL.app {s : Sl} {L M : List Sl} (h1 : OrdL es s L) (h2 : OrdL es s M) : OrdL es s (L ++ M) := by
  intro pre t post h e he hE
  rcases List.append_eq_append_iff.1 h with ⟨x, hx, hy⟩ | ⟨x, hx, hy⟩
  · rcases h2 x t post hy e he hE with h3 | h3
    · exact Or.inl h3
    · exact Or.inr (by rw [hx]; exact List.mem_append_right _ h3)
  · cases x with
    | nil =>
      rw [List.nil_append] at hy
      rcases h2 [] t post (by rw [List.nil_append]; exact hy.symm) e he hE with h3 | h3
      · exact Or.inl h3
      · cases h3
    | cons y x =>
      rw [List.cons_append] at hy
      injection hy with hy1 hy2
      subst hy1
      exact h1 pre t x hx e he hE
theorem OrdL.child {s : Sl} (ho : Once es) {e0 : En} (h0 : e0 ∈ es) (hf : e0.from' = s) {L : List Sl} (h : OrdL es e0.at' L) : OrdL es s (e0.at' :: L) := by
  intro pre t post hE e he hat
  cases pre with
  | nil =>
    rw [List.nil_append] at hE
    injection hE with h1 h2
    have := ho e he e0 h0 (by rw [hat, h1])
    rw [this]
    exact Or.inl hf
  | cons y pre =>
    rw [List.cons_append] at hE
    injection hE with h1 h2
    subst h1
    rcases h pre t post h2 e he hat with h3 | h3
    · exact Or.inr (by rw [h3]; exact List.mem_cons_self)
    · exact Or.inr (List.mem_cons_of_mem _ h3)
theorem ord_flat (ho : Once es) (s : Sl) (f : Sl → List Sl) (hf : ∀ t, OrdL es t (f t)) : ∀ l : List En, (∀ e ∈ l, e ∈ es) → OrdL es s (l.flatMap fun e => if e.from' = s then e.at' :: f e.at' else [])
  | [], _ => by simpa using OrdL.nil s
  | e :: l, h => by
    rw [List.flatMap_cons]
    refine OrdL.app ?_ (ord_flat ho s f hf l (fun x hx => h x (List.mem_cons_of_mem _ hx)))
    by_cases h1 : e.from' = s
    · rw [if_pos h1]
      exact OrdL.child ho (h e List.mem_cons_self) h1 (hf _)
    · rw [if_neg h1]
      exact OrdL.nil s
theorem belN_ord (ho : Once es) : ∀ (d : Nat) (s : Sl), OrdL es s (belN es d s)
  | 0, s => OrdL.nil s
  | d + 1, s => by
    unfold belN
    exact ord_flat ho s (belN es d) (belN_ord ho d) es (fun e h => h)
theorem OrdL.at {s : Sl} {L : List Sl} (h : OrdL es s L) (i : Nat) (hi : i < L.length) {e : En} (he : e ∈ es) (hE : e.at' = L[i]) : e.from' = s ∨ e.from' ∈ L.take i := by
  refine h (L.take i) L[i] (L.drop (i + 1)) ?_ e he hE
  rw [← List.drop_eq_getElem_cons hi, List.take_append_drop]
theorem full_mem {bs : List (Int × Int)} (hf : Wf bs es) (hx : Wx bs es) {e : En} (he : e ∈ es) : ∃ i, fullF bs es e.at' = .ok i := by
  obtain ⟨b, hb, h1, h2, h3⟩ := hx.ix e he
  have hs := (mem_size hx.nd hb).1
  rw [h1] at hs
  rw [fullF_in hs h2 h3]
  cases hE : entF es e.at' with
  | none => have := idxF_none hE e he; simp at this
  | some i => exact ⟨i, rfl⟩
theorem from_mem {bs : List (Int × Int)} (hf : Wf bs es) (hx : Wx bs es) {e : En} (he : e ∈ es) : fromF bs es e.at' = (e.from', 0) := by
  obtain ⟨i, hi⟩ := full_mem hf hx he
  obtain ⟨hl, hE⟩ := full_at hi
  unfold fromF
  rw [hi]
  dsimp only
  rw [getD_at es i hl, hf.once _ (List.getElem_mem hl) e he hE]
/-- How many of the first k are below. -/
def cntF (es : List En) (B : List Sl) (k : Nat) : Nat := ((es.take k).filter fun e => decide (e.at' ∈ B)).length
theorem cnt_zero (B : List Sl) : cntF es B 0 = 0 := by simp [cntF]
theorem cnt_step (B : List Sl) (k : Nat) (hk : k < es.length) : cntF es B (k + 1) = cntF es B k + (if es[k].at' ∈ B then 1 else 0) := by
  unfold cntF
  rw [List.take_succ_eq_append_getElem hk, List.filter_append, List.length_append]
  congr 1
  by_cases h : es[k].at' ∈ B
  · rw [if_pos h, List.filter_cons_of_pos (by simpa using h)]; rfl
  · rw [if_neg h, List.filter_cons_of_neg (by simpa using h)]; rfl
theorem cnt_all (hn : (es.map (·.at')).Nodup) {B : List Sl} (hB : B.Nodup) (hs : ∀ t ∈ B, t ∈ es.map (·.at')) : cntF es B es.length = B.length := by
  have h1 : ((es.filter fun e => decide (e.at' ∈ B)).map (·.at')).Nodup := List.Nodup.sublist (List.Sublist.map _ List.filter_sublist) hn
  have h2 := nodup_le _ B h1 (fun t ht => by
    obtain ⟨e, he, rfl⟩ := List.mem_map.1 ht
    simpa using (List.mem_filter.1 he).2)
  have h3 := nodup_le B ((es.filter fun e => decide (e.at' ∈ B)).map (·.at')) hB (fun t ht => by
    obtain ⟨e, he, rfl⟩ := List.mem_map.1 (hs t ht)
    exact List.mem_map.2 ⟨e, List.mem_filter.2 ⟨he, by simpa using ht⟩, rfl⟩)
  rw [List.length_map] at h2 h3
  unfold cntF
  rw [List.take_length]
  omega
theorem cnt_le (B : List Sl) (k : Nat) : cntF es B k ≤ k := by
  unfold cntF
  have h1 := List.length_filter_le (fun e : En => decide (e.at' ∈ B)) (es.take k)
  have h2 := List.length_take_le k es
  omega
theorem hold7 (h : K7 es) : holdF es (7, 9) = es.map (·.at') := by
  unfold holdF
  have : es.filter (holdB (7, 9)) = es := List.filter_eq_self.2 (fun e he => by
    obtain ⟨h1, h2⟩ := h e he
    unfold holdB
    simp [h1, h2])
  rw [this]
end Go.Proofs.YtbmchgjilkoplaaDoor

/- CapsTree: come. -/
namespace Go.Proofs.YtbmchgjilkoplaaDoor
open Go.ChangeShapes Go.WideShapes Go.ChangeAt Go.RowKit
open Go.Vx
set_option linter.unusedVariables false
variable {U : Nat → Prop} {w : World} {xb ub : Nat} {es : List En}

theorem come_cases (hf : Wf two16 es) (hx : Wx two16 es) (i : Nat) (hi : i < 32) :
    (uF es i = -2 ∧ fromF two16 es (plcN i) = ((-1, -1), 11)) ∨ (uF es i = -1 ∧ fromF two16 es (plcN i) = ((-1, -1), 0)) ∨ ∃ m : Nat, m < 32 ∧ uF es i = (m : Int) ∧ fromF two16 es (plcN i) = (plcN m, 0) := by
  rcases at_or es (plcN i) with ⟨e, he, hE⟩ | hn
  · right
    have h1 := from_mem hf hx he
    have h2 := plF_mem hf.once he
    have h3 := hx.kd e he
    rw [hE] at h1 h2
    have h4 : uF es i = upS e.from' := by
      unfold uF upP
      rw [h2, if_neg (by simp only; omega)]
    rw [h1, h4]
    rcases from_gd hf hx he with h5 | ⟨m, hm, h5⟩
    · rw [h5]; exact Or.inl ⟨rfl, rfl⟩
    · rw [h5]; exact Or.inr ⟨m, hm, upS_plc m, rfl⟩
  · left
    have h1 := plF_none hn
    refine ⟨by unfold uF; rw [h1]; rfl, ?_⟩
    rcases full16 es i hi with ⟨j, hj⟩ | hj
    · obtain ⟨hl, hE⟩ := full_at hj
      exact absurd hE (hn _ (List.getElem_mem hl))
    · unfold fromF
      rw [hj]
theorem slot_set {w : World} {b : Nat} {x0 x1 : Value} (h : w.heap[b]? = some (.cells #[x0, x1] 62 (0, 0))) (y0 y1 : Value) : ((w.setCell ⟨b, 0, none⟩ y0).setCell ⟨b, 1, none⟩ y1).heap[b]? = some (.cells #[y0, y1] 62 (0, 0)) ∧ Only (fun k => k = b) w ((w.setCell ⟨b, 0, none⟩ y0).setCell ⟨b, 1, none⟩ y1) := by
  have h0 : (w.setCell ⟨b, 0, none⟩ y0).heap[b]? = some (.cells #[y0, x1] 62 (0, 0)) := heap_setCell_same _ _ 0 _ _ y0 h
  exact ⟨heap_setCell_same _ _ 1 _ _ y1 h0, (only_cell w b 0 y0).trans (only_cell _ b 1 y1)⟩
set_option maxHeartbeats 2000000 in
theorem come_ok (hc : XcAt U w xb two16 es) (hu : UpAt w ub (uF es)) : Calls Tryd.prog 14 #[.pointer (some ⟨ub, 0, none⟩), .pointer (some ⟨xb, 0, none⟩)] w fun e w' => e = .returned (.bool true) ∧ Only (fun _ => False) w w' := by
  have HC := Vx.hid hc
  have HU := Vx.hid hu
  have HF : Hid (Wf two16 es ∧ Wx two16 es) := by
    obtain ⟨_, _, _, _, h1, h2, _⟩ := hc
    exact ⟨h1, h2⟩
  clear hc hu
  go_enter Tryd.func14, Tryd.ntmps14
  go_wp2_with fail
  go_loopw [5] (fun d wr => ∃ k : Nat, d = .int .i64 (k : Int) ∧ k ≤ 32 ∧ Hid (Only (fun _ => False) w wr)) (fun d _ => 32 - (intOf d).toNat)
  case atStart => exact ⟨0, rfl, by omega, Only.refl _ _⟩
  case round =>
    obtain ⟨k, rfl, hk, HO⟩ := hrel
    by_cases hlt : k < 32
    · have h1 : (k : Int) < 32 := by omega
      have hidk : 0 ≤ (k : Int) ∧ (k : Int) < 32 := by omega
      have hwk : IntKind.i64.wrap ((k : Int) + 1) = (k : Int) + 1 := by rw [IntKind.wrap_i64]; omega
      have HP := Vx.hid (fun wv => place_ok (k : Int) (by unfold I64; omega) wv)
      rw [pick_plc k hlt] at HP
      have HFR : Hid (∀ wv, Only (fun _ => False) w wv → Calls Tryd.prog 21 #[.pointer (some ⟨xb, 0, none⟩), .agg #[.int .i64 (plcN k).1, .int .i64 (plcN k).2]] wv fun e w' => e = .returned (.tuple #[slV (fromF two16 es (plcN k)).1, .int .i64 (fromF two16 es (plcN k)).2]) ∧ Only (fun _ => False) wv w') := fun wv hv => xfrom_ok (HC.out.quiet hv) (plcN k) (plc_i64 k hlt).1
      have HCS := Vx.hid (come_cases HF.out.1 HF.out.2 k hlt)
      have HCE : Hid (∀ wv, Only (fun _ => False) w wv → wv.cell? ⟨ub, k, none⟩ = some (.int .i64 (uF es k))) := fun wv hv => (HU.out.only hv (fun h => h)).cell k hlt
      clear hlt
      go_wp2_with fail
      refine (HP.out _).mono ?_
      rintro e w2 ⟨rfl, ho2⟩
      have HO2 : Hid (Only (fun _ => False) w w2) := HO.out.trans ho2
      unfold slV
      clear ho2 HO HP
      go_wp2_with fail
      refine (HFR.out _ HO2.out).mono ?_
      rintro e w3 ⟨rfl, ho3⟩
      have HO3 : Hid (Only (fun _ => False) w w3) := HO2.out.trans ho3
      clear ho3 HO2 HFR
      generalize fromF two16 es (plcN k) = fr at HCS ⊢
      obtain ⟨⟨f1, f2⟩, er⟩ := fr
      unfold slV
      dsimp only
      go_upto_region 6 with fail
      obtain ⟨w4, hw4⟩ : ∃ w4, w4 = (w3.alloc (.cells #[.int .i64 f1, .int .i64 f2] 62 (0, 0))).alloc (.cells #[.int .i64 (-1), .int .i64 (-1)] 62 (0, 0)) := ⟨_, rfl⟩
      rw [← hw4]
      have HO4 : Hid (Only (fun _ => False) w w4) := by rw [hw4]; exact (HO3.out.alloc _).alloc _
      have hb1 : w4.heap[w3.heap.size]? = some (.cells #[.int .i64 f1, .int .i64 f2] 62 (0, 0)) := by
        rw [hw4, RowKit.Below.heap_alloc _ _ _ (by simp)]; exact heap_alloc_last _ _
      have hb2 : w4.heap[w3.heap.size + 1]? = some (.cells #[.int .i64 (-1), .int .i64 (-1)] 62 (0, 0)) := by
        have h9 := heap_alloc_last (w3.alloc (.cells #[.int .i64 f1, .int .i64 f2] 62 (0, 0))) (.cells #[.int .i64 (-1), .int .i64 (-1)] 62 (0, 0))
        rw [show (w3.alloc (.cells #[.int .i64 f1, .int .i64 f2] 62 (0, 0))).heap.size = w3.heap.size + 1 by simp] at h9
        rw [hw4]; exact h9
      have HSZ : Hid (w.heap.size ≤ w3.heap.size) := HO3.out.size
      obtain ⟨fb, hfb⟩ : ∃ fb, fb = w3.heap.size := ⟨_, rfl⟩
      obtain ⟨wb, hwb⟩ : ∃ wb, wb = w3.heap.size + 1 := ⟨_, rfl⟩
      have HNE : Hid (fb ≠ wb ∧ w.heap.size ≤ wb) := ⟨by omega, by have := HSZ.out; omega⟩
      rw [← hwb] at hb2 ⊢
      rw [← hfb] at hb1 ⊢
      have HB1 := Vx.hid hb1
      have HB2 := Vx.hid hb2
      have c0 := HCE.out _ HO4.out
      obtain ⟨⟨y0, y1⟩, _⟩ := slot_cells hb1
      obtain ⟨⟨z0, z1⟩, _⟩ := slot_cells hb2
      clear hw4 hb1 hb2 hfb hwb HO3 HSZ
      rcases HCS.out with ⟨hu, hfr⟩ | ⟨hu, hfr⟩ | ⟨m, hm, hu, hfr⟩
      · injection hfr with h5 h6
        injection h5 with h7 h8
        subst h6 h7 h8
        rw [hu] at c0
        clear hu HCS
        go_wp2_with fail
        try (go_quiet (fail); go_wp2_with fail)
        go_roundw
        case rel => exact ⟨k + 1, by go_num, by omega, (by have := HO4.out; repeat' (first | exact this | refine Only.drewN ?_ _ | refine Only.drew ?_))⟩
        case measure => simp only [intOf]; omega
      · injection hfr with h5 h6
        injection h5 with h7 h8
        subst h6 h7 h8
        rw [hu] at c0
        clear hu HCS
        go_wp2_with fail
        try (go_quiet (fail); go_wp2_with fail)
        go_roundw
        case rel => exact ⟨k + 1, by go_num, by omega, (by have := HO4.out; repeat' (first | exact this | refine Only.drewN ?_ _ | refine Only.drew ?_))⟩
        case measure => simp only [intOf]; omega
      · injection hfr with h5 h6
        have h7 : f1 = (plcN m).1 := congrArg Prod.fst h5
        have h8 : f2 = (plcN m).2 := congrArg Prod.snd h5
        subst h6 h7 h8
        rw [hu] at c0
        have hge : 0 ≤ (m : Int) := by omega
        have HP := Vx.hid (fun wv => place_ok (m : Int) (by unfold I64; omega) wv)
        rw [pick_plc m hm] at HP
        have HCE2 : Hid (∀ wv, Only (fun _ => False) w wv → wv.cell? ⟨ub, k, none⟩ = some (.int .i64 (m : Int))) := fun wv hv => by rw [← hu]; exact HCE.out wv hv
        clear hu HCS h5 hm HCE y0 y1 z0 z1
        unfold slV at HP
        generalize (plcN m).1 = p1 at HP HB1 ⊢
        generalize (plcN m).2 = p2 at HP HB1 ⊢
        go_wp2_with fail
        refine (HP.out _).mono ?_
        rintro e w5 ⟨rfl, ho5⟩
        have HO5 : Hid (Only (fun _ => False) w w5) := HO4.out.trans ho5
        have HB5 := Vx.hid (Only.keep ho5 HB1.out (fun h => h))
        have hb2 := Only.keep ho5 HB2.out (fun h => h)
        obtain ⟨⟨z0, z1⟩, hfz⟩ := slot_cells hb2
        have fz0 := hfz 0
        have fz1 := hfz 1
        have HST := Vx.hid (slot_set hb2 (.int .i64 p1) (.int .i64 p2))
        clear ho5 HO4 HB1 HB2 hb2 hfz c0 HP
        go_upto_region 8 with fail
        obtain ⟨w6, hw6⟩ : ∃ w6, w6 = (w5.setCell ⟨wb, 0, none⟩ (.int .i64 p1)).setCell ⟨wb, 1, none⟩ (.int .i64 p2) := ⟨_, rfl⟩
        rw [← hw6] at HST ⊢
        clear hw6 z0 z1 fz0 fz1
        have HO6 : Hid (Only (fun _ => False) w w6) := HO5.out.beyond HST.out.2 (fun k hk => by rw [hk]; exact HNE.out.2)
        obtain ⟨⟨y0, y1⟩, _⟩ := slot_cells (Only.keep HST.out.2 HB5.out HNE.out.1)
        obtain ⟨⟨z0, z1⟩, _⟩ := slot_cells HST.out.1
        have c0 := HCE2.out _ HO6.out
        have hgt : -2 < (m : Int) := by omega
        clear HST HB5 HCE2
        go_wp2_with fail
        try (go_quiet (fail); go_wp2_with fail)
        go_roundw
        case rel => exact ⟨k + 1, by go_num, by omega, (by have := HO6.out; repeat' (first | exact this | refine Only.drewN ?_ _ | refine Only.drew ?_))⟩
        case measure => simp only [intOf]; omega
    · obtain rfl : k = 32 := by omega
      clear hlt
      go_wp2_with fail
      all_goals
        go_ret
        exact ⟨rfl, HO.out⟩
end Go.Proofs.YtbmchgjilkoplaaDoor

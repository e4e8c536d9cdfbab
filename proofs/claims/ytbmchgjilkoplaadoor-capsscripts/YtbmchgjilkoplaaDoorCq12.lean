import Derived.Test.YtbmchgjilkoplaaDoorCq11
import Derived.Deep.CutRange
/- Chapter 7, the document's store: insert. -/
namespace Go.Proofs.YtbmchgjilkoplaaDoor
open Go.ChangeShapes Go.WideShapes Go.ChangeAt Go.RowKit
open Go.Vx
set_option linter.unusedVariables false

/-- Where a new entry comes to stand, among the first k. -/
def insP (es : List En) (x : En) : Nat → Nat
  | 0 => 0
  | k + 1 => if aheadB x.at' (es.getD k .df).at' then insP es x k else k + 1
def insK (es : List En) (x : En) (k : Nat) : List En := es.take k ++ x :: es.drop k
def insF (es : List En) (x : En) : List En := insK es x (insP es x es.length)
theorem insK_len (es : List En) (x : En) (k : Nat) : (insK es x k).length = es.length + 1 := by
  unfold insK
  rw [List.length_append, List.length_cons, List.length_take, List.length_drop]
  omega
theorem insK_at (es : List En) (x : En) (k : Nat) (hk : k ≤ es.length) : (insK es x k)[k]? = some x := by
  unfold insK
  rw [List.getElem?_append_right (by rw [List.length_take]; omega), List.length_take, Nat.min_eq_left hk, Nat.sub_self]
  rfl
theorem insK_below (es : List En) (x : En) (k : Nat) (hk : k < es.length) : (insK es x (k + 1))[k]? = some es[k] := by
  unfold insK
  rw [List.getElem?_append_left (by rw [List.length_take]; omega), List.getElem?_take, if_pos (by omega), List.getElem?_eq_getElem hk]
theorem insK_swap (es : List En) (x : En) (k : Nat) (hk : k < es.length) : ((insK es x (k + 1)).set (k + 1) es[k]).set k x = insK es x k := by
  apply List.ext_getElem?
  intro j
  rw [List.getElem?_set, List.getElem?_set]
  simp only [List.length_set, insK_len]
  by_cases h1 : k = j
  · subst h1
    rw [if_pos rfl, if_pos (by omega), insK_at es x k (by omega)]
  · rw [if_neg h1]
    by_cases h2 : k + 1 = j
    · subst h2
      rw [if_pos rfl, if_pos (by omega)]
      unfold insK
      rw [List.getElem?_append_right (by rw [List.length_take]; omega), List.length_take, Nat.min_eq_left (by omega), show k + 1 - k = 1 by omega, List.getElem?_cons_succ, List.getElem?_drop, Nat.add_zero, List.getElem?_eq_getElem hk]
    · rw [if_neg h2]
      unfold insK
      by_cases h3 : j < k
      · rw [List.getElem?_append_left (by rw [List.length_take]; omega), List.getElem?_append_left (by rw [List.length_take]; omega), List.getElem?_take, List.getElem?_take, if_pos (by omega), if_pos h3]
      · rw [List.getElem?_append_right (by rw [List.length_take]; omega), List.getElem?_append_right (by rw [List.length_take]; omega), List.length_take, List.length_take, Nat.min_eq_left (by omega), Nat.min_eq_left (by omega)]
        obtain ⟨d, rfl⟩ : ∃ d, j = k + 1 + 1 + d := ⟨j - (k + 2), by omega⟩
        rw [show k + 1 + 1 + d - (k + 1) = d + 1 by omega, show k + 1 + 1 + d - k = d + 1 + 1 by omega, List.getElem?_cons_succ, List.getElem?_cons_succ, List.getElem?_drop, List.getElem?_drop]
        congr 1
        omega
theorem getD_at (es : List En) (k : Nat) (hk : k < es.length) : es.getD k .df = es[k] := by rw [List.getD_eq_getElem?_getD, List.getElem?_eq_getElem hk]; rfl
theorem insK_below2 (es : List En) (x : En) (k : Nat) (hk : k < es.length) : (insK es x (k + 1))[k]? = some (es.getD k .df) := by rw [getD_at es k hk]; exact insK_below es x k hk
theorem insK_swap2 (es : List En) (x : En) (k : Nat) (hk : k < es.length) : ((insK es x (k + 1)).set (k + 1) (es.getD k .df)).set k x = insK es x k := by rw [getD_at es k hk]; exact insK_swap es x k hk
theorem insK_end (es : List En) (x : En) : insK es x es.length = es ++ [x] := by
  unfold insK
  rw [List.take_length, List.drop_length]
def enV (x : En) : Array Value := #[.int .i64 x.at'.1, .int .i64 x.at'.2, .int .i64 x.cap.kind, .int .i64 x.cap.num, .int .i64 x.cap.rights, .int .u32 x.cap.badge, .int .u32 x.cap.guard, .int .i64 x.cap.gbits, .int .i64 x.cap.root, .int .u32 x.cap.va, .int .i64 x.from'.1, .int .i64 x.from'.2]
set_option maxRecDepth 100000 in
set_option maxHeartbeats 4000000 in
theorem insert_ok {U : Nat → Prop} {w : World} {rb : Nat} {bs : List (Int × Int)} {es : List En} (hc : RcAt U w rb bs es) (x : En) (hlen : es.length < 1000000) : Calls Tryd.prog 64 #[.pointer (some ⟨rb, 0, none⟩), .agg (enV x)] w fun e w' => e = .returned (.tuple #[]) ∧ RcAt U w' rb bs (insF es x) ∧ Only (fun k => ¬ U k) w w' := by
  obtain ⟨vb, ve, h⟩ := hc
  obtain ⟨w1, hw1⟩ : ∃ w1, w1 = w.alloc (.cells (enV x) 72) := ⟨_, rfl⟩
  have hon : Only (fun _ => False) w w1 := by rw [hw1]; exact (Only.refl _ w).alloc _
  have h1 := h.quiet hon
  have hX : w1.heap[w.heap.size]? = some (.cells (enV x) 72 (0, 0)) := by rw [hw1]; exact heap_alloc_last w _
  obtain ⟨xb, hxb⟩ : ∃ xb, xb = w.heap.size := ⟨_, rfl⟩
  rw [← hxb] at hX
  have c1 := h1.c1
  have f1 := h1.fz 1
  obtain ⟨⟨xa1, xa2⟩, ⟨xc0, xc1, xc2, xc3, xc4, xc5, xc6, xc7⟩, ⟨xf1, xf2⟩⟩ := x
  unfold enV at hw1 hX ⊢
  dsimp only at hw1 hX ⊢
  have x0 : w1.cell? ⟨xb, 0, none⟩ = some (.int .i64 xa1) := (cell_of_row _ _ 0 _ _ (0, 0) hX).trans rfl
  have x1 : w1.cell? ⟨xb, 1, none⟩ = some (.int .i64 xa2) := (cell_of_row _ _ 1 _ _ (0, 0) hX).trans rfl
  have x2 : w1.cell? ⟨xb, 2, none⟩ = some (.int .i64 xc0) := (cell_of_row _ _ 2 _ _ (0, 0) hX).trans rfl
  have x3 : w1.cell? ⟨xb, 3, none⟩ = some (.int .i64 xc1) := (cell_of_row _ _ 3 _ _ (0, 0) hX).trans rfl
  have x4 : w1.cell? ⟨xb, 4, none⟩ = some (.int .i64 xc2) := (cell_of_row _ _ 4 _ _ (0, 0) hX).trans rfl
  have x5 : w1.cell? ⟨xb, 5, none⟩ = some (.int .u32 xc3) := (cell_of_row _ _ 5 _ _ (0, 0) hX).trans rfl
  have x6 : w1.cell? ⟨xb, 6, none⟩ = some (.int .u32 xc4) := (cell_of_row _ _ 6 _ _ (0, 0) hX).trans rfl
  have x7 : w1.cell? ⟨xb, 7, none⟩ = some (.int .i64 xc5) := (cell_of_row _ _ 7 _ _ (0, 0) hX).trans rfl
  have x8 : w1.cell? ⟨xb, 8, none⟩ = some (.int .i64 xc6) := (cell_of_row _ _ 8 _ _ (0, 0) hX).trans rfl
  have x9 : w1.cell? ⟨xb, 9, none⟩ = some (.int .u32 xc7) := (cell_of_row _ _ 9 _ _ (0, 0) hX).trans rfl
  have x10 : w1.cell? ⟨xb, 10, none⟩ = some (.int .i64 xf1) := (cell_of_row _ _ 10 _ _ (0, 0) hX).trans rfl
  have x11 : w1.cell? ⟨xb, 11, none⟩ = some (.int .i64 xf2) := (cell_of_row _ _ 11 _ _ (0, 0) hX).trans rfl
  have HH := Vx.hid h
  have H1 := Vx.hid h1
  clear h h1 hX
  go_enter Tryd.func64, Tryd.ntmps64
  go_wp2_with fail
  rw [← hw1, ← hxb]
  have HXB := Vx.hid (⟨hxb, hon⟩ : _ ∧ _)
  clear hw1 hxb hon
  obtain ⟨wd, hwd⟩ : ∃ wd, wd = (w1.alloc (.cells #[.int .i64 xa1, .int .i64 xa2, .int .i64 xc0, .int .i64 xc1, .int .i64 xc2, .int .u32 xc3, .int .u32 xc4, .int .i64 xc5, .int .i64 xc6, .int .u32 xc7, .int .i64 xf1, .int .i64 xf2] 72)).drew := ⟨_, rfl⟩
  have hond : Only (fun _ => False) w1 wd := by rw [hwd]; exact ((Only.refl _ w1).alloc _).drew
  have hyd : ∀ j u, (enL.cf ⟨(xa1, xa2), ⟨xc0, xc1, xc2, xc3, xc4, xc5, xc6, xc7⟩, (xf1, xf2)⟩)[j]? = some u → wd.cell? ⟨w1.heap.size, j, none⟩ = some u := fun j u hj => by
    have hl : wd.heap[w1.heap.size]? = some (.cells #[.int .i64 xa1, .int .i64 xa2, .int .i64 xc0, .int .i64 xc1, .int .i64 xc2, .int .u32 xc3, .int .u32 xc4, .int .i64 xc5, .int .i64 xc6, .int .u32 xc7, .int .i64 xf1, .int .i64 xf2] 72 (0, 0)) := by rw [hwd]; exact heap_alloc_last w1 _
    rw [cell_of_row _ _ j _ _ (0, 0) hl]
    have hj2 : (enC ⟨(xa1, xa2), ⟨xc0, xc1, xc2, xc3, xc4, xc5, xc6, xc7⟩, (xf1, xf2)⟩)[j]? = some u := hj
    rw [enC_eq] at hj2
    simpa using hj2
  have HOD := Vx.hid (H1.out.quiet hond).e
  have HYD := Vx.hid hyd
  have HOW := Vx.hid (HXB.out.2.trans hond)
  have HLE : Hid (es.length + 1 ≤ 10000000) := Nat.le_trans hlen (by decide)
  have HLF : Hid ((es ++ [(⟨(xa1, xa2), ⟨xc0, xc1, xc2, xc3, xc4, xc5, xc6, xc7⟩, (xf1, xf2)⟩ : En)]).length ≤ 1000000) := by show (es ++ [(⟨(xa1, xa2), ⟨xc0, xc1, xc2, xc3, xc4, xc5, xc6, xc7⟩, (xf1, xf2)⟩ : En)]).length ≤ 1000000; rw [List.length_append]; exact hlen
  have HST : Hid (∀ v' w3, OwnL enL w3 0 72 v' (es ++ [(⟨(xa1, xa2), ⟨xc0, xc1, xc2, xc3, xc4, xc5, xc6, xc7⟩, (xf1, xf2)⟩ : En)]) → Only (fun k => ve.ownBlock = some k) wd w3 → (v'.ownBlock = ve.ownBlock ∨ ∃ g, v'.ownBlock = some g ∧ wd.heap.size ≤ g ∧ Only (fun _ => False) wd w3) → (∃ p m c, v' = .slice p m c) ∧ (∃ x, w3.cell? ⟨rb, 1, none⟩ = some x) ∧ w3.frozen? ⟨rb, 1, none⟩ = false ∧ Hid (RsAt U (w3.setCell ⟨rb, 1, none⟩ v') rb vb v' bs (es ++ [(⟨(xa1, xa2), ⟨xc0, xc1, xc2, xc3, xc4, xc5, xc6, xc7⟩, (xf1, xf2)⟩ : En)]) ∧ Only (fun k => ¬ U k) w (w3.setCell ⟨rb, 1, none⟩ v'))) := fun v' w3 a1 a2 a3 => by
    obtain ⟨q1, q2, q3, q4⟩ := HH.out.setE a1 ((HOW.out.mono (fun _ _ h => h.elim)).trans a2) (fun k hk => (lies_of a3 k hk).imp (fun h => h) (fun h => Nat.le_trans HOW.out.size h)) HLF.out
    obtain ⟨p, c, hv, _⟩ := a1.form
    exact ⟨⟨p, _, c, hv⟩, q1, q2, q3, q4⟩
  have hrl : rb < w1.heap.size := lt_of_some H1.out.r
  have hxl : xb < w1.heap.size := World.block_lt_of_cell? w1 ⟨xb, 0, none⟩ x0
  clear hond hyd hlen
  go_cut [14] from 7 to 16 (fun _ wx => ∃ v, Hid (RsAt U wx rb vb v bs (es ++ [(⟨(xa1, xa2), ⟨xc0, xc1, xc2, xc3, xc4, xc5, xc6, xc7⟩, (xf1, xf2)⟩ : En)])) ∧ Hid (Only (fun k => ¬ U k) w wx))
  case first =>
    go_region_law (refine Vx.step_append_one enK rfl (.tmp 11) (.tmp 13) rfl 0 ve es (by simp [Act.eval]) (by rw [← hwd]; exact HOD.out) ⟨(xa1, xa2), ⟨xc0, xc1, xc2, xc3, xc4, xc5, xc6, xc7⟩, (xf1, xf2)⟩ w1.heap.size 1 1 (by simp [Act.eval]) (by rw [← hwd]; exact HYD.out) HLE.out (Nat.zero_le _) ?_; intro v' w3 hv1 hv2 hv3; rw [← hwd] at hv2 hv3; obtain ⟨⟨pq, mq, cq, rfl⟩, ⟨qx, hq1⟩, hq2, HQ3⟩ := HST.out v' w3 hv1 hv2 hv3; clear hv1 hv2 hv3)
    all_goals
      go_wp2_with fail
      go_meet
      exact ⟨_, HQ3.out.1, HQ3.out.2⟩
  case rest =>
    clear x0 x1 x2 x3 x4 x5 x6 x7 x8 x9 x10 x11 HST HYD HOD HLF HLE HOW HH H1 c1 f1 hwd hrl hxl
    obtain ⟨v0, HR0, HO0⟩ := hcut
    have hx0 : insK es ⟨(xa1, xa2), ⟨xc0, xc1, xc2, xc3, xc4, xc5, xc6, xc7⟩, (xf1, xf2)⟩ es.length = es ++ [(⟨(xa1, xa2), ⟨xc0, xc1, xc2, xc3, xc4, xc5, xc6, xc7⟩, (xf1, xf2)⟩ : En)] := insK_end es _
    rw [← hx0] at HR0
    clear hx0
    obtain ⟨N, hN⟩ : ∃ N, N = es.length := ⟨_, rfl⟩
    have HN := Vx.hid hN
    have hNl : N ≤ 1000000 := by have h3 := HR0.out.ne; rw [insK_len] at h3; omega
    obtain ⟨p0, c0, hv0, _⟩ := HR0.out.e.form
    rw [insK_len, ← hN] at hv0
    subst hv0
    have c1 := HR0.out.c1
    have hw0 : IntKind.i64.wrap (N : Int) = (N : Int) := by rw [IntKind.wrap_i64]; omega
    have HRC : Hid (RcAt U wc rb bs (insK es ⟨(xa1, xa2), ⟨xc0, xc1, xc2, xc3, xc4, xc5, xc6, xc7⟩, (xf1, xf2)⟩ N)) := ⟨_, _, by rw [hN]; exact HR0.out⟩
    have HPN : Hid (insP es ⟨(xa1, xa2), ⟨xc0, xc1, xc2, xc3, xc4, xc5, xc6, xc7⟩, (xf1, xf2)⟩ N = insP es ⟨(xa1, xa2), ⟨xc0, xc1, xc2, xc3, xc4, xc5, xc6, xc7⟩, (xf1, xf2)⟩ es.length) := by show insP es _ N = _; rw [hN]
    clear HR0 hN
    go_wp2_with fail
    go_loopw [4] (fun d wx => ∃ j : Nat, d = .int .i64 (j : Int) ∧ j ≤ N ∧ Hid (insP es ⟨(xa1, xa2), ⟨xc0, xc1, xc2, xc3, xc4, xc5, xc6, xc7⟩, (xf1, xf2)⟩ j = insP es ⟨(xa1, xa2), ⟨xc0, xc1, xc2, xc3, xc4, xc5, xc6, xc7⟩, (xf1, xf2)⟩ es.length) ∧ Hid (RcAt U wx rb bs (insK es ⟨(xa1, xa2), ⟨xc0, xc1, xc2, xc3, xc4, xc5, xc6, xc7⟩, (xf1, xf2)⟩ j)) ∧ Hid (Only (fun k => ¬ U k) w wx)) (fun d _ => (intOf d).toNat)
    case atStart => exact ⟨N, by first | rfl | (simp), Nat.le_refl _, HPN, HRC, HO0⟩
    case round =>
      clear HRC HPN HO0 c1 hw0
      obtain ⟨j, rfl, hj, HP, HRC, HO⟩ := hrel
      by_cases hj0 : j = 0
      · subst hj0
        have HF : Hid (insF es ⟨(xa1, xa2), ⟨xc0, xc1, xc2, xc3, xc4, xc5, xc6, xc7⟩, (xf1, xf2)⟩ = insK es ⟨(xa1, xa2), ⟨xc0, xc1, xc2, xc3, xc4, xc5, xc6, xc7⟩, (xf1, xf2)⟩ 0) := by show insF es _ = _; unfold insF; rw [← HP.out]; rfl
        go_wp2_with fail
        all_goals
          go_end0
          exact ⟨rfl, by rw [HF.out]; exact HRC.out, HO.out⟩
      · obtain ⟨i, hi⟩ : ∃ i, j = i + 1 := ⟨j - 1, by omega⟩
        have HI := Vx.hid hi
        have hil : i < es.length := by have := HN.out; omega
        have HIL := Vx.hid hil
        obtain ⟨vb', ve', hrs⟩ := HRC.out
        obtain ⟨p, c, hv, _, _, hg⟩ := hrs.e.form
        obtain ⟨g, rfl, _⟩ := hg (by rw [insK_len]; omega)
        rw [insK_len, ← HN.out] at hv
        subst hv
        have c1 := hrs.c1
        have hJ : j < (insK es ⟨(xa1, xa2), ⟨xc0, xc1, xc2, xc3, xc4, xc5, xc6, xc7⟩, (xf1, xf2)⟩ j).length := by rw [insK_len]; have := HN.out; omega
        have hI : i < (insK es ⟨(xa1, xa2), ⟨xc0, xc1, xc2, xc3, xc4, xc5, xc6, xc7⟩, (xf1, xf2)⟩ j).length := by rw [insK_len]; have := HN.out; omega
        have eJ : (insK es ⟨(xa1, xa2), ⟨xc0, xc1, xc2, xc3, xc4, xc5, xc6, xc7⟩, (xf1, xf2)⟩ j)[j] = ⟨(xa1, xa2), ⟨xc0, xc1, xc2, xc3, xc4, xc5, xc6, xc7⟩, (xf1, xf2)⟩ := by have h3 := insK_at es ⟨(xa1, xa2), ⟨xc0, xc1, xc2, xc3, xc4, xc5, xc6, xc7⟩, (xf1, xf2)⟩ j (by have := HN.out; omega); rw [List.getElem?_eq_getElem hJ] at h3; injection h3
        have eI : (insK es ⟨(xa1, xa2), ⟨xc0, xc1, xc2, xc3, xc4, xc5, xc6, xc7⟩, (xf1, xf2)⟩ j)[i] = es.getD i .df := by
          have h3 := insK_below2 es ⟨(xa1, xa2), ⟨xc0, xc1, xc2, xc3, xc4, xc5, xc6, xc7⟩, (xf1, xf2)⟩ i hil
          rw [← hi, List.getElem?_eq_getElem hI] at h3
          injection h3
        have qJ := own_e12 hrs.e j hJ
        have qI := own_e12 hrs.e i hI
        rw [eJ] at qJ
        rw [eI] at qI
        obtain ⟨a0, a1, a2, a3, a4, a5, a6, a7, a8, a9, a10, a11⟩ := qJ
        obtain ⟨b0, b1, b2, b3, b4, b5, b6, b7, b8, b9, b10, b11⟩ := qI
        have HRS := Vx.hid hrs
        have HAH := Vx.hid (fun wv => ahead_ok ((xa1, xa2) : Sl) (es.getD i .df).at' wv)
        have hjp : (0 : Int) < (j : Int) := by omega
        have hdj : 0 ≤ (j : Int) ∧ (j : Int) < ((N + 1 : Nat) : Int) := by omega
        have hdj' : 0 ≤ (j : Int) ∧ (j : Int) < (N : Int) + 1 := by omega
        have hdi : 0 ≤ (i : Int) ∧ (i : Int) < ((N + 1 : Nat) : Int) := by omega
        have hdi' : 0 ≤ (i : Int) ∧ (i : Int) < (N : Int) + 1 := by omega
        have hwj : IntKind.i64.wrap ((j : Int) - 1) = (i : Int) := by rw [IntKind.wrap_i64]; omega
        generalize hze : es.getD i .df = ze at b0 b1 b2 b3 b4 b5 b6 b7 b8 b9 b10 b11 HAH eI
        obtain ⟨⟨za1, za2⟩, ⟨zc0, zc1, zc2, zc3, zc4, zc5, zc6, zc7⟩, ⟨zf1, zf2⟩⟩ := ze
        dsimp only at b0 b1 b2 b3 b4 b5 b6 b7 b8 b9 b10 b11 a0 a1 a2 a3 a4 a5 a6 a7 a8 a9 a10 a11 HAH
        have HZE := Vx.hid hze
        have HEI := Vx.hid eI
        have HEJ := Vx.hid eJ
        clear hi hil hrs hg eJ eI hj0 hze HRC
        go_upto_region 5 with fail
        go_cut [5] from 23 to 75 (fun v wx => v = .bool (aheadB (xa1, xa2) (za1, za2)) ∧ Hid (Only (fun _ => False) wr wx))
        case first =>
          go_region_law (refine Vx.step_callx rfl 75 #[.tmp 34, .tmp 43] #[62, 62] rfl #[.agg #[.int .i64 xa1, .int .i64 xa2], .agg #[.int .i64 za1, .int .i64 za2]] (by simp [Act.eval]) (by simp [go_sem]) (HAH.out _) ?_; rintro e w5 ⟨rfl, h5⟩; have H5 := Vx.hid h5; clear h5; refine ⟨_, rfl, ?_⟩)
          all_goals
            go_wp2_with fail
            go_meet
            exact ⟨rfl, ((Only.refl _ wr).drew).trans H5.out⟩
        case rest =>
          obtain ⟨rfl, HW5⟩ := hcut
          have hst : insP es ⟨(xa1, xa2), ⟨xc0, xc1, xc2, xc3, xc4, xc5, xc6, xc7⟩, (xf1, xf2)⟩ (i + 1) = if aheadB (xa1, xa2) (za1, za2) then insP es ⟨(xa1, xa2), ⟨xc0, xc1, xc2, xc3, xc4, xc5, xc6, xc7⟩, (xf1, xf2)⟩ i else i + 1 := by
            show (if aheadB (xa1, xa2) (es.getD i .df).at' then insP es ⟨(xa1, xa2), ⟨xc0, xc1, xc2, xc3, xc4, xc5, xc6, xc7⟩, (xf1, xf2)⟩ i else i + 1) = _
            rw [HZE.out]
          cases hab : aheadB (xa1, xa2) (za1, za2)
          · rw [hab] at hst
            have HF : Hid (insF es ⟨(xa1, xa2), ⟨xc0, xc1, xc2, xc3, xc4, xc5, xc6, xc7⟩, (xf1, xf2)⟩ = insK es ⟨(xa1, xa2), ⟨xc0, xc1, xc2, xc3, xc4, xc5, xc6, xc7⟩, (xf1, xf2)⟩ j) := by
              show insF es _ = _
              unfold insF
              rw [← HP.out, HI.out, hst]
              rfl
            have HRW := Vx.hid (HRS.out.quiet HW5.out)
            clear hst hab
            go_wp2_with fail
            all_goals
              go_end0
              exact ⟨rfl, by rw [HF.out]; exact ⟨_, _, HRW.out⟩, HO.out.trans (HW5.out.mono (fun _ _ h => h.elim))⟩
          · rw [hab] at hst
            have HPI : Hid (insP es ⟨(xa1, xa2), ⟨xc0, xc1, xc2, xc3, xc4, xc5, xc6, xc7⟩, (xf1, xf2)⟩ i = insP es ⟨(xa1, xa2), ⟨xc0, xc1, xc2, xc3, xc4, xc5, xc6, xc7⟩, (xf1, xf2)⟩ es.length) := by
              show insP es _ i = _
              rw [← HP.out, HI.out, hst]
              rfl
            have HRW := Vx.hid (HRS.out.quiet HW5.out)
            have c1w := HRW.out.c1
            have hrl : rb < wc.heap.size := lt_of_some HRW.out.r
            have qJ := own_e12 HRW.out.e j hJ
            rw [HEJ.out] at qJ
            obtain ⟨d0, d1, d2, d3, d4, d5, d6, d7, d8, d9, d10, d11⟩ := qJ
            dsimp only at d0 d1 d2 d3 d4 d5 d6 d7 d8 d9 d10 d11
            clear hst hab c1 a0 a1 a2 a3 a4 a5 a6 a7 a8 a9 a10 a11 b0 b1 b2 b3 b4 b5 b6 b7 b8 b9 b10 b11
            go_upto_region 8 with fail
            obtain ⟨w7, hw7⟩ : ∃ w7, w7 = wc.alloc (.cells #[.int .i64 xa1, .int .i64 xa2, .int .i64 xc0, .int .i64 xc1, .int .i64 xc2, .int .u32 xc3, .int .u32 xc4, .int .i64 xc5, .int .i64 xc6, .int .u32 xc7, .int .i64 xf1, .int .i64 xf2] 72) := ⟨_, rfl⟩
            obtain ⟨yb, hyb⟩ : ∃ yb, yb = wc.heap.size := ⟨_, rfl⟩
            rw [← hw7, ← hyb]
            have hon7 : Only (fun _ => False) wc w7 := by rw [hw7]; exact (Only.refl _ wc).alloc _
            have HR7 := Vx.hid (HRW.out.quiet hon7)
            have hy7 : w7.heap[yb]? = some (.cells #[.int .i64 xa1, .int .i64 xa2, .int .i64 xc0, .int .i64 xc1, .int .i64 xc2, .int .u32 xc3, .int .u32 xc4, .int .i64 xc5, .int .i64 xc6, .int .u32 xc7, .int .i64 xf1, .int .i64 xf2] 72 (0, 0)) := by rw [hw7, hyb]; exact heap_alloc_last wc _
            have hgy : ¬ g = yb := by rw [hyb]; have := (own_lt HRW.out.e (k := g) rfl).2; omega
            have c17 := HR7.out.c1
            have mf := own_fz HR7.out.e
            have qJ7 := own_e12 HR7.out.e j hJ
            have qI7 := own_e12 HR7.out.e i hI
            rw [HEJ.out] at qJ7
            rw [HEI.out] at qI7
            obtain ⟨e0, e1, e2, e3, e4, e5, e6, e7, e8, e9, e10, e11⟩ := qJ7
            obtain ⟨f0, f1, f2, f3, f4, f5, f6, f7, f8, f9, f10, f11⟩ := qI7
            dsimp only at e0 e1 e2 e3 e4 e5 e6 e7 e8 e9 e10 e11 f0 f1 f2 f3 f4 f5 f6 f7 f8 f9 f10 f11
            have HOE := Vx.hid (own_ent HR7.out.e (by rw [insK_len, ← HN.out]) j hJ ⟨(za1, za2), ⟨zc0, zc1, zc2, zc3, zc4, zc5, zc6, zc7⟩, (zf1, zf2)⟩)
            have HY7 := Vx.hid (⟨hy7, hgy, hon7⟩ : _ ∧ _ ∧ _)
            clear hw7 hyb hon7 hy7 c1w hrl d0 d1 d2 d3 d4 d5 d6 d7 d8 d9 d10 d11
            go_region
            obtain ⟨X8, hX8⟩ : ∃ X8, X8 = ((((((((((((w7.setCell ⟨g, j * 12, none⟩ (.int .i64 za1)).setCell ⟨g, j * 12 + 1, none⟩ (.int .i64 za2)).setCell ⟨g, j * 12 + 2, none⟩ (.int .i64 zc0)).setCell ⟨g, j * 12 + 3, none⟩ (.int .i64 zc1)).setCell ⟨g, j * 12 + 4, none⟩ (.int .i64 zc2)).setCell ⟨g, j * 12 + 5, none⟩ (.int .u32 zc3)).setCell ⟨g, j * 12 + 6, none⟩ (.int .u32 zc4)).setCell ⟨g, j * 12 + 7, none⟩ (.int .i64 zc5)).setCell ⟨g, j * 12 + 8, none⟩ (.int .i64 zc6)).setCell ⟨g, j * 12 + 9, none⟩ (.int .u32 zc7)).setCell ⟨g, j * 12 + 10, none⟩ (.int .i64 zf1)).setCell ⟨g, j * 12 + 11, none⟩ (.int .i64 zf2)) := ⟨_, rfl⟩
            obtain ⟨r1, r2⟩ := HR7.out.inplace HOE.out.1 HOE.out.2 (by rw [List.length_set])
            have r3 := HOE.out.2
            rw [← hX8] at r1 r2 r3 ⊢
            obtain ⟨w8, hw8⟩ : ∃ w8, w8 = X8.drew := ⟨_, rfl⟩
            have hon8 : Only (fun _ => False) X8 w8 := by rw [hw8]; exact (Only.refl _ X8).drew
            rw [← hw8]
            have hy8 := (hon8.block yb (by have h3 := r3.size; have h4 := lt_of_some HY7.out.1; omega) (fun h => h)).trans ((r3.block yb (lt_of_some HY7.out.1) (fun h => HY7.out.2.1 h.symm)).trans HY7.out.1)
            have HR8 := Vx.hid (r1.quiet hon8)
            have HO8 := Vx.hid (((HO.out.trans (HW5.out.mono (fun _ _ h => h.elim))).trans (HY7.out.2.2.mono (fun _ _ h => h.elim))).trans (r2.trans (hon8.mono (fun _ _ h => h.elim))))
            have c18 := HR8.out.c1
            have mf8 := own_fz HR8.out.e
            have hI8 : i < ((insK es ⟨(xa1, xa2), ⟨xc0, xc1, xc2, xc3, xc4, xc5, xc6, xc7⟩, (xf1, xf2)⟩ j).set j ⟨(za1, za2), ⟨zc0, zc1, zc2, zc3, zc4, zc5, zc6, zc7⟩, (zf1, zf2)⟩).length := by rw [List.length_set]; exact hI
            obtain ⟨h0, h1, h2, h3, h4, h5, h6, h7, h8, h9, h10, h11⟩ := own_e12 HR8.out.e i hI8
            have y0 : w8.cell? ⟨yb, 0, none⟩ = some (.int .i64 xa1) := (cell_of_row _ _ 0 _ _ (0, 0) hy8).trans rfl
            have y1 : w8.cell? ⟨yb, 1, none⟩ = some (.int .i64 xa2) := (cell_of_row _ _ 1 _ _ (0, 0) hy8).trans rfl
            have y2 : w8.cell? ⟨yb, 2, none⟩ = some (.int .i64 xc0) := (cell_of_row _ _ 2 _ _ (0, 0) hy8).trans rfl
            have y3 : w8.cell? ⟨yb, 3, none⟩ = some (.int .i64 xc1) := (cell_of_row _ _ 3 _ _ (0, 0) hy8).trans rfl
            have y4 : w8.cell? ⟨yb, 4, none⟩ = some (.int .i64 xc2) := (cell_of_row _ _ 4 _ _ (0, 0) hy8).trans rfl
            have y5 : w8.cell? ⟨yb, 5, none⟩ = some (.int .u32 xc3) := (cell_of_row _ _ 5 _ _ (0, 0) hy8).trans rfl
            have y6 : w8.cell? ⟨yb, 6, none⟩ = some (.int .u32 xc4) := (cell_of_row _ _ 6 _ _ (0, 0) hy8).trans rfl
            have y7 : w8.cell? ⟨yb, 7, none⟩ = some (.int .i64 xc5) := (cell_of_row _ _ 7 _ _ (0, 0) hy8).trans rfl
            have y8 : w8.cell? ⟨yb, 8, none⟩ = some (.int .i64 xc6) := (cell_of_row _ _ 8 _ _ (0, 0) hy8).trans rfl
            have y9 : w8.cell? ⟨yb, 9, none⟩ = some (.int .u32 xc7) := (cell_of_row _ _ 9 _ _ (0, 0) hy8).trans rfl
            have y10 : w8.cell? ⟨yb, 10, none⟩ = some (.int .i64 xf1) := (cell_of_row _ _ 10 _ _ (0, 0) hy8).trans rfl
            have y11 : w8.cell? ⟨yb, 11, none⟩ = some (.int .i64 xf2) := (cell_of_row _ _ 11 _ _ (0, 0) hy8).trans rfl
            have HOE9 := Vx.hid (own_ent HR8.out.e (by rw [List.length_set, insK_len, ← HN.out]) i hI8 ⟨(xa1, xa2), ⟨xc0, xc1, xc2, xc3, xc4, xc5, xc6, xc7⟩, (xf1, xf2)⟩)
            have HSW : Hid (((insK es ⟨(xa1, xa2), ⟨xc0, xc1, xc2, xc3, xc4, xc5, xc6, xc7⟩, (xf1, xf2)⟩ j).set j ⟨(za1, za2), ⟨zc0, zc1, zc2, zc3, zc4, zc5, zc6, zc7⟩, (zf1, zf2)⟩).set i ⟨(xa1, xa2), ⟨xc0, xc1, xc2, xc3, xc4, xc5, xc6, xc7⟩, (xf1, xf2)⟩ = insK es ⟨(xa1, xa2), ⟨xc0, xc1, xc2, xc3, xc4, xc5, xc6, xc7⟩, (xf1, xf2)⟩ i) := by
              have h3 := insK_swap2 es ⟨(xa1, xa2), ⟨xc0, xc1, xc2, xc3, xc4, xc5, xc6, xc7⟩, (xf1, xf2)⟩ i HIL.out
              rw [← HI.out, HZE.out] at h3
              exact h3
            clear hX8 hw8 hon8 hy8 r1 r2 r3 HOE HR7 HY7 c17 mf e0 e1 e2 e3 e4 e5 e6 e7 e8 e9 e10 e11 f0 f1 f2 f3 f4 f5 f6 f7 f8 f9 f10 f11
            go_upto_region 9 with fail
            go_region
            all_goals
              go_wp2_with fail
              go_roundw
              case rel =>
                obtain ⟨r1, r2⟩ := HR8.out.inplace HOE9.out.1 HOE9.out.2 (by rw [List.length_set])
                rw [HSW.out] at r1
                exact ⟨i, rfl, by have h3 := HI.out; omega, HPI, ⟨_, _, r1.quiet ((Only.refl _ _).drew)⟩, (HO8.out.trans r2).drew⟩
              case measure => simp only [intOf]; have h3 := HI.out; omega
end Go.Proofs.YtbmchgjilkoplaaDoor

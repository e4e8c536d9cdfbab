/- Chapter 10, the program's bus: Line. -/
import Derived.Test.YtdpgdjpphnbfnaaIX7
import Derived.Test.YtdpgdjpphnbfnaaIQ5
namespace Go.Proofs.Ytdpgdjpphnbfnaa
open Go.ChangeShapes Go.WideShapes Go.ChangeAt Go.RowKit Go.Shelf
open Go.Vx
set_option linter.unusedVariables false
attribute [local go_sem] Oper.semAt_some
variable {U V S : Nat → Prop} {w w2 w3 w4 : World} {xb mp mw : Nat} {DP DW DP2 DW2 : DataW Value} {GP GW GP2 GW2 : Int → Nat} {Q : Int → Value} {s : Bs}

def lineT (w : World) (s : Bs) (n : Int) (e : Ending) (w' : World) : Prop := ∃ v, e = .returned (.tuple #[v, .int .i64 (lineE s n)]) ∧ OwnL inL w' w.heap.size 3 v (lineR s n) ∧ Only (fun _ => False) w w'
set_option maxRecDepth 100000 in
set_option maxHeartbeats 8000000 in
theorem xline_run (h : XbAt U w xb mp mw DP DW GP GW Q s) (n : Int) (hn : I64 n) {i : Nat} (hi : pF s.ps n = some i) : Calls Try.prog 9 #[.pointer (some ⟨xb, 0, none⟩), .int .i64 n] w (lineT w s n) := by
  have e1 : lineE s n = 0 := by unfold lineE; rw [hi]
  have e2 : lineR s n = lineL s n := by unfold lineR; rw [hi]
  have c0 := h.c0
  have hk := h.lookP_some hi hn
  obtain ⟨hpl, hp1, hp2, hp3, hpL, hp5⟩ := h.place hi
  have HX := Vx.hid h
  have HP3 := Vx.hid hp3
  have HLE : Hid (lineE s n = 0 ∧ lineR s n = lineL s n) := ⟨e1, e2⟩
  have hqs := h.qs _ hp5
  rw [hp1] at hqs
  have HQS := Vx.hid hqs
  have HC2 : Hid (∀ wv, Only (fun _ => False) w wv → wv.cell? ⟨GP n, 2, none⟩ = some (Q n)) := fun wv ho => (l3_of (Only.keep ho hp3 (fun h => h))).c2
  obtain ⟨gp, hgp⟩ : ∃ gp, gp = GP n := ⟨_, rfl⟩
  rw [← hgp] at hk HP3 HC2
  clear h hi hp1 hp2 hp3 hpL hp5 e1 e2 hqs hgp hn
  refine (callsIn_wide (n := 6)).1 ?_
  have hf3 : Fence.wide.fn 36 := trivial
  refine callsIn_of_wp_marks Try.func9 rfl trivial ?_ rfl
  simp only [Try.ntmps9, List.size_toArray, List.length_cons, List.length_nil, Nat.reduceAdd, Nat.reduceSub, Array.replicate_succ, Array.replicate_zero, List.push_toArray, List.append_toArray, List.nil_append, List.cons_append]
  gi_wp2
  refine (iall_in Fence.wide 5 trivial rfl gp _ _).mono ?_
  rintro e w4 ⟨rfl, hw4⟩
  have HW4 := Vx.hid hw4
  clear hw4
  gi_wp2
  obtain ⟨lb, hlb⟩ : ∃ lb, lb = w.heap.size := ⟨_, rfl⟩
  obtain ⟨w2, hw2⟩ : ∃ w2, w2 = w.alloc (.cells #[.slice none 0 0] 51) := ⟨_, rfl⟩
  have hs2 : w2.heap.size = w.heap.size + 1 := by rw [hw2]; simp
  have ho2 : Only (fun _ => False) w w2 := by rw [hw2]; exact (Only.refl _ w).alloc _
  have hb2 : w2.heap[lb]? = some (.cells #[.slice none 0 0] 51 (0, 0)) := by rw [hw2, hlb]; exact heap_alloc_last w _
  have hw4 := HW4.out
  rw [← hw2] at hw4
  rw [← hlb]
  have ho4 : Only (fun _ => False) w2 w4 := by rw [hw4]; exact (Only.refl _ w2).alloc _
  have hB4 : w4.heap[lb + 1]? = some (.cells #[.pointer (some ⟨gp, 2, none⟩)] 103 (0, 0)) := by
    rw [hw4, hlb, ← hs2]; exact heap_alloc_last w2 _
  have hb4 := Only.keep ho4 hb2 (fun h => h)
  have ho := ho2.trans ho4
  have hx4 := HX.out.quiet ho
  have hqs4 := HQS.out.kept ho (fun _ _ h => h)
  have hgp4 := Only.keep ho HP3.out (fun h => h)
  have hlenQ : (lineL s n).length ≤ 1000000 := Nat.le_trans (lineL_len s n) HX.out.nl
  have hmem : ∀ x ∈ lineL s n, ∃ e ∈ s.ws, e.thr = x := fun x hx9 => by
    obtain ⟨e, he, h9, _⟩ := lineL_mem hx9
    exact ⟨e, he, h9⟩
  have hcq := HC2.out w4 ho
  obtain ⟨rq, rc, hrv, _, _, hrg⟩ := hqs4.form
  obtain ⟨gb, hgb⟩ : ∃ gb, 0 < ((lineL s n).map GW).length → rq = some ⟨gb, 0, none⟩ ∧ (Q n).ownBlock = some gb := by
    by_cases h0 : 0 < ((lineL s n).map GW).length
    · obtain ⟨g, h1, _, _, h2⟩ := hrg h0
      exact ⟨g, fun _ => ⟨h1, h2⟩⟩
    · exact ⟨0, fun h => absurd h h0⟩
  obtain ⟨xs, hxs⟩ : ∃ xs : List { x : Int // ∃ e ∈ s.ws, e.thr = x }, xs = (lineL s n).pmap (fun x hx => ⟨x, hx⟩) hmem := ⟨_, rfl⟩
  have hxl : xs.length = (lineL s n).length := by rw [hxs, List.length_pmap]
  have hxm : xs.map (·.1) = lineL s n := by rw [hxs, List.map_pmap]; simp
  have hgx : ∀ (k : Nat) (hk : k < xs.length), w4.cell? ⟨gb, k, none⟩ = some (.pointer (some ⟨GW xs[k].1, 0, none⟩)) := fun k hk => by
    have hk2 : k < ((lineL s n).map GW).length := by rw [List.length_map, ← hxl]; exact hk
    have h1 := hqs4
    rw [hrv, (hgb (by omega)).1] at h1
    have h2 := iw_cell (N := ((lineL s n).map GW).length) (cap := rc) h1 k hk2
    rw [h2, List.getElem_map]
    have h3 : (lineL s n)[k]'(by rw [← hxl]; exact hk) = xs[k].1 := by
      have : (xs.map (·.1))[k]'(by rw [List.length_map]; exact hk) = xs[k].1 := by rw [List.getElem_map]
      rw [← this]
      congr 1
      exact hxm.symm
    rw [h3]
  have hql4 : gp < w4.heap.size := lt_of_some hgp4
  have hrow4 : 0 < xs.length → ∃ cur, w4.heap[gb]? = some (.cells cur 79 (0, 0)) := fun h0 => own_tag hqs4 (hgb (by rw [List.length_map, ← hxl]; exact h0)).2
  have hseq := iall_stops Fence.wide 5 trivial rfl (by omega) (lb + 1) gp 2 gb rc (fun x : { x : Int // ∃ e ∈ s.ws, e.thr = x } => GW x.1) xs (by omega) rq (fun h0 => (hgb (by rw [List.length_map, ← hxl]; exact h0)).1) (fun b => b = lb + 1 ∨ b = gp ∨ (0 < xs.length ∧ b = gb)) (Or.inl rfl) (Or.inr (Or.inl rfl)) (fun h0 => Or.inr (Or.inr ⟨h0, rfl⟩)) w4 (lt_of_some hB4) hql4 (fun h0 => by obtain ⟨cur, hc⟩ := hrow4 h0; exact lt_of_some hc) ((cell_of_row _ _ 0 _ _ (0, 0) hB4).trans rfl) (by rw [hcq, hrv, List.length_map, hxl]) hgx
  have hI0 : QuI w4 lb [] w4 := ⟨Only.refl _ _, _, hb4, OwnL.nil _ _ _ _⟩
  have hrun4 : ∀ x : { x : Int // ∃ e ∈ s.ws, e.thr = x }, ∃ e ∈ s.ws, e.thr = x.1 ∧ w4.heap[GW x.1]? = some (.cells (wxC e) 84 (0, 0)) := fun ⟨x, e, he, h9⟩ => ⟨e, he, h9, by subst h9; exact hx4.wb e he⟩
  have hB : ∀ b c t, w4.heap[b]? = some (.cells c t (0, 0)) → t ≠ 51 → b ≠ lb := fun b c t h1 h2 => tag_ne h1 hb4 h2
  have HI0 := Vx.hid hI0
  have HRN := Vx.hid hrun4
  have HXL := Vx.hid (⟨hxl, hxm, hlenQ⟩ : _ ∧ _ ∧ _)
  have HBB := Vx.hid hB
  have HB4 := Vx.hid hB4
  have HX4 := Vx.hid hgp4
  have HRW := Vx.hid hrow4
  have HOO := Vx.hid (⟨ho, hs2, hw4, ho4⟩ : _ ∧ _ ∧ _ ∧ _)
  have HLB := Vx.hid hlb
  clear hI0 hrun4 hxl hxm hlenQ hB hB4 hx4 hrow4 ho hs2 hw4 ho4 ho2 hb2 hb4 hw2 hcq hrv hrg hgb hxs hgx hql4 hmem hlb HW4 HX hqs4 hgp4 HQS HC2
  refine wpIn_rangeFunc_ownH (α := { x : Int // ∃ e ∈ s.ws, e.thr = x }) rfl (by omega) (gf := 54) (lb := #[.pointer (some ⟨lb + 1, 0, none⟩)]) rfl trivial (enters_of Try.func54 (by kernel_rfl) rfl)
    hseq (fun {A B C} h k => Kq.trans h k) ?hKb (Below.refl _ _) (fun x => rfl)
    (fun (pre : List { x : Int // ∃ e ∈ s.ws, e.thr = x }) W => QuI w4 lb (pre.map (fun x => x.1)) W) (fun _ _ _ => False)
    (by intro pre W W2 row hs hg hr; exact QuI.grow hs hg hr) (fun _ _ _ _ _ h _ _ => h) HI0.out
    (fun x a2 W => a2 = { tmps := #[.pointer (some ⟨xb, 0, none⟩), .int .i64 n, undef, undef, .slice none 0 0, .int .i64 0, .pointer (some ⟨gp, 0, none⟩), .pointer (some ⟨lb, 0, none⟩), .pointer (some ⟨GW x.1, 0, none⟩), .pointer (some ⟨xb, 0, none⟩), .pointer (some ⟨xb, 0, none⟩), .pointer (some ⟨xb, 0, none⟩), .map (some mp), .int .i64 n, .pointer (some ⟨gp, 0, none⟩), .pointer (some ⟨gp, 0, none⟩), .bool false, .pointer (some ⟨gp, 0, none⟩), .pointer (some ⟨gp, 0, none⟩), .pointer (some ⟨gp, 2, none⟩), .func (.func 54) #[] #[.pointer (some ⟨lb + 1, 0, none⟩)], .pointer (some ⟨GW x.1, 0, none⟩), undef, undef, undef, undef, undef, undef, undef, undef], defers := [] }) (fun x a2 _ _ _ _ hs _ _ => hs) ?assign ?body ?done ?stop
  case hKb =>
    intro W l o o2 hl _ _ _ b hb
    have hne : b ≠ l := by
      rcases hb with rfl | rfl | ⟨h0, rfl⟩
      · have := lt_of_some HB4.out; omega
      · have := lt_of_some HX4.out; omega
      · obtain ⟨cur, hc⟩ := HRW.out h0
        have := lt_of_some hc; omega
    exact World.putObj_heap_other hne
  case assign =>
    rintro l pre x W K hi hK
    unfold alV
    gi_wp2
    exact hK _ _ (KeepsFrom.refl _ _) (fun _ _ => rfl) hi rfl
  case body =>
    rintro l pre x a2 W hl hr hI rfl hlt
    obtain ⟨e, he, hen, hrb⟩ := HRN.out x
    have hrb2 : W.heap[GW x.1]? = some (.cells (wxC e) 84 (0, 0)) := Only.keep hI.on hrb (HBB.out _ _ _ hrb (by decide))
    have r0 := (v9_of hrb2).c0
    rw [hen] at r0
    have hrl := lt_of_some hrb2
    obtain ⟨q, m, c, v', W1, c0', hlt0, hrun, ⟨y, hy⟩, hf, ⟨q', m', c', rfl⟩, hQ, hkeep, hkf⟩ := hI.push (by rw [List.length_map]; have := HXL.out; omega) x.1
    have hK3 : Kq (fun b => b = lb + 1 ∨ b = gp ∨ (0 < xs.length ∧ b = gb)) W (W1.setCell ⟨lb, 0, none⟩ (.slice q' m' c')) := by
      have hkq : ∀ (b : Nat) (c : Array Value) (t : TypeId), w4.heap[b]? = some (.cells c t (0, 0)) → t ≠ 51 → t ≠ 3 → (W1.setCell ⟨lb, 0, none⟩ (.slice q' m' c')).heap[b]? = W.heap[b]? := fun b c t h1 h2 h3 => by
        have hne := HBB.out b c t h1 h2
        exact hkeep b c t (Only.keep hI.on h1 hne) hne h3
      intro b hb
      rcases hb with rfl | rfl | ⟨h0, rfl⟩
      · exact hkq _ _ _ HB4.out (by decide) (by decide)
      · exact hkq _ _ _ HX4.out (by decide) (by decide)
      · obtain ⟨cur, hc⟩ := HRW.out h0
        exact hkq _ _ _ hc (by decide) (by decide)
    have HFIN : Hid (KeepsFrom w4.heap.size W (W1.setCell ⟨lb, 0, none⟩ (.slice q' m' c')) ∧ Kq (fun b => b = lb + 1 ∨ b = gp ∨ (0 < xs.length ∧ b = gb)) W (W1.setCell ⟨lb, 0, none⟩ (.slice q' m' c')) ∧ QuI w4 lb (List.map (fun x => x.1) (pre ++ [x])) (W1.setCell ⟨lb, 0, none⟩ (.slice q' m' c'))) := ⟨hkf, hK3, by rw [List.map_append]; exact hQ⟩
    obtain ⟨x, hxx⟩ := x
    dsimp only at r0 hrun hrl
    clear hI hQ hkeep hkf hK3 hrb hrb2 hen hr hl
    generalize GW x = gx at r0 hrl ⊢
    gi_wp2
    refine wpIn_region_any (by kernel_rfl) ?_
    try (change wpAnyIn _ _ _ _ _ _ _ _ _ (World.drew _))
    refine wpAnyIn_ready (rs := [0, 1]) (by kernel_rfl) (by simp) ?_
    refine AllReadyIn.cons rfl (fun K hK => ?_) ?_
    · go_simp
      refine hK _ _ ?_
      clear hK K
      refine wpAnyIn_ready (rs := [1]) (by kernel_rfl) (by simp) ?_
      refine AllReadyIn.cons rfl (fun K hK => ?_) ?_
      · go_simp
        refine hK _ _ ?_
        clear hK K
        refine wpAnyIn_ready (rs := [2]) (by kernel_rfl) (by simp) ?_
        refine AllReadyIn.cons rfl (fun K hK => ?_) ?_
        · go_simp
          refine hK _ _ ?_
          clear hK K
          refine wpAnyIn_ready (rs := [3]) (by kernel_rfl) (by simp) ?_
          refine AllReadyIn.cons rfl (fun K hK => ?_) ?_
          · go_simp
            refine hK _ _ ?_
            clear hK K
            refine wpAnyIn_ready (rs := [4]) (by kernel_rfl) (by simp) ?_
            refine AllReadyIn.cons rfl (fun K hK => ?_) ?_
            · go_simp
              refine hK _ _ ?_
              clear hK K
              refine wpAnyIn_ready (rs := [5]) (by kernel_rfl) (by simp) ?_
              refine AllReadyIn.cons rfl (fun K hK => ?_) ?_
              · go_simp
                refine hK _ _ ?_
                clear hK K
                refine wpAnyIn_ready (rs := [6]) (by kernel_rfl) (by simp) ?_
                refine AllReadyIn.cons rfl (fun K hK => ?_) ?_
                · refine stepIn_append_run rfl (.tmp 22) (.tmp 27) 51 rfl (.slice q m c) (.slice (some ⟨W.heap.size, 0, none⟩) 1 1) _ _ rfl rfl (hrun _) ?_
                  refine hK _ _ ?_
                  clear hK K
                  refine wpAnyIn_ready (rs := [7]) (by kernel_rfl) (by simp) ?_
                  refine AllReadyIn.cons rfl (fun K hK => ?_) ?_
                  · go_simp
                    refine hK _ _ ?_
                    clear hK K
                    refine wpAnyIn_done (by kernel_rfl) ?_ _
                    gi_wp2
                    exact HFIN.out
                  exact AllReadyIn.nil
                exact AllReadyIn.nil
              exact AllReadyIn.nil
            exact AllReadyIn.nil
          exact AllReadyIn.nil
        exact AllReadyIn.nil
      exact AllReadyIn.nil
    refine AllReadyIn.cons rfl (fun K hK => ?_) ?_
    · go_simp
      refine hK _ _ ?_
      clear hK K
      refine wpAnyIn_ready (rs := [0, 2]) (by kernel_rfl) (by simp) ?_
      refine AllReadyIn.cons rfl (fun K hK => ?_) ?_
      · go_simp
        refine hK _ _ ?_
        clear hK K
        refine wpAnyIn_ready (rs := [2]) (by kernel_rfl) (by simp) ?_
        refine AllReadyIn.cons rfl (fun K hK => ?_) ?_
        · go_simp
          refine hK _ _ ?_
          clear hK K
          refine wpAnyIn_ready (rs := [3]) (by kernel_rfl) (by simp) ?_
          refine AllReadyIn.cons rfl (fun K hK => ?_) ?_
          · go_simp
            refine hK _ _ ?_
            clear hK K
            refine wpAnyIn_ready (rs := [4]) (by kernel_rfl) (by simp) ?_
            refine AllReadyIn.cons rfl (fun K hK => ?_) ?_
            · go_simp
              refine hK _ _ ?_
              clear hK K
              refine wpAnyIn_ready (rs := [5]) (by kernel_rfl) (by simp) ?_
              refine AllReadyIn.cons rfl (fun K hK => ?_) ?_
              · go_simp
                refine hK _ _ ?_
                clear hK K
                refine wpAnyIn_ready (rs := [6]) (by kernel_rfl) (by simp) ?_
                refine AllReadyIn.cons rfl (fun K hK => ?_) ?_
                · refine stepIn_append_run rfl (.tmp 22) (.tmp 27) 51 rfl (.slice q m c) (.slice (some ⟨W.heap.size, 0, none⟩) 1 1) _ _ rfl rfl (hrun _) ?_
                  refine hK _ _ ?_
                  clear hK K
                  refine wpAnyIn_ready (rs := [7]) (by kernel_rfl) (by simp) ?_
                  refine AllReadyIn.cons rfl (fun K hK => ?_) ?_
                  · go_simp
                    refine hK _ _ ?_
                    clear hK K
                    refine wpAnyIn_done (by kernel_rfl) ?_ _
                    gi_wp2
                    exact HFIN.out
                  exact AllReadyIn.nil
                exact AllReadyIn.nil
              exact AllReadyIn.nil
            exact AllReadyIn.nil
          exact AllReadyIn.nil
        exact AllReadyIn.nil
      refine AllReadyIn.cons rfl (fun K hK => ?_) ?_
      · go_simp
        refine hK _ _ ?_
        clear hK K
        refine wpAnyIn_ready (rs := [0, 3]) (by kernel_rfl) (by simp) ?_
        refine AllReadyIn.cons rfl (fun K hK => ?_) ?_
        · go_simp
          refine hK _ _ ?_
          clear hK K
          refine wpAnyIn_ready (rs := [3]) (by kernel_rfl) (by simp) ?_
          refine AllReadyIn.cons rfl (fun K hK => ?_) ?_
          · go_simp
            refine hK _ _ ?_
            clear hK K
            refine wpAnyIn_ready (rs := [4]) (by kernel_rfl) (by simp) ?_
            refine AllReadyIn.cons rfl (fun K hK => ?_) ?_
            · go_simp
              refine hK _ _ ?_
              clear hK K
              refine wpAnyIn_ready (rs := [5]) (by kernel_rfl) (by simp) ?_
              refine AllReadyIn.cons rfl (fun K hK => ?_) ?_
              · go_simp
                refine hK _ _ ?_
                clear hK K
                refine wpAnyIn_ready (rs := [6]) (by kernel_rfl) (by simp) ?_
                refine AllReadyIn.cons rfl (fun K hK => ?_) ?_
                · refine stepIn_append_run rfl (.tmp 22) (.tmp 27) 51 rfl (.slice q m c) (.slice (some ⟨W.heap.size, 0, none⟩) 1 1) _ _ rfl rfl (hrun _) ?_
                  refine hK _ _ ?_
                  clear hK K
                  refine wpAnyIn_ready (rs := [7]) (by kernel_rfl) (by simp) ?_
                  refine AllReadyIn.cons rfl (fun K hK => ?_) ?_
                  · go_simp
                    refine hK _ _ ?_
                    clear hK K
                    refine wpAnyIn_done (by kernel_rfl) ?_ _
                    gi_wp2
                    exact HFIN.out
                  exact AllReadyIn.nil
                exact AllReadyIn.nil
              exact AllReadyIn.nil
            exact AllReadyIn.nil
          exact AllReadyIn.nil
        refine AllReadyIn.cons rfl (fun K hK => ?_) ?_
        · go_simp
          refine hK _ _ ?_
          clear hK K
          refine wpAnyIn_ready (rs := [0, 4]) (by kernel_rfl) (by simp) ?_
          refine AllReadyIn.cons rfl (fun K hK => ?_) ?_
          · go_simp
            refine hK _ _ ?_
            clear hK K
            refine wpAnyIn_ready (rs := [4]) (by kernel_rfl) (by simp) ?_
            refine AllReadyIn.cons rfl (fun K hK => ?_) ?_
            · go_simp
              refine hK _ _ ?_
              clear hK K
              refine wpAnyIn_ready (rs := [5]) (by kernel_rfl) (by simp) ?_
              refine AllReadyIn.cons rfl (fun K hK => ?_) ?_
              · go_simp
                refine hK _ _ ?_
                clear hK K
                refine wpAnyIn_ready (rs := [6]) (by kernel_rfl) (by simp) ?_
                refine AllReadyIn.cons rfl (fun K hK => ?_) ?_
                · refine stepIn_append_run rfl (.tmp 22) (.tmp 27) 51 rfl (.slice q m c) (.slice (some ⟨W.heap.size, 0, none⟩) 1 1) _ _ rfl rfl (hrun _) ?_
                  refine hK _ _ ?_
                  clear hK K
                  refine wpAnyIn_ready (rs := [7]) (by kernel_rfl) (by simp) ?_
                  refine AllReadyIn.cons rfl (fun K hK => ?_) ?_
                  · go_simp
                    refine hK _ _ ?_
                    clear hK K
                    refine wpAnyIn_done (by kernel_rfl) ?_ _
                    gi_wp2
                    exact HFIN.out
                  exact AllReadyIn.nil
                exact AllReadyIn.nil
              exact AllReadyIn.nil
            exact AllReadyIn.nil
          refine AllReadyIn.cons rfl (fun K hK => ?_) ?_
          · go_simp
            refine hK _ _ ?_
            clear hK K
            refine wpAnyIn_ready (rs := [0, 5]) (by kernel_rfl) (by simp) ?_
            refine AllReadyIn.cons rfl (fun K hK => ?_) ?_
            · go_simp
              refine hK _ _ ?_
              clear hK K
              refine wpAnyIn_ready (rs := [5]) (by kernel_rfl) (by simp) ?_
              refine AllReadyIn.cons rfl (fun K hK => ?_) ?_
              · go_simp
                refine hK _ _ ?_
                clear hK K
                refine wpAnyIn_ready (rs := [6]) (by kernel_rfl) (by simp) ?_
                refine AllReadyIn.cons rfl (fun K hK => ?_) ?_
                · refine stepIn_append_run rfl (.tmp 22) (.tmp 27) 51 rfl (.slice q m c) (.slice (some ⟨W.heap.size, 0, none⟩) 1 1) _ _ rfl rfl (hrun _) ?_
                  refine hK _ _ ?_
                  clear hK K
                  refine wpAnyIn_ready (rs := [7]) (by kernel_rfl) (by simp) ?_
                  refine AllReadyIn.cons rfl (fun K hK => ?_) ?_
                  · go_simp
                    refine hK _ _ ?_
                    clear hK K
                    refine wpAnyIn_done (by kernel_rfl) ?_ _
                    gi_wp2
                    exact HFIN.out
                  exact AllReadyIn.nil
                exact AllReadyIn.nil
              exact AllReadyIn.nil
            refine AllReadyIn.cons rfl (fun K hK => ?_) ?_
            · go_simp
              refine hK _ _ ?_
              clear hK K
              refine wpAnyIn_ready (rs := [0]) (by kernel_rfl) (by simp) ?_
              refine AllReadyIn.cons rfl (fun K hK => ?_) ?_
              · go_simp
                refine hK _ _ ?_
                clear hK K
                refine wpAnyIn_ready (rs := [6]) (by kernel_rfl) (by simp) ?_
                refine AllReadyIn.cons rfl (fun K hK => ?_) ?_
                · refine stepIn_append_run rfl (.tmp 22) (.tmp 27) 51 rfl (.slice q m c) (.slice (some ⟨W.heap.size, 0, none⟩) 1 1) _ _ rfl rfl (hrun _) ?_
                  refine hK _ _ ?_
                  clear hK K
                  refine wpAnyIn_ready (rs := [7]) (by kernel_rfl) (by simp) ?_
                  refine AllReadyIn.cons rfl (fun K hK => ?_) ?_
                  · go_simp
                    refine hK _ _ ?_
                    clear hK K
                    refine wpAnyIn_done (by kernel_rfl) ?_ _
                    gi_wp2
                    exact HFIN.out
                  exact AllReadyIn.nil
                exact AllReadyIn.nil
              exact AllReadyIn.nil
            exact AllReadyIn.nil
          exact AllReadyIn.nil
        exact AllReadyIn.nil
      exact AllReadyIn.nil
    exact AllReadyIn.nil
  case done =>
    rintro D ys W hD rfl hI hK
    obtain ⟨v, hb, hv⟩ := hI.bx
    have hcell : W.cell? ⟨lb, 0, none⟩ = some v := (cell_of_row _ _ 0 _ _ (0, 0) hb).trans rfl
    have h1 := hI.grow (grownBy_putObj' W D (.deferred none)) (fun r e => by cases e; exact ⟨hD, _, hK, rfl⟩)
    obtain ⟨v2, hb2, hv2⟩ := h1.bx
    have hvv : v2 = v := by
      have := Only.keep (only_of_row (grownBy_putObj' W D (.deferred none))) hb (fun e => by
        cases e
        rw [hb] at hK
        cases hK)
      rw [hb2] at this
      simpa using this
    subst hvv
    have hO := Only.beyond HOO.out.1 h1.on (fun k e => by rw [e, HLB.out]; exact Nat.le_refl _)
    have hsz := HOO.out.1.size
    have HF : Hid (lineT w s n (.returned (.tuple #[v2, .int .i64 0])) (W.putObj D (.deferred none))) := by
      have hv3 := hv2
      rw [HXL.out.2.1] at hv3
      refine ⟨v2, by rw [HLE.out.1], ?_, hO⟩
      rw [HLE.out.2]
      refine ⟨hv3.1, ?_⟩
      rcases hv3.2 with h6 | ⟨g, c, cur, e, hbb, r⟩
      · exact Or.inl h6
      · exact Or.inr ⟨g, c, cur, e, by omega, r⟩
    clear hv hv2 hb hb2 h1 hI hO
    gi_wp2
    refine ⟨by simp, .inl ⟨_, _, rfl, run_takeDeferred hK, ?_⟩⟩
    refine ⟨.tuple #[v2, .int .i64 0], by simp [results, Try.results9, go_sem], HF.out⟩
  case stop =>
    rintro D c pre W _ _ h _
    exact h.elim
theorem xline_ok (h : XbX U w xb s) (n : Int) (hn : I64 n) : Calls Try.prog 9 #[.pointer (some ⟨xb, 0, none⟩), .int .i64 n] w (lineT w s n) := by
  obtain ⟨hb, mp, mw, DP, DW, GP, GW, Q, h⟩ := h
  cases hi : pF s.ps n with
  | some i => exact xline_run h n hn hi
  | none =>
    have c0 := h.c0
    have hk := h.lookP_none hi hn
    have e1 : lineE s n = 6 := by unfold lineE; rw [hi]
    have e2 : lineR s n = [] := by unfold lineR; rw [hi]
    have HB1 : Hid (lineT w s n (.returned (.tuple #[.slice none 0 0, .int .i64 6])) w) := ⟨_, by rw [e1], by rw [e2]; exact OwnL.nil _ _ _ _, Only.refl _ _⟩
    clear h hb hi hn e1 e2
    go_enter Try.func9, Try.ntmps9
    go_wp2_with fail
    all_goals
      go_ret2
      exact HB1.out
end Go.Proofs.Ytdpgdjpphnbfnaa

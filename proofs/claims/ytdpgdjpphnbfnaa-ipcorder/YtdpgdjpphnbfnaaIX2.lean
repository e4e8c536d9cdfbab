/- Chapter 10: what every call keeps; the program's bus, changed. -/
import Derived.Test.YtdpgdjpphnbfnaaIX1
namespace Go.Vx
set_option linter.unusedVariables false
theorem cuI_sub {α : Type} (l : List α) (i : Nat) : (cuI l i).Sublist l := by
  unfold cuI
  rw [← List.eraseIdx_eq_take_drop_succ]
  exact List.eraseIdx_sublist l i
theorem map_inj {α β : Type} {f : α → β} {xs : List α} (hn : (xs.map f).Nodup) {x y : α} (hx : x ∈ xs) (hy : y ∈ xs) (h : f x = f y) : x = y := by
  obtain ⟨i, hi, rfl⟩ := List.getElem_of_mem hx
  obtain ⟨j, hj, rfl⟩ := List.getElem_of_mem hy
  have h1 := List.pairwise_iff_getElem.1 hn
  have hij : i = j := by
    refine Classical.byContradiction (fun hne => ?_)
    rcases Nat.lt_or_gt_of_ne hne with h5 | h5
    · have := h1 i j (by rw [List.length_map]; exact hi) (by rw [List.length_map]; exact hj) h5
      rw [List.getElem_map, List.getElem_map] at this
      exact this h
    · have := h1 j i (by rw [List.length_map]; exact hj) (by rw [List.length_map]; exact hi) h5
      rw [List.getElem_map, List.getElem_map] at this
      exact this h.symm
  subst hij
  rfl
theorem lineL_mem {s : Bs} {n t : Int} (h : t ∈ lineL s n) : ∃ x ∈ s.ws, x.thr = t ∧ x.at' = n := by
  obtain ⟨x, hx, he⟩ := List.mem_map.1 h
  obtain ⟨h1, h2⟩ := List.mem_filter.1 hx
  exact ⟨x, h1, he, of_decide_eq_true h2⟩
theorem lineL_add (s : Bs) (n t h : Int) (m : Ms) (k : Int) : lineL ⟨s.ps, s.ws ++ [⟨n, t, h, m⟩]⟩ k = lineL s k ++ (if n = k then [t] else []) := by
  unfold lineL
  rw [List.filter_append, List.map_append]
  congr 1
  by_cases e : n = k
  · simp [e]
  · simp [e]
theorem lineL_cut {s : Bs} (hn : (s.ws.map (·.thr)).Nodup) {j : Nat} (hj : j < s.ws.length) (k : Int) : lineL ⟨s.ps, cuI s.ws j⟩ k = (lineL s k).filter (fun t => decide (t ≠ s.ws[j].thr)) := by
  unfold lineL
  dsimp only
  rw [cuI_filter (·.thr) s.ws hn hj, List.filter_filter, List.filter_map, List.filter_filter]
  congr 1
  apply List.filter_congr
  intro x _
  simp only [Function.comp]
  exact Bool.and_comm _ _
theorem lineL_cut_ne {s : Bs} (hn : (s.ws.map (·.thr)).Nodup) {j : Nat} (hj : j < s.ws.length) {k : Int} (hk : s.ws[j].at' ≠ k) : lineL ⟨s.ps, cuI s.ws j⟩ k = lineL s k := by
  rw [lineL_cut hn hj, List.filter_eq_self]
  intro t ht
  obtain ⟨x, hx, he, ha⟩ := lineL_mem ht
  refine decide_eq_true (fun e => hk ?_)
  have := map_inj hn hx (List.getElem_mem hj) (he.trans e)
  rw [← this]
  exact ha
theorem lineL_nodup {s : Bs} (hn : (s.ws.map (·.thr)).Nodup) (k : Int) : (lineL s k).Nodup := by
  unfold lineL
  exact List.Nodup.sublist (List.Sublist.map _ List.filter_sublist) hn
theorem lineL_len (s : Bs) (k : Int) : (lineL s k).length ≤ s.ws.length := by
  unfold lineL
  rw [List.length_map]
  exact List.length_filter_le _ _
/-- The first of a line. -/
theorem lineL_none {s : Bs} {n : Int} (h : aF s.ws n = none) : lineL s n = [] := by
  unfold lineL
  rw [List.map_eq_nil_iff, List.filter_eq_nil_iff]
  intro x hx
  have := idxF_none h x hx
  simpa using this
theorem idxF_head {p : Wt → Bool} : ∀ (l : List Wt) (k i : Nat), idxF p l k = some i → ∃ (hi : i - k < l.length) (r : List Wt), l.filter p = l[i - k] :: r
  | [], k, i, h => by cases h
  | a :: l, k, i, h => by
    unfold idxF at h
    by_cases hp : p a = true
    · rw [if_pos hp] at h
      injection h with h
      subst h
      refine ⟨by simp, l.filter p, ?_⟩
      rw [List.filter_cons, if_pos hp]
      simp
    · rw [if_neg hp] at h
      have h1 := idxF_lt h
      obtain ⟨h2, r, h3⟩ := idxF_head l (k + 1) i h
      have e : i - k = (i - (k + 1)) + 1 := by omega
      refine ⟨by simp only [List.length_cons]; omega, r, ?_⟩
      rw [List.filter_cons, if_neg hp, h3]
      have : (a :: l)[i - k]'(by simp only [List.length_cons]; omega) = l[i - (k + 1)] := by simp only [e, List.getElem_cons_succ]
      rw [this]
theorem lineL_some {s : Bs} {n : Int} {i : Nat} (h : aF s.ws n = some i) : ∃ (hi : i < s.ws.length) (r : List Int), lineL s n = s.ws[i].thr :: r ∧ s.ws[i].at' = n := by
  obtain ⟨hi, r, hr⟩ := idxF_head s.ws 0 i h
  obtain ⟨_, hp⟩ := idxF_get h
  have e : i - 0 = i := Nat.sub_zero i
  simp only [e] at hi hr hp
  refine ⟨hi, r.map (·.thr), ?_, of_decide_eq_true hp⟩
  unfold lineL
  rw [hr]
  rfl
theorem tF_at_idx {ws : List Wt} (hn : (ws.map (·.thr)).Nodup) {i : Nat} (hi : i < ws.length) : tF ws ws[i].thr = some i := by
  cases h : tF ws ws[i].thr with
  | none => exact absurd rfl (tF_none h _ (List.getElem_mem hi))
  | some j =>
    obtain ⟨hl, hp⟩ := idxF_get h
    have e : j - 0 = j := Nat.sub_zero j
    simp only [e] at hl hp
    have hp2 : ws[j].thr = ws[i].thr := of_decide_eq_true hp
    have h1 := List.pairwise_iff_getElem.1 hn
    congr 1
    refine Classical.byContradiction (fun hne => ?_)
    rcases Nat.lt_or_gt_of_ne hne with h5 | h5
    · have := h1 j i (by rw [List.length_map]; exact hl) (by rw [List.length_map]; exact hi) h5
      rw [List.getElem_map, List.getElem_map] at this
      exact this hp2
    · have := h1 i j (by rw [List.length_map]; exact hi) (by rw [List.length_map]; exact hl) h5
      rw [List.getElem_map, List.getElem_map] at this
      exact this hp2.symm
end Go.Vx
namespace Go.Proofs.Ytdpgdjpphnbfnaa
open Go.ChangeShapes Go.WideShapes Go.ChangeAt Go.RowKit
open Go.Vx
set_option linter.unusedVariables false
variable {U V S : Nat → Prop} {w w2 w3 w4 : World} {xb mp mw : Nat} {DP DW DP2 DW2 : DataW Value} {GP GW GW2 : Int → Nat} {Q : Int → Value} {s : Bs}

theorem BWf.nil : BWf ⟨[], []⟩ := ⟨List.nodup_nil, List.nodup_nil, fun x hx => (by cases hx), fun p hp => (by cases hp), fun x hx => (by cases hx)⟩
theorem BWf.opened (h : BWf s) {n : Int} (hn : I64 n) (hi : pF s.ps n = none) (b : Bool) : BWf ⟨s.ps ++ [⟨n, b, 0⟩], s.ws⟩ := by
  have hno : n ∉ s.ps.map (·.num) := fun h9 => by
    obtain ⟨i, h8⟩ := pF_mem.2 h9
    rw [hi] at h8; cases h8
  refine ⟨?_, h.nt, fun x hx => ?_, fun p hp => ?_, h.iw⟩
  · show ((s.ps ++ [(⟨n, b, 0⟩ : Pc)]).map (·.num)).Nodup
    rw [List.map_append, List.nodup_append]
    refine ⟨h.np, by simp, fun a ha c hc => ?_⟩
    simp only [List.map_cons, List.map_nil, List.mem_singleton] at hc
    rw [hc]
    exact fun e => hno (e ▸ ha)
  · obtain ⟨p, hp, h1⟩ := h.at' x hx
    exact ⟨p, List.mem_append_left _ hp, h1⟩
  · rcases List.mem_append.1 hp with hp | hp
    · exact h.ip p hp
    · rw [List.mem_singleton] at hp; rw [hp]; exact hn
theorem BWf.cut (h : BWf s) (i : Nat) : BWf ⟨s.ps, cuI s.ws i⟩ :=
  ⟨h.np, List.Nodup.sublist (List.Sublist.map _ (cuI_sub s.ws i)) h.nt, fun x hx => h.at' x ((cuI_sub s.ws i).mem hx), h.ip, fun x hx => h.iw x ((cuI_sub s.ws i).mem hx)⟩
theorem BWf.waits (h : BWf s) {n t hw : Int} {i : Nat} (m : Ms) (hi : pF s.ps n = some i) (ht : tF s.ws t = none) (it : I64 t) (hh : (pAt s i).bell = false → hw = 2 ∨ hw = 3 ∨ hw = 4 ∨ hw = 7) : BWf ⟨s.ps, s.ws ++ [⟨n, t, hw, m⟩]⟩ := by
  obtain ⟨hl, hn⟩ := pF_at hi
  refine ⟨h.np, ?_, fun x hx => ?_, h.ip, fun x hx => ?_⟩
  · show ((s.ws ++ [(⟨n, t, hw, m⟩ : Wt)]).map (·.thr)).Nodup
    rw [List.map_append, List.nodup_append]
    refine ⟨h.nt, by simp, fun a ha c hc => ?_⟩
    simp only [List.map_cons, List.map_nil, List.mem_singleton] at hc
    rw [hc]
    obtain ⟨y, hy, rfl⟩ := List.mem_map.1 ha
    exact tF_none ht y hy
  · rcases List.mem_append.1 hx with hx | hx
    · exact h.at' x hx
    · rw [List.mem_singleton] at hx
      subst hx
      refine ⟨s.ps[i], List.getElem_mem hl, hn, fun hb => hh ?_⟩
      rw [show pAt s i = s.ps[i] from getD_d hl]
      exact hb
  · rcases List.mem_append.1 hx with hx | hx
    · exact h.iw x hx
    · rw [List.mem_singleton] at hx
      subst hx
      exact it
theorem setW_ps {i : Nat} (hl : i < s.ps.length) (y : Int) : (setW s i y).ps = s.ps.set i { s.ps[i] with word := y } := by
  unfold setW
  dsimp only
  rw [show pAt s i = s.ps[i] from getD_d hl]
theorem setW_nums {i : Nat} (hl : i < s.ps.length) (y : Int) : (setW s i y).ps.map (·.num) = s.ps.map (·.num) := by
  rw [setW_ps hl, List.map_set]
  refine List.ext_getElem? (fun j => ?_)
  rw [List.getElem?_set]
  by_cases e : i = j
  · subst e
    rw [if_pos rfl, if_pos (by rw [List.length_map]; exact hl), List.getElem?_map, List.getElem?_eq_getElem hl]
    rfl
  · rw [if_neg e]
theorem setW_mem {i : Nat} (hl : i < s.ps.length) (y : Int) (hn : (s.ps.map (·.num)).Nodup) {p : Pc} (hp : p ∈ (setW s i y).ps) : p = { s.ps[i] with word := y } ∨ (p ∈ s.ps ∧ p.num ≠ s.ps[i].num) := by
  rw [setW_ps hl] at hp
  obtain ⟨j, hj, rfl⟩ := List.getElem_of_mem hp
  rw [List.length_set] at hj
  by_cases e : i = j
  · subst e
    left
    rw [List.getElem_set_self]
  · right
    rw [List.getElem_set_ne e]
    refine ⟨List.getElem_mem hj, fun h9 => e ?_⟩
    have h1 := List.pairwise_iff_getElem.1 hn
    refine Classical.byContradiction (fun hne => ?_)
    rcases Nat.lt_or_gt_of_ne hne with h5 | h5
    · have := h1 i j (by rw [List.length_map]; exact hl) (by rw [List.length_map]; exact hj) h5
      rw [List.getElem_map, List.getElem_map] at this
      exact this h9.symm
    · have := h1 j i (by rw [List.length_map]; exact hj) (by rw [List.length_map]; exact hl) h5
      rw [List.getElem_map, List.getElem_map] at this
      exact this h9
theorem BWf.put (h : BWf s) {i : Nat} (hl : i < s.ps.length) (y : Int) : BWf (setW s i y) := by
  have hself : ∃ p ∈ (setW s i y).ps, p = { s.ps[i] with word := y } := by
    rw [setW_ps hl]
    exact ⟨_, List.mem_iff_getElem.2 ⟨i, by rw [List.length_set]; exact hl, List.getElem_set_self _⟩, rfl⟩
  refine ⟨by rw [setW_nums hl]; exact h.np, h.nt, fun x hx => ?_, fun p hp => ?_, h.iw⟩
  · obtain ⟨p, hp, h1, h2⟩ := h.at' x hx
    by_cases e : p.num = s.ps[i].num
    · have := map_inj h.np hp (List.getElem_mem hl) e
      subst this
      obtain ⟨q, hq, hqe⟩ := hself
      refine ⟨q, hq, ?_, ?_⟩
      · rw [hqe]; exact h1
      · rw [hqe]; exact h2
    · refine ⟨p, ?_, h1, h2⟩
      rw [setW_ps hl]
      obtain ⟨j, hj, rfl⟩ := List.getElem_of_mem hp
      refine List.mem_iff_getElem.2 ⟨j, by rw [List.length_set]; exact hj, ?_⟩
      rw [List.getElem_set_ne (fun e9 => e (by subst e9; rfl))]
  · rcases setW_mem hl y h.np hp with h1 | ⟨h1, _⟩
    · rw [h1]; show I64 s.ps[i].num; exact h.ip s.ps[i] (List.getElem_mem hl)
    · exact h.ip p h1
theorem BWf.closed (h : BWf s) {n : Int} {i : Nat} (hi : pF s.ps n = some i) : BWf ⟨cuI s.ps i, s.ws.filter fun x => decide (x.at' ≠ n)⟩ := by
  obtain ⟨hl, hn⟩ := pF_at hi
  refine ⟨List.Nodup.sublist (List.Sublist.map _ (cuI_sub s.ps i)) h.np, List.Nodup.sublist (List.Sublist.map _ List.filter_sublist) h.nt, fun x hx => ?_, fun p hp => h.ip p ((cuI_sub s.ps i).mem hp), fun x hx => h.iw x (List.mem_filter.1 hx).1⟩
  obtain ⟨h1, h2⟩ := List.mem_filter.1 hx
  obtain ⟨p, hp, h3, h4⟩ := h.at' x h1
  refine ⟨p, ?_, h3, h4⟩
  show p ∈ cuI s.ps i
  rw [cuI_filter (·.num) s.ps h.np hl, List.mem_filter]
  exact ⟨hp, decide_eq_true (by rw [hn, h3]; exact of_decide_eq_true h2)⟩
/-- A bell's word put anew. -/
theorem XbAt.putW (h : XbAt U w xb mp mw DP DW GP GW Q s) (hb : BWf s) {n : Int} {i : Nat} (hi : pF s.ps n = some i) (y : Int) :
    XbAt U (w.setCell ⟨GP n, 1, none⟩ (.int .u32 y)) xb mp mw DP DW GP GW Q (setW s i y) ∧ Only (fun k => ¬ U k) w (w.setCell ⟨GP n, 1, none⟩ (.int .u32 y)) := by
  obtain ⟨hl, hn, _, hpb, _, hpm⟩ := h.place hi
  have ho : Only (fun k => k = GP n) w (w.setCell ⟨GP n, 1, none⟩ (.int .u32 y)) := Only.setCell (S := fun k => k = GP n) (Only.refl _ w) (Or.inl rfl) _
  have hnew : (w.setCell ⟨GP n, 1, none⟩ (.int .u32 y)).heap[GP n]? = some (.cells (plC { s.ps[i] with word := y } (Q n)) 76 (0, 0)) := by
    rw [heap_setCell_same _ _ 1 _ _ (.int .u32 y) hpb]
    rfl
  have hnum : ∀ p ∈ (setW s i y).ps, ∃ q ∈ s.ps, q.num = p.num := fun p hp => by
    rcases setW_mem hl y hb.np hp with h1 | ⟨h1, _⟩
    · exact ⟨_, hpm, by rw [h1]⟩
    · exact ⟨p, h1, rfl⟩
  have hlen : (setW s i y).ps.length = s.ps.length := by rw [setW_ps hl, List.length_set]
  refine ⟨⟨Only.keep ho h.x (fun e => tag_ne h.x hpb (by decide) e), ?_, h.wm.keep ho (fun e => h.wm.ne hpb e.symm), h.mn, fun p hp => ?_, fun x hx => Only.keep ho (h.wb x hx) (fun e => tag_ne (h.wb x hx) hpb (by decide) e), fun p hp q hq => ?_, h.gw, fun p hp => ?_, fun p hp q hq => ?_, h.ux, h.u1, h.u2, fun p hp => ?_, h.uw, fun p hp => ?_, fun k hk => Nat.lt_of_lt_of_le (h.low k hk) ho.size, by rw [hlen]; exact h.np, h.nl⟩, ho.mono (fun k _ e => by subst e; have := h.up _ hpm; rw [hn] at this; exact this)⟩
  · rw [setW_nums hl]
    exact h.pm.keep ho (fun e => h.pm.ne hpb e.symm)
  · rcases setW_mem hl y hb.np hp with h1 | ⟨h1, h2⟩
    · rw [h1]
      rw [show ({ s.ps[i] with word := y } : Pc).num = n from hn]
      exact hnew
    · refine Only.keep ho (h.pb p h1) (fun e => h2 ?_)
      rw [hn]
      rw [← hn] at e
      exact (h.gp p h1 _ hpm e).trans hn
  · obtain ⟨p', hp', e1⟩ := hnum p hp
    obtain ⟨q', hq', e2⟩ := hnum q hq
    rw [← e1, ← e2]
    exact h.gp p' hp' q' hq'
  · obtain ⟨p', hp', e1⟩ := hnum p hp
    rw [← e1]
    refine (h.qs p' hp').kept ho (fun k hk e => ?_)
    obtain ⟨cur, hc⟩ := own_tag (h.qs p' hp') hk
    exact tag_ne hc hpb (by decide) e
  · obtain ⟨p', hp', e1⟩ := hnum p hp
    obtain ⟨q', hq', e2⟩ := hnum q hq
    rw [← e1, ← e2]
    exact h.qd p' hp' q' hq'
  · obtain ⟨p', hp', e1⟩ := hnum p hp
    rw [← e1]
    exact h.up p' hp'
  · obtain ⟨p', hp', e1⟩ := hnum p hp
    rw [← e1]
    exact h.uq p' hp'
/-- A place's line, as a queue. -/
theorem XbAt.queue (h : XbAt U w xb mp mw DP DW GP GW Q s) {n : Int} {i : Nat} (hi : pF s.ps n = some i) (hl : i < s.ps.length) : IqAt w (GP n) 2 (plC s.ps[i] (Q n)) 76 (Q n) ((lineL s n).map GW) := by
  obtain ⟨_, hn, _, hpb, _, hpm⟩ := h.place hi
  have hq := h.qs _ hpm
  rw [hn] at hq
  refine ⟨hpb, rfl, hq, fun k hk e => ?_, ?_⟩
  · obtain ⟨cur, hc⟩ := own_tag hq hk
    exact tag_ne hc hpb (by decide) e
  · rw [List.length_map]
    have := lineL_len s n
    have := h.nl
    omega
/-- Those who wait anew: the map, a line. -/
theorem XbAt.reline (h : XbAt U w xb mp mw DP DW GP GW Q s) {n : Int} {i : Nat} (hi : pF s.ps n = some i) (hl : i < s.ps.length) {ws2 : List Wt} (hm : MapAt w3 mw DW2 (ws2.map (·.thr)) GW2) (ho3 : Only (fun k => k = mw) w w3)
    (hT : IqT w3 (GP n) 2 (plC s.ps[i] (Q n)) 76 (Q n) ((lineL ⟨s.ps, ws2⟩ n).map GW2) w4) (hw : ∀ x ∈ ws2, w.heap[GW2 x.thr]? = some (.cells (wxC x) 84 (0, 0))) (hg : ∀ x ∈ ws2, ∀ y ∈ ws2, GW2 x.thr = GW2 y.thr → x.thr = y.thr)
    (hln : ∀ p ∈ s.ps, p.num ≠ n → (lineL ⟨s.ps, ws2⟩ p.num).map GW2 = (lineL s p.num).map GW) (hu : ∀ x ∈ ws2, ¬ U (GW2 x.thr)) (hnl : ws2.length ≤ 1000000) :
    (∃ Q', XbAt U w4 xb mp mw DP DW2 GP GW2 Q' ⟨s.ps, ws2⟩) ∧ Only (fun k => ¬ U k) w w4 := by
  obtain ⟨_, hn, _, hpb, _, hpm⟩ := h.place hi
  obtain ⟨v', hv, hb4, hon, hlies⟩ := hT
  have hqn := h.qs _ hpm
  rw [hn] at hqn
  have hug : ¬ U (GP n) := by have := h.up _ hpm; rw [hn] at this; exact this
  have huq : ∀ k, (Q n).ownBlock = some k → ¬ U k := by have := h.uq _ hpm; rw [hn] at this; exact this
  have hs3 := ho3.size
  have hs4 := hon.size
  have hO : Only (fun k => k = mw ∨ k = GP n ∨ (Q n).ownBlock = some k) w w4 := (ho3.mono (fun _ _ h => Or.inl h)).trans (hon.mono (fun _ _ h => Or.inr h))
  have nT : ∀ {k : Nat} {c : Array Value} {T : TypeId}, w.heap[k]? = some (.cells c T (0, 0)) → T ≠ 76 → T ≠ 79 → ¬ (k = mw ∨ k = GP n ∨ (Q n).ownBlock = some k) := by
    rintro k c T hc n1 n2 (e | e | e)
    · exact h.wm.ne hc e
    · exact tag_ne hc hpb n1 e
    · obtain ⟨cur, hc2⟩ := own_tag hqn e
      exact tag_ne hc hc2 n2 rfl
  have nM : ∀ {k : Nat} {c : Array Value} {T : TypeId}, w.heap[k]? = some (.cells c T (0, 0)) → k ≠ mp := fun hc => h.pm.ne hc
  have hv' : ∀ k, v'.ownBlock = some k → (Q n).ownBlock = some k ∨ w.heap.size ≤ k := fun k hk => (hlies k hk).imp (fun h => h) (fun h => by omega)
  refine ⟨⟨fun k => if k = n then v' else Q k, Only.keep hO h.x (nT h.x (by decide) (by decide)), h.pm.keep hO ?_, ?_, h.mn, fun p hp => ?_, fun x hx => Only.keep hO (hw x hx) (nT (hw x hx) (by decide) (by decide)), h.gp, hg, fun p hp => ?_, fun p hp q hq k h1 h2 => ?_, h.ux, h.u1, h.u2, h.up, hu, fun p hp k hk => ?_, fun k hk => Nat.lt_of_lt_of_le (h.low k hk) hO.size, h.np, hnl⟩, hO.mono (fun k _ e => ?_)⟩
  · rintro (e | e | e)
    · exact h.mn e
    · exact nM hpb e.symm
    · obtain ⟨cur, hc⟩ := own_tag hqn e
      exact nM hc rfl
  · refine hm.keep hon ?_
    rintro (e | e)
    · exact h.wm.ne hpb e.symm
    · obtain ⟨cur, hc⟩ := own_tag hqn e
      exact h.wm.ne hc rfl
  · by_cases e : p.num = n
    · have := map_inj h.pm.nd hp hpm (e.trans hn.symm)
      subst this
      show w4.heap[GP s.ps[i].num]? = some (.cells (plC _ (if s.ps[i].num = n then v' else _)) _ _)
      rw [if_pos hn, hn]
      exact hb4
    · show w4.heap[GP p.num]? = some (.cells (plC _ (if p.num = n then v' else _)) _ _)
      rw [if_neg e]
      refine Only.keep hO (h.pb p hp) ?_
      rintro (e2 | e2 | e2)
      · exact h.wm.ne (h.pb p hp) e2
      · exact e (by have := h.gp p hp _ hpm (by rw [hn]; exact e2); rw [this]; exact hn)
      · obtain ⟨cur, hc⟩ := own_tag hqn e2
        exact tag_ne (h.pb p hp) hc (by decide) rfl
  · show OwnL prL w4 0 79 (if p.num = n then v' else Q p.num) ((lineL ⟨s.ps, ws2⟩ p.num).map GW2)
    by_cases e : p.num = n
    · rw [if_pos e, e]
      exact hv
    · rw [if_neg e, hln p hp e]
      refine (h.qs p hp).kept hO (fun k hk h9 => ?_)
      obtain ⟨cur, hc⟩ := own_tag (h.qs p hp) hk
      rcases h9 with h9 | h9 | h9
      · exact h.wm.ne hc h9
      · exact tag_ne hc hpb (by decide) h9
      · exact e (by have := h.qd p hp _ hpm k hk (by rw [hn]; exact h9); rw [this]; exact hn)
  · have h1 : (if p.num = n then v' else Q p.num).ownBlock = some k := h1
    have h2 : (if q.num = n then v' else Q q.num).ownBlock = some k := h2
    by_cases e1 : p.num = n
    · by_cases e2 : q.num = n
      · rw [e1, e2]
      · rw [if_pos e1] at h1
        rw [if_neg e2] at h2
        rcases hv' k h1 with h3 | h3
        · have := h.qd q hq _ hpm k h2 (by rw [hn]; exact h3)
          exact absurd (this.trans hn) e2
        · have := (own_lt (h.qs q hq) h2).2
          omega
    · by_cases e2 : q.num = n
      · rw [if_neg e1] at h1
        rw [if_pos e2] at h2
        rcases hv' k h2 with h3 | h3
        · have := h.qd p hp _ hpm k h1 (by rw [hn]; exact h3)
          exact absurd (this.trans hn) e1
        · have := (own_lt (h.qs p hp) h1).2
          omega
      · rw [if_neg e1] at h1
        rw [if_neg e2] at h2
        exact h.qd p hp q hq k h1 h2
  · have hk : (if p.num = n then v' else Q p.num).ownBlock = some k := hk
    by_cases e : p.num = n
    · rw [if_pos e] at hk
      rcases hv' k hk with h3 | h3
      · exact huq k h3
      · intro h9
        have := h.low k h9
        omega
    · rw [if_neg e] at hk
      exact h.uq p hp k hk
  · rcases e with e | e | e
    · rw [e]; exact h.u2
    · rw [e]; exact hug
    · exact huq k e
end Go.Proofs.Ytdpgdjpphnbfnaa

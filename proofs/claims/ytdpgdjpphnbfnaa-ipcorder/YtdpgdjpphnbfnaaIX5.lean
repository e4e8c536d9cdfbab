/- Chapter 10, the program's bus: leave, wait. -/
import Derived.Test.YtdpgdjpphnbfnaaIX4
namespace Go.Vx
theorem nodup_map_inj {α β : Type} {f : α → β} : ∀ {l : List α}, l.Nodup → (∀ x ∈ l, ∀ y ∈ l, f x = f y → x = y) → (l.map f).Nodup
  | [], _, _ => List.nodup_nil
  | a :: l, hn, hi => by
    rw [List.nodup_cons] at hn
    rw [List.map_cons, List.nodup_cons]
    refine ⟨fun h => ?_, nodup_map_inj hn.2 (fun x hx y hy => hi x (List.mem_cons_of_mem _ hx) y (List.mem_cons_of_mem _ hy))⟩
    obtain ⟨y, hy, he⟩ := List.mem_map.1 h
    have := hi y (List.mem_cons_of_mem _ hy) a List.mem_cons_self he
    exact hn.1 (this ▸ hy)
theorem filter_map_inj {α β : Type} [DecidableEq α] [DecidableEq β] {f : α → β} {l : List α} {a : α} (hi : ∀ x ∈ l, f x = f a → x = a) : (l.map f).filter (fun y => decide (y ≠ f a)) = (l.filter (fun x => decide (x ≠ a))).map f := by
  rw [List.filter_map]
  congr 1
  apply List.filter_congr
  intro x hx
  simp only [Function.comp]
  rw [decide_eq_decide]
  constructor
  · intro h e; exact h (by rw [e])
  · intro h e; exact h (hi x hx e)
end Go.Vx
namespace Go.Proofs.Ytdpgdjpphnbfnaa
open Go.ChangeShapes Go.WideShapes Go.ChangeAt Go.RowKit
open Go.Vx
set_option linter.unusedVariables false
variable {U V S : Nat → Prop} {w w2 w3 w4 : World} {xb mp mw : Nat} {DP DW DP2 DW2 : DataW Value} {GP GW GP2 GW2 : Int → Nat} {Q : Int → Value} {s : Bs}

/-- Where a waiter's place is. -/
theorem BWf.place (hb : BWf s) {j : Nat} (hj : j < s.ws.length) : ∃ i, pF s.ps s.ws[j].at' = some i ∧ I64 s.ws[j].at' := by
  obtain ⟨p, hp, h1, _⟩ := hb.at' _ (List.getElem_mem hj)
  obtain ⟨i, hi⟩ := pF_mem.2 (List.mem_map.2 ⟨p, hp, h1⟩)
  exact ⟨i, hi, by rw [← h1]; exact hb.ip p hp⟩
/-- A line's waiters lie somewhere. -/
theorem XbAt.lives (h : XbAt U w xb mp mw DP DW GP GW Q s) (n : Int) : (∀ x ∈ (lineL s n).map GW, Lv w x) ∧ (∀ x ∈ lineL s n, ∀ y ∈ lineL s n, GW x = GW y → x = y) := by
  refine ⟨fun x hx => ?_, fun x hx y hy he => ?_⟩
  · obtain ⟨t, ht, rfl⟩ := List.mem_map.1 hx
    obtain ⟨z, hz, rfl, _⟩ := lineL_mem ht
    exact ⟨_, _, h.wb z hz⟩
  · obtain ⟨a, ha, rfl, _⟩ := lineL_mem hx
    obtain ⟨b, hb, rfl, _⟩ := lineL_mem hy
    exact h.gw a ha b hb he
def wtP (w : World) (g : Nat) (x : Wt) : Prop := w.heap[g]? = some (.cells (wxC x) 84 (0, 0))
set_option maxRecDepth 100000 in
set_option maxHeartbeats 2000000 in
theorem bleave_ok (h : XbAt U w xb mp mw DP DW GP GW Q s) (hb : BWf s) {t : Int} {j : Nat} (hj : tF s.ws t = some j) : Calls Try.prog 20 #[.pointer (some ⟨xb, 0, none⟩), .pointer (some ⟨GW t, 0, none⟩)] w fun e w' => (∃ x, e = .returned x) ∧ XbX U w' xb ⟨s.ps, cuI s.ws j⟩ ∧ Only (fun k => ¬ U k) w w' ∧ wtP w' (GW t) (wAt s j) := by
  obtain ⟨hjl, hjt, hja, hwb, hz1, hjm⟩ := h.waiter hj
  clear hz1
  rw [hja]
  obtain ⟨i, hi, inn⟩ := hb.place hjl
  obtain ⟨n, hn⟩ : ∃ n, n = s.ws[j].at' := ⟨_, rfl⟩
  rw [← hn] at hi inn
  have it : I64 t := by rw [← hjt]; exact hb.iw _ hjm
  obtain ⟨hl, hpn, hz2, hpb, hz3, hpm⟩ := h.place hi
  clear hz2 hz3
  have hd := h.quiet ((Only.refl (fun _ => False) w).drew)
  obtain ⟨w3, hrun, hm3, ho3⟩ := hd.wm.del (t := 68) (e := 79) Try.underlying68 t it
  have ho3' : Only (fun k => k = mw) w w3 := ((Only.refl (fun k => k = mw) w).drew).trans ho3
  have hks : (s.ws.map (·.thr)).filter (fun k => decide (k ≠ t)) = (cuI s.ws j).map (·.thr) := by
    rw [cuI_filter (·.thr) s.ws hb.nt hjl, List.filter_map]
    simp only [hjt]
    rfl
  rw [hks] at hm3
  have ho5 : Only (fun k => k = mw) w w3.drew := ho3'.trans ((Only.refl _ w3).drew)
  have hm5 : MapAt w3.drew mw (DW.del (.int .i64 t)) ((cuI s.ws j).map (·.thr)) GW := hm3.keep ((Only.refl (fun _ => False) w3).drew) (fun h => h)
  have hwb5 : w3.drew.heap[GW t]? = some (.cells (wxC s.ws[j]) 84 (0, 0)) := Only.keep ho5 hwb (fun e => h.wm.ne hwb e)
  have v5 := v9_of hwb5
  have vd := v9_of (Only.keep ((Only.refl (fun _ => False) w).drew) hwb (fun h => h))
  have hpm5 : MapAt w3.drew mp DP (s.ps.map (·.num)) GP := h.pm.keep ho5 (fun e => h.mn e)
  have hk5 := hpm5.look (t := 67) (e := 71) Try.underlying67 ip_zero n inn
  unfold mpV at hk5
  rw [if_pos (pF_mem.1 ⟨i, hi⟩)] at hk5
  have c05 : w3.drew.cell? ⟨xb, 0, none⟩ = some (.map (some mp)) := (cell_of_row _ _ 0 _ _ (0, 0) (Only.keep ho5 h.x (fun e => h.wm.ne h.x e))).trans rfl
  have c1d := hd.c1
  have q5 : IqAt w3.drew (GP n) 2 (plC s.ps[i] (Q n)) 76 (Q n) ((lineL s n).map GW) := by
    have q := h.queue hi hl
    refine ⟨Only.keep ho5 q.b (fun e => h.wm.ne q.b e), q.c', q.o.kept ho5 (fun k hk e => ?_), q.ne, q.n⟩
    obtain ⟨cur, hc⟩ := own_tag q.o hk
    exact h.wm.ne hc e
  obtain ⟨hlv, hinj⟩ := h.lives n
  have hlv5 : ∀ x ∈ (lineL s n).map GW, Lv w3.drew x := fun x hx => by
    obtain ⟨cs, T, hc⟩ := hlv x hx
    exact ⟨cs, T, Only.keep ho5 hc (fun e => h.wm.ne hc e)⟩
  have htl : t ∈ lineL s n := List.mem_map.2 ⟨s.ws[j], List.mem_filter.2 ⟨hjm, decide_eq_true hn.symm⟩, hjt⟩
  have hmv : w3.drew.heap[GP n]? = some (.cells (plC s.ps[i] (Q n)) 76 (0, 0)) := q5.b
  have HL : Hid (Calls Try.prog 42 #[.pointer (some ⟨GP n, 2, none⟩), .pointer (some ⟨GW t, 0, none⟩)] w3.drew fun e w' => (∃ x, e = .returned x) ∧ Hid (XbX U w' xb ⟨s.ps, cuI s.ws j⟩ ∧ Only (fun k => ¬ U k) w w' ∧ wtP w' (GW t) s.ws[j])) := by
    refine (ileave_ok q5 (nodup_map_inj (lineL_nodup hb.nt n) hinj) hlv5 ⟨_, _, hwb5⟩).mono ?_
    rintro e w' ⟨he, hT⟩
    rw [filter_map_inj (fun x hx he => hinj x hx t htl he)] at hT
    have hT0 := hT
    have e9 : (lineL s n).filter (fun x => decide (x ≠ t)) = lineL ⟨s.ps, cuI s.ws j⟩ n := by
      rw [lineL_cut hb.nt hjl]
      simp only [hjt]
    rw [e9] at hT
    obtain ⟨⟨Q', hx'⟩, hO⟩ := h.reline hi hl hm5 ho5 hT (fun x hx => h.wb x ((cuI_sub s.ws j).mem hx)) (fun x hx y hy => h.gw x ((cuI_sub s.ws j).mem hx) y ((cuI_sub s.ws j).mem hy)) (fun p hp hne => by
      rw [lineL_cut_ne hb.nt hjl (fun e => hne (by rw [hn]; exact e.symm))]) (fun x hx => h.uw x ((cuI_sub s.ws j).mem hx)) (Nat.le_trans (cuI_sub s.ws j).length_le h.nl)
    refine ⟨he, ⟨hb.cut j, _, _, _, _, _, _, _, hx'⟩, hO, ?_⟩
    obtain ⟨v', _, _, hon, _⟩ := hT0
    refine Only.keep hon hwb5 ?_
    rintro (e1 | e1)
    · exact tag_ne hwb5 hmv (by decide) e1
    · obtain ⟨cur, hc⟩ := own_tag q5.o e1
      exact tag_ne hwb5 hc (by decide) rfl
  have b0 := vd.c0
  rw [hjt] at b0
  have b1 := v5.c1
  rw [← hn] at b1
  generalize s.ws[j] = x9 at HL
  generalize GP n = gp at hk5 HL
  generalize GW t = gw at b0 b1 HL
  clear h hb hj hjl hjt hja hwb hjm hi inn hn it hl hpn hpb hpm hd hm3 ho3 ho3' hks ho5 hm5 hwb5 v5 vd hpm5 q5 hlv hinj hlv5 htl hmv
  go_enter Try.func20, Try.ntmps20
  go_wp2_with fail
  go_region
  all_goals
    clear hrun c1d b0
    go_wp2_with fail
    go_region_with (go_at_call 42; refine HL.out.mono ?_; rintro e w' ⟨⟨x, rfl⟩, HR⟩)
    all_goals
      go_wp2_with fail
      go_end0
      exact ⟨⟨_, rfl⟩, HR.out⟩
end Go.Proofs.Ytdpgdjpphnbfnaa

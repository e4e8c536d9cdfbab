/- Chapter 10, the program's bus: wait. -/
import Derived.Test.YtdpgdjpphnbfnaaIX5
namespace Go.Proofs.Ytdpgdjpphnbfnaa
open Go.ChangeShapes Go.WideShapes Go.ChangeAt Go.RowKit
open Go.Vx
set_option linter.unusedVariables false
variable {U V S : Nat → Prop} {w w2 w3 w4 : World} {xb mp mw : Nat} {DP DW DP2 DW2 : DataW Value} {GP GW GP2 GW2 : Int → Nat} {Q : Int → Value} {s : Bs}

theorem bwait_no (w : World) (xb g : Nat) : Calls Try.prog 41 #[.pointer (some ⟨xb, 0, none⟩), .pointer (some ⟨g, 0, none⟩), .bool false] w fun e w' => e = .returned (.agg #[.int .i64 17, .int .i64 (-1), .int .u32 0, .int .u32 0, .int .u32 0, .int .u32 0, .int .u32 0, .int .u32 0, .bool false, .bool false, .bool false]) ∧ Only (fun _ => False) w w' := by
  have HRF := Vx.hid (fun wv => xrefused_ok wv 17)
  obtain ⟨w1, hw1⟩ : ∃ w1, w1 = w.alloc (.cells #[.int .i64 0, .int .i64 0, .int .u32 0, .int .u32 0, .int .u32 0, .int .u32 0, .int .u32 0, .int .u32 0, .bool false, .bool false, .bool false] 37) := ⟨_, rfl⟩
  obtain ⟨rc, hrc⟩ : ∃ rc, rc = w.heap.size := ⟨_, rfl⟩
  have ho1 : Only (fun _ => False) w w1 := by rw [hw1]; exact (Only.refl _ w).alloc _
  have hz1 : w1.heap[rc]? = some (.cells oc0A 37 (0, 0)) := by rw [hw1, hrc]; exact heap_alloc_last w _
  have HZ : Hid (∀ w3, Only (fun _ => False) w1 w3 → Z11 w3 rc ∧ ∀ w7, Only (fun k => k = rc) w3 w7 → Only (fun _ => False) w w7) := fun w3 h3 => ⟨z11_of (Only.keep h3 hz1 (fun h => h)), fun w7 h7 => (ho1.trans h3).newer h7 (by omega)⟩
  clear ho1 hz1
  go_enter Try.func41, Try.ntmps41
  go_upto_region 1 with fail
  rw [← hw1, ← hrc]
  clear hw1 hrc
  go_wp2_with fail
  refine (HRF.out _).mono ?_
  rintro e w3 ⟨rfl, hq⟩
  obtain ⟨⟨z0, z1, z2, z3, z4, z5, z6, z7, z8, z9, z10, zf, zl⟩, hF⟩ := HZ.out w3 hq
  have HF := Vx.hid hF
  clear hq hF
  go_wp2_with fail
  refine bodyPost_ret (v := .agg #[.int .i64 17, .int .i64 (-1), .int .u32 0, .int .u32 0, .int .u32 0, .int .u32 0, .int .u32 0, .int .u32 0, .bool false, .bool false, .bool false]) ?_ rfl ⟨rfl, HF.out _ (only_set11 _ _ _ _ _ _ _ _ _ _ _ _ _)⟩
  simp [results, Try.results41, go_sem, z0, z1, z2, z3, z4, z5, z6, z7, z8, z9, z10]
set_option maxRecDepth 100000 in
set_option maxHeartbeats 4000000 in
theorem bwait_ok (h0 : XbAt U w xb mp mw DP DW GP GW Q s) (hb : BWf s) {n t hw : Int} {m : Ms} {i : Nat} (hi : pF s.ps n = some i) (hin : I64 n) (ht : tF s.ws t = none) (it : I64 t) (hh : (pAt s i).bell = false → hw = 2 ∨ hw = 3 ∨ hw = 4 ∨ hw = 7) {g : Nat} (hg0 : wtP w g ⟨n, t, hw, m⟩) (hgu : ¬ U g) (hgn : ∀ x ∈ s.ws, GW x.thr ≠ g) (hl9 : s.ws.length < 1000000) :
    Calls Try.prog 41 #[.pointer (some ⟨xb, 0, none⟩), .pointer (some ⟨g, 0, none⟩), .bool true] w fun e w' => e = .returned (.agg #[.int .i64 0, .int .i64 (-1), .int .u32 0, .int .u32 0, .int .u32 0, .int .u32 0, .int .u32 0, .int .u32 0, .bool true, .bool false, .bool false]) ∧ XbX U w' xb ⟨s.ps, s.ws ++ [⟨n, t, hw, m⟩]⟩ ∧ Only (fun k => ¬ U k) w w' := by
  obtain ⟨w1, hw1⟩ : ∃ w1, w1 = w.alloc (.cells #[.int .i64 0, .int .i64 0, .int .u32 0, .int .u32 0, .int .u32 0, .int .u32 0, .int .u32 0, .int .u32 0, .bool false, .bool false, .bool false] 37) := ⟨_, rfl⟩
  obtain ⟨rc, hrc⟩ : ∃ rc, rc = w.heap.size := ⟨_, rfl⟩
  have ho1 : Only (fun _ => False) w w1 := by rw [hw1]; exact (Only.refl _ w).alloc _
  have hz1 : w1.heap[rc]? = some (.cells oc0A 37 (0, 0)) := by rw [hw1, hrc]; exact heap_alloc_last w _
  have hrl : w.heap.size ≤ rc := by omega
  have hrh := lt_of_some hz1
  have h : XbAt (Up U w w1) w1 xb mp mw DP DW GP GW Q s := h0.step ho1 (fun _ _ h => h.elim) (fun _ h => h)
  have hgl := lt_of_some hg0
  have hg1 : wtP w1 g ⟨n, t, hw, m⟩ := Only.keep ho1 hg0 (fun h => h)
  have hgu1 : ¬ Up U w w1 g := by
    rintro (h9 | h9)
    · exact hgu h9
    · omega
  have HZ : Hid (∀ w3, Only (fun k => ¬ Up U w w1 k) w1 w3 → Z11 w3 rc) := fun w3 h3 => z11_of (up_keep h3 hz1 hrl)
  have HFC : Hid (∀ s2 w3 w7, XbX (Up U w w1) w3 xb s2 → Only (fun k => ¬ Up U w w1 k) w1 w3 → Only (fun k => k = rc) w3 w7 → XbX U w7 xb s2 ∧ Only (fun k => ¬ U k) w w7) := fun s2 w3 w7 a1 a2 a3 => up_out (xb_steps xb s2) a1 ho1 a2 hrl hrh a3
  clear h0 hg0 hgu hz1 hrl hrh hgl ho1
  obtain ⟨hl, hpn, hz2, hpb, hz3, hpm⟩ := h.place hi
  clear hz2 hz3
  have hd := h.quiet ((Only.refl (fun _ => False) w1).drew)
  have htno : t ∉ s.ws.map (·.thr) := fun h9 => by
    obtain ⟨j, h8⟩ := tF_mem.2 h9
    rw [ht] at h8; cases h8
  obtain ⟨w3, hrun, hm3, ho3⟩ := hd.wm.put (t := 68) (e := 79) Try.underlying68 (by rw [List.length_map]; unfold maxLen; omega) t it htno g
  have ho3' : Only (fun k => k = mw) w1 w3 := ((Only.refl (fun k => k = mw) w1).drew).trans ho3
  have ho5 : Only (fun k => k = mw) w1 w3.drew := ho3'.trans ((Only.refl _ w3).drew)
  have hG : ∀ x ∈ s.ws, nuG GW t g x.thr = GW x.thr := fun x hx => nuG_ne GW g (fun e => htno (List.mem_map.2 ⟨x, hx, e⟩))
  have hN : nuG GW t g t = g := nuG_at GW t g
  have hm5 : MapAt w3.drew mw (DW.put (.int .i64 t) (.held (.pointer (some ⟨g, 0, none⟩)))) ((s.ws ++ [(⟨n, t, hw, m⟩ : Wt)]).map (·.thr)) (nuG GW t g) := by
    rw [List.map_append]
    exact hm3.keep ((Only.refl (fun _ => False) w3).drew) (fun h => h)
  have hwb5 : wtP w3.drew g ⟨n, t, hw, m⟩ := Only.keep ho5 hg1 (fun e => h.wm.ne hg1 e)
  have v5 := v9_of hwb5
  have vd := v9_of (Only.keep ((Only.refl (fun _ => False) w1).drew) hg1 (fun h => h))
  have hpm5 : MapAt w3.drew mp DP (s.ps.map (·.num)) GP := h.pm.keep ho5 (fun e => h.mn e)
  have hk5 := hpm5.look (t := 67) (e := 71) Try.underlying67 ip_zero n hin
  unfold mpV at hk5
  rw [if_pos (pF_mem.1 ⟨i, hi⟩)] at hk5
  have c05 : w3.drew.cell? ⟨xb, 0, none⟩ = some (.map (some mp)) := (cell_of_row _ _ 0 _ _ (0, 0) (Only.keep ho5 h.x (fun e => h.wm.ne h.x e))).trans rfl
  have c1d := hd.c1
  have q5 : IqAt w3.drew (GP n) 2 (plC s.ps[i] (Q n)) 76 (Q n) ((lineL s n).map GW) := by
    have q := h.queue hi hl
    refine ⟨Only.keep ho5 q.b (fun e => h.wm.ne q.b e), q.c', q.o.kept ho5 (fun k hk e => ?_), q.ne, q.n⟩
    obtain ⟨cur, hc⟩ := own_tag q.o hk
    exact h.wm.ne hc e
  have hmap : ∀ k, (lineL s k).map (nuG GW t g) = (lineL s k).map GW := fun k => List.map_congr_left (fun x hx => by
    obtain ⟨z, hz, rfl, _⟩ := lineL_mem hx
    exact hG z hz)
  have hmem : ∀ x ∈ s.ws ++ [(⟨n, t, hw, m⟩ : Wt)], x ∈ s.ws ∨ x = ⟨n, t, hw, m⟩ := fun x hx => by
    rcases List.mem_append.1 hx with hx | hx
    · exact Or.inl hx
    · rw [List.mem_singleton] at hx; exact Or.inr hx
  have HL : Hid (Calls Try.prog 56 #[.pointer (some ⟨GP n, 2, none⟩), .pointer (some ⟨g, 0, none⟩)] w3.drew fun e w' => (∃ x, e = .returned x) ∧ Hid (XbX (Up U w w1) w' xb ⟨s.ps, s.ws ++ [⟨n, t, hw, m⟩]⟩ ∧ Only (fun k => ¬ Up U w w1 k) w1 w')) := by
    refine (ijoin_ok q5 g).mono ?_
    rintro e w' ⟨he, hT⟩
    have e9 : (lineL s n).map GW ++ [g] = (lineL ⟨s.ps, s.ws ++ [⟨n, t, hw, m⟩]⟩ n).map (nuG GW t g) := by
      rw [lineL_add, if_pos rfl, List.map_append, hmap]
      show _ = _ ++ [nuG GW t g t]
      rw [hN]
    rw [e9] at hT
    obtain ⟨⟨Q', hx'⟩, hO⟩ := h.reline hi hl hm5 ho5 hT (fun x hx => by
        rcases hmem x hx with hx | hx
        · rw [hG x hx]; exact h.wb x hx
        · subst hx
          show w1.heap[nuG GW t g t]? = _
          rw [hN]; exact hg1) (fun x hx y hy h9 => by
        rcases hmem x hx with hx | hx
        · rcases hmem y hy with hy | hy
          · rw [hG x hx, hG y hy] at h9
            exact h.gw x hx y hy h9
          · subst hy
            rw [hG x hx] at h9
            exact absurd (h9.trans hN) (hgn x hx)
        · subst hx
          rcases hmem y hy with hy | hy
          · rw [hG y hy] at h9
            exact absurd (h9.symm.trans hN) (hgn y hy)
          · rw [hy]) (fun p hp hne => by
        rw [lineL_add, if_neg (fun e => hne e.symm), List.append_nil]
        exact hmap _) (fun x hx => by
        rcases hmem x hx with hx | hx
        · rw [hG x hx]; exact h.uw x hx
        · subst hx
          show ¬ Up U w w1 (nuG GW t g t)
          rw [hN]; exact hgu1) (by rw [List.length_append, List.length_singleton]; omega)
    exact ⟨he, ⟨hb.waits m hi ht it hh, _, _, _, _, _, _, _, hx'⟩, hO⟩
  have b0 := vd.c0
  have b1 := v5.c1
  dsimp only at b0 b1
  generalize GP n = gp at hk5 HL
  clear h hb hi hin ht it hh hg1 hgu1 hgn hl9 hl hpn hpb hpm hd htno hm3 ho3 ho3' ho5 hG hN hm5 hwb5 v5 vd hpm5 q5 hmap hmem
  go_enter Try.func41, Try.ntmps41
  go_upto_region 1 with fail
  rw [← hw1, ← hrc]
  clear hw1 hrc
  go_wp2_with fail
  go_region
  all_goals
    clear hrun c1d b0
    go_wp2_with fail
    go_region_with (go_at_call 56; refine HL.out.mono ?_; rintro e w' ⟨⟨x, rfl⟩, HR⟩; obtain ⟨z0, z1, z2, z3, z4, z5, z6, z7, z8, z9, z10, zf, zl⟩ := HZ.out w' HR.out.2)
    all_goals
      clear hk5 c05 b1
      go_wp2_with fail
      refine bodyPost_ret (v := .agg #[.int .i64 0, .int .i64 (-1), .int .u32 0, .int .u32 0, .int .u32 0, .int .u32 0, .int .u32 0, .int .u32 0, .bool true, .bool false, .bool false]) ?_ rfl ⟨rfl, HFC.out _ _ _ HR.out.1 HR.out.2 (only_set11 _ _ _ _ _ _ _ _ _ _ _ _ _)⟩
      simp [results, Try.results41, go_sem, z0, z1, z2, z3, z4, z5, z6, z7, z8, z9, z10]
end Go.Proofs.Ytdpgdjpphnbfnaa

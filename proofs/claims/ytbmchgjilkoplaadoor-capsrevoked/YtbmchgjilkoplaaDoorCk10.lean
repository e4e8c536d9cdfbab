import Derived.Test.YtbmchgjilkoplaaDoorCk9
import Derived.BigRegion
/- Chapter 7, the document's store: Set. -/
namespace Go.Proofs.YtbmchgjilkoplaaDoor
open Go.ChangeShapes Go.WideShapes Go.ChangeAt Go.RowKit
open Go.Vx
set_option linter.unusedVariables false

theorem RsAt.inplace {U : Nat → Prop} {w w3 : World} {rb : Nat} {vb : Value} {g c m : Nat} {bs : List (Int × Int)} {es es' : List En} (h : RsAt U w rb vb (.slice (some ⟨g, 0, none⟩) m c) bs es) (ho : OwnL enL w3 0 72 (.slice (some ⟨g, 0, none⟩) m c) es') (hon : Only (fun b => b = g) w w3) (hn : es'.length = es.length) :
    RsAt U w3 rb vb (.slice (some ⟨g, 0, none⟩) m c) bs es' ∧ Only (fun k => ¬ U k) w w3 := by
  have hg : (Value.slice (some ⟨g, 0, none⟩) m c).ownBlock = some g := rfl
  obtain ⟨cur, hc⟩ := own_tag h.e hg
  have n1 : rb ≠ g := (tag_ne hc h.r (by decide)).symm
  have n2 : ∀ k, vb.ownBlock = some k → k ≠ g := fun k hk => by
    obtain ⟨cur2, hc2⟩ := own_tag h.b hk
    exact tag_ne hc2 hc (by decide)
  exact ⟨⟨by rw [hon.block rb (lt_of_some h.r) n1]; exact h.r, h.b.kept hon n2, ho, h.ur, h.ub, h.ue, fun k hk => Nat.lt_of_lt_of_le (h.low k hk) hon.size, h.nb, by rw [hn]; exact h.ne⟩, hon.mono (fun k _ hk => by rw [hk]; exact h.ue g hg)⟩
def sameO (a b : Cp) : Bool := decide (a.kind = b.kind ∧ a.num = b.num)
def setE (bs : List (Int × Int)) (es : List En) (s : Sl) (c : Cp) : Int := match fullF bs es s with | .error e => e | .ok i => if sameO (es.getD i .df).cap c then 0 else 12
def setL (bs : List (Int × Int)) (es : List En) (s : Sl) (c : Cp) : List En := match fullF bs es s with | .error _ => es | .ok i => if sameO (es.getD i .df).cap c then es.set i ⟨(es.getD i .df).at', c, (es.getD i .df).from'⟩ else es
set_option maxRecDepth 100000 in
set_option maxHeartbeats 2000000 in
theorem set_ok {U : Nat → Prop} {w : World} {rb : Nat} {bs : List (Int × Int)} {es : List En} (hc : RcAt U w rb bs es) (s : Sl) (cp : Cp) : Calls Tryd.prog 33 #[.pointer (some ⟨rb, 0, none⟩), .agg #[.int .i64 s.1, .int .i64 s.2], .agg #[.int .i64 cp.kind, .int .i64 cp.num, .int .i64 cp.rights, .int .u32 cp.badge, .int .u32 cp.guard, .int .i64 cp.gbits, .int .i64 cp.root, .int .u32 cp.va]] w fun e w' => e = .returned (.int .i64 (setE bs es s cp)) ∧ RcAt U w' rb bs (setL bs es s cp) ∧ Only (fun k => ¬ U k) w w' := by
  obtain ⟨vb, ve, h⟩ := hc
  obtain ⟨s1, s2⟩ := s
  have HFU : Hid (∀ wv, Only (fun _ => False) w wv → Calls Tryd.prog 62 #[.pointer (some ⟨rb, 0, none⟩), .agg #[.int .i64 s1, .int .i64 s2]] wv fun e w' => e = .returned (.tuple #[.int .i64 (fullI (fullF bs es (s1, s2))), .int .i64 (fullE (fullF bs es (s1, s2)))]) ∧ Only (fun _ => False) wv w') := fun wv hv => full_ok (h.quiet hv) (s1, s2)
  have HO : Hid (∀ o p, Only (fun _ => False) w ((w.alloc o).alloc p)) := fun o p => ((Only.refl _ w).alloc _).alloc _
  have HH := Vx.hid h
  clear h
  obtain ⟨d0, d1, d2, d3, d4, d5, d6, d7⟩ := cp
  dsimp only
  rcases full_cases bs es (s1, s2) with ⟨i, hf, hi⟩ | hf | hf
  · obtain ⟨hil, _⟩ := entF_at hi
    have hgd : es.getD i .df = es[i] := by simp [hil]
    have HE0 : Hid (∀ c, setE bs es (s1, s2) c = if sameO es[i].cap c then 0 else 12) := fun c => by unfold setE; rw [hf]; dsimp only; rw [hgd]
    have HL0 : Hid (∀ c, setL bs es (s1, s2) c = if sameO es[i].cap c then es.set i ⟨es[i].at', c, es[i].from'⟩ else es) := fun c => by unfold setL; rw [hf]; dsimp only; rw [hgd]
    rw [hf] at HFU
    simp only [fullI, fullE] at HFU
    clear hf hi hgd
    go_enter Tryd.func33, Tryd.ntmps33
    go_wp2_with fail
    refine (HFU.out _ (HO.out _ _)).mono ?_
    rintro e w2 ⟨rfl, hq⟩
    have hO2 := (HO.out (.cells #[.int .i64 s1, .int .i64 s2] 62) (.cells #[.int .i64 d0, .int .i64 d1, .int .i64 d2, .int .u32 d3, .int .u32 d4, .int .i64 d5, .int .i64 d6, .int .u32 d7] 66)).trans hq
    have hz := new_second hq
    have H2 := Vx.hid (HH.out.quiet hO2)
    obtain ⟨g, c, hve, hE⟩ := H2.out.e12 i hil
    have c1 := H2.out.c1
    rw [hve] at c1 H2
    obtain ⟨⟨z0, z1, z2, z3, z4, z5, z6, z7⟩, zf⟩ := cap_cells hz
    obtain ⟨a0, a1, k0, k1, k2, k3, k4, k5, k6, k7, a2, a3⟩ := hE
    have HO2 := Vx.hid hO2
    obtain ⟨N, hN⟩ : ∃ N, N = es.length := ⟨_, rfl⟩
    have HN := Vx.hid hN
    rw [← hN] at c1
    have hidx : 0 ≤ (i : Int) ∧ (i : Int) < (N : Int) := by omega
    obtain ⟨rc, hrc⟩ : ∃ rc, rc = w.heap.size + 1 := ⟨_, rfl⟩
    rw [← hrc] at z0 z1 z2 z3 z4 z5 z6 z7 zf hz ⊢
    have HZ := Vx.hid hz
    have HIL := Vx.hid hil
    clear a0 a1 a2 a3 k2 k3 k4 k5 k6 k7 z2 z3 z4 z5 z6 z7 zf hq hve hz hO2 HFU HH HO hN hrc
    generalize hcp : es[i].cap = cq at k0 k1 HE0 HL0
    obtain ⟨f0, f1, f2, f3, f4, f5, f6, f7⟩ := cq
    dsimp only at k0 k1
    by_cases h0 : f0 = d0
    · subst h0
      by_cases h1 : f1 = d1
      · subst h1
        have HS : Hid (sameO ⟨f0, f1, f2, f3, f4, f5, f6, f7⟩ ⟨f0, f1, d2, d3, d4, d5, d6, d7⟩ = true) := decide_eq_true ⟨rfl, rfl⟩
        go_wp2_with fail
        go_quiet (fail)
        go_wp2_with fail
        obtain ⟨w3, hw3⟩ : ∃ w3, w3 = w2.drewN nq := ⟨_, rfl⟩
        rw [← hw3]
        have hon : Only (fun _ => False) w2 w3 := by rw [hw3]; exact (Only.refl _ w2).drewN _
        have H3 := Vx.hid (H2.out.quiet hon)
        have c1' := H3.out.c1
        obtain ⟨⟨y0, y1, y2, y3, y4, y5, y6, y7⟩, yf⟩ := cap_cells ((hon.block rc (lt_of_some HZ.out) (fun h => h)).trans HZ.out)
        obtain ⟨_, _, m0, m1, m2, m3, m4, m5, m6, m7, _, _⟩ := own_e12 H3.out.e i HIL.out
        have mf := own_fz H3.out.e
        have HOC := Vx.hid (own_cap H3.out.e rfl i HIL.out ⟨f0, f1, d2, d3, d4, d5, d6, d7⟩)
        rw [← HN.out] at c1'
        have HO3 := Vx.hid (HO2.out.trans hon)
        clear hw3 hon c1 k0 k1 z0 z1
        go_region
        all_goals
          go_wp2_with fail
          go_ret
          obtain ⟨r1, r2⟩ := H3.out.inplace HOC.out.1 HOC.out.2 (by rw [List.length_set])
          exact ⟨by rw [HE0.out, HS.out]; rfl, by rw [HL0.out, HS.out]; exact ⟨_, _, r1.quiet ((Only.refl _ _).drew)⟩, ((HO3.out.mono (fun _ _ h => h.elim)).trans r2).drew⟩
      · have HS : Hid (sameO ⟨f0, f1, f2, f3, f4, f5, f6, f7⟩ ⟨f0, d1, d2, d3, d4, d5, d6, d7⟩ = false) := decide_eq_false (fun h => h1 h.2)
        have he : (f1 == d1) = false := beq_eq_false_iff_ne.2 h1
        go_wp2_with fail
        go_quiet (fail)
        go_wp2_with fail
        all_goals
          go_ret
          exact ⟨by rw [HE0.out, HS.out]; rfl, by rw [HL0.out, HS.out]; exact ⟨_, _, H2.out.quiet ((Only.refl _ _).drewN _)⟩, (HO2.out.mono (fun _ _ h => h.elim)).drewN _⟩
    · have HS : Hid (sameO ⟨f0, f1, f2, f3, f4, f5, f6, f7⟩ ⟨d0, d1, d2, d3, d4, d5, d6, d7⟩ = false) := decide_eq_false (fun h => h0 h.1)
      have he : (f0 == d0) = false := beq_eq_false_iff_ne.2 h0
      go_wp2_with fail
      go_quiet (fail)
      go_wp2_with fail
      all_goals
        go_ret
        exact ⟨by rw [HE0.out, HS.out]; rfl, by rw [HL0.out, HS.out]; exact ⟨_, _, H2.out.quiet ((Only.refl _ _).drewN _)⟩, (HO2.out.mono (fun _ _ h => h.elim)).drewN _⟩
  · have HE : Hid (∀ c, setE bs es (s1, s2) c = 9) := fun c => by unfold setE; rw [hf]
    have HL : Hid (∀ c, setL bs es (s1, s2) c = es) := fun c => by unfold setL; rw [hf]
    rw [hf] at HFU
    simp only [fullI, fullE] at HFU
    clear hf
    go_enter Tryd.func33, Tryd.ntmps33
    go_wp2_with fail
    refine (HFU.out _ (HO.out _ _)).mono ?_
    rintro e w2 ⟨rfl, hq⟩
    have HQ := Vx.hid ((HO.out _ _).trans hq)
    clear hq HFU HO
    go_wp2_with fail
    all_goals
      go_ret
      exact ⟨by rw [HE.out]; rfl, by rw [HL.out]; exact ⟨_, _, HH.out.quiet HQ.out⟩, HQ.out.mono (fun _ _ h => h.elim)⟩
  · have HE : Hid (∀ c, setE bs es (s1, s2) c = 11) := fun c => by unfold setE; rw [hf]
    have HL : Hid (∀ c, setL bs es (s1, s2) c = es) := fun c => by unfold setL; rw [hf]
    rw [hf] at HFU
    simp only [fullI, fullE] at HFU
    clear hf
    go_enter Tryd.func33, Tryd.ntmps33
    go_wp2_with fail
    refine (HFU.out _ (HO.out _ _)).mono ?_
    rintro e w2 ⟨rfl, hq⟩
    have HQ := Vx.hid ((HO.out _ _).trans hq)
    clear hq HFU HO
    go_wp2_with fail
    all_goals
      go_ret
      exact ⟨by rw [HE.out]; rfl, by rw [HL.out]; exact ⟨_, _, HH.out.quiet HQ.out⟩, HQ.out.mono (fun _ _ h => h.elim)⟩
end Go.Proofs.YtbmchgjilkoplaaDoor

import Derived.Test.YtbmchgjilkoplaaDoorCq8
import Derived.Test.YtbmchgjilkoplaaDoorCq7
import Derived.BigRegion
/- CapsScripts: reads, readsMore. -/
namespace Go.Proofs.YtbmchgjilkoplaaDoor
open Go.ChangeShapes Go.WideShapes Go.ChangeAt Go.RowKit
open Go.Vx
set_option linter.unusedVariables false
variable {B : Nat → Prop} {w : World} {bb : Nat} {x r vs ve : Value} {ss ls : List Sh}

set_option maxRecDepth 100000 in
set_option maxHeartbeats 2000000 in
theorem readsMore_ok (h : Bks B w bb x r vs ss ve ls) (hl : ss.length ≤ 1000000) (hl2 : ls.length ≤ 1000000) :
    Calls Tryd.prog 47 #[.pointer (some ⟨bb, 2, none⟩)] w fun e w' => e = .returned (.bool true) ∧ w' = w := by
  obtain ⟨pv, cv, hv, hcells⟩ := h.n.at
  have HC := Vx.hid hcells
  have HB := Vx.hid h.n
  obtain ⟨⟨_, _, d2, d3, d4, d5, d6, d7⟩, _⟩ := h.cells
  have HH := Vx.hid (⟨h, hl, hl2⟩ : _ ∧ _ ∧ _)
  obtain ⟨L, hL⟩ : ∃ L, L = ls.length := ⟨_, rfl⟩
  have HL := Vx.hid hL
  have hlm : (L : Int) ≤ 1000000 := by omega
  rw [hv, ← hL] at d6
  have ha := d5
  have hb := d6
  have hc := d7
  clear h hcells hL hl hl2 hv d2 d3 d4 d5 d6 d7
  go_enter Tryd.func47, Tryd.ntmps47
  go_wp2_with fail
  go_loopw [3] (fun i wr => i = .int .i64 0 ∧ wr = w) (fun _ _ => 0)
  case atStart => exact ⟨rfl, rfl⟩
  case round =>
    obtain ⟨rfl, rfl⟩ := hrel
    go_wp2_with fail
    go_loopw [5] (fun d wx => ∃ i : Nat, d = .int .i64 (i : Int) ∧ i ≤ L ∧ wx = wr) (fun d _ => L - (intOf d).toNat)
    case atStart => exact ⟨0, rfl, by omega, rfl⟩
    case round =>
      obtain ⟨i, rfl, hi, rfl⟩ := hrel
      by_cases hlt : i < L
      · have d1 : (i : Int) < (L : Int) := by omega
        have hidx : 0 ≤ (i : Int) ∧ (i : Int) < (L : Int) := by omega
        have hiS : i < ls.length := by have := HL.out; omega
        have v1 : IntKind.i64.wrap ((i : Int) + 1) = (i : Int) + 1 := by rw [IntKind.wrap_i64]; omega
        obtain ⟨g, rfl, hci⟩ := HC.out i hiS
        obtain ⟨hn, hk⟩ := HB.out.marks i hiS
        generalize ls[i] = z at hci hn hk
        obtain ⟨p, n, cap⟩ := z
        have hci2 : wr.cell? ⟨g, i, none⟩ = some (.slice p n cap) := hci
        have HK := Vx.hid hk
        have q0 : Int.tdiv (i : Int) 2 = ((i / 2 : Nat) : Int) := by rw [Int.tdiv_eq_ediv_of_nonneg (by omega)]; omega
        have q0' : (i : Int) / 2 = ((i / 2 : Nat) : Int) := by omega
        have q1 : IntKind.i64.wrap ((i / 2 : Nat) : Int) = ((i / 2 : Nat) : Int) := by rw [IntKind.wrap_i64]; omega
        have q2 : IntKind.i64.wrap (-77 - ((i / 2 : Nat) : Int)) = -77 - ((i / 2 : Nat) : Int) := by rw [IntKind.wrap_i64]; omega
        generalize i / 2 = q at q0 q0' q1 q2 HK
        have hnm : (n : Int) ≤ 3000000 := by have : n ≤ 3000000 := hn; omega
        clear hk hiS hlt hci hn
        go_wp2_with fail
        go_loopw [6] (fun d wx => ∃ k : Nat, d = .int .i64 (k : Int) ∧ k ≤ n ∧ wx = wr) (fun d _ => n - (intOf d).toNat)
        case atStart => exact ⟨0, rfl, by omega, rfl⟩
        case round =>
          obtain ⟨k, rfl, hk, rfl⟩ := hrel
          by_cases hk2 : k < n
          · have d2 : (k : Int) < (n : Int) := by omega
            have hidk : 0 ≤ (k : Int) ∧ (k : Int) < (n : Int) := by omega
            have v2 : IntKind.i64.wrap ((k : Int) + 1) = (k : Int) + 1 := by rw [IntKind.wrap_i64]; omega
            obtain ⟨g2, cur, hp, _, hbl, hcell⟩ := HK.out (by show 0 < n; omega)
            have hp2 : p = some ⟨g2, 0, none⟩ := hp
            subst hp2
            have hcell2 : wr.cell? ⟨g2, k * 12, none⟩ = some (.int .i64 (-77 - (q : Int))) := by rw [cell_of_row _ _ (k * 12) _ _ (0, 0) hbl]; exact hcell k hk2
            clear hcell hk2 hbl hp
            go_wp2_with fail
            go_roundw
            case rel => exact ⟨k + 1, by go_num, by omega, trivial⟩
            case measure => simp only [intOf]; omega
          · have d2 : ¬ (k : Int) < (n : Int) := by omega
            clear hk2
            go_wp2_with fail
            go_roundw
            case rel => exact ⟨i + 1, by go_num, by omega, trivial⟩
            case measure => simp only [intOf]; omega
      · have d1 : ¬ (i : Int) < (L : Int) := by omega
        clear hlt
        go_wp2_with fail
        go_loopw [7] (fun i wx => i = .int .i64 0 ∧ wx = wr) (fun _ _ => 0)
        case atStart => exact ⟨rfl, rfl⟩
        case round =>
          obtain ⟨rfl, rfl⟩ := hrel
          go_wp2_with fail
          all_goals
            go_ret
            exact ⟨rfl, rfl⟩
set_option maxRecDepth 100000 in
set_option maxHeartbeats 2000000 in
theorem reads_ok (h : Bks B w bb x r vs ss ve ls) (hl : ss.length ≤ 1000000) (hl2 : ls.length ≤ 1000000) :
    Calls Tryd.prog 11 #[.pointer (some ⟨bb, 2, none⟩)] w fun e w' => e = .returned (.bool true) ∧ w' = w := by
  obtain ⟨pv, cv, hv, hcells⟩ := h.s.at
  have HC := Vx.hid hcells
  have HB := Vx.hid h.s
  obtain ⟨⟨_, _, d2, d3, d4, d5, d6, d7⟩, _⟩ := h.cells
  have HH := Vx.hid (⟨h, hl, hl2⟩ : _ ∧ _ ∧ _)
  obtain ⟨L, hL⟩ : ∃ L, L = ss.length := ⟨_, rfl⟩
  have HL := Vx.hid hL
  have hlm : (L : Int) ≤ 1000000 := by omega
  rw [hv, ← hL] at d3
  have ha := d2
  have hb := d3
  have hc := d4
  clear h hcells hL hl hl2 hv d2 d3 d4 d5 d6 d7
  go_enter Tryd.func11, Tryd.ntmps11
  go_wp2_with fail
  go_loopw [3] (fun i wr => i = .int .i64 0 ∧ wr = w) (fun _ _ => 0)
  case atStart => exact ⟨rfl, rfl⟩
  case round =>
    obtain ⟨rfl, rfl⟩ := hrel
    go_wp2_with fail
    go_loopw [5] (fun d wx => ∃ i : Nat, d = .int .i64 (i : Int) ∧ i ≤ L ∧ wx = wr) (fun d _ => L - (intOf d).toNat)
    case atStart => exact ⟨0, rfl, by omega, rfl⟩
    case round =>
      obtain ⟨i, rfl, hi, rfl⟩ := hrel
      by_cases hlt : i < L
      · have d1 : (i : Int) < (L : Int) := by omega
        have hidx : 0 ≤ (i : Int) ∧ (i : Int) < (L : Int) := by omega
        have hiS : i < ss.length := by have := HL.out; omega
        have v1 : IntKind.i64.wrap ((i : Int) + 1) = (i : Int) + 1 := by rw [IntKind.wrap_i64]; omega
        obtain ⟨g, rfl, hci⟩ := HC.out i hiS
        obtain ⟨hn, hk⟩ := HB.out.marks i hiS
        generalize ss[i] = z at hci hn hk
        obtain ⟨p, n, cap⟩ := z
        have hci2 : wr.cell? ⟨g, i, none⟩ = some (.slice p n cap) := hci
        have HK := Vx.hid hk
        have q0 : Int.tdiv (i : Int) 2 = ((i / 2 : Nat) : Int) := by rw [Int.tdiv_eq_ediv_of_nonneg (by omega)]; omega
        have q0' : (i : Int) / 2 = ((i / 2 : Nat) : Int) := by omega
        have q1 : IntKind.i64.wrap ((i / 2 : Nat) : Int) = ((i / 2 : Nat) : Int) := by rw [IntKind.wrap_i64]; omega
        have q2 : IntKind.i64.wrap (-77 - ((i / 2 : Nat) : Int)) = -77 - ((i / 2 : Nat) : Int) := by rw [IntKind.wrap_i64]; omega
        generalize i / 2 = q at q0 q0' q1 q2 HK
        have hnm : (n : Int) ≤ 3000000 := by have : n ≤ 3000000 := hn; omega
        clear hk hiS hlt hci hn
        go_wp2_with fail
        go_loopw [6] (fun d wx => ∃ k : Nat, d = .int .i64 (k : Int) ∧ k ≤ n ∧ wx = wr) (fun d _ => n - (intOf d).toNat)
        case atStart => exact ⟨0, rfl, by omega, rfl⟩
        case round =>
          obtain ⟨k, rfl, hk, rfl⟩ := hrel
          by_cases hk2 : k < n
          · have d2 : (k : Int) < (n : Int) := by omega
            have hidk : 0 ≤ (k : Int) ∧ (k : Int) < (n : Int) := by omega
            have v2 : IntKind.i64.wrap ((k : Int) + 1) = (k : Int) + 1 := by rw [IntKind.wrap_i64]; omega
            obtain ⟨g2, cur, hp, _, hbl, hcell⟩ := HK.out (by show 0 < n; omega)
            have hp2 : p = some ⟨g2, 0, none⟩ := hp
            subst hp2
            have hcell2 : wr.cell? ⟨g2, k * 2, none⟩ = some (.int .i64 (-77 - (q : Int))) := by rw [cell_of_row _ _ (k * 2) _ _ (0, 0) hbl]; exact hcell k hk2
            clear hcell hk2 hbl hp
            go_wp2_with fail
            go_roundw
            case rel => exact ⟨k + 1, by go_num, by omega, trivial⟩
            case measure => simp only [intOf]; omega
          · have d2 : ¬ (k : Int) < (n : Int) := by omega
            clear hk2
            go_wp2_with fail
            go_roundw
            case rel => exact ⟨i + 1, by go_num, by omega, trivial⟩
            case measure => simp only [intOf]; omega
      · have d1 : ¬ (i : Int) < (L : Int) := by omega
        clear hlt
        go_wp2_with fail
        go_loopw [7] (fun i wx => i = .int .i64 0 ∧ wx = wr) (fun _ _ => 0)
        case atStart => exact ⟨rfl, rfl⟩
        case round =>
          obtain ⟨rfl, rfl⟩ := hrel
          have HM := Vx.hid (readsMore_ok HH.out.1 HH.out.2.1 HH.out.2.2)
          go_wp2_with fail
          refine HM.out.mono ?_
          rintro e w' ⟨rfl, h⟩
          have h2 := h.symm; clear h; subst h2
          go_wp2_with fail
          all_goals
            go_ret
            exact ⟨rfl, rfl⟩
end Go.Proofs.YtbmchgjilkoplaaDoor

/- Chapter 7, the document's store: Set. -/
namespace Go.Proofs.YtbmchgjilkoplaaDoor
open Go.ChangeShapes Go.WideShapes Go.ChangeAt Go.RowKit
open Go.Vx
set_option linter.unusedVariables false

theorem RsAt.inplace {U : Nat → Prop} {w w3 : World} {rb : Nat} {vb : Value} {g c m : Nat} {bs : List (Int × Int)} {es es' : List En} (h : RsAt U w rb vb (.slice (some ⟨g, 0, none⟩) m c) bs es) (ho : OwnL enL w3 0 72 (.slice (some ⟨g, 0, none⟩) m c) es') (hon : Only (fun b => b = g) w w3) (hn : es'.length = es.length) :
    RsAt U w3 rb vb (.slice (some ⟨g, 0, none⟩) m c) bs es' ∧ Only (fun k => ¬ U k) w w3 := by
  have hg : (Value.slice (some ⟨g, 0, none⟩) m c).ownBlock = some g := rfl
  obtain ⟨cur, hc⟩ := own_tag h.e hg
  have n1 : rb ≠ g := (tag_ne hc h.r (by decide)).symm
  have n2 : ∀ k, vb.ownBlock = some k → k ≠ g := fun k hk => by
    obtain ⟨cur2, hc2⟩ := own_tag h.b hk
    exact tag_ne hc2 hc (by decide)
  exact ⟨⟨by rw [hon.block rb (lt_of_some h.r) n1]; exact h.r, h.b.kept hon n2, ho, h.ur, h.ub, h.ue, fun k hk => Nat.lt_of_lt_of_le (h.low k hk) hon.size, h.nb, by rw [hn]; exact h.ne⟩, hon.mono (fun k _ hk => by rw [hk]; exact h.ue g hg)⟩
def sameO (a b : Cp) : Bool := decide (a.kind = b.kind ∧ a.num = b.num)
def setE (bs : List (Int × Int)) (es : List En) (s : Sl) (c : Cp) : Int := match fullF bs es s with | .error e => e | .ok i => if sameO (es.getD i .df).cap c then 0 else 12
def setL (bs : List (Int × Int)) (es : List En) (s : Sl) (c : Cp) : List En := match fullF bs es s with | .error _ => es | .ok i => if sameO (es.getD i .df).cap c then es.set i ⟨(es.getD i .df).at', c, (es.getD i .df).from'⟩ else es
set_option maxRecDepth 100000 in
set_option maxHeartbeats 2000000 in
theorem set_ok {U : Nat → Prop} {w : World} {rb : Nat} {bs : List (Int × Int)} {es : List En} (hc : RcAt U w rb bs es) (s : Sl) (cp : Cp) : Calls Tryd.prog 33 #[.pointer (some ⟨rb, 0, none⟩), .agg #[.int .i64 s.1, .int .i64 s.2], .agg #[.int .i64 cp.kind, .int .i64 cp.num, .int .i64 cp.rights, .int .u32 cp.badge, .int .u32 cp.guard, .int .i64 cp.gbits, .int .i64 cp.root, .int .u32 cp.va]] w fun e w' => e = .returned (.int .i64 (setE bs es s cp)) ∧ RcAt U w' rb bs (setL bs es s cp) ∧ Only (fun k => ¬ U k) w w' := by
  obtain ⟨vb, ve, h⟩ := hc
  obtain ⟨s1, s2⟩ := s
  have HFU : Hid (∀ wv, Only (fun _ => False) w wv → Calls Tryd.prog 62 #[.pointer (some ⟨rb, 0, none⟩), .agg #[.int .i64 s1, .int .i64 s2]] wv fun e w' => e = .returned (.tuple #[.int .i64 (fullI (fullF bs es (s1, s2))), .int .i64 (fullE (fullF bs es (s1, s2)))]) ∧ Only (fun _ => False) wv w') := fun wv hv => full_ok (h.quiet hv) (s1, s2)
  have HO : Hid (∀ o p, Only (fun _ => False) w ((w.alloc o).alloc p)) := fun o p => ((Only.refl _ w).alloc _).alloc _
  have HH := Vx.hid h
  clear h
  obtain ⟨d0, d1, d2, d3, d4, d5, d6, d7⟩ := cp
  dsimp only
  rcases full_cases bs es (s1, s2) with ⟨i, hf, hi⟩ | hf | hf
  · obtain ⟨hil, _⟩ := entF_at hi
    have hgd : es.getD i .df = es[i] := by simp [hil]
    have HE0 : Hid (∀ c, setE bs es (s1, s2) c = if sameO es[i].cap c then 0 else 12) := fun c => by unfold setE; rw [hf]; dsimp only; rw [hgd]
    have HL0 : Hid (∀ c, setL bs es (s1, s2) c = if sameO es[i].cap c then es.set i ⟨es[i].at', c, es[i].from'⟩ else es) := fun c => by unfold setL; rw [hf]; dsimp only; rw [hgd]
    rw [hf] at HFU
    simp only [fullI, fullE] at HFU
    clear hf hi hgd
    go_enter Tryd.func33, Tryd.ntmps33
    go_wp2_with fail
    refine (HFU.out _ (HO.out _ _)).mono ?_
    rintro e w2 ⟨rfl, hq⟩
    have hO2 := (HO.out (.cells #[.int .i64 s1, .int .i64 s2] 62) (.cells #[.int .i64 d0, .int .i64 d1, .int .i64 d2, .int .u32 d3, .int .u32 d4, .int .i64 d5, .int .i64 d6, .int .u32 d7] 66)).trans hq
    have hz := new_second hq
    have H2 := Vx.hid (HH.out.quiet hO2)
    obtain ⟨g, c, hve, hE⟩ := H2.out.e12 i hil
    have c1 := H2.out.c1
    rw [hve] at c1 H2
    obtain ⟨⟨z0, z1, z2, z3, z4, z5, z6, z7⟩, zf⟩ := cap_cells hz
    obtain ⟨a0, a1, k0, k1, k2, k3, k4, k5, k6, k7, a2, a3⟩ := hE
    have HO2 := Vx.hid hO2
    obtain ⟨N, hN⟩ : ∃ N, N = es.length := ⟨_, rfl⟩
    have HN := Vx.hid hN
    rw [← hN] at c1
    have hidx : 0 ≤ (i : Int) ∧ (i : Int) < (N : Int) := by omega
    obtain ⟨rc, hrc⟩ : ∃ rc, rc = w.heap.size + 1 := ⟨_, rfl⟩
    rw [← hrc] at z0 z1 z2 z3 z4 z5 z6 z7 zf hz ⊢
    have HZ := Vx.hid hz
    have HIL := Vx.hid hil
    clear a0 a1 a2 a3 k2 k3 k4 k5 k6 k7 z2 z3 z4 z5 z6 z7 zf hq hve hz hO2 HFU HH HO hN hrc
    generalize hcp : es[i].cap = cq at k0 k1 HE0 HL0
    obtain ⟨f0, f1, f2, f3, f4, f5, f6, f7⟩ := cq
    dsimp only at k0 k1
    by_cases h0 : f0 = d0
    · subst h0
      by_cases h1 : f1 = d1
      · subst h1
        have HS : Hid (sameO ⟨f0, f1, f2, f3, f4, f5, f6, f7⟩ ⟨f0, f1, d2, d3, d4, d5, d6, d7⟩ = true) := decide_eq_true ⟨rfl, rfl⟩
        go_wp2_with fail
        go_quiet (fail)
        go_wp2_with fail
        obtain ⟨w3, hw3⟩ : ∃ w3, w3 = w2.drewN nq := ⟨_, rfl⟩
        rw [← hw3]
        have hon : Only (fun _ => False) w2 w3 := by rw [hw3]; exact (Only.refl _ w2).drewN _
        have H3 := Vx.hid (H2.out.quiet hon)
        have c1' := H3.out.c1
        obtain ⟨⟨y0, y1, y2, y3, y4, y5, y6, y7⟩, yf⟩ := cap_cells ((hon.block rc (lt_of_some HZ.out) (fun h => h)).trans HZ.out)
        obtain ⟨_, _, m0, m1, m2, m3, m4, m5, m6, m7, _, _⟩ := own_e12 H3.out.e i HIL.out
        have mf := own_fz H3.out.e
        have HOC := Vx.hid (own_cap H3.out.e rfl i HIL.out ⟨f0, f1, d2, d3, d4, d5, d6, d7⟩)
        rw [← HN.out] at c1'
        have HO3 := Vx.hid (HO2.out.trans hon)
        clear hw3 hon c1 k0 k1 z0 z1
        go_region
        all_goals
          go_wp2_with fail
          go_ret
          obtain ⟨r1, r2⟩ := H3.out.inplace HOC.out.1 HOC.out.2 (by rw [List.length_set])
          exact ⟨by rw [HE0.out, HS.out]; rfl, by rw [HL0.out, HS.out]; exact ⟨_, _, r1.quiet ((Only.refl _ _).drew)⟩, ((HO3.out.mono (fun _ _ h => h.elim)).trans r2).drew⟩
      · have HS : Hid (sameO ⟨f0, f1, f2, f3, f4, f5, f6, f7⟩ ⟨f0, d1, d2, d3, d4, d5, d6, d7⟩ = false) := decide_eq_false (fun h => h1 h.2)
        have he : (f1 == d1) = false := beq_eq_false_iff_ne.2 h1
        go_wp2_with fail
        go_quiet (fail)
        go_wp2_with fail
        all_goals
          go_ret
          exact ⟨by rw [HE0.out, HS.out]; rfl, by rw [HL0.out, HS.out]; exact ⟨_, _, H2.out.quiet ((Only.refl _ _).drewN _)⟩, (HO2.out.mono (fun _ _ h => h.elim)).drewN _⟩
    · have HS : Hid (sameO ⟨f0, f1, f2, f3, f4, f5, f6, f7⟩ ⟨d0, d1, d2, d3, d4, d5, d6, d7⟩ = false) := decide_eq_false (fun h => h0 h.1)
      have he : (f0 == d0) = false := beq_eq_false_iff_ne.2 h0
      go_wp2_with fail
      go_quiet (fail)
      go_wp2_with fail
      all_goals
        go_ret
        exact ⟨by rw [HE0.out, HS.out]; rfl, by rw [HL0.out, HS.out]; exact ⟨_, _, H2.out.quiet ((Only.refl _ _).drewN _)⟩, (HO2.out.mono (fun _ _ h => h.elim)).drewN _⟩
  · have HE : Hid (∀ c, setE bs es (s1, s2) c = 9) := fun c => by unfold setE; rw [hf]
    have HL : Hid (∀ c, setL bs es (s1, s2) c = es) := fun c => by unfold setL; rw [hf]
    rw [hf] at HFU
    simp only [fullI, fullE] at HFU
    clear hf
    go_enter Tryd.func33, Tryd.ntmps33
    go_wp2_with fail
    refine (HFU.out _ (HO.out _ _)).mono ?_
    rintro e w2 ⟨rfl, hq⟩
    have HQ := Vx.hid ((HO.out _ _).trans hq)
    clear hq HFU HO
    go_wp2_with fail
    all_goals
      go_ret
      exact ⟨by rw [HE.out]; rfl, by rw [HL.out]; exact ⟨_, _, HH.out.quiet HQ.out⟩, HQ.out.mono (fun _ _ h => h.elim)⟩
  · have HE : Hid (∀ c, setE bs es (s1, s2) c = 11) := fun c => by unfold setE; rw [hf]
    have HL : Hid (∀ c, setL bs es (s1, s2) c = es) := fun c => by unfold setL; rw [hf]
    rw [hf] at HFU
    simp only [fullI, fullE] at HFU
    clear hf
    go_enter Tryd.func33, Tryd.ntmps33
    go_wp2_with fail
    refine (HFU.out _ (HO.out _ _)).mono ?_
    rintro e w2 ⟨rfl, hq⟩
    have HQ := Vx.hid ((HO.out _ _).trans hq)
    clear hq HFU HO
    go_wp2_with fail
    all_goals
      go_ret
      exact ⟨by rw [HE.out]; rfl, by rw [HL.out]; exact ⟨_, _, HH.out.quiet HQ.out⟩, HQ.out.mono (fun _ _ h => h.elim)⟩
end Go.Proofs.YtbmchgjilkoplaaDoor

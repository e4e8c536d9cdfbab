import Derived.Test.YtgncabcnefhkiaaCs31
/- Chapter 9, the document's scheduler: Queue. -/
namespace Go.Proofs.Ytgncabcnefhkiaa
open Go.ChangeShapes Go.WideShapes Go.ChangeAt Go.RowKit
open Go.Vx
set_option linter.unusedVariables false
variable {U V S : Nat → Prop} {w w2 w3 wr : World} {sb : Nat} {vt vl v : Value} {ts : List (Int × Int)} {t : Nat} {lf : Int} {es xs : List Et} {ck : Nat}

theorem inKs : Kind Try.prog inL 84 3 := kind_of (z := .int .i64 0) (b := 8) Try.underlying84 (by kernel_rfl) rfl (by decide)
def quE (d p : Int) : Int := if d < 0 ∨ 7 < d ∨ p < 0 ∨ 7 < p then 1 else 0
def QuQ (w : World) (es : List Et) (d p : Int) (e : Ending) (w' : World) : Prop := ((quE d p = 1 ∧ e = .returned (.tuple #[.slice none 0 0, .int .i64 1])) ∨ (quE d p = 0 ∧ ∃ v xs, e = .returned (.tuple #[v, .int .i64 0]) ∧ OwnL inL w' w.heap.size 3 v (xs.map (·.num)) ∧ IsQ es d p xs)) ∧ Only (fun _ => False) w w'
theorem MkE.len {m c : Nat} {q : Option Addr} (h : MkE w (.slice q m c) xs wr) : m = xs.length := by
  obtain ⟨p', c', hv, _⟩ := h.own.form
  injection hv
theorem MkE.five {m c : Nat} {q : Option Addr} (h : MkE w (.slice q m c) xs wr) (k : Nat) (hk : k < xs.length) : ∃ g, q = some ⟨g, 0, none⟩ ∧ E5 wr g k xs[k] ∧ ∀ j, wr.frozen? ⟨g, j, none⟩ = false := by
  obtain ⟨p', c', hv, h2⟩ := own_e5 h.own
  injection hv with h3 h4 h5
  subst h3
  obtain ⟨g, rfl, h6⟩ := h2 k hk
  exact ⟨g, rfl, h6, fun j => h.own.fz j⟩
set_option maxRecDepth 100000 in
set_option maxHeartbeats 4000000 in
theorem squeue_run (h : SdAt U w sb vt vl ts t lf es ck) (d p : Int) (h1 : ¬ d < 0) (h2 : ¬ 7 < d) (h3 : ¬ p < 0) (h4 : ¬ 7 < p) : Calls Try.prog 40 #[.pointer (some ⟨sb, 0, none⟩), .int .i64 d, .int .i64 p] w (QuQ w es d p) := by
  have HH := Vx.hid h
  have HE : Hid (quE d p = 0) := by show _ = _; unfold quE; rw [if_neg]; omega
  obtain ⟨q, c, hvl, _⟩ := h.l.form
  obtain ⟨N, hN⟩ : ∃ N, N = es.length := ⟨_, rfl⟩
  rw [← hN] at hvl
  subst hvl
  have HN := Vx.hid hN
  have hn := h.nl
  rw [← hN] at hn
  clear h hN
  go_enter Try.func40, Try.ntmps40
  go_wp2_with fail
  clear h1 h2 h3 h4
  go_loopw [8, 9, 10, 11, 12] (fun v i _ _ _ wr => ∃ k : Nat, i = .int .i64 (k : Int) ∧ k ≤ N ∧ Hid (QuS w v es d p k wr)) (fun _ i _ _ _ _ => N - (RowKit.intOf i).toNat)
  case atStart => exact ⟨0, rfl, by omega, quS_nil d p⟩
  case round =>
    obtain ⟨k, rfl, hk, HS⟩ := hrel
    obtain ⟨xs, m1, m2, m3⟩ := HS.out
    obtain ⟨ql, cl, hvf, _⟩ := m1.own.form
    obtain ⟨m, hm⟩ : ∃ m, m = xs.length := ⟨_, rfl⟩
    rw [← hm] at hvf
    subst hvf
    have HM : Hid (MkE w (.slice ql m cl) xs wr ∧ xs.Perm ((es.take k).filter (inQ d p)) ∧ SrQ xs xs.length ∧ m = xs.length) := ⟨m1, m2, m3, hm⟩
    have hsd := HH.out.quiet m1.on
    have c3 := hsd.c3
    have hml : m ≤ k := by
      rw [hm, m2.length_eq]
      exact Nat.le_trans (List.length_filter_le _ _) (by rw [List.length_take]; omega)
    by_cases hlt : k < N
    · have h1 : (k : Int) < (N : Int) := by omega
      have hidx : 0 ≤ (k : Int) ∧ (k : Int) < (N : Int) := by omega
      have hwk : IntKind.i64.wrap ((k : Int) + 1) = (k : Int) + 1 := by rw [IntKind.wrap_i64]; omega
      have hkl : k < es.length := by have := HN.out; omega
      obtain ⟨g, rfl⟩ : ∃ g, q = some ⟨g, 0, none⟩ := by
        obtain ⟨g, c2, he⟩ := hsd.formL (by omega)
        injection he with he
        exact ⟨g, he⟩
      obtain ⟨b0, b1, b2, b3, b4⟩ := hsd.e5 k hkl
      have HK1 : Hid (k + 1 ≤ N) := hlt
      obtain ⟨x, hx⟩ : ∃ x, x = es[k] := ⟨_, rfl⟩
      rw [← hx] at b0 b1 b2 b3 b4
      have HX : Hid (∃ hk : k < es.length, x = es[k]) := ⟨hkl, hx⟩
      obtain ⟨x0, x1, x2, x3, x4⟩ := x
      dsimp only at b0 b1 b2 b3 b4
      obtain ⟨w5, hw5⟩ : ∃ w5, w5 = wr.alloc (.cells #[.int .i64 x0, .int .i64 x1, .int .i64 x2, .int .i64 x3, .int .i64 x4] 104) := ⟨_, rfl⟩
      have ho5 : Only (fun _ => False) wr w5 := by rw [hw5]; exact (Only.refl _ wr).alloc _
      have HM5 : Hid (MkE w (.slice ql m cl) xs w5) := m1.quiet ho5
      have hz : w5.heap[wr.heap.size]? = some (.cells #[.int .i64 x0, .int .i64 x1, .int .i64 x2, .int .i64 x3, .int .i64 x4] 104 (0, 0)) := by rw [hw5]; exact heap_alloc_last _ _
      obtain ⟨E, hE⟩ : ∃ E, E = wr.heap.size := ⟨_, rfl⟩
      rw [← hE] at hz
      have z0 : w5.cell? ⟨E, 0, none⟩ = some (.int .i64 x0) := (cell_of_row _ _ 0 _ _ (0, 0) hz).trans rfl
      have z1 : w5.cell? ⟨E, 1, none⟩ = some (.int .i64 x1) := (cell_of_row _ _ 1 _ _ (0, 0) hz).trans rfl
      have z2 : w5.cell? ⟨E, 2, none⟩ = some (.int .i64 x2) := (cell_of_row _ _ 2 _ _ (0, 0) hz).trans rfl
      have z3 : w5.cell? ⟨E, 3, none⟩ = some (.int .i64 x3) := (cell_of_row _ _ 3 _ _ (0, 0) hz).trans rfl
      have z4 : w5.cell? ⟨E, 4, none⟩ = some (.int .i64 x4) := (cell_of_row _ _ 4 _ _ (0, 0) hz).trans rfl
      have HIN : Hid (∀ hk : k < es.length, inQ d p es[k] = decide (x1 = d ∧ x2 = p ∧ x4 ≠ 0)) := fun hk => by rw [← hx]; rfl
      clear hlt hz ho5 HS m1 m2 m3 hsd hx hm
      go_upto_region 8 with fail
      rw [← hw5, ← hE]
      clear hw5 hE b0 b1 b2 b3 b4 c3
      have HSK : Hid (¬ (x1 = d ∧ x2 = p ∧ x4 ≠ 0) → QuS w (.slice ql m cl) es d p (k + 1) w5) := fun hno => by
        obtain ⟨_, a2, a3, _⟩ := HM.out
        refine QuS.skip ⟨xs, HM5.out, a2, a3⟩ (by have := HK1.out; have := HN.out; omega) ?_
        rw [HIN.out]
        exact decide_eq_false hno
      by_cases g1 : x1 = d
      · subst g1
        by_cases g2 : x2 = p
        · subst g2
          by_cases g3 : x4 = 0
          · subst g3
            have HQ := Vx.hid (HSK.out (fun hh => hh.2.2 rfl))
            go_wp2_with fail
            go_roundw
            case rel => exact ⟨k + 1, by go_num, HK1.out, HQ⟩
            case measure => have := HK1.out; simp only [RowKit.intOf]; omega
          · have g3' : (x4 == 0) = false := beq_eq_false_iff_ne.2 g3
            have HL1 : Hid (xs.length + 1 ≤ 10000000) := by have := HM.out.2.2.2; show _ + _ ≤ _; omega
            have HBL : Hid (w.heap.size ≤ w5.heap.size) := HM5.out.on.size
            have HPU : Hid (∀ v' wx, OwnL etL wx w.heap.size 104 v' (xs ++ [⟨x0, x1, x2, x3, x4⟩]) → Only (fun k => (Value.slice ql m cl).ownBlock = some k) w5 wx → QuK w v' es x1 x2 (k + 1) m wx) := fun v' wx a b => by
              obtain ⟨hk, hx⟩ := HX.out
              rw [hx] at a
              have h9 := quK_push HM5.out HM.out.2.1 HM.out.2.2.1 hk (by rw [HIN.out]; exact decide_eq_true ⟨rfl, rfl, g3⟩) a b
              rw [HM.out.2.2.2]
              exact h9
            obtain ⟨M, hM⟩ : ∃ M, M = m + 1 := ⟨_, rfl⟩
            have HVL : Hid ((xs ++ [(⟨x0, x1, x2, x3, x4⟩ : Et)]).length = M) := by show _ = _; rw [List.length_append, List.length_singleton, hM, HM.out.2.2.2]
            have hwm : IntKind.i64.wrap ((M : Int) - 1) = (m : Int) := by rw [IntKind.wrap_i64]; omega
            have HMM := Vx.hid hM
            clear hM
            go_wp2_with (at_builtin; refine wpList_append_one etK _ rfl _ _ rfl w.heap.size (.slice ql m cl) _ rfl HM5.out.own ⟨x0, x1, x2, x3, x4⟩ _ _ rfl rfl rfl HL1.out HBL.out ?_; intro v' w8 hv1 hv2 hv3; obtain ⟨pz, cz, hvz, _⟩ := hv1.form; rw [HVL.out] at hvz; subst hvz; have HQK := Vx.hid (HPU.out _ _ hv1 hv2); clear hv1 hv2 hv3)
            clear z0 z1 z2 z3 z4 hwm
            go_loopw [11, 12] (fun i _ wr => ∃ j : Nat, i = .int .i64 (j : Int) ∧ j ≤ m ∧ Hid (QuK w (.slice pz M cz) es x1 x2 (k + 1) j wr)) (fun i _ _ => (RowKit.intOf i).toNat)
            case atStart => exact ⟨m, rfl, Nat.le_refl _, HQK⟩
            case round =>
              clear HQK
              obtain ⟨j, rfl, hj, HQK⟩ := hrel
              by_cases hj0 : j = 0
              · subst hj0
                have HQ : Hid (QuS w (.slice pz M cz) es x1 x2 (k + 1) wr) := by
                  obtain ⟨ys, a1, a2, a3, a4⟩ := HQK.out
                  exact ⟨ys, a1, a2, a3.stop (Or.inl rfl)⟩
                go_wp2_with fail
                go_quiet (fail)
                go_wp2_with fail
                go_roundw
                case rel => exact ⟨k + 1, by go_num, HK1.out, HQ.out.quiet ((Only.refl _ _).drewN _)⟩
                case measure => have := HK1.out; simp only [RowKit.intOf]; omega
              · obtain ⟨u, rfl⟩ : ∃ u, j = u + 1 := ⟨j - 1, by omega⟩
                obtain ⟨ys, a1, a2, a3, a4⟩ := HQK.out
                have hyl : M = ys.length := a1.len
                obtain ⟨g2, rfl, e5b, hff⟩ := a1.five (u + 1) a4
                obtain ⟨g2', hg', e5a, _⟩ := a1.five u (by omega)
                obtain rfl : g2 = g2' := by simpa using hg'
                have e1 : ys.getD (u + 1) .df = ys[u + 1] := getD_et a4
                have e2 : ys.getD u .df = ys[u] := getD_et _
                generalize ys[u + 1] = yb at e5b e1
                generalize ys[u] = ya at e5a e2
                have b4 := e5b.c4
                have d4 := e5a.c4
                have HYS : Hid (MkE w (.slice (some ⟨g2, 0, none⟩) M cz) ys wr ∧ ys.Perm ((es.take (k + 1)).filter (inQ x1 x2)) ∧ SrQ ys (u + 1) ∧ u + 1 < ys.length ∧ ys.getD (u + 1) .df = yb ∧ ys.getD u .df = ya) := ⟨a1, a2, a3, a4, e1, e2⟩
                have hjp : (0 : Int) < (u : Int) + 1 := by omega
                have hjp' : (0 : Int) < ((u + 1 : Nat) : Int) := by omega
                have hdj : 0 ≤ (u : Int) + 1 ∧ (u : Int) + 1 < (M : Int) := by omega
                have hdj' : 0 ≤ ((u + 1 : Nat) : Int) ∧ ((u + 1 : Nat) : Int) < (M : Int) := by omega
                have hdi : 0 ≤ (u : Int) ∧ (u : Int) < (M : Int) := by omega
                have hwj : IntKind.i64.wrap ((u : Int) + 1 - 1) = (u : Int) := by rw [IntKind.wrap_i64]; omega
                have hwj' : IntKind.i64.wrap (u : Int) = (u : Int) := by rw [IntKind.wrap_i64]; omega
                have hwj2 : IntKind.i64.wrap (((u + 1 : Nat) : Int) - 1) = (u : Int) := by rw [IntKind.wrap_i64]; omega
                have HUM : Hid (u ≤ m) := by show u ≤ m; omega
                clear a1 a2 a3 a4 e1 e2 hyl hg' hj0 hj HQK e5a e5b hff
                obtain ⟨y0, y1, y2, y3, y4⟩ := yb
                obtain ⟨v0, v1, v2, v3, v4⟩ := ya
                dsimp only at b4 d4
                by_cases g5 : y4 < v4
                · have g5' : decide (y4 < v4) = true := decide_eq_true g5
                  go_wp2_with fail
                  go_quiet (fail)
                  obtain ⟨w3, hw3⟩ : ∃ w3, w3 = wr.drewN nq := ⟨_, rfl⟩
                  have hon3 : Only (fun _ => False) wr w3 := by rw [hw3]; exact (Only.refl _ wr).drewN _
                  rw [← hw3]
                  clear hw3 b4 d4
                  obtain ⟨a1, a2, a3, a4, e1, e2⟩ := HYS.out
                  have ma3 := a1.quiet hon3
                  have hyl : M = ys.length := a1.len
                  obtain ⟨ga, hga, e5b, _⟩ := ma3.five (u + 1) a4
                  obtain rfl : g2 = ga := by simpa using hga
                  rw [← getD_et a4, e1] at e5b
                  obtain ⟨b0, b1, b2, b3, b4⟩ := e5b
                  dsimp only at b0 b1 b2 b3 b4
                  obtain ⟨wa, hwa⟩ : ∃ wa, wa = w3.alloc (.cells #[.int .i64 y0, .int .i64 y1, .int .i64 y2, .int .i64 y3, .int .i64 y4] 104) := ⟨_, rfl⟩
                  have hona : Only (fun _ => False) w3 wa := by rw [hwa]; exact (Only.refl _ w3).alloc _
                  have hza : wa.heap[w3.heap.size]? = some (.cells #[.int .i64 y0, .int .i64 y1, .int .i64 y2, .int .i64 y3, .int .i64 y4] 104 (0, 0)) := by rw [hwa]; exact heap_alloc_last _ _
                  have hgl : g2 < w3.heap.size := (own_lt ma3.own (k := g2) rfl).2
                  obtain ⟨F, hF⟩ : ∃ F, F = w3.heap.size := ⟨_, rfl⟩
                  rw [← hF] at hza hgl
                  have ma := ma3.quiet hona
                  obtain ⟨gb, hgb, e5c, hff⟩ := ma.five (u + 1) a4
                  obtain rfl : g2 = gb := by simpa using hgb
                  obtain ⟨gc, hgc, e5d, _⟩ := ma.five u (by omega)
                  obtain rfl : g2 = gc := by simpa using hgc
                  rw [← getD_et a4, e1] at e5c
                  rw [← getD_et (show u < ys.length by omega), e2] at e5d
                  obtain ⟨c0, c1, c2, c3, c4⟩ := e5c
                  obtain ⟨d0, d1, d2, d3, d4⟩ := e5d
                  dsimp only at c0 c1 c2 c3 c4 d0 d1 d2 d3 d4
                  have f0 := hff ((u + 1) * 5)
                  have f1 := hff ((u + 1) * 5 + 1)
                  have f2 := hff ((u + 1) * 5 + 2)
                  have f3 := hff ((u + 1) * 5 + 3)
                  have f4 := hff ((u + 1) * 5 + 4)
                  obtain ⟨o5, o6⟩ := own_five ma.own hyl (u + 1) a4 (ys.getD u .df)
                  have HFN : Hid (QuK w (.slice (some ⟨g2, 0, none⟩) M cz) es x1 x2 (k + 1) u (put5 (put5 wa g2 (u + 1) ⟨v0, v1, v2, v3, v4⟩) g2 u ⟨y0, y1, y2, y3, y4⟩)) := by
                    have h9 := ma.swap a4
                    rw [e1, e2] at h9
                    exact ⟨_, h9, (swE_perm a4).trans a2, a3.swap a4 (by rw [e1, e2]; exact g5), by rw [swE_length]; omega⟩
                  rw [e2] at o5 o6
                  obtain ⟨wb, hwb⟩ : ∃ wb, wb = put5 wa g2 (u + 1) ⟨v0, v1, v2, v3, v4⟩ := ⟨_, rfl⟩
                  rw [← hwb] at o5 o6 HFN
                  have hub : u < (ys.set (u + 1) ⟨v0, v1, v2, v3, v4⟩).length := by rw [List.length_set]; omega
                  obtain ⟨r0, i0⟩ : ∃ r, wb.cell? ⟨g2, u * 5, none⟩ = some r := ⟨_, o5.cell u 0 hub (by decide)⟩
                  obtain ⟨r1, i1⟩ : ∃ r, wb.cell? ⟨g2, u * 5 + 1, none⟩ = some r := ⟨_, o5.cell u 1 hub (by decide)⟩
                  obtain ⟨r2, i2⟩ : ∃ r, wb.cell? ⟨g2, u * 5 + 2, none⟩ = some r := ⟨_, o5.cell u 2 hub (by decide)⟩
                  obtain ⟨r3, i3⟩ : ∃ r, wb.cell? ⟨g2, u * 5 + 3, none⟩ = some r := ⟨_, o5.cell u 3 hub (by decide)⟩
                  obtain ⟨r4, i4⟩ : ∃ r, wb.cell? ⟨g2, u * 5 + 4, none⟩ = some r := ⟨_, o5.cell u 4 hub (by decide)⟩
                  have j0 := o5.fz (u * 5)
                  have j1 := o5.fz (u * 5 + 1)
                  have j2 := o5.fz (u * 5 + 2)
                  have j3 := o5.fz (u * 5 + 3)
                  have j4 := o5.fz (u * 5 + 4)
                  have hzb := Only.keep o6 hza (by omega)
                  have k0 : wb.cell? ⟨F, 0, none⟩ = some (.int .i64 y0) := (cell_of_row _ _ 0 _ _ (0, 0) hzb).trans rfl
                  have k1 : wb.cell? ⟨F, 1, none⟩ = some (.int .i64 y1) := (cell_of_row _ _ 1 _ _ (0, 0) hzb).trans rfl
                  have k2 : wb.cell? ⟨F, 2, none⟩ = some (.int .i64 y2) := (cell_of_row _ _ 2 _ _ (0, 0) hzb).trans rfl
                  have k3 : wb.cell? ⟨F, 3, none⟩ = some (.int .i64 y3) := (cell_of_row _ _ 3 _ _ (0, 0) hzb).trans rfl
                  have k4 : wb.cell? ⟨F, 4, none⟩ = some (.int .i64 y4) := (cell_of_row _ _ 4 _ _ (0, 0) hzb).trans rfl
                  unfold put5 at hwb
                  dsimp only at hwb
                  clear a1 a2 a3 a4 e1 e2 ma3 hyl hga hona hza hgl ma hgb hgc hff o5 o6 hub hzb HYS hon3
                  go_upto_region 14 with fail
                  rw [← hwa, ← hF]
                  clear hwa hF b0 b1 b2 b3 b4
                  go_upto_region 15 with fail
                  rw [← hwb]
                  clear hwb c0 c1 c2 c3 c4 d0 d1 d2 d3 d4 f0 f1 f2 f3 f4
                  go_wp2_with fail
                  go_roundw
                  case rel => exact ⟨u, by go_num, HUM.out, HFN⟩
                  case measure => simp only [RowKit.intOf]; omega
                · have g5' : decide (y4 < v4) = false := decide_eq_false g5
                  have HQ : Hid (QuS w (.slice (some ⟨g2, 0, none⟩) M cz) es x1 x2 (k + 1) wr) := by
                    obtain ⟨a1, a2, a3, a4, e1, e2⟩ := HYS.out
                    exact ⟨ys, a1, a2, a3.stop (Or.inr ⟨u, rfl, by rw [e1, e2]; exact g5⟩)⟩
                  go_wp2_with fail
                  go_quiet (fail)
                  go_wp2_with fail
                  go_roundw
                  case rel => exact ⟨k + 1, by go_num, HK1.out, HQ.out.quiet ((Only.refl _ _).drewN _)⟩
                  case measure => have := HK1.out; simp only [RowKit.intOf]; omega
        · have g2' : (x2 == p) = false := beq_eq_false_iff_ne.2 g2
          have g2'' : (x2 != p) = true := by simpa using g2
          have HQ := Vx.hid (HSK.out (fun hh => g2 hh.2.1))
          go_wp2_with fail
          go_roundw
          case rel => exact ⟨k + 1, by go_num, HK1.out, HQ⟩
          case measure => have := HK1.out; simp only [RowKit.intOf]; omega
      · have g1' : (x1 == d) = false := beq_eq_false_iff_ne.2 g1
        have g1'' : (x1 != d) = true := by simpa using g1
        have HQ := Vx.hid (HSK.out (fun hh => g1 hh.1))
        go_wp2_with fail
        go_roundw
        case rel => exact ⟨k + 1, by go_num, HK1.out, HQ⟩
        case measure => have := HK1.out; simp only [RowKit.intOf]; omega
    · obtain rfl : k = N := by omega
      have h1 : ¬ (k : Int) < (k : Int) := by omega
      have HIQ : Hid (IsQ es d p xs) := by
        refine ⟨?_, m3.whole⟩
        have h9 := m2
        rw [HN.out, List.take_length] at h9
        exact h9
      have hml2 : m ≤ 1000000 := by omega
      clear hlt hsd HS m1 m2 m3 hm hml
      go_wp2_with fail
      clear h1 c3
      go_loopw [13, 14] (fun vo i wr => ∃ j : Nat, i = .int .i64 (j : Int) ∧ j ≤ m ∧ Hid (QuN w (.slice ql m cl) vo xs j wr)) (fun _ i _ => m - (RowKit.intOf i).toNat)
      case atStart => exact ⟨0, rfl, by omega, ⟨HM.out.1, by rw [List.take_zero]; exact OwnL.nil _ _ _ _⟩⟩
      case round =>
        obtain ⟨j, rfl, hj, HJ⟩ := hrel
        obtain ⟨qo, co, hvo, _⟩ := HJ.out.o.form
        obtain ⟨mo, hmo⟩ : ∃ mo, mo = ((xs.take j).map (·.num)).length := ⟨_, rfl⟩
        rw [← hmo] at hvo
        subst hvo
        by_cases hlt : j < m
        · have h1 : (j : Int) < (m : Int) := by omega
          have hidx : 0 ≤ (j : Int) ∧ (j : Int) < (m : Int) := by omega
          have hwj : IntKind.i64.wrap ((j : Int) + 1) = (j : Int) + 1 := by rw [IntKind.wrap_i64]; omega
          have hjl : j < xs.length := by have := HM.out.2.2.2; omega
          obtain ⟨g2, rfl, e5, _⟩ := HJ.out.l.five j hjl
          have b0 := e5.c0
          have HLE : Hid (((xs.take j).map (·.num)).length + 1 ≤ 10000000) := by show _ + _ ≤ _; rw [List.length_map, List.length_take]; omega
          have HBL : Hid (w.heap.size ≤ wr.heap.size) := HJ.out.l.on.size
          have HPU : Hid (∀ v' wx, OwnL inL wx w.heap.size 3 v' ((xs.take j).map (·.num) ++ [xs[j].num]) → Only (fun k => (Value.slice qo mo co).ownBlock = some k) wr wx → QuN w (.slice (some ⟨g2, 0, none⟩) m cl) v' xs (j + 1) wx) := fun v' wx a b => HJ.out.push hjl a b
          have HJM : Hid (j + 1 ≤ m) := hlt
          generalize xs[j].num = y at b0 HPU
          clear hlt e5 hjl hmo
          go_wp2_with (at_builtin; refine wpList_append_one inKs _ rfl _ _ rfl w.heap.size (.slice qo mo co) _ rfl HJ.out.o (y) _ _ rfl (by simp) rfl HLE.out HBL.out ?_; intro v9 w9 hv1 hv2 hv3; have HNX := Vx.hid (HPU.out _ _ hv1 hv2); clear hv1 hv2 hv3)
          go_roundw
          case rel => exact ⟨j + 1, by go_num, HJM.out, HNX⟩
          case measure => have := HJM.out; simp only [RowKit.intOf]; omega
        · obtain rfl : j = m := by omega
          have h1 : ¬ (j : Int) < (j : Int) := by omega
          have HFI : Hid (OwnL inL wr w.heap.size 3 (.slice qo mo co) (xs.map (·.num)) ∧ Only (fun _ => False) w wr) := by
            refine ⟨?_, HJ.out.l.on⟩
            have h9 := HJ.out.o
            rw [List.take_of_length_le (by have := HM.out.2.2.2; omega)] at h9
            exact h9
          clear hlt hmo
          go_wp2_with fail
          all_goals
            go_ret2
            exact ⟨Or.inr ⟨HE.out, _, _, rfl, HFI.out.1, HIQ.out⟩, HFI.out.2⟩
end Go.Proofs.Ytgncabcnefhkiaa

import Derived.Test.YtbmchgjilkoplaaDoorCk16
/- Chapter 7, the document's store: below. -/
namespace Go.Proofs.YtbmchgjilkoplaaDoor
open Go.ChangeShapes Go.WideShapes Go.ChangeAt Go.RowKit
open Go.Vx
set_option linter.unusedVariables false

/-- What is below a slot, d steps deep. -/
def belN (es : List En) : Nat → Sl → List Sl
  | 0, _ => []
  | d + 1, s => es.flatMap fun e => if e.from' = s then e.at' :: belN es d e.at' else []
/-- The same, of the first k entries alone at the top. -/
def belK (es : List En) (d : Nat) (s : Sl) (k : Nat) : List Sl := (es.take k).flatMap fun e => if e.from' = s then e.at' :: belN es d e.at' else []
theorem belK_all (es : List En) (d : Nat) (s : Sl) : belK es d s es.length = belN es (d + 1) s := by unfold belK; rw [List.take_length]; rfl
theorem belK_zero (es : List En) (d : Nat) (s : Sl) : belK es d s 0 = [] := by simp [belK]
theorem belK_step (es : List En) (d : Nat) (s : Sl) (k : Nat) (hk : k < es.length) : belK es d s (k + 1) = belK es d s k ++ (if es[k].from' = s then es[k].at' :: belN es d es[k].at' else []) := by
  unfold belK
  rw [List.take_succ_eq_append_getElem hk, List.flatMap_append]
  simp
theorem belK_len (es : List En) (d : Nat) (s : Sl) (k : Nat) : (belK es d s k).length ≤ (belN es (d + 1) s).length := by
  rw [← belK_all]
  unfold belK
  rw [List.take_length]
  have e : es.flatMap (fun e => if e.from' = s then e.at' :: belN es d e.at' else []) = (es.take k).flatMap (fun e => if e.from' = s then e.at' :: belN es d e.at' else []) ++ (es.drop k).flatMap (fun e => if e.from' = s then e.at' :: belN es d e.at' else []) := by rw [← List.flatMap_append, List.take_append_drop]
  rw [e, List.length_append]
  omega
set_option maxRecDepth 100000 in
set_option maxHeartbeats 4000000 in
theorem below_ok {U : Nat → Prop} {rb : Nat} {vb ve : Value} {bs : List (Int × Int)} {es : List En} (r : Sl → Nat) (D : Nat) (hr : ∀ e ∈ es, r e.from' < r e.at') (hD : ∀ e ∈ es, r e.at' ≤ D) (hL : ∀ d s, (belN es d s).length ≤ 1000000) :
    ∀ (d : Nat) (s : Sl) (w : World), RsAt U w rb vb ve bs es → D - r s < d → Calls Tryd.prog 66 #[.pointer (some ⟨rb, 0, none⟩), .agg #[.int .i64 s.1, .int .i64 s.2]] w fun e w' => ∃ v, e = .returned v ∧ OwnL slL w' w.heap.size 62 v (belN es d s) ∧ Only (fun _ => False) w w' := by
  intro d
  induction d with
  | zero => intro s w h hd; omega
  | succ d ih =>
  intro s w h hd
  have HIH : Hid (∀ (k : Nat) (hk : k < es.length), es[k].from' = s → ∀ wv, RsAt U wv rb vb ve bs es → Calls Tryd.prog 66 #[.pointer (some ⟨rb, 0, none⟩), .agg #[.int .i64 es[k].at'.1, .int .i64 es[k].at'.2]] wv fun e w' => ∃ v, e = .returned v ∧ OwnL slL w' wv.heap.size 62 v (belN es d es[k].at') ∧ Only (fun _ => False) wv w') := fun k hk hf wv hv => by
    have h1 := hr _ (List.getElem_mem hk)
    have h2 := hD _ (List.getElem_mem hk)
    rw [hf] at h1
    exact ih _ wv hv (by omega)
  obtain ⟨s1, s2⟩ := s
  obtain ⟨w1, hw1⟩ : ∃ w1, w1 = w.alloc (.cells #[.int .i64 s1, .int .i64 s2] 62) := ⟨_, rfl⟩
  have hon : Only (fun _ => False) w w1 := by rw [hw1]; exact (Only.refl _ w).alloc _
  obtain ⟨ob, hob⟩ : ∃ ob, ob = w.heap.size := ⟨_, rfl⟩
  obtain ⟨B, hB⟩ : ∃ B, B = w.heap.size + 1 := ⟨_, rfl⟩
  have hs1 : w1.heap.size = w.heap.size + 1 := by rw [hw1]; simp
  have H0 : Hid (LsR U w rb vb ve bs es B ob #[.int .i64 s1, .int .i64 s2] 62 (.slice none 0 0) (belK es d (s1, s2) 0) w1) := ⟨h, hon, by rw [hob, hw1]; exact heap_alloc_last w _, by rw [belK_zero]; exact OwnL.nil _ _ _ _, by omega, by omega, by omega⟩
  obtain ⟨p, c, hve, _, _, hg⟩ := h.e.form
  have HVE := Vx.hid hve
  have HG := Vx.hid hg
  obtain ⟨N, hN⟩ : ∃ N, N = es.length := ⟨_, rfl⟩
  have HN := Vx.hid hN
  have hne := h.ne
  rw [← hN] at hne
  have HB := Vx.hid (⟨hob, hB⟩ : _ ∧ _)
  have HL := Vx.hid hL
  clear h hve hg hN hon hs1 hB ih hr hD hL hd
  dsimp only
  go_enter Tryd.func66, Tryd.ntmps66
  go_wp2_with fail
  rw [← hw1, ← hob]
  clear hw1 hob
  go_loopw [5, 6] (fun v dk wr => ∃ k : Nat, dk = .int .i64 (k : Int) ∧ k ≤ N ∧ Hid (LsR U w rb vb ve bs es B ob #[.int .i64 s1, .int .i64 s2] 62 v (belK es d (s1, s2) k) wr)) (fun _ dk _ => N - (intOf dk).toNat)
  case atStart => exact ⟨0, rfl, by omega, H0⟩
  case round =>
    clear H0
    obtain ⟨k, rfl, hk, HR⟩ := hrel
    obtain ⟨pv, cv, hvf, _⟩ := HR.out.own.form
    obtain ⟨m, hm⟩ : ∃ m, m = (belK es d (s1, s2) k).length := ⟨_, rfl⟩
    rw [← hm] at hvf
    subst hvf
    have hrs := HR.out.r0.quiet HR.out.on
    have c1 := hrs.c1
    rw [HVE.out, ← HN.out] at c1
    by_cases hlt : k < N
    · have hkl : k < es.length := by have := HN.out; omega
      have h1 : (k : Int) < (N : Int) := by omega
      have hidk : 0 ≤ (k : Int) ∧ (k : Int) < (N : Int) := by omega
      have hwk : IntKind.i64.wrap ((k : Int) + 1) = (k : Int) + 1 := by rw [IntKind.wrap_i64]; omega
      obtain ⟨g, rfl, _⟩ := HG.out (by omega)
      obtain ⟨g', c', hve', hE⟩ := hrs.e12 k hkl
      obtain rfl : g = g' := by have := HVE.out.symm.trans hve'; simp at this; exact this.1
      have hst := belK_step es d (s1, s2) k hkl
      have hIH := HIH.out k hkl
      obtain ⟨y, hy⟩ : ∃ y, y = es[k] := ⟨_, rfl⟩
      rw [← hy] at hE hst hIH
      obtain ⟨a0, a1, _, _, _, _, _, _, _, _, a10, a11⟩ := hE
      obtain ⟨⟨ya1, ya2⟩, yc, ⟨yf1, yf2⟩⟩ := y
      dsimp only at a0 a1 a10 a11 hst hIH
      have q0 : wr.cell? ⟨ob, 0, none⟩ = some (.int .i64 s1) := (cell_of_row _ _ 0 _ _ (0, 0) HR.out.o).trans rfl
      have q1 : wr.cell? ⟨ob, 1, none⟩ = some (.int .i64 s2) := (cell_of_row _ _ 1 _ _ (0, 0) HR.out.o).trans rfl
      have hl2 := belK_len es d (s1, s2) k
      have hl3 := belK_len es d (s1, s2) (k + 1)
      have hl4 := HL.out (d + 1) (s1, s2)
      have HY := Vx.hid hy
      clear hve' hy hrs hlt hm
      by_cases e1 : yf1 = s1
      · subst e1
        by_cases e2 : yf2 = s2
        · subst e2
          rw [if_pos rfl] at hst
          have HST : Hid (belK es d (yf1, yf2) (k + 1) = (belK es d (yf1, yf2) k ++ [(ya1, ya2)]) ++ belN es d (ya1, ya2)) := by
            show belK es d (yf1, yf2) (k + 1) = _
            rw [hst, List.append_assoc]
            rfl
          have HCA := Vx.hid (hIH rfl)
          have HLE : Hid ((belK es d (yf1, yf2) k).length + 1 ≤ 10000000) := by show _ + 1 ≤ 10000000; omega
          have HLF : Hid ((belK es d (yf1, yf2) k ++ [(ya1, ya2)]).length + (belN es d (ya1, ya2)).length ≤ 10000000) := by
            show _ + _ ≤ 10000000
            rw [HST.out, List.length_append] at hl3
            omega
          clear hst hIH hl2 hl3 hl4
          go_wp2_with fail
          go_quiet (fail)
          obtain ⟨w3, hw3⟩ : ∃ w3, w3 = wr.drewN nq := ⟨_, rfl⟩
          have hon3 : Only (fun _ => False) wr w3 := by rw [hw3]; exact (Only.refl _ wr).drewN _
          have HR3 := Vx.hid (HR.out.quiet hon3)
          have HBL : Hid (B ≤ w3.heap.size) := HR3.out.lt.2.1
          have c13 := (HR3.out.r0.quiet HR3.out.on).c1
          rw [HVE.out, ← HN.out] at c13
          have b0 : w3.cell? ⟨g, k * 12, none⟩ = some (.int .i64 ya1) := by rw [hw3]; simpa using a0
          have b1 : w3.cell? ⟨g, k * 12 + 1, none⟩ = some (.int .i64 ya2) := by rw [hw3]; simpa using a1
          rw [← hw3]
          clear hw3 hon3
          go_upto_region 7 with (at_builtin; refine wpList_append_one slK _ rfl _ _ rfl B (.slice pv m cv) _ rfl HR3.out.own (ya1, ya2) _ _ rfl rfl rfl HLE.out HBL.out ?_; intro v' w5 hv1 hv2 hv3; obtain ⟨p5, c5, hv', _⟩ := hv1.form; obtain ⟨m5, hm5⟩ : ∃ m, m = (belK es d (yf1, yf2) k ++ [(ya1, ya2)]).length := ⟨_, rfl⟩; rw [← hm5] at hv'; subst hv'; have HR5 := Vx.hid (HR3.out.push hv1 hv2); clear hv1 hv2 hv3 hm5)
          have hrs5 := HR5.out.r0.quiet HR5.out.on
          have c15 := hrs5.c1
          rw [HVE.out, ← HN.out] at c15
          have hE5 := own_e12 (g := g) (n := es.length) (c := c) (by have h3 := hrs5.e; rw [HVE.out] at h3; exact h3) k hkl
          rw [← HY.out] at hE5
          obtain ⟨n0, n1, _, _, _, _, _, _, _, _, _, _⟩ := hE5
          dsimp only at n0 n1
          have HC5 := Vx.hid (HCA.out w5 hrs5)
          clear hrs5 HCA c13 b0 b1 a0 a1 a10 a11 q0 q1 c1
          go_wp2_with fail
          refine HC5.out.mono ?_
          rintro e w6 ⟨v2, rfl, hv2, ho6⟩
          have HR6 := Vx.hid (HR5.out.quiet ho6)
          have HB6 : Hid (B ≤ w6.heap.size) := HR6.out.lt.2.1
          obtain ⟨p2, c2, hvf2, _, _, hg2⟩ := hv2.form
          have hS : 0 < (belN es d (ya1, ya2)).length → ∃ ad, p2 = some ad ∧ ∀ j u, (fl slL (belN es d (ya1, ya2)))[j]? = some u → w6.cell? (ad.add j) = some u := fun h0 => by
            obtain ⟨g2, hp2, _⟩ := hg2 h0
            refine ⟨⟨g2, 0, none⟩, hp2, fun j u hj => ?_⟩
            rw [hvf2, hp2] at hv2
            have h3 := hv2.part 0 (belN es d (ya1, ya2)).length j u (by rw [List.drop_zero, List.take_length]; exact hj)
            rw [Nat.zero_mul] at h3
            exact h3
          have HS := Vx.hid hS
          obtain ⟨n2, hn2⟩ : ∃ n2, n2 = (belN es d (ya1, ya2)).length := ⟨_, rfl⟩
          rw [← hn2] at hvf2
          subst hvf2
          have HN2 := Vx.hid hn2
          clear hv2 ho6 hS hg2 hn2 HC5 n0 n1 c15
          go_wp2_with (at_builtin; refine wpList_append_many slK _ rfl _ _ rfl B (.slice p5 m5 c5) _ rfl HR6.out.own p2 c2 n2 (belN es d (ya1, ya2)) rfl HN2.out HS.out HLF.out HB6.out ?_; intro v7 w7 hv1 hv2 hv3; have HNX := Vx.hid (HR6.out.push hv1 hv2); clear hv1 hv2 hv3)
          go_roundw
          case rel => exact ⟨k + 1, by go_num, by omega, by rw [HST.out]; exact HNX⟩
          case measure => simp only [intOf]; omega
        · rw [if_neg (fun h => e2 (by simpa using h))] at hst
          have HST : Hid (belK es d (yf1, s2) (k + 1) = belK es d (yf1, s2) k) := by show belK _ _ _ _ = _; rw [hst, List.append_nil]
          have he : (yf2 == s2) = false := beq_eq_false_iff_ne.2 e2
          clear hst hIH hl2 hl3 hl4
          go_wp2_with fail
          go_quiet (fail)
          go_wp2_with fail
          go_roundw
          case rel => exact ⟨k + 1, by go_num, by omega, by rw [HST.out]; exact HR.out.quiet ((Only.refl _ _).drewN _)⟩
          case measure => simp only [intOf]; omega
      · rw [if_neg (fun h => e1 (congrArg Prod.fst h))] at hst
        have HST : Hid (belK es d (s1, s2) (k + 1) = belK es d (s1, s2) k) := by show belK _ _ _ _ = _; rw [hst, List.append_nil]
        have he : (yf1 == s1) = false := beq_eq_false_iff_ne.2 e1
        clear hst hIH hl2 hl3 hl4
        go_wp2_with fail
        go_quiet (fail)
        go_wp2_with fail
        go_roundw
        case rel => exact ⟨k + 1, by go_num, by omega, by rw [HST.out]; exact HR.out.quiet ((Only.refl _ _).drewN _)⟩
        case measure => simp only [intOf]; omega
    · obtain rfl : k = N := by omega
      have h1 : ¬ (k : Int) < (k : Int) := by omega
      have HFI : Hid (OwnL slL wr w.heap.size 62 (.slice pv m cv) (belN es (d + 1) (s1, s2)) ∧ Only (fun _ => False) w wr) := by
        have h3 := HR.out.own
        rw [HN.out, belK_all] at h3
        exact ⟨own_base h3 (by have := HB.out; omega), HR.out.on⟩
      clear hlt hm hrs
      go_wp2_with fail
      all_goals
        go_ret
        exact ⟨_, rfl, HFI.out.1, HFI.out.2⟩
end Go.Proofs.YtbmchgjilkoplaaDoor

import Derived.Test.YtbbabpgmclhinaaCs19
import Derived.Deep.RegionHeld3
import Derived.BigQuiet
/- Chapter 8, the document's pool: All's walk. -/
namespace Go.Proofs.Ytbbabpgmclhinaa
open Go.ChangeShapes Go.WideShapes Go.ChangeAt Go.RowKit
open Go.Vx
set_option linter.unusedVariables false
variable {U S : Nat → Prop} {w w2 wr : World} {pb : Nat} {P : Int} {vo vr v : Value} {os rs : List (Int × Int)} {ns : List Int}

set_option maxRecDepth 100000 in
set_option maxHeartbeats 4000000 in
theorem all_ok (h : PoAt U w pb P vo vr os rs) (hlo : os.length ≤ 900000) (hlr : rs.length ≤ 900000) : Calls Try.prog 42 #[.pointer (some ⟨pb, 0, none⟩)] w fun e w' => ∃ v, e = .returned v ∧ ∃ ls, OwnL slL w' w.heap.size 33 v ls ∧ ls.Perm (allL os rs) ∧ ls.Pairwise leO ∧ Only (fun _ => False) w w' := by
  have HK := Vx.hid h
  have c1 := h.c1
  obtain ⟨po, co, hvo, _⟩ := own_two h.o
  subst hvo
  obtain ⟨pr, cr, hvr, _⟩ := own_two h.g
  subst hvr
  obtain ⟨N, hN⟩ : ∃ N, N = os.length := ⟨_, rfl⟩
  obtain ⟨M, hM⟩ : ∃ M, M = rs.length := ⟨_, rfl⟩
  have HNM : Hid (N = os.length ∧ M = rs.length) := ⟨hN, hM⟩
  have hS1 : 0 < os.length → ∃ ad, po = some ad ∧ ∀ j u, (fl slL os)[j]? = some u → w.cell? (ad.add j) = some u := fun h0 => by
    obtain ⟨g, rfl, _⟩ := own_at h.o 0 h0
    refine ⟨_, rfl, fun j u hj => ?_⟩
    have := h.o.part 0 os.length j u (by rw [List.drop_zero, List.take_length]; exact hj)
    rw [Nat.zero_mul] at this
    exact this
  have HS1 := Vx.hid hS1
  have HL1 : Hid (([] : List (Int × Int)).length + os.length ≤ 10000000) := by show _ + _ ≤ _; simp; omega
  have HL2 : Hid (∀ k, (os ++ (rs.take k).map (fun r => ((1 : Int), r.1))).length + 1 ≤ 10000000) := fun k => by
    rw [List.length_append, List.length_map, List.length_take]
    omega
  rw [← hN] at c1
  have hno : N ≤ 900000 := by omega
  have hng : M ≤ 900000 := by omega
  clear h hS1 hlo hlr hN hM
  go_enter Try.func42, Try.ntmps42
  go_upto_region 3 with (at_builtin; refine wpList_append_many obK _ rfl _ _ rfl w.heap.size (.slice none 0 0) [] rfl (OwnL.nil _ _ _ _) po co N os rfl HNM.out.1 HS1.out HL1.out (Nat.le_refl _) ?_; intro v1 w1 hv1 hv2 hv3; have H1 : Hid (MkL 33 w v1 (os ++ (rs.take 0).map (fun r => ((1 : Int), r.1))) w1) := ⟨hv2.mono (fun k _ h => by cases h), by simpa using hv1⟩; clear hv1 hv2 hv3)
  clear c1
  go_wp2_with fail
  go_loopw [3, 4] (fun v d wr => ∃ k : Nat, d = .int .i64 (k : Int) ∧ k ≤ M ∧ Hid (MkL 33 w v (os ++ (rs.take k).map (fun r => ((1 : Int), r.1))) wr)) (fun _ d _ => M - (intOf d).toNat)
  case atStart => exact ⟨0, rfl, by omega, H1⟩
  case round =>
    clear H1
    obtain ⟨k, rfl, hk, HR⟩ := hrel
    obtain ⟨pv, cv, hvf, _⟩ := HR.out.own.form
    obtain ⟨m, hm⟩ : ∃ m, m = (os ++ (rs.take k).map (fun r => ((1 : Int), r.1))).length := ⟨_, rfl⟩
    have HMM := Vx.hid hm
    rw [← hm] at hvf
    subst hvf
    have c2 := (HK.out.quiet HR.out.on).c2
    rw [← HNM.out.2] at c2
    by_cases hlt : k < M
    · have hlb : k < rs.length := by have := HNM.out.2; omega
      have h1 : (k : Int) < (M : Int) := by omega
      have hidx : 0 ≤ (k : Int) ∧ (k : Int) < (M : Int) := by omega
      have hwk : IntKind.i64.wrap ((k : Int) + 1) = (k : Int) + 1 := by rw [IntKind.wrap_i64]; omega
      obtain ⟨g, rfl, b0, _⟩ := own_at (HK.out.quiet HR.out.on).g k hlb
      have HST : Hid (os ++ (rs.take (k + 1)).map (fun r => ((1 : Int), r.1)) = (os ++ (rs.take k).map (fun r => ((1 : Int), r.1))) ++ [((1 : Int), rs[k].1)]) := by
        show _ = _
        rw [List.take_succ_eq_append_getElem hlb, List.map_append, List.append_assoc]
        rfl
      generalize rs[k].1 = y at b0 HST
      have HBL : Hid (w.heap.size ≤ wr.heap.size) := HR.out.on.size
      clear hlt hm
      go_wp2_with (at_builtin; refine wpList_append_one obK _ rfl _ _ rfl w.heap.size (.slice pv m cv) _ rfl HR.out.own ((1 : Int), y) _ _ rfl rfl rfl (HL2.out k) HBL.out ?_; intro v' w5 hv1 hv2 hv3; have HNX := Vx.hid (HR.out.push hv1 hv2); clear hv1 hv2 hv3)
      go_roundw
      case rel => exact ⟨k + 1, by go_num, by omega, by rw [HST.out]; exact HNX⟩
      case measure => simp only [intOf]; omega
    · obtain rfl : k = M := by omega
      have h1 : ¬ (k : Int) < (k : Int) := by omega
      have hm2 : m ≤ 1800000 := by rw [hm, List.length_append, List.length_map, List.length_take]; have := HNM.out; omega
      have HXL : Hid (m = (allL os rs).length) := by have h3 := HMM.out; rw [HNM.out.2, List.take_length] at h3; exact h3
      have HA : Hid (AlS w (.slice pv m cv) (allL os rs) 1 1 wr) := by
        have h3 := HR.out
        rw [HNM.out.2, List.take_length] at h3
        exact ⟨_, h3, List.Perm.refl _, fun a b h4 h5 h6 => by omega⟩
      clear hlt hm HR HMM
      go_wp2_with fail
      clear c2
      go_loopw [5] (fun d wr => ∃ i : Nat, d = .int .i64 (i : Int) ∧ 1 ≤ i ∧ i ≤ 1800001 ∧ Hid (AlS w (.slice pv m cv) (allL os rs) i i wr)) (fun d _ => m - (intOf d).toNat)
      case atStart => exact ⟨1, rfl, by omega, by omega, HA⟩
      case round =>
        clear HA
        obtain ⟨i, rfl, hi1, hi2, HS⟩ := hrel
        by_cases hlt : i < m
        · have h1 : (i : Int) < (m : Int) := by omega
          have hwi : IntKind.i64.wrap ((i : Int) + 1) = (i : Int) + 1 := by rw [IntKind.wrap_i64]; omega
          clear hlt
          have HIM : Hid (i < m) := by show i < m; omega
          go_wp2_with fail
          go_loopw [6] (fun d wr => ∃ k : Nat, d = .int .i64 (k : Int) ∧ k ≤ i ∧ Hid (AlS w (.slice pv m cv) (allL os rs) i k wr)) (fun d _ => (intOf d).toNat)
          case atStart => exact ⟨i, rfl, by omega, HS⟩
          case round =>
            clear HS
            obtain ⟨j, rfl, hj, HS⟩ := hrel
            by_cases hj0 : j = 0
            · subst hj0
              have HN2 : Hid (AlS w (.slice pv m cv) (allL os rs) (i + 1) (i + 1) wr) := by
                obtain ⟨xs, a1, a2, a3⟩ := HS.out
                exact ⟨xs, a1, a2, a3.stop (Or.inl rfl)⟩
              go_wp2_with fail
              go_quiet (fail)
              go_wp2_with fail
              go_roundw
              case rel => exact ⟨i + 1, by go_num, by omega, by have := HIM.out; omega, HN2.out.quiet ((Only.refl _ _).drewN _)⟩
              case measure => have := HIM.out; simp only [intOf]; omega
            · obtain ⟨p, rfl⟩ : ∃ p, j = p + 1 := ⟨j - 1, by omega⟩
              obtain ⟨xs, a1, a2, a3⟩ := HS.out
              have hxl : m = xs.length := by rw [HXL.out]; exact a2.length_eq.symm
              have HPL : Hid (p + 1 < xs.length) := by have := HIM.out; show p + 1 < xs.length; omega
              have HPI : Hid (p + 1 ≤ i) := hj
              obtain ⟨g, rfl, b0, b1⟩ := own_at a1.own (p + 1) HPL.out
              obtain ⟨g', hg', d0, d1⟩ := own_at a1.own p (by have := HPL.out; omega)
              obtain rfl : g = g' := by simpa using hg'
              have hff : ∀ j, wr.frozen? ⟨g, j, none⟩ = false := fun j => a1.own.fz j
              have e1 : xs.getD (p + 1) (0, 0) = xs[p + 1]'HPL.out := getD_two HPL.out _
              have e2 : xs.getD p (0, 0) = xs[p]'(by have := HPL.out; omega) := getD_two _ _
              generalize xs[p + 1]'HPL.out = x at b0 b1 e1
              generalize xs[p]'(by have := HPL.out; omega) = y at d0 d1 e2
              obtain ⟨x1, x2⟩ := x
              obtain ⟨y1, y2⟩ := y
              dsimp only at b0 b1 d0 d1
              have HXS : Hid (MkL 33 w (.slice (some ⟨g, 0, none⟩) m cv) xs wr ∧ xs.Perm (allL os rs) ∧ SrtK xs i (p + 1) ∧ xs.getD (p + 1) (0, 0) = (x1, x2) ∧ xs.getD p (0, 0) = (y1, y2)) := ⟨a1, a2, a3, e1, e2⟩
              have hjp : (0 : Int) < (p : Int) + 1 := by omega
              have hjp' : (0 : Int) < ((p + 1 : Nat) : Int) := by omega
              have hpm : p + 1 < m := by have := HIM.out; omega
              have hdj : 0 ≤ (p : Int) + 1 ∧ (p : Int) + 1 < (m : Int) := by omega
              have hdj' : 0 ≤ ((p + 1 : Nat) : Int) ∧ ((p + 1 : Nat) : Int) < (m : Int) := by omega
              have hdi : 0 ≤ (p : Int) ∧ (p : Int) < (m : Int) := by omega
              have hwj : IntKind.i64.wrap ((p : Int) + 1 - 1) = (p : Int) := by rw [IntKind.wrap_i64]; omega
              have hwj' : IntKind.i64.wrap (p : Int) = (p : Int) := by rw [IntKind.wrap_i64]; omega
              have hwj2 : IntKind.i64.wrap (((p + 1 : Nat) : Int) - 1) = (p : Int) := by rw [IntKind.wrap_i64]; omega
              clear a1 a2 a3 e1 e2 hxl hg' hj0 hj HS hpm
              by_cases k1 : x1 < y1
              · have HLT : Hid (ltO (x1, x2) (y1, y2)) := Or.inl k1
                go_wp2_with fail
                go_quiet (fail)
                obtain ⟨w3, hw3⟩ : ∃ w3, w3 = wr.drewN nq := ⟨_, rfl⟩
                have hon3 : Only (fun _ => False) wr w3 := by rw [hw3]; exact (Only.refl _ wr).drewN _
                have HN3 : Hid (∀ o, AlS w (.slice (some ⟨g, 0, none⟩) m cv) (allL os rs) i p (((((w3.setCell ⟨g, (p + 1) * 2, none⟩ (.int .i64 y1)).setCell ⟨g, (p + 1) * 2 + 1, none⟩ (.int .i64 y2)).setCell ⟨g, p * 2, none⟩ (.int .i64 x1)).setCell ⟨g, p * 2 + 1, none⟩ (.int .i64 x2)).alloc o)) := fun o => by
                  obtain ⟨a1, a2, a3, e1, e2⟩ := HXS.out
                  have h5 := (a1.quiet hon3).swap (show p + 1 < xs.length from HPL.out)
                  rw [e1, e2] at h5
                  refine ⟨_, h5.quiet ((Only.refl _ _).alloc _), ?_, ?_⟩
                  · have h6 := (perm_swap (xs := xs) HPL.out).trans a2
                    rw [e1, e2] at h6
                    exact h6
                  · have h6 := a3.swap HPI.out HPL.out (by rw [e1, e2]; exact HLT.out)
                    rw [e1, e2] at h6
                    exact h6
                have q0 : w3.cell? ⟨g, (p + 1) * 2, none⟩ = some (.int .i64 x1) := by rw [hw3]; simpa using b0
                have q1 : w3.cell? ⟨g, (p + 1) * 2 + 1, none⟩ = some (.int .i64 x2) := by rw [hw3]; simpa using b1
                have q2 : w3.cell? ⟨g, p * 2, none⟩ = some (.int .i64 y1) := by rw [hw3]; simpa using d0
                have q3 : w3.cell? ⟨g, p * 2 + 1, none⟩ = some (.int .i64 y2) := by rw [hw3]; simpa using d1
                have hgl : g < w3.heap.size := World.block_lt_of_cell? w3 ⟨g, p * 2, none⟩ q2
                have hfz : ∀ j, w3.frozen? ⟨g, j, none⟩ = false := fun j => by rw [hw3]; simpa using hff j
                have z0 := hfz ((p + 1) * 2)
                have z1 := hfz ((p + 1) * 2 + 1)
                have z2 := hfz (p * 2)
                have z3 := hfz (p * 2 + 1)
                rw [← hw3]
                clear hw3 hon3 b0 b1 d0 d1 hff hfz
                go_wp2_with fail
                go_roundw
                case rel => exact ⟨p, by go_num, by have := HPI.out; omega, HN3.out _⟩
                case measure => simp only [intOf]; omega
              · by_cases k2 : x1 = y1
                · subst k2
                  by_cases k3 : x2 < y2
                  · have HLT : Hid (ltO (x1, x2) (x1, y2)) := Or.inr ⟨rfl, k3⟩
                    go_wp2_with fail
                    go_quiet (fail)
                    obtain ⟨w3, hw3⟩ : ∃ w3, w3 = wr.drewN nq := ⟨_, rfl⟩
                    have hon3 : Only (fun _ => False) wr w3 := by rw [hw3]; exact (Only.refl _ wr).drewN _
                    have HN3 : Hid (∀ o, AlS w (.slice (some ⟨g, 0, none⟩) m cv) (allL os rs) i p (((((w3.setCell ⟨g, (p + 1) * 2, none⟩ (.int .i64 x1)).setCell ⟨g, (p + 1) * 2 + 1, none⟩ (.int .i64 y2)).setCell ⟨g, p * 2, none⟩ (.int .i64 x1)).setCell ⟨g, p * 2 + 1, none⟩ (.int .i64 x2)).alloc o)) := fun o => by
                      obtain ⟨a1, a2, a3, e1, e2⟩ := HXS.out
                      have h5 := (a1.quiet hon3).swap (show p + 1 < xs.length from HPL.out)
                      rw [e1, e2] at h5
                      refine ⟨_, h5.quiet ((Only.refl _ _).alloc _), ?_, ?_⟩
                      · have h6 := (perm_swap (xs := xs) HPL.out).trans a2
                        rw [e1, e2] at h6
                        exact h6
                      · have h6 := a3.swap HPI.out HPL.out (by rw [e1, e2]; exact HLT.out)
                        rw [e1, e2] at h6
                        exact h6
                    have q0 : w3.cell? ⟨g, (p + 1) * 2, none⟩ = some (.int .i64 x1) := by rw [hw3]; simpa using b0
                    have q1 : w3.cell? ⟨g, (p + 1) * 2 + 1, none⟩ = some (.int .i64 x2) := by rw [hw3]; simpa using b1
                    have q2 : w3.cell? ⟨g, p * 2, none⟩ = some (.int .i64 x1) := by rw [hw3]; simpa using d0
                    have q3 : w3.cell? ⟨g, p * 2 + 1, none⟩ = some (.int .i64 y2) := by rw [hw3]; simpa using d1
                    have hgl : g < w3.heap.size := World.block_lt_of_cell? w3 ⟨g, p * 2, none⟩ q2
                    have hfz : ∀ j, w3.frozen? ⟨g, j, none⟩ = false := fun j => by rw [hw3]; simpa using hff j
                    have z0 := hfz ((p + 1) * 2)
                    have z1 := hfz ((p + 1) * 2 + 1)
                    have z2 := hfz (p * 2)
                    have z3 := hfz (p * 2 + 1)
                    rw [← hw3]
                    clear hw3 hon3 b0 b1 d0 d1 hff hfz
                    go_wp2_with fail
                    go_roundw
                    case rel => exact ⟨p, by go_num, by have := HPI.out; omega, HN3.out _⟩
                    case measure => simp only [intOf]; omega
                  · have HLT : Hid (¬ ltO (x1, x2) (x1, y2)) := fun h => by unfold ltO at h; simp only at h; omega
                    have HN2 : Hid (AlS w (.slice (some ⟨g, 0, none⟩) m cv) (allL os rs) (i + 1) (i + 1) wr) := by
                      obtain ⟨a1, a2, a3, e1, e2⟩ := HXS.out
                      exact ⟨xs, a1, a2, a3.stop (Or.inr ⟨p, rfl, by rw [e1, e2]; exact HLT.out⟩)⟩
                    go_wp2_with fail
                    go_quiet (fail)
                    go_wp2_with fail
                    go_roundw
                    case rel => exact ⟨i + 1, by go_num, by omega, by have := HIM.out; omega, HN2.out.quiet ((Only.refl _ _).drewN _)⟩
                    case measure => have := HIM.out; simp only [intOf]; omega
                · have HLT : Hid (¬ ltO (x1, x2) (y1, y2)) := fun h => by unfold ltO at h; simp only at h; omega
                  have k4 : (x1 == y1) = false := beq_eq_false_iff_ne.2 k2
                  have k6 : decide (x1 = y1) = false := decide_eq_false k2
                  have k7 : decide (x1 < y1) = false := decide_eq_false k1
                  clear k2
                  have HN2 : Hid (AlS w (.slice (some ⟨g, 0, none⟩) m cv) (allL os rs) (i + 1) (i + 1) wr) := by
                    obtain ⟨a1, a2, a3, e1, e2⟩ := HXS.out
                    exact ⟨xs, a1, a2, a3.stop (Or.inr ⟨p, rfl, by rw [e1, e2]; exact HLT.out⟩)⟩
                  go_wp2_with fail
                  go_quiet (fail)
                  go_wp2_with fail
                  go_roundw
                  case rel => exact ⟨i + 1, by go_num, by omega, by have := HIM.out; omega, HN2.out.quiet ((Only.refl _ _).drewN _)⟩
                  case measure => have := HIM.out; simp only [intOf]; omega
        · have h1 : ¬ (i : Int) < (m : Int) := by omega
          have HFI : Hid (∃ ls, OwnL slL wr w.heap.size 33 (.slice pv m cv) ls ∧ ls.Perm (allL os rs) ∧ ls.Pairwise leO ∧ Only (fun _ => False) w wr) := by
            obtain ⟨xs, a1, a2, a3⟩ := HS.out
            refine ⟨xs, a1.own, a2, a3.whole ?_, a1.on⟩
            have := HXL.out
            rw [a2.length_eq]
            omega
          clear hlt
          go_wp2_with fail
          all_goals
            go_ret
            obtain ⟨ls, q1, q2, q3, q4⟩ := HFI.out
            exact ⟨_, rfl, ls, q1, q2, q3, q4⟩
end Go.Proofs.Ytbbabpgmclhinaa

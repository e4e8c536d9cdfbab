/- Package spec's reader: wordsOf, nextLine (gen_sr16.py). -/
import Derived.Test.YtgacifbpjdakaaaGreatDoorSR15
namespace Go.Proofs.YtgacifbpjdakaaaGreatDoor
open Go.ChangeShapes Go.WideShapes Go.ChangeAt Go.RowKit
open Go.Vx
set_option linter.unusedVariables false
set_option linter.unusedSimpArgs false
variable {W w w2 : World} {rb : Nat} {V : Rv} {vw : Value} {ws : List (List UInt8)} {T : Tx} {x : List UInt8}

theorem words1_ok (x : Nat) (w : World) : Calls Tryz.prog 85 #[.int .i32 (x : Int)] w fun e w' => e = .returned (.bool (sepN x)) ∧ w' = w := by
  by_cases h1 : x = 32
  · subst h1
    go_enter Tryz.func85, Tryz.ntmps85
    go_wp2
    go_ret
    exact ⟨rfl, rfl⟩
  · have h2 : ((x : Int) == 32) = false := by rw [beq_eq_false_iff_ne]; omega
    have h3 : ((x : Int) == 9) = sepN x := by
      unfold sepN
      rw [Bool.eq_iff_iff]
      simp [h1]
      omega
    generalize sepN x = b at h3
    clear h1
    go_enter Tryz.func85, Tryz.ntmps85
    go_wp2
    go_ret
    exact ⟨rfl, rfl⟩
theorem cut_mem {l s : List UInt8} {c : UInt8} (h : c ∈ (Lib.cut l s).1) : c ∈ l := by
  unfold Lib.cut at h
  split at h
  · exact List.mem_of_mem_take h
  · exact h
theorem cut_len (l s : List UInt8) : (Lib.cut l s).1.length ≤ l.length := by
  unfold Lib.cut
  split
  · simp [Nat.min_le_right]
  · exact Nat.le_refl _
set_option maxHeartbeats 1000000 in
theorem wordsOf_ok (l : List UInt8) (hl : ∀ b ∈ l, b.toNat < 128) (hn : l.length ≤ 20000) (mx : Int) (hm : w.cell? ⟨0, 0, none⟩ = some (.int .i64 mx)) :
    Calls Tryz.prog 41 #[.string ⟨l.toArray⟩] w fun e w' => ∃ v, e = .returned v ∧ Hid (WdAt w' v (wordsL l) ∧ (∀ g o n c, v = .slice (some ⟨g, o, none⟩) n c → g < w'.heap.size) ∧ Only (fun _ => False) w w') := by
  have hsz : (ByteArray.mk l.toArray).size = l.length := by simp [ByteArray.size]
  have HCT := Vx.hid (Tryz.strings_Cut ⟨l.toArray⟩ ⟨#[35]⟩ mx w (by rw [hsz]; omega) hm)
  obtain ⟨cl, hcl⟩ : ∃ cl, cl = (Lib.cut l [35]).1 := ⟨_, rfl⟩
  have hcm : ∀ b ∈ cl, b.toNat < 128 := fun b hb => hl b (cut_mem (by rw [hcl] at hb; exact hb))
  have hcn : cl.length ≤ 20000 := by have := cut_len l [35]; rw [← hcl] at this; omega
  have hwl : wordsL l = fldL [] cl := by rw [hcl]; rfl
  have hsc : (ByteArray.mk cl.toArray).size = cl.length := by simp [ByteArray.size]
  have HFF : Hid (∀ wv, Calls Tryz.prog 84 #[.string ⟨cl.toArray⟩, .func (.func 85) #[] #[]] wv fun e w' => ∃ v, e = .returned v ∧ Hid (WdAt w' v (wordsL l) ∧ (∀ g o n c, v = .slice (some ⟨g, o, none⟩) n c → g < w'.heap.size) ∧ Only (fun _ => False) wv w')) := fun wv => by
    refine (Tryz.strings_FieldsFunc_runes 85 #[] (enters_of Tryz.func85 (by kernel_rfl) rfl) sepN ⟨cl.toArray⟩ wv (by rw [hsc]; omega) (fun W9 y hy hb => (show Calls Tryz.prog 85 #[.int .i32 (y : Int)] W9 _ from (words1_ok y W9).mono (fun e w' h9 => ⟨h9.1, 0, by rw [h9.2]; rfl⟩)))).mono ?_
    rintro e w' ⟨A, rfl, hA, hown, hbe⟩
    have hgf : Lib.goFieldsP sepN ⟨cl.toArray⟩ = (fldL [] cl).map mkB := goFields_fld cl hcm
    rw [hgf] at hown ⊢
    rw [← hwl] at hown ⊢
    rw [List.length_map] at hown ⊢
    refine ⟨_, rfl, ⟨_, _, _, rfl, rfl, Nat.le_refl _, ?_⟩, ?_, Only.of_below hbe (fun k hk h9 => by omega)⟩
    · by_cases he : wordsL l = []
      · exact Or.inl he
      · have hpos : 0 < (wordsL l).length := List.length_pos_iff.2 he
        rcases hown.2 with ⟨h0, _⟩ | ⟨g, cap, cur, hv, hb, hg, rest⟩
        · cases h0
        · injection hv with e1 _ _
          injection e1 with e1
          injection e1 with e1 _ _
          subst e1
          refine Or.inr ⟨A, 0, cur, rfl, hg, fun j hj => ?_⟩
          have h1 := World.ownsRow.cellAt hown j (by omega)
          rw [List.map_map, List.getElem?_map, List.getElem?_eq_getElem hj] at h1
          rw [Nat.zero_add, h1]
          rfl
    · intro g o n c e
      injection e with e1 _ _
      injection e1 with e1
      injection e1 with e1 _ _
      subst e1
      rcases hown.2 with ⟨h0, _⟩ | ⟨g, cap, cur, hv, hb, hg, rest⟩
      · cases h0
      · injection hv with e1 _ _
        injection e1 with e1
        injection e1 with e1 _ _
        subst e1
        exact lt_of_some hg
  have e1 : (Lib.cut (ByteArray.mk l.toArray).data.toList (ByteArray.mk #[35]).data.toList).1 = cl := by rw [hcl]
  rw [e1] at HCT
  clear hm hl hn hsz hcl hcm hcn hwl hsc e1
  go_enter Tryz.func41, Tryz.ntmps41
  go_wp2_with fail
  refine HCT.out.mono ?_
  rintro e w1 ⟨rfl, n1, hw1⟩
  have HW1 : Hid (Only (fun _ => False) w w1) := by rw [hw1]; exact (Only.refl _ w).drewN n1
  clear HCT hw1
  generalize (Lib.cut (ByteArray.mk l.toArray).data.toList (ByteArray.mk #[35]).data.toList).2.1 = c2
  generalize (Lib.cut (ByteArray.mk l.toArray).data.toList (ByteArray.mk #[35]).data.toList).2.2 = c3
  go_wp2_with fail
  refine (HFF.out _).mono ?_
  rintro e w2 ⟨v, rfl, H2⟩
  clear HFF
  go_wp2_with fail
  go_ret
  exact ⟨v, rfl, H2.out.1, H2.out.2.1, HW1.out.trans H2.out.2.2⟩
theorem RdAt.wide (h : RdAt W w rb V vw ws T) (g : Nat) (hg : V.gb ≤ g) : RdAt W w rb { V with gb := g } vw ws T := ⟨h.be, h.row, h.hb, h.lt, h.lo, h.lc, h.lm, h.lh, h.li, h.nm, h.hm, h.wd, h.ls, h.sy, fun g o n c e => Nat.lt_of_lt_of_le (h.wdb g o n c e) hg, fun g o n c e => Nat.lt_of_lt_of_le (h.lsb g o n c e) hg⟩
theorem RdAt.regb (h : RdAt W w rb V vw ws T) (g : Nat) (h1 : ∀ g' o n c, vw = .slice (some ⟨g', o, none⟩) n c → g' < g) (h2 : ∀ g' o n c, V.vl = .slice (some ⟨g', o, none⟩) n c → g' < g) : RdAt W w rb { V with gb := g } vw ws T := ⟨h.be, h.row, h.hb, h.lt, h.lo, h.lc, h.lm, h.lh, h.li, h.nm, h.hm, h.wd, h.ls, h.sy, h1, h2⟩
/-- Behind the next line. -/
def NxP (W : World) (rb : Nat) (V : Rv) (k : Nat) (T : Tx) (w' : World) : Prop := ∃ V' vw', RdAt W w' rb V' vw' (wordsL (V.ls.getD k [])) T ∧ V'.vl = V.vl ∧ V'.ls = V.ls ∧ V'.ln = ((k + 1 : Nat) : Int) ∧ V'.vs = V.vs ∧ V'.gb ≤ w'.heap.size
set_option maxHeartbeats 1000000 in
theorem next_end (h : RdAt W w rb V vw ws T) (hk : V.ln = (V.ls.length : Int)) : Calls Tryz.prog 13 #[.pointer (some ⟨rb, 0, none⟩)] w fun e w' => e = .returned (.bool false) ∧ Hid (Only (fun _ => False) w w') := by
  obtain ⟨p, n, c, hv, hn, hnc, _⟩ := h.ls
  have c0 : w.cell? ⟨rb, 0, none⟩ = some (.slice p n c) := by
    have h9 := (cell_of_row _ _ 0 _ _ (0, 0) h.row).trans rfl
    exact h9.trans (congrArg some hv)
  have c1 : w.cell? ⟨rb, 1, none⟩ = some (.int .i64 (n : Int)) := by
    have h9 : w.cell? ⟨rb, 1, none⟩ = some (.int .i64 V.ln) := (cell_of_row _ _ 1 _ _ (0, 0) h.row).trans rfl
    rw [h9, hk, hn]
  have HO : Hid (Only (fun _ => False) w w.drew) := (Only.refl _ w).drew
  clear h hv hn hk hnc
  go_enter Tryz.func13, Tryz.ntmps13
  go_upto_region 1 with fail
  go_region
  all_goals
    go_wp2_with fail
    go_ret
    exact ⟨rfl, HO.out⟩
set_option maxRecDepth 100000 in
set_option maxHeartbeats 2000000 in
theorem next_ok (h : RdAt W w rb V vw ws T) (k : Nat) (hk : V.ln = (k : Int)) (hlt : k < V.ls.length) (hll : V.ls.length ≤ 3000) (hasc : ∀ b ∈ V.ls[k], b.toNat < 128) (hlen : (V.ls[k]).length ≤ 20000) (mx : Int) (hm : W.cell? ⟨0, 0, none⟩ = some (.int .i64 mx)) :
    Calls Tryz.prog 13 #[.pointer (some ⟨rb, 0, none⟩)] w fun e w' => e = .returned (.bool true) ∧ Hid (NxP W rb V k T w') := by
  have hgW : 0 < W.heap.size := World.block_lt_of_cell? _ _ hm
  have HWO : Hid (∀ wv, Below W.heap.size W wv → Calls Tryz.prog 41 #[.string ⟨(V.ls[k]).toArray⟩] wv fun e w' => ∃ v, e = .returned v ∧ Hid (WdAt w' v (wordsL (V.ls.getD k [])) ∧ (∀ g o n c, v = .slice (some ⟨g, o, none⟩) n c → g < w'.heap.size) ∧ Only (fun _ => False) wv w')) := fun wv hb => by
    have e : V.ls.getD k [] = V.ls[k] := by rw [List.getD_eq_getElem?_getD, List.getElem?_eq_getElem hlt]; rfl
    rw [e]
    exact wordsOf_ok (V.ls[k]) hasc hlen mx ((hb.cell (p := ⟨0, 0, none⟩) hgW).trans hm)
  obtain ⟨p, n, c, hv, hn, hnc, hcs⟩ := h.ls
  rcases hcs with hcs | ⟨g, o, cs, rfl, hg, hj⟩
  · rw [hcs] at hlt; exact absurd hlt (Nat.not_lt_zero _)
  have hck : w.cell? ⟨g, o + k, none⟩ = some (.string ⟨(V.ls[k]).toArray⟩) := hj k hlt
  have c0 : w.cell? ⟨rb, 0, none⟩ = some (.slice (some ⟨g, o, none⟩) n c) := by
    have h9 := (cell_of_row _ _ 0 _ _ (0, 0) h.row).trans rfl
    exact h9.trans (congrArg some hv)
  have c1 : w.cell? ⟨rb, 1, none⟩ = some (.int .i64 (k : Int)) := by
    have h9 : w.cell? ⟨rb, 1, none⟩ = some (.int .i64 V.ln) := (cell_of_row _ _ 1 _ _ (0, 0) h.row).trans rfl
    rw [h9, hk]
  have HC : Hid (∀ wv, Only (fun _ => False) w wv → wv.cell? ⟨rb, 0, none⟩ = some (.slice (some ⟨g, o, none⟩) n c) ∧ wv.cell? ⟨rb, 1, none⟩ = some (.int .i64 (k : Int)) ∧ wv.cell? ⟨g, o + k, none⟩ = some (.string ⟨(V.ls[k]).toArray⟩)) := fun wv ho => ⟨(ho.cell (p := ⟨rb, 0, none⟩) (lt_of_some h.row) (fun h => h)).trans c0, (ho.cell (p := ⟨rb, 1, none⟩) (lt_of_some h.row) (fun h => h)).trans c1, (ho.cell (p := ⟨g, o + k, none⟩) (lt_of_some hg) (fun h => h)).trans hck⟩
  have HH := Vx.hid h
  have HLB : Hid (∀ g9 o9 n9 c9, V.vl = .slice (some ⟨g9, o9, none⟩) n9 c9 → g9 < w.heap.size) := fun g9 o9 n9 c9 e => by
    rw [hv] at e
    injection e with e _ _
    injection e with e
    injection e with e _ _
    have := lt_of_some hg
    omega
  have hne : ((k : Int) == (n : Int)) = false := by rw [beq_eq_false_iff_ne]; omega
  have hidx : 0 ≤ (k : Int) ∧ (k : Int) < (n : Int) := by omega
  have hwk : IntKind.i64.wrap ((k : Int) + 1) = (k : Int) + 1 := by rw [IntKind.wrap_i64]; omega
  generalize V.ls[k] = lk at HWO HC hck
  clear h hv hn hnc hg hj hasc hlen hm hgW hck hlt hll hk
  go_enter Tryz.func13, Tryz.ntmps13
  go_upto_region 1 with fail
  go_region
  go_upto_region 3 with fail
  have ho0 : Only (fun _ => False) w w.drew.drew := (Only.refl _ w).drew.drew
  have HS0 := Vx.hid (HC.out _ ho0)
  have HX0 := Vx.hid (HH.out.quiet ho0)
  have HO0 := Vx.hid ho0
  clear ho0 c0 c1
  refine Vx.wp_region_last (S := (fun wv => wv.cell? ⟨rb, 0, none⟩ = some (.slice (some ⟨g, o, none⟩) n c) ∧ wv.cell? ⟨rb, 1, none⟩ = some (.int .i64 (k : Int)) ∧ wv.cell? ⟨g, o + k, none⟩ = some (.string ⟨lk.toArray⟩))) 14 (by kernel_rfl) (by simp only [List.getElem?_toArray, List.getElem?_cons_zero, List.getElem?_cons_succ]; rfl) (by kernel_rfl) ?_
  simp only [Vx.offA, Vx.offO, List.setIfInBounds_toArray, List.set_cons_zero, List.set_cons_succ, List.size_toArray, List.length_cons, List.length_nil, Nat.zero_add, Nat.reduceAdd]
  refine wpAnyH_take (i := 0) (v := ?v3_0) (by simp only [List.getElem?_toArray, List.getElem?_cons_zero, List.getElem?_cons_succ]; rfl) (by kernel_rfl) (by kernel_rfl) (by kernel_rfl) (by exact fun _ _ _ h => h) (Or.inl ⟨by rfl, ?hy3_0⟩) HS0.out ?_
  case hy3_0 => (intro wq hSw; (try dsimp only at hSw); go_simp; try (with_reducible rfl))
  try simp only [Act.put, List.setIfInBounds_toArray, List.set_cons_zero, List.set_cons_succ]
  refine wpAnyH_take (i := 1) (v := ?v3_1) (by simp only [List.getElem?_toArray, List.getElem?_cons_zero, List.getElem?_cons_succ]; rfl) (by kernel_rfl) (by kernel_rfl) (by kernel_rfl) (by exact fun _ _ _ h => h) (Or.inl ⟨by rfl, ?hy3_1⟩) HS0.out ?_
  case hy3_1 => (intro wq hSw; (try dsimp only at hSw); go_simp; try (with_reducible rfl))
  try simp only [Act.put, List.setIfInBounds_toArray, List.set_cons_zero, List.set_cons_succ]
  refine wpAnyH_take (i := 2) (v := ?v3_2) (by simp only [List.getElem?_toArray, List.getElem?_cons_zero, List.getElem?_cons_succ]; rfl) (by kernel_rfl) (by kernel_rfl) (by kernel_rfl) (by exact fun _ _ _ h => h) (Or.inl ⟨by rfl, ?hy3_2⟩) HS0.out ?_
  case hy3_2 => (intro wq hSw; (try dsimp only at hSw); go_simp; try (with_reducible rfl))
  try simp only [Act.put, List.setIfInBounds_toArray, List.set_cons_zero, List.set_cons_succ]
  refine wpAnyH_take (i := 3) (v := ?v3_3) (by simp only [List.getElem?_toArray, List.getElem?_cons_zero, List.getElem?_cons_succ]; rfl) (by kernel_rfl) (by kernel_rfl) (by kernel_rfl) (by exact fun _ _ _ h => h) (Or.inl ⟨by rfl, ?hy3_3⟩) HS0.out ?_
  case hy3_3 => (intro wq hSw; (try dsimp only at hSw); go_simp; try (with_reducible rfl))
  try simp only [Act.put, List.setIfInBounds_toArray, List.set_cons_zero, List.set_cons_succ]
  refine wpAnyH_take (i := 4) (v := ?v3_4) (by simp only [List.getElem?_toArray, List.getElem?_cons_zero, List.getElem?_cons_succ]; rfl) (by kernel_rfl) (by kernel_rfl) (by kernel_rfl) (by exact fun _ _ _ h => h) (Or.inl ⟨by rfl, ?hy3_4⟩) HS0.out ?_
  case hy3_4 => (intro wq hSw; (try dsimp only at hSw); go_simp; try (with_reducible rfl))
  try simp only [Act.put, List.setIfInBounds_toArray, List.set_cons_zero, List.set_cons_succ]
  refine wpAnyH_take (i := 5) (v := ?v3_5) (by simp only [List.getElem?_toArray, List.getElem?_cons_zero, List.getElem?_cons_succ]; rfl) (by kernel_rfl) (by kernel_rfl) (by kernel_rfl) (by exact fun _ _ _ h => h) (Or.inl ⟨by rfl, ?hy3_5⟩) HS0.out ?_
  case hy3_5 => (intro wq hSw; (try dsimp only at hSw); go_simp; try (with_reducible rfl))
  try simp only [Act.put, List.setIfInBounds_toArray, List.set_cons_zero, List.set_cons_succ]
  refine wpAnyH_take (i := 6) (v := ?v3_6) (by simp only [List.getElem?_toArray, List.getElem?_cons_zero, List.getElem?_cons_succ]; rfl) (by kernel_rfl) (by kernel_rfl) (by kernel_rfl) (by exact fun _ _ _ h => h) (Or.inl ⟨by rfl, ?hy3_6⟩) HS0.out ?_
  case hy3_6 => (intro wq hSw; (try dsimp only at hSw); go_simp; try (with_reducible rfl))
  try simp only [Act.put, List.setIfInBounds_toArray, List.set_cons_zero, List.set_cons_succ]
  refine wpAnyH_take (i := 7) (v := ?v3_7) (by simp only [List.getElem?_toArray, List.getElem?_cons_zero, List.getElem?_cons_succ]; rfl) (by kernel_rfl) (by kernel_rfl) (by kernel_rfl) (by exact fun _ _ _ h => h) (Or.inl ⟨by rfl, ?hy3_7⟩) HS0.out ?_
  case hy3_7 => (intro wq hSw; (try dsimp only at hSw); go_simp; try (with_reducible rfl))
  try simp only [Act.put, List.setIfInBounds_toArray, List.set_cons_zero, List.set_cons_succ]
  refine wpAnyH_take (i := 8) (v := ?v3_8) (by simp only [List.getElem?_toArray, List.getElem?_cons_zero, List.getElem?_cons_succ]; rfl) (by kernel_rfl) (by kernel_rfl) (by kernel_rfl) (by exact fun _ _ _ h => h) (Or.inl ⟨by rfl, ?hy3_8⟩) HS0.out ?_
  case hy3_8 => (intro wq hSw; (try dsimp only at hSw); go_simp; try (with_reducible rfl))
  try simp only [Act.put, List.setIfInBounds_toArray, List.set_cons_zero, List.set_cons_succ]
  refine wpAnyH_take (i := 9) (v := ?v3_9) (by simp only [List.getElem?_toArray, List.getElem?_cons_zero, List.getElem?_cons_succ]; rfl) (by kernel_rfl) (by kernel_rfl) (by kernel_rfl) (by exact fun _ _ _ h => h) (Or.inl ⟨by rfl, ?hy3_9⟩) HS0.out ?_
  case hy3_9 => (intro wq hSw; (try dsimp only at hSw); go_simp; try (with_reducible rfl))
  try simp only [Act.put, List.setIfInBounds_toArray, List.set_cons_zero, List.set_cons_succ]
  refine wpAnyH_take (i := 10) (v := ?v3_10) (by simp only [List.getElem?_toArray, List.getElem?_cons_zero, List.getElem?_cons_succ]; rfl) (by kernel_rfl) (by kernel_rfl) (by kernel_rfl) (by exact fun _ _ _ h => h) (Or.inl ⟨by rfl, ?hy3_10⟩) HS0.out ?_
  case hy3_10 => (intro wq hSw; (try dsimp only at hSw); go_simp; try (with_reducible rfl))
  try simp only [Act.put, List.setIfInBounds_toArray, List.set_cons_zero, List.set_cons_succ]
  refine wpAnyH_ready (rs := [11]) (by kernel_rfl) (by simp) ?_
  refine AllReadyH.cons (by simp only [List.getElem?_toArray, List.getElem?_cons_zero, List.getElem?_cons_succ]; rfl) (fun K hK => ?_) AllReadyH.nil
  refine Vx.step_callx rfl 41 #[Operand.tmp 23] #[9] rfl #[.string ⟨lk.toArray⟩] (by first | rfl | simp [Act.eval, go_sem]) (by simp [go_sem]) (HWO.out _ HX0.out.be) ?_
  rintro e w3 ⟨v3, rfl, H3⟩
  have HS3 := Vx.hid (HC.out _ (HO0.out.trans H3.out.2.2))
  refine ⟨_, rfl, ?_⟩
  refine hK.out _ _ HS3.out (fun _ => ?_)
  clear hK K
  try simp only [Act.put, List.setIfInBounds_toArray, List.set_cons_zero, List.set_cons_succ]
  refine wpAnyH_take (i := 12) (v := ?v3_12) (by simp only [List.getElem?_toArray, List.getElem?_cons_zero, List.getElem?_cons_succ]; rfl) (by kernel_rfl) (by kernel_rfl) (by kernel_rfl) (by exact fun _ _ _ h => h) (Or.inl ⟨by rfl, ?hy3_12⟩) HS3.out ?_
  case hy3_12 => (intro wq hSw; (try dsimp only at hSw); go_simp; try (with_reducible rfl))
  try simp only [Act.put, List.setIfInBounds_toArray, List.set_cons_zero, List.set_cons_succ]
  refine wpAnyH_take (i := 13) (v := ?v3_13) (by simp only [List.getElem?_toArray, List.getElem?_cons_zero, List.getElem?_cons_succ]; rfl) (by kernel_rfl) (by kernel_rfl) (by kernel_rfl) (by exact fun _ _ _ h => h) (Or.inl ⟨by rfl, ?hy3_13⟩) HS3.out ?_
  case hy3_13 => (intro wq hSw; (try dsimp only at hSw); go_simp; try (with_reducible rfl))
  try simp only [Act.put, List.setIfInBounds_toArray, List.set_cons_zero, List.set_cons_succ]
  refine wpAnyH_take (i := 14) (v := undef) (by simp only [List.getElem?_toArray, List.getElem?_cons_zero, List.getElem?_cons_succ]; rfl) (by kernel_rfl) (by kernel_rfl) (by kernel_rfl) (by exact fun _ _ _ h => h) (Or.inr ⟨by rfl, rfl⟩) HS3.out ?_
  refine wpAnyH_done (by kernel_rfl) ?_ _
  simp only [Vx.upTo]
  obtain ⟨⟨p3, n3, c3, hv3, hn9⟩, hr9⟩ := H3.out
  clear hn9 hr9
  subst hv3
  have hx3 := HX0.out.quiet H3.out.2.2
  have c2 : ∃ z, w3.cell? ⟨rb, 2, none⟩ = some z := ⟨_, (cell_of_row _ _ 2 _ _ (0, 0) hx3.row).trans rfl⟩
  obtain ⟨z2, c2⟩ := c2
  have f2 := froz hx3.row 2
  have hgb : V.gb ≤ max V.gb w3.heap.size := Nat.le_max_left _ _
  have hx4 := (hx3.wide _ hgb).same _ _ H3.out.1 (fun g o n c e => Nat.lt_of_lt_of_le (H3.out.2.1 g o n c e) (Nat.le_max_right _ _))
  have hsz3 : w.heap.size ≤ w3.heap.size := Nat.le_trans HO0.out.size H3.out.2.2.size
  replace hx4 := hx4.regb w3.heap.size H3.out.2.1 (fun g9 o9 n9 c9 e => Nat.lt_of_lt_of_le (HLB.out g9 o9 n9 c9 e) hsz3)
  clear hsz3
  obtain ⟨w4, hw4⟩ : ∃ w4, w4 = w3.setCell ⟨rb, 2, none⟩ (.slice p3 n3 c3) := ⟨_, rfl⟩
  rw [← hw4] at hx4
  have hln : V.ln = (k : Int) := by
    have h9 : w.drew.drew.cell? ⟨rb, 1, none⟩ = some (.int .i64 V.ln) := (cell_of_row _ _ 1 _ _ (0, 0) HX0.out.row).trans rfl
    have h8 := HS0.out.2.1
    rw [h9] at h8
    injection h8 with h8
    injection h8
  have c1 : w4.cell? ⟨rb, 1, none⟩ = some (.int .i64 (k : Int)) := by
    have h9 : w4.cell? ⟨rb, 1, none⟩ = some (.int .i64 V.ln) := (cell_of_row _ _ 1 _ _ (0, 0) hx4.row).trans rfl
    rw [h9, hln]
  have f1 := froz hx4.row 1
  have HX5 := Vx.hid (hx4.line ((k : Int) + 1))
  have HGB : Hid (w3.heap.size ≤ w4.heap.size) := by show _ ≤ _; rw [hw4]; simp
  clear hx3 hx4 HX0 HS0 HS3 HC HWO hln H3
  go_upto_region 4 with fail
  rw [← hw4]
  clear hw4 c2 f2
  go_wp2_with fail
  go_ret
  refine ⟨rfl, _, _, HX5.out, rfl, rfl, by show (k : Int) + 1 = _; omega, rfl, ?_⟩
  have h9 : (w4.setCell ⟨rb, 1, none⟩ (.int .i64 ((k : Int) + 1))).heap.size = w4.heap.size := by simp
  rw [h9]
  exact HGB.out
end Go.Proofs.YtgacifbpjdakaaaGreatDoor

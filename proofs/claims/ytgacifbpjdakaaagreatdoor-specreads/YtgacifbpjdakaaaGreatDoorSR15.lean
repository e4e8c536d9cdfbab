/- Package spec's reader: a line's sort is found, and read (IndexFunc, say). -/
import Derived.Test.YtgacifbpjdakaaaGreatDoorSR14
namespace Go.Proofs.YtgacifbpjdakaaaGreatDoor
open Go.ChangeShapes Go.WideShapes Go.ChangeAt Go.RowKit
open Go.Vx
set_option linter.unusedVariables false
set_option linter.unusedSimpArgs false
variable {W w w2 : World} {rb : Nat} {V : Rv} {vw : Value} {ws : List (List UInt8)} {T : Tx} {x : List UInt8}

theorem say1_ok (s f : List UInt8) (fv : Value) (h1 : fv.oneCell' = true) (fb : Nat) (hf : w.heap[fb]? = some (.cells #[.string ⟨f.toArray⟩] 9 (0, 0))) (b : Bool) (hb : (s == f) = b) :
    Calls Tryz.prog 45 #[.agg #[.string ⟨s.toArray⟩, fv], .pointer (some ⟨fb, 0, none⟩)] w fun e w' => e = .returned (.bool b) ∧ Only (fun _ => False) w w' := by
  have hlt : fb < w.heap.size := lt_of_some hf
  have c0 : w.cell? ⟨fb, 0, none⟩ = some (.string ⟨f.toArray⟩) := (cell_of_row _ _ 0 _ _ (0, 0) hf).trans rfl
  have HO : Hid (Only (fun _ => False) w (w.alloc (.cells #[.string ⟨s.toArray⟩, fv] 103))) := (Only.refl _ w).alloc _
  clear hf
  go_enter Tryz.func45, Tryz.ntmps45
  go_wp2_with fail
  go_ret
  exact ⟨rfl, HO.out⟩
theorem SyF.one {j : Nat} {fv : Value} (h : SyF w j fv) : fv.oneCell' = true := by
  unfold SyF at h
  split at h <;> first | (subst h; rfl) | (obtain ⟨kb, rfl, _⟩ := h; rfl) | (obtain ⟨cb, kb, rfl, _⟩ := h; rfl)
/-- The sorts of lines, cell by cell. -/
theorem SyAt.cells {vs : Value} (h : SyAt w vs) : ∃ sb, vs = .slice (some ⟨sb, 0, none⟩) 19 19 ∧ ∀ k, k < 19 → w.cell? ⟨sb, k * 2, none⟩ = some (.string ⟨(sayN k).toArray⟩) ∧ ∃ fv, w.cell? ⟨sb, k * 2 + 1, none⟩ = some fv ∧ SyF w k fv := by
  obtain ⟨sb, cs, h1, h2, h3⟩ := h
  refine ⟨sb, h1, fun k hk => ?_⟩
  obtain ⟨h4, fv, h5, h6⟩ := h3 k hk
  refine ⟨?_, fv, ?_, h6⟩
  · rw [cell_of_row _ _ (k * 2) _ _ (0, 0) h2, Nat.mul_comm]; exact h4
  · rw [cell_of_row _ _ (k * 2 + 1) _ _ (0, 0) h2, Nat.mul_comm]; exact h5
set_option maxHeartbeats 2000000 in
theorem index_ok (vs : Value) (hs : SyAt w vs) (f : List UInt8) (fb : Nat) (hf : w.heap[fb]? = some (.cells #[.string ⟨f.toArray⟩] 9 (0, 0))) (j : Nat) (hj : j < 19) (hjf : sayN j = f) (hno : ∀ k, k < j → sayN k ≠ f) :
    Calls Tryz.prog 44 #[vs, .func (.func 45) #[] #[.pointer (some ⟨fb, 0, none⟩)]] w fun e w' => e = .returned (.int .i64 (j : Int)) ∧ Only (fun _ => False) w w' := by
  have HS := Vx.hid hs
  obtain ⟨sb, rfl, hc⟩ := hs.cells
  have HC := Vx.hid hc
  have HF := Vx.hid hf
  have HJ : Hid (sayN j = f ∧ ∀ k, k < j → sayN k ≠ f) := ⟨hjf, hno⟩
  clear hs hc hf hjf hno
  go_enter Tryz.func44, Tryz.ntmps44
  go_wp2_with fail
  go_loopw [5, 8] (fun _ d wr => ∃ k : Nat, d = .int .i64 (k : Int) ∧ k ≤ j ∧ Hid (Only (fun _ => False) w wr)) (fun _ d _ => 20 - (RowKit.intOf d).toNat)
  case atStart => exact ⟨0, rfl, by omega, Only.refl _ _⟩
  case round =>
    obtain ⟨k, rfl, hk, HW⟩ := hrel
    have h1 : (k : Int) < 19 := by omega
    have hidx : 0 ≤ (k : Int) ∧ (k : Int) < 19 := by omega
    have hwk : IntKind.i64.wrap ((k : Int) + 1) = (k : Int) + 1 := by rw [IntKind.wrap_i64]; omega
    obtain ⟨d0, fv, d1, d2⟩ := HC.out k (by omega)
    have hsb : sb < w.heap.size := World.block_lt_of_cell? _ _ d0
    have c0 := (HW.out.cell (p := ⟨sb, k * 2, none⟩) hsb (fun h => h)).trans d0
    have c1 := (HW.out.cell (p := ⟨sb, k * 2 + 1, none⟩) hsb (fun h => h)).trans d1
    have hone := d2.one
    have hfr := keepB HW.out HF.out (fun h => h)
    clear d0 d1 d2 hsb
    by_cases hkj : k = j
    · subst hkj
      have HSY := Vx.hid (say1_ok (sayN k) f fv hone fb hfr true (by rw [HJ.out.1]; simp))
      clear hfr
      generalize sayN k = sk at c0 HSY
      go_wp2_with fail
      refine HSY.out.mono ?_
      rintro e w3 ⟨rfl, h3⟩
      have H3 := Vx.hid (HW.out.trans h3)
      clear h3 c0 c1
      go_wp2_with fail
      go_ret
      exact ⟨rfl, H3.out⟩
    · have HSY := Vx.hid (say1_ok (sayN k) f fv hone fb hfr false (by rw [beq_eq_false_iff_ne]; exact HJ.out.2 k (by omega)))
      clear hfr
      generalize sayN k = sk at c0 HSY
      go_wp2_with fail
      refine HSY.out.mono ?_
      rintro e w3 ⟨rfl, h3⟩
      have H3 := Vx.hid (HW.out.trans h3)
      clear h3 c0 c1
      go_wp2_with fail
      go_roundw
      case rel => exact ⟨k + 1, by go_num, by omega, H3⟩
      case measure => simp only [RowKit.intOf]; omega
set_option maxHeartbeats 2000000 in
theorem say_none (h : RdAt W w rb V vw [] T) : Calls Tryz.prog 14 #[.pointer (some ⟨rb, 0, none⟩)] w fun e w' => e = .returned (.tuple #[]) ∧ Hid (RdX W rb V [] T w') := by
  have HM := Vx.hid (more_no h)
  have HH := Vx.hid h
  clear h
  go_enter Tryz.func14, Tryz.ntmps14
  go_wp2_with fail
  refine HM.out.mono ?_
  rintro e w1 ⟨rfl, hw9⟩
  have hw8 := hw9.symm
  clear hw9
  subst hw8
  go_wp2_with fail
  first | go_end0 | refine bodyPost_ret (results_none rfl _ _ _) rfl ?_
  exact ⟨rfl, V, _, HH.out, rfl, rfl, rfl, rfl⟩
set_option maxHeartbeats 2000000 in
theorem say_ok {T' : Tx} (h : RdAt W w rb V vw (x :: ws) T) (hl : ws.length ≤ 20000) (j : Nat) (hj : j < 19) (hjf : sayN j = x) (hno : ∀ k, k < j → sayN k ≠ x)
    (hrd : ∀ (wv : World) (vwv : Value) (fv : Value), RdAt W wv rb V vwv ws T → SyF wv j fv → V.gb ≤ wv.heap.size → ∃ n caps, fv = .func (.func n) #[] caps ∧ (∀ args w, (callFunc n args).run Tryz.prog w = .ok (.enter n args) w) ∧ Calls Tryz.prog n (#[.pointer (some ⟨rb, 0, none⟩)] ++ caps) wv fun e w' => e = .returned (.tuple #[]) ∧ Hid (RdX W rb V [] T' w')) (hgb : V.gb ≤ w.heap.size) :
    Calls Tryz.prog 14 #[.pointer (some ⟨rb, 0, none⟩)] w fun e w' => e = .returned (.tuple #[]) ∧ Hid (RdX W rb V [] T' w') := by
  have HM := Vx.hid (more_yes h)
  have HW0 := Vx.hid (word_ok h (by omega))
  have HRD := Vx.hid hrd
  have HJ : Hid (sayN j = x ∧ (∀ k, k < j → sayN k ≠ x) ∧ j < 19 ∧ V.gb ≤ w.heap.size) := ⟨hjf, hno, hj, hgb⟩
  have hji : ¬ (j : Int) < 0 := by omega
  have hidx : 0 ≤ (j : Int) ∧ (j : Int) < 19 := by omega
  clear h hl hrd hjf hno hgb hj
  go_enter Tryz.func14, Tryz.ntmps14
  go_wp2_with fail
  refine HM.out.mono ?_
  rintro e w1 ⟨rfl, hw9⟩
  have hw8 := hw9.symm
  clear hw9
  subst hw8
  clear HM
  go_wp2_with fail
  refine HW0.out.mono ?_
  rintro e w2 ⟨rfl, H2⟩
  clear HW0
  obtain ⟨ho2, vw2, hx2⟩ := H2.out
  obtain ⟨w3, hw3⟩ : ∃ w3, w3 = w2.alloc (.cells #[.string ⟨x.toArray⟩] 9) := ⟨_, rfl⟩
  obtain ⟨fb, hfb⟩ : ∃ fb, fb = w2.heap.size := ⟨_, rfl⟩
  have ho3 : Only (fun _ => False) w2 w3 := by rw [hw3]; exact (Only.refl _ _).alloc _
  have hx3 := hx2.quiet ho3
  have hf3 : w3.heap[fb]? = some (.cells #[.string ⟨x.toArray⟩] 9 (0, 0)) := by rw [hw3, hfb]; exact heap_alloc_last _ _
  have HX3 := Vx.hid hx3
  have HGB : Hid (V.gb ≤ w3.heap.size) := by have := HJ.out.2.2.2; have := ho2.size; have := ho3.size; show _ ≤ _; omega
  have HIX := Vx.hid (index_ok V.vs hx3.sy x fb hf3 j HJ.out.2.2.1 HJ.out.1 HJ.out.2.1)
  obtain ⟨sb, hvs, hcs⟩ := hx3.sy.cells
  have c3 : w3.cell? ⟨rb, 3, none⟩ = some (.slice (some ⟨sb, 0, none⟩) 19 19) := by
    have h9 := (cell_of_row _ _ 3 _ _ (0, 0) hx3.row).trans rfl
    exact h9.trans (congrArg some hvs)
  rw [hvs] at HIX
  have HCS := Vx.hid hcs
  have HRW : Hid (w3.cell? ⟨rb, 3, none⟩ = some (.slice (some ⟨sb, 0, none⟩) 19 19) ∧ rb < w3.heap.size) := ⟨c3, lt_of_some hx3.row⟩
  clear H2 hx2 ho3 hx3 hf3 hcs ho2 hvs
  have hmf : ∀ (fn : Fn) (first cap : Array Value) (w : World), (Instr.makeFunc fn first cap).run Tryz.prog w = .ok (.func fn first cap) w := fun _ _ _ _ => rfl
  go_upto_region 2 with fail
  rw [← hw3, ← hfb]
  clear hw3 hfb
  go_wp2_with fail
  refine HIX.out.mono ?_
  rintro e w4 ⟨rfl, ho4⟩
  clear HIX c3
  have c3 := (ho4.cell (p := ⟨rb, 3, none⟩) HRW.out.2 (fun h => h)).trans HRW.out.1
  obtain ⟨d0, fv, d1, d2⟩ := HCS.out j HJ.out.2.2.1
  have hsb : sb < w3.heap.size := World.block_lt_of_cell? _ _ d0
  have c1 := (ho4.cell (p := ⟨sb, j * 2 + 1, none⟩) hsb (fun h => h)).trans d1
  have hsy4 : SyF w4 j fv := d2.kept ho4 (fun _ _ _ h => h)
  obtain ⟨n, caps, rfl, heg, hcall⟩ := HRD.out w4 _ fv (HX3.out.quiet ho4) hsy4 (by have := HGB.out; have := ho4.size; omega)
  have HCA := Vx.hid hcall
  clear d0 d1 d2 hsb hsy4 hcall ho4 HCS HRD
  go_wp2_with fail
  refine HCA.out.mono ?_
  rintro e w5 ⟨rfl, H5⟩
  clear HCA heg c1 c3
  obtain ⟨V5, vw5, hx5, e1, e2, e3, e4⟩ := H5.out
  have HNO := Vx.hid (noMore_ok hx5)
  clear hx5 e1 e2 e3 e4
  go_wp2_with fail
  refine HNO.out.mono ?_
  rintro e w6 ⟨rfl, hw9⟩
  have hw8 := hw9.symm
  clear hw9
  subst hw8
  go_wp2_with fail
  first | go_end0 | refine bodyPost_ret (results_none rfl _ _ _) rfl ?_
  exact ⟨rfl, H5.out⟩
end Go.Proofs.YtgacifbpjdakaaaGreatDoor

import Derived.Test.YtbmchgjilkoplaaDoorCq8
/- CapsScripts: ownEntries. -/
namespace Go.Proofs.YtbmchgjilkoplaaDoor
open Go.ChangeShapes Go.WideShapes Go.ChangeAt Go.RowKit
open Go.Vx
set_option linter.unusedVariables false
variable {B : Nat → Prop} {w : World} {bb : Nat} {x r vs ve : Value} {ss ls : List Sh}

set_option maxRecDepth 100000 in
set_option maxHeartbeats 4000000 in
theorem ownEntries_ok {base : Nat} {l : Value} {ms : List En} (hk : Bks B w bb x r vs ss ve ls) (hsz : ls.length ≤ 1000000) (hl : OwnL enL w base 72 l ms) (hbase : base ≤ w.heap.size) (hm : ms.length ≤ 2000000) (hlB : ∀ k, l.ownBlock = some k → ¬ B k ∧ k ≠ bb) :
    Calls Tryd.prog 46 #[.pointer (some ⟨bb, 2, none⟩), l] w fun e w' => e = .returned (.tuple #[]) ∧ ∃ v2 s1 s2, Bks (fun k => B k ∨ l.ownBlock = some k ∨ (w.heap.size ≤ k ∧ k < w'.heap.size)) w' bb x r vs ss v2 (ls ++ [s1, s2]) ∧ Only (fun k => B k ∨ l.ownBlock = some k ∨ k = bb) w w' := by
  obtain ⟨pl, cl, rfl, _, _, hpl⟩ := hl.form
  obtain ⟨pv, cv, hv, _⟩ := hk.n.at
  obtain ⟨⟨_, _, _, d3, _, _, d6, _⟩, _⟩ := hk.cells
  have h5 := d6
  clear d3 d6
  obtain ⟨Ln, hL⟩ : ∃ Ln, Ln = ls.length := ⟨_, rfl⟩
  obtain ⟨N, hN⟩ : ∃ N, N = ms.length := ⟨_, rfl⟩
  have q0 : Int.tdiv (Ln : Int) 2 = ((Ln / 2 : Nat) : Int) := by rw [Int.tdiv_eq_ediv_of_nonneg (by omega)]; omega
  have q0' : (Ln : Int) / 2 = ((Ln / 2 : Nat) : Int) := by omega
  have q1 : IntKind.i64.wrap ((Ln / 2 : Nat) : Int) = ((Ln / 2 : Nat) : Int) := by rw [IntKind.wrap_i64]; omega
  obtain ⟨c, hc⟩ : ∃ c : Int, c = -77 - ((Ln / 2 : Nat) : Int) := ⟨_, rfl⟩
  have q2 : -77 - ((Ln / 2 : Nat) : Int) = c := hc.symm
  have q3 : IntKind.i64.wrap c = c := by rw [IntKind.wrap_i64]; omega
  rw [← hN] at hlB hpl ⊢
  have HLm : Hid (∀ k, (Value.slice pl N cl).ownBlock = some k → k < w.heap.size) := fun k hkk => by
    obtain ⟨_, ⟨cur, h⟩, _⟩ := hl.blk (k := k) (by rw [← hN]; exact hkk)
    exact lt_of_some h
  have H0 : Hid (OmA enL 72 (enM c) w w.heap.size base (.slice pl N cl) N 0 (w.alloc (.cells #[.int .i64 c, .int .i64 0, .int .i64 0, .int .i64 0, .int .i64 0, .int .u32 0, .int .u32 0, .int .i64 0, .int .i64 0, .int .u32 0, .int .i64 0, .int .i64 0] 72))) := ⟨⟨ms, by rw [hN]; exact hl.kept ((Only.refl _ _).alloc _) (fun _ _ h => h), hN.symm, fun k hk => by omega⟩, heap_alloc_last _ _, (Only.refl _ _).alloc _⟩
  have HLB := Vx.hid hlB
  have HPL := Vx.hid hpl
  have HCC : Hid (c = -77 - ((ls.length / 2 : Nat) : Int)) := by show c = _; rw [hc, hL]
  have HK := Vx.hid hk
  have HBS := Vx.hid hbase
  have HSZ := Vx.hid hsz
  have HV : Hid (ve = .slice pv Ln cv) := by show ve = _; rw [hv, hL]
  have hNm : N ≤ 2000000 := by omega
  have hNi : (N : Int) ≤ 2000000 := by omega
  rw [hv, ← hL] at h5
  obtain ⟨mb, hmb⟩ : ∃ mb, mb = w.heap.size := ⟨_, rfl⟩
  have HMB := Vx.hid hmb
  clear hc
  generalize Ln / 2 = q at q0 q0' q1 q2
  clear hk hsz hl hbase hm hlB hpl hN hv hL
  go_enter Tryd.func46, Tryd.ntmps46
  go_wp2_with fail
  rw [← hmb] at H0 ⊢
  obtain ⟨w0, hw0⟩ : ∃ w0, w0 = w.alloc (.cells #[.int .i64 c, .int .i64 0, .int .i64 0, .int .i64 0, .int .i64 0, .int .u32 0, .int .u32 0, .int .i64 0, .int .i64 0, .int .u32 0, .int .i64 0, .int .i64 0] 72) := ⟨_, rfl⟩
  rw [← hw0] at H0 ⊢
  clear hw0 hmb h5
  go_loopw [5] (fun d wr => ∃ i : Nat, d = .int .i64 (i : Int) ∧ i ≤ N ∧ Hid (OmA enL 72 (enM c) w mb base (.slice pl N cl) N i wr)) (fun d _ => N - (intOf d).toNat)
  case atStart => exact ⟨0, rfl, by omega, H0⟩
  case round =>
    clear H0
    obtain ⟨i, rfl, hi, HR⟩ := hrel
    by_cases hlt : i < N
    · have d1 : (i : Int) < (N : Int) := by omega
      have hidx : 0 ≤ (i : Int) ∧ (i : Int) < (N : Int) := by omega
      have v1 : IntKind.i64.wrap ((i : Int) + 1) = (i : Int) + 1 := by rw [IntKind.wrap_i64]; omega
      obtain ⟨g, rfl, _, _⟩ := HPL.out (by omega)
      obtain ⟨ms2, hms, hml, hmk⟩ := HR.out.ex
      obtain ⟨y0, c0⟩ : ∃ y, wr.cell? ⟨g, i * 12, none⟩ = some y := ⟨_, (hms.cell i 0 (by omega) (by decide)).trans rfl⟩
      obtain ⟨y1, c1⟩ : ∃ y, wr.cell? ⟨g, i * 12 + 1, none⟩ = some y := ⟨_, (hms.cell i 1 (by omega) (by decide)).trans rfl⟩
      obtain ⟨y2, c2⟩ : ∃ y, wr.cell? ⟨g, i * 12 + 2, none⟩ = some y := ⟨_, (hms.cell i 2 (by omega) (by decide)).trans rfl⟩
      obtain ⟨y3, c3⟩ : ∃ y, wr.cell? ⟨g, i * 12 + 3, none⟩ = some y := ⟨_, (hms.cell i 3 (by omega) (by decide)).trans rfl⟩
      obtain ⟨y4, c4⟩ : ∃ y, wr.cell? ⟨g, i * 12 + 4, none⟩ = some y := ⟨_, (hms.cell i 4 (by omega) (by decide)).trans rfl⟩
      obtain ⟨y5, c5⟩ : ∃ y, wr.cell? ⟨g, i * 12 + 5, none⟩ = some y := ⟨_, (hms.cell i 5 (by omega) (by decide)).trans rfl⟩
      obtain ⟨y6, c6⟩ : ∃ y, wr.cell? ⟨g, i * 12 + 6, none⟩ = some y := ⟨_, (hms.cell i 6 (by omega) (by decide)).trans rfl⟩
      obtain ⟨y7, c7⟩ : ∃ y, wr.cell? ⟨g, i * 12 + 7, none⟩ = some y := ⟨_, (hms.cell i 7 (by omega) (by decide)).trans rfl⟩
      obtain ⟨y8, c8⟩ : ∃ y, wr.cell? ⟨g, i * 12 + 8, none⟩ = some y := ⟨_, (hms.cell i 8 (by omega) (by decide)).trans rfl⟩
      obtain ⟨y9, c9⟩ : ∃ y, wr.cell? ⟨g, i * 12 + 9, none⟩ = some y := ⟨_, (hms.cell i 9 (by omega) (by decide)).trans rfl⟩
      obtain ⟨y10, c10⟩ : ∃ y, wr.cell? ⟨g, i * 12 + 10, none⟩ = some y := ⟨_, (hms.cell i 10 (by omega) (by decide)).trans rfl⟩
      obtain ⟨y11, c11⟩ : ∃ y, wr.cell? ⟨g, i * 12 + 11, none⟩ = some y := ⟨_, (hms.cell i 11 (by omega) (by decide)).trans rfl⟩
      have f0 := hms.fz (i * 12)
      have f1 := hms.fz (i * 12 + 1)
      have f2 := hms.fz (i * 12 + 2)
      have f3 := hms.fz (i * 12 + 3)
      have f4 := hms.fz (i * 12 + 4)
      have f5 := hms.fz (i * 12 + 5)
      have f6 := hms.fz (i * 12 + 6)
      have f7 := hms.fz (i * 12 + 7)
      have f8 := hms.fz (i * 12 + 8)
      have f9 := hms.fz (i * 12 + 9)
      have f10 := hms.fz (i * 12 + 10)
      have f11 := hms.fz (i * 12 + 11)
      have m0 : wr.cell? ⟨mb, 0, none⟩ = some (.int .i64 c) := (cell_of_row _ _ 0 _ _ (0, 0) HR.out.mk').trans rfl
      have m1 : wr.cell? ⟨mb, 1, none⟩ = some (.int .i64 0) := (cell_of_row _ _ 1 _ _ (0, 0) HR.out.mk').trans rfl
      have m2 : wr.cell? ⟨mb, 2, none⟩ = some (.int .i64 0) := (cell_of_row _ _ 2 _ _ (0, 0) HR.out.mk').trans rfl
      have m3 : wr.cell? ⟨mb, 3, none⟩ = some (.int .i64 0) := (cell_of_row _ _ 3 _ _ (0, 0) HR.out.mk').trans rfl
      have m4 : wr.cell? ⟨mb, 4, none⟩ = some (.int .i64 0) := (cell_of_row _ _ 4 _ _ (0, 0) HR.out.mk').trans rfl
      have m5 : wr.cell? ⟨mb, 5, none⟩ = some (.int .u32 0) := (cell_of_row _ _ 5 _ _ (0, 0) HR.out.mk').trans rfl
      have m6 : wr.cell? ⟨mb, 6, none⟩ = some (.int .u32 0) := (cell_of_row _ _ 6 _ _ (0, 0) HR.out.mk').trans rfl
      have m7 : wr.cell? ⟨mb, 7, none⟩ = some (.int .i64 0) := (cell_of_row _ _ 7 _ _ (0, 0) HR.out.mk').trans rfl
      have m8 : wr.cell? ⟨mb, 8, none⟩ = some (.int .i64 0) := (cell_of_row _ _ 8 _ _ (0, 0) HR.out.mk').trans rfl
      have m9 : wr.cell? ⟨mb, 9, none⟩ = some (.int .u32 0) := (cell_of_row _ _ 9 _ _ (0, 0) HR.out.mk').trans rfl
      have m10 : wr.cell? ⟨mb, 10, none⟩ = some (.int .i64 0) := (cell_of_row _ _ 10 _ _ (0, 0) HR.out.mk').trans rfl
      have m11 : wr.cell? ⟨mb, 11, none⟩ = some (.int .i64 0) := (cell_of_row _ _ 11 _ _ (0, 0) HR.out.mk').trans rfl
      have HR2 : Hid (OmA enL 72 (enM c) w mb base (.slice (some ⟨g, 0, none⟩) N cl) N (i + 1) ((((((((((((wr.setCell ⟨g, i * 12, none⟩ (.int .i64 c)).setCell ⟨g, i * 12 + 1, none⟩ (.int .i64 0)).setCell ⟨g, i * 12 + 2, none⟩ (.int .i64 0)).setCell ⟨g, i * 12 + 3, none⟩ (.int .i64 0)).setCell ⟨g, i * 12 + 4, none⟩ (.int .i64 0)).setCell ⟨g, i * 12 + 5, none⟩ (.int .u32 0)).setCell ⟨g, i * 12 + 6, none⟩ (.int .u32 0)).setCell ⟨g, i * 12 + 7, none⟩ (.int .i64 0)).setCell ⟨g, i * 12 + 8, none⟩ (.int .i64 0)).setCell ⟨g, i * 12 + 9, none⟩ (.int .u32 0)).setCell ⟨g, i * 12 + 10, none⟩ (.int .i64 0)).setCell ⟨g, i * 12 + 11, none⟩ (.int .i64 0))) := by
        obtain ⟨s1, s2⟩ := own_ent hms hml.symm i (by omega) (enM c)
        refine ⟨⟨ms2.set i (enM c), s1, by simp [hml], fun k hk => ?_⟩, ?_, ?_⟩
        · rw [List.getElem?_set]
          by_cases hki : i = k
          · rw [if_pos hki, if_pos (by omega)]
          · rw [if_neg hki]; exact hmk k (by omega)
        · exact (s2.block mb (lt_of_some HR.out.mk') (fun e => by have := HLm.out g rfl; have := HMB.out; omega)).trans HR.out.mk'
        · exact HR.out.on.trans (s2.mono (fun k _ hk => by rw [hk]; rfl))
      clear hms hml hmk hlt HR
      go_wp2_with fail
      go_roundw
      case rel => exact ⟨i + 1, by go_num, by omega, HR2⟩
      case measure => simp only [intOf]; omega
    · obtain rfl : i = N := by omega
      have d1 : ¬ (i : Int) < (i : Int) := by omega
      have HB0 := Vx.hid (HR.out.fin (by decide))
      clear hlt hi HR
      go_wp2_with fail
      go_loopw [6, 7] (fun y d wr => ∃ j : Nat, d = .int .i64 (j : Int) ∧ j ≤ 33 ∧ Hid (OmB enL 72 (enM c) w mb base (.slice pl i cl) i j y wr)) (fun _ d _ => 33 - (intOf d).toNat)
      case atStart => exact ⟨0, rfl, by omega, HB0⟩
      case round =>
        clear HB0
        obtain ⟨j, rfl, hj, HR⟩ := hrel
        by_cases hj2 : j < 33
        · have d2 : (j : Int) < 33 := by omega
          have v1 : IntKind.i64.wrap ((j : Int) + 1) = (j : Int) + 1 := by rw [IntKind.wrap_i64]; omega
          have m0 : wr.cell? ⟨mb, 0, none⟩ = some (.int .i64 c) := (cell_of_row _ _ 0 _ _ (0, 0) HR.out.mk').trans rfl
          have m1 : wr.cell? ⟨mb, 1, none⟩ = some (.int .i64 0) := (cell_of_row _ _ 1 _ _ (0, 0) HR.out.mk').trans rfl
          have m2 : wr.cell? ⟨mb, 2, none⟩ = some (.int .i64 0) := (cell_of_row _ _ 2 _ _ (0, 0) HR.out.mk').trans rfl
          have m3 : wr.cell? ⟨mb, 3, none⟩ = some (.int .i64 0) := (cell_of_row _ _ 3 _ _ (0, 0) HR.out.mk').trans rfl
          have m4 : wr.cell? ⟨mb, 4, none⟩ = some (.int .i64 0) := (cell_of_row _ _ 4 _ _ (0, 0) HR.out.mk').trans rfl
          have m5 : wr.cell? ⟨mb, 5, none⟩ = some (.int .u32 0) := (cell_of_row _ _ 5 _ _ (0, 0) HR.out.mk').trans rfl
          have m6 : wr.cell? ⟨mb, 6, none⟩ = some (.int .u32 0) := (cell_of_row _ _ 6 _ _ (0, 0) HR.out.mk').trans rfl
          have m7 : wr.cell? ⟨mb, 7, none⟩ = some (.int .i64 0) := (cell_of_row _ _ 7 _ _ (0, 0) HR.out.mk').trans rfl
          have m8 : wr.cell? ⟨mb, 8, none⟩ = some (.int .i64 0) := (cell_of_row _ _ 8 _ _ (0, 0) HR.out.mk').trans rfl
          have m9 : wr.cell? ⟨mb, 9, none⟩ = some (.int .u32 0) := (cell_of_row _ _ 9 _ _ (0, 0) HR.out.mk').trans rfl
          have m10 : wr.cell? ⟨mb, 10, none⟩ = some (.int .i64 0) := (cell_of_row _ _ 10 _ _ (0, 0) HR.out.mk').trans rfl
          have m11 : wr.cell? ⟨mb, 11, none⟩ = some (.int .i64 0) := (cell_of_row _ _ 11 _ _ (0, 0) HR.out.mk').trans rfl
          have HLE : Hid ((List.replicate (i + j) (enM c)).length + 1 ≤ 10000000) := by show _ ≤ _; simp; omega
          have HBW : Hid (base ≤ wr.heap.size) := Nat.le_trans HBS.out HR.out.on.size
          clear hj2
          go_wp2_with (at_builtin; refine wpList_append_one enK _ rfl _ _ rfl base _ _ rfl HR.out.own (enM c) _ _ rfl rfl rfl HLE.out HBW.out (fun x2 w4 h1 h2 h3 => ?_); have HR2 := Vx.hid (HR.out.push (by decide) h1 h2 h3 (fun k hk => by have := HLm.out k hk; have := HMB.out; omega) (by have := HMB.out; omega)); clear h1 h2 h3)
          go_roundw
          case rel => exact ⟨j + 1, by go_num, by omega, HR2⟩
          case measure => simp only [intOf]; omega
        · obtain rfl : j = 33 := by omega
          have HKR : Hid (Bks B wr bb x r vs ss ve ls) := HK.out.only HR.out.on (fun k hb hs => (HLB.out k hs).1 hb) (fun hs => (HLB.out bb hs).2 rfl)
          obtain ⟨⟨_, _, _, d3, _, _, d6, _⟩, hfz⟩ := HKR.out.cells
          have h5 := d6
          rw [HV.out] at h5
          have HOW : Hid (OwnL shL wr 0 28 (.slice pv Ln cv) ls) := by have := HKR.out.n.own; rw [HV.out] at this; exact this
          obtain ⟨px, cx, hx, _⟩ := HR.out.own.form
          rw [List.length_replicate] at hx
          subst hx
          have HFZ := Vx.hid hfz
          have HBB := Vx.hid HKR.out.bl
          have HVB : Hid (∀ k, (Value.slice pv Ln cv).ownBlock = some k → k ≠ bb) := fun k hkk e => by
            have h8 := HKR.out.n.inB k (by rw [HV.out]; exact hkk)
            rw [e] at h8
            exact HKR.out.nb h8
          clear hj hj2 hfz d3 d6
          go_wp2_with (at_builtin; refine append_two seK _ rfl _ _ rfl _ ls rfl HOW.out (pl, i, cl) (px, i + 33, cx) _ _ rfl rfl rfl rfl HSZ.out (fun v2 w4 h1 h2 h3 => ?_); obtain ⟨p2, c2, hv2, _⟩ := h1.form; subst hv2; have hsm := h2.block bb (lt_of_some HBB.out) (fun hv => HVB.out bb hv rfl); have hc5 := (World.cell?_of_block (a := ⟨bb, 6, none⟩) hsm).trans h5; have hf5 := (World.frozen?_of_block (a := ⟨bb, 6, none⟩) hsm).trans (HFZ.out 6); have H1 := Vx.hid h1; have H2 := Vx.hid h2; have H3 := Vx.hid h3; clear h1 h2 h3 hsm)
          all_goals
            go_end0
            refine ⟨rfl, ?_⟩
            have hws : ∀ u : Value, (w4.setCell ⟨bb, 6, none⟩ u).heap.size = w4.heap.size := fun u => by simp [World.setCell]
            rw [hws]
            obtain ⟨s1, s2, hb, hon⟩ := HK.out.pushE HR.out rfl rfl hNm HCC.out HLB.out (by have := HMB.out; omega) H1.out (by rw [HV.out]; exact H2.out) (by rw [HV.out]; exact H3.out)
            have hln : (ls ++ [(pl, i, cl), (px, i + 33, cx)]).length = ls.length + 2 := by simp
            rw [hln] at hb hon
            exact ⟨_, s1, s2, hb, hon⟩
end Go.Proofs.YtbmchgjilkoplaaDoor

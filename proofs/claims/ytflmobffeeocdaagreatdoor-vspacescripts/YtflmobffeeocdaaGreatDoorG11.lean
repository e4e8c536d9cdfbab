/- Walks of the scripts: ownMaps' walk. -/
import Derived.Test.YtflmobffeeocdaaGreatDoorG10
namespace Go.Proofs.YtflmobffeeocdaaGreatDoor
open Go.ChangeShapes Go.WideShapes Go.ChangeAt Go.RowKit
open Go.Vx

theorem sb_same {B : Nat → Prop} {wr w4 : World} {sb g : Nat} {v : Value} {ss : List Value} (hk : BkM B wr sb v ss) (hsB : ¬ B sb) (hg : (v.ownBlock = some g ∧ Only (fun k => k = g) wr w4) ∨ (wr.heap.size < g ∧ Only (fun _ => False) wr w4)) : w4.heap[sb]? = wr.heap[sb]? := by
  have hl : sb < wr.heap.size := World.block_lt_of_cell? wr ⟨sb, 68, none⟩ hk.c0
  rcases hg with ⟨hv, ho⟩ | ⟨_, ho⟩
  · exact ho.block sb hl (fun e => hsB (by rw [e]; exact hk.inB g hv))
  · exact ho.block sb hl (fun h => h)
set_option maxRecDepth 100000 in
set_option maxHeartbeats 4000000 in
theorem ownMaps_ok {B : Nat → Prop} {w : World} {sb : Nat} {v : Value} {ss : List Value} {base : Nat} {l : Value} {ms : List (Int × Int × Int)} (hk : BkM B w sb v ss) (hsz : ss.length ≤ 1000000) (hl : OwnM w base 104 l ms) (hbase : base ≤ w.heap.size) (hm : ms.length ≤ 2000000)
    (hlB : ∀ k, l.ownBlock = some k → ¬ B k ∧ k ≠ sb) (hsB : ¬ B sb) (hfz : w.frozen? ⟨sb, 70, none⟩ = false) :
    Calls Tryz.prog 50 #[.pointer (some ⟨sb, 68, none⟩), l] w fun e w' => e = .returned (.tuple #[]) ∧ OmR B w sb v l ss w' := by
  obtain ⟨pl, cl, rfl, _, _, hpl⟩ := hl.form
  obtain ⟨pv, cv, hv, _⟩ := hk.form
  have h5 := hk.c2
  have hsl : sb < w.heap.size := World.block_lt_of_cell? w ⟨sb, 68, none⟩ hk.c0
  obtain ⟨L, hL⟩ : ∃ L, L = ss.length := ⟨_, rfl⟩
  obtain ⟨N, hN⟩ : ∃ N, N = ms.length := ⟨_, rfl⟩
  have q0 : Int.tdiv (L : Int) 2 = ((L / 2 : Nat) : Int) := by rw [Int.tdiv_eq_ediv_of_nonneg (by omega)]; omega
  have q0' : (L : Int) / 2 = ((L / 2 : Nat) : Int) := by omega
  have q1 : IntKind.i64.wrap ((L / 2 : Nat) : Int) = ((L / 2 : Nat) : Int) := by rw [IntKind.wrap_i64]; omega
  obtain ⟨c, hc⟩ : ∃ c : Int, c = -77 - ((L / 2 : Nat) : Int) := ⟨_, rfl⟩
  have q2 : -77 - ((L / 2 : Nat) : Int) = c := hc.symm
  have q3 : IntKind.i64.wrap c = c := by rw [IntKind.wrap_i64]; omega
  have HLm : Hid (∀ k, (Value.slice pl N cl).ownBlock = some k → k < w.heap.size) := by show ∀ k, _; rw [hN]; exact fun k hk => (World.ownsRow.lt hl k hk).2
  have H0 : Hid (OmA w w.heap.size base c (.slice pl N cl) N 0 (w.alloc (.cells #[.int .u32 0, .int .i64 c, .int .i64 0] 104))) := ⟨⟨ms, by rw [hN]; exact hl.quiet ((Only.refl _ _).alloc _), hN.symm, fun k hk => by omega⟩, heap_alloc_last _ _, (Only.refl _ _).alloc _⟩
  have HLB : Hid (∀ k, (Value.slice pl N cl).ownBlock = some k → ¬ B k ∧ k ≠ sb) := by show ∀ k, _; rw [hN]; exact hlB
  have HPL : Hid (0 < N → ∃ g, pl = some ⟨g, 0, none⟩ ∧ base ≤ g ∧ g < w.heap.size) := by show 0 < N → _; rw [hN]; exact hpl
  have HC0 := Vx.hid hc
  have HCC : Hid (c = -77 - ((ss.length / 2 : Nat) : Int)) := by show c = _; rw [hc, hL]
  have HK := Vx.hid hk
  have HSB := Vx.hid hsB
  have HSL := Vx.hid hsl
  have HFZ := Vx.hid hfz
  have HBS := Vx.hid hbase
  have HSZ := Vx.hid hsz
  have HLL := Vx.hid hL
  have HV := Vx.hid hv
  have hNm : N ≤ 2000000 := by omega
  have hNi : (N : Int) ≤ 2000000 := by omega
  rw [hv, ← hL] at h5
  rw [← hN]
  obtain ⟨mb, hmb⟩ : ∃ mb, mb = w.heap.size := ⟨_, rfl⟩
  have HMB := Vx.hid hmb
  clear hc HC0
  generalize L / 2 = q at q0 q0' q1 q2
  clear hk hsz hl hbase hm hlB hsB hfz hpl hN hsl hv hL
  go_enter Tryz.func50, Tryz.ntmps50
  go_wp2_with fail
  rw [← hmb] at H0 ⊢
  obtain ⟨w0, hw0⟩ : ∃ w0, w0 = w.alloc (.cells #[.int .u32 0, .int .i64 c, .int .i64 0] 104) := ⟨_, rfl⟩
  rw [← hw0] at H0 ⊢
  clear hw0 hmb h5
  go_loopw [5] (fun d wr => ∃ i : Nat, d = .int .i64 (i : Int) ∧ i ≤ N ∧ Hid (OmA w mb base c (.slice pl N cl) N i wr)) (fun d _ => N - (intOf d).toNat)
  case atStart => exact ⟨0, rfl, by omega, H0⟩
  case round =>
    clear H0
    obtain ⟨i, rfl, hi, HR⟩ := hrel
    by_cases hlt : i < N
    · have d1 : (i : Int) < (N : Int) := by omega
      have hidx : 0 ≤ (i : Int) ∧ (i : Int) < (N : Int) := by omega
      have v1 : IntKind.i64.wrap ((i : Int) + 1) = (i : Int) + 1 := by rw [IntKind.wrap_i64]; omega
      obtain ⟨g, rfl, _, _⟩ := HPL.out (by omega)
      obtain ⟨⟨y0, c0⟩, ⟨y1, c1⟩, ⟨y2, c2⟩, hfz, m0, m1, m2, hR⟩ := HR.out.store hlt (by have := HLm.out g rfl; have := HMB.out; omega)
      have HR2 := Vx.hid hR
      have f0 := hfz (i * 3)
      have f1 := hfz (i * 3 + 1)
      have f2 := hfz (i * 3 + 2)
      clear hfz hR hlt HR
      go_wp2_with fail
      go_roundw
      case rel => exact ⟨i + 1, by go_num, by omega, HR2⟩
      case measure => simp only [intOf]; omega
    · obtain rfl : i = N := by omega
      have d1 : ¬ (i : Int) < (i : Int) := by omega
      have HB0 := Vx.hid HR.out.fin
      clear hlt hi HR
      go_wp2_with fail
      go_loopw [6, 7] (fun x d wr => ∃ j : Nat, d = .int .i64 (j : Int) ∧ j ≤ 33 ∧ Hid (OmB w mb base c (.slice pl i cl) i j x wr)) (fun _ d _ => 33 - (intOf d).toNat)
      case atStart => exact ⟨0, rfl, by omega, HB0⟩
      case round =>
        clear HB0
        obtain ⟨j, rfl, hj, HR⟩ := hrel
        by_cases hj2 : j < 33
        · have d2 : (j : Int) < 33 := by omega
          have v1 : IntKind.i64.wrap ((j : Int) + 1) = (j : Int) + 1 := by rw [IntKind.wrap_i64]; omega
          have m0 : wr.cell? ⟨mb, 0, none⟩ = some (.int .u32 0) := by rw [cell_of_row _ _ 0 _ _ (0, 0) HR.out.mk']; rfl
          have m1 : wr.cell? ⟨mb, 1, none⟩ = some (.int .i64 c) := by rw [cell_of_row _ _ 1 _ _ (0, 0) HR.out.mk']; rfl
          have m2 : wr.cell? ⟨mb, 2, none⟩ = some (.int .i64 0) := by rw [cell_of_row _ _ 2 _ _ (0, 0) HR.out.mk']; rfl
          have HLE : Hid ((List.replicate (i + j) ((0 : Int), c, (0 : Int))).length ≤ 3000000) := by show _ ≤ _; simp; omega
          have HBW : Hid (base ≤ wr.heap.size) := Nat.le_trans HBS.out HR.out.on.size
          have HMW : Hid (mb < wr.heap.size) := lt_of_some HR.out.mk'
          clear hj2
          go_wp2_with (at_builtin; refine append_mp2 _ rfl _ _ rfl base _ _ rfl HR.out.own ((0 : Int), c, (0 : Int)) rfl HLE.out HBW.out (fun g cap w4 h1 h2 => ?_))
          have HR2 : Hid (OmB w mb base c (.slice pl i cl) i (j + 1) (.slice (some ⟨g, 0, none⟩) (i + j + 1) cap) w4) := by
            rw [List.length_replicate] at h1
            exact HR.out.push HMW.out h1 h2 (fun k hk => by have := HLm.out k hk; have := HMB.out; omega) (by have := HMB.out; omega)
          clear h1 h2
          go_wp2_with fail
          go_roundw
          case rel => exact ⟨j + 1, by go_num, by omega, by have := HR2.out; first | exact this | (rw [List.length_replicate]; exact this)⟩
          case measure => simp only [intOf]; omega
        · obtain rfl : j = 33 := by omega
          have HKR : Hid (BkM B wr sb v ss) := HK.out.only HR.out.on (fun k hb hs => (HLB.out k hs).1 hb) (fun hs => (HLB.out sb hs).2 rfl)
          have h5 := HKR.out.c2
          rw [HV.out, ← HLL.out] at h5
          have HOW : Hid (wr.ownsRow 0 86 1 (.slice pv L cv) ss.length ss) := by have := HKR.out.own; rw [HV.out, ← HLL.out] at this; rw [← HLL.out]; exact this
          obtain ⟨px, cx, hx, _⟩ := HR.out.own.form
          rw [List.length_replicate] at hx
          subst hx
          have HKV : Hid (BkM B wr sb (.slice pv L cv) ss) := by show BkM _ _ _ _ _; have := HKR.out; rw [HV.out, ← HLL.out] at this; exact this
          have HVV : Hid (v = .slice pv L cv) := by show v = _; rw [HV.out, HLL.out]
          have HFR : Hid (wr.frozen? ⟨sb, 70, none⟩ = false) := by
            show _ = _
            rw [World.frozen?_of_block (a := ⟨sb, 70, none⟩) (HR.out.on.block sb HSL.out (fun hs => (HLB.out sb hs).2 rfl))]
            exact HFZ.out
          clear hj hj2
          go_wp2_with (at_builtin; refine append_ss _ rfl _ _ rfl _ ss rfl HOW.out _ _ rfl rfl rfl HSZ.out (fun g cap w4 h1 h2 => ?_); have hsm := sb_same HKV.out HSB.out h2; have hc5 := (World.cell?_of_block (a := ⟨sb, 70, none⟩) hsm).trans HKV.out.c2; have hf5 := (World.frozen?_of_block (a := ⟨sb, 70, none⟩) hsm).trans HFR.out; have H1 := Vx.hid h1; have H2 := Vx.hid h2; clear h1 h2 hsm)
          all_goals
            go_end0
            refine ⟨rfl, ?_⟩
            rw [HVV.out]
            exact HR.out.fin (by omega) HKV.out HCC.out H1.out H2.out HLB.out HSB.out HSL.out (by have := HMB.out; omega)
end Go.Proofs.YtflmobffeeocdaaGreatDoor

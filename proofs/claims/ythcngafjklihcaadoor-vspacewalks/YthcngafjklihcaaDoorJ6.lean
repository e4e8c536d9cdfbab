/- VspaceWalks' walk. -/
import Derived.Test.YthcngafjklihcaaDoorJ5
namespace Go.Proofs.YthcngafjklihcaaDoor
open Go.ChangeShapes Go.WideShapes Go.ChangeAt Go.RowKit
open Go.Vx

set_option maxRecDepth 100000 in
set_option maxHeartbeats 4000000 in
theorem vspaceWalks_call (W : World) (hus : UsesAt W) (pa : Option Addr) (len cap : Nat) (zs : List (Int × Int × Int)) (hlen : zs.length = len) (hlc : len ≤ cap) (hcm : cap ≤ maxLen) (hp : LaAt W pa zs) (hz : ∀ z ∈ zs, in64 z.1 ∧ in64 z.2.1 ∧ in64 z.2.2) (off : Int) (hoff : in64 off) :
    Calls Tryd.prog 6 #[.slice pa len cap, .int .i64 off] W fun e w' => e = .returned (.bool true) ∧ Below W.heap.size W w' := by
  have HLD := Vx.hid (laid_ok W pa len cap zs hlen hlc hcm hp hz)
  have HUS := Vx.hid hus
  have HPK := Vx.hid (fun wv => pick_any 4096 (by decide) (by decide) off hoff.1 hoff.2 wv)
  have ho : pickN off 4096 < 4096 := Nat.mod_lt _ (by decide)
  generalize pickN off 4096 = o at HPK ho
  clear hus hlen hlc hcm hp hz hoff
  go_enter Tryd.func6, Tryd.ntmps6
  go_wp2_with fail
  refine HLD.out.mono ?_
  rintro e w1 ⟨bm, H, rfl, hm, hok, hb⟩
  have HR0 := Vx.hid (VwR.start hm hok hb HUS.out)
  have hsz : (hvL H).length = 36 := length_hvL H
  have hsc : (storeCells ⟨w1.heap.size, 0, none⟩ (hvL H) 0).run Tryd.prog (w1.alloc (.cells #[.int .i64 0, .int .i64 0, .int .i64 0, .int .i64 0, .int .i64 0, .int .i64 0, .int .i64 0, .int .i64 0, .int .i64 0, .int .i64 0, .int .i64 0, .int .i64 0, .int .i64 0, .int .i64 0, .int .i64 0, .int .i64 0, .int .i64 0, .int .i64 0, .int .i64 0, .int .i64 0, .int .i64 0, .int .i64 0, .int .i64 0, .int .i64 0, .int .i64 0, .int .i64 0, .int .i64 0, .int .i64 0, .int .i64 0, .int .i64 0, .int .i64 0, .int .i64 0, .int .i64 0, .int .i64 0, .int .i64 0, .int .i64 0] 29)) = .ok () (w1.alloc (.cells (hvL H).toArray 29)) := by
    rw [← hvL_zero]
    exact run_storeCells_new (P := Tryd.prog) w1 29 (hvL (fun _ => (0, 0))).toArray (hvL H).toArray (by rw [infoLay, List.size_toArray, length_hvL]) (by rw [List.size_toArray, List.size_toArray, length_hvL, length_hvL]) (by simpa using oneCell_hv H)
  clear hm hok hb HLD
  go_wp2_with fail
  clear hsc hsz
  obtain ⟨w2, hw2⟩ : ∃ w2, w2 = w1.alloc (.cells (hvL H).toArray 29) := ⟨_, rfl⟩
  rw [← hw2] at HR0 ⊢
  clear hw2
  generalize w1.heap.size = hb at HR0 ⊢
  go_loopw [8] (fun d wr => ∃ (k : Nat) (H : Nat → Nat × Nat), d = .int .i64 (k : Int) ∧ k ≤ 2 ∧ Hid (VwR W bm hb H H wr)) (fun d _ => 2 - (intOf d).toNat)
  case atStart => exact ⟨0, H, rfl, by omega, HR0⟩
  case round =>
    clear HR0
    obtain ⟨rd, H, rfl, hrd, HR⟩ := hrel
    by_cases hlt : rd < 2
    · have h1 : (rd : Int) < 2 := by omega
      have hw9 : IntKind.i64.wrap ((rd : Int) + 1) = (rd : Int) + 1 := by rw [IntKind.wrap_i64]; omega
      go_wp2_with fail
      go_loopw [9] (fun d wx => ∃ (v : Nat) (H : Nat → Nat × Nat), d = .int .i64 (v : Int) ∧ v ≤ 12 ∧ Hid (VwR W bm hb H H wx)) (fun d _ => 12 - (intOf d).toNat)
      case atStart => exact ⟨0, H, rfl, by omega, HR⟩
      case round =>
        clear HR
        obtain ⟨v, H, rfl, hv, HR⟩ := hrel
        by_cases hv2 : v < 12
        · have h2 : (v : Int) < 12 := by omega
          have hiv : 0 ≤ (v : Int) ∧ (v : Int) < 12 := by omega
          have hwv : IntKind.i64.wrap ((v : Int) + 1) = (v : Int) + 1 := by rw [IntKind.wrap_i64]; omega
          have e3 : (v : Int) * 4096 = ((4096 * v : Nat) : Int) := by omega
          have e4 : ((4096 * v : Nat) : Int) + (o : Int) = ((4096 * v + o : Nat) : Int) := by omega
          have w3' : IntKind.i64.wrap ((4096 * v : Nat) : Int) = ((4096 * v : Nat) : Int) := by rw [IntKind.wrap_i64]; omega
          have w4' : IntKind.u32.wrap ((4096 * v : Nat) : Int) = ((4096 * v : Nat) : Int) := by rw [IntKind.wrap_u32]; omega
          have w5' : IntKind.i64.wrap ((4096 * v + o : Nat) : Int) = ((4096 * v + o : Nat) : Int) := by rw [IntKind.wrap_i64]; omega
          have HRC : Hid (∀ wv x, VwR W bm hb H H wv → Calls Tryd.prog 10 #[.pointer (some ⟨bm, 0, none⟩), .agg #[.int .i64 x, .int .i64 ((H v).1 : Nat), .int .i64 ((H v).2 : Nat)], .int .i64 ((4096 * v + o : Nat) : Int), .int .i64 0, .int .i64 4, .int .i64 12] wv fun e w' => e = .returned (.bool true) ∧ VwR W bm hb H H w') := fun wv x h => h.reached v o 0 hv2 ho (by decide) x
          have HRL : Hid (∀ wv x, VwR W bm hb H H wv → Calls Tryd.prog 10 #[.pointer (some ⟨bm, 0, none⟩), .agg #[.int .i64 x, .int .i64 ((H v).1 : Nat), .int .i64 ((H v).2 : Nat)], .int .i64 ((4096 * v + o : Nat) : Int), .int .i64 1, .int .i64 1, .int .i64 13] wv fun e w' => e = .returned (.bool true) ∧ VwR W bm hb H H w') := fun wv x h => h.reached v o 1 hv2 ho (by decide) x
          have HRS : Hid (∀ wv x, VwR W bm hb H H wv → Calls Tryd.prog 10 #[.pointer (some ⟨bm, 0, none⟩), .agg #[.int .i64 x, .int .i64 ((H v).1 : Nat), .int .i64 ((H v).2 : Nat)], .int .i64 ((4096 * v + o : Nat) : Int), .int .i64 2, .int .i64 2, .int .i64 15] wv fun e w' => e = .returned (.bool true) ∧ VwR W bm hb H H w') := fun wv x h => h.reached v o 2 hv2 ho (by decide) x
          have HCE : Hid (∀ wv, VwR W bm hb H H wv → wv.cell? ⟨hb, v * 3, none⟩ = some (.int .i64 (if (H v).2 = 0 then 0 else (v : Int))) ∧ wv.cell? ⟨hb, v * 3 + 1, none⟩ = some (.int .i64 ((H v).1 : Nat)) ∧ wv.cell? ⟨hb, v * 3 + 2, none⟩ = some (.int .i64 ((H v).2 : Nat))) := fun wv h => h.h.cells v hv2
          have HUM : Hid ((H v).2 ≠ 0 → ∀ wv, VwR W bm hb H H wv → Calls Tryd.prog 11 #[.pointer (some ⟨bm, 0, none⟩), .int .i64 1, .int .u32 ((4096 * v : Nat) : Int), .int .i64 ((H v).1 : Nat)] wv fun e w' => e = .returned (.int .i64 0) ∧ (∃ x, w'.cell? ⟨hb, v * 3, none⟩ = some x) ∧ (∃ x, w'.cell? ⟨hb, v * 3 + 1, none⟩ = some x) ∧ (∃ x, w'.cell? ⟨hb, v * 3 + 2, none⟩ = some x) ∧ (∀ j, w'.frozen? ⟨hb, j, none⟩ = false) ∧ VwR W bm hb (updH H v (0, 0)) (updH H v (0, 0)) (((w'.setCell ⟨hb, v * 3, none⟩ (.int .i64 0)).setCell ⟨hb, v * 3 + 1, none⟩ (.int .i64 0)).setCell ⟨hb, v * 3 + 2, none⟩ (.int .i64 0))) := fun hr wv h => by
            refine (h.unmap v hv2 rfl hr).mono ?_
            rintro e w' ⟨rfl, h2⟩
            obtain ⟨c0, c1, c2⟩ := h2.h.cells v hv2
            exact ⟨rfl, ⟨_, c0⟩, ⟨_, c1⟩, ⟨_, c2⟩, h2.h.fz, h2.clear v hv2⟩
          generalize 4096 * v + o = VA at e4 w5' HRC HRL HRS
          generalize 4096 * v = V4 at e3 e4 w3' w4' HUM
          generalize (if (H v).2 = 0 then (0 : Int) else (v : Int)) = x at HCE
          have hf12 : (H v).1 < 12 := by
            rcases okE_cases (HR.out.okH v hv2) with h | ⟨_, h, _⟩
            · rw [h]; decide
            · exact h
          generalize (H v).1 = fr at HRC HRL HRS HCE HUM hf12
          generalize (H v).2 = r at HRC HRL HRS HCE HUM
          have t1 : Int.tmod (fr : Int) 2 = ((fr % 2 : Nat) : Int) := by rw [Int.tmod_eq_emod_of_nonneg (by omega)]; omega
          have t2 : (fr : Int) % 2 = ((fr % 2 : Nat) : Int) := by omega
          have t3 : IntKind.i64.wrap ((fr % 2 : Nat) : Int) = ((fr % 2 : Nat) : Int) := by rw [IntKind.wrap_i64]; omega
          obtain ⟨f2, hf2⟩ : ∃ f2, f2 = fr % 2 := ⟨_, rfl⟩
          rw [← hf2] at t1 t2 t3
          clear hf2 hf12
          obtain ⟨a0, a1, a2⟩ := HCE.out _ HR.out
          have HV2 := Vx.hid hv2
          clear hv2
          go_wp2_with fail
          refine (HPK.out _).mono ?_
          rintro e w' ⟨rfl, h⟩
          have h3 := h.symm; clear h; subst h3
          go_wp2_with fail
          refine (HRC.out _ x HR.out).mono ?_
          rintro e w3 ⟨rfl, hr3⟩
          have HR3 := Vx.hid hr3
          obtain ⟨b0, b1, b2⟩ := HCE.out _ hr3
          clear hr3 a0 a1 a2
          go_wp2_with fail
          refine (HRL.out _ x HR3.out).mono ?_
          rintro e w4 ⟨rfl, hr4⟩
          have HR4 := Vx.hid hr4
          obtain ⟨a0, a1, a2⟩ := HCE.out _ hr4
          clear hr4 b0 b1 b2
          go_wp2_with fail
          refine (HRS.out _ x HR4.out).mono ?_
          rintro e w5 ⟨rfl, hr5⟩
          have HR5 := Vx.hid hr5
          obtain ⟨b0, b1, b2⟩ := HCE.out _ hr5
          clear hr5 a0 a1 a2 HRC HRL HRS HCE
          by_cases g0 : rd = 0
          · have g0b : ((rd : Int) == 0) = true := by simpa using g0
            have g0d : decide ((rd : Int) = 0) = true := by simpa using g0
            by_cases g1 : r = 0
            · have g1' : ¬ 0 < (r : Int) := by omega
              have g1b : decide (0 < (r : Int)) = false := decide_eq_false g1'
              clear g0 g1
              go_wp2_with fail
              go_roundw
              case rel => exact ⟨v + 1, H, by go_num, by omega, HR5⟩
              case measure => simp only [intOf]; omega
            · have g1' : 0 < (r : Int) := by omega
              have g1b : decide (0 < (r : Int)) = true := decide_eq_true g1'
              by_cases g2 : f2 = 0
              · have g2' : (f2 : Int) = 0 := by omega
                have g2b : ((f2 : Int) == 0) = true := by simpa using g2'
                have HUM2 := Vx.hid (HUM.out g1 _ HR5.out)
                clear g0 g1 g2
                go_wp2_with fail
                refine HUM2.out.mono ?_
                rintro e w6 ⟨rfl, ⟨y0, c0⟩, ⟨y1, c1⟩, ⟨y2, c2⟩, hfz, hr6⟩
                have HR6 := Vx.hid hr6
                have f0 := hfz (v * 3)
                have f1 := hfz (v * 3 + 1)
                have f2' := hfz (v * 3 + 2)
                clear hr6 hfz
                go_wp2_with fail
                go_roundw
                case rel => exact ⟨v + 1, _, by go_num, by omega, HR6⟩
                case measure => simp only [intOf]; omega
              · have g2' : ¬ (f2 : Int) = 0 := by omega
                have g2b : ((f2 : Int) == 0) = false := by simpa using g2'
                clear g0 g1 g2
                go_wp2_with fail
                go_roundw
                case rel => exact ⟨v + 1, H, by go_num, by omega, HR5⟩
                case measure => simp only [intOf]; omega
          · have g0' : ¬ (rd : Int) = 0 := by omega
            have g0b : ((rd : Int) == 0) = false := by simpa using g0'
            clear g0
            go_wp2_with fail
            go_roundw
            case rel => exact ⟨v + 1, H, by go_num, by omega, HR5⟩
            case measure => simp only [intOf]; omega
        · have h2 : ¬ (v : Int) < 12 := by omega
          go_wp2_with fail
          go_roundw
          case rel => exact ⟨rd + 1, H, by go_num, by omega, HR⟩
          case measure => simp only [intOf]; omega
    · have h1 : ¬ (rd : Int) < 2 := by omega
      have HR0 : Hid (VwR W bm hb H (goneH H 0) wr) := by show VwR _ _ _ _ _ _; rw [gone_zero]; exact HR.out
      clear HR
      go_wp2_with fail
      clear h1 hrd hlt
      go_loopw [15] (fun d wx => ∃ v : Nat, d = .int .i64 (v : Int) ∧ v ≤ 12 ∧ Hid (VwR W bm hb H (goneH H v) wx)) (fun d _ => 12 - (intOf d).toNat)
      case atStart => exact ⟨0, rfl, by omega, HR0⟩
      case round =>
        clear HR0
        obtain ⟨v, rfl, hv, HR⟩ := hrel
        by_cases hv2 : v < 12
        · have h2 : (v : Int) < 12 := by omega
          have hiv : 0 ≤ (v : Int) ∧ (v : Int) < 12 := by omega
          have hwv : IntKind.i64.wrap ((v : Int) + 1) = (v : Int) + 1 := by rw [IntKind.wrap_i64]; omega
          have e3 : (v : Int) * 4096 = ((4096 * v : Nat) : Int) := by omega
          have w3' : IntKind.i64.wrap ((4096 * v : Nat) : Int) = ((4096 * v : Nat) : Int) := by rw [IntKind.wrap_i64]; omega
          have w4' : IntKind.u32.wrap ((4096 * v : Nat) : Int) = ((4096 * v : Nat) : Int) := by rw [IntKind.wrap_u32]; omega
          obtain ⟨_, b1, b2⟩ := HR.out.h.cells v hv2
          by_cases g1 : (H v).2 = 0
          · have HR2 : Hid (VwR W bm hb H (goneH H (v + 1)) wr) := by
              show VwR _ _ _ _ _ _
              have h0 : H v = (0, 0) := by
                rcases okE_cases (HR.out.okH v hv2) with h | ⟨_, _, h⟩
                · exact h
                · omega
              rw [gone_same H v h0]
              exact HR.out
            rw [g1] at b2
            clear HR g1 hv2 b1
            go_wp2_with fail
            go_roundw
            case rel => exact ⟨v + 1, by go_num, by omega, HR2⟩
            case measure => simp only [intOf]; omega
          · have HUM : Hid (Calls Tryd.prog 11 #[.pointer (some ⟨bm, 0, none⟩), .int .i64 1, .int .u32 ((4096 * v : Nat) : Int), .int .i64 ((H v).1 : Nat)] wr fun e w' => e = .returned (.int .i64 0) ∧ Hid (VwR W bm hb H (goneH H (v + 1)) w')) := by
              refine (HR.out.unmap v hv2 (gone_at H v) g1).mono ?_
              rintro e w' ⟨rfl, h⟩
              rw [gone_next] at h
              exact ⟨rfl, h⟩
            have g1' : 0 < (((H v).2 : Nat) : Int) := by omega
            generalize (H v).1 = fr at b1 HUM
            generalize (H v).2 = r at b2 g1'
            generalize 4096 * v = V4 at e3 w3' w4' HUM
            clear HR g1 hv2
            go_wp2_with fail
            refine HUM.out.mono ?_
            rintro e w3 ⟨rfl, HR2⟩
            go_wp2_with fail
            go_roundw
            case rel => exact ⟨v + 1, by go_num, by omega, HR2⟩
            case measure => simp only [intOf]; omega
        · obtain rfl : v = 12 := by omega
          clear hv hv2
          have HNT := Vx.hid HR.out.ends
          have hmk : ∀ wv : World, (Instr.makeSlice 39 (.int .i64 49152) (.int .i64 49152)).run Tryd.prog wv = .ok (.slice (some ⟨wv.heap.size, 0, none⟩) 49152 49152) (wv.alloc (.cells (rowV (fun _ => 0) 0 49152).toArray 5)) := fun wv => make_bytes 49152 (by decide) wv
          have hcv := fun wv => text_noughts wv
          have HRD : Hid (∀ wv, MemAt (fun k => k < W.heap.size) wv bm 12 (fun _ => 0) → Calls Tryd.prog 13 #[.pointer (some ⟨bm, 0, none⟩), .int .i64 0, .int .i64 49152] wv fun e w' => e = .returned (.tuple #[.string ⟨(rowL (fun _ => 0) 0 49152).toArray⟩, .int .i64 0]) ∧ Only (fun _ => False) wv w') := fun wv h => read_ok h 0 49152 (by decide)
          generalize (rowL (fun _ => 0) 0 49152).toArray = T at hcv HRD
          generalize (rowV (fun _ => 0) 0 49152).toArray = V at hmk hcv
          clear HR HPK HUS
          go_wp2_with fail
          refine HNT.out.mono ?_
          rintro e w3 ⟨rfl, hm3, hb3⟩
          have HB3 := Vx.hid hb3
          have HRD3 := Vx.hid (HRD.out _ hm3)
          clear hm3 hb3 HRD
          go_wp2_with fail
          refine HRD3.out.mono ?_
          rintro e w4 ⟨rfl, ho4⟩
          have HO4 := Vx.hid ho4
          clear ho4
          go_wp2_with fail
          all_goals
            go_ret
            exact ⟨rfl, HB3.out.trans ((HO4.out.alloc _).below HB3.out.size (fun _ _ h => h))⟩
end Go.Proofs.YthcngafjklihcaaDoor

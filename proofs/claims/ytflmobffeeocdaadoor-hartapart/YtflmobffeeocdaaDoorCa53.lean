import Derived.Test.YtflmobffeeocdaaDoorCa50
import Derived.Test.YtflmobffeeocdaaDoorCa52
import Derived.Test.YtflmobffeeocdaaDoorCa32
import Derived.Deep.CutBlock
import Derived.Deep.CutRange
import Derived.BigRegion
/- HartApart's walk. -/
namespace Go.Proofs.YtflmobffeeocdaaDoor
open Go.ChangeShapes Go.WideShapes Go.ChangeAt Go.RowKit
open Go.Vx
set_option linter.unusedVariables false

set_option maxRecDepth 100000 in
set_option maxHeartbeats 4000000 in
theorem hartApart_call (W : World) (hg : UsesAt W ∧ MisAt W ∧ FormsAt W) (pa : Option Addr) (len cap : Nat) (zs : List (Int × Int × Int)) (hlen : zs.length = len) (hlc : len ≤ cap) (hcm : cap ≤ maxLen) (hp : LaAt W pa zs) (hz : ∀ z ∈ zs, in64 z.1 ∧ in64 z.2.1 ∧ in64 z.2.2) (code other : List UInt8) (R : Nat → Nat) (pc : Nat) (hR : ∀ i, i < 32 → R i < 4294967296) (hpc : pc < 4294967296) (st : Int) (hst : in64 st) :
    Calls Tryd.prog 3 #[.slice pa len cap, .string ⟨code.toArray⟩, .string ⟨other.toArray⟩, .agg (ctxL R pc).toArray, .int .i64 st] W fun e w' => e = .returned (.bool true) ∧ Below W.heap.size W w' := by
  have HLD := Vx.hid (fun wv (hb : Below W.heap.size W wv) => laid_at wv pa len cap zs hlen hlc hcm (hp.below (B := 0) hb) hz)
  have HG := Vx.hid hg
  clear hg hlen hlc hcm hp hz
  obtain ⟨pcode, hpcode⟩ : ∃ p : ByteArray, p = ⟨code.toArray⟩ := ⟨_, rfl⟩
  obtain ⟨pother, hpother⟩ : ∃ p : ByteArray, p = ⟨other.toArray⟩ := ⟨_, rfl⟩
  have HPC := Vx.hid hpcode
  have HPO := Vx.hid hpother
  rw [← hpcode, ← hpother]
  obtain ⟨cx, hcx⟩ : ∃ cx : Array Value, cx = (ctxL R pc).toArray := ⟨_, rfl⟩
  have HCX := Vx.hid hcx
  rw [← hcx]
  clear hpcode hpother hcx
  have HAL : Hid (∀ o : Obj, Below W.heap.size W (W.alloc o)) := fun o => ((Only.refl (fun _ => False) W).alloc o).below (Nat.le_refl _) (fun _ _ h => h)
  go_enter Tryd.func3, Tryd.ntmps3
  go_wp2_with fail
  obtain ⟨w0, hw0⟩ : ∃ w0, w0 = W.alloc (.cells cx 26) := ⟨_, rfl⟩
  obtain ⟨cb, hcb⟩ : ∃ cb, cb = W.heap.size := ⟨_, rfl⟩
  rw [← hw0, ← hcb]
  have HW0 := Vx.hid hw0
  have HCB := Vx.hid hcb
  have HB0 : Hid (Below W.heap.size W w0) := by rw [hw0]; exact HAL.out _
  clear hw0 hcb HAL
  refine (HLD.out w0 HB0.out).mono ?_
  rintro e w1 ⟨b1, H, rfl, hm1, hok, hb1, hH⟩
  have HM1 := Vx.hid hm1
  have HOK := Vx.hid hok
  have HB1 := Vx.hid hb1
  have HH := Vx.hid hH
  have hsz := length_hvL H
  have hsc := store_lay w1 H
  clear hm1 hok hb1 hH
  go_wp2_with fail
  clear hsc
  obtain ⟨w2, hw2⟩ : ∃ w2, w2 = w1.alloc (.cells (hvL H).toArray 30) := ⟨_, rfl⟩
  obtain ⟨hb, hhb⟩ : ∃ hb, hb = w1.heap.size := ⟨_, rfl⟩
  rw [← hw2, ← hhb]
  have HW2 := Vx.hid hw2
  have HHB := Vx.hid hhb
  have HB2 : Hid (Below W.heap.size W w2) := by
    have h1 := HB0.out.trans (HB1.out.mono HB0.out.size)
    rw [hw2]
    exact h1.trans (((Only.refl (fun _ => False) w1).alloc _).below h1.size (fun _ _ h => h))
  clear hw2 hhb
  refine (HLD.out w2 HB2.out).mono ?_
  rintro e w3 ⟨b2, H2, rfl, hm2, _, hb2, hH2⟩
  obtain rfl : H2 = H := hH2.trans HH.out.symm
  have HM2 := Vx.hid hm2
  have HB3 := Vx.hid hb2
  have hsc := store_lay w3 H2
  clear hm2 hb2 hH2 HLD
  go_wp2_with fail
  clear hsc hsz
  obtain ⟨V, hap⟩ := ApR.start (w0 := w0) (w1 := w1) (w2 := w2) (w3 := w3) (R := R) (pc := pc) (by rw [HW0.out, HCX.out]) HB1.out HM1.out HW2.out HB3.out HM2.out (.cells (hvL H2).toArray 30) rfl
  rw [boL_zero] at hap
  obtain ⟨w4, hw4⟩ : ∃ w4, w4 = ((w3.alloc (.cells (hvL H2).toArray 30)).alloc (.cells #[.bool false, .bool false, .bool false, .bool false, .bool false, .bool false, .bool false, .bool false, .bool false, .bool false, .bool false, .bool false] 33)).alloc (.cells #[.bool false, .bool false, .bool false, .bool false, .bool false, .bool false, .bool false, .bool false, .bool false, .bool false, .bool false, .bool false] 33) := ⟨_, rfl⟩
  rw [← hw4] at hap ⊢
  obtain ⟨sn, hsn⟩ : ∃ sn, sn = w3.heap.size + 1 := ⟨_, rfl⟩
  rw [← hsn] at hap ⊢
  obtain ⟨op, hop⟩ : ∃ op, op = sn + 1 := ⟨_, rfl⟩
  rw [← hop] at hap ⊢
  rw [← HHB.out, ← HCB.out] at hap
  have HA0 : Hid (ApR W V b1 b2 hb sn op cb H2 (seenB H2 0) (openB H2 0) (laidF H2) (laidF H2) R pc w4) := hap
  clear hap hw4 hsn hop HW0 HB0 HM1 HB1 HW2 HB2 HM2 HB3 HCB HHB
  go_loopw [19] (fun d wr => ∃ k : Nat, d = .int .i64 (k : Int) ∧ k ≤ 12 ∧ Hid (ApR W V b1 b2 hb sn op cb H2 (seenB H2 k) (openB H2 k) (laidF H2) (laidF H2) R pc wr)) (fun d _ => 12 - (intOf d).toNat)
  case atStart => exact ⟨0, rfl, by omega, HA0⟩
  case round =>
    clear HA0
    obtain ⟨k, rfl, hk, HR⟩ := hrel
    by_cases hlt : k < 12
    · have h1 : (k : Int) < 12 := by omega
      have hik : 0 ≤ (k : Int) ∧ (k : Int) < 12 := by omega
      have hwk : IntKind.i64.wrap ((k : Int) + 1) = (k : Int) + 1 := by rw [IntKind.wrap_i64]; omega
      obtain ⟨_, c1, c2⟩ := HR.out.h.cells k hlt
      have hfr : (H2 k).1 < 12 := by
        rcases okE_cases (HOK.out k hlt) with h | ⟨_, h, _⟩
        · rw [h]; decide
        · exact h
      have cS := HR.out.s.cell _ hfr
      have cO := HR.out.o.cell _ hfr
      have fS := HR.out.s.fz (H2 k).1
      have fO := HR.out.o.fz (H2 k).1
      by_cases hr0 : (H2 k).2 = 0
      · have HNX : Hid (ApR W V b1 b2 hb sn op cb H2 (seenB H2 (k + 1)) (openB H2 (k + 1)) (laidF H2) (laidF H2) R pc wr) := by
          have e1 : seenB H2 (k + 1) = seenB H2 k := by funext p; rw [seenB_succ, hr0]; simp
          have e2 : openB H2 (k + 1) = openB H2 k := by funext p; rw [openB_succ, hr0]; simp
          rw [e1, e2]; exact HR.out
        rw [hr0] at c2
        clear hlt cS cO fS fO
        go_wp2_with fail
        go_roundw
        case rel => exact ⟨k + 1, by go_num, by omega, HNX⟩
        case measure => simp only [intOf]; omega
      · have hrc : (H2 k).2 = 1 ∨ (H2 k).2 = 3 ∨ (H2 k).2 = 4 ∨ (H2 k).2 = 5 ∨ (H2 k).2 = 7 := by
          rcases okE_cases (HOK.out k hlt) with h | ⟨_, _, h⟩
          · exact absurd (by rw [h]) hr0
          · exact h
        have hrp : 0 < (H2 k).2 := by omega
        have HR5 : Hid (ApR W V b1 b2 hb sn op cb H2 (seenB H2 (k + 1)) (openB H2 k) (laidF H2) (laidF H2) R pc (wr.setCell ⟨sn, (H2 k).1, none⟩ (.bool true))) := HR.out.setS _ hfr true (fun p _ => by
          rw [seenB_succ, decide_eq_true hrp, Bool.true_and]
          by_cases e : p = (H2 k).1
          · rw [if_pos e, decide_eq_true e.symm, Bool.or_true]
          · rw [if_neg e, decide_eq_false (fun h => e h.symm), Bool.or_false])
        obtain ⟨w5, hw5⟩ : ∃ w5, w5 = wr.setCell ⟨sn, (H2 k).1, none⟩ (.bool true) := ⟨_, rfl⟩
        rw [← hw5] at HR5
        obtain ⟨_, d1, d2⟩ := HR5.out.h.cells k hlt
        have dO := HR5.out.o.cell _ hfr
        have dF := HR5.out.o.fz (H2 k).1
        have HNX : Hid (∀ x, x = (openB H2 k (H2 k).1 || mayU 2 (H2 k).2) → ApR W V b1 b2 hb sn op cb H2 (seenB H2 (k + 1)) (openB H2 (k + 1)) (laidF H2) (laidF H2) R pc (w5.setCell ⟨op, (H2 k).1, none⟩ (.bool x))) := fun x hx => HR5.out.setO _ hfr x (fun p _ => by
          rw [openB_succ, decide_eq_true hrp, Bool.true_and]
          by_cases e : p = (H2 k).1
          · rw [if_pos e, decide_eq_true e.symm, Bool.true_and, hx, e]
          · rw [if_neg e, decide_eq_false (fun h => e h.symm), Bool.false_and, Bool.or_false])
        generalize openB H2 k (H2 k).1 = bo at dO cO HNX
        generalize seenB H2 k (H2 k).1 = so at cS
        generalize (H2 k).1 = fr at c1 cS cO fS fO d1 dO dF hw5 HNX hfr
        have hif : 0 ≤ (fr : Int) ∧ (fr : Int) < 12 := by omega
        have h2 : (0 : Int) < ((H2 k).2 : Nat) := by omega
        clear hlt hr0 HR HR5 hrp
        generalize (H2 k).2 = r at c2 d2 HNX hrc h2
        rcases hrc with rfl | rfl | rfl | rfl | rfl
        all_goals
          go_upto_region 11 with fail
          rw [← hw5]
          clear hw5 c1 c2 cS cO fS fO
          cases bo
          all_goals
            go_region
            all_goals
              go_wp2_with fail
              go_roundw
              case rel => exact ⟨k + 1, by go_num, by omega, (HNX.out _ (by decide +kernel)).only ((Only.refl _ _).drew)⟩
              case measure => simp only [intOf]; omega
    · obtain rfl : k = 12 := by omega
      clear hlt hk
      have HA1 := HR
      clear HR
      have h1 : ¬ ((12 : Nat) : Int) < 12 := by decide
      clear h1
      obtain ⟨p4, hp4⟩ : ∃ p : ByteArray, p = ⟨(code.take 400).toArray⟩ := ⟨_, rfl⟩
      obtain ⟨q4, hq4⟩ : ∃ p : ByteArray, p = ⟨(other.take 400).toArray⟩ := ⟨_, rfl⟩
      have HC : Hid (((400 : Int) < (pcode.size : Int) ∧ ∀ wv, (Instr.slice 9 (.string pcode) none (some (.int .i64 400)) none).run Tryd.prog wv = .ok (.string p4) wv) ∨ (¬ (400 : Int) < (pcode.size : Int) ∧ p4 = pcode)) := cut_or HPC.out hp4
      have HO : Hid (((400 : Int) < (pother.size : Int) ∧ ∀ wv, (Instr.slice 9 (.string pother) none (some (.int .i64 400)) none).run Tryd.prog wv = .ok (.string q4) wv) ∨ (¬ (400 : Int) < (pother.size : Int) ∧ q4 = pother)) := cut_or HPO.out hq4
      have HP4 := Vx.hid hp4
      have HQ4 := Vx.hid hq4
      clear hp4 hq4
      have HA2 : Hid (ApR W V b1 b2 hb sn op cb H2 (seenB H2 12) (openB H2 12) (layP (laidF H2) (fun _ => code.take 400) 4) (layP (laidF H2) (fun q => if seenB H2 12 q = true then code.take 400 else other.take 400) 4) R pc wr) := by rw [layP_four, layP_four]; exact HA1
      clear HA1
      have h1 : ¬ ((12 : Nat) : Int) < 12 := by decide
      go_wp2_with fail
      clear h1
      go_loopw [20] (fun d wr => ∃ k : Nat, d = .int .i64 (k : Int) ∧ 4 ≤ k ∧ k ≤ 12 ∧ Hid (ApR W V b1 b2 hb sn op cb H2 (seenB H2 12) (openB H2 12) (layP (laidF H2) (fun _ => code.take 400) k) (layP (laidF H2) (fun q => if seenB H2 12 q = true then code.take 400 else other.take 400) k) R pc wr)) (fun d _ => 12 - (intOf d).toNat)
      case atStart => exact ⟨4, rfl, by omega, by omega, HA2⟩
      case round =>
        clear HA2
        obtain ⟨k, rfl, hk4, hk, HR⟩ := hrel
        by_cases hlt : k < 12
        · have h1 : (k : Int) < 12 := by omega
          have hik : 0 ≤ (k : Int) ∧ (k : Int) < 12 := by omega
          have hwk : IntKind.i64.wrap ((k : Int) + 1) = (k : Int) + 1 := by rw [IntKind.wrap_i64]; omega
          have hwm : IntKind.i64.wrap ((k : Int) * 4096) = (k : Int) * 4096 := by rw [IntKind.wrap_i64]; omega
          have HW1 := Vx.hid (HR.out.lay1 hk4 hlt HP4.out)
          have HW2 := Vx.hid (fun b (hs : seenB H2 12 k = b) wv (hv : ApR W V b1 b2 hb sn op cb H2 (seenB H2 12) (openB H2 12) (layP (laidF H2) (fun _ => code.take 400) (k + 1)) (layP (laidF H2) (fun q => if seenB H2 12 q = true then code.take 400 else other.take 400) k) R pc wv) => ApR.lay2 (W := W) (V := V) (b1 := b1) (b2 := b2) (hb := hb) (sn := sn) (op := op) (cb := cb) (R := R) (pc := pc) (wr := wv) hv hk4 hlt HP4.out HQ4.out hs)
          clear HR
          rcases HC.out with ⟨c1, c2⟩ | ⟨c1, c2⟩
          all_goals
            try subst c2
            go_wp2_with fail
            refine HW1.out.mono ?_
            rintro e w5 ⟨rfl, H5⟩
            have cS := H5.out.s.cell k hlt
            cases hsb : seenB H2 12 k
            · rw [hsb] at cS
              have HW3 := Vx.hid (HW2.out false hsb w5 H5.out)
              clear HW1 HW2 H5 hsb
              rcases HO.out with ⟨o1, o2⟩ | ⟨o1, o2⟩
              all_goals
                try subst o2
                go_wp2_with fail
                refine HW3.out.mono ?_
                rintro e w6 ⟨rfl, H6⟩
                clear HW3
                go_wp2_with fail
                go_roundw
                case rel => exact ⟨k + 1, by go_num, by omega, by omega, H6⟩
                case measure => simp only [intOf]; omega
            · rw [hsb] at cS
              have HW3 := Vx.hid (HW2.out true hsb w5 H5.out)
              clear HW1 HW2 H5 hsb
              go_wp2_with fail
              refine HW3.out.mono ?_
              rintro e w6 ⟨rfl, H6⟩
              clear HW3
              go_wp2_with fail
              go_roundw
              case rel => exact ⟨k + 1, by go_num, by omega, by omega, H6⟩
              case measure => simp only [intOf]; omega
        · obtain rfl : k = 12 := by omega
          clear hlt hk hk4 HC HO HPC HPO HP4 HQ4
          obtain ⟨f0, hf0⟩ : ∃ f, f = layP (laidF H2) (fun _ => code.take 400) 12 := ⟨_, rfl⟩
          obtain ⟨f2, hf2⟩ : ∃ f, f = layP (laidF H2) (fun q => if seenB H2 12 q = true then code.take 400 else other.take 400) 12 := ⟨_, rfl⟩
          have HAG : Hid (Ag H2 f0 f0 f2) := by rw [hf0, hf2]; exact ag_start H2 _ _
          rw [← hf0, ← hf2] at HR
          clear hf0 hf2
          obtain ⟨was, hwas⟩ : ∃ q : ByteArray, q = ⟨(rowL f0 0 49152).toArray⟩ := ⟨_, rfl⟩
          have HRD := Vx.hid (HR.out.was hwas)
          have HWAS := Vx.hid hwas
          clear HR hwas
          have h1 : ¬ ((12 : Nat) : Int) < 12 := by decide
          go_wp2_with fail
          refine HRD.out.mono ?_
          rintro e w5 ⟨rfl, H5⟩
          clear HRD h1
          have hzero := zero_ctx
          have hsc := store_ctx w5 (fun _ => 0) R 0 pc
          have hsz := length_ctxL R pc
          have HCO := Vx.hid (fun wx hx => H5.out.copy (wx := wx) hx)
          obtain ⟨L, hL⟩ : ∃ L, L = ctxL R pc := ⟨_, rfl⟩
          obtain ⟨LZ, hLZ⟩ : ∃ LZ, LZ = ctxL (fun _ => 0) 0 := ⟨_, rfl⟩
          have hsz0 : LZ.length = 33 := by rw [hLZ]; exact length_ctxL _ _
          rw [← hL] at hsc hsz HCO
          rw [← hLZ] at hzero hsc
          have HL := Vx.hid hL
          clear hL hLZ
          go_upto_region 25 with fail
          go_step
          refine wpList_load_ctxL (.tmp 8) rfl H5.out.c HL.out ?_ ?_ ?_
          · simp [Region.wanted]
          · simp [Act.eval]
          go_upto_block 4 with fail
          obtain ⟨w6, hw6⟩ : ∃ w6, w6 = w5.alloc (.cells L.toArray 26) := ⟨_, rfl⟩
          obtain ⟨V2, hs0⟩ := HCO.out w6 hw6
          obtain ⟨db, hdb⟩ : ∃ db, db = w5.heap.size := ⟨_, rfl⟩
          rw [← hdb] at hs0 ⊢
          rw [← hw6]
          have HS0 := Vx.hid hs0
          have HRO : Hid (RegOk R pc) := ⟨hR, hpc⟩
          clear hs0 hw6 hdb HCO hR hpc HCX H5 HL hzero hsc hsz hsz0
          have HPK := Vx.hid (fun wv => pick_any 30 (by decide) (by decide) st hst.1 hst.2 wv)
          have hpl : pickN st 30 < 30 := Nat.mod_lt _ (by decide)
          generalize pickN st 30 = P at HPK hpl
          have hw1 : IntKind.i64.wrap (1 + (P : Int)) = 1 + (P : Int) := by rw [IntKind.wrap_i64]; omega
          go_cut [25] from 120 to 140 (fun _ wx => ∃ (V : Nat → Prop) (f1 f2 : Nat → UInt8) (R : Nat → Nat) (pc : Nat), Hid (Ag H2 f0 f1 f2) ∧ Hid (ApS W V b1 b2 op cb db (openB H2 12) f1 f2 R pc R pc wx))
          case first =>
            go_wp2_with fail
            go_loopw [25] (fun d wr => ∃ (k : Nat) (V : Nat → Prop) (f1 f2 : Nat → UInt8) (R : Nat → Nat) (pc : Nat), d = .int .i64 (k : Int) ∧ k ≤ 30 ∧ Hid (RegOk R pc) ∧ Hid (Ag H2 f0 f1 f2) ∧ Hid (ApS W V b1 b2 op cb db (openB H2 12) f1 f2 R pc R pc wr)) (fun d _ => 31 - (intOf d).toNat)
            case atStart => exact ⟨0, V2, f0, f2, R, pc, rfl, by omega, HRO, HAG, HS0⟩
            case round =>
              clear HS0 HAG HRO
              obtain ⟨k, V, f1, f2, R, pc, rfl, hk, HRO, HAG, HR⟩ := hrel
              by_cases hlt : k < 1 + P
              · obtain ⟨b, c, t, g1, g2, R1, pc1, hag, hr, hS1, hS2⟩ := HR.out.steps HG.out HOK.out HAG.out HRO.out
                have HS1 := Vx.hid (hS1 wr HR.out)
                have HS2 := Vx.hid hS2
                have HNG := Vx.hid hag
                have HNR := Vx.hid hr
                have h1 : (k : Int) < 1 + (P : Int) := by omega
                clear hag hr hS1 hS2 hlt HR HAG HRO
                go_wp2_with (refine (HPK.out _).mono ?_; rintro e w' ⟨rfl, h⟩; have h2 := h.symm; clear h; subst h2)
                refine HS1.out.mono ?_
                rintro e w7 ⟨rfl, H7⟩
                clear HS1
                go_wp2_with fail
                obtain ⟨V3, hv3, hdx, h8⟩ := H7.out.more (.cells #[.bool b, .int .i64 c, .int .u32 (t : Int)] 40)
                have hx8 := heap_alloc_last w7 (.cells #[.bool b, .int .i64 c, .int .u32 (t : Int)] 40)
                obtain ⟨w8, hw8⟩ : ∃ w8, w8 = w7.alloc (.cells #[.bool b, .int .i64 c, .int .u32 (t : Int)] 40) := ⟨_, rfl⟩
                obtain ⟨xb, hxb⟩ : ∃ xb, xb = w7.heap.size := ⟨_, rfl⟩
                rw [← hw8] at h8 hx8 ⊢
                rw [← hxb] at hv3 hdx hx8 ⊢
                have HS3 := Vx.hid (HS2.out V3 w8 h8)
                have HX8 := Vx.hid (⟨hx8, hv3, hdx⟩ : _ ∧ _ ∧ _)
                clear hw8 hxb hx8 hv3 hdx h8 H7 HS2
                refine HS3.out.mono ?_
                rintro e w9 ⟨rfl, H9⟩
                clear HS3
                go_upto_region 31 with fail
                have hx9 := (H9.out.2.block xb (lt_of_some HX8.out.1) (by rintro (h | h); exact h HX8.out.2.1; exact HX8.out.2.2 h.symm)).trans HX8.out.1
                have ho : Only (fun _ => False) w9 (w9.alloc (.cells #[.bool b, .int .i64 c, .int .u32 (t : Int)] 40)) := (Only.refl _ w9).alloc _
                have hx10 := (ho.block xb (lt_of_some hx9) (fun h => h)).trans hx9
                have hy10 := heap_alloc_last w9 (.cells #[.bool b, .int .i64 c, .int .u32 (t : Int)] 40)
                have HNX := Vx.hid (H9.out.1.only ho)
                obtain ⟨w10, hw10⟩ : ∃ w10, w10 = w9.alloc (.cells #[.bool b, .int .i64 c, .int .u32 (t : Int)] 40) := ⟨_, rfl⟩
                obtain ⟨yb, hyb⟩ : ∃ yb, yb = w9.heap.size := ⟨_, rfl⟩
                rw [← hw10] at hx10 hy10 HNX ⊢
                rw [← hyb] at hy10 ⊢
                obtain ⟨⟨x0, x1, x2⟩, _⟩ := evx_cells hx10
                obtain ⟨⟨y0, y1, y2⟩, _⟩ := evx_cells hy10
                obtain ⟨L, hL⟩ : ∃ L, L = ctxL R1 pc1 := ⟨_, rfl⟩
                have HL := Vx.hid hL
                clear hx9 ho hx10 hy10 hw10 hyb hL H9 HX8
                cases b
                · go_wp2_with (first
                    | (refine wpList_load_ctxL (.tmp 8) rfl HNX.out.c HL.out ?_ ?_ ?_; (focus simp [Region.wanted, yielded]); (focus first | (simp [Act.eval]; done) | (simp [Act.put]; done) | (simp [Act.eval, Act.put]; done)))
                    | (refine wpList_load_ctxL (.tmp 24) rfl HNX.out.d HL.out ?_ ?_ ?_; (focus simp [Region.wanted, yielded]); (focus first | (simp [Act.eval]; done) | (simp [Act.put]; done) | (simp [Act.eval, Act.put]; done)))
                    | (refine wpList_neq_ctxL (.tmp 135) (.tmp 136) rfl HL.out ?_ ?_ ?_ ?_; (focus simp [Region.wanted, yielded]); (focus first | (simp [Act.eval]; done) | (simp [Act.put]; done) | (simp [Act.eval, Act.put]; done)); (focus first | (simp [Act.eval]; done) | (simp [Act.put]; done) | (simp [Act.eval, Act.put]; done))))
                  exact ⟨⟨k + 1, V3, g1, g2, R1, pc1, by rw [Int.natCast_add]; rfl, by omega, HNR, HNG, HNX⟩, by show 31 - ((k : Int) + 1).toNat < 31 - ((k : Nat) : Int).toNat; omega⟩
                · go_wp2_with (first
                    | (refine wpList_load_ctxL (.tmp 8) rfl HNX.out.c HL.out ?_ ?_ ?_; (focus simp [Region.wanted, yielded]); (focus first | (simp [Act.eval]; done) | (simp [Act.put]; done) | (simp [Act.eval, Act.put]; done)))
                    | (refine wpList_load_ctxL (.tmp 24) rfl HNX.out.d HL.out ?_ ?_ ?_; (focus simp [Region.wanted, yielded]); (focus first | (simp [Act.eval]; done) | (simp [Act.put]; done) | (simp [Act.eval, Act.put]; done)))
                    | (refine wpList_neq_ctxL (.tmp 135) (.tmp 136) rfl HL.out ?_ ?_ ?_ ?_; (focus simp [Region.wanted, yielded]); (focus first | (simp [Act.eval]; done) | (simp [Act.put]; done) | (simp [Act.eval, Act.put]; done)); (focus first | (simp [Act.eval]; done) | (simp [Act.put]; done) | (simp [Act.eval, Act.put]; done))))
                  go_meet
                  exact ⟨V3, g1, g2, R1, pc1, HNG, HNX⟩
              · have h1 : ¬ (k : Int) < 1 + (P : Int) := by omega
                clear hlt
                go_wp2_with (refine (HPK.out _).mono ?_; rintro e w' ⟨rfl, h⟩; have h2 := h.symm; clear h; subst h2)
                go_meet
                exact ⟨V, f1, f2, R, pc, HAG, HR⟩
          case rest =>
            clear HS0 HAG HRO HPK hpl hw1 HOK HG
            obtain ⟨V, f1, f2, R, pc, HAG, HS⟩ := hcut
            obtain ⟨now, hnow⟩ : ∃ q : ByteArray, q = ⟨(rowL f1 0 49152).toArray⟩ := ⟨_, rfl⟩
            have HRD := Vx.hid (HS.out.now hnow)
            have HNOW := Vx.hid hnow
            clear HS hnow
            go_wp2_with fail
            refine HRD.out.mono ?_
            rintro e w11 ⟨rfl, HE⟩
            clear HRD
            go_wp2_with fail
            go_loopw [30] (fun d wx => ∃ k : Nat, d = .int .i64 (k : Int) ∧ k ≤ 12 ∧ wx = w11) (fun d _ => 12 - (intOf d).toNat)
            case atStart => exact ⟨0, rfl, by omega, rfl⟩
            case round =>
              obtain ⟨k, rfl, hk, rfl⟩ := hrel
              by_cases hlt : k < 12
              · have h1 : (k : Int) < 12 := by omega
                have hik : 0 ≤ (k : Int) ∧ (k : Int) < 12 := by omega
                have hwk : IntKind.i64.wrap ((k : Int) + 1) = (k : Int) + 1 := by rw [IntKind.wrap_i64]; omega
                have hwm : IntKind.i64.wrap ((k : Int) * 4096) = (k : Int) * 4096 := by rw [IntKind.wrap_i64]; omega
                have hwn : IntKind.i64.wrap (((k : Int) + 1) * 4096) = ((k : Int) + 1) * 4096 := by rw [IntKind.wrap_i64]; omega
                have hs1 := page_of f0 was HWAS.out k hlt ((k : Int) * 4096) (((k : Int) + 1) * 4096) rfl rfl
                have hs2 := page_of f1 now HNOW.out k hlt ((k : Int) * 4096) (((k : Int) + 1) * 4096) rfl rfl
                have cO := HE.out.o.cell k hlt
                cases hob : openB H2 12 k
                · rw [hob] at cO
                  rw [ag_row HAG.out k hob] at hs2
                  obtain ⟨sa, hsa⟩ : ∃ q : ByteArray, q = ⟨(rowL f0 (4096 * k) 4096).toArray⟩ := ⟨_, rfl⟩
                  rw [← hsa] at hs1 hs2
                  clear hsa hob hlt
                  go_wp2_with fail
                  go_roundw
                  case rel => exact ⟨k + 1, by go_num, by omega, trivial⟩
                  case measure => simp only [intOf]; omega
                · rw [hob] at cO
                  obtain ⟨sa, hsa⟩ : ∃ q : ByteArray, q = ⟨(rowL f0 (4096 * k) 4096).toArray⟩ := ⟨_, rfl⟩
                  obtain ⟨sb, hsb⟩ : ∃ q : ByteArray, q = ⟨(rowL f1 (4096 * k) 4096).toArray⟩ := ⟨_, rfl⟩
                  rw [← hsa] at hs1
                  rw [← hsb] at hs2
                  clear hsa hsb hob hlt
                  go_wp2_with fail
                  go_roundw
                  case rel => exact ⟨k + 1, by go_num, by omega, trivial⟩
                  case measure => simp only [intOf]; omega
              · obtain rfl : k = 12 := by omega
                have h1 : ¬ ((12 : Nat) : Int) < 12 := by decide
                have c0 := HE.out.c.cellR 0 (by decide)
                have d0 := HE.out.d.cellR 0 (by decide)
                have HBE := Vx.hid HE.out.be
                clear hlt HE
                go_wp2_with fail
                all_goals
                  go_ret
                  exact ⟨rfl, HBE.out⟩
end Go.Proofs.YtflmobffeeocdaaDoor

/- The walk of a script. -/
import Derived.Test.YtflmobffeeocdaaGreatDoorV8
import Derived.Test.YtflmobffeeocdaaGreatDoorN5
namespace Go.Proofs.YtflmobffeeocdaaGreatDoor
open Go.ChangeShapes Go.WideShapes Go.ChangeAt Go.RowKit
open Go.Vx

/-- A step of a script. -/
structure Stp where
  k : Int
  a : Int
  b : Int
  c : Int
  d : Int
  s : List UInt8
def Stp.ok (z : Stp) : Prop := I64 z.k ∧ I64 z.a ∧ I64 z.b ∧ I64 z.c ∧ I64 z.d ∧ z.s.length ≤ 9223372036854775807
/-- A script, where it lies. -/
def ScAt (w : World) (pa : Option Addr) (zs : List Stp) : Prop :=
  zs = [] ∨ ∃ ab ao, pa = some ⟨ab, ao, none⟩ ∧ ∀ (j : Nat) (h : j < zs.length), w.cell? ⟨ab, ao + j * 6, none⟩ = some (.int .i64 (zs[j]).k) ∧ w.cell? ⟨ab, ao + j * 6 + 1, none⟩ = some (.int .i64 (zs[j]).a) ∧ w.cell? ⟨ab, ao + j * 6 + 2, none⟩ = some (.int .i64 (zs[j]).b) ∧ w.cell? ⟨ab, ao + j * 6 + 3, none⟩ = some (.int .i64 (zs[j]).c) ∧ w.cell? ⟨ab, ao + j * 6 + 4, none⟩ = some (.int .i64 (zs[j]).d) ∧ w.cell? ⟨ab, ao + j * 6 + 5, none⟩ = some (.string ⟨(zs[j]).s.toArray⟩)
/-- What spaces is asked for here. -/
def SpC (l : Int) (W : World) : Prop := l = 8 → ∀ (wr : World) (U : Nat → Prop) (sb bm br bb n : Nat) (f : Nat → UInt8), Below W.heap.size W wr → StAt U wr sb bm br bb n f f → ∀ z : Stp, z.ok → z.k = 8 →
  Calls Tryz.prog 13 #[.pointer (some ⟨sb, 0, none⟩), .agg (opv 8 z.a z.b z.c z.d ⟨z.s.toArray⟩)] wr fun e w' => e = .returned (.bool true) ∧ MvR U wr sb bm br bb n w'
/-- An empty store. -/
def storeZ (P : Program) : Array Value := match P.info? 44 with | some i => (match i.zero with | some (.agg z) => z | _ => #[]) | none => #[]
theorem storeZ_info : (Tryz.prog.info? 44).map (fun i => (i.zero, i.size)) = some (some (.agg (storeZ Tryz.prog)), 74) := by kernel_rfl
theorem storeZ_size : (storeZ Tryz.prog).size = 74 := by kernel_rfl
theorem storeZ_68 : (storeZ Tryz.prog)[68]? = some (.slice none 0 0) := by kernel_rfl
theorem storeZ_69 : (storeZ Tryz.prog)[69]? = some (.slice none 0 0) := by kernel_rfl
theorem storeZ_70 : (storeZ Tryz.prog)[70]? = some (.slice none 0 0) := by kernel_rfl
theorem storeZ_71 : (storeZ Tryz.prog)[71]? = some (.slice none 0 0) := by kernel_rfl
theorem storeZ_72 : (storeZ Tryz.prog)[72]? = some (.slice none 0 0) := by kernel_rfl
theorem storeZ_73 : (storeZ Tryz.prog)[73]? = some (.slice none 0 0) := by kernel_rfl
theorem infoStore : ∃ Z : Array Value, (Tryz.prog.info? 44).map (fun i => (i.zero, i.size)) = some (some (.agg Z), 74) ∧ Z.size = 74 ∧ ∀ j, 68 ≤ j → j < 74 → Z[j]? = some (.slice none 0 0) := by
  refine ⟨(storeZ Tryz.prog), storeZ_info, storeZ_size, fun j h1 h2 => ?_⟩
  have hc : j = 68 ∨ j = 69 ∨ j = 70 ∨ j = 71 ∨ j = 72 ∨ j = 73 := by omega
  rcases hc with rfl | rfl | rfl | rfl | rfl | rfl
  · exact storeZ_68
  · exact storeZ_69
  · exact storeZ_70
  · exact storeZ_71
  · exact storeZ_72
  · exact storeZ_73
theorem word77 : wordF (putF (fun _ => 0) 4 (fourB 77)) 4 = 77 := by decide +kernel
set_option maxRecDepth 100000 in
set_option maxHeartbeats 4000000 in
theorem stored_ok (l : Int) (hl : l = 7 ∨ l = 8) (W : World) (hsp : SpC l W) (pa : Option Addr) (len cap : Nat) (zs : List Stp) (hlen : zs.length = len) (hlc : len ≤ cap) (hcm : cap ≤ maxLen) (hp : ScAt W pa zs) (hz : ∀ z ∈ zs, z.ok) :
    Calls Tryz.prog 7 #[.slice pa len cap, .int .i64 l, .int .i64 l] W fun e w' => e = .returned (.bool true) ∧ Below W.heap.size W w' := by
  obtain ⟨Z, hZ, hZs, hZb⟩ := infoStore
  have hzero := (zero_of_info (P := Tryz.prog) hZ).1
  have HP := Vx.hid hp
  have HZ := Vx.hid hz
  have HL := Vx.hid hlen
  have HSP := Vx.hid hsp
  have HLL := Vx.hid hl
  have hlm : (len : Int) ≤ 9223372036854775807 := by simp [maxLen] at hcm; omega
  obtain ⟨sb, hsb⟩ : ∃ sb, sb = W.heap.size := ⟨_, rfl⟩
  obtain ⟨w0, hw0⟩ : ∃ w0, w0 = W.alloc (.cells Z 44) := ⟨_, rfl⟩
  have hO0 : Only (fun _ => False) W w0 := by rw [hw0]; exact (Only.refl _ W).alloc _
  have hS0 : SbAt w0 sb := ⟨Z, by rw [hw0, hsb]; exact heap_alloc_last _ _, hZs, hZb⟩
  have hs0 : w0.heap.size = sb + 1 := by rw [hw0, hsb]; simp
  have HBG := Vx.hid (begin_ok (U := fun k => k < W.heap.size ∨ k = sb) hS0 (Or.inr rfl) (fun k hk => by rcases hk with hk | hk <;> omega) 4 (by decide) (by decide))
  have HNW := Vx.hid (fun wv => new_ok 3 (by decide) (by decide) wv)
  have HST : Hid (W.heap.size ≤ sb ∧ Only (fun _ => False) W w0 ∧ w0.heap.size = sb + 1) := ⟨by omega, hO0, hs0⟩
  clear hZ hZs hZb hp hz hlen hsp hl hlc hcm hO0 hS0 hs0
  go_enter Tryz.func7, Tryz.ntmps7
  go_wp2_with fail
  rw [← hw0, ← hsb]
  refine HBG.out.mono ?_
  rintro e w1 ⟨rfl, hbg⟩
  have HBR := Vx.hid hbg
  clear hbg hw0 hsb hzero
  go_wp2_with fail
  refine (HNW.out w1).mono ?_
  rintro e w2 ⟨bz, rfl, _, _, ho2, hm2⟩
  have HM2 := Vx.hid (hm2 (fun k => k < w1.heap.size) (fun _ h => h))
  have HO2 := Vx.hid ho2
  clear hm2 ho2
  obtain ⟨bpz, qz0, hz0⟩ := HM2.out
  have HSW := Vx.hid (setWord_ok hz0 4 77 (by decide) (by decide) (by decide))
  clear hz0
  go_wp2_with fail
  refine HSW.out.mono ?_
  rintro e w3 ⟨rfl, ⟨qz, hz3⟩, ho3⟩
  have H0 : Hid (ScR W sb bz bpz qz (putF (fun _ => 0) 4 (fourB 77)) w3) := ScR.start HST.out.1 ⟨w0, HST.out.2.1, HST.out.2.2, HBR.out⟩ HO2.out ho3 hz3
  clear hz3 ho3
  have HFZ : Hid (wordF (putF (fun _ => 0) 4 (fourB 77)) 4 = 77) := word77
  generalize putF (fun _ => 0) 4 (fourB 77) = fz at H0 HFZ
  clear HSW HM2 HO2 HBR HBG HNW HST
  go_wp2_with fail
  go_loopw [8, 11] (fun ok d wr => ok = .bool true ∧ ∃ k : Nat, d = .int .i64 (k : Int) ∧ k ≤ len ∧ k ≤ 262144 ∧ Hid (ScR W sb bz bpz qz fz wr)) (fun _ d _ => len - (intOf d).toNat)
  case atStart => exact ⟨rfl, 0, rfl, by omega, by omega, H0⟩
  case round =>
    obtain ⟨rfl, k, rfl, hk, hk2, HR⟩ := hrel
    by_cases hlt : k < len ∧ k < 262144
    · have h1 : (k : Int) < (len : Int) := by omega
      have h2 : (k : Int) < 262144 := by omega
      have hidx : 0 ≤ (k : Int) ∧ (k : Int) < (len : Int) := by omega
      have hkz : k < zs.length := by have := HL.out; omega
      obtain ⟨ab, ao, rfl, hcz⟩ : ∃ ab ao, pa = some ⟨ab, ao, none⟩ ∧ ∀ (j : Nat) (h : j < zs.length), W.cell? ⟨ab, ao + j * 6, none⟩ = some (.int .i64 (zs[j]).k) ∧ W.cell? ⟨ab, ao + j * 6 + 1, none⟩ = some (.int .i64 (zs[j]).a) ∧ W.cell? ⟨ab, ao + j * 6 + 2, none⟩ = some (.int .i64 (zs[j]).b) ∧ W.cell? ⟨ab, ao + j * 6 + 3, none⟩ = some (.int .i64 (zs[j]).c) ∧ W.cell? ⟨ab, ao + j * 6 + 4, none⟩ = some (.int .i64 (zs[j]).d) ∧ W.cell? ⟨ab, ao + j * 6 + 5, none⟩ = some (.string ⟨(zs[j]).s.toArray⟩) := by
        rcases HP.out with h | h
        · rw [h] at hkz; simp at hkz
        · exact h
      obtain ⟨hc0, hc1, hc2, hc3, hc4, hc5⟩ := hcz k hkz
      have hab : ab < W.heap.size := World.block_lt_of_cell? W _ hc0
      have hcc : ∀ o, wr.cell? ⟨ab, o, none⟩ = W.cell? ⟨ab, o, none⟩ := fun o => HR.out.be.cell (p := ⟨ab, o, none⟩) hab
      obtain ⟨z, hzk⟩ : ∃ z, zs[k] = z := ⟨_, rfl⟩
      have HOK := Vx.hid (HZ.out zs[k] (List.getElem_mem _))
      rw [hzk] at hc0 hc1 hc2 hc3 hc4 hc5 HOK
      rw [← hcc] at hc0 hc1 hc2 hc3 hc4 hc5
      have hw9 : IntKind.i64.wrap ((k : Int) + 1) = (k : Int) + 1 := by rw [IntKind.wrap_i64]; omega
      clear hcz hcc hzk hlt hab
      obtain ⟨K, A, B, C, D, s⟩ := z
      simp only at hc0 hc1 hc2 hc3 hc4 hc5
      have HRA : Hid (∀ o : Obj, ScR W sb bz bpz qz fz (wr.alloc o)) := fun o => HR.out.quiet ((Only.refl _ wr).alloc o)
      by_cases hK1 : K = 1
      · subst hK1
        have HNE := Vx.hid (fun wv => near_any A HOK.out.2.1 12 (by decide) wv)
        generalize nearF A 12 = na at HNE
        have HBE : Hid (∀ o : Obj, Calls Tryz.prog 8 #[.pointer (some ⟨sb, 0, none⟩), .int .i64 na] (wr.alloc o) fun e w' => e = .returned (.bool true) ∧ ScR W sb bz bpz qz fz w') := fun o => (HRA.out o).begin na
        go_wp2_with fail
        refine (HNE.out _).mono ?_
        rintro e w' ⟨rfl, h⟩
        have h2' := h.symm; clear h; subst h2'
        go_wp2_with fail
        refine (HBE.out _).mono ?_
        rintro e w4 ⟨rfl, h4⟩
        have HR4 := Vx.hid h4
        clear h4
        go_wp2_with fail
        refine HR4.out.reads.mono ?_
        rintro e w' ⟨rfl, h⟩
        have h2' := h.symm; clear h; subst h2'
        go_wp2_with fail
        go_roundw
        case rel => exact ⟨rfl, k + 1, by go_num, by omega, by omega, HR4⟩
        case measure => simp only [intOf]; omega
      · have e1 : (K == 1) = false := by rw [beq_eq_false_iff_ne]; exact hK1
        have e1' : decide (K = 1) = false := decide_eq_false hK1
        by_cases hK7 : K ≤ 7
        · have d7 : decide (K ≤ 7) = true := decide_eq_true hK7
          have HMV : Hid (∀ o : Obj, Calls Tryz.prog 12 #[.pointer (some ⟨sb, 0, none⟩), .agg #[.int .i64 K, .int .i64 A, .int .i64 B, .int .i64 C, .int .i64 D, .string ⟨s.toArray⟩]] (wr.alloc o) fun e w' => e = .returned (.bool true) ∧ ScR W sb bz bpz qz fz w') := fun o => (HRA.out o).moves K A B C D hK7 HOK.out.2.1 HOK.out.2.2.1 s HOK.out.2.2.2.2.2
          go_wp2_with fail
          refine (HMV.out _).mono ?_
          rintro e w4 ⟨rfl, h4⟩
          have HR4 := Vx.hid h4
          clear h4
          go_wp2_with fail
          refine HR4.out.reads.mono ?_
          rintro e w' ⟨rfl, h⟩
          have h2' := h.symm; clear h; subst h2'
          go_wp2_with fail
          go_roundw
          case rel => exact ⟨rfl, k + 1, by go_num, by omega, by omega, HR4⟩
          case measure => simp only [intOf]; omega
        · rcases HLL.out with hl | hl
          · subst hl
            have c1 : 7 ≤ K := by omega
            have d1 : decide (7 ≤ K) = true := decide_eq_true c1
            have d2 : decide (K ≤ 7) = false := decide_eq_false hK7
            have HR4 := Vx.hid (HRA.out (.cells #[.int .i64 K, .int .i64 A, .int .i64 B, .int .i64 C, .int .i64 D, .string ⟨s.toArray⟩] 51))
            go_wp2_with fail
            refine HR4.out.reads.mono ?_
            rintro e w' ⟨rfl, h⟩
            have h2' := h.symm; clear h; subst h2'
            go_wp2_with fail
            go_roundw
            case rel => exact ⟨rfl, k + 1, by go_num, by omega, by omega, HR4⟩
            case measure => simp only [intOf]; omega
          · subst hl
            by_cases hK8 : K = 8
            · subst hK8
              obtain ⟨Uc, bm, br, bb, n, f, e1, e2, e3⟩ := (HRA.out (.cells #[.int .i64 8, .int .i64 A, .int .i64 B, .int .i64 C, .int .i64 D, .string ⟨s.toArray⟩] 51)).ex
              have HSC : Hid (Calls Tryz.prog 13 #[.pointer (some ⟨sb, 0, none⟩), .agg #[.int .i64 8, .int .i64 A, .int .i64 B, .int .i64 C, .int .i64 D, .string ⟨s.toArray⟩]] (wr.alloc (.cells #[.int .i64 8, .int .i64 A, .int .i64 B, .int .i64 C, .int .i64 D, .string ⟨s.toArray⟩] 51)) fun e w' => e = .returned (.bool true) ∧ ScR W sb bz bpz qz fz w') := by
                refine (HSP.out rfl _ Uc sb bm br bb n f (HRA.out _).be e1 ⟨8, A, B, C, D, s⟩ HOK.out rfl).mono ?_
                rintro e w4 ⟨rfl, hmv⟩
                exact ⟨rfl, (HRA.out _).moved e2 e3 hmv⟩
              clear e1 e2 e3
              go_wp2_with fail
              refine HSC.out.mono ?_
              rintro e w4 ⟨rfl, h4⟩
              have HR4 := Vx.hid h4
              clear h4
              go_wp2_with fail
              refine HR4.out.reads.mono ?_
              rintro e w' ⟨rfl, h⟩
              have h2' := h.symm; clear h; subst h2'
              go_wp2_with fail
              go_roundw
              case rel => exact ⟨rfl, k + 1, by go_num, by omega, by omega, HR4⟩
              case measure => simp only [intOf]; omega
            · have d7 : decide (K ≤ 7) = false := decide_eq_false hK7
              have c1 : 8 ≤ K := by omega
              have c2 : ¬ K ≤ 8 := by omega
              have d1 : decide (8 ≤ K) = true := decide_eq_true c1
              have d2 : decide (K ≤ 8) = false := decide_eq_false c2
              have HR4 := Vx.hid (HRA.out (.cells #[.int .i64 K, .int .i64 A, .int .i64 B, .int .i64 C, .int .i64 D, .string ⟨s.toArray⟩] 51))
              go_wp2_with fail
              refine HR4.out.reads.mono ?_
              rintro e w' ⟨rfl, h⟩
              have h2' := h.symm; clear h; subst h2'
              go_wp2_with fail
              go_roundw
              case rel => exact ⟨rfl, k + 1, by go_num, by omega, by omega, HR4⟩
              case measure => simp only [intOf]; omega
    · have HWZ : Hid (Calls Tryz.prog 16 #[.pointer (some ⟨bz, 0, none⟩), .int .i64 4] wr fun e w' => e = .returned (.tuple #[.int .u32 77, .int .i64 0]) ∧ ScR W sb bz bpz qz fz w') := by
        refine (word_ok ⟨bpz, qz, HR.out.z⟩ 4 (by decide) (by decide)).mono ?_
        rintro e w' ⟨rfl, ho⟩
        rw [HFZ.out]
        exact ⟨rfl, HR.out.quiet ho⟩
      have hgo : (¬ (k : Int) < (len : Int)) ∨ ((k : Int) < (len : Int) ∧ ¬ (k : Int) < 262144) := by omega
      clear hlt
      rcases hgo with h1 | ⟨h1, h2⟩
      all_goals
        go_wp2_with fail
        refine HWZ.out.mono ?_
        rintro e w4 ⟨rfl, h4⟩
        have HR4 := Vx.hid h4
        clear h4
        go_wp2_with fail
        refine HR4.out.whole.mono ?_
        rintro e w5 ⟨rfl, h5⟩
        have HR5 := Vx.hid h5
        clear h5
        go_wp2_with fail
        all_goals
          go_ret
          exact ⟨rfl, HR5.out.be⟩
end Go.Proofs.YtflmobffeeocdaaGreatDoor

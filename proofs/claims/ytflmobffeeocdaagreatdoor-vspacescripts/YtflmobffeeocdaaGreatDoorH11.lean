/- The walk of a script of chapter 5. -/
import Derived.Test.YtflmobffeeocdaaGreatDoorOpA
import Derived.Test.YtflmobffeeocdaaGreatDoorH9
import Derived.Test.YtflmobffeeocdaaGreatDoorH10
namespace Go.Proofs.YtflmobffeeocdaaGreatDoor
open Go.ChangeShapes Go.WideShapes Go.ChangeAt Go.RowKit
open Go.Vx

theorem ScM.spaces {W : World} {sb bz bpz : Nat} {qz : Nat → Option Nat} {fz : Nat → UInt8} {cnt : Nat} {wr : World} (h : ScM W sb bz bpz qz fz cnt wr) (hcn : cnt ≤ 300000) (K A B C D : Int) (h9 : 9 ≤ K) (h14 : K ≤ 14) (hA : I64 A) (hC : I64 C) (hD : I64 D) (s : List UInt8) :
    Calls Tryz.prog 13 #[.pointer (some ⟨sb, 0, none⟩), .agg (opv K A B C D ⟨s.toArray⟩)] wr fun e w' => e = .returned (.bool true) ∧ ScM W sb bz bpz qz fz (cnt + 1) w' := by
  obtain ⟨BB, v, ss, Uc, bm, br, bb, n, f, h1, h2, h3, h4, h5, h6, h7⟩ := h.ex
  have hBl : ∀ k, BB k → k < wr.heap.size := fun k hk => by
    obtain ⟨bp, q, hm⟩ := h1.m
    exact hm.low k (h6 k hk).1
  have hBs : ¬ BB sb := fun hk => (h6 sb hk).2.1 (Or.inr (Or.inl rfl))
  have hc : K = 9 ∨ K = 10 ∨ K = 11 ∨ K = 12 ∨ K = 13 ∨ K = 14 := by omega
  rcases hc with rfl | rfl | rfl | rfl | rfl | rfl
  · refine (spaces_table h1 A B C D hA hC hD s).mono ?_
    rintro e w' ⟨rfl, hm⟩
    exact ⟨rfl, (h.moved h2 h3 h4 h5 h6 h7 hm).more⟩
  · refine (spaces_none h1 A B C D hA hC hD s).mono ?_
    rintro e w' ⟨rfl, hm⟩
    exact ⟨rfl, (h.moved h2 h3 h4 h5 h6 h7 hm).more⟩
  · refine (spaces_map h1 A B C D hA hC hD s).mono ?_
    rintro e w' ⟨rfl, hm⟩
    exact ⟨rfl, (h.moved h2 h3 h4 h5 h6 h7 hm).more⟩
  · refine (spaces_unmap h1 A B C D hA hC hD s).mono ?_
    rintro e w' ⟨rfl, hm⟩
    exact ⟨rfl, (h.moved h2 h3 h4 h5 h6 h7 hm).more⟩
  · refine (spaces_tables h1 h4 h5 hBl hBs (by omega) A B C D hA hC s).mono ?_
    rintro e w' ⟨rfl, w3, l, ho, hl, hl2, hom⟩
    exact ⟨rfl, h.listed h1 h2 h3 h4 h6 h7 h5 ho hl hl2 hom⟩
  · refine (spaces_maps h1 h4 h5 hBl hBs (by omega) A B C D hA hC s).mono ?_
    rintro e w' ⟨rfl, w3, l, ho, hl, hl2, hom⟩
    exact ⟨rfl, h.listed h1 h2 h3 h4 h6 h7 h5 ho hl hl2 hom⟩
set_option maxRecDepth 100000 in
set_option maxHeartbeats 4000000 in
theorem storedM_ok (W : World) (pa : Option Addr) (len cap : Nat) (zs : List Stp) (hlen : zs.length = len) (hlc : len ≤ cap) (hcm : cap ≤ maxLen) (hp : ScAt W pa zs) (hz : ∀ z ∈ zs, z.ok) :
    Calls Tryz.prog 7 #[.slice pa len cap, .int .i64 9, .int .i64 14] W fun e w' => e = .returned (.bool true) ∧ Below W.heap.size W w' := by
  obtain ⟨Z, hZ, hZs, hZb⟩ := infoStore
  have hzero := (zero_of_info (P := Tryz.prog) hZ).1
  have HP := Vx.hid hp
  have HZ := Vx.hid hz
  have HL := Vx.hid hlen
  have hlm : (len : Int) ≤ 9223372036854775807 := by simp [maxLen] at hcm; omega
  obtain ⟨sb, hsb⟩ : ∃ sb, sb = W.heap.size := ⟨_, rfl⟩
  obtain ⟨w0, hw0⟩ : ∃ w0, w0 = W.alloc (.cells Z 44) := ⟨_, rfl⟩
  have hO0 : Only (fun _ => False) W w0 := by rw [hw0]; exact (Only.refl _ W).alloc _
  have hS0 : SbAt w0 sb := ⟨Z, by rw [hw0, hsb]; exact heap_alloc_last _ _, hZs, hZb⟩
  have hs0 : w0.heap.size = sb + 1 := by rw [hw0, hsb]; simp
  have HBG := Vx.hid (begin_ok (U := fun k => k < W.heap.size ∨ k = sb) hS0 (Or.inr rfl) (fun k hk => by rcases hk with hk | hk <;> omega) 4 (by decide) (by decide))
  have HNW := Vx.hid (fun wv => new_ok 3 (by decide) (by decide) wv)
  have HST : Hid (W.heap.size ≤ sb ∧ Only (fun _ => False) W w0 ∧ w0.heap.size = sb + 1) := ⟨by omega, hO0, hs0⟩
  clear hZ hZs hZb hp hz hlen hlc hcm hO0 hS0 hs0
  go_enter Tryz.func7, Tryz.ntmps7
  go_wp2_with fail
  rw [← hw0, ← hsb]
  refine HBG.out.mono ?_
  rintro e w1 ⟨rfl, hbg⟩
  have HBR := Vx.hid hbg
  clear hbg hw0 hsb hzero
  go_wp2_with fail
  refine (HNW.out w1).mono ?_
  rintro e w2 ⟨bz, rfl, _, _, ho2, hm2⟩
  have HM2 := Vx.hid (hm2 (fun k => k < w1.heap.size) (fun _ h => h))
  have HO2 := Vx.hid ho2
  clear hm2 ho2
  obtain ⟨bpz, qz0, hz0⟩ := HM2.out
  have HSW := Vx.hid (setWord_ok hz0 4 77 (by decide) (by decide) (by decide))
  clear hz0
  go_wp2_with fail
  refine HSW.out.mono ?_
  rintro e w3 ⟨rfl, ⟨qz, hz3⟩, ho3⟩
  have H0 : Hid (ScM W sb bz bpz qz (putF (fun _ => 0) 4 (fourB 77)) 0 w3) := ScM.of (ScR.start HST.out.1 ⟨w0, HST.out.2.1, HST.out.2.2, HBR.out⟩ HO2.out ho3 hz3)
  clear hz3 ho3
  have HFZ : Hid (wordF (putF (fun _ => 0) 4 (fourB 77)) 4 = 77) := word77
  generalize putF (fun _ => 0) 4 (fourB 77) = fz at H0 HFZ
  clear HSW HM2 HO2 HBR HBG HNW HST
  go_wp2_with fail
  go_loopw [8, 11] (fun ok d wr => ok = .bool true ∧ ∃ k : Nat, d = .int .i64 (k : Int) ∧ k ≤ len ∧ k ≤ 262144 ∧ Hid (ScM W sb bz bpz qz fz k wr)) (fun _ d _ => len - (intOf d).toNat)
  case atStart => exact ⟨rfl, 0, rfl, by omega, by omega, H0⟩
  case round =>
    obtain ⟨rfl, k, rfl, hk, hk2, HR⟩ := hrel
    by_cases hlt : k < len ∧ k < 262144
    · have h1 : (k : Int) < (len : Int) := by omega
      have h2 : (k : Int) < 262144 := by omega
      have hidx : 0 ≤ (k : Int) ∧ (k : Int) < (len : Int) := by omega
      have hkz : k < zs.length := by have := HL.out; omega
      obtain ⟨ab, ao, rfl, hcz⟩ : ∃ ab ao, pa = some ⟨ab, ao, none⟩ ∧ ∀ (j : Nat) (h : j < zs.length), W.cell? ⟨ab, ao + j * 6, none⟩ = some (.int .i64 (zs[j]).k) ∧ W.cell? ⟨ab, ao + j * 6 + 1, none⟩ = some (.int .i64 (zs[j]).a) ∧ W.cell? ⟨ab, ao + j * 6 + 2, none⟩ = some (.int .i64 (zs[j]).b) ∧ W.cell? ⟨ab, ao + j * 6 + 3, none⟩ = some (.int .i64 (zs[j]).c) ∧ W.cell? ⟨ab, ao + j * 6 + 4, none⟩ = some (.int .i64 (zs[j]).d) ∧ W.cell? ⟨ab, ao + j * 6 + 5, none⟩ = some (.string ⟨(zs[j]).s.toArray⟩) := by
        rcases HP.out with h | h
        · rw [h] at hkz; simp at hkz
        · exact h
      obtain ⟨hc0, hc1, hc2, hc3, hc4, hc5⟩ := hcz k hkz
      have hab : ab < W.heap.size := World.block_lt_of_cell? W _ hc0
      have hcc : ∀ o, wr.cell? ⟨ab, o, none⟩ = W.cell? ⟨ab, o, none⟩ := fun o => HR.out.be.cell (p := ⟨ab, o, none⟩) hab
      obtain ⟨z, hzk⟩ : ∃ z, zs[k] = z := ⟨_, rfl⟩
      have HOK := Vx.hid (HZ.out zs[k] (List.getElem_mem _))
      rw [hzk] at hc0 hc1 hc2 hc3 hc4 hc5 HOK
      rw [← hcc] at hc0 hc1 hc2 hc3 hc4 hc5
      have hw9 : IntKind.i64.wrap ((k : Int) + 1) = (k : Int) + 1 := by rw [IntKind.wrap_i64]; omega
      clear hcz hcc hzk hlt hab
      obtain ⟨K, A, B, C, D, s⟩ := z
      simp only at hc0 hc1 hc2 hc3 hc4 hc5
      have HRA : Hid (∀ o : Obj, ScM W sb bz bpz qz fz k (wr.alloc o)) := fun o => HR.out.quiet ((Only.refl _ wr).alloc o)
      have HKB : Hid (k ≤ 300000) := by show _ ≤ _; omega
      by_cases hK1 : K = 1
      · subst hK1
        have HNE := Vx.hid (fun wv => near_any A HOK.out.2.1 12 (by decide) wv)
        generalize nearF A 12 = na at HNE
        have HBE : Hid (∀ o : Obj, Calls Tryz.prog 8 #[.pointer (some ⟨sb, 0, none⟩), .int .i64 na] (wr.alloc o) fun e w' => e = .returned (.bool true) ∧ ScM W sb bz bpz qz fz k w') := fun o => (HRA.out o).begin na
        go_wp2_with fail
        refine (HNE.out _).mono ?_
        rintro e w' ⟨rfl, h⟩
        have h2' := h.symm; clear h; subst h2'
        go_wp2_with fail
        refine (HBE.out _).mono ?_
        rintro e w4 ⟨rfl, h4⟩
        have HR4 := Vx.hid h4
        clear h4
        go_wp2_with fail
        refine (HR4.out.reads HKB.out).mono ?_
        rintro e w' ⟨rfl, h⟩
        have h2' := h.symm; clear h; subst h2'
        go_wp2_with fail
        go_roundw
        case rel => exact ⟨rfl, k + 1, by go_num, by omega, by omega, HR4.out.more⟩
        case measure => simp only [intOf]; omega
      · have e1 : (K == 1) = false := by rw [beq_eq_false_iff_ne]; exact hK1
        have e1' : decide (K = 1) = false := decide_eq_false hK1
        by_cases hK7 : K ≤ 7
        · have d7 : decide (K ≤ 7) = true := decide_eq_true hK7
          have HMV : Hid (∀ o : Obj, Calls Tryz.prog 12 #[.pointer (some ⟨sb, 0, none⟩), .agg #[.int .i64 K, .int .i64 A, .int .i64 B, .int .i64 C, .int .i64 D, .string ⟨s.toArray⟩]] (wr.alloc o) fun e w' => e = .returned (.bool true) ∧ ScM W sb bz bpz qz fz k w') := fun o => (HRA.out o).moves K A B C D hK7 HOK.out.2.1 HOK.out.2.2.1 s HOK.out.2.2.2.2.2
          go_wp2_with fail
          refine (HMV.out _).mono ?_
          rintro e w4 ⟨rfl, h4⟩
          have HR4 := Vx.hid h4
          clear h4
          go_wp2_with fail
          refine (HR4.out.reads HKB.out).mono ?_
          rintro e w' ⟨rfl, h⟩
          have h2' := h.symm; clear h; subst h2'
          go_wp2_with fail
          go_roundw
          case rel => exact ⟨rfl, k + 1, by go_num, by omega, by omega, HR4.out.more⟩
          case measure => simp only [intOf]; omega
        · have d7 : decide (K ≤ 7) = false := decide_eq_false hK7
          by_cases hin : 9 ≤ K ∧ K ≤ 14
          · have k9 : decide (9 ≤ K) = true := decide_eq_true hin.1
            have k14 : decide (K ≤ 14) = true := decide_eq_true hin.2
            have HSC : Hid (∀ o : Obj, Calls Tryz.prog 13 #[.pointer (some ⟨sb, 0, none⟩), .agg #[.int .i64 K, .int .i64 A, .int .i64 B, .int .i64 C, .int .i64 D, .string ⟨s.toArray⟩]] (wr.alloc o) fun e w' => e = .returned (.bool true) ∧ ScM W sb bz bpz qz fz (k + 1) w') := fun o => (HRA.out o).spaces (by omega) K A B C D hin.1 hin.2 HOK.out.2.1 HOK.out.2.2.2.1 HOK.out.2.2.2.2.1 s
            have HKC : Hid (k + 1 ≤ 300000) := by show _ ≤ _; omega
            have i1 : 9 ≤ K := hin.1
            have i2 : K ≤ 14 := hin.2
            clear hin
            go_wp2_with fail
            refine (HSC.out _).mono ?_
            rintro e w4 ⟨rfl, h4⟩
            have HR4 := Vx.hid h4
            clear h4
            go_wp2_with fail
            refine (HR4.out.reads HKC.out).mono ?_
            rintro e w' ⟨rfl, h⟩
            have h2' := h.symm; clear h; subst h2'
            go_wp2_with fail
            go_roundw
            case rel => exact ⟨rfl, k + 1, by go_num, by omega, by omega, HR4⟩
            case measure => simp only [intOf]; omega
          · have HR4 := Vx.hid (HRA.out (.cells #[.int .i64 K, .int .i64 A, .int .i64 B, .int .i64 C, .int .i64 D, .string ⟨s.toArray⟩] 51))
            by_cases k8 : 9 ≤ K
            · have i2 : ¬ K ≤ 14 := fun h => hin ⟨k8, h⟩
              have k9 : decide (9 ≤ K) = true := decide_eq_true k8
              have k14 : decide (K ≤ 14) = false := decide_eq_false i2
              clear hin
              go_wp2_with fail
              refine (HR4.out.reads HKB.out).mono ?_
              rintro e w' ⟨rfl, h⟩
              have h2' := h.symm; clear h; subst h2'
              go_wp2_with fail
              go_roundw
              case rel => exact ⟨rfl, k + 1, by go_num, by omega, by omega, HR4.out.more⟩
              case measure => simp only [intOf]; omega
            · have k9 : decide (9 ≤ K) = false := decide_eq_false k8
              clear hin
              go_wp2_with fail
              refine (HR4.out.reads HKB.out).mono ?_
              rintro e w' ⟨rfl, h⟩
              have h2' := h.symm; clear h; subst h2'
              go_wp2_with fail
              go_roundw
              case rel => exact ⟨rfl, k + 1, by go_num, by omega, by omega, HR4.out.more⟩
              case measure => simp only [intOf]; omega
    · have HWZ : Hid (Calls Tryz.prog 16 #[.pointer (some ⟨bz, 0, none⟩), .int .i64 4] wr fun e w' => e = .returned (.tuple #[.int .u32 77, .int .i64 0]) ∧ ScM W sb bz bpz qz fz k w') := by
        refine (word_ok ⟨bpz, qz, HR.out.z⟩ 4 (by decide) (by decide)).mono ?_
        rintro e w' ⟨rfl, ho⟩
        rw [HFZ.out]
        exact ⟨rfl, HR.out.quiet ho⟩
      have hgo : (¬ (k : Int) < (len : Int)) ∨ ((k : Int) < (len : Int) ∧ ¬ (k : Int) < 262144) := by omega
      clear hlt
      rcases hgo with h1 | ⟨h1, h2⟩
      all_goals
        go_wp2_with fail
        refine HWZ.out.mono ?_
        rintro e w4 ⟨rfl, h4⟩
        have HR4 := Vx.hid h4
        clear h4
        go_wp2_with fail
        refine HR4.out.whole.mono ?_
        rintro e w5 ⟨rfl, h5⟩
        have HR5 := Vx.hid h5
        clear h5
        go_wp2_with fail
        all_goals
          go_ret
          exact ⟨rfl, HR5.out.be⟩
theorem vspaceScripts_call (W : World) (pa : Option Addr) (len cap : Nat) (zs : List Stp) (hlen : zs.length = len) (hlc : len ≤ cap) (hcm : cap ≤ maxLen) (hp : ScAt W pa zs) (hz : ∀ z ∈ zs, z.ok) :
    Calls Tryz.prog 5 #[.slice pa len cap] W fun e w' => e = .returned (.bool true) ∧ Below W.heap.size W w' := by
  have H := Vx.hid (storedM_ok W pa len cap zs hlen hlc hcm hp hz)
  clear hlen hlc hcm hp hz
  go_enter Tryz.func5, Tryz.ntmps5
  go_wp2_with fail
  refine H.out.mono ?_
  rintro e w1 ⟨rfl, hb⟩
  have HB := Vx.hid hb
  clear hb
  go_wp2_with fail
  all_goals
    go_ret
    exact ⟨rfl, HB.out⟩
end Go.Proofs.YtflmobffeeocdaaGreatDoor

import Derived.Test.YtflmobffeeocdaaGreatDoorCh12
import Derived.Test.YtflmobffeeocdaaGreatDoorCh51
import Derived.Test.YtflmobffeeocdaaGreatDoorCh52
/- The walk of a script of chapter 6. -/
namespace Go.Proofs.YtflmobffeeocdaaGreatDoor
open Go.ChangeShapes Go.WideShapes Go.ChangeAt Go.RowKit
open Go.Vx
set_option linter.unusedVariables false

theorem storeZ_u : ((storeZ Tryz.prog).toList.drop 2).take 33 = List.replicate 33 (Value.int .u32 0) := by kernel_rfl
theorem storeZ_i : ((storeZ Tryz.prog).toList.drop 35).take 33 = List.replicate 33 (Value.int .i64 0) := by kernel_rfl
theorem cut_at {Z : Array Value} {d : Nat} {v : Value} (h : (Z.toList.drop d).take 33 = List.replicate 33 v) (i : Nat) (hi : i < 33) : Z[d + i]? = some v := by
  have h1 : ((Z.toList.drop d).take 33)[i]? = some v := by rw [h, List.getElem?_replicate, if_pos hi]
  rw [List.getElem?_take_of_lt hi, List.getElem?_drop] at h1
  rw [← h1, Array.getElem?_toList]
theorem infoStoreH : ∃ Z : Array Value, (Tryz.prog.info? 44).map (fun i => (i.zero, i.size)) = some (some (.agg Z), 74) ∧ Z.size = 74 ∧ (∀ j, 68 ≤ j → j < 74 → Z[j]? = some (.slice none 0 0)) ∧ (∀ i, i < 33 → Z[2 + i]? = some (.int .u32 0)) ∧ ∀ i, i < 33 → Z[35 + i]? = some (.int .i64 0) := by
  refine ⟨(storeZ Tryz.prog), storeZ_info, storeZ_size, fun j h1 h2 => ?_, cut_at storeZ_u, cut_at storeZ_i⟩
  have hc : j = 68 ∨ j = 69 ∨ j = 70 ∨ j = 71 ∨ j = 72 ∨ j = 73 := by omega
  rcases hc with rfl | rfl | rfl | rfl | rfl | rfl
  · exact storeZ_68
  · exact storeZ_69
  · exact storeZ_70
  · exact storeZ_71
  · exact storeZ_72
  · exact storeZ_73
theorem MisAt.below {B : Nat} {w w' : World} (h : MisAt w) (hb : Below B w w') (hB : 1 < B) : MisAt w' := fun u hu => by
  rw [hb.cell (p := ⟨1, u, none⟩) hB]
  exact h u hu
theorem ScH.steps {W : World} {sb bz bpz : Nat} {qz : Nat → Option Nat} {fz : Nat → UInt8} {wr : World} (h : ScH W sb bz bpz qz fz wr) (hg : UsesAt W ∧ MisAt W ∧ FormsAt W) (K A B C D : Int) (h15 : 15 ≤ K) (h17 : K ≤ 17) (hA : I64 A) (hC : I64 C) (s : List UInt8) :
    Calls Tryz.prog 14 #[.pointer (some ⟨sb, 0, none⟩), .agg (opv K A B C D ⟨s.toArray⟩)] wr fun e w' => e = .returned (.bool true) ∧ ScH W sb bz bpz qz fz w' := by
  have hc : K = 15 ∨ K = 16 ∨ K = 17 := by omega
  rcases hc with rfl | rfl | rfl
  · obtain ⟨Uc, bm, br, bb, n, f, h1, h2, h3⟩ := h.r.ex
    obtain ⟨R, pc, hx, hr, h0⟩ := h.x
    have l0 : 0 < W.heap.size := World.block_lt_of_cell? W _ (hg.1 0 (by decide)).1
    have l1 : 1 < W.heap.size := World.block_lt_of_cell? W _ (hg.2.1 0 (by decide))
    have l2 : 2 < W.heap.size := hg.2.2.1
    have hws := h.r.wsb
    have hbl := lt_of_some h1.r.b
    have hsl := h1.sbl
    have hbW : ∀ k, k < W.heap.size → k ≠ bb := fun k hk e => h3 (by rw [← e]; exact Or.inl hk)
    have ha : Only (fun _ => False) wr (wr.alloc (.cells (opv 15 A B C D ⟨s.toArray⟩) 51)) := (Only.refl _ _).alloc _
    have hl : LpS Uc wr sb bm br bb n wr.heap.size A B C D s f R pc (wr.alloc (.cells (opv 15 A B C D ⟨s.toArray⟩) 51)) :=
      ⟨⟨h1.beside _, hx.only ha (fun h => h), h.r.sat.only ha (fun h => h)⟩, hr, h0, ⟨heap_alloc_last _ _⟩, (Only.refl _ _).alloc _,
        ⟨(hg.1.below h.r.be l0).only ha (fun h => h), (hg.2.1.below h.r.be l1).only ha (fun h => h), (hg.2.2.below l2 h.r.be).only ha (fun h => h)⟩, by omega, by omega, Nat.le_refl _⟩
    refine (steps_loop (W := wr) A B C D hA hC s hl ⟨h2 _ (Or.inl l0), h2 _ (Or.inl l1), h2 _ (Or.inl l2)⟩ ⟨⟨hbW _ l0, by omega⟩, ⟨hbW _ l1, by omega⟩, ⟨hbW _ l2, by omega⟩⟩).mono ?_
    rintro e w' ⟨rfl, f1, R1, pc1, hL⟩
    refine ⟨rfl, h.r.step hL.on (fun k hk hs => ?_) hL.hs.sat ⟨Uc, bm, br, bb, n, f1, ⟨hL.hs.st.c0, hL.hs.st.c1, hL.hs.st.sbl, hL.hs.st.m.less (fun k hk => Or.inl hk), hL.hs.st.r, h1.us, h1.ur, h1.ub, h1.ne⟩, h2, h3⟩, R1, pc1, hL.hs.hx, hL.ok, hL.z⟩
    rcases hs with hs | hs | hs
    · exact absurd (h2 k hk) hs
    · exact absurd (hs ▸ hk) h3
    · exact hs
  · exact steps_reg h A B C D hA s
  · exact steps_pc h A B C D s
set_option maxRecDepth 100000 in
set_option maxHeartbeats 4000000 in
theorem storedH_ok (W : World) (pa : Option Addr) (len cap : Nat) (zs : List Stp) (hlen : zs.length = len) (hlc : len ≤ cap) (hcm : cap ≤ maxLen) (hp : ScAt W pa zs) (hz : ∀ z ∈ zs, z.ok) (hg : UsesAt W ∧ MisAt W ∧ FormsAt W) :
    Calls Tryz.prog 7 #[.slice pa len cap, .int .i64 15, .int .i64 17] W fun e w' => e = .returned (.bool true) ∧ Below W.heap.size W w' := by
  have HGL := Vx.hid hg
  obtain ⟨Z, hZ, hZs, hZb, hZu, hZi⟩ := infoStoreH
  have hzero := (zero_of_info (P := Tryz.prog) hZ).1
  have HP := Vx.hid hp
  have HZ := Vx.hid hz
  have HL := Vx.hid hlen
  have hlm : (len : Int) ≤ 9223372036854775807 := by simp [maxLen] at hcm; omega
  obtain ⟨sb, hsb⟩ : ∃ sb, sb = W.heap.size := ⟨_, rfl⟩
  obtain ⟨w0, hw0⟩ : ∃ w0, w0 = W.alloc (.cells Z 44) := ⟨_, rfl⟩
  have hO0 : Only (fun _ => False) W w0 := by rw [hw0]; exact (Only.refl _ W).alloc _
  have hS0 : SbAt w0 sb := ⟨Z, by rw [hw0, hsb]; exact heap_alloc_last _ _, hZs, hZb⟩
  have HX0 : Hid (HxAt w0 sb (fun _ => 0) 0) := by
    have hb : w0.heap[sb]? = some (.cells Z 44 (0, 0)) := by rw [hw0, hsb]; exact heap_alloc_last _ _
    exact ⟨Z, ⟨hb, fun i hi => hZu i (by omega), hZu 32 (by decide)⟩, ⟨hb, fun i hi => hZi i (by omega), hZi 32 (by decide)⟩⟩
  have hs0 : w0.heap.size = sb + 1 := by rw [hw0, hsb]; simp
  have HBG := Vx.hid (begin_okH (U := fun k => k < W.heap.size ∨ k = sb) hS0 (Or.inr rfl) (fun k hk => by rcases hk with hk | hk <;> omega) 4 (by decide) (by decide))
  have HNW := Vx.hid (fun wv => new_ok 3 (by decide) (by decide) wv)
  have HST : Hid (W.heap.size ≤ sb ∧ Only (fun _ => False) W w0 ∧ w0.heap.size = sb + 1) := ⟨by omega, hO0, hs0⟩
  clear hZ hZs hZb hZu hZi hp hz hlen hlc hcm hO0 hS0 hs0 hg
  go_enter Tryz.func7, Tryz.ntmps7
  go_wp2_with fail
  rw [← hw0, ← hsb]
  refine HBG.out.mono ?_
  rintro e w1 ⟨rfl, hbg, hbx⟩
  have HBR := Vx.hid hbg
  have HX1 := Vx.hid (hbx _ _ HX0.out)
  clear hbg hbx hw0 hsb hzero
  go_wp2_with fail
  refine (HNW.out w1).mono ?_
  rintro e w2 ⟨bz, rfl, _, _, ho2, hm2⟩
  have HM2 := Vx.hid (hm2 (fun k => k < w1.heap.size) (fun _ h => h))
  have HO2 := Vx.hid ho2
  clear hm2 ho2
  obtain ⟨bpz, qz0, hz0⟩ := HM2.out
  have HSW := Vx.hid (setWord_ok hz0 4 77 (by decide) (by decide) (by decide))
  clear hz0
  go_wp2_with fail
  refine HSW.out.mono ?_
  rintro e w3 ⟨rfl, ⟨qz, hz3⟩, ho3⟩
  have H0 : Hid (ScH W sb bz bpz qz (putF (fun _ => 0) 4 (fourB 77)) w3) := ScH.start (ScR.start HST.out.1 ⟨w0, HST.out.2.1, HST.out.2.2, HBR.out⟩ HO2.out ho3 hz3) HX1.out HO2.out ho3
  clear hz3 ho3
  have HFZ : Hid (wordF (putF (fun _ => 0) 4 (fourB 77)) 4 = 77) := word77
  generalize putF (fun _ => 0) 4 (fourB 77) = fz at H0 HFZ
  clear HSW HM2 HO2 HBR HBG HNW HST HX0 HX1
  go_wp2_with fail
  go_loopw [8, 11] (fun ok d wr => ok = .bool true ∧ ∃ k : Nat, d = .int .i64 (k : Int) ∧ k ≤ len ∧ k ≤ 262144 ∧ Hid (ScH W sb bz bpz qz fz wr)) (fun _ d _ => len - (intOf d).toNat)
  case atStart => exact ⟨rfl, 0, rfl, by omega, by omega, H0⟩
  case round =>
    obtain ⟨rfl, k, rfl, hk, hk2, HR⟩ := hrel
    by_cases hlt : k < len ∧ k < 262144
    · have h1 : (k : Int) < (len : Int) := by omega
      have h2 : (k : Int) < 262144 := by omega
      have hidx : 0 ≤ (k : Int) ∧ (k : Int) < (len : Int) := by omega
      have hkz : k < zs.length := by have := HL.out; omega
      obtain ⟨ab, ao, rfl, hcz⟩ : ∃ ab ao, pa = some ⟨ab, ao, none⟩ ∧ ∀ (j : Nat) (h : j < zs.length), W.cell? ⟨ab, ao + j * 6, none⟩ = some (.int .i64 (zs[j]).k) ∧ W.cell? ⟨ab, ao + j * 6 + 1, none⟩ = some (.int .i64 (zs[j]).a) ∧ W.cell? ⟨ab, ao + j * 6 + 2, none⟩ = some (.int .i64 (zs[j]).b) ∧ W.cell? ⟨ab, ao + j * 6 + 3, none⟩ = some (.int .i64 (zs[j]).c) ∧ W.cell? ⟨ab, ao + j * 6 + 4, none⟩ = some (.int .i64 (zs[j]).d) ∧ W.cell? ⟨ab, ao + j * 6 + 5, none⟩ = some (.string ⟨(zs[j]).s.toArray⟩) := by
        rcases HP.out with h | h
        · rw [h] at hkz; simp at hkz
        · exact h
      obtain ⟨hc0, hc1, hc2, hc3, hc4, hc5⟩ := hcz k hkz
      have hab : ab < W.heap.size := World.block_lt_of_cell? W _ hc0
      have hcc : ∀ o, wr.cell? ⟨ab, o, none⟩ = W.cell? ⟨ab, o, none⟩ := fun o => HR.out.r.be.cell (p := ⟨ab, o, none⟩) hab
      obtain ⟨z, hzk⟩ : ∃ z, zs[k] = z := ⟨_, rfl⟩
      have HOK := Vx.hid (HZ.out zs[k] (List.getElem_mem _))
      rw [hzk] at hc0 hc1 hc2 hc3 hc4 hc5 HOK
      rw [← hcc] at hc0 hc1 hc2 hc3 hc4 hc5
      have hw9 : IntKind.i64.wrap ((k : Int) + 1) = (k : Int) + 1 := by rw [IntKind.wrap_i64]; omega
      clear hcz hcc hzk hlt hab
      obtain ⟨K, A, B, C, D, s⟩ := z
      simp only at hc0 hc1 hc2 hc3 hc4 hc5
      have HRA : Hid (∀ o : Obj, ScH W sb bz bpz qz fz (wr.alloc o)) := fun o => HR.out.quiet ((Only.refl _ wr).alloc o)
      by_cases hK1 : K = 1
      · subst hK1
        have HNE := Vx.hid (fun wv => near_any A HOK.out.2.1 12 (by decide) wv)
        generalize nearF A 12 = na at HNE
        have HBE : Hid (∀ o : Obj, Calls Tryz.prog 8 #[.pointer (some ⟨sb, 0, none⟩), .int .i64 na] (wr.alloc o) fun e w' => e = .returned (.bool true) ∧ ScH W sb bz bpz qz fz w') := fun o => (HRA.out o).begin na
        go_wp2_with fail
        refine (HNE.out _).mono ?_
        rintro e w' ⟨rfl, h⟩
        have h2' := h.symm; clear h; subst h2'
        go_wp2_with fail
        refine (HBE.out _).mono ?_
        rintro e w4 ⟨rfl, h4⟩
        have HR4 := Vx.hid h4
        clear h4
        go_wp2_with fail
        refine (HR4.out.reads).mono ?_
        rintro e w' ⟨rfl, h⟩
        have h2' := h.symm; clear h; subst h2'
        go_wp2_with fail
        go_roundw
        case rel => exact ⟨rfl, k + 1, by go_num, by omega, by omega, HR4⟩
        case measure => simp only [intOf]; omega
      · have e1 : (K == 1) = false := by rw [beq_eq_false_iff_ne]; exact hK1
        have e1' : decide (K = 1) = false := decide_eq_false hK1
        by_cases hK7 : K ≤ 7
        · have d7 : decide (K ≤ 7) = true := decide_eq_true hK7
          have HMV : Hid (∀ o : Obj, Calls Tryz.prog 12 #[.pointer (some ⟨sb, 0, none⟩), .agg #[.int .i64 K, .int .i64 A, .int .i64 B, .int .i64 C, .int .i64 D, .string ⟨s.toArray⟩]] (wr.alloc o) fun e w' => e = .returned (.bool true) ∧ ScH W sb bz bpz qz fz w') := fun o => (HRA.out o).moves K A B C D hK7 HOK.out.2.1 HOK.out.2.2.1 s HOK.out.2.2.2.2.2
          go_wp2_with fail
          refine (HMV.out _).mono ?_
          rintro e w4 ⟨rfl, h4⟩
          have HR4 := Vx.hid h4
          clear h4
          go_wp2_with fail
          refine (HR4.out.reads).mono ?_
          rintro e w' ⟨rfl, h⟩
          have h2' := h.symm; clear h; subst h2'
          go_wp2_with fail
          go_roundw
          case rel => exact ⟨rfl, k + 1, by go_num, by omega, by omega, HR4⟩
          case measure => simp only [intOf]; omega
        · have d7 : decide (K ≤ 7) = false := decide_eq_false hK7
          by_cases hin : 15 ≤ K ∧ K ≤ 17
          · have k15 : decide (15 ≤ K) = true := decide_eq_true hin.1
            have k17 : decide (K ≤ 17) = true := decide_eq_true hin.2
            have k14 : decide (K ≤ 14) = false := decide_eq_false (by omega)
            have HSC : Hid (∀ o : Obj, Calls Tryz.prog 14 #[.pointer (some ⟨sb, 0, none⟩), .agg #[.int .i64 K, .int .i64 A, .int .i64 B, .int .i64 C, .int .i64 D, .string ⟨s.toArray⟩]] (wr.alloc o) fun e w' => e = .returned (.bool true) ∧ ScH W sb bz bpz qz fz w') := fun o => (HRA.out o).steps HGL.out K A B C D hin.1 hin.2 HOK.out.2.1 HOK.out.2.2.2.1 s
            have i1 : 15 ≤ K := hin.1
            have i2 : K ≤ 17 := hin.2
            have i3 : ¬ K ≤ 14 := by omega
            clear hin
            go_wp2_with fail
            refine (HSC.out _).mono ?_
            rintro e w4 ⟨rfl, h4⟩
            have HR4 := Vx.hid h4
            clear h4
            go_wp2_with fail
            refine (HR4.out.reads).mono ?_
            rintro e w' ⟨rfl, h⟩
            have h2' := h.symm; clear h; subst h2'
            go_wp2_with fail
            go_roundw
            case rel => exact ⟨rfl, k + 1, by go_num, by omega, by omega, HR4⟩
            case measure => simp only [intOf]; omega
          · have HR4 := Vx.hid (HRA.out (.cells #[.int .i64 K, .int .i64 A, .int .i64 B, .int .i64 C, .int .i64 D, .string ⟨s.toArray⟩] 51))
            by_cases k8 : 15 ≤ K
            · have i2 : ¬ K ≤ 17 := fun h => hin ⟨k8, h⟩
              have k15 : decide (15 ≤ K) = true := decide_eq_true k8
              have k17 : decide (K ≤ 17) = false := decide_eq_false i2
              clear hin
              go_wp2_with fail
              refine (HR4.out.reads).mono ?_
              rintro e w' ⟨rfl, h⟩
              have h2' := h.symm; clear h; subst h2'
              go_wp2_with fail
              go_roundw
              case rel => exact ⟨rfl, k + 1, by go_num, by omega, by omega, HR4⟩
              case measure => simp only [intOf]; omega
            · have k15 : decide (15 ≤ K) = false := decide_eq_false k8
              clear hin
              go_wp2_with fail
              refine (HR4.out.reads).mono ?_
              rintro e w' ⟨rfl, h⟩
              have h2' := h.symm; clear h; subst h2'
              go_wp2_with fail
              go_roundw
              case rel => exact ⟨rfl, k + 1, by go_num, by omega, by omega, HR4⟩
              case measure => simp only [intOf]; omega
    · have HWZ : Hid (Calls Tryz.prog 16 #[.pointer (some ⟨bz, 0, none⟩), .int .i64 4] wr fun e w' => e = .returned (.tuple #[.int .u32 77, .int .i64 0]) ∧ ScH W sb bz bpz qz fz w') := by
        refine (word_ok ⟨bpz, qz, HR.out.r.z⟩ 4 (by decide) (by decide)).mono ?_
        rintro e w' ⟨rfl, ho⟩
        rw [HFZ.out]
        exact ⟨rfl, HR.out.quiet ho⟩
      have hgo : (¬ (k : Int) < (len : Int)) ∨ ((k : Int) < (len : Int) ∧ ¬ (k : Int) < 262144) := by omega
      clear hlt
      rcases hgo with h1 | ⟨h1, h2⟩
      all_goals
        go_wp2_with fail
        refine HWZ.out.mono ?_
        rintro e w4 ⟨rfl, h4⟩
        have HR4 := Vx.hid h4
        clear h4
        go_wp2_with fail
        refine HR4.out.whole.mono ?_
        rintro e w5 ⟨rfl, h5⟩
        have HR5 := Vx.hid h5
        clear h5
        go_wp2_with fail
        all_goals
          go_ret
          exact ⟨rfl, HR5.out.r.be⟩
theorem hartSteps_call (W : World) (pa : Option Addr) (len cap : Nat) (zs : List Stp) (hlen : zs.length = len) (hlc : len ≤ cap) (hcm : cap ≤ maxLen) (hp : ScAt W pa zs) (hz : ∀ z ∈ zs, z.ok) (hg : UsesAt W ∧ MisAt W ∧ FormsAt W) :
    Calls Tryz.prog 6 #[.slice pa len cap] W fun e w' => e = .returned (.bool true) ∧ Below W.heap.size W w' := by
  have H := Vx.hid (storedH_ok W pa len cap zs hlen hlc hcm hp hz hg)
  clear hlen hlc hcm hp hz hg
  go_enter Tryz.func6, Tryz.ntmps6
  go_wp2_with fail
  refine H.out.mono ?_
  rintro e w1 ⟨rfl, hb⟩
  have HB := Vx.hid hb
  clear hb
  go_wp2_with fail
  all_goals
    go_ret
    exact ⟨rfl, HB.out⟩
end Go.Proofs.YtflmobffeeocdaaGreatDoor

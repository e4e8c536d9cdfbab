/- MmuRights' walk. -/
import Derived.Test.YtdobocgijnmlhaaDoorN6
namespace Go.Proofs.YtdobocgijnmlhaaDoor
open Go.ChangeShapes Go.WideShapes Go.ChangeAt Go.RowKit
open Go.Vx

set_option maxRecDepth 100000 in
set_option maxHeartbeats 4000000 in
theorem mmuRights_call (W : World) (hus : UsesAt W) (root : Int) (va : Nat) (hva : va < 4294967296) (pa : Option Addr) (len cap : Nat) (zs : List (Int × List UInt8)) (hlen : zs.length = len) (hlc : len ≤ cap) (hcm : cap ≤ maxLen) (hp : PatAt W pa zs)
    (hz : ∀ z ∈ zs, (-9223372036854775808 ≤ z.1 ∧ z.1 ≤ 9223372036854775807) ∧ z.2.length ≤ maxLen) :
    Calls Tryd.prog 5 #[.slice pa len cap, .int .i64 root, .int .u32 (va : Int)] W fun e w' => e = .returned (.bool true) ∧ Below W.heap.size W w' := by
  have HP := Vx.hid hp
  have HZ := Vx.hid hz
  have HL := Vx.hid hlen
  have HNW := Vx.hid (new_ok 6 (by decide) (by decide) W)
  have hlm : (len : Int) ≤ 9223372036854775807 := by simp [maxLen] at hcm; omega
  have HUS := Vx.hid hus
  have HVA := Vx.hid hva
  have HGL : Hid (0 < W.heap.size) := World.block_lt_of_cell? W _ (hus 0 (by decide)).1
  clear hp hz hlen hlc hcm hus hva
  go_enter Tryd.func5, Tryd.ntmps5
  go_wp2_with fail
  refine HNW.out.mono ?_
  rintro e w1 ⟨bm, rfl, hb1, hb2, ho1, hm1⟩
  have H0 : Hid (RightR W bm w1) := ⟨⟨_, hm1 (fun k => k < W.heap.size) (fun _ h => h)⟩, ho1.below (Nat.le_refl _) (fun _ _ h => h)⟩
  clear hm1 ho1
  go_wp2_with fail
  go_loopw [9] (fun d wr => ∃ k : Nat, d = .int .i64 (k : Int) ∧ k ≤ len ∧ k ≤ 262144 ∧ Hid (RightR W bm wr)) (fun d _ => len - (intOf d).toNat)
  case atStart => exact ⟨0, rfl, by omega, by omega, H0⟩
  case round =>
    obtain ⟨k, rfl, hk, hk2, HR⟩ := hrel
    by_cases hlt : k < len ∧ k < 262144
    · have h1 : (k : Int) < (len : Int) := by omega
      have h2 : (k : Int) < 262144 := by omega
      have hidx : 0 ≤ (k : Int) ∧ (k : Int) < (len : Int) := by omega
      have hkz : k < zs.length := by have := HL.out; omega
      obtain ⟨ab, ao, rfl, hcz⟩ : ∃ ab ao, pa = some ⟨ab, ao, none⟩ ∧ ∀ (j : Nat) (h : j < zs.length), W.cell? ⟨ab, ao + j * 2, none⟩ = some (.int .i64 (zs[j]).1) ∧ W.cell? ⟨ab, ao + j * 2 + 1, none⟩ = some (.string ⟨(zs[j]).2.toArray⟩) := by
        rcases HP.out with h | h
        · rw [h] at hkz; simp at hkz
        · exact h
      obtain ⟨hc1, hc2⟩ := hcz k hkz
      obtain ⟨⟨hz0, hz1⟩, hz2⟩ := HZ.out zs[k] (List.getElem_mem _)
      have hr1 : wr.drew.cell? ⟨ab, ao + k * 2, none⟩ = some (.int .i64 (zs[k]).1) := by
        show wr.cell? _ = _
        rw [HR.out.2.cell (World.block_lt_of_cell? W _ hc1)]; exact hc1
      have hr2 : wr.drew.cell? ⟨ab, ao + k * 2 + 1, none⟩ = some (.string ⟨(zs[k]).2.toArray⟩) := by
        show wr.cell? _ = _
        rw [HR.out.2.cell (World.block_lt_of_cell? W _ hc2)]; exact hc2
      obtain ⟨z, hz⟩ : ∃ z, zs[k] = z := ⟨_, rfl⟩
      rw [hz] at hr1 hr2 hz0 hz1 hz2
      obtain ⟨x1, s⟩ := z
      simp only at hr1 hr2 hz0 hz1 hz2
      have HPK := Vx.hid (pick_any 24576 (by decide) (by decide) x1 hz0 hz1 wr.drew)
      have HWR := Vx.hid (right_write HR.out.drew (pickN x1 24576) s)
      obtain ⟨p, hp⟩ : ∃ p : ByteArray, p = ⟨s.toArray⟩ := ⟨_, rfl⟩
      rw [← hp] at hr2 HWR
      generalize pickN x1 24576 = y at HPK HWR
      have hw9 : IntKind.i64.wrap ((k : Int) + 1) = (k : Int) + 1 := by rw [IntKind.wrap_i64]; omega
      clear hz hcz hc1 hc2 hlt hp hz2 hz0 hz1
      go_wp2_with fail
      go_region_law (first | (refine Vx.step_call rfl 8 #[.tmp 39, .tmp 45, .tmp 50] #[27, 3, 9] rfl #[.pointer (some ⟨bm, 0, none⟩), .int .i64 (y : Int), .string p] (by simp [Act.eval]) (by simp [go_sem]) HWR.out ?_; rintro e w2 ⟨cc, rfl, HR2⟩; refine ⟨_, rfl, ?_⟩) | (refine Vx.step_call rfl 9 #[.tmp 44, .const (.int .i64 24576)] #[3, 3] rfl #[.int .i64 x1, .int .i64 24576] (by simp [Act.eval]) (by simp [go_sem]) HPK.out ?_; rintro e w' ⟨rfl, h⟩; have h2 := h.symm; clear h; subst h2; refine ⟨_, rfl, ?_⟩))
      all_goals
        go_wp2_with fail
        go_roundw
        case rel => exact ⟨k + 1, by go_num, by omega, by omega, HR2⟩
        case measure => simp only [intOf]; omega
    · obtain ⟨⟨f, hm⟩, hb⟩ := HR.out
      have HWK : Hid (∀ wv, Only (fun _ => False) wr wv → ∀ u : Nat, u < 3 → Calls Tryd.prog 10 #[.pointer (some ⟨bm, 0, none⟩), .int .i64 root, .int .u32 (va : Int), .int .i64 (u : Int)] wv fun x w' => x = .returned (.tuple #[.int .i64 ((walkF f 6 root va u).1 : Nat), .int .i64 (walkF f 6 root va u).2]) ∧ Hid (Only (fun _ => False) wr w')) := fun wv hv u hu => by
        refine (walk_ok (hm.only hv (fun _ h _ => h.elim)) ((HUS.out.below hb HGL.out).only hv (fun h => h)) root va HVA.out u hu).mono ?_
        rintro x w' ⟨rfl, ho⟩
        exact ⟨rfl, hv.trans ho⟩
      have HW2 : Hid (Calls Tryd.prog 10 #[.pointer (some ⟨bm, 0, none⟩), .int .i64 root, .int .u32 (va : Int), .int .i64 2] wr fun x w' => x = .returned (.tuple #[.int .i64 ((walkF f 6 root va 2).1 : Nat), .int .i64 (walkF f 6 root va 2).2]) ∧ Hid (Only (fun _ => False) wr w')) := HWK.out wr (Only.refl _ _) 2 (by decide)
      have HW1 : Hid (∀ wv, Only (fun _ => False) wr wv → Calls Tryd.prog 10 #[.pointer (some ⟨bm, 0, none⟩), .int .i64 root, .int .u32 (va : Int), .int .i64 1] wv fun x w' => x = .returned (.tuple #[.int .i64 ((walkF f 6 root va 1).1 : Nat), .int .i64 (walkF f 6 root va 1).2]) ∧ Hid (Only (fun _ => False) wr w')) := fun wv hv => HWK.out wv hv 1 (by decide)
      have HW0 : Hid (∀ wv, Only (fun _ => False) wr wv → Calls Tryd.prog 10 #[.pointer (some ⟨bm, 0, none⟩), .int .i64 root, .int .u32 (va : Int), .int .i64 0] wv fun x w' => x = .returned (.tuple #[.int .i64 ((walkF f 6 root va 0).1 : Nat), .int .i64 (walkF f 6 root va 0).2]) ∧ Hid (Only (fun _ => False) wr w')) := fun wv hv => HWK.out wv hv 0 (by decide)
      have b2 : ((walkF f 6 root va 2).2 ≠ -1 → (walkF f 6 root va 2).1 = 0) ∧ ((walkF f 6 root va 2).2 = -1 → (walkF f 6 root va 2).1 < 24576 ∧ (walkF f 6 root va 2).1 % 4096 = va % 4096) := walk_byte f 6 root va 2 (by decide)
      have b1 : ((walkF f 6 root va 1).2 ≠ -1 → (walkF f 6 root va 1).1 = 0) ∧ ((walkF f 6 root va 1).2 = -1 → (walkF f 6 root va 1).1 < 24576 ∧ (walkF f 6 root va 1).1 % 4096 = va % 4096) := walk_byte f 6 root va 1 (by decide)
      have b0 : ((walkF f 6 root va 0).2 ≠ -1 → (walkF f 6 root va 0).1 = 0) ∧ ((walkF f 6 root va 0).2 = -1 → (walkF f 6 root va 0).1 < 24576 ∧ (walkF f 6 root va 0).1 % 4096 = va % 4096) := walk_byte f 6 root va 0 (by decide)
      have HSL : Hid ((walkF f 6 root va 2).2 = -1 → (walkF f 6 root va 1).2 = -1 ∧ (walkF f 6 root va 2).1 = (walkF f 6 root va 1).1) := fun h => by
        have := walk_load f 6 root va h
        rw [this]; exact ⟨h, rfl⟩
      have HSF : Hid ((walkF f 6 root va 2).2 = -1 → (walkF f 6 root va 0).2 = -1 → (walkF f 6 root va 2).1 = (walkF f 6 root va 0).1) := fun h h' => walk_same f 6 root va 2 0 (by decide) (by decide) h h'
      have HB2 := Vx.hid b2
      have HB1 := Vx.hid b1
      have HB0 := Vx.hid b0
      clear b2 b1 b0 HWK
      generalize (walkF f 6 root va 2).1 = a at HW2 HSL HSF HB2
      generalize (walkF f 6 root va 2).2 = x at HW2 HSL HSF HB2
      generalize (walkF f 6 root va 1).1 = b at HW1 HSL HB1
      generalize (walkF f 6 root va 1).2 = y at HW1 HSL HB1
      generalize (walkF f 6 root va 0).1 = c at HW0 HSF HB0
      generalize (walkF f 6 root va 0).2 = z at HW0 HSF HB0
      have HLA := Vx.hid (fun wv => landed_any a va x HVA.out HB2.out.1 HB2.out.2 wv)
      have HLB := Vx.hid (fun wv => landed_any b va y HVA.out HB1.out.1 HB1.out.2 wv)
      have HLC := Vx.hid (fun wv => landed_any c va z HVA.out HB0.out.1 HB0.out.2 wv)
      have HB := Vx.hid hb
      have hgo : (¬ (k : Int) < (len : Int)) ∨ ((k : Int) < (len : Int) ∧ ¬ (k : Int) < 262144) := by omega
      have hcase : (¬ x = -1) ∨ (x = -1 ∧ y = -1 ∧ a = b ∧ ¬ z = -1) ∨ (x = -1 ∧ y = -1 ∧ a = b ∧ z = -1 ∧ a = c) := by
        by_cases hx : x = -1
        · obtain ⟨h1, h2⟩ := HSL.out hx
          by_cases hz : z = -1
          · exact Or.inr (Or.inr ⟨hx, h1, h2, hz, HSF.out hx hz⟩)
          · exact Or.inr (Or.inl ⟨hx, h1, h2, hz⟩)
        · exact Or.inl hx
      have HFIN : Hid (∀ w', Only (fun _ => False) wr w' → Below W.heap.size W w') := fun w' ho => hb.trans (ho.below hb.size (fun _ _ h => h))
      clear hm hb HSL HSF HB2 HB1 HB0 hlt hk hk2
      rcases hgo with h1 | ⟨h1, h2⟩
      all_goals
        go_wp2_with fail
        refine HW2.out.mono ?_
        rintro e w2 ⟨rfl, HO2⟩
        go_wp2_with fail
        refine (HW1.out w2 HO2.out).mono ?_
        rintro e w3 ⟨rfl, HO3⟩
        go_wp2_with fail
        refine (HW0.out w3 HO3.out).mono ?_
        rintro e w4 ⟨rfl, HO4⟩
        rcases hcase with hx | ⟨rfl, rfl, rfl, hz⟩ | ⟨rfl, rfl, rfl, rfl, rfl⟩
        all_goals
          go_wp2_with fail
          refine (HLA.out _).mono ?_
          rintro e w' ⟨rfl, h⟩
          have h2 := h.symm; clear h; subst h2
          go_wp2_with fail
          refine (HLB.out _).mono ?_
          rintro e w' ⟨rfl, h⟩
          have h2 := h.symm; clear h; subst h2
          go_wp2_with fail
          refine (HLC.out _).mono ?_
          rintro e w' ⟨rfl, h⟩
          have h2 := h.symm; clear h; subst h2
          go_wp2_with fail
          all_goals
            go_ret
            exact ⟨rfl, HFIN.out _ HO4.out⟩
end Go.Proofs.YtdobocgijnmlhaaDoor

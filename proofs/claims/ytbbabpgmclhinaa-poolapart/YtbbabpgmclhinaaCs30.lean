import Derived.Test.YtbbabpgmclhinaaCs23
import Derived.Test.YtbbabpgmclhinaaCs29
import Derived.Shelf.Abstract
/- Chapter 8, the program's pool: is a page of a region an object's? -/
namespace Go.Proofs.Ytbbabpgmclhinaa
open Go.ChangeShapes Go.WideShapes Go.ChangeAt Go.RowKit
open Go.Vx
set_option linter.unusedVariables false
variable {U V S : Nat → Prop} {w w2 : World} {xb pb mb gb N : Nat} {P : Int} {D : DataW Value} {os rs : List (Int × Int)}

theorem pis_ok (k n : Int) (w : World) : Calls Try.prog 62 #[.agg #[.int .i64 k, .int .i64 n]] w fun e w' => e = .returned (.bool (k != 0)) ∧ Only (fun _ => False) w w' := by
  go_enter Try.func62, Try.ntmps62
  go_wp2_with fail
  all_goals
    go_ret
    exact ⟨by first | rfl | simp_all, (Only.refl _ _).alloc _⟩
theorem XqAt.pageA (h : XqAt U w xb mb gb D N os rs) (a k : Nat) (hk : a + k < N) : w.cell? ⟨gb, a * 2 + k * 2, none⟩ = some (.int .i64 (pgF os ((a + k : Nat) : Int)).1) ∧ w.cell? ⟨gb, a * 2 + k * 2 + 1, none⟩ = some (.int .i64 (pgF os ((a + k : Nat) : Int)).2) := by
  have := h.page (a + k) hk
  rw [Nat.add_mul] at this
  exact this
set_option maxHeartbeats 1000000 in
theorem pindex_ok (h : XqAt U w xb mb gb D N os rs) (hN : N ≤ 256) (a m c : Nat) (ham : a + m ≤ N) (hmc : m ≤ c) (hc : c ≤ 256) : Calls Try.prog 73 #[.slice (some ⟨gb, a * 2, none⟩) m c, .func (.func 62) #[] #[]] w fun e w' => ∃ r : Int, e = .returned (.int .i64 r) ∧ (0 ≤ r ↔ ∃ k : Nat, k < m ∧ (pgF os ((a + k : Nat) : Int)).1 ≠ 0) ∧ Only (fun _ => False) w w' := by
  have HX := Vx.hid h
  have HAM := Vx.hid ham
  have hm : m ≤ 256 := by omega
  clear h ham hmc hc
  go_enter Try.func73, Try.ntmps73
  go_wp2_with fail
  go_loopw [5, 8] (fun _ d wr => ∃ k : Nat, d = .int .i64 (k : Int) ∧ k ≤ m ∧ Hid (∀ j : Nat, j < k → (pgF os ((a + j : Nat) : Int)).1 = 0) ∧ Hid (Only (fun _ => False) w wr)) (fun _ d _ => m - (RowKit.intOf d).toNat)
  case atStart => exact ⟨0, rfl, by omega, fun j hj => absurd hj (Nat.not_lt_zero _), Only.refl _ _⟩
  case round =>
    obtain ⟨k, rfl, hk, HQ, HW⟩ := hrel
    by_cases hlt : k < m
    · have h1 : (k : Int) < (m : Int) := by omega
      have hidx : 0 ≤ (k : Int) ∧ (k : Int) < (m : Int) := by omega
      have hwk : IntKind.i64.wrap ((k : Int) + 1) = (k : Int) + 1 := by rw [IntKind.wrap_i64]; omega
      obtain ⟨c0, c1⟩ := (HX.out.quiet HW.out).pageA a k (by have := HAM.out; omega)
      have HF := Vx.hid (fun wv => pis_ok (pgF os ((a + k : Nat) : Int)).1 (pgF os ((a + k : Nat) : Int)).2 wv)
      generalize hp : pgF os ((a + k : Nat) : Int) = p at c0 c1 HF
      obtain ⟨d0, d1⟩ := p
      dsimp only at c0 c1 HF
      have HP := Vx.hid hp
      clear hp
      by_cases hz : d0 = 0
      · subst hz
        have hz2 : ((0 : Int) != 0) = false := by decide
        rw [hz2] at HF
        go_wp2_with fail
        refine (HF.out _).mono ?_
        rintro e w3 ⟨rfl, h3⟩
        have H3 := Vx.hid (HW.out.trans h3)
        clear h3 c0 c1
        go_wp2_with fail
        go_roundw
        case rel =>
          refine ⟨k + 1, by go_num, by omega, (show ∀ j : Nat, j < k + 1 → (pgF os ((a + j : Nat) : Int)).1 = 0 from fun j hj => ?_), H3⟩
          by_cases e : j = k
          · subst e; rw [HP.out]
          · exact HQ.out j (by omega)
        case measure => simp only [RowKit.intOf]; omega
      · have hz2 : (d0 != 0) = true := by simp [hz]
        rw [hz2] at HF
        go_wp2_with fail
        refine (HF.out _).mono ?_
        rintro e w3 ⟨rfl, h3⟩
        have H3 := Vx.hid (HW.out.trans h3)
        clear h3 c0 c1
        go_wp2_with fail
        go_ret
        exact ⟨(k : Int), rfl, ⟨fun _ => ⟨k, by omega, by rw [HP.out]; exact hz⟩, fun _ => by omega⟩, H3.out⟩
    · obtain rfl : k = m := by omega
      have h1 : ¬ (k : Int) < (k : Int) := by omega
      go_wp2_with fail
      go_ret
      refine ⟨-1, rfl, ⟨fun h => by omega, fun ⟨j, hj, hq⟩ => absurd (HQ.out j (by omega)) hq⟩, HW.out⟩
theorem pcont_ok (h : XqAt U w xb mb gb D N os rs) (hN : N ≤ 256) (a m c : Nat) (ham : a + m ≤ N) (hmc : m ≤ c) (hc : c ≤ 256) : Calls Try.prog 61 #[.slice (some ⟨gb, a * 2, none⟩) m c, .func (.func 62) #[] #[]] w fun e w' => ∃ r : Bool, e = .returned (.bool r) ∧ (r = true ↔ ∃ k : Nat, k < m ∧ (pgF os ((a + k : Nat) : Int)).1 ≠ 0) ∧ Only (fun _ => False) w w' := by
  have HI := Vx.hid (pindex_ok h hN a m c ham hmc hc)
  clear h ham hmc hc hN
  go_enter Try.func61, Try.ntmps61
  go_wp2_with fail
  refine HI.out.mono ?_
  rintro e w2 ⟨r, rfl, h1, h2⟩
  have H1 := Vx.hid h1
  have H2 := Vx.hid h2
  clear h1 h2
  by_cases hr : 0 ≤ r
  · go_wp2_with fail
    go_ret
    exact ⟨true, by first | rfl | simp [hr], ⟨fun _ => H1.out.1 hr, fun _ => rfl⟩, H2.out⟩
  · go_wp2_with fail
    go_ret
    exact ⟨false, by first | rfl | simp [hr], ⟨fun h => (by cases h), fun h => absurd (H1.out.2 h) (by omega)⟩, H2.out⟩
/-- An object in some pages. -/
def inB (os : List (Int × Int)) (a n : Int) : Bool := os.any (fun o => decide (a ≤ o.2 ∧ o.2 < a + n))
theorem inB_iff (hw : PWf P os rs) (a m : Nat) : inB os (a : Int) (m : Int) = true ↔ ∃ k : Nat, k < m ∧ (pgF os ((a + k : Nat) : Int)).1 ≠ 0 := by
  unfold inB
  rw [List.any_eq_true]
  constructor
  · rintro ⟨o, ho, hd⟩
    have h1 := of_decide_eq_true hd
    refine ⟨o.2.toNat - a, by omega, (pgF_kind hw _).2 ⟨o, ho, by omega⟩⟩
  · rintro ⟨k, hk, hq⟩
    obtain ⟨o, ho, he⟩ := (pgF_kind hw _).1 hq
    exact ⟨o, ho, decide_eq_true (by omega)⟩
theorem pg_cut (g M a m : Nat) (hm : 0 < m) (h : a + m ≤ M) : ∀ wv, (Instr.slice 55 (.slice (some ⟨g, 0, none⟩) M M) (some (.int .i64 (a : Int))) (some (.int .i64 ((a : Int) + (m : Int)))) none).run Try.prog wv = .ok (.slice (some ⟨g, a * 2, none⟩) m (M - a)) wv := by
  have ht : Try.prog.underlying 55 = some (.slice (Try.prog.elem 55)) := by kernel_rfl
  have hsz : ∀ wv, (sizeOf (Try.prog.elem 55)).run Try.prog wv = .ok 2 wv := by
    have he : Try.prog.elem 55 = 33 := by kernel_rfl
    rw [he]
    obtain ⟨k, z, h1, _, h2, _⟩ := obK.hi
    intro wv
    have h3 : k.size = 2 := h2
    simp [sizeOf, typeInfo, h1, h3]
  intro wv
  rw [run_slice_lh wv 55 (some ⟨g, 0, none⟩) M M ht .i64 .i64 (a : Int) ((a : Int) + (m : Int)) (by omega) (by omega) (by omega), hsz]
  have e1 : ((a : Int) + (m : Int)).toNat = a + m := by omega
  have e2 : a + m - a = m := by omega
  have e3 : ¬ M = a := by omega
  rw [e1, Int.toNat_natCast]
  simp [sliced, Result.andThen, addr_add, e2, e3]
set_option maxHeartbeats 1000000 in
theorem phas_ok (h : XqAt U w xb mb gb D N os rs) (hw : PWf (N : Int) os rs) (a m : Nat) (hm : 0 < m) (ham : a + m ≤ N) : Calls Try.prog 49 #[.pointer (some ⟨xb, 0, none⟩), .agg #[.int .i64 (a : Int), .int .i64 (m : Int)]] w fun e w' => e = .returned (.bool (inB os (a : Int) (m : Int))) ∧ Only (fun _ => False) w w' := by
  have hN : N ≤ 256 := by have := hw.p; omega
  have HE := Vx.hid (fun wv => pend_ok (a : Int) (m : Int) (by rw [IntKind.wrap_i64]; omega) wv)
  have hcut := pg_cut gb N a m hm ham
  have HCO : Hid (∀ wv, XqAt U wv xb mb gb D N os rs → Calls Try.prog 61 #[.slice (some ⟨gb, a * 2, none⟩) m (N - a), .func (.func 62) #[] #[]] wv fun e w' => e = .returned (.bool (inB os (a : Int) (m : Int))) ∧ Only (fun _ => False) wv w') := fun wv hv => by
    refine (pcont_ok hv hN a m (N - a) ham (by omega) (by omega)).mono ?_
    rintro e w' ⟨r, rfl, h1, h2⟩
    refine ⟨?_, h2⟩
    have h3 := inB_iff hw a m
    have h4 : r = inB os (a : Int) (m : Int) := by
      cases hr : r with
      | true => exact (h3.2 (h1.1 hr)).symm
      | false =>
        cases hb : inB os (a : Int) (m : Int) with
        | false => rfl
        | true => have := h1.2 (h3.1 hb); rw [hr] at this; cases this
    rw [h4]
  obtain ⟨b, hb⟩ : ∃ b, b = inB os (a : Int) (m : Int) := ⟨_, rfl⟩
  rw [← hb] at HCO ⊢
  obtain ⟨en, hen⟩ : ∃ en, en = (a : Int) + (m : Int) := ⟨_, rfl⟩
  rw [← hen] at HE hcut
  obtain ⟨w1, hw1⟩ : ∃ w1, w1 = w.alloc (.cells #[.int .i64 (a : Int), .int .i64 (m : Int)] 75) := ⟨_, rfl⟩
  have ho1 : Only (fun _ => False) w w1 := by rw [hw1]; exact (Only.refl _ w).alloc _
  obtain ⟨A, hA⟩ : ∃ A, A = w.heap.size := ⟨_, rfl⟩
  have hz : w1.heap[A]? = some (.cells #[.int .i64 (a : Int), .int .i64 (m : Int)] 75 (0, 0)) := by rw [hw1, hA]; exact heap_alloc_last _ _
  have HCE : Hid (∀ wv, Only (fun _ => False) w1 wv → wv.cell? ⟨A, 0, none⟩ = some (.int .i64 (a : Int)) ∧ wv.cell? ⟨A, 1, none⟩ = some (.int .i64 (m : Int)) ∧ wv.cell? ⟨xb, 1, none⟩ = some (.slice (some ⟨gb, 0, none⟩) N N)) := fun wv hv => by
    obtain ⟨q0, q1⟩ := (two_cells (Only.keep hv hz (fun h => h))).1
    exact ⟨q0, q1, ((h.quiet ho1).quiet hv).c1⟩
  have HX1 := Vx.hid (h.quiet ho1)
  have HO1 := Vx.hid ho1
  clear h hw hb hen ho1 hz ham hm hN
  have HI0 : Hid (Only (fun _ => False) w1 w1.drew) := (Only.refl _ w1).drew
  have HS0 := Vx.hid (HCE.out _ HI0.out)
  have HI1 := HI0
  have HS1 := HS0
  have HS2 := HS0
  go_enter Try.func49, Try.ntmps49
  go_upto_region 1 with fail
  rw [← hw1, ← hA]
  clear hw1 hA
  go_region_held3 (fun wv => wv.cell? ⟨A, 0, none⟩ = some (.int .i64 (a : Int)) ∧ wv.cell? ⟨A, 1, none⟩ = some (.int .i64 (m : Int)) ∧ wv.cell? ⟨xb, 1, none⟩ = some (.slice (some ⟨gb, 0, none⟩) N N)) (first | with_reducible exact HS0.out | with_reducible exact HS1.out | with_reducible exact HS2.out) (first | (go_at_call 53; refine (HE.out _).mono ?_; rintro e w4 ⟨rfl, ho4⟩; have HI1 := Vx.hid (HI0.out.trans ho4); clear ho4; have HS1 := Vx.hid (HCE.out _ HI1.out)) | (go_at_call 61; refine (HCO.out _ (HX1.out.quiet HI1.out)).mono ?_; rintro e w5 ⟨rfl, ho5⟩; have HI2 := Vx.hid (HI1.out.trans ho5); clear ho5; have HS2 := Vx.hid (HCE.out _ HI2.out)))
  go_wp2_with fail
  all_goals
    go_ret
    exact ⟨rfl, HO1.out.trans HI2.out⟩
end Go.Proofs.Ytbbabpgmclhinaa

/- Walks of the document's memory: Zero, Same. -/
import Derived.Test.YtflmobffeeocdaaGreatDoorS6
namespace Go.Proofs.YtflmobffeeocdaaGreatDoor
open Go.ChangeShapes Go.WideShapes Go.ChangeAt Go.RowKit
open Go.Vx

theorem nought_at (M k : Nat) (h : k < (noughts M).length) : (noughts M)[k] = 0 :=
  List.eq_of_mem_replicate (show (noughts M)[k] ∈ List.replicate M 0 from List.getElem_mem h)
set_option maxRecDepth 100000 in
theorem refZero_any {w : World} {br bb n : Nat} {f : Nat → UInt8} (h : RefAt w br bb n f) (p : Int) :
    Calls Tryz.prog 34 #[.pointer (some ⟨br, 0, none⟩), .int .i64 p] w fun e w' => e = .returned (.int .i64 ((zeroR f n p).2 : Nat)) ∧ RefAt w' br bb n (zeroR f n p).1 ∧ Only (fun k => k = bb) w w' := by
  have hcr := h.cr
  have hn := h.top
  obtain ⟨N, hN⟩ : ∃ N, N = 4096 * n := ⟨_, rfl⟩
  rw [← hN] at hcr
  have q1 : Int.tdiv (N : Int) 4096 = (n : Int) := by rw [Int.tdiv_eq_ediv_of_nonneg (by omega)]; omega
  have q2 : (N : Int) / 4096 = (n : Int) := by omega
  have q3 : IntKind.i64.wrap (n : Int) = (n : Int) := by rw [IntKind.wrap_i64]; omega
  unfold zeroR
  by_cases h0 : p < 0
  · have d0 : decide (p < 0) = true := decide_eq_true h0
    rw [if_neg (by simp [hasB]; omega)]
    have HR := Vx.hid h
    clear h hn hN
    go_enter Tryz.func34, Tryz.ntmps34
    go_wp2_with fail
    all_goals
      go_ret
      exact ⟨rfl, HR.out, Only.refl _ _⟩
  · have d0 : decide (p < 0) = false := decide_eq_false h0
    by_cases h1 : (n : Int) ≤ p
    · rw [if_neg (by simp [hasB]; omega)]
      have HR := Vx.hid h
      clear h hn hN
      go_enter Tryz.func34, Tryz.ntmps34
      go_wp2_with fail
      all_goals
        go_ret
        exact ⟨rfl, HR.out, Only.refl _ _⟩
    · obtain ⟨x, rfl⟩ : ∃ x : Nat, p = (x : Int) := ⟨p.toNat, by omega⟩
      rw [if_pos (by simp [hasB]; omega)]
      simp only [Int.toNat_natCast]
      obtain ⟨M, hM⟩ : ∃ M, M = 4096 := ⟨_, rfl⟩
      have H0 : Hid (RwR w br bb n f (4096 * x) (noughts M) 0 w) := ⟨by rw [List.take_zero, putF_nil]; exact h, Only.refl _ _⟩
      have HB : Hid (x < n ∧ n ≤ 256 ∧ N = 4096 * n ∧ M = 4096) := ⟨by omega, hn, hN, hM⟩
      have h1' : ¬ (n : Int) ≤ (x : Int) := h1
      have hw1 : IntKind.i64.wrap (4096 * (x : Int)) = 4096 * (x : Int) := by rw [IntKind.wrap_i64]; omega
      clear h hn hN hM h1
      go_enter Tryz.func34, Tryz.ntmps34
      go_wp2_with fail
      go_loopw [5] (fun d wr => ∃ k : Nat, d = .int .i64 (k : Int) ∧ k ≤ 4096 ∧ Hid (RwR w br bb n f (4096 * x) (noughts M) k wr)) (fun d _ => 4096 - (intOf d).toNat)
      case atStart => exact ⟨0, rfl, by omega, H0⟩
      case round =>
        obtain ⟨k, rfl, hk, HW⟩ := hrel
        by_cases hlt : k < 4096
        · have h2 : (k : Int) < 4096 := by omega
          have hkl : k < (noughts M).length := by rw [length_noughts]; have := HB.out; omega
          obtain ⟨hc1, ⟨v, hc2⟩, hf, hs⟩ := rw_step HW.out hkl (by rw [length_noughts]; have := HB.out; omega)
          rw [nought_at] at hs
          have HS := Vx.hid hs
          rw [← HB.out.2.2.1] at hc1
          have hi1 : 0 ≤ ((4096 * x + k : Nat) : Int) ∧ ((4096 * x + k : Nat) : Int) < (N : Int) := by have := HB.out; omega
          have hw2 : IntKind.i64.wrap ((4096 * x + k : Nat) : Int) = ((4096 * x + k : Nat) : Int) := by have := HB.out; rw [IntKind.wrap_i64]; omega
          have hx2 : 4096 * (x : Int) + (k : Int) = ((4096 * x + k : Nat) : Int) := by omega
          have hw9 : IntKind.i64.wrap ((k : Int) + 1) = (k : Int) + 1 := by rw [IntKind.wrap_i64]; omega
          generalize 4096 * x + k = y at hi1 hw2 hx2 hc2 hf HS
          clear hs hlt hkl
          go_wp2_with fail
          go_roundw
          case rel => exact ⟨k + 1, by go_num, by omega, HS⟩
          case measure => simp only [intOf]; omega
        · have h2 : ¬ (k : Int) < 4096 := by omega
          have HK : Hid (k = 4096) := by show k = 4096; omega
          clear hlt hk
          go_wp2_with fail
          all_goals
            go_ret
            obtain ⟨h5, h6⟩ := HW.out
            rw [HK.out] at h5
            have e : putF f (4096 * x) ((noughts M).take 4096) = zeroF f x := by
              rw [List.take_of_length_le (by rw [length_noughts]; have := HB.out; omega)]
              exact zeroF_put f x M HB.out.2.2.2
            rw [e] at h5
            exact ⟨rfl, h5, h6⟩
/-- What Same tells. -/
def sameR (f : Nat → UInt8) (n : Nat) (p q : Int) : Bool × Nat := if (hasB n p && hasB n q) = true then (sameB f p.toNat q.toNat, 0) else (false, 1)
theorem same_any {U : Nat → Prop} {w : World} {bm n : Nat} {f : Nat → UInt8} (h : MemAt U w bm n f) (p q : Int) :
    Calls Tryz.prog 35 #[.pointer (some ⟨bm, 0, none⟩), .int .i64 p, .int .i64 q] w fun e w' => e = .returned (.tuple #[.bool (sameR f n p q).1, .int .i64 ((sameR f n p q).2 : Nat)]) ∧ Only (fun _ => False) w w' := by
  unfold sameR
  by_cases hi : (hasB n p && hasB n q) = true
  · rw [if_pos hi]
    rw [Bool.and_eq_true] at hi
    obtain ⟨x, rfl, hx⟩ := hasB_nat hi.1
    obtain ⟨y, rfl, hy⟩ := hasB_nat hi.2
    simp only [Int.toNat_natCast]
    exact same_ok h x y hx hy
  · rw [if_neg hi]
    refine (same_no h p q (by simpa using hi)).mono ?_
    rintro e w' ⟨rfl, rfl⟩
    exact ⟨rfl, Only.refl _ _⟩
theorem sameB_iff (f : Nat → UInt8) (p q : Nat) : sameB f p q = true ↔ ∀ j, j < 4096 → f (4096 * p + j) = f (4096 * q + j) := by
  unfold sameB
  rw [List.all_eq_true]
  simp only [List.mem_range, beq_iff_eq]
set_option maxRecDepth 100000 in
theorem refSame_ok {w : World} {br bb n : Nat} {f : Nat → UInt8} (h : RefAt w br bb n f) (x y : Nat) (hx : x < n) (hy : y < n) :
    Calls Tryz.prog 36 #[.pointer (some ⟨br, 0, none⟩), .int .i64 (x : Int), .int .i64 (y : Int)] w fun e w' => e = .returned (.tuple #[.bool (sameB f x y), .int .i64 0]) ∧ Only (fun _ => False) w w' := by
  have hcr := h.cr
  have hn := h.top
  obtain ⟨N, hN⟩ : ∃ N, N = 4096 * n := ⟨_, rfl⟩
  rw [← hN] at hcr
  have q1 : Int.tdiv (N : Int) 4096 = (n : Int) := by rw [Int.tdiv_eq_ediv_of_nonneg (by omega)]; omega
  have q2 : (N : Int) / 4096 = (n : Int) := by omega
  have q3 : IntKind.i64.wrap (n : Int) = (n : Int) := by rw [IntKind.wrap_i64]; omega
  have d0 : decide ((x : Int) < 0) = false := decide_eq_false (by omega)
  have d1 : decide ((y : Int) < 0) = false := decide_eq_false (by omega)
  have d2 : decide ((n : Int) ≤ (x : Int)) = false := decide_eq_false (by omega)
  have d3 : ¬ (n : Int) ≤ (y : Int) := by omega
  have d2' : ¬ (n : Int) ≤ (x : Int) := by omega
  have HR := Vx.hid h
  have HB : Hid (x < n ∧ y < n ∧ n ≤ 256 ∧ N = 4096 * n) := ⟨hx, hy, hn, hN⟩
  have hw1 : IntKind.i64.wrap (4096 * (x : Int)) = 4096 * (x : Int) := by rw [IntKind.wrap_i64]; omega
  have hw2 : IntKind.i64.wrap (4096 * (y : Int)) = 4096 * (y : Int) := by rw [IntKind.wrap_i64]; omega
  clear h hn hN hx hy
  go_enter Tryz.func36, Tryz.ntmps36
  go_wp2_with fail
  go_loopw [9] (fun d wr => ∃ k : Nat, d = .int .i64 (k : Int) ∧ k ≤ 4096 ∧ Hid (∀ j, j < k → f (4096 * x + j) = f (4096 * y + j)) ∧ Hid (Only (fun _ => False) w wr)) (fun d _ => 4096 - (intOf d).toNat)
  case atStart => exact ⟨0, rfl, by omega, (fun j hj => by omega), Only.refl _ _⟩
  case round =>
    obtain ⟨k, rfl, hk, HE, HO⟩ := hrel
    by_cases hlt : k < 4096
    · have h2 : (k : Int) < 4096 := by omega
      have hR2 := HR.out.only HO.out (fun h => h) (fun h => h)
      have hc0 : wr.cell? ⟨br, 0, none⟩ = some (.slice (some ⟨bb, 0, none⟩) N N) := by rw [HB.out.2.2.2]; exact hR2.cr
      have hc1 : wr.cell? ⟨bb, 4096 * x + k, none⟩ = some (byteV (f (4096 * x + k))) := hR2.cb (by have := HB.out; omega)
      have hc2 : wr.cell? ⟨bb, 4096 * y + k, none⟩ = some (byteV (f (4096 * y + k))) := hR2.cb (by have := HB.out; omega)
      unfold byteV at hc1 hc2
      have hi1 : 0 ≤ ((4096 * x + k : Nat) : Int) ∧ ((4096 * x + k : Nat) : Int) < (N : Int) := by have := HB.out; omega
      have hi2 : 0 ≤ ((4096 * y + k : Nat) : Int) ∧ ((4096 * y + k : Nat) : Int) < (N : Int) := by have := HB.out; omega
      have hv1 : IntKind.i64.wrap ((4096 * x + k : Nat) : Int) = ((4096 * x + k : Nat) : Int) := by have := HB.out; rw [IntKind.wrap_i64]; omega
      have hv2 : IntKind.i64.wrap ((4096 * y + k : Nat) : Int) = ((4096 * y + k : Nat) : Int) := by have := HB.out; rw [IntKind.wrap_i64]; omega
      have hx1 : 4096 * (x : Int) + (k : Int) = ((4096 * x + k : Nat) : Int) := by omega
      have hx2 : 4096 * (y : Int) + (k : Int) = ((4096 * y + k : Nat) : Int) := by omega
      have hw9 : IntKind.i64.wrap ((k : Int) + 1) = (k : Int) + 1 := by rw [IntKind.wrap_i64]; omega
      have j1 : ((4096 * x + k : Nat) : Int) < (N : Int) := hi1.2
      have j2 : ((4096 * y + k : Nat) : Int) < (N : Int) := hi2.2
      have HF : Hid (∀ b : Bool, b = decide ((f (4096 * x + k)).toNat = (f (4096 * y + k)).toNat) → True) := fun _ _ => trivial
      by_cases he : (f (4096 * x + k)).toNat = (f (4096 * y + k)).toNat
      · have HE2 : Hid (∀ j, j < k + 1 → f (4096 * x + j) = f (4096 * y + j)) := fun j hj => by
          by_cases hjk : j < k
          · exact HE.out j hjk
          · obtain rfl : j = k := by omega
            exact UInt8.toNat_inj.1 he
        have e1 : ((f (4096 * x + k)).toNat : Int) = ((f (4096 * y + k)).toNat : Int) := by omega
        have e2 : (((f (4096 * x + k)).toNat : Int) != ((f (4096 * y + k)).toNat : Int)) = false := by simp [e1]
        rw [e1] at hc1 e2
        clear e1 HF hR2 he
        generalize (f (4096 * y + k)).toNat = v at hc1 hc2 e2
        generalize 4096 * x + k = a1 at hc1 hi1 hv1 hx1 j1
        generalize 4096 * y + k = a2 at hc2 hi2 hv2 hx2 j2
        clear hlt
        go_wp2_with fail
        go_quiet (fail)
        go_wp2_with fail
        all_goals
          go_roundw
          case rel => exact ⟨k + 1, by go_num, by omega, HE2, HO.out.drewN _⟩
          case measure => simp only [intOf]; omega
      · have HN : Hid (sameB f x y = false) := by
          show sameB f x y = false
          cases hsb : sameB f x y with
          | false => rfl
          | true => exact absurd (congrArg UInt8.toNat ((sameB_iff f x y).1 hsb k hlt)) he
        have e1 : ¬ ((f (4096 * x + k)).toNat : Int) = ((f (4096 * y + k)).toNat : Int) := by omega
        have e2 : (((f (4096 * x + k)).toNat : Int) != ((f (4096 * y + k)).toNat : Int)) = true := by rw [bne_iff_ne]; exact e1
        clear HF hR2
        generalize (f (4096 * y + k)).toNat = v at hc2 e1 e2 he
        generalize (f (4096 * x + k)).toNat = u at hc1 e1 e2 he
        generalize 4096 * x + k = a1 at hc1 hi1 hv1 hx1 j1
        generalize 4096 * y + k = a2 at hc2 hi2 hv2 hx2 j2
        clear hlt
        go_wp2_with fail
        go_quiet (fail)
        go_wp2_with fail
        all_goals
          go_ret2
          rw [HN.out]
          exact ⟨rfl, HO.out.drewN _⟩
    · obtain rfl : k = 4096 := by omega
      have HN : Hid (sameB f x y = true) := (sameB_iff f x y).2 HE.out
      clear hlt
      go_wp2_with fail
      all_goals
        go_ret2
        rw [HN.out]
        exact ⟨rfl, HO.out⟩
theorem refSame_any {w : World} {br bb n : Nat} {f : Nat → UInt8} (h : RefAt w br bb n f) (p q : Int) :
    Calls Tryz.prog 36 #[.pointer (some ⟨br, 0, none⟩), .int .i64 p, .int .i64 q] w fun e w' => e = .returned (.tuple #[.bool (sameR f n p q).1, .int .i64 ((sameR f n p q).2 : Nat)]) ∧ Only (fun _ => False) w w' := by
  unfold sameR
  by_cases hi : (hasB n p && hasB n q) = true
  · rw [if_pos hi]
    rw [Bool.and_eq_true] at hi
    obtain ⟨x, rfl, hx⟩ := hasB_nat hi.1
    obtain ⟨y, rfl, hy⟩ := hasB_nat hi.2
    simp only [Int.toNat_natCast]
    exact refSame_ok h x y hx hy
  · rw [if_neg hi]
    have hcr := h.cr
    have hn := h.top
    obtain ⟨N, hN⟩ : ∃ N, N = 4096 * n := ⟨_, rfl⟩
    rw [← hN] at hcr
    have q1 : Int.tdiv (N : Int) 4096 = (n : Int) := by rw [Int.tdiv_eq_ediv_of_nonneg (by omega)]; omega
    have q2 : (N : Int) / 4096 = (n : Int) := by omega
    have q3 : IntKind.i64.wrap (n : Int) = (n : Int) := by rw [IntKind.wrap_i64]; omega
    have hc : p < 0 ∨ (¬ p < 0 ∧ q < 0) ∨ (¬ p < 0 ∧ ¬ q < 0 ∧ (n : Int) ≤ p) ∨ (¬ p < 0 ∧ ¬ q < 0 ∧ ¬ (n : Int) ≤ p ∧ (n : Int) ≤ q) := by
      simp [hasB] at hi
      omega
    clear h hn hN hi
    rcases hc with h1 | ⟨h1, h2⟩ | ⟨h1, h2, h3⟩ | ⟨h1, h2, h3, h4⟩
    · have d1 : decide (p < 0) = true := decide_eq_true h1
      go_enter Tryz.func36, Tryz.ntmps36
      go_wp2_with fail
      all_goals
        go_ret2
        exact ⟨rfl, Only.refl _ _⟩
    · have d1 : decide (p < 0) = false := decide_eq_false h1
      have d2 : decide (q < 0) = true := decide_eq_true h2
      go_enter Tryz.func36, Tryz.ntmps36
      go_wp2_with fail
      all_goals
        go_ret2
        exact ⟨rfl, Only.refl _ _⟩
    · have d1 : decide (p < 0) = false := decide_eq_false h1
      have d2 : decide (q < 0) = false := decide_eq_false h2
      have d3 : decide ((n : Int) ≤ p) = true := decide_eq_true h3
      go_enter Tryz.func36, Tryz.ntmps36
      go_wp2_with fail
      all_goals
        go_ret2
        exact ⟨rfl, Only.refl _ _⟩
    · have d1 : decide (p < 0) = false := decide_eq_false h1
      have d2 : decide (q < 0) = false := decide_eq_false h2
      have d3 : decide ((n : Int) ≤ p) = false := decide_eq_false h3
      go_enter Tryz.func36, Tryz.ntmps36
      go_wp2_with fail
      all_goals
        go_ret2
        exact ⟨rfl, Only.refl _ _⟩
end Go.Proofs.YtflmobffeeocdaaGreatDoor

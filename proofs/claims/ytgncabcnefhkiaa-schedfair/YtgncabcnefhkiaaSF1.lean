/- Chapter 9, SchedFair: the walk. -/
import Derived.Test.YtgncabcnefhkiaaSF0
import Derived.Test.YtgncabcnefhkiaaSX15
import Derived.Test.YtgncabcnefhkiaaPKP
namespace Go.Proofs.Ytgncabcnefhkiaa
open Go.ChangeShapes Go.WideShapes Go.ChangeAt Go.RowKit
open Go.Vx
set_option linter.unusedVariables false
variable {U V S : Nat → Prop} {w w2 w3 : World} {xb : Nat}

def fts : List (Int × Int) := [(3, 1000)]
/-- While threads come. -/
def FaA (w0 : World) (xb i : Nat) (w : World) : Prop := XcAt (fun k => k < w0.heap.size) w xb fts 0 1000 (fairE i) i ∧ Only (fun _ => False) w0 w
/-- While it is asked. -/
def FaB (w0 : World) (xb k i : Nat) (w : World) : Prop := (∃ lf es ck, XcAt (fun k => k < w0.heap.size) w xb fts 0 lf es ck ∧ FaR k (qI i) (rI i) es ck) ∧ Only (fun _ => False) w0 w
theorem only_new {w0 a b : World} (h : Only (fun _ => False) w0 a) (h2 : Only (fun k => ¬ k < w0.heap.size) a b) : Only (fun _ => False) w0 b := h.beyond h2 (fun k hk => by omega)
theorem FaA.add {w0 : World} {i : Nat} (h : FaA w0 xb i w) (hi : i ≤ 100) : Calls Try.prog 10 #[.pointer (some ⟨xb, 0, none⟩), .int .i64 (10 + (i : Int)), .int .i64 3, .int .i64 4] w fun e w' => e = .returned (.int .i64 0) ∧ XcAt (fun k => k < w0.heap.size) w' xb fts 0 1000 (fairE i ++ [nuE (10 + (i : Int)) 3 4]) i ∧ Only (fun _ => False) w0 w' := by
  obtain ⟨⟨G, hx⟩, ho⟩ := h
  refine (xadd_ok hx (by rw [fairE_len]; omega) _ 3 4 (by unfold I64; omega)).mono ?_
  rintro e w' ⟨rfl, h1, h2⟩
  obtain ⟨e1, e2⟩ := fair_add i
  rw [e1]
  rw [e2] at h1
  exact ⟨rfl, h1, only_new ho h2⟩
theorem FaA.ready {w0 : World} {i : Nat} (h : XcAt (fun k => k < w0.heap.size) w xb fts 0 1000 (fairE i ++ [nuE (10 + (i : Int)) 3 4]) i) (ho : Only (fun _ => False) w0 w) (hi : i ≤ 100) : Calls Try.prog 11 #[.pointer (some ⟨xb, 0, none⟩), .int .i64 (10 + (i : Int))] w fun e w' => e = .returned (.int .i64 0) ∧ FaA w0 xb (i + 1) w' := by
  obtain ⟨e1, e2⟩ := fair_ready h.wf
  obtain ⟨G, hx⟩ := h
  refine (xready_ok hx _ (by unfold I64; omega)).mono ?_
  rintro e w' ⟨rfl, h1, h2⟩
  rw [e1, if_pos rfl, if_pos rfl, e2] at h1
  rw [e1]
  exact ⟨rfl, ⟨G, h1⟩, only_new ho h2⟩
theorem fts_turn (lf : Int) : turnT fts 0 lf = 0 ∧ turnD fts 0 lf = 3 := by
  have e : turnT fts 0 lf = 0 := by
    unfold turnT
    split <;> rfl
  refine ⟨e, ?_⟩
  unfold turnD
  rw [e]
  rfl
theorem FaB.next {w0 : World} {k i : Nat} (h : FaB w0 xb k i w) (hk : 1 ≤ k) : Calls Try.prog 14 #[.pointer (some ⟨xb, 0, none⟩)] w fun e w' => e = .returned (.int .i64 (10 + ((i / 5 % k : Nat) : Int))) ∧ FaB w0 xb k (i + 1) w' := by
  obtain ⟨⟨lf, es, ck, ⟨G, hx⟩, hr⟩, ho⟩ := h
  obtain ⟨e1, e2⟩ := fts_turn lf
  obtain ⟨c1, c2⟩ := hr.step hk
  refine (xnext_ok hx).mono ?_
  rintro e w' ⟨rfl, h1, h2⟩
  rw [e1, e2] at h1
  rw [e2, c1]
  exact ⟨rfl, ⟨_, _, _, ⟨G, h1⟩, c2⟩, only_new ho h2⟩
theorem FaA.start {w0 : World} {k : Nat} (h : FaA w0 xb k w) (hk : 1 ≤ k) : FaB w0 xb k 0 w := ⟨⟨_, _, _, h.1, fair_start hk h.1.wf⟩, h.2⟩
set_option maxRecDepth 100000 in
set_option maxHeartbeats 4000000 in
theorem schedFair_call (n r : Int) (hn : I64 n) (hr : I64 r) (w : World) : Calls Try.prog 5 #[.int .i64 n, .int .i64 r] w fun e w' => e = .returned (.bool true) ∧ Only (fun _ => False) w w' := by
  have HP1 := Vx.hid (fun wv => pickK_any 9 (by decide) (by decide) n hn.1 hn.2 wv)
  have HP2 := Vx.hid (fun wv => pickK_any 4 (by decide) (by decide) r hr.1 hr.2 wv)
  have hk : pickL n 9 < 9 := Nat.mod_lt _ (by decide)
  have hm : pickL r 4 < 4 := Nat.mod_lt _ (by decide)
  generalize pickL n 9 = k0 at HP1 hk
  generalize pickL r 4 = m0 at HP2 hm
  clear hn hr
  obtain ⟨k, hkk⟩ : ∃ k, k = 1 + k0 := ⟨_, rfl⟩
  have hw1 : (1 : Int) + (k0 : Int) = (k : Int) := by omega
  have hk1 : 1 ≤ k ∧ k ≤ 9 := by omega
  have hwk : IntKind.i64.wrap (k : Int) = (k : Int) := by rw [IntKind.wrap_i64]; omega
  obtain ⟨w1, hw1'⟩ : ∃ w1, w1 = w.alloc (.cells #[.int .i64 3, .int .i64 1000] 34) := ⟨_, rfl⟩
  have ho1 : Only (fun _ => False) w w1 := by rw [hw1']; exact (Only.refl _ w).alloc _
  have hz1 : w1.heap[w.heap.size]? = some (.cells #[.int .i64 3, .int .i64 1000] 34 (0, 0)) := by rw [hw1']; exact heap_alloc_last w _
  obtain ⟨A, hA⟩ : ∃ A, A = w.heap.size := ⟨_, rfl⟩
  rw [← hA] at hz1
  have hT : TuAt w1 (some ⟨A, 0, none⟩) fts := Or.inr ⟨A, 0, rfl, fun j hj => by
    have hj0 : j = 0 := by
      have : fts.length = 1 := rfl
      omega
    subst hj0
    exact ⟨(cell_of_row _ _ 0 _ _ (0, 0) hz1).trans rfl, (cell_of_row _ _ 1 _ _ (0, 0) hz1).trans rfl⟩⟩
  have HNW := Vx.hid (xnew_good w1 (some ⟨A, 0, none⟩) 1 1 rfl hT (by decide))
  have HO1 := Vx.hid ho1
  clear ho1 hz1 hT hkk
  go_enter Try.func5, Try.ntmps5
  go_wp2_with fail
  refine (HP1.out _).mono ?_
  rintro e w' ⟨rfl, h⟩
  have h3 := h.symm; clear h; subst h3
  go_wp2_with fail
  rw [← hw1', ← hA]
  clear hw1'
  refine HNW.out.mono ?_
  rintro e w2 ⟨(⟨h9, _⟩ | ⟨_, xb, rfl, hge, hx⟩), ho⟩
  · exact absurd h9 (by decide)
  have HA0 : Hid (FaA w1 xb 0 w2) := ⟨hx, ho⟩
  clear hx ho hge
  go_wp2_with fail
  go_loopw [8, 9, 10] (fun i _ _ wr => ∃ j : Nat, i = .int .i64 (j : Int) ∧ j ≤ k ∧ Hid (FaA w1 xb j wr)) (fun i _ _ _ => k - (RowKit.intOf i).toNat)
  case atStart => exact ⟨0, rfl, by omega, HA0⟩
  case round =>
    obtain ⟨j, rfl, hj, HJ⟩ := hrel
    by_cases hlt : j < k
    · have h1 : (j : Int) < (k : Int) := by omega
      have hwj : IntKind.i64.wrap ((j : Int) + 1) = (j : Int) + 1 := by rw [IntKind.wrap_i64]; omega
      have hwj2 : IntKind.i64.wrap (10 + (j : Int)) = 10 + (j : Int) := by rw [IntKind.wrap_i64]; omega
      have HAD := Vx.hid (HJ.out.add (by omega))
      have HRD : Hid (∀ wx, XcAt (fun k => k < w1.heap.size) wx xb fts 0 1000 (fairE j ++ [nuE (10 + (j : Int)) 3 4]) j → Only (fun _ => False) w1 wx → Calls Try.prog 11 #[.pointer (some ⟨xb, 0, none⟩), .int .i64 (10 + (j : Int))] wx fun e w' => e = .returned (.int .i64 0) ∧ FaA w1 xb (j + 1) w') := fun wx a b => FaA.ready a b (by omega)
      go_wp2_with fail
      refine HAD.out.mono ?_
      rintro e w3 ⟨rfl, hx3, ho3⟩
      have HR2 := Vx.hid (HRD.out _ hx3 ho3)
      clear hx3 ho3
      go_wp2_with fail
      refine HR2.out.mono ?_
      rintro e w4 ⟨rfl, hf4⟩
      have HF4 := Vx.hid hf4
      clear hf4
      go_wp2_with fail
      go_roundw
      case rel => exact ⟨j + 1, by go_num, by omega, HF4⟩
      case measure => simp only [RowKit.intOf]; omega
    · obtain rfl : j = k := by omega
      have h1 : ¬ (j : Int) < (j : Int) := by omega
      have HB0 := Vx.hid (HJ.out.start hk1.1)
      obtain ⟨m, hmm⟩ : ∃ m, m = 1 + m0 := ⟨_, rfl⟩
      obtain ⟨k5, hk5⟩ : ∃ k5, k5 = 5 * j := ⟨_, rfl⟩
      obtain ⟨M, hM⟩ : ∃ M, M = k5 * m := ⟨_, rfl⟩
      have e1 : (1 : Int) + (m0 : Int) = (m : Int) := by omega
      have e2 : (5 : Int) * (j : Int) = (k5 : Int) := by omega
      have e3 : (k5 : Int) * (m : Int) = (M : Int) := by rw [hM, Int.natCast_mul]
      have hMb : M ≤ 180 := by
        rw [hM]
        calc k5 * m ≤ 45 * 4 := Nat.mul_le_mul (by omega) (by omega)
          _ = 180 := rfl
      have v1 : IntKind.i64.wrap (m : Int) = (m : Int) := by rw [IntKind.wrap_i64]; omega
      have v2 : IntKind.i64.wrap (k5 : Int) = (k5 : Int) := by rw [IntKind.wrap_i64]; omega
      have v3 : IntKind.i64.wrap (M : Int) = (M : Int) := by rw [IntKind.wrap_i64]; omega
      have hz : ¬ (j : Int) = 0 := by omega
      have hz2 : ((j : Int) == 0) = false := by rw [beq_eq_false_iff_ne]; omega
      have hz3 : ((j : Int) == -1) = false := by rw [beq_eq_false_iff_ne]; omega
      clear hM hk5 hmm HJ hlt
      go_wp2_with fail
      go_loopw [11, 12] (fun i _ wr => ∃ q : Nat, i = .int .i64 (q : Int) ∧ q ≤ M ∧ Hid (FaB w1 xb j q wr)) (fun i _ _ => M - (RowKit.intOf i).toNat)
      case atStart => exact ⟨0, rfl, by omega, HB0⟩
      case round =>
        obtain ⟨q, rfl, hq, HQ⟩ := hrel
        by_cases hlt : q < M
        · have h2 : (q : Int) < (M : Int) := by omega
          have hwq : IntKind.i64.wrap ((q : Int) + 1) = (q : Int) + 1 := by rw [IntKind.wrap_i64]; omega
          have HNX := Vx.hid (HQ.out.next hk1.1)
          obtain ⟨a5, ha5⟩ : ∃ a5, a5 = q / 5 := ⟨_, rfl⟩
          obtain ⟨b5, hb5⟩ : ∃ b5, b5 = a5 % j := ⟨_, rfl⟩
          have t1 : (q : Int).tdiv 5 = (a5 : Int) := by rw [Int.tdiv_eq_ediv_of_nonneg (by omega), ha5]; omega
          have t2 : (a5 : Int).tmod (j : Int) = (b5 : Int) := by rw [Int.tmod_eq_emod_of_nonneg (by omega), hb5, Int.natCast_emod]
          have hbj : b5 < j := by rw [hb5]; exact Nat.mod_lt _ (by omega)
          have u1 : IntKind.i64.wrap (a5 : Int) = (a5 : Int) := by rw [IntKind.wrap_i64]; omega
          have u2 : IntKind.i64.wrap (b5 : Int) = (b5 : Int) := by rw [IntKind.wrap_i64]; omega
          have u3 : IntKind.i64.wrap (10 + (b5 : Int)) = 10 + (b5 : Int) := by rw [IntKind.wrap_i64]; omega
          rw [← ha5, ← hb5] at HNX
          clear ha5 hb5 HQ hlt
          go_wp2_with fail
          refine (HP2.out _).mono ?_
          rintro e w' ⟨rfl, h⟩
          have h3 := h.symm; clear h; subst h3
          go_wp2_with fail
          refine HNX.out.mono ?_
          rintro e w5 ⟨rfl, hf5⟩
          have HF5 := Vx.hid hf5
          clear hf5
          go_wp2_with fail
          go_roundw
          case rel => exact ⟨q + 1, by go_num, by omega, HF5⟩
          case measure => simp only [RowKit.intOf]; omega
        · obtain rfl : q = M := by omega
          have h2 : ¬ (q : Int) < (q : Int) := by omega
          go_wp2_with fail
          refine (HP2.out _).mono ?_
          rintro e w' ⟨rfl, h⟩
          have h3 := h.symm; clear h; subst h3
          go_wp2_with fail
          go_ret
          exact ⟨rfl, HO1.out.trans HQ.out.2⟩
end Go.Proofs.Ytgncabcnefhkiaa

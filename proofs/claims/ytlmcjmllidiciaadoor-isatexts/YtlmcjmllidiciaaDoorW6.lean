/- Walks of isa.build and isa.Encode. -/
import Derived.Test.YtlmcjmllidiciaaDoorEnc
import Derived.Test.YtlmcjmllidiciaaDoorW5
import Derived.Deep.RegionWith
namespace Go.Proofs.YtlmcjmllidiciaaDoor
open Go.ChangeShapes Go.WideShapes Go.ChangeAt Go.RowKit
open Go.Vx (regMask spreadOf kindOf formOf ins insV zeroIns fits dec Ins wordOf)

set_option maxHeartbeats 1000000 in
theorem build_any (i : Ins) (h0 : 1 ≤ i.op) (h1 : i.op ≤ 48) (w : World) (hF : FormsAt w) :
    Calls Tryd.prog 16 #[insV i] w fun e w' => e = .returned (.int .u32 (wordOf i)) ∧ Below w.heap.size w w' := by
  have hz := hF.1
  have hc1 := (hF.2 i.op (by omega) h1).1
  have hc2 := (hF.2 i.op (by omega) h1).2
  have hk : (0 : Int) ≤ (kindOf i.op : Int) := by omega
  have hkn := Vx.kindOf_le i.op
  have hk2 : (kindOf i.op : Int) ≤ 7 := by omega
  have hm0 : 0 ≤ i.imm % 4294967296 := by omega
  have hm1 : i.imm % 4294967296 < 4294967296 := by omega
  unfold insV
  go_enter Tryd.func16, Tryd.ntmps16
  go_wp2
  go_quiet ((first | (go_at_call 23; exact Calls.quiet_of_same (reg_any _ hk hk2 _)) | (go_at_call 24; exact Calls.quiet_of_same (spread_any _ _ hk hk2 hm0 hm1 _))))
  go_wp2
  go_ret
  refine ⟨ret_int (Vx.word_num i h0 h1), ?_⟩
  exact below_drewN (((Below.refl _ _).alloc (Nat.le_refl _) _).alloc (by simp) _) _

theorem ins_ext {a b : Ins} (h0 : a.op = b.op) (h1 : a.rd = b.rd) (h2 : a.rs1 = b.rs1) (h3 : a.rs2 = b.rs2) (h4 : a.imm = b.imm) : a = b := by
  cases a; cases b; simp_all
/-- Where two instructions part first. -/
theorem ins_ne {a b : Ins} (h : a ≠ b) : (a.op == b.op) = false ∨ ((a.op == b.op) = true ∧ (a.rd == b.rd) = false) ∨ ((a.op == b.op) = true ∧ (a.rd == b.rd) = true ∧ (a.rs1 == b.rs1) = false) ∨
    ((a.op == b.op) = true ∧ (a.rd == b.rd) = true ∧ (a.rs1 == b.rs1) = true ∧ (a.rs2 == b.rs2) = false) ∨ ((a.op == b.op) = true ∧ (a.rd == b.rd) = true ∧ (a.rs1 == b.rs1) = true ∧ (a.rs2 == b.rs2) = true ∧ (a.imm == b.imm) = false) := by
  by_cases e0 : a.op = b.op
  · by_cases e1 : a.rd = b.rd
    · by_cases e2 : a.rs1 = b.rs1
      · by_cases e3 : a.rs2 = b.rs2
        · by_cases e4 : a.imm = b.imm
          · exact absurd (ins_ext e0 e1 e2 e3 e4) h
          · simp [e0, e1, e2, e3, e4]
        · simp [e0, e1, e2, e3]
      · simp [e0, e1, e2]
    · simp [e0, e1]
  · simp [e0]

set_option maxHeartbeats 1000000 in
theorem encode_far (i : Ins) (h : ¬ (1 ≤ i.op ∧ i.op ≤ 48)) (w : World) :
    Calls Tryd.prog 9 #[insV i] w fun e w' => e = .returned (.tuple #[.int .u32 0, .int .i64 8]) ∧ Below w.heap.size w w' := by
  unfold insV
  by_cases h1 : i.op < 1
  · clear h
    go_enter Tryd.func9, Tryd.ntmps9
    go_wp2
    go_ret2
    exact ⟨rfl, (Below.refl _ _).alloc (Nat.le_refl _) _⟩
  · have h2 : 48 < i.op := by omega
    clear h
    go_enter Tryd.func9, Tryd.ntmps9
    go_wp2
    go_ret2
    exact ⟨rfl, (Below.refl _ _).alloc (Nat.le_refl _) _⟩

set_option maxHeartbeats 1000000 in
theorem encode_ok (i : Ins) (h0 : 1 ≤ i.op) (h1 : i.op ≤ 48) (hd : dec (wordOf i) = i) (w : World) (hF : FormsAt w) :
    Calls Tryd.prog 9 #[insV i] w fun e w' => e = .returned (.tuple #[.int .u32 (wordOf i), .int .i64 0]) ∧ Below w.heap.size w w' := by
  have hz := hF.1
  have HF : Hid (FormsAt w) := hF
  have Hd : Hid (dec (wordOf i) = i) := hd
  obtain ⟨hw0, hw1⟩ := Vx.word_bound i h0 h1
  have HI : Hid (insV i = .agg #[.int .i64 i.op, .int .i64 i.rd, .int .i64 i.rs1, .int .i64 i.rs2, .int .i64 i.imm]) := rfl
  clear hF hd
  rw [HI.out]
  go_enter Tryd.func9, Tryd.ntmps9
  go_wp2_with fail
  rw [← HI.out]
  refine (build_any i h0 h1 _ (HF.out.below hz ((Below.refl _ _).alloc (Nat.le_refl _) _))).mono ?_
  rintro e w1 ⟨rfl, hb1⟩
  have hs1 : w.heap.size + 1 ≤ w1.heap.size := by have := hb1.size; simpa using this
  have hc : ∀ o, w1.cell? ⟨w.heap.size, o, none⟩ = (w.alloc (.cells #[.int .i64 i.op, .int .i64 i.rd, .int .i64 i.rs1, .int .i64 i.rs2, .int .i64 i.imm] 24)).cell? ⟨w.heap.size, o, none⟩ := fun o => hb1.cell (p := ⟨w.heap.size, o, none⟩) (by simp)
  have HF1 : Hid (FormsAt w1) := HF.out.below hz (((Below.refl _ _).alloc (Nat.le_refl _) _).trans (hb1.mono (by simp)))
  have HB1 : Hid (Below w.heap.size w w1) := ((Below.refl _ _).alloc (Nat.le_refl _) _).trans (hb1.mono (by simp))
  have hs2 : w.heap.size < w1.heap.size := by omega
  clear hb1
  go_wp2_with fail
  go_region_with (go_at_call 7; refine (decode_any _ hw0 hw1 w1.drew HF1.out).mono ?_; rintro e w2 ⟨rfl, hb2⟩; rw [Hd.out]; unfold insV; have hc2 := fun o => hb2.cell (p := ⟨w.heap.size, o, none⟩) hs2; have HB2 := show Hid _ from hb2; clear hb2)
  all_goals
    go_wp2
    go_ret2
    exact ⟨rfl, HB1.out.drew.trans (HB2.out.mono (by show w.heap.size ≤ w1.heap.size; omega))⟩

set_option maxHeartbeats 1000000 in
theorem encode_no (i : Ins) (h0 : 1 ≤ i.op) (h1 : i.op ≤ 48) (hd : dec (wordOf i) ≠ i) (w : World) (hF : FormsAt w) :
    Calls Tryd.prog 9 #[insV i] w fun e w' => e = .returned (.tuple #[.int .u32 0, .int .i64 8]) ∧ Below w.heap.size w w' := by
  have hz := hF.1
  have HF : Hid (FormsAt w) := hF
  have hne := ins_ne hd
  obtain ⟨hw0, hw1⟩ := Vx.word_bound i h0 h1
  have HI : Hid (insV i = .agg #[.int .i64 i.op, .int .i64 i.rd, .int .i64 i.rs1, .int .i64 i.rs2, .int .i64 i.imm]) := rfl
  clear hF hd
  rcases hne with hn0 | ⟨hn0, hn1⟩ | ⟨hn0, hn1, hn2⟩ | ⟨hn0, hn1, hn2, hn3⟩ | ⟨hn0, hn1, hn2, hn3, hn4⟩
  all_goals
    rw [HI.out]
    go_enter Tryd.func9, Tryd.ntmps9
    go_wp2_with fail
    rw [← HI.out]
    refine (build_any i h0 h1 _ (HF.out.below hz ((Below.refl _ _).alloc (Nat.le_refl _) _))).mono ?_
    rintro e w1 ⟨rfl, hb1⟩
    have hs1 : w.heap.size + 1 ≤ w1.heap.size := by have := hb1.size; simpa using this
    have hc : ∀ o, w1.cell? ⟨w.heap.size, o, none⟩ = (w.alloc (.cells #[.int .i64 i.op, .int .i64 i.rd, .int .i64 i.rs1, .int .i64 i.rs2, .int .i64 i.imm] 24)).cell? ⟨w.heap.size, o, none⟩ := fun o => hb1.cell (p := ⟨w.heap.size, o, none⟩) (by simp)
    have HF1 : Hid (FormsAt w1) := HF.out.below hz (((Below.refl _ _).alloc (Nat.le_refl _) _).trans (hb1.mono (by simp)))
    have HB1 : Hid (Below w.heap.size w w1) := ((Below.refl _ _).alloc (Nat.le_refl _) _).trans (hb1.mono (by simp))
    have hs2 : w.heap.size < w1.heap.size := by omega
    clear hb1
    go_wp2_with fail
    go_region_with (go_at_call 7; refine (decode_any _ hw0 hw1 w1.drew HF1.out).mono ?_; rintro e w2 ⟨rfl, hb2⟩; unfold insV; have hc2 := fun o => hb2.cell (p := ⟨w.heap.size, o, none⟩) hs2; have HB2 := show Hid _ from hb2; clear hb2)
    all_goals
      go_wp2
      go_ret2
      exact ⟨rfl, HB1.out.drew.trans (HB2.out.mono (by show w.heap.size ≤ w1.heap.size; omega))⟩
end Go.Proofs.YtlmcjmllidiciaaDoor

import Derived.Test.YtflmobffeeocdaaDoorCs21
import Derived.Test.YtflmobffeeocdaaDoorCs14
import Derived.Deep.RegionWith
import Derived.Test.YtflmobffeeocdaaDoorCs22
/- Walks of isa.build and isa.Encode. -/
namespace Go.Proofs.YtflmobffeeocdaaDoor
open Go.ChangeShapes Go.WideShapes Go.ChangeAt Go.RowKit
open Go.Vx (regMask spreadOf kindOf formOf ins insV zeroIns fits dec Ins wordOf)

set_option maxHeartbeats 1000000 in
theorem build_any (i : Ins) (h0 : 1 ≤ i.op) (h1 : i.op ≤ 48) (w : World) (hF : FormsAt w) :
    Calls Tryd.prog 38 #[insV i] w fun e w' => e = .returned (.int .u32 (wordOf i)) ∧ Below w.heap.size w w' := by
  have hz := hF.1
  have hc1 := (hF.2 i.op (by omega) h1).1
  have hc2 := (hF.2 i.op (by omega) h1).2
  have hk : (0 : Int) ≤ (kindOf i.op : Int) := by omega
  have hkn := Vx.kindOf_le i.op
  have hk2 : (kindOf i.op : Int) ≤ 7 := by omega
  have hm0 : 0 ≤ i.imm % 4294967296 := by omega
  have hm1 : i.imm % 4294967296 < 4294967296 := by omega
  unfold insV
  go_enter Tryd.func38, Tryd.ntmps38
  go_wp2
  go_quiet ((first | (go_at_call 48; exact Calls.quiet_of_same (reg_any _ hk hk2 _)) | (go_at_call 49; exact Calls.quiet_of_same (spread_any _ _ hk hk2 hm0 hm1 _))))
  go_wp2
  go_ret
  refine ⟨ret_int (Vx.word_num i h0 h1), ?_⟩
  exact below_drewN (((Below.refl _ _).alloc (Nat.le_refl _) _).alloc (by simp) _) _

set_option maxHeartbeats 1000000 in
theorem encode_far (i : Ins) (h : ¬ (1 ≤ i.op ∧ i.op ≤ 48)) (w : World) :
    Calls Tryd.prog 20 #[insV i] w fun e w' => e = .returned (.tuple #[.int .u32 0, .int .i64 8]) ∧ Below w.heap.size w w' := by
  unfold insV
  by_cases h1 : i.op < 1
  · clear h
    go_enter Tryd.func20, Tryd.ntmps20
    go_wp2
    go_ret2
    exact ⟨rfl, (Below.refl _ _).alloc (Nat.le_refl _) _⟩
  · have h2 : 48 < i.op := by omega
    clear h
    go_enter Tryd.func20, Tryd.ntmps20
    go_wp2
    go_ret2
    exact ⟨rfl, (Below.refl _ _).alloc (Nat.le_refl _) _⟩

set_option maxHeartbeats 1000000 in
theorem encode_ok (i : Ins) (h0 : 1 ≤ i.op) (h1 : i.op ≤ 48) (hd : dec (wordOf i) = i) (w : World) (hF : FormsAt w) :
    Calls Tryd.prog 20 #[insV i] w fun e w' => e = .returned (.tuple #[.int .u32 (wordOf i), .int .i64 0]) ∧ Below w.heap.size w w' := by
  have hz := hF.1
  have HF : Hid (FormsAt w) := hF
  have Hd : Hid (dec (wordOf i) = i) := hd
  obtain ⟨hw0, hw1⟩ := Vx.word_bound i h0 h1
  have HI : Hid (insV i = .agg #[.int .i64 i.op, .int .i64 i.rd, .int .i64 i.rs1, .int .i64 i.rs2, .int .i64 i.imm]) := rfl
  clear hF hd
  rw [HI.out]
  go_enter Tryd.func20, Tryd.ntmps20
  go_wp2_with fail
  rw [← HI.out]
  refine (build_any i h0 h1 _ (HF.out.below hz ((Below.refl _ _).alloc (Nat.le_refl _) _))).mono ?_
  rintro e w1 ⟨rfl, hb1⟩
  have hs1 : w.heap.size + 1 ≤ w1.heap.size := by have := hb1.size; simpa using this
  have hc : ∀ o, w1.cell? ⟨w.heap.size, o, none⟩ = (w.alloc (.cells #[.int .i64 i.op, .int .i64 i.rd, .int .i64 i.rs1, .int .i64 i.rs2, .int .i64 i.imm] 66)).cell? ⟨w.heap.size, o, none⟩ := fun o => hb1.cell (p := ⟨w.heap.size, o, none⟩) (by simp)
  have HF1 : Hid (FormsAt w1) := HF.out.below hz (((Below.refl _ _).alloc (Nat.le_refl _) _).trans (hb1.mono (by simp)))
  have HB1 : Hid (Below w.heap.size w w1) := ((Below.refl _ _).alloc (Nat.le_refl _) _).trans (hb1.mono (by simp))
  have hs2 : w.heap.size < w1.heap.size := by omega
  clear hb1
  go_wp2_with fail
  go_region_with (go_at_call 39; refine (decode_any _ hw0 hw1 w1.drew HF1.out).mono ?_; rintro e w2 ⟨rfl, hb2⟩; rw [Hd.out]; unfold insV; have hc2 := fun o => hb2.cell (p := ⟨w.heap.size, o, none⟩) hs2; have HB2 := show Hid _ from hb2; clear hb2)
  all_goals
    go_wp2
    go_ret2
    exact ⟨rfl, HB1.out.drew.trans (HB2.out.mono (by show w.heap.size ≤ w1.heap.size; omega))⟩

set_option maxHeartbeats 1000000 in
theorem encode_no (i : Ins) (h0 : 1 ≤ i.op) (h1 : i.op ≤ 48) (hd : dec (wordOf i) ≠ i) (w : World) (hF : FormsAt w) :
    Calls Tryd.prog 20 #[insV i] w fun e w' => e = .returned (.tuple #[.int .u32 0, .int .i64 8]) ∧ Below w.heap.size w w' := by
  have hz := hF.1
  have HF : Hid (FormsAt w) := hF
  have hne := ins_ne hd
  obtain ⟨hw0, hw1⟩ := Vx.word_bound i h0 h1
  have HI : Hid (insV i = .agg #[.int .i64 i.op, .int .i64 i.rd, .int .i64 i.rs1, .int .i64 i.rs2, .int .i64 i.imm]) := rfl
  clear hF hd
  rcases hne with hn0 | ⟨hn0, hn1⟩ | ⟨hn0, hn1, hn2⟩ | ⟨hn0, hn1, hn2, hn3⟩ | ⟨hn0, hn1, hn2, hn3, hn4⟩
  all_goals
    rw [HI.out]
    go_enter Tryd.func20, Tryd.ntmps20
    go_wp2_with fail
    rw [← HI.out]
    refine (build_any i h0 h1 _ (HF.out.below hz ((Below.refl _ _).alloc (Nat.le_refl _) _))).mono ?_
    rintro e w1 ⟨rfl, hb1⟩
    have hs1 : w.heap.size + 1 ≤ w1.heap.size := by have := hb1.size; simpa using this
    have hc : ∀ o, w1.cell? ⟨w.heap.size, o, none⟩ = (w.alloc (.cells #[.int .i64 i.op, .int .i64 i.rd, .int .i64 i.rs1, .int .i64 i.rs2, .int .i64 i.imm] 66)).cell? ⟨w.heap.size, o, none⟩ := fun o => hb1.cell (p := ⟨w.heap.size, o, none⟩) (by simp)
    have HF1 : Hid (FormsAt w1) := HF.out.below hz (((Below.refl _ _).alloc (Nat.le_refl _) _).trans (hb1.mono (by simp)))
    have HB1 : Hid (Below w.heap.size w w1) := ((Below.refl _ _).alloc (Nat.le_refl _) _).trans (hb1.mono (by simp))
    have hs2 : w.heap.size < w1.heap.size := by omega
    clear hb1
    go_wp2_with fail
    go_region_with (go_at_call 39; refine (decode_any _ hw0 hw1 w1.drew HF1.out).mono ?_; rintro e w2 ⟨rfl, hb2⟩; unfold insV; have hc2 := fun o => hb2.cell (p := ⟨w.heap.size, o, none⟩) hs2; have HB2 := show Hid _ from hb2; clear hb2)
    all_goals
      go_wp2
      go_ret2
      exact ⟨rfl, HB1.out.drew.trans (HB2.out.mono (by show w.heap.size ≤ w1.heap.size; omega))⟩
end Go.Proofs.YtflmobffeeocdaaDoor

/- The contracts of isa.Encode by whether an instruction has a word. -/
namespace Go.Proofs.YtflmobffeeocdaaDoor
open Go.ChangeShapes Go.WideShapes Go.ChangeAt Go.RowKit
open Go.Vx (insV dec Ins wordOf)

theorem encode_good (i : Ins) (h : Good i) (w : World) (hF : FormsAt w) :
    Calls Tryd.prog 20 #[insV i] w fun e w' => e = .returned (.tuple #[.int .u32 (wordOf i), .int .i64 0]) ∧ Below w.heap.size w w' := encode_ok i h.1 h.2.1 h.2.2 w hF
theorem encode_bad (i : Ins) (h : ¬ Good i) (w : World) (hF : FormsAt w) :
    Calls Tryd.prog 20 #[insV i] w fun e w' => e = .returned (.tuple #[.int .u32 0, .int .i64 8]) ∧ Below w.heap.size w w' := by
  by_cases h1 : 1 ≤ i.op ∧ i.op ≤ 48
  · exact encode_no i h1.1 h1.2 (fun e => h ⟨h1.1, h1.2, e⟩) w hF
  · exact encode_far i h1 w
theorem good_addi : Good ⟨19, 1, 0, 0, 5⟩ := ⟨by decide, by decide, dec_addi⟩
theorem encode_addi (w : World) (hF : FormsAt w) :
    Calls Tryd.prog 20 #[.agg #[.int .i64 19, .int .i64 1, .int .i64 0, .int .i64 0, .int .i64 5]] w fun e w' => e = .returned (.tuple #[.int .u32 5243027, .int .i64 0]) ∧ Below w.heap.size w w' :=
  encode_good ⟨19, 1, 0, 0, 5⟩ good_addi w hF

end Go.Proofs.YtflmobffeeocdaaDoor

/- IsaRound: the law out of the contracts of isa.Decode and isa.Encode, its row, its tied card. -/
import Derived.Test.YtlmcjmllidiciaaDoorW6
import Derived.Test.YtlmcjmllidiciaaDoorDecodes
import Derived.Test.YtlmcjmllidiciaaDoorIns
namespace Go.Proofs.YtlmcjmllidiciaaDoor
open Go.ChangeShapes Go.WideShapes Go.ChangeAt Go.RowKit
open Go.Vx (kindOf formOf ins insV zeroIns fits dec Ins wordOf findFrom)

/-- An instruction that has a word. -/
def Good (i : Ins) : Prop := 1 ≤ i.op ∧ i.op ≤ 48 ∧ dec (wordOf i) = i
theorem encode_good (i : Ins) (h : Good i) (w : World) (hF : FormsAt w) :
    Calls Tryd.prog 9 #[insV i] w fun e w' => e = .returned (.tuple #[.int .u32 (wordOf i), .int .i64 0]) ∧ Below w.heap.size w w' := encode_ok i h.1 h.2.1 h.2.2 w hF
theorem encode_bad (i : Ins) (h : ¬ Good i) (w : World) (hF : FormsAt w) :
    Calls Tryd.prog 9 #[insV i] w fun e w' => e = .returned (.tuple #[.int .u32 0, .int .i64 8]) ∧ Below w.heap.size w w' := by
  by_cases h1 : 1 ≤ i.op ∧ i.op ≤ 48
  · exact encode_no i h1.1 h1.2 (fun e => h ⟨h1.1, h1.2, e⟩) w hF
  · exact encode_far i h1 w
theorem find_cases (x : Int) : ∀ (n : Nat) (op : Int), findFrom n op x = zeroIns ∨ ∃ o, op ≤ o ∧ o < op + n ∧ fits o x = true ∧ findFrom n op x = ins o x := by
  intro n
  induction n with
  | zero => intro op; exact Or.inl rfl
  | succ n ih =>
    intro op
    cases h : fits op x with
    | true => exact Or.inr ⟨op, by omega, by omega, h, by simp [findFrom, h]⟩
    | false =>
      rcases ih (op + 1) with h2 | ⟨o, h2, h3, h4, h5⟩
      · exact Or.inl (by simp [findFrom, h, h2])
      · exact Or.inr ⟨o, by omega, by omega, h4, by simp [findFrom, h, h5]⟩
theorem dec_cases (x : Nat) (hx : x < 4294967296) : dec x = zeroIns ∨ ((dec x).op != 0) = true ∧ Good (dec x) ∧ wordOf (dec x) = x := by
  rcases find_cases x 48 1 with h | ⟨o, h1, h2, h3, h4⟩
  · exact Or.inl h
  · right
    have hd : dec x = ins o x := h4
    have hw := Vx.word_ins o x h1 (by omega) hx h3
    refine ⟨?_, ⟨?_, ?_, ?_⟩, ?_⟩
    · rw [hd, bne_iff_ne]; show o ≠ 0; omega
    · rw [hd]; exact h1
    · rw [hd]; show o ≤ 48; omega
    · rw [hd, hw, hd]
    · rw [hd, hw]
theorem box_cells {w w' : World} {B b : Nat} (hb : Below B w w') (h : b < B) : ∀ o, w'.cell? ⟨b, o, none⟩ = w.cell? ⟨b, o, none⟩ := fun o => hb.cell (p := ⟨b, o, none⟩) h

set_option maxHeartbeats 1000000 in
theorem round_zero_good (n : Nat) (hn : n < 4294967296) (i : Ins) (hA : dec n = zeroIns) (hg : Good i) (w : World) (hF : FormsAt w) :
    Calls Tryd.prog 6 #[.int .u32 (n : Int), insV i] w fun e w' => e = .returned (.bool true) ∧ Below w.heap.size w w' := by
  have HF : Hid (FormsAt w) := hF
  have hz := hF.1
  have HA : Hid (dec n = zeroIns) := hA
  have HG : Hid (Good i) := hg
  have HI : Hid (insV i = .agg #[.int .i64 i.op, .int .i64 i.rd, .int .i64 i.rs1, .int .i64 i.rs2, .int .i64 i.imm]) := rfl
  clear hF hA hg
  rw [HI.out]
  go_enter Tryd.func6, Tryd.ntmps6
  go_wp2_with fail
  refine (decode_any n (by omega) (by omega) _ (HF.out.below hz ((Below.refl _ _).alloc (Nat.le_refl _) _))).mono ?_
  rintro e w1 ⟨rfl, hb1⟩
  have hs1 : w.heap.size < w1.heap.size := by have := hb1.size; simp at this; omega
  have hc1 := box_cells hb1 (show w.heap.size < _ by simp)
  have HB1 : Hid (Below w.heap.size w w1) := ((Below.refl _ _).alloc (Nat.le_refl _) _).trans (hb1.mono (by simp))
  clear hb1
  rw [HA.out]
  unfold insV zeroIns
  go_wp2_with fail
  rw [← HI.out]
  have HB2 : Hid (Below w.heap.size w (w1.alloc (.cells #[.int .i64 0, .int .i64 0, .int .i64 0, .int .i64 0, .int .i64 0] 24))) := HB1.out.alloc (Nat.le_of_lt hs1) _
  have hc2 : ∀ o, (w1.alloc (.cells #[.int .i64 0, .int .i64 0, .int .i64 0, .int .i64 0, .int .i64 0] 24)).cell? ⟨w.heap.size, o, none⟩ = w1.cell? ⟨w.heap.size, o, none⟩ := box_cells ((Below.refl _ _).alloc (Nat.le_refl _) _) hs1
  have hs2 : w.heap.size < (w1.alloc (.cells #[.int .i64 0, .int .i64 0, .int .i64 0, .int .i64 0, .int .i64 0] 24)).heap.size := by simp; omega
  refine (encode_good i HG.out _ (HF.out.below hz HB2.out)).mono ?_
  rintro e w3 ⟨rfl, hb3⟩
  have hs3 : w.heap.size < w3.heap.size := Nat.lt_of_lt_of_le hs2 hb3.size
  have hc3 : ∀ o, w3.cell? ⟨w.heap.size, o, none⟩ = (w.alloc (.cells #[.int .i64 i.op, .int .i64 i.rd, .int .i64 i.rs1, .int .i64 i.rs2, .int .i64 i.imm] 24)).cell? ⟨w.heap.size, o, none⟩ := by
    intro o
    rw [box_cells hb3 hs2 o, hc2 o, hc1 o]
  have HB3 : Hid (Below w.heap.size w w3) := HB2.out.trans (hb3.mono (Nat.le_of_lt hs2))
  clear hb3 hc1 hc2
  go_wp2_with fail
  have hwb := Vx.word_bound i HG.out.1 HG.out.2.1
  refine (decode_any (wordOf i) hwb.1 hwb.2 _ (HF.out.below hz HB3.out)).mono ?_
  rintro e w4 ⟨rfl, hb4⟩
  rw [HG.out.2.2]
  unfold insV
  clear hwb
  have hs4 : w.heap.size < w4.heap.size := Nat.lt_of_lt_of_le hs3 hb4.size
  have hc4 : ∀ o, w4.cell? ⟨w.heap.size, o, none⟩ = (w.alloc (.cells #[.int .i64 i.op, .int .i64 i.rd, .int .i64 i.rs1, .int .i64 i.rs2, .int .i64 i.imm] 24)).cell? ⟨w.heap.size, o, none⟩ := by
    intro o
    rw [box_cells hb4 hs3 o, hc3 o]
  have HB4 : Hid (Below w.heap.size w w4) := HB3.out.trans (hb4.mono (Nat.le_of_lt hs3))
  clear hb4 hc3
  go_wp2
  go_ret
  exact ⟨ret_val (by simp), HB4.out.alloc (Nat.le_of_lt hs4) _⟩

set_option maxHeartbeats 1000000 in
theorem round_zero_bad (n : Nat) (hn : n < 4294967296) (i : Ins) (hA : dec n = zeroIns) (hg : ¬ Good i) (w : World) (hF : FormsAt w) :
    Calls Tryd.prog 6 #[.int .u32 (n : Int), insV i] w fun e w' => e = .returned (.bool true) ∧ Below w.heap.size w w' := by
  have HF : Hid (FormsAt w) := hF
  have hz := hF.1
  have HA : Hid (dec n = zeroIns) := hA
  have HG : Hid (¬ Good i) := hg
  have HI : Hid (insV i = .agg #[.int .i64 i.op, .int .i64 i.rd, .int .i64 i.rs1, .int .i64 i.rs2, .int .i64 i.imm]) := rfl
  clear hF hA hg
  rw [HI.out]
  go_enter Tryd.func6, Tryd.ntmps6
  go_wp2_with fail
  refine (decode_any n (by omega) (by omega) _ (HF.out.below hz ((Below.refl _ _).alloc (Nat.le_refl _) _))).mono ?_
  rintro e w1 ⟨rfl, hb1⟩
  have hs1 : w.heap.size < w1.heap.size := by have := hb1.size; simp at this; omega
  have hc1 := box_cells hb1 (show w.heap.size < _ by simp)
  have HB1 : Hid (Below w.heap.size w w1) := ((Below.refl _ _).alloc (Nat.le_refl _) _).trans (hb1.mono (by simp))
  clear hb1
  rw [HA.out]
  unfold insV zeroIns
  go_wp2_with fail
  rw [← HI.out]
  have HB2 : Hid (Below w.heap.size w (w1.alloc (.cells #[.int .i64 0, .int .i64 0, .int .i64 0, .int .i64 0, .int .i64 0] 24))) := HB1.out.alloc (Nat.le_of_lt hs1) _
  have hc2 : ∀ o, (w1.alloc (.cells #[.int .i64 0, .int .i64 0, .int .i64 0, .int .i64 0, .int .i64 0] 24)).cell? ⟨w.heap.size, o, none⟩ = w1.cell? ⟨w.heap.size, o, none⟩ := box_cells ((Below.refl _ _).alloc (Nat.le_refl _) _) hs1
  have hs2 : w.heap.size < (w1.alloc (.cells #[.int .i64 0, .int .i64 0, .int .i64 0, .int .i64 0, .int .i64 0] 24)).heap.size := by simp; omega
  refine (encode_bad i HG.out _ (HF.out.below hz HB2.out)).mono ?_
  rintro e w3 ⟨rfl, hb3⟩
  have hs3 : w.heap.size < w3.heap.size := Nat.lt_of_lt_of_le hs2 hb3.size
  have hc3 : ∀ o, w3.cell? ⟨w.heap.size, o, none⟩ = (w.alloc (.cells #[.int .i64 i.op, .int .i64 i.rd, .int .i64 i.rs1, .int .i64 i.rs2, .int .i64 i.imm] 24)).cell? ⟨w.heap.size, o, none⟩ := by
    intro o
    rw [box_cells hb3 hs2 o, hc2 o, hc1 o]
  have HB3 : Hid (Below w.heap.size w w3) := HB2.out.trans (hb3.mono (Nat.le_of_lt hs2))
  clear hb3 hc1 hc2
  go_wp2_with fail
  refine (decode_any 5243027 (by omega) (by omega) _ (HF.out.below hz HB3.out)).mono ?_
  rintro e w4 ⟨rfl, hb4⟩
  rw [dec_addi]
  unfold insV
  have hs4 : w.heap.size < w4.heap.size := Nat.lt_of_lt_of_le hs3 hb4.size
  have HB4 : Hid (Below w.heap.size w w4) := HB3.out.trans (hb4.mono (Nat.le_of_lt hs3))
  clear hb4 hc3
  go_wp2
  go_ret
  exact ⟨ret_val (by simp), HB4.out.alloc (Nat.le_of_lt hs4) _⟩

set_option maxHeartbeats 1000000 in
theorem round_word_good (n : Nat) (hn : n < 4294967296) (i : Ins) (hA : ((dec n).op != 0) = true ∧ Good (dec n) ∧ wordOf (dec n) = n) (hg : Good i) (w : World) (hF : FormsAt w) :
    Calls Tryd.prog 6 #[.int .u32 (n : Int), insV i] w fun e w' => e = .returned (.bool true) ∧ Below w.heap.size w w' := by
  have HF : Hid (FormsAt w) := hF
  have hz := hF.1
  have HA : Hid (((dec n).op != 0) = true ∧ Good (dec n) ∧ wordOf (dec n) = n) := hA
  have HG : Hid (Good i) := hg
  have HI : Hid (insV i = .agg #[.int .i64 i.op, .int .i64 i.rd, .int .i64 i.rs1, .int .i64 i.rs2, .int .i64 i.imm]) := rfl
  clear hF hA hg
  rw [HI.out]
  go_enter Tryd.func6, Tryd.ntmps6
  go_wp2_with fail
  refine (decode_any n (by omega) (by omega) _ (HF.out.below hz ((Below.refl _ _).alloc (Nat.le_refl _) _))).mono ?_
  rintro e w1 ⟨rfl, hb1⟩
  have hs1 : w.heap.size < w1.heap.size := by have := hb1.size; simp at this; omega
  have hc1 := box_cells hb1 (show w.heap.size < _ by simp)
  have HB1 : Hid (Below w.heap.size w w1) := ((Below.refl _ _).alloc (Nat.le_refl _) _).trans (hb1.mono (by simp))
  clear hb1
  have hq : ((dec n).op != 0) = true := HA.out.1
  unfold insV
  go_wp2_with fail
  have HX : Hid (insV (dec n) = .agg #[.int .i64 (dec n).op, .int .i64 (dec n).rd, .int .i64 (dec n).rs1, .int .i64 (dec n).rs2, .int .i64 (dec n).imm]) := rfl
  rw [← HX.out]
  have HB1a : Hid (Below w.heap.size w (w1.alloc (.cells #[.int .i64 (dec n).op, .int .i64 (dec n).rd, .int .i64 (dec n).rs1, .int .i64 (dec n).rs2, .int .i64 (dec n).imm] 24))) := HB1.out.alloc (Nat.le_of_lt hs1) _
  refine (encode_good (dec n) HA.out.2.1 _ (HF.out.below hz HB1a.out)).mono ?_
  rintro e w2 ⟨rfl, hb2⟩
  rw [HA.out.2.2]
  have hs2 : w.heap.size < w2.heap.size := by have := hb2.size; simp at this; omega
  have hc2 : ∀ o, w2.cell? ⟨w.heap.size, o, none⟩ = w1.cell? ⟨w.heap.size, o, none⟩ := by
    intro o
    rw [box_cells hb2 (show w.heap.size < _ by simp; omega) o]
    exact box_cells ((Below.refl w1.heap.size w1).alloc (Nat.le_refl _) (.cells #[.int .i64 (dec n).op, .int .i64 (dec n).rd, .int .i64 (dec n).rs1, .int .i64 (dec n).rs2, .int .i64 (dec n).imm] 24)) hs1 o
  have HB2 : Hid (Below w.heap.size w w2) := HB1a.out.trans (hb2.mono (by simp; omega))
  clear hb2 hq
  go_wp2_with fail
  rw [← HI.out]
  refine (encode_good i HG.out _ (HF.out.below hz HB2.out)).mono ?_
  rintro e w3 ⟨rfl, hb3⟩
  have hs3 : w.heap.size < w3.heap.size := Nat.lt_of_lt_of_le hs2 hb3.size
  have hc3 : ∀ o, w3.cell? ⟨w.heap.size, o, none⟩ = (w.alloc (.cells #[.int .i64 i.op, .int .i64 i.rd, .int .i64 i.rs1, .int .i64 i.rs2, .int .i64 i.imm] 24)).cell? ⟨w.heap.size, o, none⟩ := by
    intro o
    rw [box_cells hb3 hs2 o, hc2 o, hc1 o]
  have HB3 : Hid (Below w.heap.size w w3) := HB2.out.trans (hb3.mono (Nat.le_of_lt hs2))
  clear hb3 hc1 hc2
  go_wp2_with fail
  have hwb := Vx.word_bound i HG.out.1 HG.out.2.1
  refine (decode_any (wordOf i) hwb.1 hwb.2 _ (HF.out.below hz HB3.out)).mono ?_
  rintro e w4 ⟨rfl, hb4⟩
  rw [HG.out.2.2]
  unfold insV
  clear hwb
  have hs4 : w.heap.size < w4.heap.size := Nat.lt_of_lt_of_le hs3 hb4.size
  have hc4 : ∀ o, w4.cell? ⟨w.heap.size, o, none⟩ = (w.alloc (.cells #[.int .i64 i.op, .int .i64 i.rd, .int .i64 i.rs1, .int .i64 i.rs2, .int .i64 i.imm] 24)).cell? ⟨w.heap.size, o, none⟩ := by
    intro o
    rw [box_cells hb4 hs3 o, hc3 o]
  have HB4 : Hid (Below w.heap.size w w4) := HB3.out.trans (hb4.mono (Nat.le_of_lt hs3))
  clear hb4 hc3
  go_wp2
  go_ret
  exact ⟨ret_val (by simp), HB4.out.alloc (Nat.le_of_lt hs4) _⟩

set_option maxHeartbeats 1000000 in
theorem round_word_bad (n : Nat) (hn : n < 4294967296) (i : Ins) (hA : ((dec n).op != 0) = true ∧ Good (dec n) ∧ wordOf (dec n) = n) (hg : ¬ Good i) (w : World) (hF : FormsAt w) :
    Calls Tryd.prog 6 #[.int .u32 (n : Int), insV i] w fun e w' => e = .returned (.bool true) ∧ Below w.heap.size w w' := by
  have HF : Hid (FormsAt w) := hF
  have hz := hF.1
  have HA : Hid (((dec n).op != 0) = true ∧ Good (dec n) ∧ wordOf (dec n) = n) := hA
  have HG : Hid (¬ Good i) := hg
  have HI : Hid (insV i = .agg #[.int .i64 i.op, .int .i64 i.rd, .int .i64 i.rs1, .int .i64 i.rs2, .int .i64 i.imm]) := rfl
  clear hF hA hg
  rw [HI.out]
  go_enter Tryd.func6, Tryd.ntmps6
  go_wp2_with fail
  refine (decode_any n (by omega) (by omega) _ (HF.out.below hz ((Below.refl _ _).alloc (Nat.le_refl _) _))).mono ?_
  rintro e w1 ⟨rfl, hb1⟩
  have hs1 : w.heap.size < w1.heap.size := by have := hb1.size; simp at this; omega
  have hc1 := box_cells hb1 (show w.heap.size < _ by simp)
  have HB1 : Hid (Below w.heap.size w w1) := ((Below.refl _ _).alloc (Nat.le_refl _) _).trans (hb1.mono (by simp))
  clear hb1
  have hq : ((dec n).op != 0) = true := HA.out.1
  unfold insV
  go_wp2_with fail
  have HX : Hid (insV (dec n) = .agg #[.int .i64 (dec n).op, .int .i64 (dec n).rd, .int .i64 (dec n).rs1, .int .i64 (dec n).rs2, .int .i64 (dec n).imm]) := rfl
  rw [← HX.out]
  have HB1a : Hid (Below w.heap.size w (w1.alloc (.cells #[.int .i64 (dec n).op, .int .i64 (dec n).rd, .int .i64 (dec n).rs1, .int .i64 (dec n).rs2, .int .i64 (dec n).imm] 24))) := HB1.out.alloc (Nat.le_of_lt hs1) _
  refine (encode_good (dec n) HA.out.2.1 _ (HF.out.below hz HB1a.out)).mono ?_
  rintro e w2 ⟨rfl, hb2⟩
  rw [HA.out.2.2]
  have hs2 : w.heap.size < w2.heap.size := by have := hb2.size; simp at this; omega
  have hc2 : ∀ o, w2.cell? ⟨w.heap.size, o, none⟩ = w1.cell? ⟨w.heap.size, o, none⟩ := by
    intro o
    rw [box_cells hb2 (show w.heap.size < _ by simp; omega) o]
    exact box_cells ((Below.refl w1.heap.size w1).alloc (Nat.le_refl _) (.cells #[.int .i64 (dec n).op, .int .i64 (dec n).rd, .int .i64 (dec n).rs1, .int .i64 (dec n).rs2, .int .i64 (dec n).imm] 24)) hs1 o
  have HB2 : Hid (Below w.heap.size w w2) := HB1a.out.trans (hb2.mono (by simp; omega))
  clear hb2 hq
  go_wp2_with fail
  rw [← HI.out]
  refine (encode_bad i HG.out _ (HF.out.below hz HB2.out)).mono ?_
  rintro e w3 ⟨rfl, hb3⟩
  have hs3 : w.heap.size < w3.heap.size := Nat.lt_of_lt_of_le hs2 hb3.size
  have hc3 : ∀ o, w3.cell? ⟨w.heap.size, o, none⟩ = (w.alloc (.cells #[.int .i64 i.op, .int .i64 i.rd, .int .i64 i.rs1, .int .i64 i.rs2, .int .i64 i.imm] 24)).cell? ⟨w.heap.size, o, none⟩ := by
    intro o
    rw [box_cells hb3 hs2 o, hc2 o, hc1 o]
  have HB3 : Hid (Below w.heap.size w w3) := HB2.out.trans (hb3.mono (Nat.le_of_lt hs2))
  clear hb3 hc1 hc2
  go_wp2_with fail
  refine (decode_any 5243027 (by omega) (by omega) _ (HF.out.below hz HB3.out)).mono ?_
  rintro e w4 ⟨rfl, hb4⟩
  rw [dec_addi]
  unfold insV
  have hs4 : w.heap.size < w4.heap.size := Nat.lt_of_lt_of_le hs3 hb4.size
  have HB4 : Hid (Below w.heap.size w w4) := HB3.out.trans (hb4.mono (Nat.le_of_lt hs3))
  clear hb4 hc3
  go_wp2
  go_ret
  exact ⟨ret_val (by simp), HB4.out.alloc (Nat.le_of_lt hs4) _⟩

theorem isaRound_walk (n : Nat) (hn : n < 4294967296) (i : Ins) (w : World) (hF : FormsAt w) :
    Calls Tryd.prog 6 #[.int .u32 (n : Int), insV i] w fun e w' => e = .returned (.bool true) ∧ Below w.heap.size w w' := by
  rcases dec_cases n hn with hA | hA
  · by_cases hg : Good i
    · exact round_zero_good n hn i hA hg w hF
    · exact round_zero_bad n hn i hA hg w hF
  · by_cases hg : Good i
    · exact round_word_good n hn i hA hg w hF
    · exact round_word_bad n hn i hA hg w hF

set_option maxRecDepth 100000 in
theorem isaRound_lifted (os : Os) (started : os.Started) (H : Type) (enc : TypeId × Value → H) :
    ReturnsInHanded {} Tryd.checked os 6 .any (fun w args => (Rows.isaRoundSpec.pre enc Tryd.prog Tryd.f6 [] false w args ∧ laidMetH Tryd.prog [("vault/isa.forms", Rows.laid_vault_isa_forms)] w) ∧ sizedMet enc Tryd.prog Tryd.f6 (OpenSpec.ofChange Rows.isaRoundSpec) false w args)
      (Rows.isaRoundSpec.post enc Tryd.prog Tryd.f6 false true false false) := by
  refine returnsInHanded_of_change_and (C := Tryd.checked) (X := fun w _ => laidMetH Tryd.prog [("vault/isa.forms", Rows.laid_vault_isa_forms)] w) (fun _ _ _ hh h => h.of_heap hh) own started (by kernel_rfl) Tryd.func6
    (ChangeSpec.witness_shaped (enc := enc) (C := Tryd.checked) (os := os) (X := fun w _ => laidMetH Tryd.prog [("vault/isa.forms", Rows.laid_vault_isa_forms)] w) false (World.doorLaid Tryd.prog 400 os) #[.int .u32 0, .agg #[.int .i64 0, .int .i64 0, .int .i64 0, .int .i64 0, .int .i64 0]] 8 rfl (World.shaped_of_RefB (by kernel_rfl) (by kernel_rfl)) (by kernel_rfl) (by kernel_rfl) (by kernel_rfl) (forms_met os _)) ?_
  intro W base args ds gs before hval0 hW _ _ hL _
  have hval : ∀ (j : Nat) t v, Tryd.f6.params[j]? = some t → args[j]? = some v → Value.okWide Tryd.prog W .any base t v := hval0
  have hW' := hW
  obtain ⟨p, q, hA0, hV, rfl, hfz, hnd⟩ := hW
  have hA : DataW.TrodAll enc Tryd.prog W 0 (fun _ => true) true Tryd.f6.params.toList args.toList ds p := hA0
  rw [Tryd.params6] at hA hval
  obtain ⟨v0, v1, d0, d1, p0, p1, hargs, rfl, rfl, h0, h1⟩ := trodAll_two hA
  obtain ⟨rfl, rfl⟩ := trodVars_none hV
  have hargs' : args = #[v0, v1] := by
    obtain ⟨l⟩ := args
    simpa using hargs
  subst hargs'
  obtain ⟨x, rfl, rfl, rfl, wx⟩ := open_int Tryd.underlying22 (hval 0 22 v0 rfl rfl) h0
  obtain ⟨i, rfl, rfl, rfl, wi⟩ := open_ins (hval 1 24 v1 rfl rfl) h1
  have hF := formsAt_of_laid hL
  clear hA0 hval0
  simp only [List.append_nil] at hW'
  obtain ⟨b0, b1⟩ := bounds_u32 wx
  obtain ⟨n, rfl⟩ := Int.eq_ofNat_of_zero_le b0
  refine (isaRound_walk n (by omega) i W hF).mono fun e W' ⟨he, hb⟩ => ?_
  subst he
  exact ⟨_, rfl, _, _, _, [], _, [], hW', trodAll_mk1 (shut_bool Tryd.underlying4 _), trodAll_mk2 (shut_int Tryd.underlying22 wx) (shut_ins i wi), rfl, hb.frame _, fun h => by cases h⟩

theorem isaRound_row : Rows.IsaRoundSaid :=
  OpenClaim.holds_of_wide 6 Tryd.f6 rfl rfl rfl rfl rfl rfl rfl ⟨rfl, rfl, rfl, rfl, rfl⟩ rfl rfl rfl rfl rfl (by kernel_rfl) Tryd.func6 (by kernel_rfl)
    (of_decide_eq_true (by kernel_rfl)) (by unfold Func.isWrapper; first | (rw [if_pos (by decide +kernel)]; kernel_rfl) | (rw [if_neg (by decide +kernel)]; exact ⟨rfl, rfl⟩))
    (fun os started H enc _ => isaRound_lifted os started H enc)

/-- The statement: the tied card. -/
theorem isaRound_holds : Rows.IsaRoundCardSaid :=
  Claim7.holds_tied_plain_at .later [] [.data] true _ false
    isaRound_row (fun _ h => by cases h) (by kernel_rfl) (fun _ h => by cases h) isaRound_row_tie rfl ⟨rfl, rfl⟩ (by kernel_rfl) rfl
    (fun f fn hf hfn => by
      obtain rfl : f = 6 := Option.some.inj ((show Tryd.prog.funcNamed "vault/vaultkeep.IsaRound" = some 6 by kernel_rfl).symm.trans hf) |>.symm
      obtain rfl : fn = Tryd.f6 := (Option.some.inj (Tryd.func6.symm.trans hfn)).symm
      exact ⟨by kernel_rfl, fun j t ht => by
        rw [Tryd.params6] at ht
        have hm : t ∈ [22, 24] := by simpa using Array.mem_of_getElem? ht
        have hall : ([22, 24].all fun u => !Tryd.prog.wantsStandIn u) = true := by kernel_rfl
        exact (show Tryd.prog.wantsStandIn t = false by simpa using List.all_eq_true.1 hall t hm)⟩)
    (by kernel_rfl)
#print axioms isaRound_holds
end Go.Proofs.YtlmcjmllidiciaaDoor

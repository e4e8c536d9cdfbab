/- Walks of isa.register and isa.operand. -/
import Derived.Test.YtmfookpigilccaaGreatDoorW9
import Derived.Test.YtmfookpigilccaaGreatDoorW10
import Derived.Test.YtmfookpigilccaaGreatDoorIsa
import Derived.Deep.RegionWith
import Derived.WalkSmall
namespace Go.Vx
def regB (n : Int) : List UInt8 := 120 :: Lib.itoa n
/-- What a letter of a shape stands for. -/
def opd (i : Ins) (c : UInt8) : List UInt8 :=
  if c = 100 then regB i.rd
  else if c = 115 then regB i.rs1
  else if c = 116 then regB i.rs2
  else if c = 109 then Lib.itoa i.imm ++ ([40] ++ regB i.rs1 ++ [41])
  else Lib.itoa i.imm
def Small (n : Int) : Prop := -4294967296 < n ∧ n < 4294967296
def InsSmall (i : Ins) : Prop := Small i.op ∧ Small i.rd ∧ Small i.rs1 ∧ Small i.rs2 ∧ Small i.imm
end Go.Vx
namespace Go.Proofs.YtmfookpigilccaaGreatDoor
open Go.ChangeShapes Go.WideShapes Go.ChangeAt Go.RowKit Go.Sort Go.Shelf
open Go.Vx (insV Ins regB opd Small InsSmall)

theorem gPow : Tryz.prog.globalNamed "internal/strconv.uint64pow10" = some 2 := by kernel_rfl
theorem PowAt.size {w : World} (h : PowAt w) : 2 < w.heap.size := by
  have hc := World.var?_cell gPow h 0
  rcases Nat.lt_or_ge 2 w.heap.size with h1 | h1
  · exact h1
  · have : w.heap[2]? = none := Array.getElem?_eq_none h1
    simp [World.cell?, this, Lib.pow10Tab] at hc
theorem PowAt.below {w w' : World} {B : Nat} (h : PowAt w) (hb : Below B w w') (hB : 2 < B) : PowAt w' := var?_below hb gPow hB h
theorem itoa_len (n : Int) (h : Small n) : (Lib.itoa n).length ≤ 21 := by
  unfold Lib.itoa
  split
  · rw [List.length_cons, Lib.decDigits_length]
    have := nDigits_le n.natAbs (by have := h.1; omega)
    omega
  · rw [Lib.decDigits_length]
    have := nDigits_le n.toNat (by have := h.2; omega)
    omega
theorem itoa_small (n : Int) (h : Small n) (w : World) (htab : PowAt w) :
    Calls Tryz.prog 49 #[.int .i64 n] w fun e w' => e = .returned (.string ⟨(Lib.itoa n).toArray⟩) ∧ Below w.heap.size w w' := itoa_any n (by have := h.1; omega) (by have := h.2; omega) w htab

theorem register_any (n : Int) (h : Small n) (w : World) (htab : PowAt w) :
    Calls Tryz.prog 48 #[.int .i64 n] w fun e w' => e = .returned (.string ⟨(regB n).toArray⟩) ∧ Below w.heap.size w w' := by
  obtain ⟨l, hl0⟩ : ∃ l, Lib.itoa n = l := ⟨_, rfl⟩
  have hl : l.length ≤ 21 := by rw [← hl0]; exact itoa_len n h
  have HR : Hid (regB n = [120] ++ l) := by
    show regB n = [120] ++ l
    rw [← hl0]; rfl
  have HL : Hid (Lib.itoa n = l) := hl0
  clear hl0
  go_enter Tryz.func48, Tryz.ntmps48
  go_wp2_with fail
  refine (itoa_small n h _ htab).mono ?_
  rintro e w' ⟨rfl, hb⟩
  rw [HL.out]
  go_wp2
  go_ret
  refine ⟨?_, hb⟩
  rw [HR.out]
  exact ret_val (congrArg Value.string (cat [120] l))
theorem cat4 (a b : List UInt8) : (⟨a.toArray⟩ : ByteArray) ++ ⟨[40].toArray⟩ ++ ⟨b.toArray⟩ ++ ⟨[41].toArray⟩ = ⟨(a ++ ([40] ++ b ++ [41])).toArray⟩ := by
  rw [cat, cat, cat]
  simp
theorem regB_len (n : Int) (h : Small n) : (regB n).length ≤ 22 := by
  have := itoa_len n h
  show (Lib.itoa n).length + 1 ≤ 22
  omega

set_option maxHeartbeats 1000000 in
theorem operand_any (i : Ins) (hi : InsSmall i) (c : UInt8) (hc : c = 100 ∨ c = 115 ∨ c = 116 ∨ c = 109 ∨ c = 105 ∨ c = 106) (w : World) (htab : PowAt w) :
    Calls Tryz.prog 25 #[insV i, .int .i32 (c.toNat : Int)] w fun e w' => e = .returned (.string ⟨(opd i c).toArray⟩) ∧ Below w.heap.size w w' := by
  obtain ⟨_, s1, s2, s3, s4⟩ := hi
  have hz := htab.size
  have HT : Hid (PowAt (w.alloc (.cells #[.int .i64 i.op, .int .i64 i.rd, .int .i64 i.rs1, .int .i64 i.rs2, .int .i64 i.imm] 34))) := htab.below ((Below.refl _ _).alloc (Nat.le_refl _) _) hz
  have HB : Hid (Below w.heap.size w (w.alloc (.cells #[.int .i64 i.op, .int .i64 i.rd, .int .i64 i.rs1, .int .i64 i.rs2, .int .i64 i.imm] 34))) := (Below.refl _ _).alloc (Nat.le_refl _) _
  unfold insV
  rcases hc with rfl | rfl | rfl | rfl | rfl | rfl
  · have HO : Hid (opd i 100 = regB i.rd) := rfl
    have hcn : (((100 : UInt8).toNat : Nat) : Int) = 100 := rfl
    rw [hcn]
    go_enter Tryz.func25, Tryz.ntmps25
    go_wp2_with (go_at_call 48; refine (register_any _ s1 _ HT.out).mono ?_; rintro e w' ⟨rfl, hb⟩)
    go_ret
    exact ⟨by rw [HO.out]; rfl, HB.out.trans (hb.mono (by simp))⟩
  · have HO : Hid (opd i 115 = regB i.rs1) := rfl
    have hcn : (((115 : UInt8).toNat : Nat) : Int) = 115 := rfl
    rw [hcn]
    go_enter Tryz.func25, Tryz.ntmps25
    go_wp2_with (go_at_call 48; refine (register_any _ s2 _ HT.out).mono ?_; rintro e w' ⟨rfl, hb⟩)
    go_ret
    exact ⟨by rw [HO.out]; rfl, HB.out.trans (hb.mono (by simp))⟩
  · have HO : Hid (opd i 116 = regB i.rs2) := rfl
    have hcn : (((116 : UInt8).toNat : Nat) : Int) = 116 := rfl
    rw [hcn]
    go_enter Tryz.func25, Tryz.ntmps25
    go_wp2_with (go_at_call 48; refine (register_any _ s3 _ HT.out).mono ?_; rintro e w' ⟨rfl, hb⟩)
    go_ret
    exact ⟨by rw [HO.out]; rfl, HB.out.trans (hb.mono (by simp))⟩
  · have HO : Hid (opd i 109 = Lib.itoa i.imm ++ ([40] ++ regB i.rs1 ++ [41])) := rfl
    have hcn : (((109 : UInt8).toNat : Nat) : Int) = 109 := rfl
    rw [hcn]
    have HTd : Hid (PowAt (w.alloc (.cells #[.int .i64 i.op, .int .i64 i.rd, .int .i64 i.rs1, .int .i64 i.rs2, .int .i64 i.imm] 34)).drew) := HT.out
    have HONE : Hid (2 < (w.alloc (.cells #[.int .i64 i.op, .int .i64 i.rd, .int .i64 i.rs1, .int .i64 i.rs2, .int .i64 i.imm] 34)).drew.heap.size) := by
      show 2 < (w.alloc (.cells #[.int .i64 i.op, .int .i64 i.rd, .int .i64 i.rs1, .int .i64 i.rs2, .int .i64 i.imm] 34)).heap.size
      rw [World.size_alloc]; omega
    have HLT : Hid (w.heap.size < (w.alloc (.cells #[.int .i64 i.op, .int .i64 i.rd, .int .i64 i.rs1, .int .i64 i.rs2, .int .i64 i.imm] 34)).drew.heap.size) := by
      show w.heap.size < (w.alloc (.cells #[.int .i64 i.op, .int .i64 i.rd, .int .i64 i.rs1, .int .i64 i.rs2, .int .i64 i.imm] 34)).heap.size
      rw [World.size_alloc]; omega
    obtain ⟨a, ha⟩ : ∃ a, Lib.itoa i.imm = a := ⟨_, rfl⟩
    have hal : a.length ≤ 21 := by rw [← ha]; exact itoa_len _ s4
    obtain ⟨b, hb⟩ : ∃ b, regB i.rs1 = b := ⟨_, rfl⟩
    have hbl : b.length ≤ 22 := by rw [← hb]; exact regB_len _ s2
    rw [ha, hb] at HO
    have HA : Hid (Lib.itoa i.imm = a) := ha
    have HBb : Hid (regB i.rs1 = b) := hb
    clear ha hb
    go_enter Tryz.func25, Tryz.ntmps25
    go_wp2_with fail
    go_region_with (first
      | (go_at_call 49; refine (itoa_small _ s4 _ ?_).mono ?_; (first | exact HT.out | exact HTd.out.below hb28 HONE.out); rintro e w29 ⟨rfl, hb29⟩; rw [HA.out]; (try (have hc29 := fun o => hb29.cell (p := ⟨w.heap.size, o, none⟩) HLT.out)))
      | (go_at_call 48; refine (register_any _ s2 _ ?_).mono ?_; (first | exact HT.out | exact HTd.out.below hb29 HONE.out); rintro e w28 ⟨rfl, hb28⟩; rw [HBb.out]; (try (have hc28 := fun o => hb28.cell (p := ⟨w.heap.size, o, none⟩) HLT.out))))
    all_goals
      go_wp2
      go_ret
      refine ⟨?_, ?_⟩
      · rw [HO.out]
        exact ret_val (congrArg Value.string (cat4 a b))
      · first
          | exact (HB.out.drew.trans (hb29.mono (Nat.le_of_lt HLT.out))).trans (hb28.mono (Nat.le_trans (Nat.le_of_lt HLT.out) hb29.size))
          | exact (HB.out.drew.trans (hb28.mono (Nat.le_of_lt HLT.out))).trans (hb29.mono (Nat.le_trans (Nat.le_of_lt HLT.out) hb28.size))
  · have HO : Hid (opd i 105 = Lib.itoa i.imm) := rfl
    have hcn : (((105 : UInt8).toNat : Nat) : Int) = 105 := rfl
    rw [hcn]
    go_enter Tryz.func25, Tryz.ntmps25
    go_wp2_with (go_at_call 49; refine (itoa_small _ s4 _ HT.out).mono ?_; rintro e w' ⟨rfl, hb⟩)
    go_ret
    exact ⟨by rw [HO.out]; rfl, HB.out.trans (hb.mono (by simp))⟩
  · have HO : Hid (opd i 106 = Lib.itoa i.imm) := rfl
    have hcn : (((106 : UInt8).toNat : Nat) : Int) = 106 := rfl
    rw [hcn]
    go_enter Tryz.func25, Tryz.ntmps25
    go_wp2_with (go_at_call 49; refine (itoa_small _ s4 _ HT.out).mono ?_; rintro e w' ⟨rfl, hb⟩)
    go_ret
    exact ⟨by rw [HO.out]; rfl, HB.out.trans (hb.mono (by simp))⟩
end Go.Proofs.YtmfookpigilccaaGreatDoor

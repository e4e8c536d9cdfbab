/- A walk of the document's Text. -/
import Derived.Test.YtlmcjmllidiciaaDoorW12
import Derived.Test.YtlmcjmllidiciaaDoorEncodes
namespace Go.Proofs.YtlmcjmllidiciaaDoor
open Go.ChangeShapes Go.WideShapes Go.ChangeAt Go.RowKit Go.Sort Go.Shelf
open Go.Vx (insV Ins regB opd Small InsSmall tailF fullT letterOk shapeB nameB dec zeroIns wordOf)

set_option maxHeartbeats 4000000 in
theorem refText_ins (x : Nat) (hx : x < 4294967296) (i : Ins) (hd : dec x = i) (hg : Good i) (hw : wordOf i = x) (hi : InsSmall i) (w : World) :
    Calls Tryd.prog 12 #[.int .i64 (x : Int)] w fun e w' => e = .returned (.string ⟨(fullT i).toArray⟩) ∧ Below w.heap.size w w' := by
  have HD : Hid (dec x = i) := hd
  have HG : Hid (Good i) := hg
  have HW : Hid (wordOf i = x) := hw
  have HS : Hid (InsSmall i) := hi
  have h0 := hg.1
  have h1 := hg.2.1
  have HI : Hid (insV i = .agg #[.int .i64 i.op, .int .i64 i.rd, .int .i64 i.rs1, .int .i64 i.rs2, .int .i64 i.imm]) := rfl
  clear hd hg hw hi
  go_enter Tryd.func12, Tryd.ntmps12
  go_wp2_with fail
  refine (refDecode_any x hx _).mono ?_
  rintro e w1 ⟨rfl, hb1⟩
  rw [HD.out, HI.out]
  have hs1 : w.heap.size ≤ w1.heap.size := hb1.size
  have HB0 : Hid (Below w.heap.size w w1) := hb1
  clear hb1
  go_wp2_with fail
  rw [← HI.out]
  refine (refEncode_good i HG.out _).mono ?_
  rintro e w2 ⟨rfl, hb2⟩
  rw [HW.out, HI.out]
  have hc0 := box_cells hb2 (show w1.heap.size < _ by simp)
  have hz0 : w1.heap.size < w2.heap.size := by have := hb2.size; simp at this; omega
  have HB1 : Hid (Below (w1.heap.size + 1) (w1.alloc (.cells #[.int .i64 i.op, .int .i64 i.rd, .int .i64 i.rs1, .int .i64 i.rs2, .int .i64 i.imm] 24)) w2) := by
    have : Below (w1.heap.size + 1) (w1.alloc (.cells #[.int .i64 i.op, .int .i64 i.rd, .int .i64 i.rs1, .int .i64 i.rs2, .int .i64 i.imm] 24)) w2 := by simpa using hb2
    exact this
  clear hb2
  go_wp2_with (first | (go_at_call 19; refine (name_any _ h0 h1 _).mono ?_; rintro e w' ⟨rfl, hww⟩; have hww2 := hww.symm; clear hww; subst hww2) | (go_at_call 20; refine (shape_any _ h0 h1 _).mono ?_; rintro e w' ⟨rfl, hww⟩; have hww2 := hww.symm; clear hww; subst hww2))
  have HFU : Hid (fullT i = nameB i.op ++ tailF i [32] (shapeB i.op)) := rfl
  have HSO : Hid ((shapeB i.op).length ≤ 3 ∧ ∀ c ∈ shapeB i.op, letterOk c) := Vx.shape_ok i.op
  have HNL : Hid ((nameB i.op).length ≤ 6) := Vx.name_len i.op
  generalize shapeB i.op = sh at *
  generalize nameB i.op = nm at *
  obtain ⟨dl, hD⟩ : ∃ l, Lib.itoa i.rd = l := ⟨_, rfl⟩
  obtain ⟨sl, hS⟩ : ∃ l, Lib.itoa i.rs1 = l := ⟨_, rfl⟩
  obtain ⟨tl, hT⟩ : ∃ l, Lib.itoa i.rs2 = l := ⟨_, rfl⟩
  obtain ⟨ml, hM⟩ : ∃ l, Lib.itoa i.imm = l := ⟨_, rfl⟩
  have ld : dl.length ≤ 21 := by rw [← hD]; exact itoa_len _ HS.out.2.1
  have ls : sl.length ≤ 21 := by rw [← hS]; exact itoa_len _ HS.out.2.2.1
  have lt : tl.length ≤ 21 := by rw [← hT]; exact itoa_len _ HS.out.2.2.2.1
  have lm : ml.length ≤ 21 := by rw [← hM]; exact itoa_len _ HS.out.2.2.2.2
  have HD' : Hid (Lib.itoa i.rd = dl) := hD
  have HSl : Hid (Lib.itoa i.rs1 = sl) := hS
  have HTl : Hid (Lib.itoa i.rs2 = tl) := hT
  have HM : Hid (Lib.itoa i.imm = ml) := hM
  clear hD hS hT hM
  go_loopw [7, 9] (fun a b wr => ∃ k : Nat, ∃ acc : List UInt8, k ≤ sh.length ∧ b = .int .i64 k ∧ a = .string ⟨acc.toArray⟩ ∧ Hid (acc ++ tailF i (if k = 0 then [32] else [44, 32]) (sh.drop k) = fullT i) ∧ acc.length ≤ 6 + 70 * k
      ∧ Below (w1.heap.size + 1) (w1.alloc (.cells #[.int .i64 i.op, .int .i64 i.rd, .int .i64 i.rs1, .int .i64 i.rs2, .int .i64 i.imm] 24)) wr) (fun _ b _ => sh.length - (intOf b).toNat)
  case atStart =>
    exact ⟨0, nm, Nat.zero_le _, rfl, rfl, HFU.out.symm, HNL.out, HB1.out⟩
  case round =>
    obtain ⟨k, acc, hk, rfl, rfl, HT, hal, hbr⟩ := hrel
    have hz1 : w1.heap.size < wr.heap.size := by have := hbr.size; simp at this; omega
    have hc1 : ∀ o, wr.cell? ⟨w1.heap.size, o, none⟩ = (w1.alloc (.cells #[.int .i64 i.op, .int .i64 i.rd, .int .i64 i.rs1, .int .i64 i.rs2, .int .i64 i.imm] 24)).cell? ⟨w1.heap.size, o, none⟩ := box_cells hbr (Nat.lt_succ_self _)
    have HB1 : Hid (Below (w1.heap.size + 1) (w1.alloc (.cells #[.int .i64 i.op, .int .i64 i.rd, .int .i64 i.rs1, .int .i64 i.rs2, .int .i64 i.imm] 24)) wr) := hbr
    have hszs : (ByteArray.mk sh.toArray).size = sh.length := by simp [ByteArray.size]
    have HSZ : Hid ((ByteArray.mk sh.toArray).size = sh.length) := hszs
    have hk3 : k ≤ 3 := Nat.le_trans hk HSO.out.1
    have hal2 : acc.length ≤ 216 := by omega
    clear hbr hszs
    by_cases hlt : k < sh.length
    · obtain ⟨c, hc⟩ : ∃ c, sh[k] = c := ⟨_, rfl⟩
      have hlet : letterOk c := by rw [← hc]; exact HSO.out.2 _ (List.getElem_mem _)
      have HIX : Hid (∀ wv : World, (Instr.index 9 (.string ⟨sh.toArray⟩) (.int .i64 (k : Int))).run Tryd.prog wv = .ok (.int .u8 ((c.toNat : Nat) : Int)) wv) := by
        intro wv
        have := index_sign ⟨sh.toArray⟩ sh k rfl hlt wv
        rw [hc] at this
        exact this
      have HN : Hid (sh.drop k = c :: sh.drop (k + 1)) := by
        show sh.drop k = _
        rw [← hc]; exact List.drop_eq_getElem_cons hlt
      have HT2 : Hid ((acc ++ ((if k = 0 then [32] else [44, 32]) ++ opd i c)) ++ tailF i [44, 32] (sh.drop (k + 1)) = fullT i) := by
        have := HT.out
        rw [HN.out, tailF] at this
        show (acc ++ ((if k = 0 then [32] else [44, 32]) ++ opd i c)) ++ tailF i [44, 32] (sh.drop (k + 1)) = fullT i
        rw [← this]
        simp
      clear hc
      have hidx := HIX.out
      by_cases hk0 : k = 0
      · have HBT : Hid ((if k = 0 then [32] else [44, 32]) = ([32] : List UInt8)) := if_pos hk0
        have hkb : ((k : Int) == 0) = true := beq_iff_eq.2 (by omega)
        rw [HBT.out] at HT2
        clear hk0 HBT
        rcases hlet with rfl | rfl | rfl | rfl | rfl | rfl
        · have HO : Hid (opd i 100 = 120 :: dl) := by
            show opd i 100 = _
            rw [← HD'.out]; rfl
          have hcn : (((100 : UInt8).toNat : Nat) : Int) = 100 := rfl
          rw [hcn] at hidx
          rw [HO.out] at HT2
          clear hcn HO HIX HN HT
          go_wp2_with fail
          refine (digits_any i.rd HS.out.2.1.1 HS.out.2.1.2 _).mono ?_
          rintro e v2 ⟨rfl, hb⟩
          rw [HD'.out]
          have hz2 : w1.heap.size < v2.heap.size := Nat.lt_of_lt_of_le hz1 hb.size
          have hc2 : ∀ o, v2.cell? ⟨w1.heap.size, o, none⟩ = (w1.alloc (.cells #[.int .i64 i.op, .int .i64 i.rd, .int .i64 i.rs1, .int .i64 i.rs2, .int .i64 i.imm] 24)).cell? ⟨w1.heap.size, o, none⟩ := by
            intro o
            rw [box_cells hb hz1 o, hc1 o]
          have HB2 : Hid (Below (w1.heap.size + 1) (w1.alloc (.cells #[.int .i64 i.op, .int .i64 i.rd, .int .i64 i.rs1, .int .i64 i.rs2, .int .i64 i.imm] 24)) v2) := HB1.out.trans (hb.mono hz1)
          clear hb hc1
          go_wp2_with fail
          refine (digits_any i.rs1 HS.out.2.2.1.1 HS.out.2.2.1.2 _).mono ?_
          rintro e v3 ⟨rfl, hb⟩
          rw [HSl.out]
          have hz3 : w1.heap.size < v3.heap.size := Nat.lt_of_lt_of_le hz2 hb.size
          have hc3 : ∀ o, v3.cell? ⟨w1.heap.size, o, none⟩ = (w1.alloc (.cells #[.int .i64 i.op, .int .i64 i.rd, .int .i64 i.rs1, .int .i64 i.rs2, .int .i64 i.imm] 24)).cell? ⟨w1.heap.size, o, none⟩ := by
            intro o
            rw [box_cells hb hz2 o, hc2 o]
          have HB3 : Hid (Below (w1.heap.size + 1) (w1.alloc (.cells #[.int .i64 i.op, .int .i64 i.rd, .int .i64 i.rs1, .int .i64 i.rs2, .int .i64 i.imm] 24)) v3) := HB2.out.trans (hb.mono hz2)
          clear hb hc2
          go_wp2_with fail
          refine (digits_any i.rs2 HS.out.2.2.2.1.1 HS.out.2.2.2.1.2 _).mono ?_
          rintro e v4 ⟨rfl, hb⟩
          rw [HTl.out]
          have hz4 : w1.heap.size < v4.heap.size := Nat.lt_of_lt_of_le hz3 hb.size
          have hc4 : ∀ o, v4.cell? ⟨w1.heap.size, o, none⟩ = (w1.alloc (.cells #[.int .i64 i.op, .int .i64 i.rd, .int .i64 i.rs1, .int .i64 i.rs2, .int .i64 i.imm] 24)).cell? ⟨w1.heap.size, o, none⟩ := by
            intro o
            rw [box_cells hb hz3 o, hc3 o]
          have HB4 : Hid (Below (w1.heap.size + 1) (w1.alloc (.cells #[.int .i64 i.op, .int .i64 i.rd, .int .i64 i.rs1, .int .i64 i.rs2, .int .i64 i.imm] 24)) v4) := HB3.out.trans (hb.mono hz3)
          clear hb hc3
          go_wp2_with fail
          refine (digits_any i.imm HS.out.2.2.2.2.1 HS.out.2.2.2.2.2 _).mono ?_
          rintro e v5 ⟨rfl, hb⟩
          rw [HM.out]
          have hz5 : w1.heap.size < v5.heap.size := Nat.lt_of_lt_of_le hz4 hb.size
          have hc5 : ∀ o, v5.cell? ⟨w1.heap.size, o, none⟩ = (w1.alloc (.cells #[.int .i64 i.op, .int .i64 i.rd, .int .i64 i.rs1, .int .i64 i.rs2, .int .i64 i.imm] 24)).cell? ⟨w1.heap.size, o, none⟩ := by
            intro o
            rw [box_cells hb hz4 o, hc4 o]
          have HB5 : Hid (Below (w1.heap.size + 1) (w1.alloc (.cells #[.int .i64 i.op, .int .i64 i.rd, .int .i64 i.rs1, .int .i64 i.rs2, .int .i64 i.imm] 24)) v5) := HB4.out.trans (hb.mono hz4)
          clear hb hc4
          go_wp2
          go_roundw
          case rel =>
            refine ⟨k + 1, acc ++ ([32] ++ (120 :: dl)), hlt, by go_num, congrArg Value.string ?_, ?_, ?_, HB5.out⟩
            · rw [cat, cat, cat]
              simp
            · show (acc ++ ([32] ++ (120 :: dl))) ++ tailF i (if k + 1 = 0 then [32] else [44, 32]) (sh.drop (k + 1)) = fullT i
              rw [if_neg (Nat.succ_ne_zero k)]
              exact HT2.out
            · simp only [List.length_append, List.length_cons, List.length_nil]
              omega
          case measure => simp [intOf]; omega
        · have HO : Hid (opd i 115 = 120 :: sl) := by
            show opd i 115 = _
            rw [← HSl.out]; rfl
          have hcn : (((115 : UInt8).toNat : Nat) : Int) = 115 := rfl
          rw [hcn] at hidx
          rw [HO.out] at HT2
          clear hcn HO HIX HN HT
          go_wp2_with fail
          refine (digits_any i.rd HS.out.2.1.1 HS.out.2.1.2 _).mono ?_
          rintro e v2 ⟨rfl, hb⟩
          rw [HD'.out]
          have hz2 : w1.heap.size < v2.heap.size := Nat.lt_of_lt_of_le hz1 hb.size
          have hc2 : ∀ o, v2.cell? ⟨w1.heap.size, o, none⟩ = (w1.alloc (.cells #[.int .i64 i.op, .int .i64 i.rd, .int .i64 i.rs1, .int .i64 i.rs2, .int .i64 i.imm] 24)).cell? ⟨w1.heap.size, o, none⟩ := by
            intro o
            rw [box_cells hb hz1 o, hc1 o]
          have HB2 : Hid (Below (w1.heap.size + 1) (w1.alloc (.cells #[.int .i64 i.op, .int .i64 i.rd, .int .i64 i.rs1, .int .i64 i.rs2, .int .i64 i.imm] 24)) v2) := HB1.out.trans (hb.mono hz1)
          clear hb hc1
          go_wp2_with fail
          refine (digits_any i.rs1 HS.out.2.2.1.1 HS.out.2.2.1.2 _).mono ?_
          rintro e v3 ⟨rfl, hb⟩
          rw [HSl.out]
          have hz3 : w1.heap.size < v3.heap.size := Nat.lt_of_lt_of_le hz2 hb.size
          have hc3 : ∀ o, v3.cell? ⟨w1.heap.size, o, none⟩ = (w1.alloc (.cells #[.int .i64 i.op, .int .i64 i.rd, .int .i64 i.rs1, .int .i64 i.rs2, .int .i64 i.imm] 24)).cell? ⟨w1.heap.size, o, none⟩ := by
            intro o
            rw [box_cells hb hz2 o, hc2 o]
          have HB3 : Hid (Below (w1.heap.size + 1) (w1.alloc (.cells #[.int .i64 i.op, .int .i64 i.rd, .int .i64 i.rs1, .int .i64 i.rs2, .int .i64 i.imm] 24)) v3) := HB2.out.trans (hb.mono hz2)
          clear hb hc2
          go_wp2_with fail
          refine (digits_any i.rs2 HS.out.2.2.2.1.1 HS.out.2.2.2.1.2 _).mono ?_
          rintro e v4 ⟨rfl, hb⟩
          rw [HTl.out]
          have hz4 : w1.heap.size < v4.heap.size := Nat.lt_of_lt_of_le hz3 hb.size
          have hc4 : ∀ o, v4.cell? ⟨w1.heap.size, o, none⟩ = (w1.alloc (.cells #[.int .i64 i.op, .int .i64 i.rd, .int .i64 i.rs1, .int .i64 i.rs2, .int .i64 i.imm] 24)).cell? ⟨w1.heap.size, o, none⟩ := by
            intro o
            rw [box_cells hb hz3 o, hc3 o]
          have HB4 : Hid (Below (w1.heap.size + 1) (w1.alloc (.cells #[.int .i64 i.op, .int .i64 i.rd, .int .i64 i.rs1, .int .i64 i.rs2, .int .i64 i.imm] 24)) v4) := HB3.out.trans (hb.mono hz3)
          clear hb hc3
          go_wp2_with fail
          refine (digits_any i.imm HS.out.2.2.2.2.1 HS.out.2.2.2.2.2 _).mono ?_
          rintro e v5 ⟨rfl, hb⟩
          rw [HM.out]
          have hz5 : w1.heap.size < v5.heap.size := Nat.lt_of_lt_of_le hz4 hb.size
          have hc5 : ∀ o, v5.cell? ⟨w1.heap.size, o, none⟩ = (w1.alloc (.cells #[.int .i64 i.op, .int .i64 i.rd, .int .i64 i.rs1, .int .i64 i.rs2, .int .i64 i.imm] 24)).cell? ⟨w1.heap.size, o, none⟩ := by
            intro o
            rw [box_cells hb hz4 o, hc4 o]
          have HB5 : Hid (Below (w1.heap.size + 1) (w1.alloc (.cells #[.int .i64 i.op, .int .i64 i.rd, .int .i64 i.rs1, .int .i64 i.rs2, .int .i64 i.imm] 24)) v5) := HB4.out.trans (hb.mono hz4)
          clear hb hc4
          go_wp2
          go_roundw
          case rel =>
            refine ⟨k + 1, acc ++ ([32] ++ (120 :: sl)), hlt, by go_num, congrArg Value.string ?_, ?_, ?_, HB5.out⟩
            · rw [cat, cat, cat]
              simp
            · show (acc ++ ([32] ++ (120 :: sl))) ++ tailF i (if k + 1 = 0 then [32] else [44, 32]) (sh.drop (k + 1)) = fullT i
              rw [if_neg (Nat.succ_ne_zero k)]
              exact HT2.out
            · simp only [List.length_append, List.length_cons, List.length_nil]
              omega
          case measure => simp [intOf]; omega
        · have HO : Hid (opd i 116 = 120 :: tl) := by
            show opd i 116 = _
            rw [← HTl.out]; rfl
          have hcn : (((116 : UInt8).toNat : Nat) : Int) = 116 := rfl
          rw [hcn] at hidx
          rw [HO.out] at HT2
          clear hcn HO HIX HN HT
          go_wp2_with fail
          refine (digits_any i.rd HS.out.2.1.1 HS.out.2.1.2 _).mono ?_
          rintro e v2 ⟨rfl, hb⟩
          rw [HD'.out]
          have hz2 : w1.heap.size < v2.heap.size := Nat.lt_of_lt_of_le hz1 hb.size
          have hc2 : ∀ o, v2.cell? ⟨w1.heap.size, o, none⟩ = (w1.alloc (.cells #[.int .i64 i.op, .int .i64 i.rd, .int .i64 i.rs1, .int .i64 i.rs2, .int .i64 i.imm] 24)).cell? ⟨w1.heap.size, o, none⟩ := by
            intro o
            rw [box_cells hb hz1 o, hc1 o]
          have HB2 : Hid (Below (w1.heap.size + 1) (w1.alloc (.cells #[.int .i64 i.op, .int .i64 i.rd, .int .i64 i.rs1, .int .i64 i.rs2, .int .i64 i.imm] 24)) v2) := HB1.out.trans (hb.mono hz1)
          clear hb hc1
          go_wp2_with fail
          refine (digits_any i.rs1 HS.out.2.2.1.1 HS.out.2.2.1.2 _).mono ?_
          rintro e v3 ⟨rfl, hb⟩
          rw [HSl.out]
          have hz3 : w1.heap.size < v3.heap.size := Nat.lt_of_lt_of_le hz2 hb.size
          have hc3 : ∀ o, v3.cell? ⟨w1.heap.size, o, none⟩ = (w1.alloc (.cells #[.int .i64 i.op, .int .i64 i.rd, .int .i64 i.rs1, .int .i64 i.rs2, .int .i64 i.imm] 24)).cell? ⟨w1.heap.size, o, none⟩ := by
            intro o
            rw [box_cells hb hz2 o, hc2 o]
          have HB3 : Hid (Below (w1.heap.size + 1) (w1.alloc (.cells #[.int .i64 i.op, .int .i64 i.rd, .int .i64 i.rs1, .int .i64 i.rs2, .int .i64 i.imm] 24)) v3) := HB2.out.trans (hb.mono hz2)
          clear hb hc2
          go_wp2_with fail
          refine (digits_any i.rs2 HS.out.2.2.2.1.1 HS.out.2.2.2.1.2 _).mono ?_
          rintro e v4 ⟨rfl, hb⟩
          rw [HTl.out]
          have hz4 : w1.heap.size < v4.heap.size := Nat.lt_of_lt_of_le hz3 hb.size
          have hc4 : ∀ o, v4.cell? ⟨w1.heap.size, o, none⟩ = (w1.alloc (.cells #[.int .i64 i.op, .int .i64 i.rd, .int .i64 i.rs1, .int .i64 i.rs2, .int .i64 i.imm] 24)).cell? ⟨w1.heap.size, o, none⟩ := by
            intro o
            rw [box_cells hb hz3 o, hc3 o]
          have HB4 : Hid (Below (w1.heap.size + 1) (w1.alloc (.cells #[.int .i64 i.op, .int .i64 i.rd, .int .i64 i.rs1, .int .i64 i.rs2, .int .i64 i.imm] 24)) v4) := HB3.out.trans (hb.mono hz3)
          clear hb hc3
          go_wp2_with fail
          refine (digits_any i.imm HS.out.2.2.2.2.1 HS.out.2.2.2.2.2 _).mono ?_
          rintro e v5 ⟨rfl, hb⟩
          rw [HM.out]
          have hz5 : w1.heap.size < v5.heap.size := Nat.lt_of_lt_of_le hz4 hb.size
          have hc5 : ∀ o, v5.cell? ⟨w1.heap.size, o, none⟩ = (w1.alloc (.cells #[.int .i64 i.op, .int .i64 i.rd, .int .i64 i.rs1, .int .i64 i.rs2, .int .i64 i.imm] 24)).cell? ⟨w1.heap.size, o, none⟩ := by
            intro o
            rw [box_cells hb hz4 o, hc4 o]
          have HB5 : Hid (Below (w1.heap.size + 1) (w1.alloc (.cells #[.int .i64 i.op, .int .i64 i.rd, .int .i64 i.rs1, .int .i64 i.rs2, .int .i64 i.imm] 24)) v5) := HB4.out.trans (hb.mono hz4)
          clear hb hc4
          go_wp2
          go_roundw
          case rel =>
            refine ⟨k + 1, acc ++ ([32] ++ (120 :: tl)), hlt, by go_num, congrArg Value.string ?_, ?_, ?_, HB5.out⟩
            · rw [cat, cat, cat]
              simp
            · show (acc ++ ([32] ++ (120 :: tl))) ++ tailF i (if k + 1 = 0 then [32] else [44, 32]) (sh.drop (k + 1)) = fullT i
              rw [if_neg (Nat.succ_ne_zero k)]
              exact HT2.out
            · simp only [List.length_append, List.length_cons, List.length_nil]
              omega
          case measure => simp [intOf]; omega
        · have HO : Hid (opd i 109 = ml ++ ([40] ++ (120 :: sl) ++ [41])) := by
            show opd i 109 = _
            rw [← HM.out, ← HSl.out]; rfl
          have hcn : (((109 : UInt8).toNat : Nat) : Int) = 109 := rfl
          rw [hcn] at hidx
          rw [HO.out] at HT2
          clear hcn HO HIX HN HT
          go_wp2_with fail
          refine (digits_any i.rd HS.out.2.1.1 HS.out.2.1.2 _).mono ?_
          rintro e v2 ⟨rfl, hb⟩
          rw [HD'.out]
          have hz2 : w1.heap.size < v2.heap.size := Nat.lt_of_lt_of_le hz1 hb.size
          have hc2 : ∀ o, v2.cell? ⟨w1.heap.size, o, none⟩ = (w1.alloc (.cells #[.int .i64 i.op, .int .i64 i.rd, .int .i64 i.rs1, .int .i64 i.rs2, .int .i64 i.imm] 24)).cell? ⟨w1.heap.size, o, none⟩ := by
            intro o
            rw [box_cells hb hz1 o, hc1 o]
          have HB2 : Hid (Below (w1.heap.size + 1) (w1.alloc (.cells #[.int .i64 i.op, .int .i64 i.rd, .int .i64 i.rs1, .int .i64 i.rs2, .int .i64 i.imm] 24)) v2) := HB1.out.trans (hb.mono hz1)
          clear hb hc1
          go_wp2_with fail
          refine (digits_any i.rs1 HS.out.2.2.1.1 HS.out.2.2.1.2 _).mono ?_
          rintro e v3 ⟨rfl, hb⟩
          rw [HSl.out]
          have hz3 : w1.heap.size < v3.heap.size := Nat.lt_of_lt_of_le hz2 hb.size
          have hc3 : ∀ o, v3.cell? ⟨w1.heap.size, o, none⟩ = (w1.alloc (.cells #[.int .i64 i.op, .int .i64 i.rd, .int .i64 i.rs1, .int .i64 i.rs2, .int .i64 i.imm] 24)).cell? ⟨w1.heap.size, o, none⟩ := by
            intro o
            rw [box_cells hb hz2 o, hc2 o]
          have HB3 : Hid (Below (w1.heap.size + 1) (w1.alloc (.cells #[.int .i64 i.op, .int .i64 i.rd, .int .i64 i.rs1, .int .i64 i.rs2, .int .i64 i.imm] 24)) v3) := HB2.out.trans (hb.mono hz2)
          clear hb hc2
          go_wp2_with fail
          refine (digits_any i.rs2 HS.out.2.2.2.1.1 HS.out.2.2.2.1.2 _).mono ?_
          rintro e v4 ⟨rfl, hb⟩
          rw [HTl.out]
          have hz4 : w1.heap.size < v4.heap.size := Nat.lt_of_lt_of_le hz3 hb.size
          have hc4 : ∀ o, v4.cell? ⟨w1.heap.size, o, none⟩ = (w1.alloc (.cells #[.int .i64 i.op, .int .i64 i.rd, .int .i64 i.rs1, .int .i64 i.rs2, .int .i64 i.imm] 24)).cell? ⟨w1.heap.size, o, none⟩ := by
            intro o
            rw [box_cells hb hz3 o, hc3 o]
          have HB4 : Hid (Below (w1.heap.size + 1) (w1.alloc (.cells #[.int .i64 i.op, .int .i64 i.rd, .int .i64 i.rs1, .int .i64 i.rs2, .int .i64 i.imm] 24)) v4) := HB3.out.trans (hb.mono hz3)
          clear hb hc3
          go_wp2_with fail
          refine (digits_any i.imm HS.out.2.2.2.2.1 HS.out.2.2.2.2.2 _).mono ?_
          rintro e v5 ⟨rfl, hb⟩
          rw [HM.out]
          have hz5 : w1.heap.size < v5.heap.size := Nat.lt_of_lt_of_le hz4 hb.size
          have hc5 : ∀ o, v5.cell? ⟨w1.heap.size, o, none⟩ = (w1.alloc (.cells #[.int .i64 i.op, .int .i64 i.rd, .int .i64 i.rs1, .int .i64 i.rs2, .int .i64 i.imm] 24)).cell? ⟨w1.heap.size, o, none⟩ := by
            intro o
            rw [box_cells hb hz4 o, hc4 o]
          have HB5 : Hid (Below (w1.heap.size + 1) (w1.alloc (.cells #[.int .i64 i.op, .int .i64 i.rd, .int .i64 i.rs1, .int .i64 i.rs2, .int .i64 i.imm] 24)) v5) := HB4.out.trans (hb.mono hz4)
          clear hb hc4
          go_wp2
          go_roundw
          case rel =>
            refine ⟨k + 1, acc ++ ([32] ++ (ml ++ ([40] ++ (120 :: sl) ++ [41]))), hlt, by go_num, congrArg Value.string ?_, ?_, ?_, HB5.out⟩
            · rw [cat, cat, cat, cat, cat]
              simp
            · show (acc ++ ([32] ++ (ml ++ ([40] ++ (120 :: sl) ++ [41])))) ++ tailF i (if k + 1 = 0 then [32] else [44, 32]) (sh.drop (k + 1)) = fullT i
              rw [if_neg (Nat.succ_ne_zero k)]
              exact HT2.out
            · simp only [List.length_append, List.length_cons, List.length_nil]
              omega
          case measure => simp [intOf]; omega
        · have HO : Hid (opd i 105 = ml) := by
            show opd i 105 = _
            rw [← HM.out]; rfl
          have hcn : (((105 : UInt8).toNat : Nat) : Int) = 105 := rfl
          rw [hcn] at hidx
          rw [HO.out] at HT2
          clear hcn HO HIX HN HT
          go_wp2_with fail
          refine (digits_any i.rd HS.out.2.1.1 HS.out.2.1.2 _).mono ?_
          rintro e v2 ⟨rfl, hb⟩
          rw [HD'.out]
          have hz2 : w1.heap.size < v2.heap.size := Nat.lt_of_lt_of_le hz1 hb.size
          have hc2 : ∀ o, v2.cell? ⟨w1.heap.size, o, none⟩ = (w1.alloc (.cells #[.int .i64 i.op, .int .i64 i.rd, .int .i64 i.rs1, .int .i64 i.rs2, .int .i64 i.imm] 24)).cell? ⟨w1.heap.size, o, none⟩ := by
            intro o
            rw [box_cells hb hz1 o, hc1 o]
          have HB2 : Hid (Below (w1.heap.size + 1) (w1.alloc (.cells #[.int .i64 i.op, .int .i64 i.rd, .int .i64 i.rs1, .int .i64 i.rs2, .int .i64 i.imm] 24)) v2) := HB1.out.trans (hb.mono hz1)
          clear hb hc1
          go_wp2_with fail
          refine (digits_any i.rs1 HS.out.2.2.1.1 HS.out.2.2.1.2 _).mono ?_
          rintro e v3 ⟨rfl, hb⟩
          rw [HSl.out]
          have hz3 : w1.heap.size < v3.heap.size := Nat.lt_of_lt_of_le hz2 hb.size
          have hc3 : ∀ o, v3.cell? ⟨w1.heap.size, o, none⟩ = (w1.alloc (.cells #[.int .i64 i.op, .int .i64 i.rd, .int .i64 i.rs1, .int .i64 i.rs2, .int .i64 i.imm] 24)).cell? ⟨w1.heap.size, o, none⟩ := by
            intro o
            rw [box_cells hb hz2 o, hc2 o]
          have HB3 : Hid (Below (w1.heap.size + 1) (w1.alloc (.cells #[.int .i64 i.op, .int .i64 i.rd, .int .i64 i.rs1, .int .i64 i.rs2, .int .i64 i.imm] 24)) v3) := HB2.out.trans (hb.mono hz2)
          clear hb hc2
          go_wp2_with fail
          refine (digits_any i.rs2 HS.out.2.2.2.1.1 HS.out.2.2.2.1.2 _).mono ?_
          rintro e v4 ⟨rfl, hb⟩
          rw [HTl.out]
          have hz4 : w1.heap.size < v4.heap.size := Nat.lt_of_lt_of_le hz3 hb.size
          have hc4 : ∀ o, v4.cell? ⟨w1.heap.size, o, none⟩ = (w1.alloc (.cells #[.int .i64 i.op, .int .i64 i.rd, .int .i64 i.rs1, .int .i64 i.rs2, .int .i64 i.imm] 24)).cell? ⟨w1.heap.size, o, none⟩ := by
            intro o
            rw [box_cells hb hz3 o, hc3 o]
          have HB4 : Hid (Below (w1.heap.size + 1) (w1.alloc (.cells #[.int .i64 i.op, .int .i64 i.rd, .int .i64 i.rs1, .int .i64 i.rs2, .int .i64 i.imm] 24)) v4) := HB3.out.trans (hb.mono hz3)
          clear hb hc3
          go_wp2_with fail
          refine (digits_any i.imm HS.out.2.2.2.2.1 HS.out.2.2.2.2.2 _).mono ?_
          rintro e v5 ⟨rfl, hb⟩
          rw [HM.out]
          have hz5 : w1.heap.size < v5.heap.size := Nat.lt_of_lt_of_le hz4 hb.size
          have hc5 : ∀ o, v5.cell? ⟨w1.heap.size, o, none⟩ = (w1.alloc (.cells #[.int .i64 i.op, .int .i64 i.rd, .int .i64 i.rs1, .int .i64 i.rs2, .int .i64 i.imm] 24)).cell? ⟨w1.heap.size, o, none⟩ := by
            intro o
            rw [box_cells hb hz4 o, hc4 o]
          have HB5 : Hid (Below (w1.heap.size + 1) (w1.alloc (.cells #[.int .i64 i.op, .int .i64 i.rd, .int .i64 i.rs1, .int .i64 i.rs2, .int .i64 i.imm] 24)) v5) := HB4.out.trans (hb.mono hz4)
          clear hb hc4
          go_wp2
          go_roundw
          case rel =>
            refine ⟨k + 1, acc ++ ([32] ++ (ml)), hlt, by go_num, congrArg Value.string ?_, ?_, ?_, HB5.out⟩
            · rw [cat, cat]
              simp
            · show (acc ++ ([32] ++ (ml))) ++ tailF i (if k + 1 = 0 then [32] else [44, 32]) (sh.drop (k + 1)) = fullT i
              rw [if_neg (Nat.succ_ne_zero k)]
              exact HT2.out
            · simp only [List.length_append, List.length_cons, List.length_nil]
              omega
          case measure => simp [intOf]; omega
        · have HO : Hid (opd i 106 = ml) := by
            show opd i 106 = _
            rw [← HM.out]; rfl
          have hcn : (((106 : UInt8).toNat : Nat) : Int) = 106 := rfl
          rw [hcn] at hidx
          rw [HO.out] at HT2
          clear hcn HO HIX HN HT
          go_wp2_with fail
          refine (digits_any i.rd HS.out.2.1.1 HS.out.2.1.2 _).mono ?_
          rintro e v2 ⟨rfl, hb⟩
          rw [HD'.out]
          have hz2 : w1.heap.size < v2.heap.size := Nat.lt_of_lt_of_le hz1 hb.size
          have hc2 : ∀ o, v2.cell? ⟨w1.heap.size, o, none⟩ = (w1.alloc (.cells #[.int .i64 i.op, .int .i64 i.rd, .int .i64 i.rs1, .int .i64 i.rs2, .int .i64 i.imm] 24)).cell? ⟨w1.heap.size, o, none⟩ := by
            intro o
            rw [box_cells hb hz1 o, hc1 o]
          have HB2 : Hid (Below (w1.heap.size + 1) (w1.alloc (.cells #[.int .i64 i.op, .int .i64 i.rd, .int .i64 i.rs1, .int .i64 i.rs2, .int .i64 i.imm] 24)) v2) := HB1.out.trans (hb.mono hz1)
          clear hb hc1
          go_wp2_with fail
          refine (digits_any i.rs1 HS.out.2.2.1.1 HS.out.2.2.1.2 _).mono ?_
          rintro e v3 ⟨rfl, hb⟩
          rw [HSl.out]
          have hz3 : w1.heap.size < v3.heap.size := Nat.lt_of_lt_of_le hz2 hb.size
          have hc3 : ∀ o, v3.cell? ⟨w1.heap.size, o, none⟩ = (w1.alloc (.cells #[.int .i64 i.op, .int .i64 i.rd, .int .i64 i.rs1, .int .i64 i.rs2, .int .i64 i.imm] 24)).cell? ⟨w1.heap.size, o, none⟩ := by
            intro o
            rw [box_cells hb hz2 o, hc2 o]
          have HB3 : Hid (Below (w1.heap.size + 1) (w1.alloc (.cells #[.int .i64 i.op, .int .i64 i.rd, .int .i64 i.rs1, .int .i64 i.rs2, .int .i64 i.imm] 24)) v3) := HB2.out.trans (hb.mono hz2)
          clear hb hc2
          go_wp2_with fail
          refine (digits_any i.rs2 HS.out.2.2.2.1.1 HS.out.2.2.2.1.2 _).mono ?_
          rintro e v4 ⟨rfl, hb⟩
          rw [HTl.out]
          have hz4 : w1.heap.size < v4.heap.size := Nat.lt_of_lt_of_le hz3 hb.size
          have hc4 : ∀ o, v4.cell? ⟨w1.heap.size, o, none⟩ = (w1.alloc (.cells #[.int .i64 i.op, .int .i64 i.rd, .int .i64 i.rs1, .int .i64 i.rs2, .int .i64 i.imm] 24)).cell? ⟨w1.heap.size, o, none⟩ := by
            intro o
            rw [box_cells hb hz3 o, hc3 o]
          have HB4 : Hid (Below (w1.heap.size + 1) (w1.alloc (.cells #[.int .i64 i.op, .int .i64 i.rd, .int .i64 i.rs1, .int .i64 i.rs2, .int .i64 i.imm] 24)) v4) := HB3.out.trans (hb.mono hz3)
          clear hb hc3
          go_wp2_with fail
          refine (digits_any i.imm HS.out.2.2.2.2.1 HS.out.2.2.2.2.2 _).mono ?_
          rintro e v5 ⟨rfl, hb⟩
          rw [HM.out]
          have hz5 : w1.heap.size < v5.heap.size := Nat.lt_of_lt_of_le hz4 hb.size
          have hc5 : ∀ o, v5.cell? ⟨w1.heap.size, o, none⟩ = (w1.alloc (.cells #[.int .i64 i.op, .int .i64 i.rd, .int .i64 i.rs1, .int .i64 i.rs2, .int .i64 i.imm] 24)).cell? ⟨w1.heap.size, o, none⟩ := by
            intro o
            rw [box_cells hb hz4 o, hc4 o]
          have HB5 : Hid (Below (w1.heap.size + 1) (w1.alloc (.cells #[.int .i64 i.op, .int .i64 i.rd, .int .i64 i.rs1, .int .i64 i.rs2, .int .i64 i.imm] 24)) v5) := HB4.out.trans (hb.mono hz4)
          clear hb hc4
          go_wp2
          go_roundw
          case rel =>
            refine ⟨k + 1, acc ++ ([32] ++ (ml)), hlt, by go_num, congrArg Value.string ?_, ?_, ?_, HB5.out⟩
            · rw [cat, cat]
              simp
            · show (acc ++ ([32] ++ (ml))) ++ tailF i (if k + 1 = 0 then [32] else [44, 32]) (sh.drop (k + 1)) = fullT i
              rw [if_neg (Nat.succ_ne_zero k)]
              exact HT2.out
            · simp only [List.length_append, List.length_cons, List.length_nil]
              omega
          case measure => simp [intOf]; omega
      · have HBT : Hid ((if k = 0 then [32] else [44, 32]) = ([44, 32] : List UInt8)) := if_neg hk0
        have hkb : ((k : Int) == 0) = false := beq_eq_false_iff_ne.2 (by omega)
        rw [HBT.out] at HT2
        clear hk0 HBT
        rcases hlet with rfl | rfl | rfl | rfl | rfl | rfl
        · have HO : Hid (opd i 100 = 120 :: dl) := by
            show opd i 100 = _
            rw [← HD'.out]; rfl
          have hcn : (((100 : UInt8).toNat : Nat) : Int) = 100 := rfl
          rw [hcn] at hidx
          rw [HO.out] at HT2
          clear hcn HO HIX HN HT
          go_wp2_with fail
          refine (digits_any i.rd HS.out.2.1.1 HS.out.2.1.2 _).mono ?_
          rintro e v2 ⟨rfl, hb⟩
          rw [HD'.out]
          have hz2 : w1.heap.size < v2.heap.size := Nat.lt_of_lt_of_le hz1 hb.size
          have hc2 : ∀ o, v2.cell? ⟨w1.heap.size, o, none⟩ = (w1.alloc (.cells #[.int .i64 i.op, .int .i64 i.rd, .int .i64 i.rs1, .int .i64 i.rs2, .int .i64 i.imm] 24)).cell? ⟨w1.heap.size, o, none⟩ := by
            intro o
            rw [box_cells hb hz1 o, hc1 o]
          have HB2 : Hid (Below (w1.heap.size + 1) (w1.alloc (.cells #[.int .i64 i.op, .int .i64 i.rd, .int .i64 i.rs1, .int .i64 i.rs2, .int .i64 i.imm] 24)) v2) := HB1.out.trans (hb.mono hz1)
          clear hb hc1
          go_wp2_with fail
          refine (digits_any i.rs1 HS.out.2.2.1.1 HS.out.2.2.1.2 _).mono ?_
          rintro e v3 ⟨rfl, hb⟩
          rw [HSl.out]
          have hz3 : w1.heap.size < v3.heap.size := Nat.lt_of_lt_of_le hz2 hb.size
          have hc3 : ∀ o, v3.cell? ⟨w1.heap.size, o, none⟩ = (w1.alloc (.cells #[.int .i64 i.op, .int .i64 i.rd, .int .i64 i.rs1, .int .i64 i.rs2, .int .i64 i.imm] 24)).cell? ⟨w1.heap.size, o, none⟩ := by
            intro o
            rw [box_cells hb hz2 o, hc2 o]
          have HB3 : Hid (Below (w1.heap.size + 1) (w1.alloc (.cells #[.int .i64 i.op, .int .i64 i.rd, .int .i64 i.rs1, .int .i64 i.rs2, .int .i64 i.imm] 24)) v3) := HB2.out.trans (hb.mono hz2)
          clear hb hc2
          go_wp2_with fail
          refine (digits_any i.rs2 HS.out.2.2.2.1.1 HS.out.2.2.2.1.2 _).mono ?_
          rintro e v4 ⟨rfl, hb⟩
          rw [HTl.out]
          have hz4 : w1.heap.size < v4.heap.size := Nat.lt_of_lt_of_le hz3 hb.size
          have hc4 : ∀ o, v4.cell? ⟨w1.heap.size, o, none⟩ = (w1.alloc (.cells #[.int .i64 i.op, .int .i64 i.rd, .int .i64 i.rs1, .int .i64 i.rs2, .int .i64 i.imm] 24)).cell? ⟨w1.heap.size, o, none⟩ := by
            intro o
            rw [box_cells hb hz3 o, hc3 o]
          have HB4 : Hid (Below (w1.heap.size + 1) (w1.alloc (.cells #[.int .i64 i.op, .int .i64 i.rd, .int .i64 i.rs1, .int .i64 i.rs2, .int .i64 i.imm] 24)) v4) := HB3.out.trans (hb.mono hz3)
          clear hb hc3
          go_wp2_with fail
          refine (digits_any i.imm HS.out.2.2.2.2.1 HS.out.2.2.2.2.2 _).mono ?_
          rintro e v5 ⟨rfl, hb⟩
          rw [HM.out]
          have hz5 : w1.heap.size < v5.heap.size := Nat.lt_of_lt_of_le hz4 hb.size
          have hc5 : ∀ o, v5.cell? ⟨w1.heap.size, o, none⟩ = (w1.alloc (.cells #[.int .i64 i.op, .int .i64 i.rd, .int .i64 i.rs1, .int .i64 i.rs2, .int .i64 i.imm] 24)).cell? ⟨w1.heap.size, o, none⟩ := by
            intro o
            rw [box_cells hb hz4 o, hc4 o]
          have HB5 : Hid (Below (w1.heap.size + 1) (w1.alloc (.cells #[.int .i64 i.op, .int .i64 i.rd, .int .i64 i.rs1, .int .i64 i.rs2, .int .i64 i.imm] 24)) v5) := HB4.out.trans (hb.mono hz4)
          clear hb hc4
          go_wp2
          go_roundw
          case rel =>
            refine ⟨k + 1, acc ++ ([44, 32] ++ (120 :: dl)), hlt, by go_num, congrArg Value.string ?_, ?_, ?_, HB5.out⟩
            · rw [cat, cat, cat]
              simp
            · show (acc ++ ([44, 32] ++ (120 :: dl))) ++ tailF i (if k + 1 = 0 then [32] else [44, 32]) (sh.drop (k + 1)) = fullT i
              rw [if_neg (Nat.succ_ne_zero k)]
              exact HT2.out
            · simp only [List.length_append, List.length_cons, List.length_nil]
              omega
          case measure => simp [intOf]; omega
        · have HO : Hid (opd i 115 = 120 :: sl) := by
            show opd i 115 = _
            rw [← HSl.out]; rfl
          have hcn : (((115 : UInt8).toNat : Nat) : Int) = 115 := rfl
          rw [hcn] at hidx
          rw [HO.out] at HT2
          clear hcn HO HIX HN HT
          go_wp2_with fail
          refine (digits_any i.rd HS.out.2.1.1 HS.out.2.1.2 _).mono ?_
          rintro e v2 ⟨rfl, hb⟩
          rw [HD'.out]
          have hz2 : w1.heap.size < v2.heap.size := Nat.lt_of_lt_of_le hz1 hb.size
          have hc2 : ∀ o, v2.cell? ⟨w1.heap.size, o, none⟩ = (w1.alloc (.cells #[.int .i64 i.op, .int .i64 i.rd, .int .i64 i.rs1, .int .i64 i.rs2, .int .i64 i.imm] 24)).cell? ⟨w1.heap.size, o, none⟩ := by
            intro o
            rw [box_cells hb hz1 o, hc1 o]
          have HB2 : Hid (Below (w1.heap.size + 1) (w1.alloc (.cells #[.int .i64 i.op, .int .i64 i.rd, .int .i64 i.rs1, .int .i64 i.rs2, .int .i64 i.imm] 24)) v2) := HB1.out.trans (hb.mono hz1)
          clear hb hc1
          go_wp2_with fail
          refine (digits_any i.rs1 HS.out.2.2.1.1 HS.out.2.2.1.2 _).mono ?_
          rintro e v3 ⟨rfl, hb⟩
          rw [HSl.out]
          have hz3 : w1.heap.size < v3.heap.size := Nat.lt_of_lt_of_le hz2 hb.size
          have hc3 : ∀ o, v3.cell? ⟨w1.heap.size, o, none⟩ = (w1.alloc (.cells #[.int .i64 i.op, .int .i64 i.rd, .int .i64 i.rs1, .int .i64 i.rs2, .int .i64 i.imm] 24)).cell? ⟨w1.heap.size, o, none⟩ := by
            intro o
            rw [box_cells hb hz2 o, hc2 o]
          have HB3 : Hid (Below (w1.heap.size + 1) (w1.alloc (.cells #[.int .i64 i.op, .int .i64 i.rd, .int .i64 i.rs1, .int .i64 i.rs2, .int .i64 i.imm] 24)) v3) := HB2.out.trans (hb.mono hz2)
          clear hb hc2
          go_wp2_with fail
          refine (digits_any i.rs2 HS.out.2.2.2.1.1 HS.out.2.2.2.1.2 _).mono ?_
          rintro e v4 ⟨rfl, hb⟩
          rw [HTl.out]
          have hz4 : w1.heap.size < v4.heap.size := Nat.lt_of_lt_of_le hz3 hb.size
          have hc4 : ∀ o, v4.cell? ⟨w1.heap.size, o, none⟩ = (w1.alloc (.cells #[.int .i64 i.op, .int .i64 i.rd, .int .i64 i.rs1, .int .i64 i.rs2, .int .i64 i.imm] 24)).cell? ⟨w1.heap.size, o, none⟩ := by
            intro o
            rw [box_cells hb hz3 o, hc3 o]
          have HB4 : Hid (Below (w1.heap.size + 1) (w1.alloc (.cells #[.int .i64 i.op, .int .i64 i.rd, .int .i64 i.rs1, .int .i64 i.rs2, .int .i64 i.imm] 24)) v4) := HB3.out.trans (hb.mono hz3)
          clear hb hc3
          go_wp2_with fail
          refine (digits_any i.imm HS.out.2.2.2.2.1 HS.out.2.2.2.2.2 _).mono ?_
          rintro e v5 ⟨rfl, hb⟩
          rw [HM.out]
          have hz5 : w1.heap.size < v5.heap.size := Nat.lt_of_lt_of_le hz4 hb.size
          have hc5 : ∀ o, v5.cell? ⟨w1.heap.size, o, none⟩ = (w1.alloc (.cells #[.int .i64 i.op, .int .i64 i.rd, .int .i64 i.rs1, .int .i64 i.rs2, .int .i64 i.imm] 24)).cell? ⟨w1.heap.size, o, none⟩ := by
            intro o
            rw [box_cells hb hz4 o, hc4 o]
          have HB5 : Hid (Below (w1.heap.size + 1) (w1.alloc (.cells #[.int .i64 i.op, .int .i64 i.rd, .int .i64 i.rs1, .int .i64 i.rs2, .int .i64 i.imm] 24)) v5) := HB4.out.trans (hb.mono hz4)
          clear hb hc4
          go_wp2
          go_roundw
          case rel =>
            refine ⟨k + 1, acc ++ ([44, 32] ++ (120 :: sl)), hlt, by go_num, congrArg Value.string ?_, ?_, ?_, HB5.out⟩
            · rw [cat, cat, cat]
              simp
            · show (acc ++ ([44, 32] ++ (120 :: sl))) ++ tailF i (if k + 1 = 0 then [32] else [44, 32]) (sh.drop (k + 1)) = fullT i
              rw [if_neg (Nat.succ_ne_zero k)]
              exact HT2.out
            · simp only [List.length_append, List.length_cons, List.length_nil]
              omega
          case measure => simp [intOf]; omega
        · have HO : Hid (opd i 116 = 120 :: tl) := by
            show opd i 116 = _
            rw [← HTl.out]; rfl
          have hcn : (((116 : UInt8).toNat : Nat) : Int) = 116 := rfl
          rw [hcn] at hidx
          rw [HO.out] at HT2
          clear hcn HO HIX HN HT
          go_wp2_with fail
          refine (digits_any i.rd HS.out.2.1.1 HS.out.2.1.2 _).mono ?_
          rintro e v2 ⟨rfl, hb⟩
          rw [HD'.out]
          have hz2 : w1.heap.size < v2.heap.size := Nat.lt_of_lt_of_le hz1 hb.size
          have hc2 : ∀ o, v2.cell? ⟨w1.heap.size, o, none⟩ = (w1.alloc (.cells #[.int .i64 i.op, .int .i64 i.rd, .int .i64 i.rs1, .int .i64 i.rs2, .int .i64 i.imm] 24)).cell? ⟨w1.heap.size, o, none⟩ := by
            intro o
            rw [box_cells hb hz1 o, hc1 o]
          have HB2 : Hid (Below (w1.heap.size + 1) (w1.alloc (.cells #[.int .i64 i.op, .int .i64 i.rd, .int .i64 i.rs1, .int .i64 i.rs2, .int .i64 i.imm] 24)) v2) := HB1.out.trans (hb.mono hz1)
          clear hb hc1
          go_wp2_with fail
          refine (digits_any i.rs1 HS.out.2.2.1.1 HS.out.2.2.1.2 _).mono ?_
          rintro e v3 ⟨rfl, hb⟩
          rw [HSl.out]
          have hz3 : w1.heap.size < v3.heap.size := Nat.lt_of_lt_of_le hz2 hb.size
          have hc3 : ∀ o, v3.cell? ⟨w1.heap.size, o, none⟩ = (w1.alloc (.cells #[.int .i64 i.op, .int .i64 i.rd, .int .i64 i.rs1, .int .i64 i.rs2, .int .i64 i.imm] 24)).cell? ⟨w1.heap.size, o, none⟩ := by
            intro o
            rw [box_cells hb hz2 o, hc2 o]
          have HB3 : Hid (Below (w1.heap.size + 1) (w1.alloc (.cells #[.int .i64 i.op, .int .i64 i.rd, .int .i64 i.rs1, .int .i64 i.rs2, .int .i64 i.imm] 24)) v3) := HB2.out.trans (hb.mono hz2)
          clear hb hc2
          go_wp2_with fail
          refine (digits_any i.rs2 HS.out.2.2.2.1.1 HS.out.2.2.2.1.2 _).mono ?_
          rintro e v4 ⟨rfl, hb⟩
          rw [HTl.out]
          have hz4 : w1.heap.size < v4.heap.size := Nat.lt_of_lt_of_le hz3 hb.size
          have hc4 : ∀ o, v4.cell? ⟨w1.heap.size, o, none⟩ = (w1.alloc (.cells #[.int .i64 i.op, .int .i64 i.rd, .int .i64 i.rs1, .int .i64 i.rs2, .int .i64 i.imm] 24)).cell? ⟨w1.heap.size, o, none⟩ := by
            intro o
            rw [box_cells hb hz3 o, hc3 o]
          have HB4 : Hid (Below (w1.heap.size + 1) (w1.alloc (.cells #[.int .i64 i.op, .int .i64 i.rd, .int .i64 i.rs1, .int .i64 i.rs2, .int .i64 i.imm] 24)) v4) := HB3.out.trans (hb.mono hz3)
          clear hb hc3
          go_wp2_with fail
          refine (digits_any i.imm HS.out.2.2.2.2.1 HS.out.2.2.2.2.2 _).mono ?_
          rintro e v5 ⟨rfl, hb⟩
          rw [HM.out]
          have hz5 : w1.heap.size < v5.heap.size := Nat.lt_of_lt_of_le hz4 hb.size
          have hc5 : ∀ o, v5.cell? ⟨w1.heap.size, o, none⟩ = (w1.alloc (.cells #[.int .i64 i.op, .int .i64 i.rd, .int .i64 i.rs1, .int .i64 i.rs2, .int .i64 i.imm] 24)).cell? ⟨w1.heap.size, o, none⟩ := by
            intro o
            rw [box_cells hb hz4 o, hc4 o]
          have HB5 : Hid (Below (w1.heap.size + 1) (w1.alloc (.cells #[.int .i64 i.op, .int .i64 i.rd, .int .i64 i.rs1, .int .i64 i.rs2, .int .i64 i.imm] 24)) v5) := HB4.out.trans (hb.mono hz4)
          clear hb hc4
          go_wp2
          go_roundw
          case rel =>
            refine ⟨k + 1, acc ++ ([44, 32] ++ (120 :: tl)), hlt, by go_num, congrArg Value.string ?_, ?_, ?_, HB5.out⟩
            · rw [cat, cat, cat]
              simp
            · show (acc ++ ([44, 32] ++ (120 :: tl))) ++ tailF i (if k + 1 = 0 then [32] else [44, 32]) (sh.drop (k + 1)) = fullT i
              rw [if_neg (Nat.succ_ne_zero k)]
              exact HT2.out
            · simp only [List.length_append, List.length_cons, List.length_nil]
              omega
          case measure => simp [intOf]; omega
        · have HO : Hid (opd i 109 = ml ++ ([40] ++ (120 :: sl) ++ [41])) := by
            show opd i 109 = _
            rw [← HM.out, ← HSl.out]; rfl
          have hcn : (((109 : UInt8).toNat : Nat) : Int) = 109 := rfl
          rw [hcn] at hidx
          rw [HO.out] at HT2
          clear hcn HO HIX HN HT
          go_wp2_with fail
          refine (digits_any i.rd HS.out.2.1.1 HS.out.2.1.2 _).mono ?_
          rintro e v2 ⟨rfl, hb⟩
          rw [HD'.out]
          have hz2 : w1.heap.size < v2.heap.size := Nat.lt_of_lt_of_le hz1 hb.size
          have hc2 : ∀ o, v2.cell? ⟨w1.heap.size, o, none⟩ = (w1.alloc (.cells #[.int .i64 i.op, .int .i64 i.rd, .int .i64 i.rs1, .int .i64 i.rs2, .int .i64 i.imm] 24)).cell? ⟨w1.heap.size, o, none⟩ := by
            intro o
            rw [box_cells hb hz1 o, hc1 o]
          have HB2 : Hid (Below (w1.heap.size + 1) (w1.alloc (.cells #[.int .i64 i.op, .int .i64 i.rd, .int .i64 i.rs1, .int .i64 i.rs2, .int .i64 i.imm] 24)) v2) := HB1.out.trans (hb.mono hz1)
          clear hb hc1
          go_wp2_with fail
          refine (digits_any i.rs1 HS.out.2.2.1.1 HS.out.2.2.1.2 _).mono ?_
          rintro e v3 ⟨rfl, hb⟩
          rw [HSl.out]
          have hz3 : w1.heap.size < v3.heap.size := Nat.lt_of_lt_of_le hz2 hb.size
          have hc3 : ∀ o, v3.cell? ⟨w1.heap.size, o, none⟩ = (w1.alloc (.cells #[.int .i64 i.op, .int .i64 i.rd, .int .i64 i.rs1, .int .i64 i.rs2, .int .i64 i.imm] 24)).cell? ⟨w1.heap.size, o, none⟩ := by
            intro o
            rw [box_cells hb hz2 o, hc2 o]
          have HB3 : Hid (Below (w1.heap.size + 1) (w1.alloc (.cells #[.int .i64 i.op, .int .i64 i.rd, .int .i64 i.rs1, .int .i64 i.rs2, .int .i64 i.imm] 24)) v3) := HB2.out.trans (hb.mono hz2)
          clear hb hc2
          go_wp2_with fail
          refine (digits_any i.rs2 HS.out.2.2.2.1.1 HS.out.2.2.2.1.2 _).mono ?_
          rintro e v4 ⟨rfl, hb⟩
          rw [HTl.out]
          have hz4 : w1.heap.size < v4.heap.size := Nat.lt_of_lt_of_le hz3 hb.size
          have hc4 : ∀ o, v4.cell? ⟨w1.heap.size, o, none⟩ = (w1.alloc (.cells #[.int .i64 i.op, .int .i64 i.rd, .int .i64 i.rs1, .int .i64 i.rs2, .int .i64 i.imm] 24)).cell? ⟨w1.heap.size, o, none⟩ := by
            intro o
            rw [box_cells hb hz3 o, hc3 o]
          have HB4 : Hid (Below (w1.heap.size + 1) (w1.alloc (.cells #[.int .i64 i.op, .int .i64 i.rd, .int .i64 i.rs1, .int .i64 i.rs2, .int .i64 i.imm] 24)) v4) := HB3.out.trans (hb.mono hz3)
          clear hb hc3
          go_wp2_with fail
          refine (digits_any i.imm HS.out.2.2.2.2.1 HS.out.2.2.2.2.2 _).mono ?_
          rintro e v5 ⟨rfl, hb⟩
          rw [HM.out]
          have hz5 : w1.heap.size < v5.heap.size := Nat.lt_of_lt_of_le hz4 hb.size
          have hc5 : ∀ o, v5.cell? ⟨w1.heap.size, o, none⟩ = (w1.alloc (.cells #[.int .i64 i.op, .int .i64 i.rd, .int .i64 i.rs1, .int .i64 i.rs2, .int .i64 i.imm] 24)).cell? ⟨w1.heap.size, o, none⟩ := by
            intro o
            rw [box_cells hb hz4 o, hc4 o]
          have HB5 : Hid (Below (w1.heap.size + 1) (w1.alloc (.cells #[.int .i64 i.op, .int .i64 i.rd, .int .i64 i.rs1, .int .i64 i.rs2, .int .i64 i.imm] 24)) v5) := HB4.out.trans (hb.mono hz4)
          clear hb hc4
          go_wp2
          go_roundw
          case rel =>
            refine ⟨k + 1, acc ++ ([44, 32] ++ (ml ++ ([40] ++ (120 :: sl) ++ [41]))), hlt, by go_num, congrArg Value.string ?_, ?_, ?_, HB5.out⟩
            · rw [cat, cat, cat, cat, cat]
              simp
            · show (acc ++ ([44, 32] ++ (ml ++ ([40] ++ (120 :: sl) ++ [41])))) ++ tailF i (if k + 1 = 0 then [32] else [44, 32]) (sh.drop (k + 1)) = fullT i
              rw [if_neg (Nat.succ_ne_zero k)]
              exact HT2.out
            · simp only [List.length_append, List.length_cons, List.length_nil]
              omega
          case measure => simp [intOf]; omega
        · have HO : Hid (opd i 105 = ml) := by
            show opd i 105 = _
            rw [← HM.out]; rfl
          have hcn : (((105 : UInt8).toNat : Nat) : Int) = 105 := rfl
          rw [hcn] at hidx
          rw [HO.out] at HT2
          clear hcn HO HIX HN HT
          go_wp2_with fail
          refine (digits_any i.rd HS.out.2.1.1 HS.out.2.1.2 _).mono ?_
          rintro e v2 ⟨rfl, hb⟩
          rw [HD'.out]
          have hz2 : w1.heap.size < v2.heap.size := Nat.lt_of_lt_of_le hz1 hb.size
          have hc2 : ∀ o, v2.cell? ⟨w1.heap.size, o, none⟩ = (w1.alloc (.cells #[.int .i64 i.op, .int .i64 i.rd, .int .i64 i.rs1, .int .i64 i.rs2, .int .i64 i.imm] 24)).cell? ⟨w1.heap.size, o, none⟩ := by
            intro o
            rw [box_cells hb hz1 o, hc1 o]
          have HB2 : Hid (Below (w1.heap.size + 1) (w1.alloc (.cells #[.int .i64 i.op, .int .i64 i.rd, .int .i64 i.rs1, .int .i64 i.rs2, .int .i64 i.imm] 24)) v2) := HB1.out.trans (hb.mono hz1)
          clear hb hc1
          go_wp2_with fail
          refine (digits_any i.rs1 HS.out.2.2.1.1 HS.out.2.2.1.2 _).mono ?_
          rintro e v3 ⟨rfl, hb⟩
          rw [HSl.out]
          have hz3 : w1.heap.size < v3.heap.size := Nat.lt_of_lt_of_le hz2 hb.size
          have hc3 : ∀ o, v3.cell? ⟨w1.heap.size, o, none⟩ = (w1.alloc (.cells #[.int .i64 i.op, .int .i64 i.rd, .int .i64 i.rs1, .int .i64 i.rs2, .int .i64 i.imm] 24)).cell? ⟨w1.heap.size, o, none⟩ := by
            intro o
            rw [box_cells hb hz2 o, hc2 o]
          have HB3 : Hid (Below (w1.heap.size + 1) (w1.alloc (.cells #[.int .i64 i.op, .int .i64 i.rd, .int .i64 i.rs1, .int .i64 i.rs2, .int .i64 i.imm] 24)) v3) := HB2.out.trans (hb.mono hz2)
          clear hb hc2
          go_wp2_with fail
          refine (digits_any i.rs2 HS.out.2.2.2.1.1 HS.out.2.2.2.1.2 _).mono ?_
          rintro e v4 ⟨rfl, hb⟩
          rw [HTl.out]
          have hz4 : w1.heap.size < v4.heap.size := Nat.lt_of_lt_of_le hz3 hb.size
          have hc4 : ∀ o, v4.cell? ⟨w1.heap.size, o, none⟩ = (w1.alloc (.cells #[.int .i64 i.op, .int .i64 i.rd, .int .i64 i.rs1, .int .i64 i.rs2, .int .i64 i.imm] 24)).cell? ⟨w1.heap.size, o, none⟩ := by
            intro o
            rw [box_cells hb hz3 o, hc3 o]
          have HB4 : Hid (Below (w1.heap.size + 1) (w1.alloc (.cells #[.int .i64 i.op, .int .i64 i.rd, .int .i64 i.rs1, .int .i64 i.rs2, .int .i64 i.imm] 24)) v4) := HB3.out.trans (hb.mono hz3)
          clear hb hc3
          go_wp2_with fail
          refine (digits_any i.imm HS.out.2.2.2.2.1 HS.out.2.2.2.2.2 _).mono ?_
          rintro e v5 ⟨rfl, hb⟩
          rw [HM.out]
          have hz5 : w1.heap.size < v5.heap.size := Nat.lt_of_lt_of_le hz4 hb.size
          have hc5 : ∀ o, v5.cell? ⟨w1.heap.size, o, none⟩ = (w1.alloc (.cells #[.int .i64 i.op, .int .i64 i.rd, .int .i64 i.rs1, .int .i64 i.rs2, .int .i64 i.imm] 24)).cell? ⟨w1.heap.size, o, none⟩ := by
            intro o
            rw [box_cells hb hz4 o, hc4 o]
          have HB5 : Hid (Below (w1.heap.size + 1) (w1.alloc (.cells #[.int .i64 i.op, .int .i64 i.rd, .int .i64 i.rs1, .int .i64 i.rs2, .int .i64 i.imm] 24)) v5) := HB4.out.trans (hb.mono hz4)
          clear hb hc4
          go_wp2
          go_roundw
          case rel =>
            refine ⟨k + 1, acc ++ ([44, 32] ++ (ml)), hlt, by go_num, congrArg Value.string ?_, ?_, ?_, HB5.out⟩
            · rw [cat, cat]
              simp
            · show (acc ++ ([44, 32] ++ (ml))) ++ tailF i (if k + 1 = 0 then [32] else [44, 32]) (sh.drop (k + 1)) = fullT i
              rw [if_neg (Nat.succ_ne_zero k)]
              exact HT2.out
            · simp only [List.length_append, List.length_cons, List.length_nil]
              omega
          case measure => simp [intOf]; omega
        · have HO : Hid (opd i 106 = ml) := by
            show opd i 106 = _
            rw [← HM.out]; rfl
          have hcn : (((106 : UInt8).toNat : Nat) : Int) = 106 := rfl
          rw [hcn] at hidx
          rw [HO.out] at HT2
          clear hcn HO HIX HN HT
          go_wp2_with fail
          refine (digits_any i.rd HS.out.2.1.1 HS.out.2.1.2 _).mono ?_
          rintro e v2 ⟨rfl, hb⟩
          rw [HD'.out]
          have hz2 : w1.heap.size < v2.heap.size := Nat.lt_of_lt_of_le hz1 hb.size
          have hc2 : ∀ o, v2.cell? ⟨w1.heap.size, o, none⟩ = (w1.alloc (.cells #[.int .i64 i.op, .int .i64 i.rd, .int .i64 i.rs1, .int .i64 i.rs2, .int .i64 i.imm] 24)).cell? ⟨w1.heap.size, o, none⟩ := by
            intro o
            rw [box_cells hb hz1 o, hc1 o]
          have HB2 : Hid (Below (w1.heap.size + 1) (w1.alloc (.cells #[.int .i64 i.op, .int .i64 i.rd, .int .i64 i.rs1, .int .i64 i.rs2, .int .i64 i.imm] 24)) v2) := HB1.out.trans (hb.mono hz1)
          clear hb hc1
          go_wp2_with fail
          refine (digits_any i.rs1 HS.out.2.2.1.1 HS.out.2.2.1.2 _).mono ?_
          rintro e v3 ⟨rfl, hb⟩
          rw [HSl.out]
          have hz3 : w1.heap.size < v3.heap.size := Nat.lt_of_lt_of_le hz2 hb.size
          have hc3 : ∀ o, v3.cell? ⟨w1.heap.size, o, none⟩ = (w1.alloc (.cells #[.int .i64 i.op, .int .i64 i.rd, .int .i64 i.rs1, .int .i64 i.rs2, .int .i64 i.imm] 24)).cell? ⟨w1.heap.size, o, none⟩ := by
            intro o
            rw [box_cells hb hz2 o, hc2 o]
          have HB3 : Hid (Below (w1.heap.size + 1) (w1.alloc (.cells #[.int .i64 i.op, .int .i64 i.rd, .int .i64 i.rs1, .int .i64 i.rs2, .int .i64 i.imm] 24)) v3) := HB2.out.trans (hb.mono hz2)
          clear hb hc2
          go_wp2_with fail
          refine (digits_any i.rs2 HS.out.2.2.2.1.1 HS.out.2.2.2.1.2 _).mono ?_
          rintro e v4 ⟨rfl, hb⟩
          rw [HTl.out]
          have hz4 : w1.heap.size < v4.heap.size := Nat.lt_of_lt_of_le hz3 hb.size
          have hc4 : ∀ o, v4.cell? ⟨w1.heap.size, o, none⟩ = (w1.alloc (.cells #[.int .i64 i.op, .int .i64 i.rd, .int .i64 i.rs1, .int .i64 i.rs2, .int .i64 i.imm] 24)).cell? ⟨w1.heap.size, o, none⟩ := by
            intro o
            rw [box_cells hb hz3 o, hc3 o]
          have HB4 : Hid (Below (w1.heap.size + 1) (w1.alloc (.cells #[.int .i64 i.op, .int .i64 i.rd, .int .i64 i.rs1, .int .i64 i.rs2, .int .i64 i.imm] 24)) v4) := HB3.out.trans (hb.mono hz3)
          clear hb hc3
          go_wp2_with fail
          refine (digits_any i.imm HS.out.2.2.2.2.1 HS.out.2.2.2.2.2 _).mono ?_
          rintro e v5 ⟨rfl, hb⟩
          rw [HM.out]
          have hz5 : w1.heap.size < v5.heap.size := Nat.lt_of_lt_of_le hz4 hb.size
          have hc5 : ∀ o, v5.cell? ⟨w1.heap.size, o, none⟩ = (w1.alloc (.cells #[.int .i64 i.op, .int .i64 i.rd, .int .i64 i.rs1, .int .i64 i.rs2, .int .i64 i.imm] 24)).cell? ⟨w1.heap.size, o, none⟩ := by
            intro o
            rw [box_cells hb hz4 o, hc4 o]
          have HB5 : Hid (Below (w1.heap.size + 1) (w1.alloc (.cells #[.int .i64 i.op, .int .i64 i.rd, .int .i64 i.rs1, .int .i64 i.rs2, .int .i64 i.imm] 24)) v5) := HB4.out.trans (hb.mono hz4)
          clear hb hc4
          go_wp2
          go_roundw
          case rel =>
            refine ⟨k + 1, acc ++ ([44, 32] ++ (ml)), hlt, by go_num, congrArg Value.string ?_, ?_, ?_, HB5.out⟩
            · rw [cat, cat]
              simp
            · show (acc ++ ([44, 32] ++ (ml))) ++ tailF i (if k + 1 = 0 then [32] else [44, 32]) (sh.drop (k + 1)) = fullT i
              rw [if_neg (Nat.succ_ne_zero k)]
              exact HT2.out
            · simp only [List.length_append, List.length_cons, List.length_nil]
              omega
          case measure => simp [intOf]; omega
    · have hdk : sh.drop k = [] := List.drop_of_length_le (by omega)
      have HE : Hid (acc = fullT i) := by
        have := HT.out
        rw [hdk, tailF, List.append_nil] at this
        exact this
      clear hdk
      go_wp2
      go_ret
      refine ⟨?_, (HB0.out.alloc hs1 _).trans (HB1.out.mono (by omega))⟩
      rw [← HE.out]
      rfl

theorem bad_zero : ¬ Good zeroIns := fun h => by have := h.1; exact absurd this (by decide)
set_option maxHeartbeats 1000000 in
theorem refText_word (x : Nat) (hx : x < 4294967296) (hd : dec x = zeroIns) (w : World) :
    Calls Tryd.prog 12 #[.int .i64 (x : Int)] w fun e w' => e = .returned (.string ⟨(wordT x).toArray⟩) ∧ Below w.heap.size w w' := by
  have HD : Hid (dec x = zeroIns) := hd
  obtain ⟨ds, hds⟩ : ∃ ds, Lib.decDigits x = ds := ⟨_, rfl⟩
  have hdl : ds.length ≤ 20 := by rw [← hds, Lib.decDigits_length]; exact nDigits_le x (by omega)
  have HW : Hid (wordT x = [46, 119, 111, 114, 100, 32] ++ ds) := by
    show wordT x = _
    rw [← hds]; rfl
  have HDS : Hid (Lib.decDigits x = ds) := hds
  have HZ : Hid (insV zeroIns = .agg #[.int .i64 0, .int .i64 0, .int .i64 0, .int .i64 0, .int .i64 0]) := rfl
  clear hd hds
  go_enter Tryd.func12, Tryd.ntmps12
  go_wp2_with fail
  refine (refDecode_any x hx _).mono ?_
  rintro e w1 ⟨rfl, hb1⟩
  rw [HD.out, HZ.out]
  have hs1 : w.heap.size ≤ w1.heap.size := hb1.size
  have HB1 : Hid (Below w.heap.size w (w1.alloc (.cells #[.int .i64 0, .int .i64 0, .int .i64 0, .int .i64 0, .int .i64 0] 24))) := hb1.alloc hs1 _
  clear hb1
  go_wp2_with fail
  rw [← HZ.out]
  refine (refEncode_bad zeroIns bad_zero _).mono ?_
  rintro e w2 ⟨rfl, hb2⟩
  have HB2 : Hid (Below w.heap.size w w2) := HB1.out.trans (hb2.mono (by simp; omega))
  have hs2 : w.heap.size ≤ w2.heap.size := by have := hb2.size; simp at this; omega
  clear hb2
  go_wp2_with fail
  refine (digits_pos x hx _).mono ?_
  rintro e w3 ⟨rfl, hb3⟩
  rw [HDS.out]
  have HB3 : Hid (Below w.heap.size w w3) := HB2.out.trans (hb3.mono hs2)
  clear hb3
  go_wp2
  go_ret
  refine ⟨?_, HB3.out⟩
  rw [HW.out]
  exact ret_val (congrArg Value.string (cat _ ds))
end Go.Proofs.YtlmcjmllidiciaaDoor

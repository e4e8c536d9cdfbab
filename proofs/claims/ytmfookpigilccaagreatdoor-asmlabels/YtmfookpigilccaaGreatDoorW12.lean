/- A walk of isa.Text. -/
import Derived.Test.YtmfookpigilccaaGreatDoorW8
import Derived.Test.YtmfookpigilccaaGreatDoorW11
import Derived.Test.YtmfookpigilccaaGreatDoorGood
import Derived.Lib.OthersKept
namespace Go.Vx
/-- The operands' text, from here on. -/
def tailF (i : Ins) : List UInt8 → List UInt8 → List UInt8
  | _, [] => []
  | btw, c :: cs => btw ++ opd i c ++ tailF i [44, 32] cs
def fullT (i : Ins) : List UInt8 := nameB i.op ++ tailF i [32] (shapeB i.op)
def letterOk (c : UInt8) : Prop := c = 100 ∨ c = 115 ∨ c = 116 ∨ c = 109 ∨ c = 105 ∨ c = 106
theorem shape_ok (op : Int) : (shapeB op).length ≤ 3 ∧ ∀ c ∈ shapeB op, letterOk c := by
  unfold shapeB letterOk
  split
  · decide
  split
  · decide
  split
  · decide
  split
  · decide
  split
  · decide
  split
  · decide
  split
  · simp
  · decide
theorem name_len (op : Int) : (nameB op).length ≤ 6 := by
  have h : ∀ n : Nat, (namesB.getD n []).length ≤ 6 := by
    intro n
    by_cases hn : n < 49
    · have : ∀ m : Fin 49, (namesB.getD m.val []).length ≤ 6 := by decide +kernel
      exact this ⟨n, hn⟩
    · rw [List.getD_eq_getElem?_getD, List.getElem?_eq_none (by simp [namesB]; omega)]; decide
  exact h _
end Go.Vx
namespace Go.Proofs.YtmfookpigilccaaGreatDoor
open Go.ChangeShapes Go.WideShapes Go.ChangeAt Go.RowKit Go.Sort Go.Shelf
open Go.Vx (insV Ins regB opd Small InsSmall tailF fullT letterOk shapeB nameB dec zeroIns)

theorem opd_len (i : Ins) (hi : InsSmall i) (c : UInt8) : (opd i c).length ≤ 45 := by
  obtain ⟨_, s1, s2, s3, s4⟩ := hi
  have l1 := regB_len _ s1
  have l2 := regB_len _ s2
  have l3 := regB_len _ s3
  have l4 := itoa_len _ s4
  unfold opd
  split
  · omega
  split
  · omega
  split
  · omega
  split
  · simp only [List.length_append, List.length_cons, List.length_nil]; omega
  · omega
/-- Where a string's iterator stands. -/
def iterPos (w : World) (k : Nat) : Nat := match w.heap[k]? with | some (.stringIter _ pos) => pos | _ => 0
theorem iterPos_at {w : World} {k : Nat} {s : ByteArray} {pos : Nat} (h : w.heap[k]? = some (.stringIter s pos)) : iterPos w k = pos := by
  unfold iterPos; rw [h]

set_option maxHeartbeats 2000000 in
theorem text_ins (x : Nat) (hx : x < 4294967296) (i : Ins) (hd : dec x = i) (h0 : 1 ≤ i.op) (h1 : i.op ≤ 48) (hi : InsSmall i) (w : World) (hF : FormsAt w) (hP : PowAt w) :
    Calls Tryz.prog 8 #[.int .u32 (x : Int)] w fun e w' => e = .returned (.string ⟨(fullT i).toArray⟩) ∧ Below w.heap.size w w' := by
  have HF : Hid (FormsAt w) := hF
  have HP : Hid (PowAt w) := hP
  have hz := hP.size
  have HD : Hid (dec x = i) := hd
  have HS : Hid (InsSmall i) := hi
  have hne : (i.op == 0) = false := beq_eq_false_iff_ne.2 (by omega)
  clear hF hP hd hi
  go_enter Tryz.func8, Tryz.ntmps8
  go_wp2_with fail
  refine (decode_any x (by omega) (by omega) _ HF.out).mono ?_
  rintro e w1 ⟨rfl, hb1⟩
  rw [HD.out]
  unfold insV
  have hs1 : w.heap.size ≤ w1.heap.size := hb1.size
  have HB1 : Hid (Below w.heap.size w w1) := hb1
  clear hb1
  go_wp2_with (first | (go_at_call 23; refine (name_any _ h0 h1 _).mono ?_; rintro e w' ⟨rfl, rfl⟩) | (go_at_call 24; refine (shape_any _ h0 h1 _).mono ?_; rintro e w' ⟨rfl, rfl⟩))
  have HFU : Hid (fullT i = nameB i.op ++ tailF i [32] (shapeB i.op)) := rfl
  have HSO : Hid ((shapeB i.op).length ≤ 3 ∧ ∀ c ∈ shapeB i.op, letterOk c) := Vx.shape_ok i.op
  have HNL : Hid ((nameB i.op).length ≤ 6) := Vx.name_len i.op
  generalize shapeB i.op = sh at *
  generalize nameB i.op = nm at *
  go_loopw [4, 5] (fun a b wr => ∃ k : Nat, ∃ acc btw : List UInt8, k ≤ sh.length ∧ a = .string ⟨acc.toArray⟩ ∧ b = .string ⟨btw.toArray⟩ ∧ Hid (acc ++ tailF i btw (sh.drop k) = fullT i) ∧ acc.length ≤ 6 + 50 * k ∧ btw.length ≤ 2
      ∧ wr.heap[w1.heap.size + 1]? = some (.stringIter ⟨sh.toArray⟩ k) ∧ Below (w1.heap.size + 1) (w1.alloc (.cells #[.int .i64 i.op, .int .i64 i.rd, .int .i64 i.rs1, .int .i64 i.rs2, .int .i64 i.imm] 34)) wr) (fun _ _ wr => sh.length - iterPos wr (w1.heap.size + 1))
  case atStart =>
    refine ⟨0, nm, [32], Nat.zero_le _, rfl, rfl, HFU.out.symm, HNL.out, by decide, ?_, ?_⟩
    · have := World.iter_heap (w1.alloc (.cells #[.int .i64 i.op, .int .i64 i.rd, .int .i64 i.rs1, .int .i64 i.rs2, .int .i64 i.imm] 34)) ⟨sh.toArray⟩ 0
      rw [World.size_alloc] at this
      exact this
    · exact (Below.refl _ _).alloc (by simp) _
  case round =>
    obtain ⟨k, acc, btw, hk, rfl, rfl, HT, hal, hbl, hit, hbr⟩ := hrel
    have hsr : w1.heap.size + 1 < wr.heap.size := (Array.getElem?_eq_some_iff.1 hit).1
    have HBR : Hid (Below (w1.heap.size + 1) (w1.alloc (.cells #[.int .i64 i.op, .int .i64 i.rd, .int .i64 i.rs1, .int .i64 i.rs2, .int .i64 i.imm] 34)) wr) := hbr
    have HIT : Hid (wr.heap[w1.heap.size + 1]? = some (.stringIter ⟨sh.toArray⟩ k)) := hit
    have hszs : (ByteArray.mk sh.toArray).size = sh.length := by simp [ByteArray.size]
    have hpos : iterPos wr (w1.heap.size + 1) = k := iterPos_at hit
    have HPos : Hid (iterPos wr (w1.heap.size + 1) = k) := hpos
    clear hpos hbr hit
    by_cases hlt : k < sh.length
    · obtain ⟨c, hc⟩ : ∃ c, sh[k] = c := ⟨_, rfl⟩
      have hlet : letterOk c := by rw [← hc]; exact HSO.out.2 _ (List.getElem_mem _)
      have hnx : ∀ ty, (Instr.next (.pointer (some ⟨w1.heap.size + 1, 0, none⟩)) true ty).run Tryz.prog wr = .ok (.tuple #[.bool true, .int .i64 k, .int .i32 (c.toNat : Int)]) (wr.iterAt (w1.heap.size + 1) ⟨sh.toArray⟩ (k + 1)) := by
        intro ty
        have hg : (ByteArray.mk sh.toArray)[k]'(by rw [hszs]; exact hlt) = c := hc
        have := Lib.run_next_ascii_at (P := Tryz.prog) wr (w1.heap.size + 1) ⟨sh.toArray⟩ k ty HIT.out (by rw [hszs]; exact hlt) (by rw [hg]; rcases hlet with rfl | rfl | rfl | rfl | rfl | rfl <;> decide)
        rw [hg] at this
        exact this
      have hc2 : ∀ o, (wr.iterAt (w1.heap.size + 1) ⟨sh.toArray⟩ (k + 1)).cell? ⟨w1.heap.size, o, none⟩ = (w1.alloc (.cells #[.int .i64 i.op, .int .i64 i.rd, .int .i64 i.rs1, .int .i64 i.rs2, .int .i64 i.imm] 34)).cell? ⟨w1.heap.size, o, none⟩ := by
        intro o
        exact (Lib.below_iterAt HBR.out (Nat.le_refl _) _ _).cell (p := ⟨w1.heap.size, o, none⟩) (Nat.lt_succ_self _)
      have HL : Hid (letterOk c) := hlet
      have HN : Hid (sh.drop k = c :: sh.drop (k + 1)) := by
        show sh.drop k = _
        rw [← hc]; exact List.drop_eq_getElem_cons hlt
      clear hc hlet
      go_wp2_with fail
      have HI : Hid (insV i = .agg #[.int .i64 i.op, .int .i64 i.rd, .int .i64 i.rs1, .int .i64 i.rs2, .int .i64 i.imm]) := rfl
      rw [← HI.out]
      have HBI : Hid (Below (w1.heap.size + 1) (w1.alloc (.cells #[.int .i64 i.op, .int .i64 i.rd, .int .i64 i.rs1, .int .i64 i.rs2, .int .i64 i.imm] 34)) (wr.iterAt (w1.heap.size + 1) ⟨sh.toArray⟩ (k + 1))) := Lib.below_iterAt HBR.out (Nat.le_refl _) _ _
      refine (operand_any i HS.out c HL.out _ (HP.out.below ((HB1.out.alloc hs1 _).trans (HBI.out.mono (by omega))) hz)).mono ?_
      rintro e w2 ⟨rfl, hb2⟩
      rw [HI.out]
      have hsi : (wr.iterAt (w1.heap.size + 1) ⟨sh.toArray⟩ (k + 1)).heap.size = wr.heap.size := Lib.iterAt_size _ _ _ _
      have hit2 : w2.heap[w1.heap.size + 1]? = some (.stringIter ⟨sh.toArray⟩ (k + 1)) := by
        rw [hb2.block (w1.heap.size + 1) (by rw [hsi]; exact hsr)]
        exact Lib.iterAt_heap wr (w1.heap.size + 1) ⟨sh.toArray⟩ k (k + 1) HIT.out
      have HIT2 : Hid (w2.heap[w1.heap.size + 1]? = some (.stringIter ⟨sh.toArray⟩ (k + 1))) := hit2
      have HB2 : Hid (Below (w1.heap.size + 1) (w1.alloc (.cells #[.int .i64 i.op, .int .i64 i.rd, .int .i64 i.rs1, .int .i64 i.rs2, .int .i64 i.imm] 34)) w2) := HBI.out.trans (hb2.mono (by rw [hsi]; omega))
      have HOL : Hid ((opd i c).length ≤ 45) := opd_len i HS.out c
      have HT2 : Hid ((acc ++ (btw ++ opd i c)) ++ tailF i [44, 32] (sh.drop (k + 1)) = fullT i) := by
        have := HT.out
        rw [HN.out, tailF] at this
        show (acc ++ (btw ++ opd i c)) ++ tailF i [44, 32] (sh.drop (k + 1)) = fullT i
        rw [← this]
        simp
      clear hb2 hit2 hsi hc2 hnx
      generalize opd i c = o at *
      have hol : o.length ≤ 45 := HOL.out
      have hal2 : acc.length ≤ 156 := by have := HSO.out.1; omega
      have hpos2 : iterPos w2 (w1.heap.size + 1) = k + 1 := iterPos_at HIT2.out
      have HP2 : Hid (iterPos w2 (w1.heap.size + 1) = k + 1) := hpos2
      clear hpos2
      go_wp2
      go_roundw
      case rel => exact ⟨k + 1, acc ++ (btw ++ o), [44, 32], hlt, congrArg Value.string (by rw [cat, cat]), rfl, HT2, by simp only [List.length_append]; omega, by decide, HIT2.out, HB2.out⟩
      case measure =>
        rw [HPos.out, HP2.out]
        omega
    · have hnx : ∀ ty, (Instr.next (.pointer (some ⟨w1.heap.size + 1, 0, none⟩)) true ty).run Tryz.prog wr = .ok (.tuple #[.bool false]) wr := fun ty =>
        Lib.run_next_end_at (P := Tryz.prog) wr (w1.heap.size + 1) ⟨sh.toArray⟩ k ty HIT.out (by rw [hszs]; exact hlt)
      have HE : Hid (acc = fullT i) := by
        have := HT.out
        rw [List.drop_of_length_le (by omega), tailF, List.append_nil] at this
        exact this
      go_wp2
      go_ret
      refine ⟨?_, (HB1.out.alloc hs1 _).trans (HBR.out.mono (by omega))⟩
      rw [← HE.out]
      rfl

/-- What a word that means nothing is told as. -/
def wordT (x : Nat) : List UInt8 := [46, 119, 111, 114, 100, 32] ++ Lib.decDigits x
set_option maxHeartbeats 1000000 in
theorem text_word (x : Nat) (hx : x < 4294967296) (hd : dec x = zeroIns) (w : World) (hF : FormsAt w) (hP : PowAt w) :
    Calls Tryz.prog 8 #[.int .u32 (x : Int)] w fun e w' => e = .returned (.string ⟨(wordT x).toArray⟩) ∧ Below w.heap.size w w' := by
  have HF : Hid (FormsAt w) := hF
  have HP : Hid (PowAt w) := hP
  have hz := hP.size
  have HD : Hid (dec x = zeroIns) := hd
  obtain ⟨ds, hds⟩ : ∃ ds, Lib.decDigits x = ds := ⟨_, rfl⟩
  have hdl : ds.length ≤ 20 := by rw [← hds, Lib.decDigits_length]; exact nDigits_le x (by omega)
  have HW : Hid (wordT x = [46, 119, 111, 114, 100, 32] ++ ds) := by
    show wordT x = _
    rw [← hds]; rfl
  have HDS : Hid (Lib.decDigits x = ds) := hds
  clear hF hP hd hds
  go_enter Tryz.func8, Tryz.ntmps8
  go_wp2_with fail
  refine (decode_any x (by omega) (by omega) _ HF.out).mono ?_
  rintro e w1 ⟨rfl, hb1⟩
  rw [HD.out]
  unfold insV zeroIns
  have hs1 : w.heap.size ≤ w1.heap.size := hb1.size
  have HB1 : Hid (Below w.heap.size w (w1.alloc (.cells #[.int .i64 0, .int .i64 0, .int .i64 0, .int .i64 0, .int .i64 0] 34))) := hb1.alloc hs1 _
  clear hb1
  go_wp2_with fail
  refine (fmtUint_any x hx _ (HP.out.below HB1.out hz)).mono ?_
  rintro e w2 ⟨rfl, hb2⟩
  rw [HDS.out]
  have HB2 : Hid (Below w.heap.size w w2) := HB1.out.trans (hb2.mono (by simp; omega))
  clear hb2
  go_wp2
  go_ret
  refine ⟨?_, HB2.out⟩
  rw [HW.out]
  exact ret_val (congrArg Value.string (cat _ ds))
end Go.Proofs.YtmfookpigilccaaGreatDoor

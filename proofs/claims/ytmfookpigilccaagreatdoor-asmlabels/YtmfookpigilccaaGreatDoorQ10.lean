/- The walk of package asm's instruction. -/
import Derived.Test.YtmfookpigilccaaGreatDoorQ9
namespace Go.Proofs.YtmfookpigilccaaGreatDoor
open Go.ChangeShapes Go.WideShapes Go.ChangeAt Go.RowKit
open Go.Vx (tokB tokF spanN strV labB labN digitB Only Ins insV shapeB opT argT putI RegOk ArgOk regT letOk)

def itPos (w : World) (k : Nat) : Nat := match w.heap[k]? with | some (.stringIter _ pos) => pos | _ => 0
theorem itPos_at {w : World} {k : Nat} {s : ByteArray} {pos : Nat} (h : w.heap[k]? = some (.stringIter s pos)) : itPos w k = pos := by
  unfold itPos; rw [h]
/-- An instruction with its label, as a value. -/
def instV (i : Ins) (lab : List UInt8) : Value := .agg #[.int .i64 i.op, .int .i64 i.rd, .int .i64 i.rs1, .int .i64 i.rs2, .int .i64 i.imm, .string ⟨lab.toArray⟩]
theorem regT_nat {n : Int} (h : RegOk n) : ∃ m : Nat, m < 32 ∧ (m : Int) = n ∧ regT n = 120 :: Lib.decDigits m := ⟨n.toNat, by have := h.1; have := h.2; omega, by have := h.1; omega, rfl⟩

set_option maxRecDepth 100000 in
set_option maxHeartbeats 8000000 in
theorem instr_ok (b : Nat) (i : Ins) (lab : List UInt8) (ha : ArgOk i lab) (w : World) (h : RdAt w b (argT i lab true (shapeB i.op))) :
    Calls Tryz.prog 83 #[.pointer (some ⟨b, 0, none⟩), .int .i64 i.op] w fun e w' => e = .returned (instV i lab) ∧ RdAt w' b [] ∧ Only (fun k => k = b) w w' := by
  have HA : Hid (ArgOk i lab) := ha
  have h0 := ha.op0
  have h1 := ha.op1
  have HR : Hid (RdAt w b (argT i lab true (shapeB i.op))) := h
  clear ha h
  go_enter Tryz.func83, Tryz.ntmps83
  go_wp2_with (go_at_call 24; refine (shape_any _ h0 h1 _).mono ?_; rintro e w' ⟨rfl, rfl⟩)
  have HFO : Hid ((shapeB i.op).foldl (putI i lab) (⟨i.op, 0, 0, 0, 0⟩, []) = (i, lab)) := HA.out.all
  have HSH : Hid ((shapeB i.op).length ≤ 3 ∧ ∀ c ∈ shapeB i.op, letOk c) := Vx.shape_let i.op
  generalize shapeB i.op = sh at *
  have hbl : b < w.heap.size := HR.out.1
  go_loopw [6] (fun _ wr => ∃ k : Nat, ∃ acc, k ≤ sh.length ∧ Hid (LoopSt w b sh wr k acc (argT i lab (k == 0) (sh.drop k))) ∧ Hid ((sh.drop k).foldl (putI i lab) acc = (i, lab))) (fun _ wr => sh.length - itPos wr (w.heap.size + 2))
  case atStart =>
    obtain ⟨wa, hwa⟩ : ∃ wa, w.alloc (.cells #[.int .i64 0, .int .i64 0, .int .i64 0, .int .i64 0, .int .i64 0, .string ⟨#[]⟩] 126) = wa := ⟨_, rfl⟩
    obtain ⟨wb, hwb⟩ : ∃ wb, wa.alloc (.cells #[.int .i64 i.op, .int .i64 0, .int .i64 0, .int .i64 0, .int .i64 0, .string ⟨#[]⟩] 126) = wb := ⟨_, rfl⟩
    have s1 : wa.heap.size = w.heap.size + 1 := by rw [← hwa]; simp
    have s2 : wb.heap.size = w.heap.size + 2 := by rw [← hwb]; simp [s1]
    refine ⟨0, (⟨i.op, 0, 0, 0, 0⟩, []), Nat.zero_le _, ?_, HFO⟩
    rw [hwa, hwb]
    have hit := World.iter_heap wb ⟨sh.toArray⟩ 0
    have ol : ∀ S : Nat → Prop, Only S wb (wb.iter ⟨sh.toArray⟩ 0) := fun S => (Only.refl S wb).alloc _
    have ob : ∀ S : Nat → Prop, Only S wa wb := fun S => by rw [← hwb]; exact (Only.refl S wa).alloc _
    have oa : ∀ S : Nat → Prop, Only S w wa := fun S => by rw [← hwa]; exact (Only.refl S w).alloc _
    have i0 : InsAt wa w.heap.size (⟨0, 0, 0, 0, 0⟩, []) := by
      refine ⟨by omega, ?_, ?_, ?_, ?_, ?_, ?_, fun o => ?_⟩ <;> rw [← hwa] <;> first | exact World.frozen?_alloc_new _ _ _ _ | (rw [World.cell?_alloc_new]; rfl)
    have i1 : InsAt wb (w.heap.size + 1) (⟨i.op, 0, 0, 0, 0⟩, []) := by
      refine ⟨by omega, ?_, ?_, ?_, ?_, ?_, ?_, fun o => ?_⟩ <;> rw [← hwb, ← s1] <;> first | exact World.frozen?_alloc_new _ _ _ _ | (rw [World.cell?_alloc_new]; rfl)
    rw [s2] at hit
    exact ⟨hbl, ((HR.out.only (oa (fun _ => False)) (fun _ _ h => h)).only (ob (fun _ => False)) (fun _ _ h => h)).only (ol (fun _ => False)) (fun _ _ h => h), i1.only (ol (fun _ => False)) (fun h => h), (i0.only (ob (fun _ => False)) (fun h => h)).only (ol (fun _ => False)) (fun h => h), hit, ((oa _).trans (ob _)).trans (ol _)⟩
  case round =>
    obtain ⟨k, acc, hk, HL, HF⟩ := hrel
    have hszs : (ByteArray.mk sh.toArray).size = sh.length := by simp [ByteArray.size]
    have HPos : Hid (itPos wr (w.heap.size + 2) = k) := itPos_at HL.out.it
    by_cases hlt : k < sh.length
    · obtain ⟨c, hc⟩ : ∃ c, sh[k] = c := ⟨_, rfl⟩
      have hlet : letOk c := by rw [← hc]; exact HSH.out.2 _ (List.getElem_mem _)
      have hnx : ∀ ty, (Instr.next (.pointer (some ⟨w.heap.size + 1 + 1, 0, none⟩)) true ty).run Tryz.prog wr = .ok (.tuple #[.bool true, .int .i64 k, .int .i32 (c.toNat : Int)]) (wr.iterAt (w.heap.size + 2) ⟨sh.toArray⟩ (k + 1)) := by
        intro ty
        have hg : (ByteArray.mk sh.toArray)[k]'(by rw [hszs]; exact hlt) = c := hc
        have := Lib.run_next_ascii_at (P := Tryz.prog) wr (w.heap.size + 2) ⟨sh.toArray⟩ k ty HL.out.it (by rw [hszs]; exact hlt) (by rw [hg]; rcases hlet with rfl | rfl | rfl | rfl | rfl | rfl <;> decide)
        rw [hg] at this
        exact this
      have HL1 : Hid (LoopSt w b sh (wr.iterAt (w.heap.size + 2) ⟨sh.toArray⟩ (k + 1)) (k + 1) acc ((if (k == 0) then [] else [[44]]) ++ (opT i lab c ++ argT i lab false (sh.drop (k + 1))))) := by
        have h := HL.out.next
        rw [List.drop_eq_getElem_cons hlt, hc, argT, List.append_assoc] at h
        exact h
      have HF1 : Hid ((sh.drop (k + 1)).foldl (putI i lab) (putI i lab acc c) = (i, lab)) := by
        have h := HF.out
        rw [List.drop_eq_getElem_cons hlt, hc, List.foldl_cons] at h
        exact h
      have hlen : (argT i lab false (sh.drop (k + 1))).length ≤ 15 := by
        have := Vx.argT_len i lab false (sh.drop (k + 1))
        have h3 := HSH.out.1
        rw [List.length_drop] at this
        omega
      have HNT : Hid (argT i lab false (sh.drop (k + 1)) = argT i lab (k + 1 == 0) (sh.drop (k + 1))) := rfl
      generalize argT i lab false (sh.drop (k + 1)) = rest at *
      generalize wr.iterAt (w.heap.size + 2) ⟨sh.toArray⟩ (k + 1) = wi at *
      have hle4 : (opT i lab c).length ≤ 4 := by
        unfold Vx.opT
        split; simp; split; simp; split; simp; split; simp; split <;> simp
      clear hc HL HF
      have HK : Hid ((k == 0) = true ∨ (k == 0) = false) := by cases h : (k == 0) <;> simp [Hid]
      rcases HK.out with hk0 | hk0
      · have hkz : k = 0 := by simpa using hk0
        clear HK
        rcases hlet with rfl | rfl | rfl | rfl | rfl | rfl
        · have hcn : ((((100 : UInt8)).toNat : Nat) : Int) = 100 := rfl
          rw [hcn] at hnx
          clear hcn
          have HL2 : Hid (LoopSt w b sh wi (k + 1) acc (opT i lab 100 ++ rest)) := by have h := HL1.out; rw [hk0] at h; exact h
          have hgt : ¬ (0 : Int) < (k : Int) := by omega
          clear HL1
          go_wp2_with fail
          obtain ⟨m, hm, hmi, hreg⟩ := regT_nat HA.out.rd
          have hrd := HL2.out.rd
          have hop : opT i lab 100 = [120 :: Lib.decDigits m] := by rw [← hreg]; rfl
          rw [hop] at hrd
          refine (register_ok b m hm rest (by omega) _ hrd).mono ?_
          rintro e w3 ⟨rfl, hr3, ho3⟩
          rw [hmi]
          have HL3 : Hid (LoopSt w b sh w3 (k + 1) acc rest) := HL2.out.step hr3 ho3
          have hcc := HL3.out.ins.c1
          have hff := HL3.out.ins.fz 1
          clear hrd hop hreg hmi hm hr3 ho3 HL2
          go_wp2_with fail
          have HL4 : Hid (LoopSt w b sh (w3.setCell ⟨w.heap.size + 1, 1, none⟩ (.int .i64 i.rd)) (k + 1) (putI i lab acc 100) (argT i lab (k + 1 == 0) (sh.drop (k + 1)))) := by
            have h := HL3.out.put 1 (.int .i64 i.rd) (HL3.out.ins.set_rd i.rd)
            rw [HNT.out] at h
            exact h
          go_roundw
          case rel => exact ⟨k + 1, _, by omega, HL4, HF1⟩
          case measure => rw [HPos.out, itPos_at HL4.out.it]; omega
        · have hcn : ((((115 : UInt8)).toNat : Nat) : Int) = 115 := rfl
          rw [hcn] at hnx
          clear hcn
          have HL2 : Hid (LoopSt w b sh wi (k + 1) acc (opT i lab 115 ++ rest)) := by have h := HL1.out; rw [hk0] at h; exact h
          have hgt : ¬ (0 : Int) < (k : Int) := by omega
          clear HL1
          go_wp2_with fail
          obtain ⟨m, hm, hmi, hreg⟩ := regT_nat HA.out.rs1
          have hrd := HL2.out.rd
          have hop : opT i lab 115 = [120 :: Lib.decDigits m] := by rw [← hreg]; rfl
          rw [hop] at hrd
          refine (register_ok b m hm rest (by omega) _ hrd).mono ?_
          rintro e w3 ⟨rfl, hr3, ho3⟩
          rw [hmi]
          have HL3 : Hid (LoopSt w b sh w3 (k + 1) acc rest) := HL2.out.step hr3 ho3
          have hcc := HL3.out.ins.c2
          have hff := HL3.out.ins.fz 2
          clear hrd hop hreg hmi hm hr3 ho3 HL2
          go_wp2_with fail
          have HL4 : Hid (LoopSt w b sh (w3.setCell ⟨w.heap.size + 1, 2, none⟩ (.int .i64 i.rs1)) (k + 1) (putI i lab acc 115) (argT i lab (k + 1 == 0) (sh.drop (k + 1)))) := by
            have h := HL3.out.put 2 (.int .i64 i.rs1) (HL3.out.ins.set_rs1 i.rs1)
            rw [HNT.out] at h
            exact h
          go_roundw
          case rel => exact ⟨k + 1, _, by omega, HL4, HF1⟩
          case measure => rw [HPos.out, itPos_at HL4.out.it]; omega
        · have hcn : ((((116 : UInt8)).toNat : Nat) : Int) = 116 := rfl
          rw [hcn] at hnx
          clear hcn
          have HL2 : Hid (LoopSt w b sh wi (k + 1) acc (opT i lab 116 ++ rest)) := by have h := HL1.out; rw [hk0] at h; exact h
          have hgt : ¬ (0 : Int) < (k : Int) := by omega
          clear HL1
          go_wp2_with fail
          obtain ⟨m, hm, hmi, hreg⟩ := regT_nat HA.out.rs2
          have hrd := HL2.out.rd
          have hop : opT i lab 116 = [120 :: Lib.decDigits m] := by rw [← hreg]; rfl
          rw [hop] at hrd
          refine (register_ok b m hm rest (by omega) _ hrd).mono ?_
          rintro e w3 ⟨rfl, hr3, ho3⟩
          rw [hmi]
          have HL3 : Hid (LoopSt w b sh w3 (k + 1) acc rest) := HL2.out.step hr3 ho3
          have hcc := HL3.out.ins.c3
          have hff := HL3.out.ins.fz 3
          clear hrd hop hreg hmi hm hr3 ho3 HL2
          go_wp2_with fail
          have HL4 : Hid (LoopSt w b sh (w3.setCell ⟨w.heap.size + 1, 3, none⟩ (.int .i64 i.rs2)) (k + 1) (putI i lab acc 116) (argT i lab (k + 1 == 0) (sh.drop (k + 1)))) := by
            have h := HL3.out.put 3 (.int .i64 i.rs2) (HL3.out.ins.set_rs2 i.rs2)
            rw [HNT.out] at h
            exact h
          go_roundw
          case rel => exact ⟨k + 1, _, by omega, HL4, HF1⟩
          case measure => rw [HPos.out, itPos_at HL4.out.it]; omega
        · have hcn : ((((105 : UInt8)).toNat : Nat) : Int) = 105 := rfl
          rw [hcn] at hnx
          clear hcn
          have HL2 : Hid (LoopSt w b sh wi (k + 1) acc (opT i lab 105 ++ rest)) := by have h := HL1.out; rw [hk0] at h; exact h
          have hgt : ¬ (0 : Int) < (k : Int) := by omega
          clear HL1
          go_wp2_with fail
          have hrd := HL2.out.rd
          have hop : opT i lab 105 = [Lib.itoa i.imm] := rfl
          rw [hop] at hrd
          refine (number_ok b i.imm HA.out.im0 HA.out.im1 rest (by omega) _ hrd).mono ?_
          rintro e w3 ⟨rfl, hr3, ho3⟩
          have HL3 : Hid (LoopSt w b sh w3 (k + 1) acc rest) := HL2.out.step hr3 ho3
          have hcc := HL3.out.ins.c4
          have hff := HL3.out.ins.fz 4
          clear hrd hop hr3 ho3 HL2
          go_wp2_with fail
          have HL4 : Hid (LoopSt w b sh (w3.setCell ⟨w.heap.size + 1, 4, none⟩ (.int .i64 i.imm)) (k + 1) (putI i lab acc 105) (argT i lab (k + 1 == 0) (sh.drop (k + 1)))) := by
            have h := HL3.out.put 4 (.int .i64 i.imm) (HL3.out.ins.set_imm i.imm)
            rw [HNT.out] at h
            exact h
          go_roundw
          case rel => exact ⟨k + 1, _, by omega, HL4, HF1⟩
          case measure => rw [HPos.out, itPos_at HL4.out.it]; omega
        · have hcn : ((((106 : UInt8)).toNat : Nat) : Int) = 106 := rfl
          rw [hcn] at hnx
          clear hcn
          have HL2 : Hid (LoopSt w b sh wi (k + 1) acc (opT i lab 106 ++ rest)) := by have h := HL1.out; rw [hk0] at h; exact h
          have hgt : ¬ (0 : Int) < (k : Int) := by omega
          clear HL1
          go_wp2_with fail
          have htg : Calls Tryz.prog 98 #[.pointer (some ⟨b, 0, none⟩)] wi fun e w' => e = .returned (.tuple #[.int .i64 i.imm, .string ⟨lab.toArray⟩]) ∧ RdAt w' b rest ∧ Only (fun k => k = b) wi w' := by
            have hrd := HL2.out.rd
            rcases HA.out.labOk with hlab | ⟨c', l', hlab, hln, hll, him⟩
            · have hop : opT i lab 106 = [Lib.itoa i.imm] := by show [if lab = [] then Lib.itoa i.imm else lab] = _; rw [if_pos hlab]
              rw [hop] at hrd
              have ht := target_num b i.imm HA.out.im0 HA.out.im1 rest (by omega) _ hrd
              rw [hlab]
              exact ht
            · have hop : opT i lab 106 = [c' :: l'] := by show [if lab = [] then Lib.itoa i.imm else lab] = _; rw [hlab, if_neg (by simp)]
              rw [hop] at hrd
              have ht := target_lab b c' l' hln hll rest (by omega) _ hrd
              rw [hlab, him]
              exact ht
          refine htg.mono ?_
          rintro e w3 ⟨rfl, hr3, ho3⟩
          have HL3 : Hid (LoopSt w b sh w3 (k + 1) acc rest) := HL2.out.step hr3 ho3
          have hcc := HL3.out.ins.c4
          have hff := HL3.out.ins.fz 4
          have hcc5 := HL3.out.ins.c5
          have hff5 := HL3.out.ins.fz 5
          clear htg hr3 ho3 HL2
          go_wp2_with fail
          have HL4 : Hid (LoopSt w b sh ((w3.setCell ⟨w.heap.size + 1, 4, none⟩ (.int .i64 i.imm)).setCell ⟨w.heap.size + 1, 5, none⟩ (.string ⟨lab.toArray⟩)) (k + 1) (putI i lab acc 106) (argT i lab (k + 1 == 0) (sh.drop (k + 1)))) := by
            have h := HL3.out.put 4 (.int .i64 i.imm) (HL3.out.ins.set_imm i.imm)
            have h' := h.put 5 (.string ⟨lab.toArray⟩) (h.ins.set_lab lab)
            rw [HNT.out] at h'
            exact h'
          go_roundw
          case rel => exact ⟨k + 1, _, by omega, HL4, HF1⟩
          case measure => rw [HPos.out, itPos_at HL4.out.it]; omega
        · have hcn : ((((109 : UInt8)).toNat : Nat) : Int) = 109 := rfl
          rw [hcn] at hnx
          clear hcn
          have HL2 : Hid (LoopSt w b sh wi (k + 1) acc (opT i lab 109 ++ rest)) := by have h := HL1.out; rw [hk0] at h; exact h
          have hgt : ¬ (0 : Int) < (k : Int) := by omega
          clear HL1
          go_wp2_with fail
          have hrd := HL2.out.rd
          have hop : opT i lab 109 = [Lib.itoa i.imm, [40], regT i.rs1, [41]] := rfl
          rw [hop] at hrd
          refine (number_ok b i.imm HA.out.im0 HA.out.im1 ([40] :: regT i.rs1 :: [41] :: rest) (by simp; omega) _ hrd).mono ?_
          rintro e w3 ⟨rfl, hr3, ho3⟩
          have HL3 : Hid (LoopSt w b sh w3 (k + 1) acc ([40] :: regT i.rs1 :: [41] :: rest)) := HL2.out.step hr3 ho3
          have hcc := HL3.out.ins.c4
          have hff := HL3.out.ins.fz 4
          clear hrd hop hr3 ho3 HL2
          go_wp2_with fail
          have HL4 : Hid (LoopSt w b sh (w3.setCell ⟨w.heap.size + 1, 4, none⟩ (.int .i64 i.imm)) (k + 1) ({ acc.1 with imm := i.imm }, acc.2) ([40] :: regT i.rs1 :: [41] :: rest)) := HL3.out.put 4 (.int .i64 i.imm) (HL3.out.ins.set_imm i.imm)
          clear hcc hff HL3
          generalize w3.setCell ⟨w.heap.size + 1, 4, none⟩ (.int .i64 i.imm) = w4 at *
          refine (must_ok b [40] _ (by simp; omega) _ HL4.out.rd).mono ?_
          rintro e w5 ⟨rfl, hr5, ho5⟩
          have HL5 : Hid (LoopSt w b sh w5 (k + 1) ({ acc.1 with imm := i.imm }, acc.2) (regT i.rs1 :: [41] :: rest)) := HL4.out.step hr5 ho5
          clear hr5 ho5 HL4
          go_wp2_with fail
          obtain ⟨m, hm, hmi, hreg⟩ := regT_nat HA.out.rs1
          have hrd := HL5.out.rd
          rw [hreg] at hrd
          refine (register_ok b m hm ([41] :: rest) (by simp; omega) _ hrd).mono ?_
          rintro e w6 ⟨rfl, hr6, ho6⟩
          rw [hmi]
          have HL6 : Hid (LoopSt w b sh w6 (k + 1) ({ acc.1 with imm := i.imm }, acc.2) ([41] :: rest)) := HL5.out.step hr6 ho6
          have hcc := HL6.out.ins.c2
          have hff := HL6.out.ins.fz 2
          clear hrd hreg hmi hm hr6 ho6 HL5
          go_wp2_with fail
          have HL7 : Hid (LoopSt w b sh (w6.setCell ⟨w.heap.size + 1, 2, none⟩ (.int .i64 i.rs1)) (k + 1) (putI i lab acc 109) ([41] :: rest)) := HL6.out.put 2 (.int .i64 i.rs1) (HL6.out.ins.set_rs1 i.rs1)
          clear hcc hff HL6
          generalize w6.setCell ⟨w.heap.size + 1, 2, none⟩ (.int .i64 i.rs1) = w7 at *
          refine (must_ok b [41] _ (by omega) _ HL7.out.rd).mono ?_
          rintro e w8 ⟨rfl, hr8, ho8⟩
          have HL4 : Hid (LoopSt w b sh w8 (k + 1) (putI i lab acc 109) (argT i lab (k + 1 == 0) (sh.drop (k + 1)))) := by
            have h := HL7.out.step hr8 ho8
            rw [HNT.out] at h
            exact h
          clear hr8 ho8 HL7
          go_wp2_with fail
          go_roundw
          case rel => exact ⟨k + 1, _, by omega, HL4, HF1⟩
          case measure => rw [HPos.out, itPos_at HL4.out.it]; omega
      · have hkz : 0 < k := Nat.pos_of_ne_zero (by simpa using hk0)
        clear hk0
        clear HK
        rcases hlet with rfl | rfl | rfl | rfl | rfl | rfl
        · have hcn : ((((100 : UInt8)).toNat : Nat) : Int) = 100 := rfl
          rw [hcn] at hnx
          clear hcn
          have hrd := HL1.out.rd
          have hif : (if (k == 0) = true then ([] : List (List UInt8)) else [[44]]) = [[44]] := by rw [if_neg (by simp; omega)]
          rw [hif] at hrd
          have HRD : Hid (RdAt wi b ([44] :: (opT i lab 100 ++ rest))) := hrd
          have hgt : (0 : Int) < (k : Int) := by omega
          clear hrd hif
          go_wp2_with fail
          refine (must_ok b [44] _ (by simp only [List.length_append]; omega) _ HRD.out).mono ?_
          rintro e w2 ⟨rfl, hr2, ho2⟩
          have HL2 : Hid (LoopSt w b sh w2 (k + 1) acc (opT i lab 100 ++ rest)) := HL1.out.step hr2 ho2
          clear hr2 ho2 HL1 HRD
          go_wp2_with fail
          obtain ⟨m, hm, hmi, hreg⟩ := regT_nat HA.out.rd
          have hrd := HL2.out.rd
          have hop : opT i lab 100 = [120 :: Lib.decDigits m] := by rw [← hreg]; rfl
          rw [hop] at hrd
          refine (register_ok b m hm rest (by omega) _ hrd).mono ?_
          rintro e w3 ⟨rfl, hr3, ho3⟩
          rw [hmi]
          have HL3 : Hid (LoopSt w b sh w3 (k + 1) acc rest) := HL2.out.step hr3 ho3
          have hcc := HL3.out.ins.c1
          have hff := HL3.out.ins.fz 1
          clear hrd hop hreg hmi hm hr3 ho3 HL2
          go_wp2_with fail
          have HL4 : Hid (LoopSt w b sh (w3.setCell ⟨w.heap.size + 1, 1, none⟩ (.int .i64 i.rd)) (k + 1) (putI i lab acc 100) (argT i lab (k + 1 == 0) (sh.drop (k + 1)))) := by
            have h := HL3.out.put 1 (.int .i64 i.rd) (HL3.out.ins.set_rd i.rd)
            rw [HNT.out] at h
            exact h
          go_roundw
          case rel => exact ⟨k + 1, _, by omega, HL4, HF1⟩
          case measure => rw [HPos.out, itPos_at HL4.out.it]; omega
        · have hcn : ((((115 : UInt8)).toNat : Nat) : Int) = 115 := rfl
          rw [hcn] at hnx
          clear hcn
          have hrd := HL1.out.rd
          have hif : (if (k == 0) = true then ([] : List (List UInt8)) else [[44]]) = [[44]] := by rw [if_neg (by simp; omega)]
          rw [hif] at hrd
          have HRD : Hid (RdAt wi b ([44] :: (opT i lab 115 ++ rest))) := hrd
          have hgt : (0 : Int) < (k : Int) := by omega
          clear hrd hif
          go_wp2_with fail
          refine (must_ok b [44] _ (by simp only [List.length_append]; omega) _ HRD.out).mono ?_
          rintro e w2 ⟨rfl, hr2, ho2⟩
          have HL2 : Hid (LoopSt w b sh w2 (k + 1) acc (opT i lab 115 ++ rest)) := HL1.out.step hr2 ho2
          clear hr2 ho2 HL1 HRD
          go_wp2_with fail
          obtain ⟨m, hm, hmi, hreg⟩ := regT_nat HA.out.rs1
          have hrd := HL2.out.rd
          have hop : opT i lab 115 = [120 :: Lib.decDigits m] := by rw [← hreg]; rfl
          rw [hop] at hrd
          refine (register_ok b m hm rest (by omega) _ hrd).mono ?_
          rintro e w3 ⟨rfl, hr3, ho3⟩
          rw [hmi]
          have HL3 : Hid (LoopSt w b sh w3 (k + 1) acc rest) := HL2.out.step hr3 ho3
          have hcc := HL3.out.ins.c2
          have hff := HL3.out.ins.fz 2
          clear hrd hop hreg hmi hm hr3 ho3 HL2
          go_wp2_with fail
          have HL4 : Hid (LoopSt w b sh (w3.setCell ⟨w.heap.size + 1, 2, none⟩ (.int .i64 i.rs1)) (k + 1) (putI i lab acc 115) (argT i lab (k + 1 == 0) (sh.drop (k + 1)))) := by
            have h := HL3.out.put 2 (.int .i64 i.rs1) (HL3.out.ins.set_rs1 i.rs1)
            rw [HNT.out] at h
            exact h
          go_roundw
          case rel => exact ⟨k + 1, _, by omega, HL4, HF1⟩
          case measure => rw [HPos.out, itPos_at HL4.out.it]; omega
        · have hcn : ((((116 : UInt8)).toNat : Nat) : Int) = 116 := rfl
          rw [hcn] at hnx
          clear hcn
          have hrd := HL1.out.rd
          have hif : (if (k == 0) = true then ([] : List (List UInt8)) else [[44]]) = [[44]] := by rw [if_neg (by simp; omega)]
          rw [hif] at hrd
          have HRD : Hid (RdAt wi b ([44] :: (opT i lab 116 ++ rest))) := hrd
          have hgt : (0 : Int) < (k : Int) := by omega
          clear hrd hif
          go_wp2_with fail
          refine (must_ok b [44] _ (by simp only [List.length_append]; omega) _ HRD.out).mono ?_
          rintro e w2 ⟨rfl, hr2, ho2⟩
          have HL2 : Hid (LoopSt w b sh w2 (k + 1) acc (opT i lab 116 ++ rest)) := HL1.out.step hr2 ho2
          clear hr2 ho2 HL1 HRD
          go_wp2_with fail
          obtain ⟨m, hm, hmi, hreg⟩ := regT_nat HA.out.rs2
          have hrd := HL2.out.rd
          have hop : opT i lab 116 = [120 :: Lib.decDigits m] := by rw [← hreg]; rfl
          rw [hop] at hrd
          refine (register_ok b m hm rest (by omega) _ hrd).mono ?_
          rintro e w3 ⟨rfl, hr3, ho3⟩
          rw [hmi]
          have HL3 : Hid (LoopSt w b sh w3 (k + 1) acc rest) := HL2.out.step hr3 ho3
          have hcc := HL3.out.ins.c3
          have hff := HL3.out.ins.fz 3
          clear hrd hop hreg hmi hm hr3 ho3 HL2
          go_wp2_with fail
          have HL4 : Hid (LoopSt w b sh (w3.setCell ⟨w.heap.size + 1, 3, none⟩ (.int .i64 i.rs2)) (k + 1) (putI i lab acc 116) (argT i lab (k + 1 == 0) (sh.drop (k + 1)))) := by
            have h := HL3.out.put 3 (.int .i64 i.rs2) (HL3.out.ins.set_rs2 i.rs2)
            rw [HNT.out] at h
            exact h
          go_roundw
          case rel => exact ⟨k + 1, _, by omega, HL4, HF1⟩
          case measure => rw [HPos.out, itPos_at HL4.out.it]; omega
        · have hcn : ((((105 : UInt8)).toNat : Nat) : Int) = 105 := rfl
          rw [hcn] at hnx
          clear hcn
          have hrd := HL1.out.rd
          have hif : (if (k == 0) = true then ([] : List (List UInt8)) else [[44]]) = [[44]] := by rw [if_neg (by simp; omega)]
          rw [hif] at hrd
          have HRD : Hid (RdAt wi b ([44] :: (opT i lab 105 ++ rest))) := hrd
          have hgt : (0 : Int) < (k : Int) := by omega
          clear hrd hif
          go_wp2_with fail
          refine (must_ok b [44] _ (by simp only [List.length_append]; omega) _ HRD.out).mono ?_
          rintro e w2 ⟨rfl, hr2, ho2⟩
          have HL2 : Hid (LoopSt w b sh w2 (k + 1) acc (opT i lab 105 ++ rest)) := HL1.out.step hr2 ho2
          clear hr2 ho2 HL1 HRD
          go_wp2_with fail
          have hrd := HL2.out.rd
          have hop : opT i lab 105 = [Lib.itoa i.imm] := rfl
          rw [hop] at hrd
          refine (number_ok b i.imm HA.out.im0 HA.out.im1 rest (by omega) _ hrd).mono ?_
          rintro e w3 ⟨rfl, hr3, ho3⟩
          have HL3 : Hid (LoopSt w b sh w3 (k + 1) acc rest) := HL2.out.step hr3 ho3
          have hcc := HL3.out.ins.c4
          have hff := HL3.out.ins.fz 4
          clear hrd hop hr3 ho3 HL2
          go_wp2_with fail
          have HL4 : Hid (LoopSt w b sh (w3.setCell ⟨w.heap.size + 1, 4, none⟩ (.int .i64 i.imm)) (k + 1) (putI i lab acc 105) (argT i lab (k + 1 == 0) (sh.drop (k + 1)))) := by
            have h := HL3.out.put 4 (.int .i64 i.imm) (HL3.out.ins.set_imm i.imm)
            rw [HNT.out] at h
            exact h
          go_roundw
          case rel => exact ⟨k + 1, _, by omega, HL4, HF1⟩
          case measure => rw [HPos.out, itPos_at HL4.out.it]; omega
        · have hcn : ((((106 : UInt8)).toNat : Nat) : Int) = 106 := rfl
          rw [hcn] at hnx
          clear hcn
          have hrd := HL1.out.rd
          have hif : (if (k == 0) = true then ([] : List (List UInt8)) else [[44]]) = [[44]] := by rw [if_neg (by simp; omega)]
          rw [hif] at hrd
          have HRD : Hid (RdAt wi b ([44] :: (opT i lab 106 ++ rest))) := hrd
          have hgt : (0 : Int) < (k : Int) := by omega
          clear hrd hif
          go_wp2_with fail
          refine (must_ok b [44] _ (by simp only [List.length_append]; omega) _ HRD.out).mono ?_
          rintro e w2 ⟨rfl, hr2, ho2⟩
          have HL2 : Hid (LoopSt w b sh w2 (k + 1) acc (opT i lab 106 ++ rest)) := HL1.out.step hr2 ho2
          clear hr2 ho2 HL1 HRD
          go_wp2_with fail
          have htg : Calls Tryz.prog 98 #[.pointer (some ⟨b, 0, none⟩)] w2 fun e w' => e = .returned (.tuple #[.int .i64 i.imm, .string ⟨lab.toArray⟩]) ∧ RdAt w' b rest ∧ Only (fun k => k = b) w2 w' := by
            have hrd := HL2.out.rd
            rcases HA.out.labOk with hlab | ⟨c', l', hlab, hln, hll, him⟩
            · have hop : opT i lab 106 = [Lib.itoa i.imm] := by show [if lab = [] then Lib.itoa i.imm else lab] = _; rw [if_pos hlab]
              rw [hop] at hrd
              have ht := target_num b i.imm HA.out.im0 HA.out.im1 rest (by omega) _ hrd
              rw [hlab]
              exact ht
            · have hop : opT i lab 106 = [c' :: l'] := by show [if lab = [] then Lib.itoa i.imm else lab] = _; rw [hlab, if_neg (by simp)]
              rw [hop] at hrd
              have ht := target_lab b c' l' hln hll rest (by omega) _ hrd
              rw [hlab, him]
              exact ht
          refine htg.mono ?_
          rintro e w3 ⟨rfl, hr3, ho3⟩
          have HL3 : Hid (LoopSt w b sh w3 (k + 1) acc rest) := HL2.out.step hr3 ho3
          have hcc := HL3.out.ins.c4
          have hff := HL3.out.ins.fz 4
          have hcc5 := HL3.out.ins.c5
          have hff5 := HL3.out.ins.fz 5
          clear htg hr3 ho3 HL2
          go_wp2_with fail
          have HL4 : Hid (LoopSt w b sh ((w3.setCell ⟨w.heap.size + 1, 4, none⟩ (.int .i64 i.imm)).setCell ⟨w.heap.size + 1, 5, none⟩ (.string ⟨lab.toArray⟩)) (k + 1) (putI i lab acc 106) (argT i lab (k + 1 == 0) (sh.drop (k + 1)))) := by
            have h := HL3.out.put 4 (.int .i64 i.imm) (HL3.out.ins.set_imm i.imm)
            have h' := h.put 5 (.string ⟨lab.toArray⟩) (h.ins.set_lab lab)
            rw [HNT.out] at h'
            exact h'
          go_roundw
          case rel => exact ⟨k + 1, _, by omega, HL4, HF1⟩
          case measure => rw [HPos.out, itPos_at HL4.out.it]; omega
        · have hcn : ((((109 : UInt8)).toNat : Nat) : Int) = 109 := rfl
          rw [hcn] at hnx
          clear hcn
          have hrd := HL1.out.rd
          have hif : (if (k == 0) = true then ([] : List (List UInt8)) else [[44]]) = [[44]] := by rw [if_neg (by simp; omega)]
          rw [hif] at hrd
          have HRD : Hid (RdAt wi b ([44] :: (opT i lab 109 ++ rest))) := hrd
          have hgt : (0 : Int) < (k : Int) := by omega
          clear hrd hif
          go_wp2_with fail
          refine (must_ok b [44] _ (by simp only [List.length_append]; omega) _ HRD.out).mono ?_
          rintro e w2 ⟨rfl, hr2, ho2⟩
          have HL2 : Hid (LoopSt w b sh w2 (k + 1) acc (opT i lab 109 ++ rest)) := HL1.out.step hr2 ho2
          clear hr2 ho2 HL1 HRD
          go_wp2_with fail
          have hrd := HL2.out.rd
          have hop : opT i lab 109 = [Lib.itoa i.imm, [40], regT i.rs1, [41]] := rfl
          rw [hop] at hrd
          refine (number_ok b i.imm HA.out.im0 HA.out.im1 ([40] :: regT i.rs1 :: [41] :: rest) (by simp; omega) _ hrd).mono ?_
          rintro e w3 ⟨rfl, hr3, ho3⟩
          have HL3 : Hid (LoopSt w b sh w3 (k + 1) acc ([40] :: regT i.rs1 :: [41] :: rest)) := HL2.out.step hr3 ho3
          have hcc := HL3.out.ins.c4
          have hff := HL3.out.ins.fz 4
          clear hrd hop hr3 ho3 HL2
          go_wp2_with fail
          have HL4 : Hid (LoopSt w b sh (w3.setCell ⟨w.heap.size + 1, 4, none⟩ (.int .i64 i.imm)) (k + 1) ({ acc.1 with imm := i.imm }, acc.2) ([40] :: regT i.rs1 :: [41] :: rest)) := HL3.out.put 4 (.int .i64 i.imm) (HL3.out.ins.set_imm i.imm)
          clear hcc hff HL3
          generalize w3.setCell ⟨w.heap.size + 1, 4, none⟩ (.int .i64 i.imm) = w4 at *
          refine (must_ok b [40] _ (by simp; omega) _ HL4.out.rd).mono ?_
          rintro e w5 ⟨rfl, hr5, ho5⟩
          have HL5 : Hid (LoopSt w b sh w5 (k + 1) ({ acc.1 with imm := i.imm }, acc.2) (regT i.rs1 :: [41] :: rest)) := HL4.out.step hr5 ho5
          clear hr5 ho5 HL4
          go_wp2_with fail
          obtain ⟨m, hm, hmi, hreg⟩ := regT_nat HA.out.rs1
          have hrd := HL5.out.rd
          rw [hreg] at hrd
          refine (register_ok b m hm ([41] :: rest) (by simp; omega) _ hrd).mono ?_
          rintro e w6 ⟨rfl, hr6, ho6⟩
          rw [hmi]
          have HL6 : Hid (LoopSt w b sh w6 (k + 1) ({ acc.1 with imm := i.imm }, acc.2) ([41] :: rest)) := HL5.out.step hr6 ho6
          have hcc := HL6.out.ins.c2
          have hff := HL6.out.ins.fz 2
          clear hrd hreg hmi hm hr6 ho6 HL5
          go_wp2_with fail
          have HL7 : Hid (LoopSt w b sh (w6.setCell ⟨w.heap.size + 1, 2, none⟩ (.int .i64 i.rs1)) (k + 1) (putI i lab acc 109) ([41] :: rest)) := HL6.out.put 2 (.int .i64 i.rs1) (HL6.out.ins.set_rs1 i.rs1)
          clear hcc hff HL6
          generalize w6.setCell ⟨w.heap.size + 1, 2, none⟩ (.int .i64 i.rs1) = w7 at *
          refine (must_ok b [41] _ (by omega) _ HL7.out.rd).mono ?_
          rintro e w8 ⟨rfl, hr8, ho8⟩
          have HL4 : Hid (LoopSt w b sh w8 (k + 1) (putI i lab acc 109) (argT i lab (k + 1 == 0) (sh.drop (k + 1)))) := by
            have h := HL7.out.step hr8 ho8
            rw [HNT.out] at h
            exact h
          clear hr8 ho8 HL7
          go_wp2_with fail
          go_roundw
          case rel => exact ⟨k + 1, _, by omega, HL4, HF1⟩
          case measure => rw [HPos.out, itPos_at HL4.out.it]; omega
    · have hnx : ∀ ty, (Instr.next (.pointer (some ⟨w.heap.size + 1 + 1, 0, none⟩)) true ty).run Tryz.prog wr = .ok (.tuple #[.bool false]) wr := fun ty =>
        Lib.run_next_end_at (P := Tryz.prog) wr (w.heap.size + 2) ⟨sh.toArray⟩ k ty HL.out.it (by rw [hszs]; exact hlt)
      have hdr : sh.drop k = [] := List.drop_of_length_le (by omega)
      have hacc : acc = (i, lab) := by have h := HF.out; rw [hdr] at h; exact h
      have HL2 : Hid (LoopSt w b sh wr k (i, lab) []) := by have h := HL.out; rw [hdr, hacc] at h; exact h
      have q0 := HL2.out.ins.c0
      have q1 := HL2.out.ins.c1
      have q2 := HL2.out.ins.c2
      have q3 := HL2.out.ins.c3
      have q4 := HL2.out.ins.c4
      have q5 := HL2.out.ins.c5
      have z0 := HL2.out.res.c0
      have z1 := HL2.out.res.c1
      have z2 := HL2.out.res.c2
      have z3 := HL2.out.res.c3
      have z4 := HL2.out.res.c4
      have z5 := HL2.out.res.c5
      have zf := HL2.out.res.fz
      clear HL HF hdr hacc
      go_wp2_with fail
      have hI := ((((((HL2.out.res.set_op i.op).set_rd i.rd).set_rs1 i.rs1).set_rs2 i.rs2).set_imm i.imm).set_lab lab)
      have r0 := hI.c0
      have r1 := hI.c1
      have r2 := hI.c2
      have r3 := hI.c3
      have r4 := hI.c4
      have r5 := hI.c5
      have hON : ∀ S : Nat → Prop, S w.heap.size → Only S wr ((((((wr.setCell ⟨w.heap.size, 0, none⟩ (.int .i64 i.op)).setCell ⟨w.heap.size, 1, none⟩ (.int .i64 i.rd)).setCell ⟨w.heap.size, 2, none⟩ (.int .i64 i.rs1)).setCell ⟨w.heap.size, 3, none⟩ (.int .i64 i.rs2)).setCell ⟨w.heap.size, 4, none⟩ (.int .i64 i.imm)).setCell ⟨w.heap.size, 5, none⟩ (.string ⟨lab.toArray⟩)) := fun S hS =>
        Only.setCell (p := ⟨w.heap.size, 5, none⟩) (Only.setCell (p := ⟨w.heap.size, 4, none⟩) (Only.setCell (p := ⟨w.heap.size, 3, none⟩) (Only.setCell (p := ⟨w.heap.size, 2, none⟩) (Only.setCell (p := ⟨w.heap.size, 1, none⟩) (Only.setCell (p := ⟨w.heap.size, 0, none⟩) (Only.refl S wr) (Or.inl hS) _) (Or.inl hS) _) (Or.inl hS) _) (Or.inl hS) _) (Or.inl hS) _) (Or.inl hS) _
      generalize (((((wr.setCell ⟨w.heap.size, 0, none⟩ (.int .i64 i.op)).setCell ⟨w.heap.size, 1, none⟩ (.int .i64 i.rd)).setCell ⟨w.heap.size, 2, none⟩ (.int .i64 i.rs1)).setCell ⟨w.heap.size, 3, none⟩ (.int .i64 i.rs2)).setCell ⟨w.heap.size, 4, none⟩ (.int .i64 i.imm)).setCell ⟨w.heap.size, 5, none⟩ (.string ⟨lab.toArray⟩) = wz at *
      refine bodyPost_ret (v := instV i lab) (by simp [results, Tryz.results83, go_sem, r0, r1, r2, r3, r4, r5, instV]) rfl ⟨rfl, ?_, ?_⟩
      · exact HL2.out.rd.only (hON (fun x => x = w.heap.size) rfl) (fun k hk => by omega)
      · have h1 := HL2.out.on
        have h2 := hON (fun x => x = w.heap.size) rfl
        exact ⟨h2.os.trans h1.os, h2.tape.trans h1.tape, h2.output.trans h1.output, Nat.le_trans h1.size h2.size, fun x hx hn => (h2.block x (Nat.lt_of_lt_of_le hx h1.size) (by omega)).trans (h1.block x hx hn)⟩
end Go.Proofs.YtmfookpigilccaaGreatDoor

/- Walks of package asm's named, statement, atLabel, label. -/
import Derived.Test.YtmfookpigilccaaGreatDoorQ10
namespace Go.Vx
/-- What a line says behind its label. -/
abbrev Stm := Option (Nat ⊕ (Ins × List UInt8))
abbrev Stm.no : Stm := none
abbrev Stm.word (n : Nat) : Stm := some (.inl n)
abbrev Stm.ins (i : Ins) (lab : List UInt8) : Stm := some (.inr (i, lab))
theorem Stm.cs {motive : Stm → Prop} (no : motive .no) (word : ∀ n, motive (.word n)) (ins : ∀ i lab, motive (.ins i lab)) (s : Stm) : motive s := by
  rcases s with _ | n | ⟨i, lab⟩
  · exact no
  · exact word n
  · exact ins i lab
def stToks : Stm → List (List UInt8)
  | none => []
  | some (.inl n) => [[46, 119, 111, 114, 100], Lib.itoa (n : Int)]
  | some (.inr (i, lab)) => nameB i.op :: argT i lab true (shapeB i.op)
def stOk : Stm → Prop
  | none => True
  | some (.inl n) => n < 4294967296
  | some (.inr (i, lab)) => ArgOk i lab
def stLen : Stm → Nat
  | none => 0
  | _ => 4
theorem name_word (op : Int) (h0 : 1 ≤ op) (h1 : op ≤ 48) : (nameB op == [46, 119, 111, 114, 100]) = false ∧ (nameB op == [108, 105]) = false ∧ (nameB op == []) = false := by
  have h : ∀ k : Fin 48, (nameB ((k.val : Int) + 1) == [46, 119, 111, 114, 100]) = false ∧ (nameB ((k.val : Int) + 1) == [108, 105]) = false ∧ (nameB ((k.val : Int) + 1) == []) = false := by decide +kernel
  have h' := h ⟨(op - 1).toNat, by omega⟩
  have e : (((op - 1).toNat : Nat) : Int) + 1 = op := by omega
  simp only [e] at h'
  exact h'
end Go.Vx
namespace Go.Proofs.YtmfookpigilccaaGreatDoor
open Go.ChangeShapes Go.WideShapes Go.ChangeAt Go.RowKit
open Go.Vx (tokB tokF spanN strV labB labN digitB Only Ins insV shapeB nameB opT argT putI RegOk ArgOk regT letOk Stm stToks stOk stLen)

def stV : Stm → Value
  | none => .iface 107 (.agg #[])
  | some (.inl n) => .iface 122 (.agg #[.int .i64 n])
  | some (.inr (i, lab)) => .iface 126 (instV i lab)

theorem named_word (b : Nat) (n : Nat) (hn : n < 4294967296) (w : World) (h : RdAt w b [Lib.itoa (n : Int)]) :
    Calls Tryz.prog 60 #[.pointer (some ⟨b, 0, none⟩), strV [46, 119, 111, 114, 100]] w fun e w' => e = .returned (stV (.word n)) ∧ RdAt w' b [] ∧ Only (fun k => k = b) w w' := by
  have HR : Hid (RdAt w b [Lib.itoa (n : Int)]) := h
  have e1 : (([46, 119, 111, 114, 100] : List UInt8) == [46, 119, 111, 114, 100]) = true := by decide
  clear h
  unfold strV stV
  go_enter Tryz.func60, Tryz.ntmps60
  go_wp2_with fail
  refine (number_ok b n (by omega) (by omega) [] (by simp) _ HR.out).mono ?_
  rintro e w1 ⟨rfl, hr1, ho1⟩
  have H1 : Hid (RdAt w1 b [] ∧ Only (fun k => k = b) w w1) := ⟨hr1, ho1⟩
  clear hr1 ho1
  go_wp2_with fail
  go_ret
  exact ⟨rfl, H1.out⟩
theorem named_ins (b : Nat) (i : Ins) (lab : List UInt8) (ha : ArgOk i lab) (w : World) (h : RdAt w b (argT i lab true (shapeB i.op))) :
    Calls Tryz.prog 60 #[.pointer (some ⟨b, 0, none⟩), strV (nameB i.op)] w fun e w' => e = .returned (stV (.ins i lab)) ∧ RdAt w' b [] ∧ Only (fun k => k = b) w w' := by
  have HR : Hid (RdAt w b (argT i lab true (shapeB i.op))) := h
  have HA : Hid (ArgOk i lab) := ha
  have h0 := ha.op0
  have h1 := ha.op1
  obtain ⟨e1, e2, e3⟩ := Vx.name_word i.op h0 h1
  have HOF : Hid (Vx.opF (nameB i.op) = i.op) := opF_name i.op h0 h1
  have hne : (i.op == 0) = false := by rw [beq_eq_false_iff_ne]; omega
  clear h ha
  obtain ⟨nm, hnm⟩ : ∃ nm, nameB i.op = nm := ⟨_, rfl⟩
  rw [hnm] at e1 e2 e3 HOF ⊢
  clear hnm
  unfold strV stV
  go_enter Tryz.func60, Tryz.ntmps60
  go_wp2_with (go_at_call 82; refine (opOf_any nm _).mono ?_; rintro e w1 ⟨rfl, rfl⟩; rw [HOF.out])
  refine (instr_ok b i lab HA.out _ HR.out).mono ?_
  rintro e w2 ⟨rfl, hr1, ho1⟩
  have H1 : Hid (RdAt w2 b [] ∧ Only (fun k => k = b) _ w2) := ⟨hr1, ho1⟩
  clear hr1 ho1
  have HIV : Hid (instV i lab = .agg #[.int .i64 i.op, .int .i64 i.rd, .int .i64 i.rs1, .int .i64 i.rs2, .int .i64 i.imm, .string ⟨lab.toArray⟩]) := rfl
  rw [HIV.out]
  go_wp2_with fail
  go_ret
  exact ⟨rfl, H1.out⟩
theorem len_rd {w : World} {b : Nat} (h : RdAt w b []) : ∃ p c, w.cell? ⟨b, 0, none⟩ = some (.slice p 0 c) := by
  obtain ⟨_, v, hc, _, p, n, c, rfl, hn, _⟩ := h
  have : n = 0 := by simpa using hn
  subst this
  exact ⟨p, c, hc⟩
theorem stm_tail (b : Nat) (s : Stm) (c0 : UInt8) (l0 : List UInt8) (ts : List (List UInt8)) (hts : ts.length ≤ 30) (w : World) (h : RdAt w b ((c0 :: l0) :: ts))
    (hnm : ∀ w1, RdAt w1 b ts → Calls Tryz.prog 60 #[.pointer (some ⟨b, 0, none⟩), strV (c0 :: l0)] w1 fun e w' => e = .returned (stV s) ∧ RdAt w' b [] ∧ Only (fun k => k = b) w1 w') :
    Calls Tryz.prog 37 #[.pointer (some ⟨b, 0, none⟩)] w fun e w' => e = .returned (stV s) ∧ RdAt w' b [] ∧ Only (fun k => k = b) w w' := by
  have HR : Hid (RdAt w b ((c0 :: l0) :: ts)) := h
  have HN : Hid (∀ w1, RdAt w1 b ts → Calls Tryz.prog 60 #[.pointer (some ⟨b, 0, none⟩), strV (c0 :: l0)] w1 fun e w' => e = .returned (stV s) ∧ RdAt w' b [] ∧ Only (fun k => k = b) w1 w') := hnm
  have e1 : (c0 :: l0 == []) = false := rfl
  clear h hnm
  generalize hsv : stV s = sv at HN ⊢
  go_enter Tryz.func37, Tryz.ntmps37
  go_wp2_with fail
  refine (next_some b _ ts (by omega) _ HR.out).mono ?_
  rintro e w1 ⟨rfl, hr1, ho1⟩
  have H1 : Hid (RdAt w1 b ts ∧ Only (fun k => k = b) w w1) := ⟨hr1, ho1⟩
  clear hr1 ho1
  have HSV : Hid (Value.string ⟨(c0 :: l0).toArray⟩ = strV (c0 :: l0)) := rfl
  rw [← HSV.out]
  go_wp2_with fail
  rw [HSV.out]
  refine (HN.out w1 H1.out.1).mono ?_
  rintro e w2 ⟨rfl, hr2, ho2⟩
  have H2 : Hid (RdAt w2 b [] ∧ Only (fun k => k = b) w w2) := ⟨hr2, H1.out.2.trans ho2⟩
  obtain ⟨p, c, hcell⟩ := len_rd hr2
  clear hr2 ho2 H1
  go_wp2_with fail
  go_ret
  exact ⟨rfl, H2.out⟩
theorem statement_ok (b : Nat) (s : Stm) (hs : stOk s) (w : World) (h : RdAt w b (stToks s)) :
    Calls Tryz.prog 37 #[.pointer (some ⟨b, 0, none⟩)] w fun e w' => e = .returned (stV s) ∧ RdAt w' b [] ∧ Only (fun k => k = b) w w' := by
  cases s using Vx.Stm.cs with
  | no =>
    have HR : Hid (RdAt w b []) := h
    clear h hs
    unfold stV
    go_enter Tryz.func37, Tryz.ntmps37
    go_wp2_with fail
    refine (next_none b _ HR.out).mono ?_
    rintro e w1 ⟨rfl, rfl⟩
    unfold strV
    go_wp2_with fail
    go_ret
    exact ⟨rfl, HR.out, Only.refl _ _⟩
  | word n => exact stm_tail b (.word n) 46 [119, 111, 114, 100] [Lib.itoa (n : Int)] (by simp) w h (fun w1 h1 => named_word b n hs w1 h1)
  | ins i lab =>
    have h3 := (Vx.name_word i.op hs.op0 hs.op1).2.2
    obtain ⟨c0, l0, hcl⟩ : ∃ c l, nameB i.op = c :: l := by
      cases hn : nameB i.op with
      | nil => rw [hn] at h3; cases h3
      | cons c l => exact ⟨c, l, rfl⟩
    have hl := Vx.argT_len i lab true (shapeB i.op)
    have hl3 := (Vx.shape_let i.op).1
    have h' : RdAt w b (nameB i.op :: argT i lab true (shapeB i.op)) := h
    rw [hcl] at h'
    refine stm_tail b (.ins i lab) c0 l0 _ (by omega) w h' (fun w1 h1 => ?_)
    rw [← hcl]
    exact named_ins b i lab hs w1 h1
end Go.Proofs.YtmfookpigilccaaGreatDoor

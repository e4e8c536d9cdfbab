/- Texts with one label at most, as package asm takes them. -/
import Derived.Test.YtmfookpigilccaaGreatDoorQ16
import Derived.Test.YtmfookpigilccaaGreatDoorQ26
namespace Go.Vx
def jalL : List UInt8 := [106, 97, 108, 32, 120, 55, 44, 32, 116, 111]
def ecallL : List UInt8 := [101, 99, 97, 108, 108]
def preL : List UInt8 := [116, 111, 58, 32]
def JS : Stm := .ins ⟨3, 7, 0, 0, 0⟩ [116, 111]
def ES : Stm := .ins ⟨39, 0, 0, 0, 0⟩ []
theorem ok_J : stOk JS := ⟨by decide, by decide, ⟨by decide, by decide⟩, ⟨by decide, by decide⟩, ⟨by decide, by decide⟩, by decide, by decide, Or.inr ⟨116, [111], rfl, by decide, by decide, rfl⟩, rfl⟩
theorem ok_E : stOk ES := ⟨by decide, by decide, ⟨by decide, by decide⟩, ⟨by decide, by decide⟩, ⟨by decide, by decide⟩, by decide, by decide, Or.inl rfl, rfl⟩
theorem tk_J : stToks JS = [[106, 97, 108], [120, 55], [44], [116, 111]] := by decide +kernel
theorem tk_E : stToks ES = [[101, 99, 97, 108, 108]] := by decide +kernel
theorem tk_jal : tokF jalL = stToks JS := by rw [tk_J]; decide +kernel
theorem tk_ecall : tokF ecallL = stToks ES := by rw [tk_E]; decide +kernel
theorem tk_pjal : tokF (preL ++ jalL) = [116, 111] :: [58] :: stToks JS := by rw [tk_J]; decide +kernel
theorem tk_pecall : tokF (preL ++ ecallL) = [116, 111] :: [58] :: stToks ES := by rw [tk_E]; decide +kernel
theorem join_rep (e x : List UInt8) : ∀ k, joinB (List.replicate k e ++ [x]) = (List.replicate k (e ++ [10])).flatten ++ x
  | 0 => rfl
  | k + 1 => by
    have h := join_rep e x k
    rw [List.replicate_succ, List.cons_append]
    cases hk : List.replicate k e ++ [x] with
    | nil => simp at hk
    | cons y ys =>
      rw [joinB, ← hk, h, List.replicate_succ, List.flatten_cons]
      simp
theorem join_cons (j : List UInt8) (ls : List (List UInt8)) (h : ls ≠ []) : joinB (j :: ls) = j ++ 10 :: joinB ls := by
  cases ls with
  | nil => exact absurd rfl h
  | cons y ys => rfl
theorem join_head (p x : List UInt8) (ls : List (List UInt8)) : joinB ((p ++ x) :: ls) = p ++ joinB (x :: ls) := by
  cases ls with
  | nil => rfl
  | cons y ys => rw [joinB, joinB, List.append_assoc]
end Go.Vx
namespace Go.Proofs.YtmfookpigilccaaGreatDoor
open Go.ChangeShapes Go.WideShapes Go.ChangeAt Go.RowKit Go.Maps
open Go.Vx (strV labN Only Ins insV Stm stToks stOk stLen wordOf dec tokF fourB accT lenT joinB jalL ecallL preL JS ES)

structure PlainLine (src : List UInt8) (st : Stm) : Prop where
  len : src.length ≤ 60
  nl : (10 : UInt8) ∉ src
  no : (35 : UInt8) ∉ src
  ok : stOk st
  tk : tokF src = stToks st
  lab : ∀ t, (stToks st)[1]? = some t → t ≠ [58]
  few : (stToks st).length ≤ 30
structure LabLine (src : List UInt8) (st : Stm) : Prop where
  len : src.length ≤ 60
  nl : (10 : UInt8) ∉ src
  no : (35 : UInt8) ∉ src
  ok : stOk st
  tk : tokF src = [116, 111] :: [58] :: stToks st
  few : (stToks st).length ≤ 30
theorem pl_jal : PlainLine jalL JS := ⟨by decide, by decide, by decide, Vx.ok_J, Vx.tk_jal, by rw [Vx.tk_J]; intro t ht; cases ht; decide, by rw [Vx.tk_J]; decide⟩
theorem pl_ecall : PlainLine ecallL ES := ⟨by decide, by decide, by decide, Vx.ok_E, Vx.tk_ecall, by rw [Vx.tk_E]; intro t ht; simp at ht, by rw [Vx.tk_E]; decide⟩
theorem pl_none : PlainLine [] .no := ⟨by decide, by decide, by decide, trivial, by simp [Vx.tokF_nil, stToks], fun t ht => by simp [stToks] at ht, by simp [stToks]⟩
theorem ll_jal : LabLine (preL ++ jalL) JS := ⟨by decide, by decide, by decide, Vx.ok_J, Vx.tk_pjal, by rw [Vx.tk_J]; decide⟩
theorem ll_ecall : LabLine (preL ++ ecallL) ES := ⟨by decide, by decide, by decide, Vx.ok_E, Vx.tk_pecall, by rw [Vx.tk_E]; decide⟩
/-- The labels behind k lines. -/
def DL (sts : List Stm) : Option Nat → Nat → DataW Unit
  | none, _ => .map []
  | some i, k => if i < k then (DataW.map []).put (.string [116, 111]) (.lit (.int .i64 (lenT (sts.take i) : Int))) else .map []
def nL : Option Nat → Nat → Nat
  | none, _ => 0
  | some i, k => if i < k then 1 else 0
theorem asm_build (srcs : List (List UInt8)) (sts : List Stm) (li : Option Nat) (hlen : sts.length = srcs.length) (hne : srcs ≠ []) (hfew : srcs.length ≤ 950) (hsize : (joinB srcs).length ≤ 20000)
    (hpl : ∀ k (hk : k < srcs.length), li ≠ some k → PlainLine (srcs[k]) (sts[k]'(by omega))) (hll : ∀ k (hk : k < srcs.length), li = some k → LabLine (srcs[k]) (sts[k]'(by omega))) : Asm srcs sts (nL li) (DL sts li) := by
  refine ⟨hlen, hne, by omega, ?_, hsize, ?_, ?_, ?_⟩
  · intro l hl
    obtain ⟨k, hk, rfl⟩ := List.getElem_of_mem hl
    by_cases h : li = some k
    · exact (hll k hk h).nl
    · exact (hpl k hk h).nl
  · cases li <;> simp [nL]
  · cases li <;> simp [DL]
  · intro mx pb mb base sb rb k hk w h
    have hap : (accT (sts.take k) 0).length ≤ 30000 := by rw [Vx.accT_len, List.length_take]; omega
    have hL : lenT (sts.take k) ≤ 1000000 := by
      have := Vx.lenT_le (sts.take k)
      rw [List.length_take] at this
      omega
    by_cases hk2 : li = some k
    · have hl := hll k hk hk2
      subst hk2
      have e0 : nL (some k) k = 0 ∧ nL (some k) (k + 1) = 0 + 1 := by simp [nL]
      have e1 : DL sts (some k) k = .map [] ∧ DL sts (some k) (k + 1) = (DataW.map []).put (.string [116, 111]) (.lit (.int .i64 (lenT (sts.take k) : Int))) := by simp [DL]
      have hp := h.pr
      rw [e0.1, e1.1] at hp
      have hr := read_lab 116 [111] (by decide) (by decide) _ (by have := hl.len; omega) hl.no _ hl.ok hl.tk hl.few mx pb mb base _ 0 (by decide) (.map []) rfl _ hL hap w h.max hp
      rw [e0.2, e1.2]
      exact hr
    · have hl := hpl k hk hk2
      have e0 : nL li (k + 1) = nL li k ∧ DL sts li (k + 1) = DL sts li k := by
        cases li with
        | none => exact ⟨rfl, rfl⟩
        | some i =>
          have hik : i ≠ k := fun e => hk2 (by rw [e])
          by_cases h1 : i < k
          · simp [nL, DL, h1, show i < k + 1 by omega]
          · simp [nL, DL, h1, show ¬ i < k + 1 by omega]
      rw [e0.1, e0.2]
      exact read_plain _ (by have := hl.len; omega) hl.no _ hl.ok hl.tk hl.lab hl.few mx pb mb base _ _ _ _ hL hap w h.max h.pr
/-- jal x7 over any distance of whole words, up to 901 of them. -/
def jalOk (m : Nat) : Bool :=
  let i : Ins := ⟨3, 7, 0, 0, 4 * ((m : Int) - 900)⟩
  let d := dec (wordOf i)
  d.op == 3 && d.rd == 7 && d.rs1 == 0 && d.rs2 == 0 && d.imm == i.imm
theorem jal_all : (List.range 1802).all jalOk = true := by decide +kernel
theorem jal_dec (d : Int) (h0 : -3600 ≤ d) (h1 : d ≤ 3604) (h4 : d % 4 = 0) : dec (wordOf ⟨3, 7, 0, 0, d⟩) = ⟨3, 7, 0, 0, d⟩ := by
  have h := List.all_eq_true.1 jal_all (d / 4 + 900).toNat (List.mem_range.2 (by omega))
  unfold jalOk at h
  have e : 4 * ((((d / 4 + 900).toNat : Nat) : Int) - 900) = d := by omega
  simp only [e, Bool.and_eq_true, beq_iff_eq] at h
  obtain ⟨⟨⟨⟨a1, a2⟩, a3⟩, a4⟩, a5⟩ := h
  exact ins_ext a1 a2 a3 a4 a5
theorem ecall_dec : dec (wordOf ⟨39, 0, 0, 0, 0⟩) = ⟨39, 0, 0, 0, 0⟩ := by kernel_rfl
end Go.Proofs.YtmfookpigilccaaGreatDoor

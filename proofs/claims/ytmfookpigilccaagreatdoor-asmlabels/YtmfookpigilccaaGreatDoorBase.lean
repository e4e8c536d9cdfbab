/- What all walks lean on: small facts on endings, boxes, strings, structs. -/
import Derived.Test.YtmfookpigilccaaGreatDoorRows
import Derived.Test.YtmfookpigilccaaGreatDoorIsa
import Derived.WalkKit
import Derived.ProofKit
import Derived.OpenShut
import Derived.WalkSmall
import Derived.WalkLawsBesides
import Derived.Deep.QuietTactic
import Derived.BigQuiet
import Derived.Lib.ItoaNum
namespace Go.Vx
def pickAt (cs : Array Value) (n : Nat) : Value := cs.toList.getD n (.bool false)
theorem pickAt_get (cs : Array Value) (n : Nat) (h : n < cs.size) : cs[n]? = some (pickAt cs n) := by
  simp [pickAt, h]
end Go.Vx
namespace Go.Proofs.YtmfookpigilccaaGreatDoor
open Go.ChangeShapes Go.WideShapes Go.ChangeAt Go.RowKit
open Go.Vx (Ins)

theorem ret_int {k : IntKind} {a b : Int} (h : a = b) : Ending.returned (.int k a) = .returned (.int k b) := by rw [h]

theorem ret_val {a b : Value} (h : a = b) : Ending.returned a = .returned b := by rw [h]
theorem box_cells {w w' : World} {B b : Nat} (hb : Below B w w') (h : b < B) : ∀ o, w'.cell? ⟨b, o, none⟩ = w.cell? ⟨b, o, none⟩ := fun o => hb.cell (p := ⟨b, o, none⟩) h

theorem cat (a b : List UInt8) : (⟨a.toArray⟩ : ByteArray) ++ ⟨b.toArray⟩ = ⟨(a ++ b).toArray⟩ := by
  apply ByteArray.ext
  simp [ByteArray.data_append]
theorem nDigits_le (N : Nat) (h : N < 18446744073709551616) : Lib.nDigits N ≤ 20 := by
  by_cases h1 : 1 ≤ N
  · have := Lib.numDigits_eq N h1 h; split at this <;> omega
  · have : N = 0 := by omega
    subst this
    decide +kernel
theorem nDigits_pos (N : Nat) : 1 ≤ Lib.nDigits N := by
  rw [Lib.nDigits]; split <;> omega
theorem ins_ext {a b : Ins} (h0 : a.op = b.op) (h1 : a.rd = b.rd) (h2 : a.rs1 = b.rs1) (h3 : a.rs2 = b.rs2) (h4 : a.imm = b.imm) : a = b := by
  cases a; cases b; simp_all
/-- Where two instructions part first. -/
theorem ins_ne {a b : Ins} (h : a ≠ b) : (a.op == b.op) = false ∨ ((a.op == b.op) = true ∧ (a.rd == b.rd) = false) ∨ ((a.op == b.op) = true ∧ (a.rd == b.rd) = true ∧ (a.rs1 == b.rs1) = false) ∨
    ((a.op == b.op) = true ∧ (a.rd == b.rd) = true ∧ (a.rs1 == b.rs1) = true ∧ (a.rs2 == b.rs2) = false) ∨ ((a.op == b.op) = true ∧ (a.rd == b.rd) = true ∧ (a.rs1 == b.rs1) = true ∧ (a.rs2 == b.rs2) = true ∧ (a.imm == b.imm) = false) := by
  by_cases e0 : a.op = b.op
  · by_cases e1 : a.rd = b.rd
    · by_cases e2 : a.rs1 = b.rs1
      · by_cases e3 : a.rs2 = b.rs2
        · by_cases e4 : a.imm = b.imm
          · exact absurd (ins_ext e0 e1 e2 e3 e4) h
          · simp [e0, e1, e2, e3, e4]
        · simp [e0, e1, e2, e3]
      · simp [e0, e1, e2]
    · simp [e0, e1]
  · simp [e0]

theorem index_sign (p : ByteArray) (l : List UInt8) (k : Nat) (hp : p = ⟨l.toArray⟩) (hk : k < l.length) (wv : World) :
    (Instr.index 9 (.string p) (.int .i64 (k : Int))).run Tryz.prog wv = .ok (.int .u8 ((l[k].toNat : Nat) : Int)) wv := by
  subst hp
  have hs : (ByteArray.mk l.toArray).size = l.length := by simp [ByteArray.size]
  rw [run_index_string wv 9 _ .i64 (k : Int) Tryz.underlying9, dif_pos (by omega)]
  simp only [Int.toNat_natCast]
  rfl
end Go.Proofs.YtmfookpigilccaaGreatDoor

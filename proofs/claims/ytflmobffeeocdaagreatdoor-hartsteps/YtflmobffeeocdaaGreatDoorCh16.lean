import Derived.Test.YtflmobffeeocdaaGreatDoorCh11
import Derived.Test.YtflmobffeeocdaaGreatDoorCh15
import Derived.Test.YtflmobffeeocdaaGreatDoorCh3
/- Chapter 6, pure: what a step makes. -/
namespace Go.Vx
theorem neqF (a b : Int) (h : a ≠ b) : (a == b) = false := by rw [beq_eq_false_iff_ne]; exact h
/-- A register is set. -/
def setR (R : Nat → Nat) (rd v : Nat) : Nat → Nat := if rd = 0 then R else fun i => if i = rd then v else R i
/-- Where an instruction goes. -/
def toF (op a b : Nat) (imm : Int) (pc : Nat) : Nat :=
  if op = 3 then m32 ((pc : Int) + imm) else if op = 4 then m32 ((a : Int) + imm) - m32 ((a : Int) + imm) % 2
  else if 5 ≤ op ∧ op ≤ 10 ∧ takesF op a b = true then m32 ((pc : Int) + imm) else m32 ((pc : Int) + 4)
/-- What it makes. -/
def valF (op a b : Nat) (imm : Int) (pc : Nat) : Nat :=
  if op = 1 then m32 (imm * 4096) else if op = 2 then m32 ((pc : Int) + imm * 4096) else if op = 3 ∨ op = 4 then m32 ((pc : Int) + 4)
  else if 19 ≤ op ∧ op ≤ 27 then arithF op a (m32 imm) else arithF op a b
/-- Does it set a register? -/
def setsB (op : Nat) : Bool := decide (op ≤ 4) || (decide (19 ≤ op) && decide (op ≠ 38))
/-- What a load makes of bytes. -/
def ldF (op v : Nat) : Nat := if op = 11 ∧ 128 ≤ v then v + 4294967296 - 256 else if op = 12 ∧ 32768 ≤ v then v + 4294967296 - 65536 else v
abbrev StepR := Except (Int × Nat) ((Nat → UInt8) × (Nat → Nat) × Nat)
def loadG (f : Nat → UInt8) (R : Nat → Nat) (pc op rd : Nat) : Except (Int × Nat) Nat → StepR
  | .error e => .error e
  | .ok p => .ok (f, setR R rd (ldF op (partF f p (bytesF op))), m32 ((pc : Int) + 4))
def storeG (f : Nat → UInt8) (R : Nat → Nat) (pc op b : Nat) : Except (Int × Nat) Nat → StepR
  | .error e => .error e
  | .ok p => .ok (putF f p ((fourB b).take (bytesF op)), R, m32 ((pc : Int) + 4))
def plainG (f : Nat → UInt8) (R : Nat → Nat) (rd v dst : Nat) : StepR := if dst % 4 ≠ 0 then .error (0, dst) else .ok (f, setR R rd v, dst)
end Go.Vx
namespace Go.Proofs.YtflmobffeeocdaaGreatDoor
open Go.ChangeShapes Go.WideShapes Go.ChangeAt Go.RowKit
open Go.Vx

/-- What an instruction does. -/
def exeF (f : Nat → UInt8) (n : Nat) (root : Int) (R : Nat → Nat) (pc : Nat) (op rd a b : Nat) (imm : Int) : StepR :=
  if op = 39 then .error (8, 0) else if op = 40 then .error (3, pc)
  else if 11 ≤ op ∧ op ≤ 15 then loadG f R pc op rd (placeF f n root (m32 ((a : Int) + imm)) (bytesF op) 1)
  else if 16 ≤ op ∧ op ≤ 18 then storeG f R pc op b (placeF f n root (m32 ((a : Int) + imm)) (bytesF op) 2)
  else plainG f R (if setsB op = true then rd else 0) (valF op a b imm pc) (toF op a b imm pc)
def decG (f : Nat → UInt8) (n : Nat) (root : Int) (R : Nat → Nat) (pc : Nat) : Except (Int × Nat) Nat → StepR
  | .error e => .error e
  | .ok p => if (dec (wordF f p : Nat)).op = 0 then .error (2, wordF f p) else
      exeF f n root R pc (dec (wordF f p : Nat)).op.toNat (dec (wordF f p : Nat)).rd.toNat (regF R (dec (wordF f p : Nat)).rs1.toNat) (regF R (dec (wordF f p : Nat)).rs2.toNat) (dec (wordF f p : Nat)).imm
/-- What a step does. -/
def stepF (f : Nat → UInt8) (n : Nat) (root : Int) (R : Nat → Nat) (pc : Nat) : StepR := decG f n root R pc (placeF f n root pc 4 0)
theorem kinds_le : ∀ n : Fin 49, kinds.getD n.val 0 ≤ 7 := by decide +kernel
theorem kinds_none : ∀ n : Fin 49, ((5 ≤ n.val ∧ n.val ≤ 10) ∨ (16 ≤ n.val ∧ n.val ≤ 18)) → 6 ≤ kinds.getD n.val 0 := by decide +kernel
theorem gather_bound (k : Nat) (hk : k ≤ 7) (x : Nat) (hx : x < 4294967296) : -1048576 ≤ gatherOf k (x : Int) ∧ gatherOf k (x : Int) ≤ 1048576 := by
  have hc : k = 0 ∨ k = 1 ∨ k = 2 ∨ k = 3 ∨ k = 4 ∨ k = 5 ∨ k = 6 ∨ k = 7 := by omega
  rcases hc with rfl | rfl | rfl | rfl | rfl | rfl | rfl | rfl <;> simp only [gatherOf] <;> omega
/-- What a word's instruction can be. -/
structure InsIs (i : Ins) (op rd r1 r2 : Nat) (im : Int) : Prop where
  e : i = ⟨op, rd, r1, r2, im⟩
  lo : 1 ≤ op
  hi : op ≤ 48
  hrd : rd < 32
  hr1 : r1 < 32
  hr2 : r2 < 32
  i0 : -1048576 ≤ im
  i1 : im ≤ 1048576
  no : ((5 ≤ op ∧ op ≤ 10) ∨ (16 ≤ op ∧ op ≤ 18)) → rd = 0
theorem dec_is (x : Nat) (hx : x < 4294967296) (h0 : (dec (x : Int)).op ≠ 0) : ∃ op rd r1 r2 im, InsIs (dec (x : Int)) op rd r1 r2 im := by
  rcases find_cases (x : Int) 48 1 with h | ⟨o, h1, h2, h3, h4⟩
  · exact absurd (by show (findFrom 48 1 (x : Int)).op = 0; rw [h]; rfl) h0
  · have hd : dec (x : Int) = ins o x := h4
    obtain ⟨op, rfl⟩ : ∃ op : Nat, o = (op : Int) := ⟨o.toNat, by omega⟩
    have hk : kindOf (op : Int) ≤ 7 := kinds_le ⟨op, by omega⟩
    have hg := gather_bound (kindOf (op : Int)) hk x hx
    have hn : ((5 ≤ op ∧ op ≤ 10) ∨ (16 ≤ op ∧ op ≤ 18)) → 6 ≤ kindOf (op : Int) := fun h => kinds_none ⟨op, by omega⟩ h
    refine ⟨op, (rdF (kindOf (op : Int)) x).toNat, (rs1F (kindOf (op : Int)) x).toNat, (rs2F (kindOf (op : Int)) x).toNat, gatherOf (kindOf (op : Int)) x, ?_, by omega, by omega, ?_, ?_, ?_, hg.1, hg.2, ?_⟩
    · rw [hd]
      unfold ins
      have e1 : ((rdF (kindOf (op : Int)) x).toNat : Int) = rdF (kindOf (op : Int)) x := by unfold rdF; split <;> omega
      have e2 : ((rs1F (kindOf (op : Int)) x).toNat : Int) = rs1F (kindOf (op : Int)) x := by unfold rs1F; split <;> omega
      have e3 : ((rs2F (kindOf (op : Int)) x).toNat : Int) = rs2F (kindOf (op : Int)) x := by unfold rs2F; split <;> omega
      rw [e1, e2, e3]
    · unfold rdF; split <;> omega
    · unfold rs1F; split <;> omega
    · unfold rs2F; split <;> omega
    · intro h
      have := hn h
      unfold rdF
      rw [if_neg (by omega)]
      rfl
theorem decG_ok {f : Nat → UInt8} {n : Nat} {root : Int} {R : Nat → Nat} {pc p op rd r1 r2 : Nat} {im : Int} (h : InsIs (dec (wordF f p : Nat)) op rd r1 r2 im) : decG f n root R pc (.ok p) = exeF f n root R pc op rd (regF R r1) (regF R r2) im := by
  show (if (dec (wordF f p : Nat)).op = 0 then _ else _) = _
  rw [h.e]
  have := h.lo
  rw [if_neg (by show ¬ (op : Int) = 0; omega)]
  rfl
theorem partF_lt (f : Nat → UInt8) (a k : Nat) : partF f a k < 4294967296 := by
  have h0 := (f a).toNat_lt
  have h1 := (f (a + 1)).toNat_lt
  have h2 := (f (a + 2)).toNat_lt
  have h3 := wordF_lt f a
  unfold partF
  split <;> omega
end Go.Proofs.YtflmobffeeocdaaGreatDoor

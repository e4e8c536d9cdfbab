/- Instructions that have a word. -/
import Derived.Test.YtmfookpigilccaaGreatDoorBase
import Derived.Test.YtmfookpigilccaaGreatDoorEnc
namespace Go.Proofs.YtmfookpigilccaaGreatDoor
open Go.ChangeShapes Go.WideShapes Go.ChangeAt Go.RowKit
open Go.Vx (kindOf formOf ins insV zeroIns fits dec Ins wordOf findFrom)

theorem dec_addi : dec 5243027 = ⟨19, 1, 0, 0, 5⟩ := by kernel_rfl
/-- An instruction that has a word. -/
def Good (i : Ins) : Prop := 1 ≤ i.op ∧ i.op ≤ 48 ∧ dec (wordOf i) = i
theorem find_cases (x : Int) : ∀ (n : Nat) (op : Int), findFrom n op x = zeroIns ∨ ∃ o, op ≤ o ∧ o < op + n ∧ fits o x = true ∧ findFrom n op x = ins o x := by
  intro n
  induction n with
  | zero => intro op; exact Or.inl rfl
  | succ n ih =>
    intro op
    cases h : fits op x with
    | true => exact Or.inr ⟨op, by omega, by omega, h, by simp [findFrom, h]⟩
    | false =>
      rcases ih (op + 1) with h2 | ⟨o, h2, h3, h4, h5⟩
      · exact Or.inl (by simp [findFrom, h, h2])
      · exact Or.inr ⟨o, by omega, by omega, h4, by simp [findFrom, h, h5]⟩
theorem dec_cases (x : Nat) (hx : x < 4294967296) : dec x = zeroIns ∨ ((dec x).op != 0) = true ∧ Good (dec x) ∧ wordOf (dec x) = x := by
  rcases find_cases x 48 1 with h | ⟨o, h1, h2, h3, h4⟩
  · exact Or.inl h
  · right
    have hd : dec x = ins o x := h4
    have hw := Vx.word_ins o x h1 (by omega) hx h3
    refine ⟨?_, ⟨?_, ?_, ?_⟩, ?_⟩
    · rw [hd, bne_iff_ne]; show o ≠ 0; omega
    · rw [hd]; exact h1
    · rw [hd]; show o ≤ 48; omega
    · rw [hd, hw, hd]
    · rw [hd, hw]
end Go.Proofs.YtmfookpigilccaaGreatDoor

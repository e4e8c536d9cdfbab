import Derived.Test.YtflmobffeeocdaaGreatDoorCh14
import Derived.Test.YtflmobffeeocdaaGreatDoorCh13
/- Plain mathematics of chapter 1: an instruction's word. -/
namespace Go.Vx
set_option linter.unusedVariables false

/-- A word by its six fields, the highest first. -/
def L (hi r2 r1 f3 rd op : Nat) : Nat := ((((hi * 2 ^ 5 + r2) * 2 ^ 5 + r1) * 2 ^ 3 + f3) * 2 ^ 5 + rd) * 2 ^ 7 + op
def regPart (k : Nat) (i : Ins) : Int := (if 1 ≤ k ∧ k ≤ 5 then i.rd % 32 * 128 else 0) + (if 3 ≤ k then i.rs1 % 32 * 32768 else 0) + (if 5 ≤ k then i.rs2 % 32 * 1048576 else 0)
def wordOf (i : Ins) : Int := formOf i.op + regPart (kindOf i.op) i + spreadOf (kindOf i.op) (i.imm % 4294967296)
theorem spread_gather_2 (A B C D : Int) (hA : A = 0 ∨ A = 1) (hB : 0 ≤ B ∧ B < 1024) (hC : C = 0 ∨ C = 1) (hD : 0 ≤ D ∧ D < 256) :
    spreadOf 2 ((D * 4096 + C * 2048 + B * 2 - A * 1048576) % 4294967296) = A * 2147483648 + B * 2097152 + C * 1048576 + D * 4096 := by
  have hy : (D * 4096 + C * 2048 + B * 2 - A * 1048576) % 4294967296 = D * 4096 + C * 2048 + B * 2 + A * 4293918720 := by omega
  rw [hy]
  simp only [spreadOf]
  have e1 : (D * 4096 + C * 2048 + B * 2 + A * 4293918720) / 1048576 % 2 = A := by rcases hA with rfl | rfl <;> omega
  have e2 : (D * 4096 + C * 2048 + B * 2 + A * 4293918720) / 2 % 1024 = B := by rcases hA with rfl | rfl <;> omega
  have e3 : (D * 4096 + C * 2048 + B * 2 + A * 4293918720) / 2048 % 2 = C := by rcases hA with rfl | rfl <;> omega
  have e4 : (D * 4096 + C * 2048 + B * 2 + A * 4293918720) / 4096 % 256 = D := by rcases hA with rfl | rfl <;> omega
  rw [e1, e2, e3, e4]
theorem spread_gather_6 (A B C D : Int) (hA : A = 0 ∨ A = 1) (hB : 0 ≤ B ∧ B < 64) (hC : 0 ≤ C ∧ C < 16) (hD : D = 0 ∨ D = 1) :
    spreadOf 6 ((D * 2048 + B * 32 + C * 2 - A * 4096) % 4294967296) = A * 2147483648 + B * 33554432 + C * 256 + D * 128 := by
  have hy : (D * 2048 + B * 32 + C * 2 - A * 4096) % 4294967296 = D * 2048 + B * 32 + C * 2 + A * 4294963200 := by omega
  rw [hy]
  simp only [spreadOf]
  have e1 : (D * 2048 + B * 32 + C * 2 + A * 4294963200) / 4096 % 2 = A := by rcases hA with rfl | rfl <;> omega
  have e2 : (D * 2048 + B * 32 + C * 2 + A * 4294963200) / 32 % 64 = B := by rcases hA with rfl | rfl <;> omega
  have e3 : (D * 2048 + B * 32 + C * 2 + A * 4294963200) / 2 % 16 = C := by rcases hA with rfl | rfl <;> omega
  have e4 : (D * 2048 + B * 32 + C * 2 + A * 4294963200) / 2048 % 2 = D := by rcases hA with rfl | rfl <;> omega
  rw [e1, e2, e3, e4]
theorem spread_gather_7 (A B : Int) (hA : 0 ≤ A ∧ A < 128) (hB : 0 ≤ B ∧ B < 32) :
    spreadOf 7 ((A * 32 + B - A / 64 * 4096) % 4294967296) = A * 33554432 + B * 128 := by
  simp only [spreadOf]
  have e1 : (A * 32 + B - A / 64 * 4096) % 4294967296 / 32 % 128 = A := by omega
  have e2 : (A * 32 + B - A / 64 * 4096) % 4294967296 % 32 = B := by omega
  rw [e1, e2]

/-- A word that fits an Op's form is the word of what it means. -/
theorem word_kind (k f x : Nat) (hk : k ≤ 7) (hx : x < 4294967296) (hf : formOk k f = true) (h : x &&& fixMask k = f) :
    (f : Int) + regPart k ⟨0, rdF k x, rs1F k x, rs2F k x, gatherOf k x⟩ + spreadOf k (gatherOf k x % 4294967296) = x := by
  have hk' : k = 0 ∨ k = 1 ∨ k = 2 ∨ k = 3 ∨ k = 4 ∨ k = 5 ∨ k = 6 ∨ k = 7 := by omega
  rcases hk' with rfl | rfl | rfl | rfl | rfl | rfl | rfl | rfl
  · rw [show fixMask 0 = 4294967295 from rfl, mask_d x hx] at h
    subst h
    simp [regPart, spreadOf]
  · rw [show fixMask 1 = 127 from rfl, mask_a] at h
    subst h
    clear hf
    simp [regPart, spreadOf, rdF, gatherOf]
    omega
  · rw [show fixMask 2 = 127 from rfl, mask_a] at h
    subst h
    clear hf
    simp only [gatherOf]
    rw [spread_gather_2 _ _ _ _ (by omega) (by omega) (by omega) (by omega)]
    simp [regPart, rdF]
    omega
  · rw [show fixMask 3 = 28799 from rfl, mask_b] at h
    subst h
    clear hf
    simp [regPart, spreadOf, rdF, rs1F, gatherOf]
    omega
  · rw [show fixMask 4 = 4261441663 from rfl, mask_c] at h
    subst h
    clear hf
    simp [regPart, spreadOf, rdF, rs1F, gatherOf]
    omega
  · rw [show fixMask 5 = 4261441663 from rfl, mask_c] at h
    subst h
    clear hf
    simp [regPart, spreadOf, rdF, rs1F, rs2F]
    omega
  · rw [show fixMask 6 = 28799 from rfl, mask_b] at h
    subst h
    clear hf
    simp only [gatherOf]
    rw [spread_gather_6 _ _ _ _ (by omega) (by omega) (by omega) (by omega)]
    simp [regPart, rs1F, rs2F]
    omega
  · rw [show fixMask 7 = 28799 from rfl, mask_b] at h
    subst h
    clear hf
    have e : (x : Int) / 2147483648 = (x : Int) / 33554432 / 64 := by omega
    simp only [gatherOf]
    rw [e, spread_gather_7 _ _ (by omega) (by omega)]
    simp [regPart, rs1F, rs2F]
    omega
theorem word_ins (op : Int) (x : Nat) (h0 : 1 ≤ op) (h1 : op ≤ 48) (hx : x < 4294967296) (h : fits op x = true) : wordOf (ins op x) = x := by
  have h2 : x &&& fixMask (kindOf op) = formOf op := by
    unfold fits at h
    simpa using h
  exact word_kind _ _ x (kindOf_le op) hx (form_ok op h0 h1) h2
end Go.Vx

/- Instructions that have a word. -/
namespace Go.Proofs.YtflmobffeeocdaaGreatDoor
open Go.ChangeShapes Go.WideShapes Go.ChangeAt Go.RowKit
open Go.Vx (kindOf formOf ins insV zeroIns fits dec Ins wordOf findFrom)

/-- An instruction that has a word. -/
def Good (i : Ins) : Prop := 1 ≤ i.op ∧ i.op ≤ 48 ∧ dec (wordOf i) = i
theorem find_cases (x : Int) : ∀ (n : Nat) (op : Int), findFrom n op x = zeroIns ∨ ∃ o, op ≤ o ∧ o < op + n ∧ fits o x = true ∧ findFrom n op x = ins o x := by
  intro n
  induction n with
  | zero => intro op; exact Or.inl rfl
  | succ n ih =>
    intro op
    cases h : fits op x with
    | true => exact Or.inr ⟨op, by omega, by omega, h, by simp [findFrom, h]⟩
    | false =>
      rcases ih (op + 1) with h2 | ⟨o, h2, h3, h4, h5⟩
      · exact Or.inl (by simp [findFrom, h, h2])
      · exact Or.inr ⟨o, by omega, by omega, h4, by simp [findFrom, h, h5]⟩
theorem dec_cases (x : Nat) (hx : x < 4294967296) : dec x = zeroIns ∨ ((dec x).op != 0) = true ∧ Good (dec x) ∧ wordOf (dec x) = x := by
  rcases find_cases x 48 1 with h | ⟨o, h1, h2, h3, h4⟩
  · exact Or.inl h
  · right
    have hd : dec x = ins o x := h4
    have hw := Vx.word_ins o x h1 (by omega) hx h3
    refine ⟨?_, ⟨?_, ?_, ?_⟩, ?_⟩
    · rw [hd, bne_iff_ne]; show o ≠ 0; omega
    · rw [hd]; exact h1
    · rw [hd]; show o ≤ 48; omega
    · rw [hd, hw, hd]
    · rw [hd, hw]
end Go.Proofs.YtflmobffeeocdaaGreatDoor

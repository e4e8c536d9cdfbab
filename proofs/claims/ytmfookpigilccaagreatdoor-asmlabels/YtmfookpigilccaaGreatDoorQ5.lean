/- A walk of package asm's tokens. -/
import Derived.Test.YtmfookpigilccaaGreatDoorQ1
import Derived.Test.YtmfookpigilccaaGreatDoorShelf
import Derived.Lib.IndexBytes
namespace Go.Vx
theorem index_none : ∀ (l : List UInt8) (c : UInt8), c ∉ l → Lib.indexByte l c = -1
  | [], c, _ => rfl
  | b :: l, c, h => by
    have h1 : b ≠ c := fun e => h (by simp [e])
    have h2 := index_none l c (fun e => h (by simp [e]))
    unfold Lib.indexByte
    simp [h1, h2]
/-- One token, or blank, off the front. -/
theorem tokF_step (c : UInt8) (r : List UInt8) (hc : c ≠ 35) (m : Nat) (hm : max (spanN (c :: r)) 1 = m) :
    tokF (c :: r) = (if (c :: r).take m = [32] ∨ (c :: r).take m = [9] then [] else [(c :: r).take m]) ++ tokF ((c :: r).drop m) := by
  have e0 : (c :: r).drop 0 = c :: r := rfl
  cases htb : tokB c with
  | true =>
    have h1 := spanN_cons c r
    rw [htb, if_pos rfl] at h1
    have hms : spanN (c :: r) = m := by omega
    have h := tokF_run (c :: r) 0 (by simp) hc htb
    rw [e0, Nat.zero_add, hms] at h
    rw [h, if_neg]
    · rfl
    · have hm0 : m = spanN r + 1 := by omega
      rw [hm0, List.take_succ_cons]
      rintro (e | e)
      · have := (List.cons.inj e).1; subst this; exact absurd htb (by decide)
      · have := (List.cons.inj e).1; subst this; exact absurd htb (by decide)
  | false =>
    have h1 := spanN_cons c r
    rw [htb] at h1
    have hm1 : m = 1 := by simp at h1; omega
    subst hm1
    by_cases hb : c = 32 ∨ c = 9
    · have h := tokF_blank (c :: r) 0 (by simp) hb
      rw [e0] at h
      rw [h, if_pos (by simpa using hb)]
      rfl
    · have h := tokF_sign (c :: r) 0 (by simp) hc htb hb
      rw [e0] at h
      rw [h, if_neg (by simpa using hb)]
      rfl
end Go.Vx
namespace Go.Proofs.YtmfookpigilccaaGreatDoor
open Go.ChangeShapes Go.WideShapes Go.ChangeAt Go.RowKit
open Go.Vx (tokB tokF spanN strV)
def strLen : Value → Nat | .string s => s.size | _ => 0
/-- The variable MaxLen of the library holds a number. -/
def MaxAt (m : Int) (w : World) : Prop := w.cell? ⟨1, 0, none⟩ = some (.int .i64 m)
theorem cut_none (l : List UInt8) (m : Int) (hn : (35 : UInt8) ∉ l) (hl : l.length ≤ 20000) (w : World) (hm : MaxAt m w) :
    Calls Tryz.prog 55 #[.string ⟨l.toArray⟩, .string ⟨#[35]⟩] w fun e w' => e = .returned (.tuple #[.string ⟨l.toArray⟩, .string ⟨#[]⟩, .bool false]) ∧ ∃ n, w' = w.drewN n := by
  have hs : (ByteArray.mk l.toArray).size = l.length := by simp [ByteArray.size]
  have h := Tryz.strings_Cut ⟨l.toArray⟩ ⟨#[35]⟩ m w (by omega) hm
  have e : Lib.cut l [35] = (l, [], false) := by
    unfold Lib.cut
    rw [Lib.index_one, Vx.index_none l 35 hn]
    rfl
  have e2 : Lib.cut (ByteArray.mk l.toArray).data.toList (ByteArray.mk #[35]).data.toList = (l, [], false) := e
  rw [e2] at h
  exact h
theorem slice_to (l : List UInt8) (m : Nat) (h : m ≤ l.length) (wv : World) :
    (Instr.slice 9 (.string ⟨l.toArray⟩) none (some (.int .i64 (m : Int))) none).run Tryz.prog wv = .ok (.string ⟨(l.take m).toArray⟩) wv := by
  have hs : (ByteArray.mk l.toArray).size = l.length := by simp [ByteArray.size]
  rw [run_slice_string_to_if wv 9 _ .i64 (m : Int) Tryz.underlying9]
  have e := extract_mid l 0 m
  rw [Nat.zero_add, List.drop_zero] at e
  simp [hs, h, e]
theorem slice_from (l : List UInt8) (m : Nat) (h : m ≤ l.length) (wv : World) :
    (Instr.slice 9 (.string ⟨l.toArray⟩) (some (.int .i64 (m : Int))) none none).run Tryz.prog wv = .ok (.string ⟨(l.drop m).toArray⟩) wv := by
  have hs : (ByteArray.mk l.toArray).size = l.length := by simp [ByteArray.size]
  rw [run_slice_string_from_if wv 9 _ .i64 (m : Int) Tryz.underlying9]
  have e := extract_mid l m (l.length - m)
  rw [show m + (l.length - m) = l.length by omega, List.take_of_length_le (by simp)] at e
  simp [hs, h, e]
end Go.Proofs.YtmfookpigilccaaGreatDoor

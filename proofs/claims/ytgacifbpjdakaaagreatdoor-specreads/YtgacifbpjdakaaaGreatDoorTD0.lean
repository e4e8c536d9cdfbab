/- vaultkeep's decimal. -/
import Derived.Test.YtgacifbpjdakaaaGreatDoorM0
import Derived.Lib.ItoaMem
import Derived.Lib.ItoaNum
import Derived.Laws.IdiomStrings
namespace Go.Proofs.YtgacifbpjdakaaaGreatDoor
open Go.ChangeShapes Go.WideShapes Go.ChangeAt Go.RowKit
open Go.Vx

theorem catB (a b : List UInt8) : (⟨a.toArray⟩ : ByteArray) ++ ⟨b.toArray⟩ = ⟨(a ++ b).toArray⟩ := by
  apply ByteArray.ext
  simp [ByteArray.data_append]
theorem nDig_le (N : Nat) (h : N < 18446744073709551616) : Lib.nDigits N ≤ 20 := by
  by_cases h1 : 1 ≤ N
  · have := Lib.numDigits_eq N h1 h; split at this <;> omega
  · have : N = 0 := by omega
    subst this
    decide +kernel
theorem nDig_pos (N : Nat) : 1 ≤ Lib.nDigits N := by
  rw [Lib.nDigits]; split <;> omega
theorem conv_oneK (wr : World) (c : UInt8) (z : Int) (hz : z = (c.toNat : Int)) :
    (convert 115 9 (.slice (some ⟨wr.heap.size, 0, none⟩) 1 1)).run Tryz.prog (wr.alloc (.cells #[.int .u8 z] 5)) = .ok (.string ⟨[c].toArray⟩) (wr.alloc (.cells #[.int .u8 z] 5)) := by
  subst hz
  have h := run_convert_bytes_back (P := Tryz.prog) (wr.alloc (.cells #[.int .u8 (c.toNat : Int)] 5)) 115 9 5 ⟨wr.heap.size, 0, none⟩ 1 [c] Tryz.underlying115 Tryz.underlying5 Tryz.underlying9 (fun j hj => by
    have : j = 0 := by simpa using hj
    subst this
    rw [Lib.add_plain, World.cell?_alloc_new]
    rfl)
  exact h
theorem dig_cK (m : Nat) : ((UInt8.ofNat (48 + m % 10)).toNat : Int) = 48 + (m : Int) % 10 := by
  rw [UInt8.toNat_ofNat', Nat.mod_eq_of_lt (by omega)]; omega
set_option maxRecDepth 20000 in
set_option maxHeartbeats 1000000 in
theorem decimal_ok (N : Nat) (hN : N < 9223372036854775808) (w : World) :
    Calls Tryz.prog 22 #[.int .i64 (N : Int)] w fun e w' => e = .returned (.string ⟨(Lib.decDigits N).toArray⟩) ∧ Below w.heap.size w w' := by
  go_enter Tryz.func22, Tryz.ntmps22
  go_wp2
  go_loopw [0, 3] (fun a t wr => ∃ m : Nat, ∃ l : List UInt8, m ≤ N ∧ a = .int .i64 m ∧ t = .string ⟨l.toArray⟩ ∧ Hid (Lib.decDigits m ++ l = Lib.decDigits N) ∧ Below w.heap.size w wr) (fun a _ _ => (intOf a).toNat)
  case atStart => exact ⟨N, [], Nat.le_refl _, rfl, rfl, List.append_nil _, Below.refl _ _⟩
  case round =>
    obtain ⟨m, l, hm, rfl, rfl, HD, hb⟩ := hrel
    have hl : l.length ≤ 19 := by
      have h1 := congrArg List.length HD.out
      rw [List.length_append, Lib.decDigits_length, Lib.decDigits_length] at h1
      have h2 := nDig_le N (by omega)
      have h3 := nDig_pos m
      omega
    have HB : Hid (Below w.heap.size w wr) := hb
    have hsz : w.heap.size ≤ wr.heap.size := hb.size
    clear hb
    obtain ⟨c, hc⟩ : ∃ c : UInt8, c = UInt8.ofNat (48 + m % 10) := ⟨_, rfl⟩
    have HC : Hid (c = UInt8.ofNat (48 + m % 10)) := hc
    have hz : ((c.toNat : Nat) : Int) = 48 + (m : Int) % 10 := by rw [hc]; exact dig_cK m
    clear hc
    by_cases hlt : 9 < m
    · have hcv := conv_oneK wr c (48 + (m : Int) % 10) hz.symm
      have HD2 : Hid (Lib.decDigits (m / 10) ++ (c :: l) = Lib.decDigits N) := by
        have h := HD.out
        rw [Lib.decDigits, dif_neg (by omega)] at h
        show Lib.decDigits (m / 10) ++ (c :: l) = Lib.decDigits N
        rw [← h, HC.out]
        simp
      clear hz HC
      go_wp2
      go_roundw
      case rel => exact ⟨m / 10, c :: l, by omega, by go_num, congrArg Value.string (catB [c] l), HD2, HB.out.alloc hsz _⟩
      case measure => simp [intOf]; omega
    · have hcv := conv_oneK wr c (48 + (m : Int)) (by omega)
      have HD2 : Hid (c :: l = Lib.decDigits N) := by
        have h := HD.out
        rw [Lib.decDigits, dif_pos (by omega)] at h
        rw [← h, HC.out, Nat.mod_eq_of_lt (by omega)]
        rfl
      clear hz HC
      go_wp2
      go_ret
      exact ⟨(congrArg Ending.returned <| by rw [← HD2.out]; exact congrArg Value.string (catB [c] l)), HB.out.alloc hsz _⟩
end Go.Proofs.YtgacifbpjdakaaaGreatDoor

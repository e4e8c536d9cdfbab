/- A walk of the document's digits. -/
import Derived.Test.YtmfookpigilccaaGreatDoorBase
import Derived.Lib.ItoaMem
import Derived.Laws.IdiomStrings
namespace Go.Proofs.YtmfookpigilccaaGreatDoor
open Go.ChangeShapes Go.WideShapes Go.ChangeAt Go.RowKit
theorem conv_one (wr : World) (c : UInt8) (z : Int) (hz : z = (c.toNat : Int)) :
    (convert 47 9 (.slice (some ⟨wr.heap.size, 0, none⟩) 1 1)).run Tryz.prog (wr.alloc (.cells #[.int .u8 z] 5)) = .ok (.string ⟨[c].toArray⟩) (wr.alloc (.cells #[.int .u8 z] 5)) := by
  subst hz
  have h := run_convert_bytes_back (P := Tryz.prog) (wr.alloc (.cells #[.int .u8 (c.toNat : Int)] 5)) 47 9 5 ⟨wr.heap.size, 0, none⟩ 1 [c] Tryz.underlying47 Tryz.underlying5 Tryz.underlying9 (fun j hj => by
    have : j = 0 := by simpa using hj
    subst this
    rw [Lib.add_plain, World.cell?_alloc_new]
    rfl)
  exact h
theorem dig_c (m : Nat) : ((UInt8.ofNat (48 + m % 10)).toNat : Int) = 48 + (m : Int) % 10 := by
  rw [UInt8.toNat_ofNat', Nat.mod_eq_of_lt (by omega)]; omega
set_option maxRecDepth 20000 in
set_option maxHeartbeats 1000000 in
theorem digits_pos (N : Nat) (hN : N < 4294967296) (w : World) :
    Calls Tryz.prog 84 #[.int .i64 (N : Int)] w fun e w' => e = .returned (.string ⟨(Lib.decDigits N).toArray⟩) ∧ Below w.heap.size w w' := by
  go_enter Tryz.func84, Tryz.ntmps84
  go_wp2
  go_loopw [0, 4] (fun a t wr => ∃ m : Nat, ∃ l : List UInt8, m ≤ N ∧ a = .int .i64 m ∧ t = .string ⟨l.toArray⟩ ∧ Hid (Lib.decDigits m ++ l = Lib.decDigits N) ∧ Below w.heap.size w wr) (fun a _ _ => (intOf a).toNat)
  case atStart => exact ⟨N, [], Nat.le_refl _, rfl, rfl, List.append_nil _, Below.refl _ _⟩
  case round =>
    obtain ⟨m, l, hm, rfl, rfl, HD, hb⟩ := hrel
    have hl : l.length ≤ 19 := by
      have h1 := congrArg List.length HD.out
      rw [List.length_append, Lib.decDigits_length, Lib.decDigits_length] at h1
      have h2 := nDigits_le N (by omega)
      have h3 := nDigits_pos m
      omega
    have HB : Hid (Below w.heap.size w wr) := hb
    have hsz : w.heap.size ≤ wr.heap.size := hb.size
    clear hb
    obtain ⟨c, hc⟩ : ∃ c : UInt8, c = UInt8.ofNat (48 + m % 10) := ⟨_, rfl⟩
    have HC : Hid (c = UInt8.ofNat (48 + m % 10)) := hc
    have hz : ((c.toNat : Nat) : Int) = 48 + (m : Int) % 10 := by rw [hc]; exact dig_c m
    clear hc
    by_cases hlt : 10 ≤ m
    · have hcv := conv_one wr c (48 + (m : Int) % 10) hz.symm
      have HD2 : Hid (Lib.decDigits (m / 10) ++ (c :: l) = Lib.decDigits N) := by
        have h := HD.out
        rw [Lib.decDigits, dif_neg (by omega)] at h
        show Lib.decDigits (m / 10) ++ (c :: l) = Lib.decDigits N
        rw [← h, HC.out]
        simp
      clear hz HC
      go_wp2
      go_roundw
      case rel => exact ⟨m / 10, c :: l, by omega, by go_num, congrArg Value.string (cat [c] l), HD2, HB.out.alloc hsz _⟩
      case measure => simp [intOf]; omega
    · have hcv := conv_one wr c (48 + (m : Int)) (by omega)
      have HD2 : Hid (c :: l = Lib.decDigits N) := by
        have h := HD.out
        rw [Lib.decDigits, dif_pos (by omega)] at h
        rw [← h, HC.out, Nat.mod_eq_of_lt (by omega)]
        rfl
      clear hz HC
      go_wp2
      go_ret
      exact ⟨ret_val (by rw [← HD2.out]; exact congrArg Value.string (cat [c] l)), HB.out.alloc hsz _⟩
set_option maxRecDepth 20000 in
theorem digits_any (n : Int) (h0 : -4294967296 < n) (h1 : n < 4294967296) (w : World) :
    Calls Tryz.prog 84 #[.int .i64 n] w fun e w' => e = .returned (.string ⟨(Lib.itoa n).toArray⟩) ∧ Below w.heap.size w w' := by
  by_cases hn : n < 0
  · obtain ⟨u, rfl⟩ : ∃ u : Nat, n = -(u : Int) := ⟨n.natAbs, by omega⟩
    have hu : 1 ≤ u := by omega
    have hl : (Lib.decDigits u).length ≤ 20 := by rw [Lib.decDigits_length]; exact nDigits_le u (by omega)
    rw [Lib.itoa_neg u hu]
    generalize hd : Lib.decDigits u = ds at hl
    have HD : Hid (Lib.decDigits u = ds) := hd
    clear hd
    go_enter Tryz.func84, Tryz.ntmps84
    go_wp2_with fail
    refine (digits_pos u (by omega) _).mono ?_
    rintro e w' ⟨rfl, hb⟩
    rw [HD.out]
    go_wp2
    go_ret
    exact ⟨ret_val (congrArg Value.string (cat [45] ds)), hb⟩
  · obtain ⟨u, rfl⟩ := Int.eq_ofNat_of_zero_le (show 0 ≤ n by omega)
    rw [Lib.itoa_nonneg]
    exact digits_pos u (by omega) w
end Go.Proofs.YtmfookpigilccaaGreatDoor

/- Walks of the document's memory: four, SetWord, Zero, Same. -/
import Derived.Test.YtflmobffeeocdaaGreatDoorS5
namespace Go.Proofs.YtflmobffeeocdaaGreatDoor
open Go.ChangeShapes Go.WideShapes Go.ChangeAt Go.RowKit
open Go.Vx

theorem refFour_any (x : Nat) (hx : x < 4294967296) (w : World) :
    Calls Tryz.prog 59 #[.int .i64 (x : Int)] w fun e w' => e = .returned (.string ⟨(fourB x).toArray⟩) ∧ Only (fun _ => False) w w' := by
  obtain ⟨c0, e0⟩ : ∃ c, c = x % 256 := ⟨_, rfl⟩
  obtain ⟨c1, e1⟩ : ∃ c, c = x / 256 % 256 := ⟨_, rfl⟩
  obtain ⟨c2, e2⟩ : ∃ c, c = x / 65536 % 256 := ⟨_, rfl⟩
  obtain ⟨c3, e3⟩ : ∃ c, c = x / 16777216 % 256 := ⟨_, rfl⟩
  have v0 : (x : Int) % 256 = (c0 : Int) := by omega
  have v1 : (x : Int) / 256 % 256 = (c1 : Int) := by omega
  have v2 : (x : Int) / 65536 % 256 = (c2 : Int) := by omega
  have v3 : (x : Int) / 16777216 % 256 = (c3 : Int) := by omega
  have u0 : (c0 : Int) % 256 = (c0 : Int) := by omega
  have u1 : (c1 : Int) % 256 = (c1 : Int) := by omega
  have u2 : (c2 : Int) % 256 = (c2 : Int) := by omega
  have u3 : (c3 : Int) % 256 = (c3 : Int) := by omega
  have t0 : Int.tmod (x : Int) 256 = (c0 : Int) := by rw [Int.tmod_eq_emod_of_nonneg (by omega)]; omega
  have t1 : Int.tmod (Int.tdiv (x : Int) 256) 256 = (c1 : Int) := by rw [Int.tdiv_eq_ediv_of_nonneg (by omega), Int.tmod_eq_emod_of_nonneg (by omega)]; omega
  have t2 : Int.tmod (Int.tdiv (x : Int) 65536) 256 = (c2 : Int) := by rw [Int.tdiv_eq_ediv_of_nonneg (by omega), Int.tmod_eq_emod_of_nonneg (by omega)]; omega
  have t3 : Int.tmod (Int.tdiv (x : Int) 16777216) 256 = (c3 : Int) := by rw [Int.tdiv_eq_ediv_of_nonneg (by omega), Int.tmod_eq_emod_of_nonneg (by omega)]; omega
  have hcv := fun wv : World => run_convert_bytes_back (P := Tryz.prog) (wv.alloc (.cells #[.int .u8 (c0 : Int), .int .u8 (c1 : Int), .int .u8 (c2 : Int), .int .u8 (c3 : Int)] 5)) 66 9 5 ⟨wv.heap.size, 0, none⟩ 4 (fourB x) Tryz.underlying66 Tryz.underlying5 Tryz.underlying9 (fun j hj => by
    have hj4 : j < 4 := hj
    rw [addr_add, Nat.zero_add, cell_of_row _ _ j _ _ (0, 0) (heap_alloc_last wv _)]
    have hcs : j = 0 ∨ j = 1 ∨ j = 2 ∨ j = 3 := by omega
    rcases hcs with rfl | rfl | rfl | rfl
    · show some (Value.int .u8 (c0 : Int)) = some (.int .u8 ((UInt8.ofNat (x % 256)).toNat : Int)); rw [byte_of, ← e0]
    · show some (Value.int .u8 (c1 : Int)) = some (.int .u8 ((UInt8.ofNat (x / 256 % 256)).toNat : Int)); rw [byte_of, ← e1]
    · show some (Value.int .u8 (c2 : Int)) = some (.int .u8 ((UInt8.ofNat (x / 65536 % 256)).toNat : Int)); rw [byte_of, ← e2]
    · show some (Value.int .u8 (c3 : Int)) = some (.int .u8 ((UInt8.ofNat (x / 16777216 % 256)).toNat : Int)); rw [byte_of, ← e3])
  have hfl : (fourB x).length = 4 := rfl
  have hcv2 : (convert 66 9 (.slice (some ⟨w.heap.size, 0, none⟩) 4 4)).run Tryz.prog (w.alloc (.cells #[.int .u8 (c0 : Int), .int .u8 (c1 : Int), .int .u8 (c2 : Int), .int .u8 (c3 : Int)] 5)) = .ok (.string ⟨(fourB x).toArray⟩) (w.alloc (.cells #[.int .u8 (c0 : Int), .int .u8 (c1 : Int), .int .u8 (c2 : Int), .int .u8 (c3 : Int)] 5)) := hcv w
  generalize (fourB x).toArray = fx at hcv2
  have hxb : (x : Int) < 4294967296 := by omega
  clear hcv hfl e0 e1 e2 e3 hx
  go_enter Tryz.func59, Tryz.ntmps59
  go_wp2_with fail
  all_goals
    go_ret
    exact ⟨rfl, (Only.refl _ w).alloc _⟩
theorem refSetWord_any {w : World} {br bb n : Nat} {f : Nat → UInt8} (h : RefAt w br bb n f) (a : Int) (x : Nat) (hx : x < 4294967296) :
    Calls Tryz.prog 31 #[.pointer (some ⟨br, 0, none⟩), .int .i64 a, .int .i64 (x : Int)] w fun e w' => e = .returned (.int .i64 ((setWF f n a x).2 : Nat)) ∧ RefAt w' br bb n (setWF f n a x).1 ∧ Only (fun k => k = bb) w w' := by
  have HI := Vx.hid (inside_any h a 4 (by decide))
  have HR := Vx.hid h
  unfold setWF
  by_cases hi : insB n a 4 = true
  · rw [hi] at HI
    by_cases h4 : a.tmod 4 = 0
    · rw [if_pos ⟨hi, h4⟩]
      obtain ⟨y, z, rfl, hz, hin⟩ := insB_nat hi
      simp only [Int.toNat_natCast]
      have HF4 := Vx.hid (refFour_any x hx w)
      have HWR : Hid (∀ wv, Only (fun _ => False) w wv → Calls Tryz.prog 29 #[.pointer (some ⟨br, 0, none⟩), .int .i64 (y : Int), .string ⟨(fourB x).toArray⟩] wv fun e w' => e = .returned (.int .i64 0) ∧ Hid (RefAt w' br bb n (putF f y (fourB x)) ∧ Only (fun k => k = bb) w w')) := fun wv hv => by
        refine (refWrite_ok (h.only hv (fun h => h) (fun h => h)) y (fourB x) (by have : (fourB x).length = 4 := rfl; omega)).mono ?_
        rintro e w' ⟨rfl, h1, h2⟩
        exact ⟨rfl, h1, (hv.mono (fun _ _ h => h.elim)).trans h2⟩
      generalize (fourB x).toArray = fx at HF4 HWR
      clear h hi hin hz hx
      go_enter Tryz.func31, Tryz.ntmps31
      go_wp2_with fail
      refine HI.out.mono ?_
      rintro e w' ⟨rfl, h⟩
      have h3 := h.symm; clear h; subst h3
      go_wp2_with fail
      refine HF4.out.mono ?_
      rintro e w2 ⟨rfl, ho2⟩
      have HO2 := Vx.hid ho2
      clear ho2
      go_wp2_with fail
      refine (HWR.out w2 HO2.out).mono ?_
      rintro e w3 ⟨rfl, H3⟩
      go_wp2_with fail
      all_goals
        go_ret
        exact ⟨rfl, H3.out⟩
    · rw [if_neg (fun hh => h4 hh.2)]
      clear h hi
      go_enter Tryz.func31, Tryz.ntmps31
      go_wp2_with fail
      refine HI.out.mono ?_
      rintro e w' ⟨rfl, h⟩
      have h3 := h.symm; clear h; subst h3
      go_wp2_with fail
      all_goals
        go_ret
        exact ⟨rfl, HR.out, Only.refl _ _⟩
  · rw [if_neg (fun hh => hi hh.1)]
    have hi' : insB n a 4 = false := by simpa using hi
    rw [hi'] at HI
    clear h hi hi'
    go_enter Tryz.func31, Tryz.ntmps31
    go_wp2_with fail
    refine HI.out.mono ?_
    rintro e w' ⟨rfl, h⟩
    have h3 := h.symm; clear h; subst h3
    go_wp2_with fail
    all_goals
      go_ret
      exact ⟨rfl, HR.out, Only.refl _ _⟩
end Go.Proofs.YtflmobffeeocdaaGreatDoor

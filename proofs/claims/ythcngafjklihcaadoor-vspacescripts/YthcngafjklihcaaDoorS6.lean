/- Walks of the document's memory: four, SetWord, Zero, Same. -/
import Derived.Test.YthcngafjklihcaaDoorS5
namespace Go.Proofs.YthcngafjklihcaaDoor
open Go.ChangeShapes Go.WideShapes Go.ChangeAt Go.RowKit
open Go.Vx

theorem refFour_any (x : Nat) (hx : x < 4294967296) (w : World) :
    Calls Tryd.prog 73 #[.int .i64 (x : Int)] w fun e w' => e = .returned (.string ⟨(fourB x).toArray⟩) ∧ Only (fun _ => False) w w' := by
  obtain ⟨c0, e0⟩ : ∃ c, c = x % 256 := ⟨_, rfl⟩
  obtain ⟨c1, e1⟩ : ∃ c, c = x / 256 % 256 := ⟨_, rfl⟩
  obtain ⟨c2, e2⟩ : ∃ c, c = x / 65536 % 256 := ⟨_, rfl⟩
  obtain ⟨c3, e3⟩ : ∃ c, c = x / 16777216 % 256 := ⟨_, rfl⟩
  have v0 : (x : Int) % 256 = (c0 : Int) := by omega
  have v1 : (x : Int) / 256 % 256 = (c1 : Int) := by omega
  have v2 : (x : Int) / 65536 % 256 = (c2 : Int) := by omega
  have v3 : (x : Int) / 16777216 % 256 = (c3 : Int) := by omega
  have u0 : (c0 : Int) % 256 = (c0 : Int) := by omega
  have u1 : (c1 : Int) % 256 = (c1 : Int) := by omega
  have u2 : (c2 : Int) % 256 = (c2 : Int) := by omega
  have u3 : (c3 : Int) % 256 = (c3 : Int) := by omega
  have t0 : Int.tmod (x : Int) 256 = (c0 : Int) := by rw [Int.tmod_eq_emod_of_nonneg (by omega)]; omega
  have t1 : Int.tmod (Int.tdiv (x : Int) 256) 256 = (c1 : Int) := by rw [Int.tdiv_eq_ediv_of_nonneg (by omega), Int.tmod_eq_emod_of_nonneg (by omega)]; omega
  have t2 : Int.tmod (Int.tdiv (x : Int) 65536) 256 = (c2 : Int) := by rw [Int.tdiv_eq_ediv_of_nonneg (by omega), Int.tmod_eq_emod_of_nonneg (by omega)]; omega
  have t3 : Int.tmod (Int.tdiv (x : Int) 16777216) 256 = (c3 : Int) := by rw [Int.tdiv_eq_ediv_of_nonneg (by omega), Int.tmod_eq_emod_of_nonneg (by omega)]; omega
  have hcv := fun wv : World => run_convert_bytes_back (P := Tryd.prog) (wv.alloc (.cells #[.int .u8 (c0 : Int), .int .u8 (c1 : Int), .int .u8 (c2 : Int), .int .u8 (c3 : Int)] 5)) 39 9 5 ⟨wv.heap.size, 0, none⟩ 4 (fourB x) Tryd.underlying39 Tryd.underlying5 Tryd.underlying9 (fun j hj => by
    have hj4 : j < 4 := hj
    rw [addr_add, Nat.zero_add, cell_of_row _ _ j _ _ (0, 0) (heap_alloc_last wv _)]
    have hcs : j = 0 ∨ j = 1 ∨ j = 2 ∨ j = 3 := by omega
    rcases hcs with rfl | rfl | rfl | rfl
    · show some (Value.int .u8 (c0 : Int)) = some (.int .u8 ((UInt8.ofNat (x % 256)).toNat : Int)); rw [byte_of, ← e0]
    · show some (Value.int .u8 (c1 : Int)) = some (.int .u8 ((UInt8.ofNat (x / 256 % 256)).toNat : Int)); rw [byte_of, ← e1]
    · show some (Value.int .u8 (c2 : Int)) = some (.int .u8 ((UInt8.ofNat (x / 65536 % 256)).toNat : Int)); rw [byte_of, ← e2]
    · show some (Value.int .u8 (c3 : Int)) = some (.int .u8 ((UInt8.ofNat (x / 16777216 % 256)).toNat : Int)); rw [byte_of, ← e3])
  have hfl : (fourB x).length = 4 := rfl
  have hcv2 : (convert 39 9 (.slice (some ⟨w.heap.size, 0, none⟩) 4 4)).run Tryd.prog (w.alloc (.cells #[.int .u8 (c0 : Int), .int .u8 (c1 : Int), .int .u8 (c2 : Int), .int .u8 (c3 : Int)] 5)) = .ok (.string ⟨(fourB x).toArray⟩) (w.alloc (.cells #[.int .u8 (c0 : Int), .int .u8 (c1 : Int), .int .u8 (c2 : Int), .int .u8 (c3 : Int)] 5)) := hcv w
  generalize (fourB x).toArray = fx at hcv2
  have hxb : (x : Int) < 4294967296 := by omega
  clear hcv hfl e0 e1 e2 e3 hx
  go_enter Tryd.func73, Tryd.ntmps73
  go_wp2_with fail
  all_goals
    go_ret
    exact ⟨rfl, (Only.refl _ w).alloc _⟩
/-- What SetWord makes of the bytes, and tells. -/
def setWF (f : Nat → UInt8) (n : Nat) (a : Int) (x : Nat) : (Nat → UInt8) × Nat := if insB n a 4 = true ∧ a.tmod 4 = 0 then (putF f a.toNat (fourB x), 0) else (f, 1)
theorem setWord_any {U : Nat → Prop} {w : World} {bm n : Nat} {f : Nat → UInt8} (h : MemAt U w bm n f) (a : Int) (x : Nat) (hx : x < 4294967296) :
    Calls Tryd.prog 16 #[.pointer (some ⟨bm, 0, none⟩), .int .i64 a, .int .u32 (x : Int)] w fun e w' => e = .returned (.int .i64 ((setWF f n a x).2 : Nat)) ∧ MemAt U w' bm n (setWF f n a x).1 ∧ Only (fun k => ¬ U k) w w' := by
  unfold setWF
  by_cases hi : insB n a 4 = true ∧ a.tmod 4 = 0
  · rw [if_pos hi]
    obtain ⟨y, z, rfl, hz, hin⟩ := insB_nat hi.1
    have h4 := hi.2
    rw [Int.tmod_eq_emod_of_nonneg (by omega)] at h4
    obtain ⟨bp, q, hm⟩ := h
    refine (setWord_ok hm y x hx (by omega) (by omega)).mono ?_
    rintro e w' ⟨rfl, ⟨q', h1⟩, h2⟩
    exact ⟨rfl, ⟨bp, q', h1⟩, h2⟩
  · rw [if_neg hi]
    refine (setWord_no h a (x : Int) ?_).mono ?_
    · by_cases h4 : a.tmod 4 = 0
      · right
        by_cases h5 : insB n a 4 = true
        · exact absurd ⟨h5, h4⟩ hi
        · simpa using h5
      · exact Or.inl h4
    · rintro e w' ⟨rfl, rfl⟩
      exact ⟨rfl, h, Only.refl _ _⟩
theorem refSetWord_any {w : World} {br bb n : Nat} {f : Nat → UInt8} (h : RefAt w br bb n f) (a : Int) (x : Nat) (hx : x < 4294967296) :
    Calls Tryd.prog 45 #[.pointer (some ⟨br, 0, none⟩), .int .i64 a, .int .i64 (x : Int)] w fun e w' => e = .returned (.int .i64 ((setWF f n a x).2 : Nat)) ∧ RefAt w' br bb n (setWF f n a x).1 ∧ Only (fun k => k = bb) w w' := by
  have HI := Vx.hid (inside_any h a 4 (by decide))
  have HR := Vx.hid h
  unfold setWF
  by_cases hi : insB n a 4 = true
  · rw [hi] at HI
    by_cases h4 : a.tmod 4 = 0
    · rw [if_pos ⟨hi, h4⟩]
      obtain ⟨y, z, rfl, hz, hin⟩ := insB_nat hi
      simp only [Int.toNat_natCast]
      have HF4 := Vx.hid (refFour_any x hx w)
      have HWR : Hid (∀ wv, Only (fun _ => False) w wv → Calls Tryd.prog 43 #[.pointer (some ⟨br, 0, none⟩), .int .i64 (y : Int), .string ⟨(fourB x).toArray⟩] wv fun e w' => e = .returned (.int .i64 0) ∧ Hid (RefAt w' br bb n (putF f y (fourB x)) ∧ Only (fun k => k = bb) w w')) := fun wv hv => by
        refine (refWrite_ok (h.only hv (fun h => h) (fun h => h)) y (fourB x) (by have : (fourB x).length = 4 := rfl; omega)).mono ?_
        rintro e w' ⟨rfl, h1, h2⟩
        exact ⟨rfl, h1, (hv.mono (fun _ _ h => h.elim)).trans h2⟩
      generalize (fourB x).toArray = fx at HF4 HWR
      clear h hi hin hz hx
      go_enter Tryd.func45, Tryd.ntmps45
      go_wp2_with fail
      refine HI.out.mono ?_
      rintro e w' ⟨rfl, h⟩
      have h3 := h.symm; clear h; subst h3
      go_wp2_with fail
      refine HF4.out.mono ?_
      rintro e w2 ⟨rfl, ho2⟩
      have HO2 := Vx.hid ho2
      clear ho2
      go_wp2_with fail
      refine (HWR.out w2 HO2.out).mono ?_
      rintro e w3 ⟨rfl, H3⟩
      go_wp2_with fail
      all_goals
        go_ret
        exact ⟨rfl, H3.out⟩
    · rw [if_neg (fun hh => h4 hh.2)]
      clear h hi
      go_enter Tryd.func45, Tryd.ntmps45
      go_wp2_with fail
      refine HI.out.mono ?_
      rintro e w' ⟨rfl, h⟩
      have h3 := h.symm; clear h; subst h3
      go_wp2_with fail
      all_goals
        go_ret
        exact ⟨rfl, HR.out, Only.refl _ _⟩
  · rw [if_neg (fun hh => hi hh.1)]
    have hi' : insB n a 4 = false := by simpa using hi
    rw [hi'] at HI
    clear h hi hi'
    go_enter Tryd.func45, Tryd.ntmps45
    go_wp2_with fail
    refine HI.out.mono ?_
    rintro e w' ⟨rfl, h⟩
    have h3 := h.symm; clear h; subst h3
    go_wp2_with fail
    all_goals
      go_ret
      exact ⟨rfl, HR.out, Only.refl _ _⟩
end Go.Proofs.YthcngafjklihcaaDoor

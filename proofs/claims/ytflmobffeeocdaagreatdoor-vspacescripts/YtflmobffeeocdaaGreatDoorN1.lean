/- Walks of package mem: word, Word, SetWord, Pages. -/
import Derived.Test.YtflmobffeeocdaaGreatDoorBits
import Derived.Test.YtflmobffeeocdaaGreatDoorM5
namespace Go.Vx
/-- The number that four bytes are. -/
def wordF (f : Nat → UInt8) (a : Nat) : Nat := (f a).toNat + 256 * (f (a + 1)).toNat + 65536 * (f (a + 2)).toNat + 16777216 * (f (a + 3)).toNat
/-- The first bytes of it. -/
def partF (f : Nat → UInt8) (a : Nat) : Nat → Nat
  | 0 => 0
  | 1 => (f a).toNat
  | 2 => (f a).toNat + 256 * (f (a + 1)).toNat
  | 3 => (f a).toNat + 256 * (f (a + 1)).toNat + 65536 * (f (a + 2)).toNat
  | _ => wordF f a
theorem wordF_lt (f : Nat → UInt8) (a : Nat) : wordF f a < 4294967296 := by
  have h0 := (f a).toNat_lt
  have h1 := (f (a + 1)).toNat_lt
  have h2 := (f (a + 2)).toNat_lt
  have h3 := (f (a + 3)).toNat_lt
  unfold wordF
  omega
end Go.Vx
namespace Go.Proofs.YtflmobffeeocdaaGreatDoor
open Go.ChangeShapes Go.WideShapes Go.ChangeAt Go.RowKit
open Go.Vx

theorem pages_any {U : Nat → Prop} {w : World} {bm n : Nat} {f : Nat → UInt8} (h : MemAt U w bm n f) :
    Calls Tryz.prog 19 #[.pointer (some ⟨bm, 0, none⟩)] w fun e w' => e = .returned (.int .i64 (n : Int)) ∧ w' = w := by
  obtain ⟨bp, q, h⟩ := h
  have hcm := h.cm
  clear h
  go_enter Tryz.func19, Tryz.ntmps19
  go_wp2
  all_goals
    go_ret
    exact ⟨rfl, rfl⟩
theorem pageWord_any (b o : Nat) (ho : o + 4 ≤ 4096) (w : World) :
    Calls Tryz.prog 23 #[.pointer (some ⟨b, 0, none⟩), .int .i64 (o : Int)] w fun e w' => e = .returned (.slice (some ⟨b, o, none⟩) 4 4) ∧ w' = w := by
  have hsl : (Instr.sliceAt 108 (.pointer (some ⟨b, 0, none⟩)) (some (.int .i64 (o : Int))) (some (.int .i64 ((o : Int) + 4))) (some (.int .i64 ((o : Int) + 4)))).run Tryz.prog w = .ok (.slice (some ⟨b, o, none⟩) 4 4) w := by
    have hl : Tryz.prog.arrayLen 108 = 4096 := by kernel_rfl
    have he : Tryz.prog.elem 108 = 5 := by kernel_rfl
    have hu : Tryz.prog.underlying 108 = some (.array (Tryz.prog.arrayLen 108) (Tryz.prog.elem 108)) := by kernel_rfl
    have hsz : (sizeOf 5).run Tryz.prog w = .ok 1 w := by
      have := sizeByte
      cases hq : Tryz.prog.info? 5 with
      | none => rw [hq] at this; simp at this
      | some i => rw [hq] at this; simp at this; simp [sizeOf, typeInfo, hq, this]
    rw [run_sliceAt_array_lhm w 108 ⟨b, 0, none⟩ hu .i64 .i64 .i64 (o : Int) ((o : Int) + 4) ((o : Int) + 4) (by omega) (by omega) (by omega) (by rw [hl]; omega), he, hsz]
    have e1 : ((o : Int) + 4).toNat = o + 4 := by omega
    have e2 : ¬ o + 4 = o := by omega
    simp only [Result.andThen, slicedAt, e1, Int.toNat_natCast, if_neg e2, Nat.mul_one, addr_add]
    rw [show 0 + o = o by omega, show o + 4 - o = 4 by omega]
  have hw1 : IntKind.i64.wrap ((o : Int) + 4) = (o : Int) + 4 := by rw [IntKind.wrap_i64]; omega
  clear ho
  go_enter Tryz.func23, Tryz.ntmps23
  go_wp2
  all_goals
    go_ret
    exact ⟨rfl, rfl⟩
theorem word_no {U : Nat → Prop} {w : World} {bm n : Nat} {f : Nat → UInt8} (h : MemAt U w bm n f) (a : Int) (hi : a.tmod 4 ≠ 0 ∨ insB n a 4 = false) :
    Calls Tryz.prog 16 #[.pointer (some ⟨bm, 0, none⟩), .int .i64 a] w fun e w' => e = .returned (.tuple #[.int .u32 0, .int .i64 1]) ∧ w' = w := by
  by_cases h4 : a.tmod 4 = 0
  · have hi' : insB n a 4 = false := by simpa [h4] using hi
    have HC : Hid (Calls Tryz.prog 20 #[.pointer (some ⟨bm, 0, none⟩), .int .i64 a, .int .i64 4] w fun e w' => e = .returned (.bool false) ∧ w' = w) := by
      refine (holds_any h a 4).mono ?_
      rintro e w' ⟨rfl, rfl⟩
      rw [hi']
      exact ⟨rfl, rfl⟩
    clear h hi hi'
    go_enter Tryz.func16, Tryz.ntmps16
    go_wp2_with fail
    refine HC.out.mono ?_
    rintro e w' ⟨rfl, rfl⟩
    go_wp2_with fail
    all_goals
      go_ret2
      exact ⟨rfl, rfl⟩
  · clear h hi
    go_enter Tryz.func16, Tryz.ntmps16
    go_wp2_with fail
    all_goals
      go_ret2
      exact ⟨rfl, rfl⟩
end Go.Proofs.YtflmobffeeocdaaGreatDoor

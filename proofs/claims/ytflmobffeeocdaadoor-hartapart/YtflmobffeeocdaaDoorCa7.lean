import Derived.Test.YtflmobffeeocdaaDoorCa1
import Derived.Test.YtflmobffeeocdaaDoorCa6
/- Walks of package mem: word, Word, SetWord, Pages. -/
namespace Go.Vx
/-- The number that four bytes are. -/
def wordF (f : Nat → UInt8) (a : Nat) : Nat := (f a).toNat + 256 * (f (a + 1)).toNat + 65536 * (f (a + 2)).toNat + 16777216 * (f (a + 3)).toNat
/-- The first bytes of it. -/
def partF (f : Nat → UInt8) (a : Nat) : Nat → Nat
  | 0 => 0
  | 1 => (f a).toNat
  | 2 => (f a).toNat + 256 * (f (a + 1)).toNat
  | 3 => (f a).toNat + 256 * (f (a + 1)).toNat + 65536 * (f (a + 2)).toNat
  | _ => wordF f a
theorem wordF_lt (f : Nat → UInt8) (a : Nat) : wordF f a < 4294967296 := by
  have h0 := (f a).toNat_lt
  have h1 := (f (a + 1)).toNat_lt
  have h2 := (f (a + 2)).toNat_lt
  have h3 := (f (a + 3)).toNat_lt
  unfold wordF
  omega
end Go.Vx
namespace Go.Proofs.YtflmobffeeocdaaDoor
open Go.ChangeShapes Go.WideShapes Go.ChangeAt Go.RowKit
open Go.Vx

theorem pages_any {U : Nat → Prop} {w : World} {bm n : Nat} {f : Nat → UInt8} (h : MemAt U w bm n f) :
    Calls Tryd.prog 41 #[.pointer (some ⟨bm, 0, none⟩)] w fun e w' => e = .returned (.int .i64 (n : Int)) ∧ w' = w := by
  obtain ⟨bp, q, h⟩ := h
  have hcm := h.cm
  clear h
  go_enter Tryd.func41, Tryd.ntmps41
  go_wp2
  all_goals
    go_ret
    exact ⟨rfl, rfl⟩
theorem pageWord_any (b o : Nat) (ho : o + 4 ≤ 4096) (w : World) :
    Calls Tryd.prog 40 #[.pointer (some ⟨b, 0, none⟩), .int .i64 (o : Int)] w fun e w' => e = .returned (.slice (some ⟨b, o, none⟩) 4 4) ∧ w' = w := by
  have hsl : (Instr.sliceAt 79 (.pointer (some ⟨b, 0, none⟩)) (some (.int .i64 (o : Int))) (some (.int .i64 ((o : Int) + 4))) (some (.int .i64 ((o : Int) + 4)))).run Tryd.prog w = .ok (.slice (some ⟨b, o, none⟩) 4 4) w := by
    have hl : Tryd.prog.arrayLen 79 = 4096 := by kernel_rfl
    have he : Tryd.prog.elem 79 = 5 := by kernel_rfl
    have hu : Tryd.prog.underlying 79 = some (.array (Tryd.prog.arrayLen 79) (Tryd.prog.elem 79)) := by kernel_rfl
    have hsz : (sizeOf 5).run Tryd.prog w = .ok 1 w := by
      have := sizeByte
      cases hq : Tryd.prog.info? 5 with
      | none => rw [hq] at this; simp at this
      | some i => rw [hq] at this; simp at this; simp [sizeOf, typeInfo, hq, this]
    rw [run_sliceAt_array_lhm w 79 ⟨b, 0, none⟩ hu .i64 .i64 .i64 (o : Int) ((o : Int) + 4) ((o : Int) + 4) (by omega) (by omega) (by omega) (by rw [hl]; omega), he, hsz]
    have e1 : ((o : Int) + 4).toNat = o + 4 := by omega
    have e2 : ¬ o + 4 = o := by omega
    simp only [Result.andThen, slicedAt, e1, Int.toNat_natCast, if_neg e2, Nat.mul_one, addr_add]
    rw [show 0 + o = o by omega, show o + 4 - o = 4 by omega]
  have hw1 : IntKind.i64.wrap ((o : Int) + 4) = (o : Int) + 4 := by rw [IntKind.wrap_i64]; omega
  clear ho
  go_enter Tryd.func40, Tryd.ntmps40
  go_wp2
  all_goals
    go_ret
    exact ⟨rfl, rfl⟩
theorem word_no {U : Nat → Prop} {w : World} {bm n : Nat} {f : Nat → UInt8} (h : MemAt U w bm n f) (a : Int) (hi : a.tmod 4 ≠ 0 ∨ insB n a 4 = false) :
    Calls Tryd.prog 42 #[.pointer (some ⟨bm, 0, none⟩), .int .i64 a] w fun e w' => e = .returned (.tuple #[.int .u32 0, .int .i64 1]) ∧ w' = w := by
  by_cases h4 : a.tmod 4 = 0
  · have hi' : insB n a 4 = false := by simpa [h4] using hi
    have HC : Hid (Calls Tryd.prog 14 #[.pointer (some ⟨bm, 0, none⟩), .int .i64 a, .int .i64 4] w fun e w' => e = .returned (.bool false) ∧ w' = w) := by
      refine (holds_any h a 4).mono ?_
      rintro e w' ⟨rfl, rfl⟩
      rw [hi']
      exact ⟨rfl, rfl⟩
    clear h hi hi'
    go_enter Tryd.func42, Tryd.ntmps42
    go_wp2_with fail
    refine HC.out.mono ?_
    rintro e w' ⟨rfl, rfl⟩
    go_wp2_with fail
    all_goals
      go_ret2
      exact ⟨rfl, rfl⟩
  · clear h hi
    go_enter Tryd.func42, Tryd.ntmps42
    go_wp2_with fail
    all_goals
      go_ret2
      exact ⟨rfl, rfl⟩
end Go.Proofs.YtflmobffeeocdaaDoor

/- Walks of package mem: Word. -/
namespace Go.Vx
/-- What lies below a bit, joined with what lies above it. -/
theorem u32_join_low (i : Nat) (I x y : Int) (hI : I = ((2 ^ i : Nat) : Int)) (hi : 2 ^ i ≤ 4294967296) (h : 0 ≤ x ∧ x < 4294967296 ∧ x % I = 0 ∧ 0 ≤ y ∧ y < I) : bits .or .u32 y x = y + x := by
  have e := u32_join i I x y hI hi h
  obtain ⟨h0, h1, hx, hy, hy1⟩ := h
  have hI2 : I ≤ 4294967296 := by subst hI; omega
  rw [u32_or x y h0 h1 hy (by omega), Nat.or_comm] at e
  rw [u32_or y x hy (by omega) h0 h1, e]
  omega
end Go.Vx
namespace Go.Proofs.YtflmobffeeocdaaDoor
open Go.ChangeShapes Go.WideShapes Go.ChangeAt Go.RowKit
open Go.Vx

set_option maxRecDepth 100000 in
theorem word_ok {U : Nat → Prop} {w : World} {bm n : Nat} {f : Nat → UInt8} (h : MemAt U w bm n f) (a : Nat) (h4 : a % 4 = 0) (hin : a + 4 ≤ 4096 * n) :
    Calls Tryd.prog 42 #[.pointer (some ⟨bm, 0, none⟩), .int .i64 (a : Int)] w fun e w' => e = .returned (.tuple #[.int .u32 (wordF f a : Nat), .int .i64 0]) ∧ Only (fun _ => False) w w' := by
  have hn : n ≤ 256 := by obtain ⟨bp, q, h⟩ := h; exact h.top
  have ht : (a : Int).tmod 4 = 0 := by rw [Int.tmod_eq_emod_of_nonneg (by omega)]; omega
  have HC : Hid (Calls Tryd.prog 14 #[.pointer (some ⟨bm, 0, none⟩), .int .i64 (a : Int), .int .i64 4] w fun e w' => e = .returned (.bool true) ∧ w' = w) := by
    refine (holds_any h (a : Int) 4).mono ?_
    rintro e w' ⟨rfl, rfl⟩
    have : insB n (a : Int) 4 = true := by simp [insB]; omega
    rw [this]
    exact ⟨rfl, rfl⟩
  have HSP := Vx.hid (split_any a (by omega))
  have hpo : a = 4096 * (a / 4096) + a % 4096 := by omega
  have ho4 : a % 4096 + 4 ≤ 4096 := by omega
  have hpn : a / 4096 < n := by omega
  have HSE := Vx.hid (seen_any h (a / 4096) hpn)
  have HPW := Vx.hid (fun b wv => pageWord_any b (a % 4096) ho4 wv)
  have HPO : Hid (a = 4096 * (a / 4096) + a % 4096 ∧ a % 4096 + 4 ≤ 4096) := ⟨hpo, ho4⟩
  generalize a / 4096 = p at HSP HSE HPO
  generalize a % 4096 = o at HSP HPW HPO
  clear h hin hn h4 hpo ho4 hpn
  go_enter Tryd.func42, Tryd.ntmps42
  go_wp2_with fail
  refine HC.out.mono ?_
  rintro e w' ⟨rfl, h⟩
  have h2 := h.symm; clear h; subst h2
  go_wp2_with fail
  refine (HSP.out w).mono ?_
  rintro e w' ⟨rfl, h⟩
  have h2 := h.symm; clear h; subst h2
  go_wp2_with fail
  refine HSE.out.mono ?_
  rintro e w1 ⟨b, rfl, hb1, ho1⟩
  have HO1 := Vx.hid ho1
  have hcell : ∀ j, j < 4 → w1.cell? ⟨b, o + j, none⟩ = some (.int .u8 ((f (a + j)).toNat : Int)) := fun j hj => by
    obtain ⟨e1, e2⟩ := HPO.out
    rw [cell_of_row _ _ (o + j) _ _ (0, 0) hb1]
    have := get_rowV f (4096 * p) 4096 (o + j) (by omega)
    rw [show 4096 * p + (o + j) = a + j by omega] at this
    simpa [byteV] using this
  have hc0 := hcell 0 (by decide)
  have hc1 := hcell 1 (by decide)
  have hc2 := hcell 2 (by decide)
  have hc3 := hcell 3 (by decide)
  simp only [Nat.add_zero] at hc0
  have HPF : Hid (∀ k, partF f a k = partF f a k) := fun _ => rfl
  have l0 := (f a).toNat_lt
  have l1 := (f (a + 1)).toNat_lt
  have l2 := (f (a + 2)).toNat_lt
  have l3 := (f (a + 3)).toNat_lt
  have HP1 : Hid (partF f a 1 = (f a).toNat ∧ partF f a 2 = (f a).toNat + 256 * (f (a + 1)).toNat ∧ partF f a 3 = (f a).toNat + 256 * (f (a + 1)).toNat + 65536 * (f (a + 2)).toNat ∧ wordF f a = (f a).toNat + 256 * (f (a + 1)).toNat + 65536 * (f (a + 2)).toNat + 16777216 * (f (a + 3)).toNat) := ⟨rfl, rfl, rfl, rfl⟩
  generalize (f a).toNat = c0 at *
  generalize (f (a + 1)).toNat = c1 at *
  generalize (f (a + 2)).toNat = c2 at *
  generalize (f (a + 3)).toNat = c3 at *
  clear hcell hb1 ho1
  go_wp2_with fail
  refine (HPW.out b w1).mono ?_
  rintro e w' ⟨rfl, h⟩
  have h2 := h.symm; clear h; subst h2
  go_wp2_with fail
  go_loopw [8, 31] (fun v i wr => ∃ k : Nat, i = .int .i64 (k : Int) ∧ k ≤ 4 ∧ v = .int .u32 (partF f a k : Nat) ∧ wr = w1) (fun _ i _ => 4 - (intOf i).toNat)
  case atStart => exact ⟨0, rfl, by omega, rfl, rfl⟩
  case round =>
    obtain ⟨k, rfl, hk, rfl, rfl⟩ := hrel
    have hcs : k = 0 ∨ k = 1 ∨ k = 2 ∨ k = 3 ∨ k = 4 := by omega
    rcases hcs with rfl | rfl | rfl | rfl | rfl
    · have hb : bits .or .u32 ((partF f a 0 : Nat) : Int) (c0 : Int) = ((partF f a 1 : Nat) : Int) := by
        rw [HP1.out.1]
        show bits .or .u32 (0 : Int) (c0 : Int) = _
        rw [u32_join_low 0 1 (c0 : Int) 0 rfl (by decide) (by omega)]; omega
      go_wp2_with fail
      exact ⟨⟨1, rfl, by omega, rfl, trivial⟩, by simp [intOf]⟩
    · have hb : bits .or .u32 ((partF f a 1 : Nat) : Int) ((c1 : Int) * 256) = ((partF f a 2 : Nat) : Int) := by
        rw [HP1.out.1, HP1.out.2.1, u32_join_low 8 256 ((c1 : Int) * 256) (c0 : Int) rfl (by decide) (by omega)]; omega
      go_wp2_with fail
      exact ⟨⟨2, rfl, by omega, rfl, trivial⟩, by simp [intOf]⟩
    · have hb : bits .or .u32 ((partF f a 2 : Nat) : Int) ((c2 : Int) * 65536) = ((partF f a 3 : Nat) : Int) := by
        rw [HP1.out.2.1, HP1.out.2.2.1, u32_join_low 16 65536 ((c2 : Int) * 65536) ((c0 + 256 * c1 : Nat) : Int) rfl (by decide) (by omega)]; omega
      go_wp2_with fail
      exact ⟨⟨3, rfl, by omega, rfl, trivial⟩, by simp [intOf]⟩
    · have hb : bits .or .u32 ((partF f a 3 : Nat) : Int) ((c3 : Int) * 16777216) = ((partF f a 4 : Nat) : Int) := by
        show _ = ((wordF f a : Nat) : Int)
        rw [HP1.out.2.2.1, HP1.out.2.2.2, u32_join_low 24 16777216 ((c3 : Int) * 16777216) ((c0 + 256 * c1 + 65536 * c2 : Nat) : Int) rfl (by decide) (by omega)]; omega
      go_wp2_with fail
      exact ⟨⟨4, rfl, by omega, rfl, trivial⟩, by simp [intOf]⟩
    · go_wp2_with fail
      all_goals
        go_ret2
        exact ⟨rfl, HO1.out⟩
end Go.Proofs.YtflmobffeeocdaaDoor

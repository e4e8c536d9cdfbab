/- Walks of the scripts: pick, near, place, page; the state of a script. -/
import Derived.Test.YtflmobffeeocdaaGreatDoorS7
import Derived.Test.YtflmobffeeocdaaGreatDoorM6
import Derived.Deep.RegionHeld3
namespace Go.Proofs.YtflmobffeeocdaaGreatDoor
open Go.ChangeShapes Go.WideShapes Go.ChangeAt Go.RowKit
open Go.Vx

/-- The number that pick makes. -/
def pickL (n : Int) (m : Nat) : Nat := (if n < 0 then (-(n + 1)).toNat else n.toNat) % m
theorem pickL_any (m : Nat) (hm : 1 ≤ m) (hm2 : m ≤ 2097152) (n : Int) (h0 : -9223372036854775808 ≤ n) (h1 : n ≤ 9223372036854775807) (w : World) :
    Calls Tryz.prog 24 #[.int .i64 n, .int .i64 (m : Int)] w fun e w' => e = .returned (.int .i64 (pickL n m : Nat)) ∧ w' = w := by
  have hz : ¬ (m : Int) = 0 := by omega
  have hz1 : ¬ (m : Int) = -1 := by omega
  by_cases hn : n < 0
  · have hr : -(n + 1).tmod (m : Int) = (pickL n m : Nat) := by
      rw [← Int.neg_tmod, Int.tmod_eq_emod_of_nonneg (by omega)]
      unfold pickL
      rw [if_pos hn, Int.natCast_emod, Int.toNat_of_nonneg (by omega)]
    have HR := Vx.hid hr
    clear hr
    generalize pickL n m = k at HR
    go_enter Tryz.func24, Tryz.ntmps24
    go_wp2
    all_goals
      go_ret
      refine ⟨?_, rfl⟩
      show Ending.returned (Value.int .i64 (-(n + 1).tmod (m : Int))) = _
      rw [HR.out]
  · have hr : n.tmod (m : Int) = (pickL n m : Nat) := by
      rw [Int.tmod_eq_emod_of_nonneg (by omega)]
      unfold pickL
      rw [if_neg hn, Int.natCast_emod, Int.toNat_of_nonneg (by omega)]
    have hk : (pickL n m) < m := Nat.mod_lt _ (by omega)
    generalize pickL n m = k at hr hk
    have hw3 : IntKind.i64.wrap (k : Int) = (k : Int) := by rw [IntKind.wrap_i64]; omega
    go_enter Tryz.func24, Tryz.ntmps24
    go_wp2
    all_goals
      go_ret
      first | exact ⟨rfl, rfl⟩ | skip
/-- A number of 64 bits. -/
def I64 (n : Int) : Prop := -9223372036854775808 ≤ n ∧ n ≤ 9223372036854775807
def nearF (c : Int) (n : Nat) : Int := if c.tmod 31 = 30 then c else (pickL c (n + 2) : Nat) - 1
theorem near_i64 {c : Int} (h : I64 c) (n : Nat) (hn : n ≤ 1048576) : I64 (nearF c n) := by
  unfold nearF
  split
  · exact h
  · have : pickL c (n + 2) < n + 2 := Nat.mod_lt _ (by omega)
    unfold I64
    omega
theorem near_any (c : Int) (h : I64 c) (n : Nat) (hn : n ≤ 1048576) (w : World) :
    Calls Tryz.prog 11 #[.int .i64 c, .int .i64 (n : Int)] w fun e w' => e = .returned (.int .i64 (nearF c n)) ∧ w' = w := by
  obtain ⟨h0, h1⟩ := h
  by_cases h3 : c.tmod 31 = 30
  · have HN : Hid (nearF c n = c) := if_pos h3
    go_enter Tryz.func11, Tryz.ntmps11
    go_wp2_with fail
    all_goals
      go_ret
      rw [HN.out]
      exact ⟨rfl, rfl⟩
  · have HN : Hid (nearF c n = (pickL c (n + 2) : Nat) - 1) := if_neg h3
    have HP := Vx.hid (pickL_any (n + 2) (by omega) (by omega) c h0 h1)
    have hk : pickL c (n + 2) < n + 2 := Nat.mod_lt _ (by omega)
    generalize pickL c (n + 2) = k at HP HN hk
    obtain ⟨m, hm⟩ : ∃ m, m = n + 2 := ⟨_, rfl⟩
    rw [← hm] at HP
    have e1 : (n : Int) + 2 = (m : Int) := by omega
    have w1 : IntKind.i64.wrap (m : Int) = (m : Int) := by rw [IntKind.wrap_i64]; omega
    have w2 : IntKind.i64.wrap ((k : Int) - 1) = (k : Int) - 1 := by rw [IntKind.wrap_i64]; omega
    clear hm hk
    go_enter Tryz.func11, Tryz.ntmps11
    go_wp2_with fail
    refine (HP.out _).mono ?_
    rintro e w' ⟨rfl, h⟩
    have h3 := h.symm; clear h; subst h3
    go_wp2_with fail
    all_goals
      go_ret
      rw [HN.out]
      exact ⟨rfl, rfl⟩
/-- Where a script stands: the store's two memories, each with its bytes. -/
structure StAt (U : Nat → Prop) (w : World) (sb bm br bb n : Nat) (f g : Nat → UInt8) : Prop where
  c0 : w.cell? ⟨sb, 0, none⟩ = some (.pointer (some ⟨bm, 0, none⟩))
  c1 : w.cell? ⟨sb, 1, none⟩ = some (.pointer (some ⟨br, 0, none⟩))
  sbl : sb < w.heap.size
  m : MemAt U w bm n f
  r : RefAt w br bb n g
  us : U sb
  ur : U br
  ub : U bb
  ne : sb ≠ bb
theorem StAt.only {U : Nat → Prop} {w w' : World} {sb bm br bb n : Nat} {f g : Nat → UInt8} (h : StAt U w sb bm br bb n f g) (ho : Only (fun _ => False) w w') : StAt U w' sb bm br bb n f g :=
  ⟨by rw [ho.cell (p := ⟨sb, 0, none⟩) h.sbl (fun h => h)]; exact h.c0, by rw [ho.cell (p := ⟨sb, 1, none⟩) h.sbl (fun h => h)]; exact h.c1, Nat.lt_of_lt_of_le h.sbl ho.size, h.m.only ho (fun _ h _ => h.elim), h.r.only ho (fun h => h) (fun h => h), h.us, h.ur, h.ub, h.ne⟩
theorem StAt.mem {U : Nat → Prop} {w w' : World} {sb bm br bb n : Nat} {f f' g : Nat → UInt8} (h : StAt U w sb bm br bb n f g) (ho : Only (fun k => ¬ U k) w w') (hm : MemAt U w' bm n f') : StAt U w' sb bm br bb n f' g :=
  ⟨by rw [ho.cell (p := ⟨sb, 0, none⟩) h.sbl (fun hn => hn h.us)]; exact h.c0, by rw [ho.cell (p := ⟨sb, 1, none⟩) h.sbl (fun hn => hn h.us)]; exact h.c1, Nat.lt_of_lt_of_le h.sbl ho.size, hm, h.r.only ho (fun hn => hn h.ur) (fun hn => hn h.ub), h.us, h.ur, h.ub, h.ne⟩
theorem StAt.ref {U : Nat → Prop} {w w' : World} {sb bm br bb n : Nat} {f g g' : Nat → UInt8} (h : StAt U w sb bm br bb n f g) (ho : Only (fun k => k = bb) w w') (hr : RefAt w' br bb n g') : StAt U w' sb bm br bb n f g' :=
  ⟨by rw [ho.cell (p := ⟨sb, 0, none⟩) h.sbl h.ne]; exact h.c0, by rw [ho.cell (p := ⟨sb, 1, none⟩) h.sbl h.ne]; exact h.c1, Nat.lt_of_lt_of_le h.sbl ho.size, h.m.only ho (fun k hk _ => by rw [hk]; exact h.ub), hr, h.us, h.ur, h.ub, h.ne⟩
/-- One more block beside it. -/
theorem StAt.beside {U : Nat → Prop} {w : World} {sb bm br bb n : Nat} {f g : Nat → UInt8} (h : StAt U w sb bm br bb n f g) (o : Obj) : StAt (fun k => U k ∨ k = w.heap.size) (w.alloc o) sb bm br bb n f g := by
  have ho : Only (fun _ => False) w (w.alloc o) := (Only.refl _ w).alloc o
  exact ⟨by rw [ho.cell (p := ⟨sb, 0, none⟩) h.sbl (fun h => h)]; exact h.c0, by rw [ho.cell (p := ⟨sb, 1, none⟩) h.sbl (fun h => h)]; exact h.c1, Nat.lt_of_lt_of_le h.sbl ho.size, h.m.beside o, h.r.only ho (fun h => h) (fun h => h), Or.inl h.us, Or.inl h.ur, Or.inl h.ub, h.ne⟩
/-- A step of a script in a block. -/
structure OpAt (w : World) (ob : Nat) (K A B C D : Int) (s : List UInt8) : Prop where
  o : w.heap[ob]? = some (.cells #[.int .i64 K, .int .i64 A, .int .i64 B, .int .i64 C, .int .i64 D, .string ⟨s.toArray⟩] 51 (0, 0))
theorem OpAt.only {S : Nat → Prop} {w w' : World} {ob : Nat} {K A B C D : Int} {s : List UInt8} (h : OpAt w ob K A B C D s) (ho : Only S w w') (hS : ¬ S ob) : OpAt w' ob K A B C D s :=
  ⟨by rw [ho.block ob (lt_of_some h.o) hS]; exact h.o⟩
theorem OpAt.cells {w : World} {ob : Nat} {K A B C D : Int} {s : List UInt8} (h : OpAt w ob K A B C D s) : w.cell? ⟨ob, 1, none⟩ = some (.int .i64 A) ∧ w.cell? ⟨ob, 2, none⟩ = some (.int .i64 B) ∧ w.cell? ⟨ob, 3, none⟩ = some (.int .i64 C) ∧ w.cell? ⟨ob, 5, none⟩ = some (.string ⟨s.toArray⟩) := by
  refine ⟨?_, ?_, ?_, ?_⟩
  · rw [cell_of_row _ _ 1 _ _ (0, 0) h.o]; rfl
  · rw [cell_of_row _ _ 2 _ _ (0, 0) h.o]; rfl
  · rw [cell_of_row _ _ 3 _ _ (0, 0) h.o]; rfl
  · rw [cell_of_row _ _ 5 _ _ (0, 0) h.o]; rfl
theorem place_any {U : Nat → Prop} {w : World} {sb bm br bb n : Nat} {f g : Nat → UInt8} (h : StAt U w sb bm br bb n f g) (a : Int) (ha : I64 a) :
    Calls Tryz.prog 26 #[.pointer (some ⟨sb, 0, none⟩), .int .i64 a] w fun e w' => e = .returned (.int .i64 (nearF a (4096 * n))) ∧ w' = w := by
  have hc1 := h.c1
  have hcr := h.r.cr
  have hn := h.r.top
  have HN := Vx.hid (near_any a ha (4096 * n) (by omega) w)
  obtain ⟨N, hN⟩ : ∃ N, N = 4096 * n := ⟨_, rfl⟩
  rw [← hN] at hcr HN ⊢
  clear h hn hN
  go_enter Tryz.func26, Tryz.ntmps26
  go_wp2_with fail
  refine HN.out.mono ?_
  rintro e w' ⟨rfl, h⟩
  have h3 := h.symm; clear h; subst h3
  go_wp2_with fail
  all_goals
    go_ret
    exact ⟨rfl, rfl⟩
theorem pageL_any {U : Nat → Prop} {w : World} {sb bm br bb n : Nat} {f g : Nat → UInt8} (h : StAt U w sb bm br bb n f g) (a : Int) (ha : I64 a) :
    Calls Tryz.prog 33 #[.pointer (some ⟨sb, 0, none⟩), .int .i64 a] w fun e w' => e = .returned (.int .i64 (nearF a n)) ∧ w' = w := by
  have hc1 := h.c1
  have hcr := h.r.cr
  have hn := h.r.top
  have HN := Vx.hid (near_any a ha n (by omega) w)
  obtain ⟨N, hN⟩ : ∃ N, N = 4096 * n := ⟨_, rfl⟩
  rw [← hN] at hcr
  have q1 : Int.tdiv (N : Int) 4096 = (n : Int) := by rw [Int.tdiv_eq_ediv_of_nonneg (by omega)]; omega
  have q2 : (N : Int) / 4096 = (n : Int) := by omega
  have q3 : IntKind.i64.wrap (n : Int) = (n : Int) := by rw [IntKind.wrap_i64]; omega
  clear h hn hN
  go_enter Tryz.func33, Tryz.ntmps33
  go_wp2_with fail
  refine HN.out.mono ?_
  rintro e w' ⟨rfl, h⟩
  have h3 := h.symm; clear h; subst h3
  go_wp2_with fail
  all_goals
    go_ret
    exact ⟨rfl, rfl⟩
end Go.Proofs.YtflmobffeeocdaaGreatDoor

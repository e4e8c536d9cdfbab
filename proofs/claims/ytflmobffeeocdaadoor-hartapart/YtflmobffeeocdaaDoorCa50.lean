import Derived.Test.YtflmobffeeocdaaDoorCa49
import Derived.Test.YtflmobffeeocdaaDoorCa46
import Derived.Test.YtflmobffeeocdaaDoorCa26
/- HartApart's walk. -/
namespace Go.Proofs.YtflmobffeeocdaaDoor
open Go.ChangeShapes Go.WideShapes Go.ChangeAt Go.RowKit
open Go.Vx
set_option linter.unusedVariables false

theorem store_lay (w1 : World) (H : Nat → Nat × Nat) : (storeCells ⟨w1.heap.size, 0, none⟩ (hvL H) 0).run Tryd.prog (w1.alloc (.cells #[.int .i64 0, .int .i64 0, .int .i64 0, .int .i64 0, .int .i64 0, .int .i64 0, .int .i64 0, .int .i64 0, .int .i64 0, .int .i64 0, .int .i64 0, .int .i64 0, .int .i64 0, .int .i64 0, .int .i64 0, .int .i64 0, .int .i64 0, .int .i64 0, .int .i64 0, .int .i64 0, .int .i64 0, .int .i64 0, .int .i64 0, .int .i64 0, .int .i64 0, .int .i64 0, .int .i64 0, .int .i64 0, .int .i64 0, .int .i64 0, .int .i64 0, .int .i64 0, .int .i64 0, .int .i64 0, .int .i64 0, .int .i64 0] 30)) = .ok () (w1.alloc (.cells (hvL H).toArray 30)) := by
  rw [← hvL_zero]
  exact run_storeCells_new (P := Tryd.prog) w1 30 (hvL (fun _ => (0, 0))).toArray (hvL H).toArray (by rw [infoLay, List.size_toArray, length_hvL]) (by rw [List.size_toArray, List.size_toArray, length_hvL, length_hvL]) (by simpa using oneCell_hv H)
theorem LaAt.below {B : Nat} {w w' : World} {pa : Option Addr} {zs : List (Int × Int × Int)} (h : LaAt w pa zs) (hb : Below w.heap.size w w') : LaAt w' pa zs := by
  rcases h with h | ⟨ab, ao, he, h⟩
  · exact Or.inl h
  · refine Or.inr ⟨ab, ao, he, fun j hj => ?_⟩
    obtain ⟨h0, h1, h2⟩ := h j hj
    have hab : ab < w.heap.size := World.block_lt_of_cell? w _ h0
    refine ⟨?_, ?_, ?_⟩
    · rw [hb.cell (p := ⟨ab, _, none⟩) hab]; exact h0
    · rw [hb.cell (p := ⟨ab, _, none⟩) hab]; exact h1
    · rw [hb.cell (p := ⟨ab, _, none⟩) hab]; exact h2
theorem boL_zero : (boL (fun _ => false)).toArray = #[.bool false, .bool false, .bool false, .bool false, .bool false, .bool false, .bool false, .bool false, .bool false, .bool false, .bool false, .bool false] := rfl
theorem ApR.start {W w0 w1 w2 w3 w4 : World} {b1 b2 : Nat} {H : Nat → Nat × Nat} {R : Nat → Nat} {pc : Nat} (e0 : w0 = W.alloc (.cells (ctxL R pc).toArray 26)) (hb1 : Below w0.heap.size w0 w1) (hm1 : MemAt (fun k => k < w0.heap.size) w1 b1 12 (laidF H)) (e2 : w2 = w1.alloc (.cells (hvL H).toArray 30)) (hb3 : Below w2.heap.size w2 w3) (hm2 : MemAt (fun k => k < w2.heap.size) w3 b2 12 (laidF H)) (o1 : Obj) (e4 : w4 = ((w3.alloc o1).alloc (.cells (boL (fun _ => false)).toArray 33)).alloc (.cells (boL (fun _ => false)).toArray 33)) :
    ∃ V, ApR W V b1 b2 w1.heap.size (w3.heap.size + 1) (w3.heap.size + 1 + 1) W.heap.size H (fun _ => false) (fun _ => false) (laidF H) (laidF H) R pc w4 := by
  have s0 : w0.heap.size = W.heap.size + 1 := by rw [e0]; simp
  have s2 : w2.heap.size = w1.heap.size + 1 := by rw [e2]; simp
  have s4 : w4.heap.size = w3.heap.size + 3 := by rw [e4]; simp
  have z1 := hb1.size
  have z3 := hb3.size
  have o34 : Only (fun _ => False) w3 w4 := by rw [e4]; exact (((Only.refl _ w3).alloc _).alloc _).alloc _
  have o12 : Only (fun _ => False) w1 w2 := by rw [e2]; exact (Only.refl _ w1).alloc _
  have o23 : Only (fun _ => False) w2 w3 := Only.of_below hb3 (fun k hk hB => by omega)
  have o01 : Only (fun _ => False) w0 w1 := Only.of_below hb1 (fun k hk hB => by omega)
  have o0 : Only (fun _ => False) W w0 := by rw [e0]; exact (Only.refl _ W).alloc _
  have oA := ((o0.trans o01).trans o12).trans (o23.trans o34)
  have hm1' := hm1.beside (.cells (hvL H).toArray 30)
  rw [← e2] at hm1'
  have ht := (Two.start hm1' hb3 hm2).wide o34 (fun _ _ h => h.elim)
  have hh : w2.heap[w1.heap.size]? = some (.cells (hvL H).toArray 30 (0, 0)) := by rw [e2]; exact heap_alloc_last _ _
  have hc : w0.heap[W.heap.size]? = some (.cells (ctxL R pc).toArray 26 (0, 0)) := by rw [e0]; exact heap_alloc_last _ _
  refine ⟨_, ⟨ht, ⟨((o23.trans o34).block _ (lt_of_some hh) (fun h => h)).trans hh⟩, ⟨?_⟩, ⟨?_⟩, ⟨(((o01.trans o12).trans (o23.trans o34)).block _ (lt_of_some hc) (fun h => h)).trans hc⟩, ⟨Or.inl (Or.inr rfl), Or.inr ⟨by omega, by omega⟩, Or.inr ⟨by omega, by omega⟩, Or.inl (Or.inl (by omega))⟩, ⟨by omega, by omega, by omega, by omega, by omega, by omega⟩, fun k hk => Or.inl (Or.inl (by omega)), oA.below (Nat.le_refl _) (fun _ _ h => h), ⟨by omega, by omega, by omega, by omega⟩⟩⟩
  · rw [e4, Below.heap_alloc _ _ _ (by simp)]
    have h := heap_alloc_last (w3.alloc o1) (.cells (boL (fun _ => false)).toArray 33)
    rw [show (w3.alloc o1).heap.size = w3.heap.size + 1 by simp] at h
    exact h
  · rw [e4]
    have h := heap_alloc_last ((w3.alloc o1).alloc (.cells (boL (fun _ => false)).toArray 33)) (.cells (boL (fun _ => false)).toArray 33)
    rw [show ((w3.alloc o1).alloc (.cells (boL (fun _ => false)).toArray 33)).heap.size = w3.heap.size + 1 + 1 by simp] at h
    exact h
end Go.Proofs.YtflmobffeeocdaaDoor

/- HartApart: writes and reads of either memory. -/
namespace Go.Proofs.YtflmobffeeocdaaDoor
open Go.ChangeShapes Go.WideShapes Go.ChangeAt Go.RowKit
open Go.Vx
set_option linter.unusedVariables false

theorem Two.write {V : Nat → Prop} {w : World} {b1 b2 : Nat} {f1 f2 : Nat → UInt8} (h : Two V w b1 b2 12 f1 f2) (at' : Nat) (s : List UInt8) (hin : at' + s.length ≤ 49152) :
    Calls Tryd.prog 6 #[.pointer (some ⟨b1, 0, none⟩), .int .i64 (at' : Int), .string ⟨s.toArray⟩] w fun e w' => e = .returned (.int .i64 0) ∧ Two V w' b1 b2 12 (putF f1 at' s) f2 ∧ Only (fun k => ¬ V k) w w' := by
  obtain ⟨U, hm, hU, hT⟩ := h.left
  obtain ⟨bp, q, hm'⟩ := hm
  refine (write_ok hm' at' s (by omega)).mono ?_
  rintro e w' ⟨rfl, h1, ho⟩
  exact ⟨rfl, hT w' _ _ ho (fun k _ hs => Or.inl hs) h1, ho.mono (fun k _ hs hv => hs (hU k hv))⟩
theorem ApR.write1 {W : World} {V : Nat → Prop} {b1 b2 hb sn op cb : Nat} {H : Nat → Nat × Nat} {g1 g2 : Nat → Bool} {f1 f2 : Nat → UInt8} {R : Nat → Nat} {pc : Nat} {wr : World} (h : ApR W V b1 b2 hb sn op cb H g1 g2 f1 f2 R pc wr) (at' : Nat) (s : List UInt8) (hin : at' + s.length ≤ 49152) :
    Calls Tryd.prog 6 #[.pointer (some ⟨b1, 0, none⟩), .int .i64 (at' : Int), .string ⟨s.toArray⟩] wr fun e w' => e = .returned (.int .i64 0) ∧ ApR W V b1 b2 hb sn op cb H g1 g2 (putF f1 at' s) f2 R pc w' := by
  refine (h.two.write at' s hin).mono ?_
  rintro e w' ⟨rfl, ht, ho⟩
  exact ⟨rfl, h.fst ht ho⟩
theorem ApR.write2 {W : World} {V : Nat → Prop} {b1 b2 hb sn op cb : Nat} {H : Nat → Nat × Nat} {g1 g2 : Nat → Bool} {f1 f2 : Nat → UInt8} {R : Nat → Nat} {pc : Nat} {wr : World} (h : ApR W V b1 b2 hb sn op cb H g1 g2 f1 f2 R pc wr) (at' : Nat) (s : List UInt8) (hin : at' + s.length ≤ 49152) :
    Calls Tryd.prog 6 #[.pointer (some ⟨b2, 0, none⟩), .int .i64 (at' : Int), .string ⟨s.toArray⟩] wr fun e w' => e = .returned (.int .i64 0) ∧ ApR W V b1 b2 hb sn op cb H g1 g2 f1 (putF f2 at' s) R pc w' := by
  refine (h.two.symm.write at' s hin).mono ?_
  rintro e w' ⟨rfl, ht, ho⟩
  exact ⟨rfl, h.fst ht.symm ho⟩
theorem ApR.read1 {W : World} {V : Nat → Prop} {b1 b2 hb sn op cb : Nat} {H : Nat → Nat × Nat} {g1 g2 : Nat → Bool} {f1 f2 : Nat → UInt8} {R : Nat → Nat} {pc : Nat} {wr : World} (h : ApR W V b1 b2 hb sn op cb H g1 g2 f1 f2 R pc wr) :
    Calls Tryd.prog 7 #[.pointer (some ⟨b1, 0, none⟩), .int .i64 0, .int .i64 49152] wr fun e w' => e = .returned (.tuple #[.string ⟨(rowL f1 0 49152).toArray⟩, .int .i64 0]) ∧ ApR W V b1 b2 hb sn op cb H g1 g2 f1 f2 R pc w' := by
  obtain ⟨U, hm, hU, hT⟩ := h.two.left
  refine (read_ok hm 0 49152 (by decide)).mono ?_
  rintro e w' ⟨rfl, ho⟩
  exact ⟨rfl, h.only ho⟩
end Go.Proofs.YtflmobffeeocdaaDoor

/- Chapter 6, pure: what a step leaves is a context again. -/
namespace Go.Vx
theorem sums_lt (op a b : Nat) (ha : a < 4294967296) (hb : b < 4294967296) : sumsF op a b < 4294967296 := by
  have h1 : a ^^^ b < 2 ^ 32 := Nat.xor_lt_two_pow (by omega) (by omega)
  have h2 : a ||| b < 2 ^ 32 := Nat.or_lt_two_pow (by omega) (by omega)
  have h3 : a &&& b < 2 ^ 32 := Nat.and_lt_two_pow _ (by omega)
  have h4 : a / 2 ^ (b % 32) ≤ a := Nat.div_le_self _ _
  unfold sumsF
  by_cases c1 : op = 28
  · rw [if_pos c1]; exact m32_lt _
  rw [if_neg c1]
  by_cases c2 : op = 29
  · rw [if_pos c2]; exact m32_lt _
  rw [if_neg c2]
  by_cases c3 : op = 30
  · rw [if_pos c3]; exact m32_lt _
  rw [if_neg c3]
  by_cases c4 : op = 31
  · rw [if_pos c4]; split <;> decide
  rw [if_neg c4]
  by_cases c5 : op = 32
  · rw [if_pos c5]; split <;> decide
  rw [if_neg c5]
  by_cases c6 : op = 33
  · rw [if_pos c6]; exact h1
  rw [if_neg c6]
  by_cases c7 : op = 34
  · rw [if_pos c7]; exact Nat.lt_of_le_of_lt h4 ha
  rw [if_neg c7]
  by_cases c8 : op = 35
  · rw [if_pos c8]; exact m32_lt _
  rw [if_neg c8]
  by_cases c9 : op = 36
  · rw [if_pos c9]; exact h2
  rw [if_neg c9]; exact h3
theorem prod_lt (op a b : Nat) (ha : a < 4294967296) : prodF op a b < 4294967296 := by
  have h4 : a / b ≤ a := Nat.div_le_self _ _
  have h5 : a % b ≤ a := Nat.mod_le _ _
  unfold prodF
  by_cases c1 : op = 41
  · rw [if_pos c1]; exact m32_lt _
  rw [if_neg c1]
  by_cases c2 : op = 42
  · rw [if_pos c2]; exact m32_lt _
  rw [if_neg c2]
  by_cases c3 : op = 43
  · rw [if_pos c3]; exact m32_lt _
  rw [if_neg c3]
  by_cases c4 : op = 44
  · rw [if_pos c4]; exact m32_lt _
  rw [if_neg c4]
  by_cases c5 : b = 0
  · rw [if_pos c5]; split
    · decide
    · exact ha
  rw [if_neg c5]
  by_cases c6 : op = 45
  · rw [if_pos c6]; exact m32_lt _
  rw [if_neg c6]
  by_cases c7 : op = 46
  · rw [if_pos c7]; exact Nat.lt_of_le_of_lt h4 ha
  rw [if_neg c7]
  by_cases c8 : op = 47
  · rw [if_pos c8]; exact m32_lt _
  rw [if_neg c8]; exact Nat.lt_of_le_of_lt h5 ha
theorem arith_lt (op a b : Nat) (ha : a < 4294967296) (hb : b < 4294967296) : arithF op a b < 4294967296 := by
  unfold arithF
  split
  · exact sums_lt _ a b ha hb
  · exact prod_lt _ a b ha
theorem val_lt (op a b : Nat) (im : Int) (pc : Nat) (ha : a < 4294967296) (hb : b < 4294967296) : valF op a b im pc < 4294967296 := by
  unfold valF
  by_cases c1 : op = 1
  · rw [if_pos c1]; exact m32_lt _
  rw [if_neg c1]
  by_cases c2 : op = 2
  · rw [if_pos c2]; exact m32_lt _
  rw [if_neg c2]
  by_cases c3 : op = 3 ∨ op = 4
  · rw [if_pos c3]; exact m32_lt _
  rw [if_neg c3]
  split
  · exact arith_lt _ _ _ ha (m32_lt _)
  · exact arith_lt _ _ _ ha hb
theorem to_lt (op a b : Nat) (im : Int) (pc : Nat) : toF op a b im pc < 4294967296 := by
  unfold toF
  by_cases c1 : op = 3
  · rw [if_pos c1]; exact m32_lt _
  rw [if_neg c1]
  by_cases c2 : op = 4
  · rw [if_pos c2]; exact Nat.lt_of_le_of_lt (Nat.sub_le _ _) (m32_lt _)
  rw [if_neg c2]
  split <;> exact m32_lt _
/-- Registers and a pc of 32 bits. -/
def RegOk (R : Nat → Nat) (pc : Nat) : Prop := (∀ i, i < 32 → R i < 4294967296) ∧ pc < 4294967296
theorem RegOk.set {R : Nat → Nat} {pc : Nat} (h : RegOk R pc) (rd v pc' : Nat) (hv : v < 4294967296) (hp : pc' < 4294967296) : RegOk (setR R rd v) pc' ∧ setR R rd v 0 = R 0 := by
  refine ⟨⟨fun i hi => ?_, hp⟩, ?_⟩
  · unfold setR
    by_cases h0 : rd = 0
    · rw [if_pos h0]; exact h.1 i hi
    · rw [if_neg h0]
      show (if i = rd then v else R i) < _
      split
      · exact hv
      · exact h.1 i hi
  · unfold setR
    by_cases h0 : rd = 0
    · rw [if_pos h0]
    · rw [if_neg h0]
      exact if_neg (fun e => h0 e.symm)
end Go.Vx
namespace Go.Proofs.YtflmobffeeocdaaDoor
open Go.ChangeShapes Go.WideShapes Go.ChangeAt Go.RowKit
open Go.Vx

theorem ld_lt (op : Nat) (f : Nat → UInt8) (p : Nat) : ldF op (partF f p (bytesF op)) < 4294967296 := by
  have h0 := (f p).toNat_lt
  have h1 := (f (p + 1)).toNat_lt
  unfold ldF
  by_cases c1 : op = 11 ∧ 128 ≤ partF f p (bytesF op)
  · rw [if_pos c1]
    obtain ⟨rfl, _⟩ := c1
    show (f p).toNat + 4294967296 - 256 < 4294967296
    omega
  · rw [if_neg c1]
    by_cases c2 : op = 12 ∧ 32768 ≤ partF f p (bytesF op)
    · rw [if_pos c2]
      obtain ⟨rfl, _⟩ := c2
      show (f p).toNat + 256 * (f (p + 1)).toNat + 4294967296 - 65536 < 4294967296
      omega
    · rw [if_neg c2]; exact partF_lt _ _ _
theorem exe_ok {f : Nat → UInt8} {n : Nat} {root : Int} {R : Nat → Nat} {pc op rd a b : Nat} {im : Int} (h : RegOk R pc) (ha : a < 4294967296) (hb : b < 4294967296) {f' : Nat → UInt8} {R' : Nat → Nat} {pc' : Nat} (he : exeF f n root R pc op rd a b im = .ok (f', R', pc')) : RegOk R' pc' ∧ R' 0 = R 0 := by
  unfold exeF at he
  split at he
  · cases he
  · split at he
    · cases he
    · split at he
      · unfold loadG at he
        split at he
        · cases he
        · injection he with he
          injection he with e1 e2
          injection e2 with e2 e3
          subst e2 e3
          exact h.set rd _ _ (ld_lt _ _ _) (m32_lt _)
      · split at he
        · unfold storeG at he
          split at he
          · cases he
          · injection he with he
            injection he with e1 e2
            injection e2 with e2 e3
            subst e2 e3
            exact ⟨⟨h.1, m32_lt _⟩, rfl⟩
        · unfold plainG at he
          split at he
          · cases he
          · injection he with he
            injection he with e1 e2
            injection e2 with e2 e3
            subst e2 e3
            exact h.set _ _ _ (val_lt _ _ _ _ _ ha hb) (to_lt _ _ _ _ _)
theorem regF_lt {R : Nat → Nat} {pc : Nat} (h : RegOk R pc) (r : Nat) (hr : r < 32) : regF R r < 4294967296 := by
  unfold regF
  split
  · decide
  · exact h.1 r hr
theorem step_ok {f : Nat → UInt8} {n : Nat} {root : Int} {R : Nat → Nat} {pc : Nat} (h : RegOk R pc) {f' : Nat → UInt8} {R' : Nat → Nat} {pc' : Nat} (he : stepF f n root R pc = .ok (f', R', pc')) : RegOk R' pc' ∧ R' 0 = R 0 := by
  unfold stepF at he
  cases hp : placeF f n root pc 4 0 with
  | error e => rw [hp] at he; cases he
  | ok p =>
    rw [hp] at he
    by_cases hz : (dec (wordF f p : Nat)).op = 0
    · have : decG f n root R pc (.ok p) = .error (2, wordF f p) := if_pos hz
      rw [this] at he; cases he
    · obtain ⟨op, rd, r1, r2, im, hi⟩ := dec_is (wordF f p) (wordF_lt f p) hz
      rw [decG_ok hi] at he
      exact exe_ok h (regF_lt h r1 hi.hr1) (regF_lt h r2 hi.hr2) he
end Go.Proofs.YtflmobffeeocdaaDoor

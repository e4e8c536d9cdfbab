/- Walks of the document's memory: NewMemory, inside, Read, Word. -/
import Derived.Test.YtflmobffeeocdaaGreatDoorSP
import Derived.Test.YtflmobffeeocdaaGreatDoorS3
namespace Go.Proofs.YtflmobffeeocdaaGreatDoor
open Go.ChangeShapes Go.WideShapes Go.ChangeAt Go.RowKit
open Go.Vx

/-- The document's memory, where it lies. -/
structure RefAt (w : World) (br bb n : Nat) (f : Nat → UInt8) : Prop where
  pos : 1 ≤ n
  top : n ≤ 256
  r : w.heap[br]? = some (.cells #[.slice (some ⟨bb, 0, none⟩) (4096 * n) (4096 * n)] 106 (0, 0))
  b : w.heap[bb]? = some (.cells (rowV f 0 (4096 * n)).toArray 5 (0, 0))
theorem RefAt.only {S : Nat → Prop} {w w' : World} {br bb n : Nat} {f : Nat → UInt8} (h : RefAt w br bb n f) (ho : Only S w w') (h1 : ¬ S br) (h2 : ¬ S bb) : RefAt w' br bb n f :=
  ⟨h.pos, h.top, by rw [ho.block br (lt_of_some h.r) h1]; exact h.r, by rw [ho.block bb (lt_of_some h.b) h2]; exact h.b⟩
theorem RefAt.cr {w : World} {br bb n : Nat} {f : Nat → UInt8} (h : RefAt w br bb n f) : w.cell? ⟨br, 0, none⟩ = some (.slice (some ⟨bb, 0, none⟩) (4096 * n) (4096 * n)) := by
  rw [cell_of_row _ _ 0 _ _ (0, 0) h.r]; rfl
theorem RefAt.cb {w : World} {br bb n : Nat} {f : Nat → UInt8} (h : RefAt w br bb n f) {j : Nat} (hj : j < 4096 * n) : w.cell? ⟨bb, j, none⟩ = some (byteV (f j)) := by
  rw [cell_of_row _ _ j _ _ (0, 0) h.b]
  have := get_rowV f 0 (4096 * n) j hj
  rw [Nat.zero_add] at this
  simpa using this
theorem RefAt.ne {w : World} {br bb n : Nat} {f : Nat → UInt8} (h : RefAt w br bb n f) : br ≠ bb := by
  intro e
  have h1 := h.r
  have h2 := h.b
  rw [← e, h1] at h2
  simp at h2
theorem RefAt.fz {w : World} {br bb n : Nat} {f : Nat → UInt8} (h : RefAt w br bb n f) (j : Nat) : w.frozen? ⟨bb, j, none⟩ = false := by
  have h1 := h.b
  simp [World.frozen?, h1]
/-- One byte of it. -/
theorem RefAt.set1 {w : World} {br bb n : Nat} {f : Nat → UInt8} (h : RefAt w br bb n f) (a : Nat) (v : UInt8) (ha : a < 4096 * n) :
    RefAt (w.setCell ⟨bb, a, none⟩ (byteV v)) br bb n (putF f a [v]) ∧ Only (fun k => k = bb) w (w.setCell ⟨bb, a, none⟩ (byteV v)) := by
  have e : w.setCell ⟨bb, a, none⟩ (byteV v) = w.setRow bb (rowV (putF f a [v]) 0 (4096 * n)).toArray := by
    have := set_row f 0 (4096 * n) a v ha
    rw [Nat.zero_add] at this
    rw [setCell_eq_setRow w bb a _ _ _ _ h.b, ← this]
    simp
  rw [e]
  refine ⟨⟨h.pos, h.top, ?_, setRow_heap w bb _ _ _ _ h.b⟩, only_row w bb _⟩
  rw [setRow_other w bb br _ h.ne]; exact h.r
theorem newRef_no (n : Int) (hn : n < 1 ∨ 256 < n) (w : World) :
    Calls Tryz.prog 18 #[.int .i64 n] w fun e w' => e = .returned (.tuple #[.pointer none, .int .i64 1]) ∧ w' = w := by
  by_cases h1 : n < 1
  · clear hn
    go_enter Tryz.func18, Tryz.ntmps18
    go_wp2
    all_goals
      go_ret2
      exact ⟨rfl, rfl⟩
  · have h2 : 256 < n := by omega
    clear hn
    go_enter Tryz.func18, Tryz.ntmps18
    go_wp2
    all_goals
      go_ret2
      exact ⟨rfl, rfl⟩
theorem newRef_ok (n : Nat) (h1 : 1 ≤ n) (h2 : n ≤ 256) (w : World) :
    Calls Tryz.prog 18 #[.int .i64 (n : Int)] w fun e w' => e = .returned (.tuple #[.pointer (some ⟨w.heap.size + 1, 0, none⟩), .int .i64 0]) ∧ RefAt w' (w.heap.size + 1) w.heap.size n (fun _ => 0) ∧
      ∃ o1 o2, w' = (w.alloc o1).alloc o2 := by
  obtain ⟨N, hN⟩ : ∃ N, N = 4096 * n := ⟨_, rfl⟩
  have hmk := make_bytes N (by omega) w
  have c1 : ¬ (n : Int) < 1 := by omega
  have c2 : ¬ 256 < (n : Int) := by omega
  have hw1 : IntKind.i64.wrap (4096 * (n : Int)) = (N : Int) := by rw [IntKind.wrap_i64]; omega
  have H12 : Hid (1 ≤ n ∧ n ≤ 256 ∧ N = 4096 * n) := ⟨h1, h2, hN⟩
  clear h1 h2 hN
  go_enter Tryz.func18, Tryz.ntmps18
  go_wp2
  all_goals
    go_ret2
    refine ⟨rfl, ⟨H12.out.1, H12.out.2.1, ?_, ?_⟩, _, _, rfl⟩
    · have := heap_alloc_last (w.alloc (.cells (rowV (fun _ => 0) 0 N).toArray 5)) (.cells #[.slice (some ⟨w.heap.size, 0, none⟩) N N] 106)
      rw [← H12.out.2.2]
      simpa using this
    · rw [RowKit.Below.heap_alloc _ _ _ (by simp), ← H12.out.2.2]
      exact heap_alloc_last _ _
theorem inside_any {w : World} {br bb n : Nat} {f : Nat → UInt8} (h : RefAt w br bb n f) (a k : Int) (hk : k ≤ 9223372036854775807) :
    Calls Tryz.prog 58 #[.pointer (some ⟨br, 0, none⟩), .int .i64 a, .int .i64 k] w fun e w' => e = .returned (.bool (insB n a k)) ∧ w' = w := by
  have hcr := h.cr
  have hn := h.top
  obtain ⟨N, hN⟩ : ∃ N, N = 4096 * n := ⟨_, rfl⟩
  rw [← hN] at hcr
  have HT : Hid (insB n a k = (decide (0 ≤ a) && decide (a ≤ (N : Int)) && decide (0 ≤ k) && decide (k ≤ (N : Int) - a))) := by
    show insB n a k = _
    unfold insB
    rw [show (n : Int) * 4096 = (N : Int) by omega]
  have hNb : (N : Int) ≤ 1048576 := by omega
  clear h hN hn
  by_cases c0 : 0 ≤ k
  · have hw1 : IntKind.i64.wrap ((N : Int) - k) = (N : Int) - k := by rw [IntKind.wrap_i64]; omega
    have d0 : decide (0 ≤ k) = true := decide_eq_true c0
    by_cases c1 : 0 ≤ a
    · have d1 : decide (0 ≤ a) = true := decide_eq_true c1
      by_cases c2 : k ≤ (N : Int)
      · have d2 : decide (k ≤ (N : Int)) = true := decide_eq_true c2
        have HB : Hid (insB n a k = decide (a ≤ (N : Int) - k)) := by
          show insB n a k = _
          rw [HT.out, d0, d1, Bool.eq_iff_iff]
          simp
          omega
        go_enter Tryz.func58, Tryz.ntmps58
        go_wp2_with fail
        all_goals
          go_ret
          rw [HB.out]
          refine ⟨?_, rfl⟩
          first | rfl | simp
      · have d2 : decide (k ≤ (N : Int)) = false := decide_eq_false c2
        have HB : Hid (insB n a k = false) := by
          show insB n a k = _
          rw [HT.out, show decide (k ≤ (N : Int) - a) = false from decide_eq_false (by omega), Bool.and_false]
        go_enter Tryz.func58, Tryz.ntmps58
        go_wp2_with fail
        all_goals
          go_ret
          rw [HB.out]
          exact ⟨rfl, rfl⟩
    · have d1 : decide (0 ≤ a) = false := decide_eq_false c1
      have HB : Hid (insB n a k = false) := by
        show insB n a k = _
        rw [HT.out, d1]; rfl
      go_enter Tryz.func58, Tryz.ntmps58
      go_wp2_with fail
      all_goals
        go_ret
        rw [HB.out]
        exact ⟨rfl, rfl⟩
  · have d0 : decide (0 ≤ k) = false := decide_eq_false c0
    have HB : Hid (insB n a k = false) := by
      show insB n a k = _
      rw [HT.out, d0, Bool.and_false, Bool.false_and]
    go_enter Tryz.func58, Tryz.ntmps58
    go_wp2_with fail
    all_goals
      go_ret
      rw [HB.out]
      exact ⟨rfl, rfl⟩
theorem refRead_any {w : World} {br bb n : Nat} {f : Nat → UInt8} (h : RefAt w br bb n f) (a k : Int) (hk : k ≤ 9223372036854775807) :
    Calls Tryz.prog 27 #[.pointer (some ⟨br, 0, none⟩), .int .i64 a, .int .i64 k] w fun e w' => e = .returned (.tuple #[.string ⟨(readF f n a k).1.toArray⟩, .int .i64 ((readF f n a k).2 : Nat)]) ∧ w' = w := by
  have HI := Vx.hid (inside_any h a k hk)
  have hcr := h.cr
  unfold readF
  by_cases hi : insB n a k = true
  · rw [if_pos hi]
    rw [hi] at HI
    obtain ⟨x, y, rfl, rfl, hin⟩ := insB_nat hi
    have hn := h.top
    obtain ⟨N, hN⟩ : ∃ N, N = 4096 * n := ⟨_, rfl⟩
    rw [← hN] at hcr hin
    have hw1 : IntKind.i64.wrap ((x : Int) + (y : Int)) = ((x + y : Nat) : Int) := by rw [IntKind.wrap_i64]; omega
    have hsl : ∃ ad : Addr, (Instr.slice 66 (.slice (some ⟨bb, 0, none⟩) N N) (some (.int .i64 (x : Int))) (some (.int .i64 ((x + y : Nat) : Int))) none).run Tryz.prog w = .ok (.slice (some ad) y (N - x)) w ∧
        (convert 66 9 (.slice (some ad) y (N - x))).run Tryz.prog w = .ok (.string ⟨(rowL f x y).toArray⟩) w := by
      have hu : Tryz.prog.underlying 66 = some (.slice (Tryz.prog.elem 66)) := by kernel_rfl
      have he : Tryz.prog.elem 66 = 5 := by kernel_rfl
      have hsz : (sizeOf 5).run Tryz.prog w = .ok 1 w := by
        have := sizeByte
        cases hq : Tryz.prog.info? 5 with
        | none => rw [hq] at this; simp at this
        | some i => rw [hq] at this; simp at this; simp [sizeOf, typeInfo, hq, this]
      have hr := run_slice_lh w 66 (some ⟨bb, 0, none⟩) N N hu .i64 .i64 (x : Int) ((x + y : Nat) : Int) (by omega) (by omega) (by omega)
      rw [he, hsz] at hr
      simp only [Result.andThen, sliced, Int.toNat_natCast, Nat.mul_one, Option.map_some, addr_add, Nat.zero_add] at hr
      rw [show x + y - x = y by omega] at hr
      have hl := length_rowL f x y
      by_cases hNx : N = x
      · rw [if_pos hNx] at hr
        refine ⟨_, hr, ?_⟩
        have hy : y = 0 := by omega
        have := run_convert_bytes_back (P := Tryz.prog) w 66 9 5 ⟨bb, 0, none⟩ (N - x) (rowL f x y) Tryz.underlying66 Tryz.underlying5 Tryz.underlying9 (fun j hj => by rw [hl] at hj; omega)
        rw [hl] at this
        exact this
      · rw [if_neg hNx] at hr
        refine ⟨_, hr, ?_⟩
        have := run_convert_bytes_back (P := Tryz.prog) w 66 9 5 ⟨bb, x, none⟩ (N - x) (rowL f x y) Tryz.underlying66 Tryz.underlying5 Tryz.underlying9 (fun j hj => by
          rw [hl] at hj
          rw [addr_add, h.cb (by omega)]
          have h2 : (rowL f x y)[j] = f (x + j) := by
            have := get_rowL f x y j hj
            rw [List.getElem?_eq_getElem (by rw [hl]; exact hj)] at this
            exact Option.some.inj this
          rw [h2]
          rfl)
        rw [hl] at this
        exact this
    obtain ⟨ad, h1, h2⟩ := hsl
    simp only [Int.toNat_natCast]
    generalize rowL f x y = t at h2 ⊢
    generalize hz : x + y = z at hw1 h1
    clear h hi hin hn hN hz
    go_enter Tryz.func27, Tryz.ntmps27
    go_wp2_with fail
    refine HI.out.mono ?_
    rintro e w' ⟨rfl, h⟩
    have h3 := h.symm; clear h; subst h3
    go_wp2_with fail
    all_goals
      go_ret2
      exact ⟨rfl, rfl⟩
  · have hi' : insB n a k = false := by simpa using hi
    rw [if_neg hi]
    rw [hi'] at HI
    clear h hi hi' hk
    go_enter Tryz.func27, Tryz.ntmps27
    go_wp2_with fail
    refine HI.out.mono ?_
    rintro e w' ⟨rfl, h⟩
    have h3 := h.symm; clear h; subst h3
    go_wp2_with fail
    all_goals
      go_ret2
      exact ⟨rfl, rfl⟩
end Go.Proofs.YtflmobffeeocdaaGreatDoor

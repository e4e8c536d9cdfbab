import Derived.Test.YtflmobffeeocdaaDoorCa3
/- Walks of package mem: seen, made, New, Pages. -/
namespace Go.Proofs.YtflmobffeeocdaaDoor
open Go.ChangeShapes Go.WideShapes Go.ChangeAt Go.RowKit
open Go.Vx

set_option maxRecDepth 100000 in
theorem infoPage : (Tryd.prog.info? 79).map (fun i => (i.zero, i.size)) = some (some (.agg (List.replicate 4096 (.int .u8 0)).toArray), 4096) := by kernel_rfl
theorem infoPtr : (Tryd.prog.info? 58).map (fun i => (i.zero, i.size, i.bytes)) = some (some (.pointer none), 1, 8) := by kernel_rfl
theorem infoByte : (Tryd.prog.info? 5).map (fun i => (i.zero, i.size, i.bytes)) = some (some (.int .u8 0), 1, 1) := by kernel_rfl
/-- A new page, as the walk makes it. -/
def Zpage : Array Value := (List.replicate 4096 (Value.int .u8 0)).toArray
theorem zero_page : ∀ w, (zeroValue 79).run Tryd.prog w = .ok (.agg Zpage) w := (zero_of_info (P := Tryd.prog) infoPage).1
theorem zpage_row (f : Nat → UInt8) (o : Nat) (h : ∀ j, j < 4096 → f (o + j) = 0) : (rowV f o 4096).toArray = Zpage := by
  rw [row_nought f o 4096 h]
  rfl
theorem seen_any {U : Nat → Prop} {w : World} {bm n : Nat} {f : Nat → UInt8} (h : MemAt U w bm n f) (p : Nat) (hp : p < n) :
    Calls Tryd.prog 17 #[.pointer (some ⟨bm, 0, none⟩), .int .i64 (p : Int)] w fun e w' => ∃ b, e = .returned (.pointer (some ⟨b, 0, none⟩)) ∧ w'.heap[b]? = some (.cells (rowV f (4096 * p) 4096).toArray 79 (0, 0)) ∧ Only (fun _ => False) w w' := by
  obtain ⟨bp, q, h⟩ := h
  have hcm := h.cm
  have hcp := h.cp hp
  have hidx : 0 ≤ (p : Int) ∧ (p : Int) < (n : Int) := by omega
  have HM : Hid (MemIs U w bm bp n q f) := h
  clear h
  cases hq : q p with
  | none =>
    rw [hq] at hcp
    have hcp2 : w.cell? ⟨bp, p, none⟩ = some (.pointer none) := hcp
    have HQ : Hid (q p = none) := hq
    have hal := zero_page
    clear hcp hq
    go_enter Tryd.func17, Tryd.ntmps17
    go_wp2
    all_goals
      go_ret
      refine ⟨_, rfl, ?_, (Only.refl _ w).alloc _⟩
      rw [zpage_row f (4096 * p) (HM.out.nil p hp HQ.out)]
      exact heap_alloc_last w _
  | some b =>
    rw [hq] at hcp
    have hcp2 : w.cell? ⟨bp, p, none⟩ = some (.pointer (some ⟨b, 0, none⟩)) := hcp
    have HQ : Hid (q p = some b) := hq
    clear hcp hq
    go_enter Tryd.func17, Tryd.ntmps17
    go_wp2
    all_goals
      go_ret
      exact ⟨_, rfl, HM.out.pg p hp b HQ.out, Only.refl _ w⟩
/-- A world with a new page in a memory. -/
theorem MemIs.made {U : Nat → Prop} {w : World} {bm bp n : Nat} {q : Nat → Option Nat} {f : Nat → UInt8} (h : MemIs U w bm bp n q f) {p : Nat} (hp : p < n) (hq : q p = none) :
    MemIs U ((w.alloc (.cells Zpage 79)).setCell ⟨bp, p, none⟩ (.pointer (some ⟨w.heap.size, 0, none⟩))) bm bp n (qput q p w.heap.size) f ∧ Only (fun k => ¬ U k) w ((w.alloc (.cells Zpage 79)).setCell ⟨bp, p, none⟩ (.pointer (some ⟨w.heap.size, 0, none⟩))) := by
  have hlt := lt_of_some h.p
  have hn : ∀ b o, w.heap[b]? = some o → b ≠ bp → ((w.alloc (.cells Zpage 79)).setCell ⟨bp, p, none⟩ (.pointer (some ⟨w.heap.size, 0, none⟩))).heap[b]? = some o := fun b o hb hne => by
    rw [RowKit.Below.heap_setCell _ _ _ _ hne, RowKit.Below.heap_alloc _ _ _ (lt_of_some hb)]; exact hb
  refine ⟨⟨h.pos, h.top, hn _ _ h.m h.ne, ?_, ?_, ?_, ?_, h.um, h.up, ?_, ?_⟩, ?_⟩
  · have h1 : (w.alloc (.cells Zpage 79)).heap[bp]? = some (.cells (ptrs q n).toArray 58 (0, 0)) := by
      rw [RowKit.Below.heap_alloc _ _ _ hlt]; exact h.p
    rw [heap_setCell_same _ bp p _ _ _ h1]
    congr 2
    have := ptrs_set q n p w.heap.size
    rw [← this]
    simp [ptrV]
  · intro i hi hqi j hj
    refine h.nil i hi ?_ j hj
    unfold qput at hqi
    split at hqi
    · cases hqi
    · exact hqi
  · intro i hi b hb
    unfold qput at hb
    split at hb
    · obtain rfl : w.heap.size = b := by simpa using hb
      subst i
      rw [RowKit.Below.heap_setCell _ _ _ _ (by show w.heap.size ≠ bp; omega), heap_alloc_last, zpage_row f (4096 * p) (h.nil p hp hq)]
    · exact hn _ _ (h.pg i hi b hb) (h.pne hi hb).2
  · intro i j b hi hj h1 h2
    unfold qput at h1 h2
    split at h1 <;> split at h2
    · omega
    · have : w.heap.size = b := by simpa using h1
      have := lt_of_some (h.pg j hj b h2)
      omega
    · have : w.heap.size = b := by simpa using h2
      have := lt_of_some (h.pg i hi b h1)
      omega
    · exact h.inj i j b hi hj h1 h2
  · intro i b hi hb hu
    unfold qput at hb
    split at hb
    · have : w.heap.size = b := by simpa using hb
      have := h.low b hu
      omega
    · exact h.ug i b hi hb hu
  · intro k hk
    have := h.low k hk
    simp [World.setCell]
    omega
  · exact ((Only.refl _ w).alloc _).setCell (Or.inl h.up) _
theorem made_any {U : Nat → Prop} {w : World} {bm bp n : Nat} {q : Nat → Option Nat} {f : Nat → UInt8} (h : MemIs U w bm bp n q f) (p : Nat) (hp : p < n) :
    Calls Tryd.prog 16 #[.pointer (some ⟨bm, 0, none⟩), .int .i64 (p : Int)] w fun e w' => ∃ b q', e = .returned (.pointer (some ⟨b, 0, none⟩)) ∧ MemIs U w' bm bp n q' f ∧ q' p = some b ∧ Only (fun k => ¬ U k) w w' := by
  have hcm := h.cm
  have hcp := h.cp hp
  have hidx : 0 ≤ (p : Int) ∧ (p : Int) < (n : Int) := by omega
  have HM : Hid (MemIs U w bm bp n q f) := h
  clear h
  cases hq : q p with
  | none =>
    rw [hq] at hcp
    have hcp2 : w.cell? ⟨bp, p, none⟩ = some (.pointer none) := hcp
    have HQ : Hid (q p = none) := hq
    have hal := zero_page
    have hlt : bp < w.heap.size := lt_of_some HM.out.p
    have hcA : ∀ o, (w.alloc o).cell? ⟨bm, 0, none⟩ = some (.slice (some ⟨bp, 0, none⟩) n n) := fun o => by
      rw [((Only.refl (fun _ => False) w).alloc o).cell (p := ⟨bm, 0, none⟩) (lt_of_some HM.out.m) (fun h => h)]; exact hcm
    have hcB : ∀ o, (w.alloc o).cell? ⟨bp, p, none⟩ = some (.pointer none) := fun o => by
      rw [((Only.refl (fun _ => False) w).alloc o).cell (p := ⟨bp, p, none⟩) hlt (fun h => h)]; exact hcp2
    have hfB : ∀ o, (w.alloc o).frozen? ⟨bp, p, none⟩ = false := fun o => by
      have h1 : (w.alloc o).heap[bp]? = some (.cells (ptrs q n).toArray 58 (0, 0)) := by
        rw [RowKit.Below.heap_alloc _ _ _ hlt]; exact HM.out.p
      simp [World.frozen?, h1]
    have hcC : ∀ o v, ((w.alloc o).setCell ⟨bp, p, none⟩ v).cell? ⟨bm, 0, none⟩ = some (.slice (some ⟨bp, 0, none⟩) n n) := fun o v => by
      rw [World.cell?_setCell_other _ _ _ _ (by intro e; have := HM.out.ne; injection e with e1; omega)]; exact hcA o
    have hcD : ∀ o v, ((w.alloc o).setCell ⟨bp, p, none⟩ v).cell? ⟨bp, p, none⟩ = some v := fun o v => World.cell?_setCell_same _ _ _ (hcB o)
    clear hcp hq hlt
    go_enter Tryd.func16, Tryd.ntmps16
    go_wp2
    all_goals
      go_ret
      obtain ⟨h1, h2⟩ := HM.out.made hp HQ.out
      exact ⟨_, _, rfl, h1, by simp [qput], h2⟩
  | some b =>
    rw [hq] at hcp
    have hcp2 : w.cell? ⟨bp, p, none⟩ = some (.pointer (some ⟨b, 0, none⟩)) := hcp
    have HQ : Hid (q p = some b) := hq
    clear hcp hq
    go_enter Tryd.func16, Tryd.ntmps16
    go_wp2
    all_goals
      go_ret
      exact ⟨_, q, rfl, HM.out, HQ.out, Only.refl _ w⟩
theorem made_ptrs (n : Nat) : madeCells #[.pointer none] n = (ptrs (fun _ => none) n).toArray := by
  unfold madeCells ptrs
  apply Array.ext'
  simp
  intro i _
  simp [ptrV, Nat.mod_one]
theorem made_bytes (n : Nat) : madeCells #[.int .u8 0] n = (rowV (fun _ => 0) 0 n).toArray := by
  unfold madeCells rowV rowL
  apply Array.ext'
  simp
  intro i _
  simp [byteV, Nat.mod_one]
theorem make_ptrs (n : Nat) (h : n ≤ 256) (w : World) : (Instr.makeSlice 68 (.int .i64 (n : Int)) (.int .i64 (n : Int))).run Tryd.prog w = .ok (.slice (some ⟨w.heap.size, 0, none⟩) n n) (w.alloc (.cells (ptrs (fun _ => none) n).toArray 58)) := by
  have hi := infoPtr
  cases hq : Tryd.prog.info? 58 with
  | none => rw [hq] at hi; simp at hi
  | some i =>
    rw [hq] at hi
    simp only [Option.map_some, Option.some.injEq, Prod.mk.injEq] at hi
    have := run_make (P := Tryd.prog) w 68 58 i (.pointer none) Tryd.underlying68 hq hi.1 .i64 .i64 n n (by omega) (by omega) (by rw [hi.2.2]; omega) (by omega)
    rw [this, hi.2.1, Nat.mul_one]
    simp only [Int.toNat_natCast, Value.cells]
    rw [made_ptrs]
theorem make_bytes (n : Nat) (h : n ≤ 1048576) (w : World) : (Instr.makeSlice 57 (.int .i64 (n : Int)) (.int .i64 (n : Int))).run Tryd.prog w = .ok (.slice (some ⟨w.heap.size, 0, none⟩) n n) (w.alloc (.cells (rowV (fun _ => 0) 0 n).toArray 5)) := by
  have hi := infoByte
  cases hq : Tryd.prog.info? 5 with
  | none => rw [hq] at hi; simp at hi
  | some i =>
    rw [hq] at hi
    simp only [Option.map_some, Option.some.injEq, Prod.mk.injEq] at hi
    have := run_make (P := Tryd.prog) w 57 5 i (.int .u8 0) Tryd.underlying57 hq hi.1 .i64 .i64 n n (by omega) (by omega) (by rw [hi.2.2]; omega) (by omega)
    rw [this, hi.2.1, Nat.mul_one]
    simp only [Int.toNat_natCast, Value.cells]
    rw [made_bytes]
theorem new_no (n : Int) (hn : n < 1 ∨ 256 < n) (w : World) :
    Calls Tryd.prog 11 #[.int .i64 n] w fun e w' => e = .returned (.tuple #[.pointer none, .int .i64 1]) ∧ w' = w := by
  by_cases h1 : n < 1
  · clear hn
    go_enter Tryd.func11, Tryd.ntmps11
    go_wp2
    all_goals
      go_ret2
      exact ⟨rfl, rfl⟩
  · have h2 : 256 < n := by omega
    clear hn
    go_enter Tryd.func11, Tryd.ntmps11
    go_wp2
    all_goals
      go_ret2
      exact ⟨rfl, rfl⟩
theorem new_ok (n : Nat) (h1 : 1 ≤ n) (h2 : n ≤ 256) (w : World) :
    Calls Tryd.prog 11 #[.int .i64 (n : Int)] w fun e w' => ∃ bm, e = .returned (.tuple #[.pointer (some ⟨bm, 0, none⟩), .int .i64 0]) ∧ w.heap.size ≤ bm ∧ bm < w'.heap.size ∧ Only (fun _ => False) w w' ∧ ∀ U, (∀ k, U k → k < w.heap.size) → MemAt U w' bm n (fun _ => 0) := by
  have hmk := make_ptrs n h2 w
  have c1 : ¬ (n : Int) < 1 := by omega
  have c2 : ¬ 256 < (n : Int) := by omega
  have H12 : Hid (1 ≤ n ∧ n ≤ 256) := ⟨h1, h2⟩
  clear h1 h2
  go_enter Tryd.func11, Tryd.ntmps11
  go_wp2
  all_goals
    go_ret2
    refine ⟨_, rfl, ?_, ?_, ((Only.refl _ w).alloc _).alloc _, ?_⟩
    · simp
    · simp
    · intro U hU
      refine ⟨w.heap.size, fun _ => none, H12.out.1, H12.out.2, ?_, ?_, fun _ _ _ _ _ => rfl, fun _ _ _ hb => (by cases hb), fun _ _ _ _ _ hb => (by cases hb), ?_, ?_, fun _ _ _ hb => (by cases hb), ?_⟩
      · have := heap_alloc_last (w.alloc (.cells (ptrs (fun _ => none) n).toArray 58)) (.cells #[.slice (some ⟨w.heap.size, 0, none⟩) n n] 70)
        simpa using this
      · rw [RowKit.Below.heap_alloc _ _ _ (by simp)]; exact heap_alloc_last _ _
      · intro hu; have := hU _ hu; omega
      · intro hu; have := hU _ hu; omega
      · intro k hk; have := hU k hk; simp; omega
end Go.Proofs.YtflmobffeeocdaaDoor

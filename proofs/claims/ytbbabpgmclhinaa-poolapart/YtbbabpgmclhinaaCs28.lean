import Derived.Test.YtbbabpgmclhinaaCs27
import Derived.Test.YtbbabpgmclhinaaCs7
import Derived.Test.YtbbabpgmclhinaaCs8
import Derived.Deep.RegionHeld3
import Derived.BigQuiet
/- PoolScripts: a step under way. -/
namespace Go.Proofs.Ytbbabpgmclhinaa
open Go.ChangeShapes Go.WideShapes Go.ChangeAt Go.RowKit
open Go.Vx
set_option linter.unusedVariables false

/-- A step under way: F are blocks of its own, with what lies in them. -/
def PlI (W : World) (xb rb zb bb : Nat) (P : Int) (oz rz : List (Int × Int)) (Z B : Nat → Prop) (cs : Array Value) (V : Nat → Value) (L : Nat → List Sh) (F : List (Nat × Obj)) (bx ex br er : List (Int × Int)) (wv : World) : Prop :=
  ∃ X R, PlC W xb rb zb bb P oz rz X R Z B bx ex br er cs V L wv ∧ ∀ p ∈ F, wv.heap[p.1]? = some p.2 ∧ ¬ X p.1 ∧ ¬ R p.1 ∧ ¬ Z p.1 ∧ ¬ B p.1 ∧ p.1 ≠ bb ∧ W.heap.size ≤ p.1
variable {W : World} {xb rb zb bb : Nat} {P : Int} {oz rz : List (Int × Int)} {Z B : Nat → Prop} {bx br bx2 br2 ex er ex2 er2 : List (Int × Int)} {cs : Array Value} {V : Nat → Value} {L : Nat → List Sh} {wv w2 : World} {F : List (Nat × Obj)}
theorem PlI.quiet (h : PlI W xb rb zb bb P oz rz Z B cs V L F bx ex br er wv) (ho : Only (fun _ => False) wv w2) : PlI W xb rb zb bb P oz rz Z B cs V L F bx ex br er w2 := by
  obtain ⟨X, R, h, hF⟩ := h
  exact ⟨X, R, h.quiet ho, fun p hp => ⟨Only.keep ho (hF p hp).1 (fun h => h), (hF p hp).2⟩⟩
theorem PlI.alloc (h : PlI W xb rb zb bb P oz rz Z B cs V L F bx ex br er wv) (o : Obj) : PlI W xb rb zb bb P oz rz Z B cs V L ((wv.heap.size, o) :: F) bx ex br er (wv.alloc o) := by
  obtain ⟨X, R, h, hF⟩ := h
  have ho : Only (fun _ => False) wv (wv.alloc o) := (Only.refl _ _).alloc o
  refine ⟨X, R, h.quiet ho, fun p hp => ?_⟩
  rcases List.mem_cons.1 hp with rfl | hp
  · have hb := lt_of_some h.b.bl
    refine ⟨heap_alloc_last wv o, fun h1 => ?_, fun h1 => ?_, fun h1 => ?_, fun h1 => ?_, ?_, h.be.size⟩
    · have := (h.dX _ h1).2.1; exact absurd this (Nat.lt_irrefl _)
    · have := (h.dR _ h1).2.1; exact absurd this (Nat.lt_irrefl _)
    · have := (h.dZ _ h1).2.1; exact absurd this (Nat.lt_irrefl _)
    · have := (h.dB _ h1).2.1; exact absurd this (Nat.lt_irrefl _)
    · show wv.heap.size ≠ bb; omega
  · exact ⟨Only.keep ho (hF p hp).1 (fun h => h), (hF p hp).2⟩
theorem PlI.more (h : PlI W xb rb zb bb P oz rz Z B cs V L F bx ex br er wv) {b : Nat} {o : Obj} (hb : wv.heap[b]? = some o) (hq : ∃ w0, PlI W xb rb zb bb P oz rz Z B cs V L F bx ex br er w0 ∧ Only (fun _ => False) w0 wv ∧ w0.heap.size ≤ b) : PlI W xb rb zb bb P oz rz Z B cs V L ((b, o) :: F) bx ex br er wv := by
  obtain ⟨w0, ⟨X, R, h, hF⟩, ho, hl⟩ := hq
  refine ⟨X, R, h.quiet ho, fun p hp => ?_⟩
  rcases List.mem_cons.1 hp with rfl | hp
  · have hbb := lt_of_some h.b.bl
    have hw := h.be.size
    refine ⟨hb, fun h1 => ?_, fun h1 => ?_, fun h1 => ?_, fun h1 => ?_, ?_, ?_⟩
    · have := (h.dX _ h1).2.1; simp only at this; omega
    · have := (h.dR _ h1).2.1; simp only at this; omega
    · have := (h.dZ _ h1).2.1; simp only at this; omega
    · have := (h.dB _ h1).2.1; simp only at this; omega
    · show b ≠ bb; omega
    · show W.heap.size ≤ b; omega
  · exact ⟨Only.keep ho (hF p hp).1 (fun h => h), (hF p hp).2⟩
theorem PlI.at (h : PlI W xb rb zb bb P oz rz Z B cs V L F bx ex br er wv) {b : Nat} {o : Obj} (hm : (b, o) ∈ F) : wv.heap[b]? = some o := by
  obtain ⟨X, R, _, hF⟩ := h
  exact (hF _ hm).1
/-- A call of the program's store. -/
theorem PlI.xcall {f : FuncId} {args : Array Value} {v : Value} (h : PlI W xb rb zb bb P oz rz Z B cs V L F bx ex br er wv) (hc : ∀ U, XpAt U wv xb P bx ex → Calls Try.prog f args wv fun e w' => e = .returned v ∧ XpAt U w' xb P bx2 ex2 ∧ Only (fun k => ¬ U k) wv w') :
    Calls Try.prog f args wv fun e w' => e = .returned v ∧ Hid (PlI W xb rb zb bb P oz rz Z B cs V L F bx2 ex2 br er w') := by
  obtain ⟨X, R, h, hF⟩ := h
  refine (hc _ h.x).mono ?_
  rintro e w' ⟨rfl, hx, ho⟩
  refine ⟨rfl, _, R, h.xcall hx ho, fun p hp => ?_⟩
  obtain ⟨h1, h2, h3, h4⟩ := hF p hp
  have hl := lt_of_some h1
  refine ⟨Only.keep ho h1 (fun h5 => h5 ⟨hl, h2⟩), fun h5 => ?_, h3, h4⟩
  rcases h5 with h5 | h5
  · exact h2 h5
  · omega
/-- A call of the document's. -/
theorem PlI.rcall {f : FuncId} {args : Array Value} {v : Value} (h : PlI W xb rb zb bb P oz rz Z B cs V L F bx ex br er wv) (hc : ∀ U, PcAt U wv rb P br er → Calls Try.prog f args wv fun e w' => e = .returned v ∧ PcAt U w' rb P br2 er2 ∧ Only (fun k => ¬ U k) wv w') :
    Calls Try.prog f args wv fun e w' => e = .returned v ∧ Hid (PlI W xb rb zb bb P oz rz Z B cs V L F bx ex br2 er2 w') := by
  obtain ⟨X, R, h, hF⟩ := h
  refine (hc _ h.r).mono ?_
  rintro e w' ⟨rfl, hr, ho⟩
  refine ⟨rfl, X, _, h.rcall hr ho, fun p hp => ?_⟩
  obtain ⟨h1, h2, h3, h4⟩ := hF p hp
  have hl := lt_of_some h1
  refine ⟨Only.keep ho h1 (fun h5 => h5 ⟨hl, h3⟩), h2, fun h5 => ?_, h4⟩
  rcases h5 with h5 | h5
  · exact h3 h5
  · omega
/-- A block of its own is written anew. -/
theorem PlI.upd (h : PlI W xb rb zb bb P oz rz Z B cs V L F bx ex br er wv) {b : Nat} {o o2 : Obj} (hm : (b, o) ∈ F) (ho : Only (fun k => k = b) wv w2) (hb : w2.heap[b]? = some o2) : PlI W xb rb zb bb P oz rz Z B cs V L ((b, o2) :: F.filter fun p => decide (p.1 ≠ b)) bx ex br er w2 := by
  obtain ⟨X, R, h, hF⟩ := h
  obtain ⟨g1, g2, g3, g4, g5, g6, g7⟩ := hF _ hm
  simp only at g1 g2 g3 g4 g5 g6 g7
  have hs := ho.size
  have cut : ∀ {k : Nat} {P : Prop}, (k < w2.heap.size ∧ P) → (k < wv.heap.size ∧ P) ∨ (wv.heap.size ≤ k ∧ k < w2.heap.size) := fun {k P} hk => by
    by_cases h1 : k < wv.heap.size
    · exact Or.inl ⟨h1, hk.2⟩
    · exact Or.inr ⟨by omega, hk.1⟩
  refine ⟨X, R, ⟨h.x.step ho (fun k hk h1 => by subst h1; exact ⟨hk, g2⟩) (fun k hk => cut hk), h.r.step ho (fun k hk h1 => by subst h1; exact ⟨hk, g3⟩) (fun k hk => cut hk), h.z.step ho (fun k hk h1 => by subst h1; exact ⟨hk, g4⟩) (fun k hk => cut hk), h.b.only ho (fun k hk h1 => by subst h1; exact g5 hk) (fun h1 => g6 h1.symm), fun k hk => by have := h.dX k hk; exact ⟨this.1, by omega, this.2.2⟩, fun k hk => by have := h.dR k hk; exact ⟨this.1, by omega, this.2.2⟩, fun k hk => by have := h.dZ k hk; exact ⟨this.1, by omega, this.2.2⟩, fun k hk => by have := h.dB k hk; exact ⟨this.1, by omega, this.2.2⟩, h.wb, h.be.trans (ho.below h.be.size (fun k hk h1 => by omega))⟩, fun p hp => ?_⟩
  rcases List.mem_cons.1 hp with rfl | hp
  · exact ⟨hb, g2, g3, g4, g5, g6, g7⟩
  · obtain ⟨h1, h2⟩ := List.mem_filter.1 hp
    exact ⟨Only.keep ho (hF p h1).1 (by simpa using h2), (hF p h1).2⟩
end Go.Proofs.Ytbbabpgmclhinaa

/- Chapter 8, the program's pool: kinds, regions. -/
namespace Go.Proofs.Ytbbabpgmclhinaa
open Go.ChangeShapes Go.WideShapes Go.ChangeAt Go.RowKit
open Go.Vx
set_option linter.unusedVariables false

theorem two_cells {w : World} {rc : Nat} {a0 a1 : Value} {T : TypeId} (h : w.heap[rc]? = some (.cells #[a0, a1] T (0, 0))) : (w.cell? ⟨rc, 0, none⟩ = some a0 ∧ w.cell? ⟨rc, 1, none⟩ = some a1) ∧ ∀ j, w.frozen? ⟨rc, j, none⟩ = false :=
  ⟨⟨(cell_of_row _ _ 0 _ _ (0, 0) h).trans rfl, (cell_of_row _ _ 1 _ _ (0, 0) h).trans rfl⟩, fun j => by simp [World.frozen?, h]⟩
theorem isKind_ok (k : Int) (w : World) : Calls Try.prog 21 #[.int .i64 k] w fun e w' => e = .returned (.bool (decide (1 ≤ k ∧ k ≤ 8))) ∧ w' = w := by
  by_cases h1 : 1 ≤ k
  · by_cases h2 : k ≤ 8
    · have HT : Hid (decide (1 ≤ k ∧ k ≤ 8) = true) := decide_eq_true ⟨h1, h2⟩
      rw [HT.out]
      go_enter Try.func21, Try.ntmps21
      go_wp2_with fail
      all_goals
        go_ret
        exact ⟨by first | rfl | simp_all, rfl⟩
    · have HT : Hid (decide (1 ≤ k ∧ k ≤ 8) = false) := decide_eq_false (fun h => h2 h.2)
      rw [HT.out]
      go_enter Try.func21, Try.ntmps21
      go_wp2_with fail
      all_goals
        go_ret
        exact ⟨by first | rfl | simp_all, rfl⟩
  · have HT : Hid (decide (1 ≤ k ∧ k ≤ 8) = false) := decide_eq_false (fun h => h1 h.1)
    rw [HT.out]
    go_enter Try.func21, Try.ntmps21
    go_wp2_with fail
    all_goals
      go_ret
      exact ⟨by first | rfl | simp_all, rfl⟩
theorem psplit_ok (n : Int) (h0 : 0 ≤ n) (h1 : I64 n) (w : World) : Calls Try.prog 52 #[.int .i64 n] w fun e w' => e = .returned (.tuple #[.int .i64 (n % 256), .int .i64 (n / 256)]) ∧ w' = w := by
  obtain ⟨q, hq⟩ : ∃ q : Int, q = n / 256 := ⟨_, rfl⟩
  obtain ⟨r, hr⟩ : ∃ r : Int, r = n % 256 := ⟨_, rfl⟩
  have e1 : n.tdiv 256 = q := by rw [Int.tdiv_eq_ediv_of_nonneg h0, hq]
  have e2 : n.tmod 256 = r := by rw [Int.tmod_eq_emod_of_nonneg h0, hr]
  unfold I64 at h1
  have w1 : IntKind.i64.wrap q = q := by rw [IntKind.wrap_i64]; omega
  have w2 : IntKind.i64.wrap r = r := by rw [IntKind.wrap_i64]; omega
  rw [← hq, ← hr]
  clear hq hr h0 h1
  go_enter Try.func52, Try.ntmps52
  go_wp2_with fail
  all_goals
    go_ret2
    exact ⟨by first | rfl | simp [e1, e2, w1, w2], rfl⟩
theorem pend_ok (a n : Int) (hw : IntKind.i64.wrap (a + n) = a + n) (w : World) : Calls Try.prog 53 #[.agg #[.int .i64 a, .int .i64 n]] w fun e w' => e = .returned (.int .i64 (a + n)) ∧ Only (fun _ => False) w w' := by
  have HO : Hid (∀ o, Only (fun _ => False) w (w.alloc o)) := fun o => (Only.refl _ w).alloc _
  go_enter Try.func53, Try.ntmps53
  go_wp2_with fail
  all_goals
    go_ret
    exact ⟨by first | rfl | simp [hw], HO.out _⟩
/-- An untyped's region. -/
theorem punt_ok (n : Int) (hn : RgOk n) (w : World) : Calls Try.prog 28 #[.int .i64 n] w fun e w' => e = .returned (.agg #[.int .i64 (pgA (1, n)), .int .i64 (pgN (1, n))]) ∧ Only (fun _ => False) w w' := by
  have HSP := Vx.hid (fun wv => psplit_ok n hn.1 (by unfold RgOk at hn; unfold I64; omega) wv)
  have HA : Hid (pgA (1, n) = n % 256) := if_pos rfl
  have HN : Hid (pgN (1, n) = ((2 ^ (n / 256).toNat : Nat) : Int)) := if_pos rfl
  obtain ⟨q, r, hqr, hr, hq⟩ : ∃ q r : Nat, n = 256 * q + r ∧ r < 256 ∧ q ≤ 8 := ⟨(n / 256).toNat, (n % 256).toNat, by unfold RgOk at hn; omega, by omega, by unfold RgOk at hn; omega⟩
  have e3 : n / 256 = (q : Int) := by omega
  have e4 : n % 256 = (r : Int) := by omega
  rw [e3, e4] at HSP
  rw [e3, Int.toNat_natCast] at HN
  rw [e4] at HA
  rw [HA.out, HN.out]
  clear hqr e3 e4 hn HA HN
  obtain ⟨w1, hw1⟩ : ∃ w1, w1 = w.alloc (.cells #[.int .i64 0, .int .i64 0] 75) := ⟨_, rfl⟩
  have ho1 : Only (fun _ => False) w w1 := by rw [hw1]; exact (Only.refl _ w).alloc _
  have hz : w1.heap[w.heap.size]? = some (.cells #[.int .i64 0, .int .i64 0] 75 (0, 0)) := by rw [hw1]; exact heap_alloc_last _ _
  obtain ⟨rc, hrc⟩ : ∃ rc, rc = w.heap.size := ⟨_, rfl⟩
  rw [← hrc] at hz
  have HO : Hid (Only (fun _ => False) w w1 ∧ w.heap.size ≤ rc) := ⟨ho1, by omega⟩
  have HS : Hid (∀ x y : Value, Only (fun _ => False) w ((w1.setCell ⟨rc, 0, none⟩ x).setCell ⟨rc, 1, none⟩ y)) := fun x y => Only.setCell (Only.setCell HO.out.1 (Or.inr HO.out.2) _) (Or.inr HO.out.2) _
  obtain ⟨⟨z0, z1⟩, zf⟩ := two_cells hz
  have f0 := zf 0
  have f1 := zf 1
  clear zf hz ho1
  rcases (by omega : q = 0 ∨ q = 1 ∨ q = 2 ∨ q = 3 ∨ q = 4 ∨ q = 5 ∨ q = 6 ∨ q = 7 ∨ q = 8) with rfl | rfl | rfl | rfl | rfl | rfl | rfl | rfl | rfl
  all_goals
    go_enter Try.func28, Try.ntmps28
    go_upto_region 1 with fail
    rw [← hw1, ← hrc]
    clear hw1 hrc
    go_wp2_with fail
    refine (HSP.out _).mono ?_
    rintro e w' ⟨rfl, h⟩
    have h3 := h.symm; clear h; subst h3
    go_wp2_with fail
    refine bodyPost_ret (v := .agg #[.int .i64 (r : Int), .int .i64 _]) ?_ rfl ⟨rfl, HS.out _ _⟩
    simp [results, Try.results28, go_sem, z0, z1]
end Go.Proofs.Ytbbabpgmclhinaa

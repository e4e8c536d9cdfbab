import Derived.Test.YtbmchgjilkoplaaDoorCq38
import Derived.Test.YtbmchgjilkoplaaDoorCq15
import Derived.Test.YtbmchgjilkoplaaDoorCq5
import Derived.Test.YtbmchgjilkoplaaDoorCq19
/- CapsScripts: a step under way. -/
namespace Go.Proofs.YtbmchgjilkoplaaDoor
open Go.ChangeShapes Go.WideShapes Go.ChangeAt Go.RowKit
open Go.Vx
set_option linter.unusedVariables false

/-- A step under way: F are blocks of its own, with what lies in them. -/
def PsI (W : World) (xb rb zb bb : Nat) (Z B : Nat → Prop) (vs : Value) (ss : List Sh) (ve : Value) (ls : List Sh) (F : List (Nat × Obj)) (bx : List (Int × Int)) (ex : List En) (br : List (Int × Int)) (er : List En) (wv : World) : Prop :=
  ∃ X R, CsR W xb rb zb bb X R Z B bx ex br er vs ss ve ls wv ∧ ∀ p ∈ F, wv.heap[p.1]? = some p.2 ∧ ¬ X p.1 ∧ ¬ R p.1 ∧ ¬ Z p.1 ∧ ¬ B p.1 ∧ p.1 ≠ bb ∧ W.heap.size ≤ p.1
variable {W : World} {xb rb zb bb : Nat} {Z B : Nat → Prop} {bx br bx2 br2 : List (Int × Int)} {ex er ex2 er2 : List En} {vs ve : Value} {ss ls : List Sh} {wv w2 : World} {F : List (Nat × Obj)}
theorem PsI.quiet (h : PsI W xb rb zb bb Z B vs ss ve ls F bx ex br er wv) (ho : Only (fun _ => False) wv w2) : PsI W xb rb zb bb Z B vs ss ve ls F bx ex br er w2 := by
  obtain ⟨X, R, h, hF⟩ := h
  exact ⟨X, R, h.quiet ho, fun p hp => ⟨Only.keep ho (hF p hp).1 (fun h => h), (hF p hp).2⟩⟩
theorem PsI.alloc (h : PsI W xb rb zb bb Z B vs ss ve ls F bx ex br er wv) (o : Obj) : PsI W xb rb zb bb Z B vs ss ve ls ((wv.heap.size, o) :: F) bx ex br er (wv.alloc o) := by
  obtain ⟨X, R, h, hF⟩ := h
  have ho : Only (fun _ => False) wv (wv.alloc o) := (Only.refl _ _).alloc o
  refine ⟨X, R, h.quiet ho, fun p hp => ?_⟩
  rcases List.mem_cons.1 hp with rfl | hp
  · have hb := lt_of_some h.b.bl
    refine ⟨heap_alloc_last wv o, fun h1 => ?_, fun h1 => ?_, fun h1 => ?_, fun h1 => ?_, ?_, h.be.size⟩
    · have := (h.dX _ h1).2.1; exact absurd this (Nat.lt_irrefl _)
    · have := (h.dR _ h1).2.1; exact absurd this (Nat.lt_irrefl _)
    · have := (h.dZ _ h1).2.1; exact absurd this (Nat.lt_irrefl _)
    · have := (h.dB _ h1).2.1; exact absurd this (Nat.lt_irrefl _)
    · show wv.heap.size ≠ bb; omega
  · exact ⟨Only.keep ho (hF p hp).1 (fun h => h), (hF p hp).2⟩
theorem PsI.more (h : PsI W xb rb zb bb Z B vs ss ve ls F bx ex br er wv) {b : Nat} {o : Obj} (hb : wv.heap[b]? = some o) (hq : ∃ w0, PsI W xb rb zb bb Z B vs ss ve ls F bx ex br er w0 ∧ Only (fun _ => False) w0 wv ∧ w0.heap.size ≤ b) : PsI W xb rb zb bb Z B vs ss ve ls ((b, o) :: F) bx ex br er wv := by
  obtain ⟨w0, ⟨X, R, h, hF⟩, ho, hl⟩ := hq
  refine ⟨X, R, h.quiet ho, fun p hp => ?_⟩
  rcases List.mem_cons.1 hp with rfl | hp
  · have hbb := lt_of_some h.b.bl
    have hw := h.be.size
    refine ⟨hb, fun h1 => ?_, fun h1 => ?_, fun h1 => ?_, fun h1 => ?_, ?_, ?_⟩
    · have := (h.dX _ h1).2.1; simp only at this; omega
    · have := (h.dR _ h1).2.1; simp only at this; omega
    · have := (h.dZ _ h1).2.1; simp only at this; omega
    · have := (h.dB _ h1).2.1; simp only at this; omega
    · show b ≠ bb; omega
    · show W.heap.size ≤ b; omega
  · exact ⟨Only.keep ho (hF p hp).1 (fun h => h), (hF p hp).2⟩
theorem PsI.at (h : PsI W xb rb zb bb Z B vs ss ve ls F bx ex br er wv) {b : Nat} {o : Obj} (hm : (b, o) ∈ F) : wv.heap[b]? = some o := by
  obtain ⟨X, R, _, hF⟩ := h
  exact (hF _ hm).1
theorem PsI.bx0 (h : PsI W xb rb zb bb Z B vs ss ve ls F bx ex br er wv) : wv.cell? ⟨bb, 0, none⟩ = some (.pointer (some ⟨xb, 0, none⟩)) ∧ wv.cell? ⟨bb, 1, none⟩ = some (.pointer (some ⟨rb, 0, none⟩)) := by
  obtain ⟨X, R, h, _⟩ := h
  exact ⟨h.b.cells.1.1, h.b.cells.1.2.1⟩
/-- A call of the program's store. -/
theorem PsI.xcall {f : FuncId} {args : Array Value} {v : Value} (h : PsI W xb rb zb bb Z B vs ss ve ls F bx ex br er wv) (hc : ∀ U, XcAt U wv xb bx ex → Calls Tryd.prog f args wv fun e w' => e = .returned v ∧ XcAt U w' xb bx2 ex2 ∧ Only (fun k => ¬ U k) wv w') :
    Calls Tryd.prog f args wv fun e w' => e = .returned v ∧ Hid (PsI W xb rb zb bb Z B vs ss ve ls F bx2 ex2 br er w') := by
  obtain ⟨X, R, h, hF⟩ := h
  refine (hc _ h.x).mono ?_
  rintro e w' ⟨rfl, hx, ho⟩
  refine ⟨rfl, _, R, h.xcall hx ho, fun p hp => ?_⟩
  obtain ⟨h1, h2, h3, h4⟩ := hF p hp
  have hl := lt_of_some h1
  have hn : p.1 ≠ 0 := fun e => by have h6 := h.nsl; have h7 := h4.2.2.2; omega
  refine ⟨Only.keep ho h1 (fun h5 => h5 ⟨hl, h2, hn⟩), fun h5 => ?_, h3, h4⟩
  rcases h5 with h5 | h5
  · exact h2 h5
  · omega
/-- A call of the document's. -/
theorem PsI.rcall {f : FuncId} {args : Array Value} {v : Value} (h : PsI W xb rb zb bb Z B vs ss ve ls F bx ex br er wv) (hc : ∀ U, RcAt U wv rb br er → Calls Tryd.prog f args wv fun e w' => e = .returned v ∧ RcAt U w' rb br2 er2 ∧ Only (fun k => ¬ U k) wv w') :
    Calls Tryd.prog f args wv fun e w' => e = .returned v ∧ Hid (PsI W xb rb zb bb Z B vs ss ve ls F bx ex br2 er2 w') := by
  obtain ⟨X, R, h, hF⟩ := h
  refine (hc _ h.r).mono ?_
  rintro e w' ⟨rfl, hr, ho⟩
  refine ⟨rfl, X, _, h.rcall hr ho, fun p hp => ?_⟩
  obtain ⟨h1, h2, h3, h4⟩ := hF p hp
  have hl := lt_of_some h1
  refine ⟨Only.keep ho h1 (fun h5 => h5 ⟨hl, h3⟩), h2, fun h5 => ?_, h4⟩
  rcases h5 with h5 | h5
  · exact h3 h5
  · omega
/-- A block of its own is written anew. -/
theorem PsI.upd (h : PsI W xb rb zb bb Z B vs ss ve ls F bx ex br er wv) {b : Nat} {o o2 : Obj} (hm : (b, o) ∈ F) (ho : Only (fun k => k = b) wv w2) (hb : w2.heap[b]? = some o2) : PsI W xb rb zb bb Z B vs ss ve ls ((b, o2) :: F.filter fun p => decide (p.1 ≠ b)) bx ex br er w2 := by
  obtain ⟨X, R, h, hF⟩ := h
  obtain ⟨g1, g2, g3, g4, g5, g6, g7⟩ := hF _ hm
  simp only at g1 g2 g3 g4 g5 g6 g7
  have hs := ho.size
  have hnl := h.nsl
  have cut : ∀ {k : Nat} {P : Prop}, (k < w2.heap.size ∧ P) → (k < wv.heap.size ∧ P) ∨ (wv.heap.size ≤ k ∧ k < w2.heap.size) := fun {k P} hk => by
    by_cases h1 : k < wv.heap.size
    · exact Or.inl ⟨h1, hk.2⟩
    · exact Or.inr ⟨by omega, hk.1⟩
  refine ⟨X, R, ⟨h.x.step ho (fun k hk h1 => by subst h1; exact ⟨hk, g2, fun e => by omega⟩) (fun k hk => cut hk), h.r.step ho (fun k hk h1 => by subst h1; exact ⟨hk, g3⟩) (fun k hk => cut hk), h.z.step ho (fun k hk h1 => by subst h1; exact ⟨hk, g4, fun e => by omega⟩) (fun k hk => cut hk), h.b.only ho (fun k hk h1 => by subst h1; exact g5 hk) (fun h1 => g6 h1.symm), fun k hk => by have := h.dX k hk; exact ⟨this.1, by omega, this.2.2⟩, fun k hk => by have := h.dR k hk; exact ⟨this.1, by omega, this.2.2⟩, fun k hk => by have := h.dZ k hk; exact ⟨this.1, by omega, this.2.2⟩, fun k hk => by have := h.dB k hk; exact ⟨this.1, by omega, this.2.2⟩, h.wb, h.nW, h.be.trans (ho.below h.be.size (fun k hk h1 => by omega))⟩, fun p hp => ?_⟩
  rcases List.mem_cons.1 hp with rfl | hp
  · exact ⟨hb, g2, g3, g4, g5, g6, g7⟩
  · obtain ⟨h1, h2⟩ := List.mem_filter.1 hp
    exact ⟨Only.keep ho (hF p h1).1 (by simpa using h2), (hF p h1).2⟩
end Go.Proofs.YtbmchgjilkoplaaDoor

/- Chapter 7, the law: two lists that are the same are told so. -/
namespace Go.Proofs.YtbmchgjilkoplaaDoor
open Go.ChangeShapes Go.WideShapes Go.ChangeAt Go.RowKit
open Go.Vx
set_option linter.unusedVariables false

set_option maxRecDepth 100000 in
set_option maxHeartbeats 2000000 in
theorem sameSlots_ok {w : World} {v1 v2 : Value} {xs : List Sl} (h1 : LieL slL w v1 xs) (h2 : LieL slL w v2 xs) : Calls Tryd.prog 40 #[v1, v2] w fun e w' => e = .returned (.bool true) ∧ Only (fun _ => False) w w' := by
  obtain ⟨p1, c1, rfl, hn, q1⟩ := h1
  obtain ⟨p2, c2, rfl, _, q2⟩ := h2
  have HQ := Vx.hid (⟨q1, q2⟩ : _ ∧ _)
  obtain ⟨N, hN⟩ : ∃ N, N = xs.length := ⟨_, rfl⟩
  have HN := Vx.hid hN
  rw [← hN] at hn ⊢
  clear q1 q2 hN
  go_enter Tryd.func40, Tryd.ntmps40
  go_wp2_with fail
  go_loopw [5] (fun d wr => ∃ k j : Nat, d = .int .i64 (k : Int) ∧ k ≤ N ∧ wr = w.drewN j) (fun d _ => N - (intOf d).toNat)
  case atStart => exact ⟨0, 0, rfl, by omega, rfl⟩
  case round =>
    obtain ⟨k, jj, rfl, hk, rfl⟩ := hrel
    by_cases hlt : k < N
    · have hkl : k < xs.length := by have := HN.out; omega
      have h1 : (k : Int) < (N : Int) := by omega
      have hidk : 0 ≤ (k : Int) ∧ (k : Int) < (N : Int) := by omega
      have hwk : IntKind.i64.wrap ((k : Int) + 1) = (k : Int) + 1 := by rw [IntKind.wrap_i64]; omega
      obtain ⟨g1, rfl, ha⟩ := HQ.out.1 k hkl
      obtain ⟨g2, rfl, hb⟩ := HQ.out.2 k hkl
      generalize xs[k] = z at ha hb
      obtain ⟨z0, z1⟩ := z
      have a0 := ha 0 (by decide)
      have b0 := hb 0 (by decide)
      have a1 := ha 1 (by decide)
      have b1 := hb 1 (by decide)
      replace a0 : w.cell? ⟨g1, k * 2, none⟩ = some (.int .i64 z0) := a0
      replace b0 : w.cell? ⟨g2, k * 2, none⟩ = some (.int .i64 z0) := b0
      replace a1 : w.cell? ⟨g1, k * 2 + 1, none⟩ = some (.int .i64 z1) := a1
      replace b1 : w.cell? ⟨g2, k * 2 + 1, none⟩ = some (.int .i64 z1) := b1
      clear ha hb hlt
      go_wp2_with fail
      go_quiet (fail)
      go_wp2_with fail
      go_roundw
      case rel => exact ⟨k + 1, _, by go_num, by omega, rfl⟩
      case measure => simp only [intOf]; omega
    · obtain rfl : k = N := by omega
      have h1 : ¬ (k : Int) < (k : Int) := by omega
      clear hlt
      go_wp2_with fail
      all_goals
        go_ret
        exact ⟨rfl, (Only.refl _ _).drewN _⟩
set_option maxRecDepth 100000 in
set_option maxHeartbeats 2000000 in
theorem sameEntries_ok {w : World} {v1 v2 : Value} {xs : List En} (h1 : LieL enL w v1 xs) (h2 : LieL enL w v2 xs) : Calls Tryd.prog 45 #[v1, v2] w fun e w' => e = .returned (.bool true) ∧ Only (fun _ => False) w w' := by
  obtain ⟨p1, c1, rfl, hn, q1⟩ := h1
  obtain ⟨p2, c2, rfl, _, q2⟩ := h2
  have HQ := Vx.hid (⟨q1, q2⟩ : _ ∧ _)
  obtain ⟨N, hN⟩ : ∃ N, N = xs.length := ⟨_, rfl⟩
  have HN := Vx.hid hN
  rw [← hN] at hn ⊢
  clear q1 q2 hN
  go_enter Tryd.func45, Tryd.ntmps45
  go_wp2_with fail
  go_loopw [5] (fun d wr => ∃ k j : Nat, d = .int .i64 (k : Int) ∧ k ≤ N ∧ wr = w.drewN j) (fun d _ => N - (intOf d).toNat)
  case atStart => exact ⟨0, 0, rfl, by omega, rfl⟩
  case round =>
    obtain ⟨k, jj, rfl, hk, rfl⟩ := hrel
    by_cases hlt : k < N
    · have hkl : k < xs.length := by have := HN.out; omega
      have h1 : (k : Int) < (N : Int) := by omega
      have hidk : 0 ≤ (k : Int) ∧ (k : Int) < (N : Int) := by omega
      have hwk : IntKind.i64.wrap ((k : Int) + 1) = (k : Int) + 1 := by rw [IntKind.wrap_i64]; omega
      obtain ⟨g1, rfl, ha⟩ := HQ.out.1 k hkl
      obtain ⟨g2, rfl, hb⟩ := HQ.out.2 k hkl
      generalize xs[k] = z at ha hb
      obtain ⟨⟨z0, z1⟩, ⟨z2, z3, z4, z5, z6, z7, z8, z9⟩, ⟨z10, z11⟩⟩ := z
      have a0 := ha 0 (by decide)
      have b0 := hb 0 (by decide)
      have a1 := ha 1 (by decide)
      have b1 := hb 1 (by decide)
      have a2 := ha 2 (by decide)
      have b2 := hb 2 (by decide)
      have a3 := ha 3 (by decide)
      have b3 := hb 3 (by decide)
      have a4 := ha 4 (by decide)
      have b4 := hb 4 (by decide)
      have a5 := ha 5 (by decide)
      have b5 := hb 5 (by decide)
      have a6 := ha 6 (by decide)
      have b6 := hb 6 (by decide)
      have a7 := ha 7 (by decide)
      have b7 := hb 7 (by decide)
      have a8 := ha 8 (by decide)
      have b8 := hb 8 (by decide)
      have a9 := ha 9 (by decide)
      have b9 := hb 9 (by decide)
      have a10 := ha 10 (by decide)
      have b10 := hb 10 (by decide)
      have a11 := ha 11 (by decide)
      have b11 := hb 11 (by decide)
      replace a0 : w.cell? ⟨g1, k * 12, none⟩ = some (.int .i64 z0) := a0
      replace b0 : w.cell? ⟨g2, k * 12, none⟩ = some (.int .i64 z0) := b0
      replace a1 : w.cell? ⟨g1, k * 12 + 1, none⟩ = some (.int .i64 z1) := a1
      replace b1 : w.cell? ⟨g2, k * 12 + 1, none⟩ = some (.int .i64 z1) := b1
      replace a2 : w.cell? ⟨g1, k * 12 + 2, none⟩ = some (.int .i64 z2) := a2
      replace b2 : w.cell? ⟨g2, k * 12 + 2, none⟩ = some (.int .i64 z2) := b2
      replace a3 : w.cell? ⟨g1, k * 12 + 3, none⟩ = some (.int .i64 z3) := a3
      replace b3 : w.cell? ⟨g2, k * 12 + 3, none⟩ = some (.int .i64 z3) := b3
      replace a4 : w.cell? ⟨g1, k * 12 + 4, none⟩ = some (.int .i64 z4) := a4
      replace b4 : w.cell? ⟨g2, k * 12 + 4, none⟩ = some (.int .i64 z4) := b4
      replace a5 : w.cell? ⟨g1, k * 12 + 5, none⟩ = some (.int .u32 z5) := a5
      replace b5 : w.cell? ⟨g2, k * 12 + 5, none⟩ = some (.int .u32 z5) := b5
      replace a6 : w.cell? ⟨g1, k * 12 + 6, none⟩ = some (.int .u32 z6) := a6
      replace b6 : w.cell? ⟨g2, k * 12 + 6, none⟩ = some (.int .u32 z6) := b6
      replace a7 : w.cell? ⟨g1, k * 12 + 7, none⟩ = some (.int .i64 z7) := a7
      replace b7 : w.cell? ⟨g2, k * 12 + 7, none⟩ = some (.int .i64 z7) := b7
      replace a8 : w.cell? ⟨g1, k * 12 + 8, none⟩ = some (.int .i64 z8) := a8
      replace b8 : w.cell? ⟨g2, k * 12 + 8, none⟩ = some (.int .i64 z8) := b8
      replace a9 : w.cell? ⟨g1, k * 12 + 9, none⟩ = some (.int .u32 z9) := a9
      replace b9 : w.cell? ⟨g2, k * 12 + 9, none⟩ = some (.int .u32 z9) := b9
      replace a10 : w.cell? ⟨g1, k * 12 + 10, none⟩ = some (.int .i64 z10) := a10
      replace b10 : w.cell? ⟨g2, k * 12 + 10, none⟩ = some (.int .i64 z10) := b10
      replace a11 : w.cell? ⟨g1, k * 12 + 11, none⟩ = some (.int .i64 z11) := a11
      replace b11 : w.cell? ⟨g2, k * 12 + 11, none⟩ = some (.int .i64 z11) := b11
      clear ha hb hlt
      go_wp2_with fail
      go_quiet (fail)
      go_wp2_with fail
      go_roundw
      case rel => exact ⟨k + 1, _, by go_num, by omega, rfl⟩
      case measure => simp only [intOf]; omega
    · obtain rfl : k = N := by omega
      have h1 : ¬ (k : Int) < (k : Int) := by omega
      clear hlt
      go_wp2_with fail
      all_goals
        go_ret
        exact ⟨rfl, (Only.refl _ _).drewN _⟩
end Go.Proofs.YtbmchgjilkoplaaDoor

/- Chapter 7, the law: slotOf. -/
namespace Go.Proofs.YtbmchgjilkoplaaDoor
open Go.ChangeShapes Go.WideShapes Go.ChangeAt Go.RowKit
open Go.Vx
set_option linter.unusedVariables false

def slotF (n : Int) : Sl := if n.tmod 37 = 36 then (n.tdiv 37, n.tmod 1000) else (((pickL n 60 % 6 : Nat) : Int) - 1 + ((pickL n 60 / 59 : Nat) : Int), ((pickL n 60 / 6 : Nat) : Int) - 1)
set_option maxHeartbeats 2000000 in
theorem slotOf_ok (n : Int) (hn : I64 n) (w : World) : Calls Tryd.prog 23 #[.int .i64 n] w fun e w' => e = .returned (.agg #[.int .i64 (slotF n).1, .int .i64 (slotF n).2]) ∧ Only (fun _ => False) w w' := by
  obtain ⟨h0, h1⟩ := hn
  have HO : Hid (∀ o, Only (fun _ => False) w (w.alloc o)) := fun o => (Only.refl _ w).alloc _
  by_cases h : n.tmod 37 = 36
  · have HF : Hid (slotF n = (n.tdiv 37, n.tmod 1000)) := if_pos h
    have hnn : 0 ≤ n := by
      by_cases hneg : 0 ≤ n
      · exact hneg
      · have h3 : n.tmod 37 = -((-n).tmod 37) := by rw [Int.neg_tmod]; omega
        have h4 : 0 ≤ (-n).tmod 37 := Int.tmod_nonneg _ (by omega)
        omega
    have e1 : n.tdiv 37 = n / 37 := Int.tdiv_eq_ediv_of_nonneg hnn
    have e2 : n.tmod 1000 = n % 1000 := Int.tmod_eq_emod_of_nonneg hnn
    have e3 : n.tmod 37 = n % 37 := Int.tmod_eq_emod_of_nonneg hnn
    have w1 : IntKind.i64.wrap (n.tdiv 37) = n.tdiv 37 := by rw [e1, IntKind.wrap_i64]; omega
    have w2 : IntKind.i64.wrap (n.tmod 1000) = n.tmod 1000 := by rw [e2, IntKind.wrap_i64]; omega
    have w3 : IntKind.i64.wrap (n.tmod 37) = 36 := by rw [h]; rfl
    generalize hq : n.tdiv 37 = q at w1 HF
    generalize hr : n.tmod 1000 = r at w2 HF
    clear e1 e2 e3 hnn
    go_enter Tryd.func23, Tryd.ntmps23
    go_wp2_with fail
    refine bodyPost_ret (v := .agg #[.int .i64 q, .int .i64 r]) ?_ rfl ⟨by rw [HF.out], HO.out _⟩
    simp [results, Tryd.results23, go_sem]
  · have HF : Hid (slotF n = (((pickL n 60 % 6 : Nat) : Int) - 1 + ((pickL n 60 / 59 : Nat) : Int), ((pickL n 60 / 6 : Nat) : Int) - 1)) := if_neg h
    have HP := Vx.hid (fun wv => pickL_any 60 (by decide) (by decide) n h0 h1 wv)
    have hk : pickL n 60 < 60 := Nat.mod_lt _ (by decide)
    generalize pickL n 60 = k at HP HF hk
    obtain ⟨r, hr⟩ : ∃ r, r = k % 6 := ⟨_, rfl⟩
    obtain ⟨q, hq⟩ : ∃ q, q = k / 59 := ⟨_, rfl⟩
    obtain ⟨t, ht⟩ : ∃ t, t = k / 6 := ⟨_, rfl⟩
    rw [← hr, ← hq, ← ht] at HF
    have r0 : Int.tmod (k : Int) 6 = (r : Int) := by rw [Int.tmod_eq_emod_of_nonneg (by omega)]; omega
    have q0 : Int.tdiv (k : Int) 59 = (q : Int) := by rw [Int.tdiv_eq_ediv_of_nonneg (by omega)]; omega
    have t0 : Int.tdiv (k : Int) 6 = (t : Int) := by rw [Int.tdiv_eq_ediv_of_nonneg (by omega)]; omega
    have r0' : (k : Int) % 6 = (r : Int) := by omega
    have q0' : (k : Int) / 59 = (q : Int) := by omega
    have t0' : (k : Int) / 6 = (t : Int) := by omega
    have r1 : IntKind.i64.wrap (r : Int) = (r : Int) := by rw [IntKind.wrap_i64]; omega
    have q1 : IntKind.i64.wrap (q : Int) = (q : Int) := by rw [IntKind.wrap_i64]; omega
    have t1 : IntKind.i64.wrap (t : Int) = (t : Int) := by rw [IntKind.wrap_i64]; omega
    have r2 : IntKind.i64.wrap ((r : Int) - 1) = (r : Int) - 1 := by rw [IntKind.wrap_i64]; omega
    have t2 : IntKind.i64.wrap ((t : Int) - 1) = (t : Int) - 1 := by rw [IntKind.wrap_i64]; omega
    have s2 : IntKind.i64.wrap ((r : Int) - 1 + (q : Int)) = (r : Int) - 1 + (q : Int) := by rw [IntKind.wrap_i64]; omega
    clear hr hq ht hk
    go_enter Tryd.func23, Tryd.ntmps23
    go_wp2_with fail
    refine (HP.out _).mono ?_
    rintro e w' ⟨rfl, hh⟩
    have h2 := hh.symm; clear hh; subst h2
    go_wp2_with fail
    refine bodyPost_ret (v := .agg #[.int .i64 ((r : Int) - 1 + (q : Int)), .int .i64 ((t : Int) - 1)]) ?_ rfl ⟨by rw [HF.out], HO.out _⟩
    simp [results, Tryd.results23, go_sem]
end Go.Proofs.YtbmchgjilkoplaaDoor

import Derived.Test.YtbmchgjilkoplaaDoorCk22
import Derived.Maps.RangeWalk
import Derived.Lib.SlKeysI
import Derived.BigQuiet
/- Chapter 7, the program's store: where it lies; there, full, empty, Size. -/
namespace Go.Proofs.YtbmchgjilkoplaaDoor
open Go.ChangeShapes Go.WideShapes Go.ChangeAt Go.RowKit
open Go.Vx
set_option linter.unusedVariables false

/-- A slice, as an element of a map. -/
def RH (v : Value) : Option (DataW Value × List MemPlace) := match v with | .slice p n c => some (.held (.slice p n c), []) | _ => none
theorem RH_inv {v : Value} {y : DataW Value × List MemPlace} (h : RH v = some y) : ∃ p n c, v = .slice p n c ∧ y = (.held (.slice p n c), []) := by
  unfold RH at h
  split at h
  · injection h with h; exact ⟨_, _, _, rfl, h.symm⟩
  · cases h
theorem wf_i64 {k : Int} (h : I64 k) : (Lit.int .i64 k).wf = true := by
  unfold I64 at h
  simp [Lit.wf, IntKind.min, IntKind.max, IntKind.bits, IntKind.signed] <;> omega
theorem i64_wf {k : Int} (h : (Lit.int .i64 k).wf = true) : I64 k := by
  unfold I64
  simp [Lit.wf, IntKind.min, IntKind.max, IntKind.bits, IntKind.signed] at h <;> omega
theorem keyI {k : Int} (h : I64 k) : keyOf Tryd.prog 3 (.int .i64 k) = some (.int .i64 k) := Maps.keyOf_int_mk Tryd.underlying3 (wf_i64 h)
theorem keyedI : Maps.Keyed Tryd.prog 3 := Maps.int_keyed Tryd.underlying3
theorem zeroPls (w : World) : (zeroValue 80).run Tryd.prog w = .ok (.slice none 0 0) w := by kernel_rfl
/-- What a look-up of a box gives. -/
def lookV (G : Int → Nat) (bs : List (Int × Int)) (k : Int) : Value := match sizeF bs k with | some n => .slice (some ⟨G k, 0, none⟩) n.toNat n.toNat | none => .slice none 0 0
/-- The program's store; U: blocks that are none of its own; Q: what each slot holds. -/
structure XsAt (U : Nat → Prop) (w : World) (xb mb : Nat) (D : DataW Value) (G : Int → Nat) (bs : List (Int × Int)) (Q : Sl → Pl) : Prop where
  ns : w.heap[0]? = some (.cells #[.int .i64 (-1), .int .i64 (-1)] 62 (0, 0))
  x : w.heap[xb]? = some (.cells #[.map (some mb)] 79 (0, 0))
  m : w.ownsMap Tryd.prog 3 RH mb bs.length D
  hs : ∀ k, I64 k → Maps.has D (.int .i64 k) = (sizeF bs k).isSome
  ha : ∀ k n z, sizeF bs k = some n → D.atKey (.int .i64 k) z = .held (.slice (some ⟨G k, 0, none⟩) n.toNat n.toNat)
  bl : ∀ k n, sizeF bs k = some n → OwnL plL w 0 105 (.slice (some ⟨G k, 0, none⟩) n.toNat n.toNat) (rowQ Q k n.toNat)
  gi : ∀ j k, (sizeF bs j).isSome = true → (sizeF bs k).isSome = true → G j = G k → j = k
  un : ¬ U 0
  ux : ¬ U xb
  um : ¬ U mb
  ug : ∀ k, (sizeF bs k).isSome = true → ¬ U (G k)
  low : ∀ k, U k → k < w.heap.size
  bn : ∀ k n, sizeF bs k = some n → 1 ≤ n ∧ n ≤ 64
  nd : (bs.map (·.1)).Nodup
  ib : ∀ b ∈ bs, I64 b.1
  nb : bs.length ≤ 1000000
theorem XsAt.glt {U : Nat → Prop} {w : World} {xb mb : Nat} {D : DataW Value} {G : Int → Nat} {bs : List (Int × Int)} {Q : Sl → Pl} (h : XsAt U w xb mb D G bs Q) {k : Int} (hk : (sizeF bs k).isSome = true) : G k < w.heap.size := by
  obtain ⟨n, hn⟩ := Option.isSome_iff_exists.1 hk
  exact (own_lt (h.bl k n hn) rfl).2
theorem XsAt.aside {U V S : Nat → Prop} {w w2 : World} {xb mb : Nat} {D : DataW Value} {G : Int → Nat} {bs : List (Int × Int)} {Q : Sl → Pl} (h : XsAt U w xb mb D G bs Q) (ho : Only S w w2)
    (s0 : ¬ S 0) (s1 : ¬ S xb) (s2 : ¬ S mb) (s3 : ∀ k, (sizeF bs k).isSome = true → ¬ S (G k))
    (v0 : ¬ V 0) (v1 : ¬ V xb) (v2 : ¬ V mb) (v3 : ∀ k, (sizeF bs k).isSome = true → ¬ V (G k)) (vl : ∀ k, V k → k < w2.heap.size) : XsAt V w2 xb mb D G bs Q := by
  have hml := h.m.lt
  have hm : w2.ownsMap Tryd.prog 3 RH mb bs.length D := by
    obtain ⟨e, clock, hb, F, hs, hD⟩ := h.m
    exact ⟨e, clock, (ho.block mb hml s2).trans hb, F, hs, hD⟩
  exact ⟨by rw [ho.block _ (lt_of_some h.ns) s0]; exact h.ns, by rw [ho.block xb (lt_of_some h.x) s1]; exact h.x, hm, h.hs, h.ha, fun k n hk => (h.bl k n hk).kept ho (fun j hj => by
    have : G k = j := by simpa [Value.ownBlock] using hj
    rw [← this]
    exact s3 k (by rw [hk]; rfl)), h.gi, v0, v1, v2, v3, vl, h.bn, h.nd, h.ib, h.nb⟩
theorem XsAt.only {U S : Nat → Prop} {w w2 : World} {xb mb : Nat} {D : DataW Value} {G : Int → Nat} {bs : List (Int × Int)} {Q : Sl → Pl} (h : XsAt U w xb mb D G bs Q) (ho : Only S w w2) (hS : ∀ k, k < w.heap.size → S k → U k) : XsAt U w2 xb mb D G bs Q :=
  h.aside ho (fun hs => h.un (hS _ (lt_of_some h.ns) hs)) (fun hs => h.ux (hS _ (lt_of_some h.x) hs)) (fun hs => h.um (hS _ h.m.lt hs)) (fun k hk hs => h.ug k hk (hS _ (h.glt hk) hs)) h.un h.ux h.um h.ug (fun k hk => Nat.lt_of_lt_of_le (h.low k hk) ho.size)
theorem XsAt.quiet {U : Nat → Prop} {w w2 : World} {xb mb : Nat} {D : DataW Value} {G : Int → Nat} {bs : List (Int × Int)} {Q : Sl → Pl} (h : XsAt U w xb mb D G bs Q) (ho : Only (fun _ => False) w w2) : XsAt U w2 xb mb D G bs Q := h.only ho (fun _ _ h => h.elim)
theorem XsAt.more {U : Nat → Prop} {w w2 : World} {xb mb : Nat} {D : DataW Value} {G : Int → Nat} {bs : List (Int × Int)} {Q : Sl → Pl} (h : XsAt U w xb mb D G bs Q) (ho : Only (fun _ => False) w w2) : XsAt (fun k => U k ∨ (w.heap.size ≤ k ∧ k < w2.heap.size)) w2 xb mb D G bs Q :=
  h.aside ho (fun h => h) (fun h => h) (fun h => h) (fun _ _ h => h)
    (fun hv => by have := lt_of_some h.ns; rcases hv with hv | hv; exact h.un hv; omega)
    (fun hv => by have := lt_of_some h.x; rcases hv with hv | hv; exact h.ux hv; omega)
    (fun hv => by have := h.m.lt; rcases hv with hv | hv; exact h.um hv; omega)
    (fun k hk hv => by have := h.glt hk; rcases hv with hv | hv; exact h.ug k hk hv; omega)
    (fun k hv => by
      rcases hv with hv | hv
      · exact Nat.lt_of_lt_of_le (h.low k hv) ho.size
      · exact hv.2)
theorem XsAt.c0 {U : Nat → Prop} {w : World} {xb mb : Nat} {D : DataW Value} {G : Int → Nat} {bs : List (Int × Int)} {Q : Sl → Pl} (h : XsAt U w xb mb D G bs Q) : w.cell? ⟨xb, 0, none⟩ = some (.map (some mb)) := (cell_of_row _ _ 0 _ _ (0, 0) h.x).trans rfl
theorem XsAt.look {U : Nat → Prop} {w : World} {xb mb : Nat} {D : DataW Value} {G : Int → Nat} {bs : List (Int × Int)} {Q : Sl → Pl} (h : XsAt U w xb mb D G bs Q) (k : Int) (hk : I64 k) :
    (Instr.lookup 77 (.map (some mb)) (.int .i64 k) false).run Tryd.prog w = .ok (lookV G bs k) w ∧
    (Instr.lookup 77 (.map (some mb)) (.int .i64 k) true).run Tryd.prog w = .ok (.tuple #[lookV G bs k, .bool (sizeF bs k).isSome]) w := by
  have hz : RH (.slice none 0 0) = some (.held (.slice none 0 0), []) := rfl
  obtain ⟨v, ps, hr, hv⟩ := h.m.lookup (t := 77) (e := 80) keyedI Tryd.underlying77 (zeroPls w) hz (keyI hk)
  obtain ⟨v2, ps2, hr2, hv2⟩ := h.m.look_ok (t := 77) (e := 80) keyedI Tryd.underlying77 (zeroPls w) hz (keyI hk)
  have hD : D.atKey (.int .i64 k) (.held (.slice none 0 0)) = .held (lookV G bs k) := by
    unfold lookV
    cases hs : sizeF bs k with
    | some n => exact h.ha k n _ hs
    | none => exact Maps.atKey_of_not_has (by rw [h.hs k hk, hs]; rfl) _
  rw [hD] at hv hv2
  obtain ⟨p, n, c, rfl, he⟩ := RH_inv hv
  obtain ⟨p2, n2, c2, rfl, he2⟩ := RH_inv hv2
  simp only [Prod.mk.injEq, DataW.held.injEq] at he he2
  rw [hr, hr2, he.1, ← he2.1, he.1, h.hs k hk]
  exact ⟨rfl, rfl⟩
/-- Where a slot lies. -/
structure P10 (w : World) (g k : Nat) (p : Pl) : Prop where
  c0 : w.cell? ⟨g, k * 10, none⟩ = some (.int .i64 p.1.kind)
  c1 : w.cell? ⟨g, k * 10 + 1, none⟩ = some (.int .i64 p.1.num)
  c2 : w.cell? ⟨g, k * 10 + 2, none⟩ = some (.int .i64 p.1.rights)
  c3 : w.cell? ⟨g, k * 10 + 3, none⟩ = some (.int .u32 p.1.badge)
  c4 : w.cell? ⟨g, k * 10 + 4, none⟩ = some (.int .u32 p.1.guard)
  c5 : w.cell? ⟨g, k * 10 + 5, none⟩ = some (.int .i64 p.1.gbits)
  c6 : w.cell? ⟨g, k * 10 + 6, none⟩ = some (.int .i64 p.1.root)
  c7 : w.cell? ⟨g, k * 10 + 7, none⟩ = some (.int .u32 p.1.va)
  c8 : w.cell? ⟨g, k * 10 + 8, none⟩ = some (.int .i64 p.2.1)
  c9 : w.cell? ⟨g, k * 10 + 9, none⟩ = some (.int .i64 p.2.2)
theorem own_p10 {w : World} {base g n c : Nat} {T : TypeId} {xs : List Pl} (h : OwnL plL w base T (.slice (some ⟨g, 0, none⟩) n c) xs) (k : Nat) (hk : k < xs.length) : P10 w g k xs[k] :=
  ⟨h.cell k 0 hk (by decide), h.cell k 1 hk (by decide), h.cell k 2 hk (by decide), h.cell k 3 hk (by decide), h.cell k 4 hk (by decide), h.cell k 5 hk (by decide), h.cell k 6 hk (by decide), h.cell k 7 hk (by decide), h.cell k 8 hk (by decide), h.cell k 9 hk (by decide)⟩
theorem XsAt.p10 {U : Nat → Prop} {w : World} {xb mb : Nat} {D : DataW Value} {G : Int → Nat} {bs : List (Int × Int)} {Q : Sl → Pl} (h : XsAt U w xb mb D G bs Q) {k n : Int} (hn : sizeF bs k = some n) (i : Nat) (hi : (i : Int) < n) : P10 w (G k) i (Q (k, (i : Int))) := by
  have hl : i < (rowQ Q k n.toNat).length := by rw [rowQ_len]; omega
  have := own_p10 (h.bl k n hn) i hl
  rw [rowQ_at] at this
  exact this
theorem isFull_ok (p : Pl) (w : World) : Calls Tryd.prog 51 #[.agg #[.int .i64 p.1.kind, .int .i64 p.1.num, .int .i64 p.1.rights, .int .u32 p.1.badge, .int .u32 p.1.guard, .int .i64 p.1.gbits, .int .i64 p.1.root, .int .u32 p.1.va, .int .i64 p.2.1, .int .i64 p.2.2]] w fun e w' => e = .returned (.bool (p.1.kind != 0)) ∧ Only (fun _ => False) w w' := by
  obtain ⟨K, hK⟩ : ∃ K, K = p.1.kind := ⟨_, rfl⟩
  rw [← hK]
  clear hK
  go_enter Tryd.func51, Tryd.ntmps51
  go_wp2_with fail
  all_goals
    go_ret
    exact ⟨by first | rfl | simp_all, (Only.refl _ _).alloc _⟩
end Go.Proofs.YtbmchgjilkoplaaDoor

/- Chapter 10, the document's bus: its lists put anew; drop. -/
import Derived.Test.YtdpgdjpphnbfnaaIB1
import Derived.Test.YtdpgdjpphnbfnaaCG2
namespace Go.Vx
/-- What is none of a thing's, and what was made since. -/
def Up (U : Nat → Prop) (w w2 : World) : Nat → Prop := fun k => U k ∨ (w.heap.size ≤ k ∧ k < w2.heap.size)
/-- What stands as long as nothing of its own changes. -/
def StepsR (R : (Nat → Prop) → World → Prop) : Prop := ∀ (U V S : Nat → Prop) (w w2 : World), R U w → Only S w w2 → (∀ k, k < w.heap.size → S k → U k) → (∀ k, V k → U k ∨ (w.heap.size ≤ k ∧ k < w2.heap.size)) → R V w2
variable {R : (Nat → Prop) → World → Prop} {U : Nat → Prop} {w w2 w3 w4 : World}
theorem up_in (hR : StepsR R) (h : R U w) (ho : Only (fun _ => False) w w2) : R (Up U w w2) w2 := hR U (Up U w w2) (fun _ => False) w w2 h ho (fun _ _ h => h.elim) (fun _ h => h)
theorem up_down (hR : StepsR R) (h : R (Up U w w2) w3) : R U w3 := hR (Up U w w2) U (fun _ => False) w3 w3 h (Only.refl _ _) (fun _ _ h => h.elim) (fun _ h => Or.inl (Or.inl h))
theorem up_only (ho : Only (fun _ => False) w w2) (h3 : Only (fun k => ¬ Up U w w2 k) w2 w3) : Only (fun k => ¬ U k) w w3 := (ho.mono (fun _ _ h => h.elim)).trans (h3.mono (fun _ _ h h2 => h (Or.inl h2)))
theorem up_keep (h3 : Only (fun k => ¬ Up U w w2 k) w2 w3) {b : Nat} {o : Obj} (hb : w2.heap[b]? = some o) (h1 : w.heap.size ≤ b) : w3.heap[b]? = some o := by
  have hl := (Array.getElem?_eq_some_iff.1 hb).1
  rw [h3.block b hl (fun h => h (Or.inr ⟨h1, hl⟩))]
  exact hb
theorem up_out (hR : StepsR R) (h : R (Up U w w2) w3) (ho : Only (fun _ => False) w w2) (h3 : Only (fun k => ¬ Up U w w2 k) w2 w3) {rc : Nat} (h1 : w.heap.size ≤ rc) (h2 : rc < w2.heap.size) (h4 : Only (fun k => k = rc) w3 w4) : R U w4 ∧ Only (fun k => ¬ U k) w w4 := by
  refine ⟨hR (Up U w w2) U (fun k => k = rc) w3 w4 h h4 (fun k _ e => by subst e; exact Or.inr ⟨h1, h2⟩) (fun _ h => Or.inl (Or.inl h)), ?_⟩
  exact (up_only ho h3).newer h4 h1
end Go.Vx
namespace Go.Proofs.Ytdpgdjpphnbfnaa
open Go.ChangeShapes Go.WideShapes Go.ChangeAt Go.RowKit
open Go.Vx
set_option linter.unusedVariables false
variable {U V S : Nat → Prop} {w w2 w3 : World} {rb : Nat} {vp vw : Value} {s : Bs}

theorem rb_steps (rb : Nat) (s : Bs) : StepsR (fun U w => RbX U w rb s) := fun U V S w w2 h ho hS hV => RbX.step h ho hS hV
theorem wtK : Kind Try.prog wtL 27 110 := kind_of (z := .agg #[.int .i64 0, .int .i64 0, .int .i64 0, .int .u32 0, .int .u32 0, .int .u32 0, .int .u32 0, .int .u32 0, .int .u32 0]) (b := 48) Try.underlying27 (by kernel_rfl) rfl (by decide)
theorem pcK : Kind Try.prog pcL 26 106 := kind_of (z := .agg #[.int .i64 0, .bool false, .int .u32 0]) (b := 16) Try.underlying26 (by kernel_rfl) rfl (by decide)
theorem RbAt.setL {v' : Value} {xs' : List Wt} (h : RbAt U w rb vp vw s) (ho : OwnL wtL w3 0 110 v' xs') (hon : Only (fun k => vw.ownBlock = some k) w w3) (hl : ∀ k, v'.ownBlock = some k → vw.ownBlock = some k ∨ w.heap.size ≤ k) (hn : xs'.length ≤ 1000000) :
    (∃ x, w3.cell? ⟨rb, 1, none⟩ = some x) ∧ w3.frozen? ⟨rb, 1, none⟩ = false ∧ RbX U (w3.setCell ⟨rb, 1, none⟩ v') rb ⟨s.ps, xs'⟩ ∧ Only (fun k => ¬ U k) w (w3.setCell ⟨rb, 1, none⟩ v') := by
  have n1 : ∀ k, vw.ownBlock = some k → k ≠ rb := fun k hk => by
    obtain ⟨cur, hc⟩ := own_tag h.l hk
    exact tag_ne hc h.r (by decide)
  have n2 : ∀ k j, vw.ownBlock = some k → vp.ownBlock = some j → k ≠ j := fun k j hk hj => by
    obtain ⟨cur, hc⟩ := own_tag h.l hk
    obtain ⟨cur2, hc2⟩ := own_tag h.p hj
    exact tag_ne hc hc2 (by decide)
  have n3 : ∀ j, vp.ownBlock = some j → j ≠ rb := fun j hj => by
    obtain ⟨cur2, hc2⟩ := own_tag h.p hj
    exact tag_ne hc2 h.r (by decide)
  have hr3 : w3.heap[rb]? = some (.cells #[vp, vw] 29 (0, 0)) := by rw [hon.block rb (lt_of_some h.r) (fun e => n1 rb e rfl)]; exact h.r
  have hne' : ∀ k, v'.ownBlock = some k → k ≠ rb := fun k hk => by
    obtain ⟨cur, hc⟩ := own_tag ho hk
    exact tag_ne hc hr3 (by decide)
  have hs : Only (fun k => k = rb) w3 (w3.setCell ⟨rb, 1, none⟩ v') := Only.setCell (S := fun k => k = rb) (Only.refl _ w3) (Or.inl rfl) _
  have he3 : OwnL pcL w3 0 106 vp s.ps := h.p.kept hon (fun k hk e => n2 k k e hk rfl)
  have hul : ∀ k, v'.ownBlock = some k → ¬ U k := by
    intro k hk
    rcases hl k hk with hl | hl
    · exact h.ul k hl
    · intro hu
      have := h.low k hu
      omega
  have hrr : (w3.setCell ⟨rb, 1, none⟩ v').heap[rb]? = some (.cells #[vp, v'] 29 (0, 0)) := by rw [heap_setCell_same _ _ 1 _ _ v' hr3]; rfl
  refine ⟨⟨vw, (cell_of_row _ _ 1 _ _ (0, 0) hr3).trans rfl⟩, by simp [World.frozen?, hr3], ⟨_, _, ⟨hrr, he3.kept hs (fun k hk e => n3 k hk e), ho.kept hs hne', h.ur, h.up, hul, fun k hk => Nat.lt_of_lt_of_le (h.low k hk) (Nat.le_trans hon.size hs.size), h.np, hn⟩⟩, ?_⟩
  refine (hon.mono (fun k _ hk => h.ul k hk)).trans ?_
  exact hs.mono (fun k _ hk => by subst hk; exact h.ur)
theorem RbAt.setP {v' : Value} {xs' : List Pc} (h : RbAt U w rb vp vw s) (ho : OwnL pcL w3 0 106 v' xs') (hon : Only (fun k => vp.ownBlock = some k) w w3) (hl : ∀ k, v'.ownBlock = some k → vp.ownBlock = some k ∨ w.heap.size ≤ k) (hn : xs'.length ≤ 1000000) :
    (∃ x, w3.cell? ⟨rb, 0, none⟩ = some x) ∧ w3.frozen? ⟨rb, 0, none⟩ = false ∧ RbX U (w3.setCell ⟨rb, 0, none⟩ v') rb ⟨xs', s.ws⟩ ∧ Only (fun k => ¬ U k) w (w3.setCell ⟨rb, 0, none⟩ v') := by
  have n1 : ∀ k, vp.ownBlock = some k → k ≠ rb := fun k hk => by
    obtain ⟨cur, hc⟩ := own_tag h.p hk
    exact tag_ne hc h.r (by decide)
  have n2 : ∀ k j, vp.ownBlock = some k → vw.ownBlock = some j → k ≠ j := fun k j hk hj => by
    obtain ⟨cur, hc⟩ := own_tag h.p hk
    obtain ⟨cur2, hc2⟩ := own_tag h.l hj
    exact tag_ne hc hc2 (by decide)
  have n3 : ∀ j, vw.ownBlock = some j → j ≠ rb := fun j hj => by
    obtain ⟨cur2, hc2⟩ := own_tag h.l hj
    exact tag_ne hc2 h.r (by decide)
  have hr3 : w3.heap[rb]? = some (.cells #[vp, vw] 29 (0, 0)) := by rw [hon.block rb (lt_of_some h.r) (fun e => n1 rb e rfl)]; exact h.r
  have hne' : ∀ k, v'.ownBlock = some k → k ≠ rb := fun k hk => by
    obtain ⟨cur, hc⟩ := own_tag ho hk
    exact tag_ne hc hr3 (by decide)
  have hs : Only (fun k => k = rb) w3 (w3.setCell ⟨rb, 0, none⟩ v') := Only.setCell (S := fun k => k = rb) (Only.refl _ w3) (Or.inl rfl) _
  have he3 : OwnL wtL w3 0 110 vw s.ws := h.l.kept hon (fun k hk e => n2 k k e hk rfl)
  have hul : ∀ k, v'.ownBlock = some k → ¬ U k := by
    intro k hk
    rcases hl k hk with hl | hl
    · exact h.up k hl
    · intro hu
      have := h.low k hu
      omega
  have hrr : (w3.setCell ⟨rb, 0, none⟩ v').heap[rb]? = some (.cells #[v', vw] 29 (0, 0)) := by rw [heap_setCell_same _ _ 0 _ _ v' hr3]; rfl
  refine ⟨⟨vp, (cell_of_row _ _ 0 _ _ (0, 0) hr3).trans rfl⟩, by simp [World.frozen?, hr3], ⟨_, _, ⟨hrr, ho.kept hs hne', he3.kept hs (fun k hk e => n3 k hk e), h.ur, hul, h.ul, fun k hk => Nat.lt_of_lt_of_le (h.low k hk) (Nat.le_trans hon.size hs.size), hn, h.nl⟩⟩, ?_⟩
  refine (hon.mono (fun k _ hk => h.up k hk)).trans ?_
  exact hs.mono (fun k _ hk => by subst hk; exact h.ur)
theorem wt_from (g M cb i : Nat) (hi : i < M) (hc : M ≤ cb) : ∃ q : Option Addr, (∀ wv, (Instr.slice 27 (.slice (some ⟨g, 0, none⟩) M cb) (some (.int .i64 ((i : Int) + 1))) none none).run Try.prog wv = .ok (.slice q (M - (i + 1)) (cb - (i + 1))) wv) ∧ (i + 1 < M → q = some ⟨g, (i + 1) * 9, none⟩) := by
  have ht : Try.prog.underlying 27 = some (.slice (Try.prog.elem 27)) := by kernel_rfl
  have hsz : ∀ wv, (sizeOf (Try.prog.elem 27)).run Try.prog wv = .ok 9 wv := by
    have he : Try.prog.elem 27 = 110 := by kernel_rfl
    rw [he]
    obtain ⟨k, z, h1, _, h2, _⟩ := wtK.hi
    intro wv
    have h3 : k.size = 9 := h2
    simp [sizeOf, typeInfo, h1, h3]
  by_cases hq : cb = i + 1
  · refine ⟨some ⟨g, 0, none⟩, fun wv => ?_, fun h => by omega⟩
    rw [run_slice_l wv 27 (some ⟨g, 0, none⟩) M cb ht .i64 ((i : Int) + 1) (by omega) (by omega), hsz]
    have e : ((i : Int) + 1).toNat = i + 1 := by omega
    rw [e, hq]
    simp [sliced, Result.andThen]
  · refine ⟨some ⟨g, (i + 1) * 9, none⟩, fun wv => ?_, fun h => rfl⟩
    rw [run_slice_l wv 27 (some ⟨g, 0, none⟩) M cb ht .i64 ((i : Int) + 1) (by omega) (by omega), hsz]
    have e : ((i : Int) + 1).toNat = i + 1 := by omega
    rw [e]
    simp [sliced, Result.andThen, hq, addr_add]
theorem pc_from (g M cb i : Nat) (hi : i < M) (hc : M ≤ cb) : ∃ q : Option Addr, (∀ wv, (Instr.slice 26 (.slice (some ⟨g, 0, none⟩) M cb) (some (.int .i64 ((i : Int) + 1))) none none).run Try.prog wv = .ok (.slice q (M - (i + 1)) (cb - (i + 1))) wv) ∧ (i + 1 < M → q = some ⟨g, (i + 1) * 3, none⟩) := by
  have ht : Try.prog.underlying 26 = some (.slice (Try.prog.elem 26)) := by kernel_rfl
  have hsz : ∀ wv, (sizeOf (Try.prog.elem 26)).run Try.prog wv = .ok 3 wv := by
    have he : Try.prog.elem 26 = 106 := by kernel_rfl
    rw [he]
    obtain ⟨k, z, h1, _, h2, _⟩ := pcK.hi
    intro wv
    have h3 : k.size = 3 := h2
    simp [sizeOf, typeInfo, h1, h3]
  by_cases hq : cb = i + 1
  · refine ⟨some ⟨g, 0, none⟩, fun wv => ?_, fun h => by omega⟩
    rw [run_slice_l wv 26 (some ⟨g, 0, none⟩) M cb ht .i64 ((i : Int) + 1) (by omega) (by omega), hsz]
    have e : ((i : Int) + 1).toNat = i + 1 := by omega
    rw [e, hq]
    simp [sliced, Result.andThen]
  · refine ⟨some ⟨g, (i + 1) * 3, none⟩, fun wv => ?_, fun h => rfl⟩
    rw [run_slice_l wv 26 (some ⟨g, 0, none⟩) M cb ht .i64 ((i : Int) + 1) (by omega) (by omega), hsz]
    have e : ((i : Int) + 1).toNat = i + 1 := by omega
    rw [e]
    simp [sliced, Result.andThen, hq, addr_add]
theorem only_set9 (w : World) (g : Nat) (a0 a1 a2 a3 a4 a5 a6 a7 a8 : Value) : Only (fun k => k = g) w (((((((((w.setCell ⟨g, 0, none⟩ a0).setCell ⟨g, 1, none⟩ a1).setCell ⟨g, 2, none⟩ a2).setCell ⟨g, 3, none⟩ a3).setCell ⟨g, 4, none⟩ a4).setCell ⟨g, 5, none⟩ a5).setCell ⟨g, 6, none⟩ a6).setCell ⟨g, 7, none⟩ a7).setCell ⟨g, 8, none⟩ a8) :=
  (((((((((Only.refl (fun k => k = g) w).setCell (p := ⟨g, 0, none⟩) (Or.inl rfl) a0).setCell (p := ⟨g, 1, none⟩) (Or.inl rfl) a1).setCell (p := ⟨g, 2, none⟩) (Or.inl rfl) a2).setCell (p := ⟨g, 3, none⟩) (Or.inl rfl) a3).setCell (p := ⟨g, 4, none⟩) (Or.inl rfl) a4).setCell (p := ⟨g, 5, none⟩) (Or.inl rfl) a5).setCell (p := ⟨g, 6, none⟩) (Or.inl rfl) a6).setCell (p := ⟨g, 7, none⟩) (Or.inl rfl) a7).setCell (p := ⟨g, 8, none⟩) (Or.inl rfl) a8
theorem RbAt.lift (h : RbAt U w rb vp vw s) (ho : Only (fun _ => False) w w2) : RbAt (Up U w w2) w2 rb vp vw s := h.step ho (fun _ _ h => h.elim) (fun _ h => h)
set_option maxRecDepth 100000 in
set_option maxHeartbeats 2000000 in
theorem drop_ok (h : RbAt U w rb vp vw s) (i : Nat) (hib : i < s.ws.length) : Calls Try.prog 47 #[.pointer (some ⟨rb, 0, none⟩), .int .i64 (i : Int)] w fun e w' => e = .returned (wtV (wAt s i)) ∧ RbX U w' rb ⟨s.ps, cuI s.ws i⟩ ∧ Only (fun k => ¬ U k) w w' := by
  have hwi : wAt s i = s.ws[i] := getD_d hib
  rw [hwi]
  obtain ⟨pb0, cb, hvb, hcb, _, hbg⟩ := h.l.form
  obtain ⟨g, rfl, _⟩ := hbg (by omega)
  obtain ⟨p9, c9, hv9, hb9⟩ := own_w9 (h.quiet (w2 := w.alloc (.cells #[.int .i64 0, .int .i64 0, .int .i64 0, .int .u32 0, .int .u32 0, .int .u32 0, .int .u32 0, .int .u32 0, .int .u32 0] 110)) ((Only.refl _ w).alloc _)).l
  rw [hvb] at hv9
  simp only [Value.slice.injEq, true_and] at hv9
  obtain ⟨g9, hg9, hW⟩ := hb9 i hib
  have hgg : g9 = g := by
    have := hv9.1.trans hg9
    simpa using this.symm
  subst hgg
  subst hvb
  obtain ⟨a0, a1, a2, a3, a4, a5, a6, a7, a8⟩ := hW
  obtain ⟨w1, hw1⟩ : ∃ w1, w1 = w.alloc (.cells #[.int .i64 0, .int .i64 0, .int .i64 0, .int .u32 0, .int .u32 0, .int .u32 0, .int .u32 0, .int .u32 0, .int .u32 0] 110) := ⟨_, rfl⟩
  rw [← hw1] at a0 a1 a2 a3 a4 a5 a6 a7 a8
  have ho1 : Only (fun _ => False) w w1 := by rw [hw1]; exact (Only.refl _ w).alloc _
  have hz1 : w1.heap[w.heap.size]? = some (.cells #[.int .i64 0, .int .i64 0, .int .i64 0, .int .u32 0, .int .u32 0, .int .u32 0, .int .u32 0, .int .u32 0, .int .u32 0] 110 (0, 0)) := by rw [hw1]; exact heap_alloc_last w _
  have hs1 : w1.heap.size = w.heap.size + 1 := by rw [hw1]; simp
  have c1 := (h.quiet ho1).c1
  obtain ⟨M, hM⟩ : ∃ M, M = s.ws.length := ⟨_, rfl⟩
  have HM := Vx.hid hM
  have hnb := h.nl
  rw [← hM] at hcb hib hnb c1
  obtain ⟨x, hx⟩ : ∃ x, x = s.ws[i] := ⟨_, rfl⟩
  rw [← hx] at a0 a1 a2 a3 a4 a5 a6 a7 a8 ⊢
  obtain ⟨ya, yt, yh, ⟨m0, m1, m2, m3, m4, m5⟩⟩ := x
  dsimp only at a0 a1 a2 a3 a4 a5 a6 a7 a8 ⊢
  have hidx : 0 ≤ (i : Int) ∧ (i : Int) < (M : Int) := by omega
  have hwi2 : IntKind.i64.wrap ((i : Int) + 1) = (i : Int) + 1 := by rw [IntKind.wrap_i64]; omega
  have hsc : 0 ≤ (i : Int) ∧ (i : Int) ≤ (cb : Int) := by omega
  obtain ⟨w2, hw2⟩ : ∃ w2, w2 = w1.alloc (.cells #[.int .i64 ya, .int .i64 yt, .int .i64 yh, .int .u32 m0, .int .u32 m1, .int .u32 m2, .int .u32 m3, .int .u32 m4, .int .u32 m5] 110) := ⟨_, rfl⟩
  have ho2 : Only (fun _ => False) w w2 := ho1.trans (by rw [hw2]; exact (Only.refl _ w1).alloc _)
  have hs2 : w2.heap.size = w.heap.size + 2 := by rw [hw2]; simp; omega
  obtain ⟨rc, hrc⟩ : ∃ rc, rc = w.heap.size := ⟨_, rfl⟩
  obtain ⟨xb, hxb⟩ : ∃ xb, xb = w1.heap.size := ⟨_, rfl⟩
  have hx2 : w2.heap[xb]? = some (.cells #[.int .i64 ya, .int .i64 yt, .int .i64 yh, .int .u32 m0, .int .u32 m1, .int .u32 m2, .int .u32 m3, .int .u32 m4, .int .u32 m5] 110 (0, 0)) := by rw [hw2, hxb]; exact heap_alloc_last w1 _
  have hz2 : w2.heap[rc]? = some (.cells #[.int .i64 0, .int .i64 0, .int .i64 0, .int .u32 0, .int .u32 0, .int .u32 0, .int .u32 0, .int .u32 0, .int .u32 0] 110 (0, 0)) := by
    have h9 : Only (fun _ => False) w1 w2 := by rw [hw2]; exact (Only.refl _ w1).alloc _
    rw [hrc]; exact Only.keep h9 hz1 (fun h => h)
  have h2 := h.lift ho2
  have c12 := h2.c1
  rw [← hM] at c12
  have HH := Vx.hid h2
  have HO2 : Hid (Only (fun _ => False) w w2 ∧ w2.heap[xb]? = some (.cells #[.int .i64 ya, .int .i64 yt, .int .i64 yh, .int .u32 m0, .int .u32 m1, .int .u32 m2, .int .u32 m3, .int .u32 m4, .int .u32 m5] 110 (0, 0)) ∧ w2.heap[rc]? = some (.cells #[.int .i64 0, .int .i64 0, .int .i64 0, .int .u32 0, .int .u32 0, .int .u32 0, .int .u32 0, .int .u32 0, .int .u32 0] 110 (0, 0)) ∧ w.heap.size ≤ rc ∧ w.heap.size ≤ xb ∧ rc < w2.heap.size) := ⟨ho2, hx2, hz2, by omega, by omega, by omega⟩
  obtain ⟨q2, hsl, hq2⟩ := wt_from g9 M cb i hib hcb
  have HQ2 := Vx.hid hq2
  have hT1 : i = (s.ws.take i).length := by rw [List.length_take]; have := HM.out; omega
  have hT2 : M - (i + 1) = (s.ws.drop (i + 1)).length := by rw [List.length_drop, HM.out]
  have HT1 := Vx.hid hT1
  have HT2 := Vx.hid hT2
  have hS1 : 0 < (s.ws.take i).length → ∃ ad, (some ⟨g9, 0, none⟩ : Option Addr) = some ad ∧ ∀ j u, (fl wtL (s.ws.take i))[j]? = some u → w2.cell? (ad.add j) = some u := fun _ => ⟨_, rfl, fun j u hj => by
    have := HH.out.l.part 0 i j u (by rw [List.drop_zero]; exact hj)
    rw [Nat.zero_mul] at this
    exact this⟩
  have HS1 := Vx.hid hS1
  have hSl : ([] : List Wt).length + (s.ws.take i).length ≤ 10000000 := by rw [← hT1]; simp; omega
  have HSL := Vx.hid hSl
  clear hq2 hT1 hT2 hS1 hSl h h2 hbg hM hx hv9 hg9 hb9 ho1 hz1 hs1 ho2 hs2 hx2 hz2 hwi
  go_enter Try.func47, Try.ntmps47
  go_upto_region 1 with fail
  rw [← hw1, ← hrc]
  clear hw1 hrc
  go_upto_region 2 with fail
  rw [← hw2, ← hxb]
  clear hw2 hxb a0 a1 a2 a3 a4 a5 a6 a7 a8 c1
  go_upto_region 4 with (at_builtin; refine wpList_append_many wtK _ rfl _ _ rfl 0 (.slice none 0 0) [] rfl (OwnL.nil _ _ _ _) (some ⟨g9, 0, none⟩) cb i (s.ws.take i) rfl HT1.out HS1.out HSL.out (Nat.zero_le _) ?_; intro v1 w4 hv1 hv2 hv3; obtain ⟨p1, c1', hv', _⟩ := hv1.form; obtain ⟨n1, hn1⟩ : ∃ m, m = (([] : List Wt) ++ s.ws.take i).length := ⟨_, rfl⟩; rw [← hn1] at hv'; subst hv'; clear hn1)
  have hon : Only (fun _ => False) w2 w4 := hv2.mono (fun k _ h => by cases h)
  have hb1 : ∀ k, (Value.slice p1 n1 c1').ownBlock = some k → w2.heap.size ≤ k := fun k hk => by
    rcases lies_of hv3 k hk with h | h
    · cases h
    · exact h
  have h1' := HH.out.quiet hon
  have c3' := h1'.c1
  rw [← HM.out] at c3'
  have hS2 : 0 < (s.ws.drop (i + 1)).length → ∃ ad, q2 = some ad ∧ ∀ j u, (fl wtL (s.ws.drop (i + 1)))[j]? = some u → w4.cell? (ad.add j) = some u := fun h0 => ⟨_, HQ2.out (by have := HT2.out; omega), fun j u hj => by
    have := h1'.l.part (i + 1) (s.ws.drop (i + 1)).length j u (by rw [List.take_length]; exact hj)
    exact this⟩
  have hSl2 : (([] : List Wt) ++ s.ws.take i).length + (s.ws.drop (i + 1)).length ≤ 10000000 := by
    rw [List.nil_append, ← HT1.out, ← HT2.out]; omega
  have hFL : ((([] : List Wt) ++ s.ws.take i) ++ s.ws.drop (i + 1)).length ≤ 1000000 := by
    rw [List.length_append, List.nil_append, ← HT1.out, ← HT2.out]; omega
  have HS2 := Vx.hid hS2
  have HSL2 := Vx.hid hSl2
  have HFL := Vx.hid hFL
  have HV1 := Vx.hid (⟨hv1, hon, hb1⟩ : _ ∧ _ ∧ _)
  clear hv1 hv2 hv3 hon hb1 h1' hS2 hSl2 hFL HS1 HSL c12
  go_upto_region 5 with (at_builtin; refine wpList_append_many wtK _ rfl _ _ rfl 0 (.slice p1 n1 c1') _ rfl HV1.out.1 q2 (cb - (i + 1)) (M - (i + 1)) (s.ws.drop (i + 1)) rfl HT2.out HS2.out HSL2.out (Nat.zero_le _) ?_; intro v2 w5 hv1 hv2 hv3; obtain ⟨p2, c2', hv', _⟩ := hv1.form; obtain ⟨n2, hn2⟩ : ∃ m, m = ((([] : List Wt) ++ s.ws.take i) ++ s.ws.drop (i + 1)).length := ⟨_, rfl⟩; rw [← hn2] at hv'; subst hv'; clear hn2; obtain ⟨⟨x0, hx0⟩, hf0, hR, hO⟩ := HH.out.setL hv1 ((HV1.out.2.1.beyond hv2 HV1.out.2.2).mono (fun _ _ h => h.elim)) (fun k hk => Or.inr ((lies_of hv3 k hk).elim (fun h => HV1.out.2.2 k h) (fun h => Nat.le_trans HV1.out.2.1.size h))) HFL.out; have HR := Vx.hid hR; have HO := Vx.hid hO; clear hv1 hv2 hv3 hR hO)
  obtain ⟨w6, hw6⟩ : ∃ w6, w6 = w5.setCell ⟨rb, 1, none⟩ (.slice p2 n2 c2') := ⟨_, rfl⟩
  rw [← hw6] at HR HO ⊢
  have hx6 := up_keep HO.out HO2.out.2.1 HO2.out.2.2.2.2.1
  have hz6 := up_keep HO.out HO2.out.2.2.1 HO2.out.2.2.2.1
  have x0 : w6.cell? ⟨xb, 0, none⟩ = some (.int .i64 ya) := (cell_of_row _ _ 0 _ _ (0, 0) hx6).trans rfl
  have z0 : w6.cell? ⟨rc, 0, none⟩ = some (.int .i64 0) := (cell_of_row _ _ 0 _ _ (0, 0) hz6).trans rfl
  have x1 : w6.cell? ⟨xb, 1, none⟩ = some (.int .i64 yt) := (cell_of_row _ _ 1 _ _ (0, 0) hx6).trans rfl
  have z1 : w6.cell? ⟨rc, 1, none⟩ = some (.int .i64 0) := (cell_of_row _ _ 1 _ _ (0, 0) hz6).trans rfl
  have x2 : w6.cell? ⟨xb, 2, none⟩ = some (.int .i64 yh) := (cell_of_row _ _ 2 _ _ (0, 0) hx6).trans rfl
  have z2 : w6.cell? ⟨rc, 2, none⟩ = some (.int .i64 0) := (cell_of_row _ _ 2 _ _ (0, 0) hz6).trans rfl
  have x3 : w6.cell? ⟨xb, 3, none⟩ = some (.int .u32 m0) := (cell_of_row _ _ 3 _ _ (0, 0) hx6).trans rfl
  have z3 : w6.cell? ⟨rc, 3, none⟩ = some (.int .u32 0) := (cell_of_row _ _ 3 _ _ (0, 0) hz6).trans rfl
  have x4 : w6.cell? ⟨xb, 4, none⟩ = some (.int .u32 m1) := (cell_of_row _ _ 4 _ _ (0, 0) hx6).trans rfl
  have z4 : w6.cell? ⟨rc, 4, none⟩ = some (.int .u32 0) := (cell_of_row _ _ 4 _ _ (0, 0) hz6).trans rfl
  have x5 : w6.cell? ⟨xb, 5, none⟩ = some (.int .u32 m2) := (cell_of_row _ _ 5 _ _ (0, 0) hx6).trans rfl
  have z5 : w6.cell? ⟨rc, 5, none⟩ = some (.int .u32 0) := (cell_of_row _ _ 5 _ _ (0, 0) hz6).trans rfl
  have x6 : w6.cell? ⟨xb, 6, none⟩ = some (.int .u32 m3) := (cell_of_row _ _ 6 _ _ (0, 0) hx6).trans rfl
  have z6 : w6.cell? ⟨rc, 6, none⟩ = some (.int .u32 0) := (cell_of_row _ _ 6 _ _ (0, 0) hz6).trans rfl
  have x7 : w6.cell? ⟨xb, 7, none⟩ = some (.int .u32 m4) := (cell_of_row _ _ 7 _ _ (0, 0) hx6).trans rfl
  have z7 : w6.cell? ⟨rc, 7, none⟩ = some (.int .u32 0) := (cell_of_row _ _ 7 _ _ (0, 0) hz6).trans rfl
  have x8 : w6.cell? ⟨xb, 8, none⟩ = some (.int .u32 m5) := (cell_of_row _ _ 8 _ _ (0, 0) hx6).trans rfl
  have z8 : w6.cell? ⟨rc, 8, none⟩ = some (.int .u32 0) := (cell_of_row _ _ 8 _ _ (0, 0) hz6).trans rfl
  have zf : ∀ j, w6.frozen? ⟨rc, j, none⟩ = false := fun j => by simp [World.frozen?, hz6]
  have HF : Hid (∀ w7, Only (fun k => k = rc) w6 w7 → RbX U w7 rb ⟨s.ps, cuI s.ws i⟩ ∧ Only (fun k => ¬ U k) w w7) := fun w7 h7 => by
    have e9 : cuI s.ws i = (([] : List Wt) ++ s.ws.take i) ++ s.ws.drop (i + 1) := rfl
    rw [e9]
    exact up_out (rb_steps rb _) HR.out HO2.out.1 HO.out HO2.out.2.2.2.1 HO2.out.2.2.2.2.2 h7
  clear hx6 hz6 hw6 HR HO hf0 hx0 c3'
  go_wp2_with fail
  refine bodyPost_ret (v := wtV ⟨ya, yt, yh, ⟨m0, m1, m2, m3, m4, m5⟩⟩) ?_ rfl ⟨rfl, ?_⟩
  · simp [results, Try.results47, go_sem, wtV, z0, z1, z2, z3, z4, z5, z6, z7, z8]
  · exact HF.out _ (only_set9 _ _ _ _ _ _ _ _ _ _ _)
end Go.Proofs.Ytdpgdjpphnbfnaa

import Derived.Test.YtbmchgjilkoplaaDoorCk13
/- Chapter 7, the document's store: Put. -/
namespace Go.Proofs.YtbmchgjilkoplaaDoor
open Go.ChangeShapes Go.WideShapes Go.ChangeAt Go.RowKit
open Go.Vx
set_option linter.unusedVariables false

/-- What is new is none of the store's. -/
theorem RsAt.more {U : Nat → Prop} {w w2 : World} {rb : Nat} {vb ve : Value} {bs : List (Int × Int)} {es : List En} (h : RsAt U w rb vb ve bs es) (ho : Only (fun _ => False) w w2) : RsAt (fun k => U k ∨ (w.heap.size ≤ k ∧ k < w2.heap.size)) w2 rb vb ve bs es := by
  have h2 := h.quiet ho
  refine ⟨h2.r, h2.b, h2.e, ?_, fun k hk => ?_, fun k hk => ?_, fun k hk => ?_, h2.nb, h2.ne⟩
  · rintro (hu | hu)
    · exact h.ur hu
    · have := lt_of_some h.r; omega
  · rintro (hu | hu)
    · exact h.ub k hk hu
    · have := (own_lt h.b hk).2; omega
  · rintro (hu | hu)
    · exact h.ue k hk hu
    · have := (own_lt h.e hk).2; omega
  · rcases hk with hk | hk
    · exact h2.low k hk
    · exact hk.2
theorem RcAt.less {U V : Nat → Prop} {w : World} {rb : Nat} {bs : List (Int × Int)} {es : List En} (h : RcAt V w rb bs es) (hu : ∀ k, U k → V k) : RcAt U w rb bs es := by
  obtain ⟨vb, ve, h⟩ := h
  exact ⟨vb, ve, h.r, h.b, h.e, fun hk => h.ur (hu _ hk), fun k hk hk2 => h.ub k hk (hu _ hk2), fun k hk hk2 => h.ue k hk (hu _ hk2), fun k hk => h.low k (hu _ hk), h.nb, h.ne⟩
/-- A call that changes the store, from within a call that has made blocks of its own. -/
theorem insert_in {U : Nat → Prop} {w w2 : World} {rb : Nat} {vb ve : Value} {bs : List (Int × Int)} {es : List En} (h : RsAt U w rb vb ve bs es) (ho : Only (fun _ => False) w w2) (x : En) (hlen : es.length < 1000000) : Calls Tryd.prog 64 #[.pointer (some ⟨rb, 0, none⟩), .agg (enV x)] w2 fun e w' => e = .returned (.tuple #[]) ∧ RowKit.Hid (RcAt U w' rb bs (insF es x) ∧ Only (fun k => ¬ U k) w w' ∧ ∀ k, w.heap.size ≤ k → k < w2.heap.size → w'.heap[k]? = w2.heap[k]?) := by
  refine (insert_ok ⟨_, _, h.more ho⟩ x hlen).mono ?_
  rintro e w' ⟨rfl, h1, h2⟩
  refine ⟨rfl, h1.less (fun k hk => Or.inl hk), (ho.mono (fun _ _ h => h.elim)).trans (h2.mono (fun k _ hk hu => hk (Or.inl hu))), fun k hk hk2 => h2.block k hk2 (fun hn => hn (Or.inr ⟨hk, hk2⟩))⟩
theorem cut_in {U : Nat → Prop} {w w2 : World} {rb : Nat} {vb ve : Value} {bs : List (Int × Int)} {es : List En} (h : RsAt U w rb vb ve bs es) (ho : Only (fun _ => False) w w2) (i : Nat) (hi : i < es.length) (tt : Sl) : Calls Tryd.prog 65 #[.pointer (some ⟨rb, 0, none⟩), .int .i64 (i : Int), .agg #[.int .i64 tt.1, .int .i64 tt.2]] w2 fun e w' => e = .returned (.agg (enC es[i]).toArray) ∧ RowKit.Hid (RcAt U w' rb bs (cutL es i tt) ∧ Only (fun k => ¬ U k) w w' ∧ ∀ k, w.heap.size ≤ k → k < w2.heap.size → w'.heap[k]? = w2.heap[k]?) := by
  refine (cut_ok (h.more ho) i hi tt).mono ?_
  rintro e w' ⟨rfl, h1, h2⟩
  refine ⟨rfl, h1.less (fun k hk => Or.inl hk), (ho.mono (fun _ _ h => h.elim)).trans (h2.mono (fun k _ hk hu => hk (Or.inl hu))), fun k hk hk2 => h2.block k hk2 (fun hn => hn (Or.inr ⟨hk, hk2⟩))⟩
def fromN (f : Sl) : Sl := if f.1 = -1 then (-1, -1) else f
def putE (bs : List (Int × Int)) (es : List En) (a : Sl) (c : Cp) (f : Sl) : Int := if c.kind < 1 ∨ 10 < c.kind then 12 else if freeF bs es a = 0 then (if f.1 = -1 then 0 else fullE (fullF bs es f)) else freeF bs es a
def putL (bs : List (Int × Int)) (es : List En) (a : Sl) (c : Cp) (f : Sl) : List En := if putE bs es a c f = 0 then insF es ⟨a, c, fromN f⟩ else es
set_option maxRecDepth 100000 in
set_option maxHeartbeats 4000000 in
theorem put_ok {U : Nat → Prop} {w : World} {rb : Nat} {bs : List (Int × Int)} {es : List En} (hc : RcAt U w rb bs es) (a : Sl) (c : Cp) (f : Sl) (hlen : es.length < 1000000) : Calls Tryd.prog 30 #[.pointer (some ⟨rb, 0, none⟩), .agg #[.int .i64 a.1, .int .i64 a.2], .agg #[.int .i64 c.kind, .int .i64 c.num, .int .i64 c.rights, .int .u32 c.badge, .int .u32 c.guard, .int .i64 c.gbits, .int .i64 c.root, .int .u32 c.va], .agg #[.int .i64 f.1, .int .i64 f.2]] w fun e w' => e = .returned (.int .i64 (putE bs es a c f)) ∧ RcAt U w' rb bs (putL bs es a c f) ∧ Only (fun k => ¬ U k) w w' := by
  obtain ⟨vb, ve, h⟩ := hc
  obtain ⟨a1, a2⟩ := a
  obtain ⟨d0, d1, d2, d3, d4, d5, d6, d7⟩ := c
  obtain ⟨f1, f2⟩ := f
  have HFR : Hid (∀ wv, Only (fun _ => False) w wv → Calls Tryd.prog 61 #[.pointer (some ⟨rb, 0, none⟩), .agg #[.int .i64 a1, .int .i64 a2]] wv fun e w' => e = .returned (.int .i64 (freeF bs es (a1, a2))) ∧ Only (fun _ => False) wv w') := fun wv hv => free_ok (h.quiet hv) (a1, a2)
  have HFU : Hid (∀ wv, Only (fun _ => False) w wv → Calls Tryd.prog 62 #[.pointer (some ⟨rb, 0, none⟩), .agg #[.int .i64 f1, .int .i64 f2]] wv fun e w' => e = .returned (.tuple #[.int .i64 (fullI (fullF bs es (f1, f2))), .int .i64 (fullE (fullF bs es (f1, f2)))]) ∧ Only (fun _ => False) wv w') := fun wv hv => full_ok (h.quiet hv) (f1, f2)
  have HIN := Vx.hid (fun w2 (ho : Only (fun _ => False) w w2) x => insert_in h ho x hlen)
  obtain ⟨w1, hw1⟩ : ∃ w1, w1 = ((w.alloc (.cells #[.int .i64 a1, .int .i64 a2] 62)).alloc (.cells #[.int .i64 d0, .int .i64 d1, .int .i64 d2, .int .u32 d3, .int .u32 d4, .int .i64 d5, .int .i64 d6, .int .u32 d7] 66)).alloc (.cells #[.int .i64 f1, .int .i64 f2] 62) := ⟨_, rfl⟩
  have HO1 : Hid (Only (fun _ => False) w w1) := by rw [hw1]; exact (((Only.refl _ w).alloc _).alloc _).alloc _
  have HH := Vx.hid h
  have hs1 : w1.heap.size = w.heap.size + 3 := by rw [hw1]; simp
  have bA : w1.heap[w.heap.size]? = some (.cells #[.int .i64 a1, .int .i64 a2] 62 (0, 0)) := by
    rw [hw1, Below.heap_alloc _ _ _ (by simp; omega), Below.heap_alloc _ _ _ (by simp)]
    exact heap_alloc_last w _
  have bC : w1.heap[w.heap.size + 1]? = some (.cells #[.int .i64 d0, .int .i64 d1, .int .i64 d2, .int .u32 d3, .int .u32 d4, .int .i64 d5, .int .i64 d6, .int .u32 d7] 66 (0, 0)) := by
    rw [hw1]
    exact new_second ((Only.refl _ _).alloc _)
  have bF : w1.heap[w.heap.size + 2]? = some (.cells #[.int .i64 f1, .int .i64 f2] 62 (0, 0)) := by
    have h3 := heap_alloc_last ((w.alloc (.cells #[.int .i64 a1, .int .i64 a2] 62)).alloc (.cells #[.int .i64 d0, .int .i64 d1, .int .i64 d2, .int .u32 d3, .int .u32 d4, .int .i64 d5, .int .i64 d6, .int .u32 d7] 66)) (.cells #[.int .i64 f1, .int .i64 f2] 62)
    rw [← hw1] at h3
    simpa using h3
  obtain ⟨ab, hab⟩ : ∃ ab, ab = w.heap.size := ⟨_, rfl⟩
  obtain ⟨cb, hcb⟩ : ∃ cb, cb = w.heap.size + 1 := ⟨_, rfl⟩
  obtain ⟨fb, hfb⟩ : ∃ fb, fb = w.heap.size + 1 + 1 := ⟨_, rfl⟩
  rw [← hcb] at bC
  rw [← hab] at bA
  rw [show w.heap.size + 2 = fb from hfb.symm] at bF
  have HB := Vx.hid (⟨bA, bC, bF, hab, hcb, hfb⟩ : _ ∧ _ ∧ _ ∧ _ ∧ _ ∧ _)
  obtain ⟨⟨A0, A1⟩, _⟩ := slot_cells bA
  obtain ⟨⟨C0, C1, C2, C3, C4, C5, C6, C7⟩, _⟩ := cap_cells bC
  obtain ⟨⟨F0, F1⟩, FZ⟩ := slot_cells bF
  clear h bA bC bF hs1 hlen
  dsimp only
  by_cases hk : d0 < 1 ∨ 10 < d0
  · have HE : Hid (putE bs es (a1, a2) ⟨d0, d1, d2, d3, d4, d5, d6, d7⟩ (f1, f2) = 12) := if_pos hk
    have HR : Hid (RcAt U w1 rb bs (putL bs es (a1, a2) ⟨d0, d1, d2, d3, d4, d5, d6, d7⟩ (f1, f2))) := ⟨_, _, by unfold putL; rw [HE.out]; exact HH.out.quiet HO1.out⟩
    by_cases hk1 : d0 < 1
    · go_enter Tryd.func30, Tryd.ntmps30
      go_upto_region 1 with fail
      rw [← hw1, ← hfb, ← hcb, ← hab]
      clear hw1 hfb hcb hab
      go_wp2_with fail
      all_goals
        go_ret
        exact ⟨by rw [HE.out]; rfl, HR.out, HO1.out.mono (fun _ _ h => h.elim)⟩
    · have hk2 : 10 < d0 := by omega
      clear hk
      go_enter Tryd.func30, Tryd.ntmps30
      go_upto_region 1 with fail
      rw [← hw1, ← hfb, ← hcb, ← hab]
      clear hw1 hfb hcb hab
      go_wp2_with fail
      all_goals
        go_ret
        exact ⟨by rw [HE.out]; rfl, HR.out, HO1.out.mono (fun _ _ h => h.elim)⟩
  · have hk1 : ¬ d0 < 1 := fun h => hk (Or.inl h)
    have hk2 : ¬ 10 < d0 := fun h => hk (Or.inr h)
    have HPE : Hid (putE bs es (a1, a2) ⟨d0, d1, d2, d3, d4, d5, d6, d7⟩ (f1, f2) = if freeF bs es (a1, a2) = 0 then (if f1 = -1 then 0 else fullE (fullF bs es (f1, f2))) else freeF bs es (a1, a2)) := if_neg hk
    clear hk
    by_cases hf : freeF bs es (a1, a2) = 0
    · rw [hf] at HFR
      by_cases hm : f1 = -1
      · subst hm
        have HE : Hid (putE bs es (a1, a2) ⟨d0, d1, d2, d3, d4, d5, d6, d7⟩ (-1, f2) = 0) := by show putE _ _ _ _ _ = _; rw [HPE.out, if_pos hf]; rfl
        have HL : Hid (putL bs es (a1, a2) ⟨d0, d1, d2, d3, d4, d5, d6, d7⟩ (-1, f2) = insF es ⟨(a1, a2), ⟨d0, d1, d2, d3, d4, d5, d6, d7⟩, (-1, -1)⟩) := by show putL _ _ _ _ _ = _; unfold putL; rw [HE.out]; rfl
        clear HPE hf HFU
        go_enter Tryd.func30, Tryd.ntmps30
        go_upto_region 1 with fail
        rw [← hw1, ← hfb, ← hcb, ← hab]
        clear hw1 hfb hcb hab
        go_wp2_with fail
        refine (HFR.out _ HO1.out).mono ?_
        rintro e w2 ⟨rfl, h2⟩
        have H2 := Vx.hid (HO1.out.trans h2)
        have H12 := Vx.hid h2
        obtain ⟨⟨F02, F12⟩, FZ2⟩ := slot_cells ((h2.block fb (lt_of_some HB.out.2.2.1) (fun h => h)).trans HB.out.2.2.1)
        clear h2 HFR
        go_wp2_with fail
        refine (nowhere_ok _).mono ?_
        rintro e w3 ⟨rfl, h3⟩
        have h13 := H12.out.trans h3
        have H3 := Vx.hid (H2.out.trans h3)
        obtain ⟨⟨A03, A13⟩, _⟩ := slot_cells ((h13.block ab (lt_of_some HB.out.1) (fun h => h)).trans HB.out.1)
        obtain ⟨⟨C03, C13, C23, C33, C43, C53, C63, C73⟩, _⟩ := cap_cells ((h13.block cb (lt_of_some HB.out.2.1) (fun h => h)).trans HB.out.2.1)
        obtain ⟨⟨F03, F13⟩, FZ3⟩ := slot_cells ((h13.block fb (lt_of_some HB.out.2.2.1) (fun h => h)).trans HB.out.2.2.1)
        have n1 : ¬ ab = fb := by have := HB.out.2.2.2; omega
        have n2 : ¬ fb = ab := fun h => n1 h.symm
        have n3 : ¬ cb = fb := by have := HB.out.2.2.2; omega
        have n4 : ¬ fb = cb := fun h => n3 h.symm
        have n5 : w.heap.size ≤ fb := by have := HB.out.2.2.2; omega
        have HO5 : Hid (∀ x y, Only (fun _ => False) w ((w3.setCell ⟨fb, 0, none⟩ x).setCell ⟨fb, 1, none⟩ y)) := fun x y => Only.setCell (Only.setCell H3.out (Or.inr n5) _) (Or.inr n5) _
        clear h3 h13 F02 F12 FZ2
        go_wp2_with fail
        refine (HIN.out _ (HO5.out _ _) ⟨(a1, a2), ⟨d0, d1, d2, d3, d4, d5, d6, d7⟩, (-1, -1)⟩).mono ?_
        rintro e w6 ⟨rfl, H6⟩
        go_wp2_with fail
        all_goals
          go_ret
          exact ⟨by rw [HE.out]; rfl, by rw [HL.out]; exact H6.out.1, H6.out.2.1⟩
      · have hmb : (f1 == -1) = false := beq_eq_false_iff_ne.2 hm
        rcases full_cases bs es (f1, f2) with ⟨i, hfl, _⟩ | hfl | hfl
        · have HE : Hid (putE bs es (a1, a2) ⟨d0, d1, d2, d3, d4, d5, d6, d7⟩ (f1, f2) = 0) := by show putE _ _ _ _ _ = _; rw [HPE.out, if_pos hf, if_neg hm, hfl]; rfl
          have HL : Hid (putL bs es (a1, a2) ⟨d0, d1, d2, d3, d4, d5, d6, d7⟩ (f1, f2) = insF es ⟨(a1, a2), ⟨d0, d1, d2, d3, d4, d5, d6, d7⟩, (f1, f2)⟩) := by
            show putL _ _ _ _ _ = _
            unfold putL
            rw [HE.out]
            have : fromN (f1, f2) = (f1, f2) := if_neg hm
            rw [this]
            rfl
          rw [hfl] at HFU
          simp only [fullI, fullE] at HFU
          clear HPE hf hfl
          go_enter Tryd.func30, Tryd.ntmps30
          go_upto_region 1 with fail
          rw [← hw1, ← hfb, ← hcb, ← hab]
          clear hw1 hfb hcb hab
          go_wp2_with fail
          refine (HFR.out _ HO1.out).mono ?_
          rintro e w2 ⟨rfl, h2⟩
          have H2 := Vx.hid (HO1.out.trans h2)
          have H12 := Vx.hid h2
          obtain ⟨⟨F02, F12⟩, FZ2⟩ := slot_cells ((h2.block fb (lt_of_some HB.out.2.2.1) (fun h => h)).trans HB.out.2.2.1)
          clear h2 HFR
          go_wp2_with fail
          refine (HFU.out _ H2.out).mono ?_
          rintro e w3 ⟨rfl, h3⟩
          have h13 := H12.out.trans h3
          have H3 := Vx.hid (H2.out.trans h3)
          obtain ⟨⟨A03, A13⟩, _⟩ := slot_cells ((h13.block ab (lt_of_some HB.out.1) (fun h => h)).trans HB.out.1)
          obtain ⟨⟨C03, C13, C23, C33, C43, C53, C63, C73⟩, _⟩ := cap_cells ((h13.block cb (lt_of_some HB.out.2.1) (fun h => h)).trans HB.out.2.1)
          obtain ⟨⟨F03, F13⟩, FZ3⟩ := slot_cells ((h13.block fb (lt_of_some HB.out.2.2.1) (fun h => h)).trans HB.out.2.2.1)
          have n1 : ¬ ab = fb := by have := HB.out.2.2.2; omega
          have n2 : ¬ fb = ab := fun h => n1 h.symm
          have n3 : ¬ cb = fb := by have := HB.out.2.2.2; omega
          have n4 : ¬ fb = cb := fun h => n3 h.symm
          have n5 : w.heap.size ≤ fb := by have := HB.out.2.2.2; omega
          clear h3 h13 F02 F12 FZ2
          go_wp2_with fail
          refine (HIN.out _ H3.out ⟨(a1, a2), ⟨d0, d1, d2, d3, d4, d5, d6, d7⟩, (f1, f2)⟩).mono ?_
          rintro e w6 ⟨rfl, H6⟩
          go_wp2_with fail
          all_goals
            go_ret
            exact ⟨by rw [HE.out]; rfl, by rw [HL.out]; exact H6.out.1, H6.out.2.1⟩
        · have HE : Hid (putE bs es (a1, a2) ⟨d0, d1, d2, d3, d4, d5, d6, d7⟩ (f1, f2) = 9) := by show putE _ _ _ _ _ = _; rw [HPE.out, if_pos hf, if_neg hm, hfl]; rfl
          have HR : Hid (∀ wx, Only (fun _ => False) w wx → RcAt U wx rb bs (putL bs es (a1, a2) ⟨d0, d1, d2, d3, d4, d5, d6, d7⟩ (f1, f2))) := fun wx hx => ⟨_, _, by unfold putL; rw [HE.out]; exact HH.out.quiet hx⟩
          rw [hfl] at HFU
          simp only [fullI, fullE] at HFU
          clear HPE hf hfl
          go_enter Tryd.func30, Tryd.ntmps30
          go_upto_region 1 with fail
          rw [← hw1, ← hfb, ← hcb, ← hab]
          clear hw1 hfb hcb hab
          go_wp2_with fail
          refine (HFR.out _ HO1.out).mono ?_
          rintro e w2 ⟨rfl, h2⟩
          have H2 := Vx.hid (HO1.out.trans h2)
          have H12 := Vx.hid h2
          obtain ⟨⟨F02, F12⟩, FZ2⟩ := slot_cells ((h2.block fb (lt_of_some HB.out.2.2.1) (fun h => h)).trans HB.out.2.2.1)
          clear h2 HFR
          go_wp2_with fail
          refine (HFU.out _ H2.out).mono ?_
          rintro e w3 ⟨rfl, h3⟩
          have H3 := Vx.hid (H2.out.trans h3)
          clear h3
          go_wp2_with fail
          all_goals
            go_ret
            exact ⟨by rw [HE.out]; rfl, HR.out _ H3.out, H3.out.mono (fun _ _ h => h.elim)⟩
        · have HE : Hid (putE bs es (a1, a2) ⟨d0, d1, d2, d3, d4, d5, d6, d7⟩ (f1, f2) = 11) := by show putE _ _ _ _ _ = _; rw [HPE.out, if_pos hf, if_neg hm, hfl]; rfl
          have HR : Hid (∀ wx, Only (fun _ => False) w wx → RcAt U wx rb bs (putL bs es (a1, a2) ⟨d0, d1, d2, d3, d4, d5, d6, d7⟩ (f1, f2))) := fun wx hx => ⟨_, _, by unfold putL; rw [HE.out]; exact HH.out.quiet hx⟩
          rw [hfl] at HFU
          simp only [fullI, fullE] at HFU
          clear HPE hf hfl
          go_enter Tryd.func30, Tryd.ntmps30
          go_upto_region 1 with fail
          rw [← hw1, ← hfb, ← hcb, ← hab]
          clear hw1 hfb hcb hab
          go_wp2_with fail
          refine (HFR.out _ HO1.out).mono ?_
          rintro e w2 ⟨rfl, h2⟩
          have H2 := Vx.hid (HO1.out.trans h2)
          have H12 := Vx.hid h2
          obtain ⟨⟨F02, F12⟩, FZ2⟩ := slot_cells ((h2.block fb (lt_of_some HB.out.2.2.1) (fun h => h)).trans HB.out.2.2.1)
          clear h2 HFR
          go_wp2_with fail
          refine (HFU.out _ H2.out).mono ?_
          rintro e w3 ⟨rfl, h3⟩
          have H3 := Vx.hid (H2.out.trans h3)
          clear h3
          go_wp2_with fail
          all_goals
            go_ret
            exact ⟨by rw [HE.out]; rfl, HR.out _ H3.out, H3.out.mono (fun _ _ h => h.elim)⟩
    · have HE : Hid (putE bs es (a1, a2) ⟨d0, d1, d2, d3, d4, d5, d6, d7⟩ (f1, f2) = freeF bs es (a1, a2)) := by show putE _ _ _ _ _ = _; rw [HPE.out, if_neg hf]
      have HR : Hid (∀ wx, Only (fun _ => False) w1 wx → RcAt U wx rb bs (putL bs es (a1, a2) ⟨d0, d1, d2, d3, d4, d5, d6, d7⟩ (f1, f2))) := fun wx hx => ⟨_, _, by unfold putL; rw [HE.out, if_neg hf]; exact (HH.out.quiet HO1.out).quiet hx⟩
      generalize freeF bs es (a1, a2) = fv at HFR hf HE
      have hfe : (fv == 0) = false := beq_eq_false_iff_ne.2 hf
      clear HPE
      go_enter Tryd.func30, Tryd.ntmps30
      go_upto_region 1 with fail
      rw [← hw1, ← hfb, ← hcb, ← hab]
      clear hw1 hfb hcb hab
      go_wp2_with fail
      refine (HFR.out _ HO1.out).mono ?_
      rintro e w2 ⟨rfl, h2⟩
      have H2 := Vx.hid h2
      clear h2
      go_wp2_with fail
      all_goals
        go_ret
        exact ⟨by rw [HE.out]; rfl, HR.out _ H2.out, (HO1.out.trans H2.out).mono (fun _ _ h => h.elim)⟩
end Go.Proofs.YtbmchgjilkoplaaDoor

import Derived.Test.YtbmchgjilkoplaaDoorCk16
import Derived.Test.YtbmchgjilkoplaaDoorCk18
/- Chapter 7, the document's store: Lookup. -/
namespace Go.Proofs.YtbmchgjilkoplaaDoor
open Go.ChangeShapes Go.WideShapes Go.ChangeAt Go.RowKit
open Go.Vx
set_option linter.unusedVariables false

/-- How often two is multiplied. -/
def radF (n : Int) : Nat := if n = 1 then 0 else if n = 2 then 1 else if n = 4 then 2 else if n = 8 then 3 else if n = 16 then 4 else if n = 32 then 5 else 6
/-- The way of an address; at most so many boxes. -/
def lookF (bs : List (Int × Int)) (es : List En) (a : Nat) : Nat → Cp → Nat → Sl × Int
  | 0, _, _ => ((-1, -1), 0)
  | f + 1, c, l =>
    match sizeF bs c.num with
    | none => ((-1, -1), 12)
    | some n =>
      if c.kind = 5 then
        if c.gbits < 0 ∨ 32 < c.gbits ∨ c.gbits + (radF n : Int) = 0 ∨ (l : Int) < c.gbits + (radF n : Int) then ((-1, -1), 9)
        else if ((digF a l c.gbits.toNat : Nat) : Int) = c.guard then
          if l - c.gbits.toNat - radF n = 0 then ((c.num, ((digF a (l - c.gbits.toNat) (radF n) : Nat) : Int)), 0)
          else match entF es (c.num, ((digF a (l - c.gbits.toNat) (radF n) : Nat) : Int)) with
            | none => ((-1, -1), 11)
            | some k => lookF bs es a f (es.getD k .df).cap (l - c.gbits.toNat - radF n)
        else ((-1, -1), 9)
      else ((-1, -1), 12)
def lookR (bs : List (Int × Int)) (es : List En) (a : Nat) (c : Cp) (l : Int) : Sl × Int := if l < 1 ∨ 32 < l then ((-1, -1), 1) else lookF bs es a 33 c l.toNat
def GuOk (c : Cp) : Prop := 0 ≤ c.guard ∧ c.guard < 4294967296
/-- What stands between the boxes of a way. -/
structure LkR (U : Nat → Prop) (w : World) (rb : Nat) (vb ve : Value) (bs : List (Int × Int)) (es : List En) (cb rc : Nat) (c : Cp) (wr : World) : Prop where
  r0 : RsAt U w rb vb ve bs es
  on : Only (fun _ => False) w wr
  c : wr.heap[cb]? = some (.cells #[.int .i64 c.kind, .int .i64 c.num, .int .i64 c.rights, .int .u32 c.badge, .int .u32 c.guard, .int .i64 c.gbits, .int .i64 c.root, .int .u32 c.va] 66 (0, 0))
  r : wr.heap[rc]? = some (.cells #[.int .i64 0, .int .i64 0] 62 (0, 0))
  ge : w.heap.size ≤ cb ∧ w.heap.size ≤ rc
theorem LkR.quiet {U : Nat → Prop} {w : World} {rb : Nat} {vb ve : Value} {bs : List (Int × Int)} {es : List En} {cb rc : Nat} {c : Cp} {wr wx : World} (h : LkR U w rb vb ve bs es cb rc c wr) (ho : Only (fun _ => False) wr wx) : LkR U w rb vb ve bs es cb rc c wx :=
  ⟨h.r0, h.on.trans ho, (ho.block cb (lt_of_some h.c) (fun h => h)).trans h.c, (ho.block rc (lt_of_some h.r) (fun h => h)).trans h.r, h.ge⟩
theorem cap_set {w : World} {cb : Nat} {a0 a1 a2 a3 a4 a5 a6 a7 : Value} (h : w.heap[cb]? = some (.cells #[a0, a1, a2, a3, a4, a5, a6, a7] 66 (0, 0))) (x0 x1 x2 x3 x4 x5 x6 x7 : Value) : ((((((((w.setCell ⟨cb, 0, none⟩ x0).setCell ⟨cb, 1, none⟩ x1).setCell ⟨cb, 2, none⟩ x2).setCell ⟨cb, 3, none⟩ x3).setCell ⟨cb, 4, none⟩ x4).setCell ⟨cb, 5, none⟩ x5).setCell ⟨cb, 6, none⟩ x6).setCell ⟨cb, 7, none⟩ x7).heap[cb]? = some (.cells #[x0, x1, x2, x3, x4, x5, x6, x7] 66 (0, 0)) := by
  have h0 : (w.setCell ⟨cb, 0, none⟩ x0).heap[cb]? = some (.cells #[x0, a1, a2, a3, a4, a5, a6, a7] 66 (0, 0)) := heap_setCell_same _ _ 0 _ _ x0 h
  have h1 : ((w.setCell ⟨cb, 0, none⟩ x0).setCell ⟨cb, 1, none⟩ x1).heap[cb]? = some (.cells #[x0, x1, a2, a3, a4, a5, a6, a7] 66 (0, 0)) := heap_setCell_same _ _ 1 _ _ x1 h0
  have h2 : (((w.setCell ⟨cb, 0, none⟩ x0).setCell ⟨cb, 1, none⟩ x1).setCell ⟨cb, 2, none⟩ x2).heap[cb]? = some (.cells #[x0, x1, x2, a3, a4, a5, a6, a7] 66 (0, 0)) := heap_setCell_same _ _ 2 _ _ x2 h1
  have h3 : ((((w.setCell ⟨cb, 0, none⟩ x0).setCell ⟨cb, 1, none⟩ x1).setCell ⟨cb, 2, none⟩ x2).setCell ⟨cb, 3, none⟩ x3).heap[cb]? = some (.cells #[x0, x1, x2, x3, a4, a5, a6, a7] 66 (0, 0)) := heap_setCell_same _ _ 3 _ _ x3 h2
  have h4 : (((((w.setCell ⟨cb, 0, none⟩ x0).setCell ⟨cb, 1, none⟩ x1).setCell ⟨cb, 2, none⟩ x2).setCell ⟨cb, 3, none⟩ x3).setCell ⟨cb, 4, none⟩ x4).heap[cb]? = some (.cells #[x0, x1, x2, x3, x4, a5, a6, a7] 66 (0, 0)) := heap_setCell_same _ _ 4 _ _ x4 h3
  have h5 : ((((((w.setCell ⟨cb, 0, none⟩ x0).setCell ⟨cb, 1, none⟩ x1).setCell ⟨cb, 2, none⟩ x2).setCell ⟨cb, 3, none⟩ x3).setCell ⟨cb, 4, none⟩ x4).setCell ⟨cb, 5, none⟩ x5).heap[cb]? = some (.cells #[x0, x1, x2, x3, x4, x5, a6, a7] 66 (0, 0)) := heap_setCell_same _ _ 5 _ _ x5 h4
  have h6 : (((((((w.setCell ⟨cb, 0, none⟩ x0).setCell ⟨cb, 1, none⟩ x1).setCell ⟨cb, 2, none⟩ x2).setCell ⟨cb, 3, none⟩ x3).setCell ⟨cb, 4, none⟩ x4).setCell ⟨cb, 5, none⟩ x5).setCell ⟨cb, 6, none⟩ x6).heap[cb]? = some (.cells #[x0, x1, x2, x3, x4, x5, x6, a7] 66 (0, 0)) := heap_setCell_same _ _ 6 _ _ x6 h5
  have h7 : ((((((((w.setCell ⟨cb, 0, none⟩ x0).setCell ⟨cb, 1, none⟩ x1).setCell ⟨cb, 2, none⟩ x2).setCell ⟨cb, 3, none⟩ x3).setCell ⟨cb, 4, none⟩ x4).setCell ⟨cb, 5, none⟩ x5).setCell ⟨cb, 6, none⟩ x6).setCell ⟨cb, 7, none⟩ x7).heap[cb]? = some (.cells #[x0, x1, x2, x3, x4, x5, x6, x7] 66 (0, 0)) := heap_setCell_same _ _ 7 _ _ x7 h6
  exact h7
theorem LkR.next {U : Nat → Prop} {w : World} {rb : Nat} {vb ve : Value} {bs : List (Int × Int)} {es : List En} {cb rc : Nat} {c : Cp} {wr : World} (h : LkR U w rb vb ve bs es cb rc c wr) (e : Cp) : LkR U w rb vb ve bs es cb rc e ((((((((wr.setCell ⟨cb, 0, none⟩ (.int .i64 e.kind)).setCell ⟨cb, 1, none⟩ (.int .i64 e.num)).setCell ⟨cb, 2, none⟩ (.int .i64 e.rights)).setCell ⟨cb, 3, none⟩ (.int .u32 e.badge)).setCell ⟨cb, 4, none⟩ (.int .u32 e.guard)).setCell ⟨cb, 5, none⟩ (.int .i64 e.gbits)).setCell ⟨cb, 6, none⟩ (.int .i64 e.root)).setCell ⟨cb, 7, none⟩ (.int .u32 e.va)) := by
  have ho := only_set8 wr cb (.int .i64 e.kind) (.int .i64 e.num) (.int .i64 e.rights) (.int .u32 e.badge) (.int .u32 e.guard) (.int .i64 e.gbits) (.int .i64 e.root) (.int .u32 e.va)
  have hne : rc ≠ cb := tag_ne h.r h.c (by decide)
  exact ⟨h.r0, h.on.newer ho h.ge.1, cap_set h.c _ _ _ _ _ _ _ _, (ho.block rc (lt_of_some h.r) hne).trans h.r, h.ge⟩
theorem only_set2 (w : World) (g : Nat) (a0 a1 : Value) : Only (fun k => k = g) w ((w.setCell ⟨g, 0, none⟩ a0).setCell ⟨g, 1, none⟩ a1) :=
  ((Only.refl (fun k => k = g) w).setCell (p := ⟨g, 0, none⟩) (Or.inl rfl) a0).setCell (p := ⟨g, 1, none⟩) (Or.inl rfl) a1
theorem rad_two {n : Int} (h : twoB n = true) : ∃ R : Nat, radF n = R ∧ R ≤ 6 ∧ n = ((2 ^ R : Nat) : Int) := by
  have hc := of_decide_eq_true h
  rcases hc with rfl | rfl | rfl | rfl | rfl | rfl | rfl
  · exact ⟨0, rfl, by decide, rfl⟩
  · exact ⟨1, rfl, by decide, rfl⟩
  · exact ⟨2, rfl, by decide, rfl⟩
  · exact ⟨3, rfl, by decide, rfl⟩
  · exact ⟨4, rfl, by decide, rfl⟩
  · exact ⟨5, rfl, by decide, rfl⟩
  · exact ⟨6, rfl, by decide, rfl⟩
theorem size_two {bs : List (Int × Int)} (h : ∀ b ∈ bs, twoB b.2 = true) {m n : Int} (hs : sizeF bs m = some n) : twoB n = true := by
  cases hx : boxF bs m with
  | none => rw [sizeF_none hx] at hs; cases hs
  | some i =>
    obtain ⟨hi, _, h2⟩ := boxF_at hx
    rw [h2] at hs
    injection hs with hs
    rw [← hs]
    exact h _ (List.getElem_mem hi)
set_option maxRecDepth 100000 in
set_option maxHeartbeats 8000000 in
theorem lookup_ok {U : Nat → Prop} {w : World} {rb : Nat} {vb ve : Value} {bs : List (Int × Int)} {es : List En} (h : RsAt U w rb vb ve bs es) (hbs : ∀ b ∈ bs, twoB b.2 = true) (hes : ∀ e ∈ es, GuOk e.cap) (c : Cp) (hc : GuOk c) (a : Nat) (ha : a < 4294967296) (l : Int) : Calls Tryd.prog 44 #[.pointer (some ⟨rb, 0, none⟩), .agg #[.int .i64 c.kind, .int .i64 c.num, .int .i64 c.rights, .int .u32 c.badge, .int .u32 c.guard, .int .i64 c.gbits, .int .i64 c.root, .int .u32 c.va], .int .i64 (a : Int), .int .i64 l] w fun e w' => e = .returned (.tuple #[slV (lookR bs es a c l).1, .int .i64 (lookR bs es a c l).2]) ∧ Only (fun _ => False) w w' := by
  obtain ⟨w1, hw1⟩ : ∃ w1, w1 = (w.alloc (.cells #[.int .i64 c.kind, .int .i64 c.num, .int .i64 c.rights, .int .u32 c.badge, .int .u32 c.guard, .int .i64 c.gbits, .int .i64 c.root, .int .u32 c.va] 66)).alloc (.cells #[.int .i64 0, .int .i64 0] 62) := ⟨_, rfl⟩
  have hon : Only (fun _ => False) w w1 := by rw [hw1]; exact ((Only.refl _ w).alloc _).alloc _
  have bC : w1.heap[w.heap.size]? = some (.cells #[.int .i64 c.kind, .int .i64 c.num, .int .i64 c.rights, .int .u32 c.badge, .int .u32 c.guard, .int .i64 c.gbits, .int .i64 c.root, .int .u32 c.va] 66 (0, 0)) := by
    rw [hw1, Below.heap_alloc _ _ _ (by simp)]
    exact heap_alloc_last w _
  have bR : w1.heap[w.heap.size + 1]? = some (.cells #[.int .i64 0, .int .i64 0] 62 (0, 0)) := by rw [hw1]; exact new_second (Only.refl _ _)
  obtain ⟨cb, hcb⟩ : ∃ cb, cb = w.heap.size := ⟨_, rfl⟩
  obtain ⟨rc, hrc⟩ : ∃ rc, rc = w.heap.size + 1 := ⟨_, rfl⟩
  rw [← hcb] at bC
  rw [← hrc] at bR
  have H1 : Hid (LkR U w rb vb ve bs es cb rc c w1) := ⟨h, hon, bC, bR, by omega, by omega⟩
  have HNW : Hid (∀ c wv, LkR U w rb vb ve bs es cb rc c wv → Calls Tryd.prog 63 #[] wv fun e w' => e = .returned (.agg #[.int .i64 (-1), .int .i64 (-1)]) ∧ RowKit.Hid (LkR U w rb vb ve bs es cb rc c w')) := fun c wv hv => (nowhere_ok wv).mono (by rintro e w' ⟨rfl, ho⟩; exact ⟨rfl, hv.quiet ho⟩)
  have HFI : Hid (∀ c wv x y, LkR U w rb vb ve bs es cb rc c wv → Only (fun _ => False) w ((wv.setCell ⟨rc, 0, none⟩ x).setCell ⟨rc, 1, none⟩ y)) := fun c wv x y hv => hv.on.newer (only_set2 wv rc x y) hv.ge.2
  have HBS := Vx.hid hbs
  have HES := Vx.hid hes
  have HGU := Vx.hid hc
  have HAA := Vx.hid ha
  clear h hon bC bR hbs hes hc ha
  by_cases hl : l < 1 ∨ 32 < l
  · have HG : Hid (lookR bs es a c l = ((-1, -1), 1)) := if_pos hl
    by_cases hl1 : l < 1
    · go_enter Tryd.func44, Tryd.ntmps44
      go_upto_region 1 with fail
      rw [← hw1, ← hrc, ← hcb]
      clear hw1 hrc hcb
      go_wp2_with fail
      refine (HNW.out _ _ H1.out).mono ?_
      rintro e w9 ⟨rfl, H9⟩
      obtain ⟨⟨z0, z1⟩, zf⟩ := slot_cells H9.out.r
      go_wp2_with fail
      refine bodyPost_ret (v := .tuple #[slV (-1, -1), .int .i64 1]) ?_ rfl ⟨by rw [HG.out], HFI.out _ _ _ _ H9.out⟩
      simp [results, Tryd.results44, go_sem, slV, z0, z1]
    · have hl2 : 32 < l := by omega
      clear hl
      go_enter Tryd.func44, Tryd.ntmps44
      go_upto_region 1 with fail
      rw [← hw1, ← hrc, ← hcb]
      clear hw1 hrc hcb
      go_wp2_with fail
      refine (HNW.out _ _ H1.out).mono ?_
      rintro e w9 ⟨rfl, H9⟩
      obtain ⟨⟨z0, z1⟩, zf⟩ := slot_cells H9.out.r
      go_wp2_with fail
      refine bodyPost_ret (v := .tuple #[slV (-1, -1), .int .i64 1]) ?_ rfl ⟨by rw [HG.out], HFI.out _ _ _ _ H9.out⟩
      simp [results, Tryd.results44, go_sem, slV, z0, z1]
  · have hl1 : ¬ l < 1 := fun h => hl (Or.inl h)
    have hl2 : ¬ 32 < l := fun h => hl (Or.inr h)
    have HLR : Hid (lookR bs es a c l = lookF bs es a 33 c l.toNat) := if_neg hl
    clear hl
    obtain ⟨L, rfl⟩ : ∃ L : Nat, l = (L : Int) := ⟨l.toNat, by omega⟩
    obtain ⟨ans, hans⟩ : ∃ ans, ans = lookF bs es a 33 c L := ⟨_, rfl⟩
    have HA0 : Hid (lookF bs es a 33 c L = ans) := hans.symm
    have HLA : Hid (lookR bs es a c (L : Int) = ans) := by show lookR bs es a c (L : Int) = ans; rw [HLR.out, hans]; rfl
    clear hans HLR
    go_enter Tryd.func44, Tryd.ntmps44
    go_upto_region 1 with fail
    rw [← hw1, ← hrc, ← hcb]
    clear hw1 hrc hcb
    go_wp2_with fail
    go_loopw [3] (fun d wr => ∃ (f l : Nat) (c : Cp), d = .int .i64 (l : Int) ∧ 1 ≤ l ∧ l ≤ 32 ∧ l < f ∧ Hid (lookF bs es a f c l = ans) ∧ Hid (GuOk c) ∧ Hid (LkR U w rb vb ve bs es cb rc c wr)) (fun d _ => (intOf d).toNat)
    case atStart => exact ⟨33, L, c, rfl, by omega, by omega, by omega, HA0, HGU, H1⟩
    case round =>
      clear HA0 H1 HGU hl1 hl2
      obtain ⟨f, l, c2, rfl, hl1, hl2, hlf, HA, HGU, HK⟩ := hrel
      obtain ⟨d0, d1, d2, d3, d4, d5, d6, d7⟩ := c2
      obtain ⟨⟨k0, k1, k2, k3, k4, k5, k6, k7⟩, kf⟩ := cap_cells HK.out.c
      dsimp only at k0 k1 k2 k3 k4 k5 k6 k7
      obtain ⟨f', hf'⟩ : ∃ f', f = f' + 1 := ⟨f - 1, by omega⟩
      subst hf'
      have HSZ := Vx.hid (size_ok (HK.out.r0.quiet HK.out.on) d1)
      cases hx : sizeF bs d1 with
      | none =>
        have HG : Hid (lookR bs es a c (L : Int) = ((-1, -1), 12)) := by
          show lookR bs es a _ (L : Int) = _
          rw [HLA.out, ← HA.out]
          unfold lookF
          dsimp only
          rw [hx]
        have hz : sizeR bs d1 = (0, 6) := by unfold sizeR; rw [hx]
        rw [hz] at HSZ
        clear hz hx HA
        by_cases h5 : d0 = 5
        · subst h5
          go_wp2_with fail
          refine HSZ.out.mono ?_
          rintro e w' ⟨rfl, hh⟩
          have h2 := hh.symm; clear hh; subst h2
          go_wp2_with fail
          refine (HNW.out _ _ HK.out).mono ?_
          rintro e w9 ⟨rfl, H9⟩
          obtain ⟨⟨z0, z1⟩, zf⟩ := slot_cells H9.out.r
          go_wp2_with fail
          refine bodyPost_ret (v := .tuple #[slV (-1, -1), .int .i64 12]) ?_ rfl ⟨by rw [HG.out], HFI.out _ _ _ _ H9.out⟩
          simp [results, Tryd.results44, go_sem, slV, z0, z1]
        · have h5b : (d0 == 5) = false := beq_eq_false_iff_ne.2 h5
          go_wp2_with fail
          refine HSZ.out.mono ?_
          rintro e w' ⟨rfl, hh⟩
          have h2 := hh.symm; clear hh; subst h2
          go_wp2_with fail
          refine (HNW.out _ _ HK.out).mono ?_
          rintro e w9 ⟨rfl, H9⟩
          obtain ⟨⟨z0, z1⟩, zf⟩ := slot_cells H9.out.r
          go_wp2_with fail
          refine bodyPost_ret (v := .tuple #[slV (-1, -1), .int .i64 12]) ?_ rfl ⟨by rw [HG.out], HFI.out _ _ _ _ H9.out⟩
          simp [results, Tryd.results44, go_sem, slV, z0, z1]
      | some n =>
        have hz : sizeR bs d1 = (n, 0) := by unfold sizeR; rw [hx]
        rw [hz] at HSZ
        have HAN : Hid (ans = if d0 = 5 then
            if d5 < 0 ∨ 32 < d5 ∨ d5 + (radF n : Int) = 0 ∨ (l : Int) < d5 + (radF n : Int) then ((-1, -1), 9)
            else if ((digF a l d5.toNat : Nat) : Int) = d4 then
              if l - d5.toNat - radF n = 0 then ((d1, ((digF a (l - d5.toNat) (radF n) : Nat) : Int)), 0)
              else match entF es (d1, ((digF a (l - d5.toNat) (radF n) : Nat) : Int)) with
                | none => ((-1, -1), 11)
                | some k => lookF bs es a f' (es.getD k .df).cap (l - d5.toNat - radF n)
            else ((-1, -1), 9)
          else ((-1, -1), 12)) := by
          show ans = _
          rw [← HA.out]
          conv => lhs; unfold lookF
          dsimp only
          rw [hx]
        obtain ⟨R, hR, hR6, hn2⟩ := rad_two (size_two HBS.out hx)
        rw [hR] at HAN
        clear hz hx HA hR
        by_cases h5 : d0 = 5
        · subst h5
          rw [if_pos rfl] at HAN
          obtain ⟨T, hT⟩ : ∃ T, T = 2 ^ R := ⟨_, rfl⟩
          have HT := Vx.hid hT
          rw [← hT] at hn2
          subst hn2
          clear hT
          go_wp2_with fail
          refine HSZ.out.mono ?_
          rintro e w' ⟨rfl, hh⟩
          have h2 := hh.symm; clear hh; subst h2
          go_wp2_with fail
          go_loopw [12] (fun d wx => ∃ r : Nat, d = .int .i64 (r : Int) ∧ r ≤ R ∧ wx = wr) (fun d _ => R - (intOf d).toNat)
          case atStart => exact ⟨0, rfl, by omega, rfl⟩
          case round =>
            obtain ⟨r, rfl, hr, rfl⟩ := hrel
            by_cases hrR : r < R
            · have hp : 2 ^ r < T := by rw [HT.out]; exact Nat.pow_lt_pow_right (by decide) hrR
              have hc7 : r = 0 ∨ r = 1 ∨ r = 2 ∨ r = 3 ∨ r = 4 ∨ r = 5 := by omega
              rcases hc7 with rfl | rfl | rfl | rfl | rfl | rfl
              all_goals
                simp only [Nat.reducePow] at hp
                have hp2 := Int.ofNat_lt.2 hp
                go_wp2_with fail
                go_roundw
                case rel => first | exact ⟨1, rfl, hrR, trivial⟩ | exact ⟨2, rfl, hrR, trivial⟩ | exact ⟨3, rfl, hrR, trivial⟩ | exact ⟨4, rfl, hrR, trivial⟩ | exact ⟨5, rfl, hrR, trivial⟩ | exact ⟨6, rfl, hrR, trivial⟩
                case measure => simp only [intOf]; omega
            · obtain rfl : r = R := by omega
              clear hrR
              have hc7 : r = 0 ∨ r = 1 ∨ r = 2 ∨ r = 3 ∨ r = 4 ∨ r = 5 ∨ r = 6 := by omega
              have hws : ¬ wrap64 ((2 : Int) ^ r) < (T : Int) := by
                rw [HT.out]
                rcases hc7 with rfl | rfl | rfl | rfl | rfl | rfl | rfl <;> decide +kernel
              clear hc7
              by_cases g1 : d5 < 0
              · have HG : Hid (lookR bs es a c (L : Int) = ((-1, -1), 9)) := by
                  show lookR bs es a _ (L : Int) = _
                  rw [HLA.out, HAN.out, if_pos (Or.inl g1)]
                clear HAN
                go_wp2_with fail
                refine (HNW.out _ _ HK.out).mono ?_
                rintro e w9 ⟨rfl, H9⟩
                obtain ⟨⟨z0, z1⟩, zf⟩ := slot_cells H9.out.r
                go_wp2_with fail
                refine bodyPost_ret (v := .tuple #[slV (-1, -1), .int .i64 9]) ?_ rfl ⟨by rw [HG.out], HFI.out _ _ _ _ H9.out⟩
                simp [results, Tryd.results44, go_sem, slV, z0, z1]
              · by_cases g2 : 32 < d5
                · have HG : Hid (lookR bs es a c (L : Int) = ((-1, -1), 9)) := by
                    show lookR bs es a _ (L : Int) = _
                    rw [HLA.out, HAN.out, if_pos (Or.inr (Or.inl g2))]
                  clear HAN
                  go_wp2_with fail
                  refine (HNW.out _ _ HK.out).mono ?_
                  rintro e w9 ⟨rfl, H9⟩
                  obtain ⟨⟨z0, z1⟩, zf⟩ := slot_cells H9.out.r
                  go_wp2_with fail
                  refine bodyPost_ret (v := .tuple #[slV (-1, -1), .int .i64 9]) ?_ rfl ⟨by rw [HG.out], HFI.out _ _ _ _ H9.out⟩
                  simp [results, Tryd.results44, go_sem, slV, z0, z1]
                · obtain ⟨G, rfl⟩ : ∃ G : Nat, d5 = (G : Int) := ⟨d5.toNat, by omega⟩
                  have hwg : IntKind.i64.wrap ((G : Int) + (r : Int)) = (G : Int) + (r : Int) := by rw [IntKind.wrap_i64]; omega
                  rw [Int.toNat_natCast] at HAN
                  by_cases g3 : (G : Int) + (r : Int) = 0
                  · have g3b : ((G : Int) + (r : Int) == 0) = true := beq_iff_eq.2 g3
                    have HG : Hid (lookR bs es a c (L : Int) = ((-1, -1), 9)) := by
                      show lookR bs es a _ (L : Int) = _
                      rw [HLA.out, HAN.out, if_pos (Or.inr (Or.inr (Or.inl g3)))]
                    clear HAN
                    go_wp2_with fail
                    refine (HNW.out _ _ HK.out).mono ?_
                    rintro e w9 ⟨rfl, H9⟩
                    obtain ⟨⟨z0, z1⟩, zf⟩ := slot_cells H9.out.r
                    go_wp2_with fail
                    refine bodyPost_ret (v := .tuple #[slV (-1, -1), .int .i64 9]) ?_ rfl ⟨by rw [HG.out], HFI.out _ _ _ _ H9.out⟩
                    simp [results, Tryd.results44, go_sem, slV, z0, z1]
                  · have g3b : ((G : Int) + (r : Int) == 0) = false := beq_eq_false_iff_ne.2 g3
                    by_cases g4 : (l : Int) < (G : Int) + (r : Int)
                    · have HG : Hid (lookR bs es a c (L : Int) = ((-1, -1), 9)) := by
                        show lookR bs es a _ (L : Int) = _
                        rw [HLA.out, HAN.out, if_pos (Or.inr (Or.inr (Or.inr g4)))]
                      clear HAN
                      go_wp2_with fail
                      refine (HNW.out _ _ HK.out).mono ?_
                      rintro e w9 ⟨rfl, H9⟩
                      obtain ⟨⟨z0, z1⟩, zf⟩ := slot_cells H9.out.r
                      go_wp2_with fail
                      refine bodyPost_ret (v := .tuple #[slV (-1, -1), .int .i64 9]) ?_ rfl ⟨by rw [HG.out], HFI.out _ _ _ _ H9.out⟩
                      simp [results, Tryd.results44, go_sem, slV, z0, z1]
                    · have HA2 : Hid (ans = if ((digF a l G : Nat) : Int) = d4 then
                          if l - G - r = 0 then ((d1, ((digF a (l - G) r : Nat) : Int)), 0)
                          else match entF es (d1, ((digF a (l - G) r : Nat) : Int)) with
                            | none => ((-1, -1), 11)
                            | some k => lookF bs es a f' (es.getD k .df).cap (l - G - r)
                        else ((-1, -1), 9)) := by
                        show ans = _
                        rw [HAN.out, if_neg (by rintro (h | h | h | h); exact g1 h; exact g2 h; exact g3 h; exact g4 h)]
                      obtain ⟨l1, hl1'⟩ : ∃ l1, l1 = l - G := ⟨_, rfl⟩
                      obtain ⟨l2, hl2'⟩ : ∃ l2, l2 = l1 - r := ⟨_, rfl⟩
                      have hw1 : IntKind.i64.wrap ((l : Int) - (G : Int)) = (l1 : Int) := by rw [IntKind.wrap_i64]; omega
                      have hw2 : IntKind.i64.wrap ((l1 : Int) - (r : Int)) = (l2 : Int) := by rw [IntKind.wrap_i64]; omega
                      have hwd : IntKind.i64.wrap d4 = d4 := by have h3 := HGU.out.1; have h4 := HGU.out.2; dsimp only at h3 h4; rw [IntKind.wrap_i64]; omega
                      have HD1 := Vx.hid (fun wv => digitsOf_ok a l G HAA.out (by omega) hl2 wv)
                      have HD2 := Vx.hid (fun wv => digitsOf_ok a l1 r HAA.out (by omega) (by omega) wv)
                      rw [← hl1', ← hl2'] at HA2
                      have hl2l : l2 < l := by omega
                      generalize digF a l G = D1 at HA2 HD1
                      generalize digF a l1 r = I1 at HA2 HD2
                      clear HAN hl1' hl2'
                      go_wp2_with fail
                      refine (HD1.out _).mono ?_
                      rintro e w' ⟨rfl, hh⟩
                      have h2 := hh.symm; clear hh; subst h2
                      by_cases hgd : (D1 : Int) = d4
                      · subst hgd
                        rw [if_pos rfl] at HA2
                        go_wp2_with fail
                        refine (HD2.out _).mono ?_
                        rintro e w' ⟨rfl, hh⟩
                        have h2 := hh.symm; clear hh; subst h2
                        have hrl : rc < wr.heap.size := lt_of_some HK.out.r
                        obtain ⟨⟨z0, z1⟩, zf⟩ := slot_cells HK.out.r
                        by_cases hz : l2 = 0
                        · subst hz
                          have HG : Hid (lookR bs es a c (L : Int) = ((d1, (I1 : Int)), 0)) := by
                            show lookR bs es a _ (L : Int) = _
                            rw [HLA.out, HA2.out]
                            rfl
                          clear HA2
                          go_wp2_with fail
                          refine bodyPost_ret (v := .tuple #[slV (d1, (I1 : Int)), .int .i64 0]) ?_ rfl ⟨by rw [HG.out], (HFI.out _ _ _ _ HK.out).alloc _⟩
                          simp [results, Tryd.results44, go_sem, slV, z0, z1, hrl]
                        · have hzb : ((l2 : Int) == 0) = false := beq_eq_false_iff_ne.2 (by omega)
                          rw [if_neg hz] at HA2
                          have HEN : Hid (∀ wv, Only (fun _ => False) wr wv → Calls Tryd.prog 69 #[.pointer (some ⟨rb, 0, none⟩), .agg #[.int .i64 d1, .int .i64 (I1 : Int)]] wv fun e w' => e = .returned (.int .i64 (idI (entF es (d1, (I1 : Int))))) ∧ Only (fun _ => False) wv w') := fun wv hv => entry_ok ((HK.out.r0.quiet HK.out.on).quiet hv) (d1, (I1 : Int))
                          have HAL : Hid (∀ o, Only (fun _ => False) wr (wr.alloc o)) := fun o => (Only.refl _ wr).alloc o
                          cases hen : entF es (d1, (I1 : Int)) with
                          | none =>
                            have HG : Hid (lookR bs es a c (L : Int) = ((-1, -1), 11)) := by
                              show lookR bs es a _ (L : Int) = _
                              rw [HLA.out, HA2.out, hen]
                            rw [hen] at HEN
                            have HE2 : Hid (∀ wv, Only (fun _ => False) wr wv → Calls Tryd.prog 69 #[.pointer (some ⟨rb, 0, none⟩), .agg #[.int .i64 d1, .int .i64 (I1 : Int)]] wv fun e w' => e = .returned (.int .i64 (-1)) ∧ Only (fun _ => False) wv w') := HEN
                            clear HA2 hen HEN z0 z1 zf
                            go_wp2_with fail
                            refine (HE2.out _ (HAL.out _)).mono ?_
                            rintro e w6 ⟨rfl, h6⟩
                            have HK6 := Vx.hid (HK.out.quiet ((HAL.out _).trans h6))
                            clear h6
                            go_wp2_with fail
                            refine (HNW.out _ _ HK6.out).mono ?_
                            rintro e w9 ⟨rfl, H9⟩
                            obtain ⟨⟨z0, z1⟩, zf⟩ := slot_cells H9.out.r
                            go_wp2_with fail
                            refine bodyPost_ret (v := .tuple #[slV (-1, -1), .int .i64 11]) ?_ rfl ⟨by rw [HG.out], HFI.out _ _ _ _ H9.out⟩
                            simp [results, Tryd.results44, go_sem, slV, z0, z1]
                          | some k =>
                            obtain ⟨hkl, _⟩ := entF_at hen
                            have HNX : Hid (lookF bs es a f' (es.getD k .df).cap l2 = ans) := by
                              show lookF bs es a f' _ l2 = ans
                              rw [HA2.out, hen]
                            have HGN : Hid (GuOk (es.getD k .df).cap) := by rw [getD_at es k hkl]; exact HES.out _ (List.getElem_mem hkl)
                            rw [hen] at HEN
                            have HE2 : Hid (∀ wv, Only (fun _ => False) wr wv → Calls Tryd.prog 69 #[.pointer (some ⟨rb, 0, none⟩), .agg #[.int .i64 d1, .int .i64 (I1 : Int)]] wv fun e w' => e = .returned (.int .i64 (k : Int)) ∧ Only (fun _ => False) wv w') := HEN
                            have hk0 : ¬ (k : Int) < 0 := by omega
                            clear HA2 hen HEN z0 z1 zf
                            go_wp2_with fail
                            refine (HE2.out _ (HAL.out _)).mono ?_
                            rintro e w6 ⟨rfl, h6⟩
                            have HK6 := Vx.hid (HK.out.quiet ((HAL.out _).trans h6))
                            have hrs6 := HK6.out.r0.quiet HK6.out.on
                            obtain ⟨g, cc, hve, hE⟩ := hrs6.e12 k hkl
                            have c16 := hrs6.c1
                            rw [hve] at c16
                            have hE2 : E12 w6 g k (es.getD k .df) := by rw [getD_at es k hkl]; exact hE
                            generalize es.getD k .df = en at hE2 HNX HGN
                            obtain ⟨_, _, m0, m1, m2, m3, m4, m5, m6, m7, _, _⟩ := hE2
                            obtain ⟨⟨y0, y1, y2, y3, y4, y5, y6, y7⟩, yf⟩ := cap_cells HK6.out.c
                            obtain ⟨N, hN⟩ : ∃ N, N = es.length := ⟨_, rfl⟩
                            rw [← hN] at c16
                            have hidx : 0 ≤ (k : Int) ∧ (k : Int) < (N : Int) := by omega
                            have HN2 := Vx.hid (HK6.out.next en.cap)
                            obtain ⟨ea, ec, ef⟩ := en
                            obtain ⟨x0, x1, x2, x3, x4, x5, x6, x7⟩ := ec
                            dsimp only at m0 m1 m2 m3 m4 m5 m6 m7 y0 y1 y2 y3 y4 y5 y6 y7 HNX HGN HN2
                            clear h6 hrs6 hve hE hN hrl k0 k1 k2 k3 k4 k5 k6 k7 kf
                            go_wp2_with fail
                            go_roundw
                            case rel => exact ⟨f', l2, _, rfl, by omega, by omega, by omega, HNX, HGN, HN2⟩
                            case measure => simp only [intOf]; omega
                      · have hgb : ((D1 : Int) == d4) = false := beq_eq_false_iff_ne.2 hgd
                        have HG : Hid (lookR bs es a c (L : Int) = ((-1, -1), 9)) := by
                          show lookR bs es a _ (L : Int) = _
                          rw [HLA.out, HA2.out, if_neg hgd]
                        clear HA2
                        go_wp2_with fail
                        refine (HNW.out _ _ HK.out).mono ?_
                        rintro e w9 ⟨rfl, H9⟩
                        obtain ⟨⟨z0, z1⟩, zf⟩ := slot_cells H9.out.r
                        go_wp2_with fail
                        refine bodyPost_ret (v := .tuple #[slV (-1, -1), .int .i64 9]) ?_ rfl ⟨by rw [HG.out], HFI.out _ _ _ _ H9.out⟩
                        simp [results, Tryd.results44, go_sem, slV, z0, z1]
        · have h5b : (d0 == 5) = false := beq_eq_false_iff_ne.2 h5
          have HG : Hid (lookR bs es a c (L : Int) = ((-1, -1), 12)) := by
            show lookR bs es a _ (L : Int) = _
            rw [HLA.out, HAN.out, if_neg h5]
          go_wp2_with fail
          refine HSZ.out.mono ?_
          rintro e w' ⟨rfl, hh⟩
          have h2 := hh.symm; clear hh; subst h2
          go_wp2_with fail
          refine (HNW.out _ _ HK.out).mono ?_
          rintro e w9 ⟨rfl, H9⟩
          obtain ⟨⟨z0, z1⟩, zf⟩ := slot_cells H9.out.r
          go_wp2_with fail
          refine bodyPost_ret (v := .tuple #[slV (-1, -1), .int .i64 12]) ?_ rfl ⟨by rw [HG.out], HFI.out _ _ _ _ H9.out⟩
          simp [results, Tryd.results44, go_sem, slV, z0, z1]
end Go.Proofs.YtbmchgjilkoplaaDoor

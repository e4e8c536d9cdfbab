import Derived.Test.YtbmchgjilkoplaaDoorCq50
/- Chapter 7, the program's store: Lookup. -/
namespace Go.Proofs.YtbmchgjilkoplaaDoor
open Go.ChangeShapes Go.WideShapes Go.ChangeAt Go.RowKit
open Go.Vx
set_option linter.unusedVariables false
variable {U : Nat → Prop} {w : World} {xb mb : Nat} {D : DataW Value} {G : Int → Nat} {bs : List (Int × Int)} {es : List En} {Q : Sl → Pl}

theorem lead_in (hbs : ∀ b ∈ bs, twoB b.2 = true) {a : Nat} {c : Cp} {l : Nat} (h : (leadR bs a c l).2.2 = 0) : (∃ n, sizeF bs (leadR bs a c l).1.1 = some n ∧ 0 ≤ (leadR bs a c l).1.2 ∧ (leadR bs a c l).1.2 < n) ∧ (leadR bs a c l).2.1 < l ∨ (leadR bs a c l).2.1 = 0 := by
  cases hs : sizeF bs c.num with
  | none => rw [lead_none hs] at h; cases h
  | some n =>
    by_cases h1 : c.kind = 5
    · by_cases h2 : c.gbits < 0 ∨ 32 < c.gbits ∨ c.gbits + (radF n : Int) = 0 ∨ (l : Int) < c.gbits + (radF n : Int)
      · rw [lead_bits hs h1 h2] at h; cases h
      · by_cases h3 : ((digF a l c.gbits.toNat : Nat) : Int) = c.guard
        · rw [lead_good hs h1 h2 h3]
          dsimp only
          left
          obtain ⟨R, hR, hR6, hRn⟩ := rad_two (size_two hbs hs)
          refine ⟨⟨n, hs, Int.natCast_nonneg _, ?_⟩, by omega⟩
          rw [hR, hRn]
          unfold digF
          have := Nat.mod_lt (a / 2 ^ (l - c.gbits.toNat - R)) (Nat.pos_of_ne_zero (show 2 ^ R ≠ 0 by simp))
          exact Int.ofNat_lt.2 this
        · rw [lead_guard hs h1 h2 h3] at h; cases h
    · rw [lead_kind hs h1] at h; cases h
theorem get_in {s : Sl} {n : Int} (h : sizeF bs s.1 = some n) (h0 : 0 ≤ s.2) (h1 : s.2 < n) : getF bs es s = match entF es s with | none => (zeroCp, 11) | some k => ((es.getD k .df).cap, 0) := by
  unfold getF
  rw [fullF_in h h0 h1]
  cases entF es s <;> rfl
/-- What stands between the boxes of a way. -/
structure LkX (w : World) (cb rc : Nat) (c : Cp) (wr : World) : Prop where
  on : Only (fun _ => False) w wr
  c : wr.heap[cb]? = some (.cells #[.int .i64 c.kind, .int .i64 c.num, .int .i64 c.rights, .int .u32 c.badge, .int .u32 c.guard, .int .i64 c.gbits, .int .i64 c.root, .int .u32 c.va] 66 (0, 0))
  r : wr.heap[rc]? = some (.cells #[.int .i64 0, .int .i64 0] 62 (0, 0))
  ge : w.heap.size ≤ cb ∧ w.heap.size ≤ rc
theorem LkX.quiet {w : World} {cb rc : Nat} {c : Cp} {wr wx : World} (h : LkX w cb rc c wr) (ho : Only (fun _ => False) wr wx) : LkX w cb rc c wx :=
  ⟨h.on.trans ho, (ho.block cb (lt_of_some h.c) (fun h => h)).trans h.c, (ho.block rc (lt_of_some h.r) (fun h => h)).trans h.r, h.ge⟩
theorem LkX.next {w : World} {cb rc : Nat} {c : Cp} {wr : World} (h : LkX w cb rc c wr) (e : Cp) : LkX w cb rc e ((((((((wr.setCell ⟨cb, 0, none⟩ (.int .i64 e.kind)).setCell ⟨cb, 1, none⟩ (.int .i64 e.num)).setCell ⟨cb, 2, none⟩ (.int .i64 e.rights)).setCell ⟨cb, 3, none⟩ (.int .u32 e.badge)).setCell ⟨cb, 4, none⟩ (.int .u32 e.guard)).setCell ⟨cb, 5, none⟩ (.int .i64 e.gbits)).setCell ⟨cb, 6, none⟩ (.int .i64 e.root)).setCell ⟨cb, 7, none⟩ (.int .u32 e.va)) := by
  have ho := only_set8 wr cb (.int .i64 e.kind) (.int .i64 e.num) (.int .i64 e.rights) (.int .u32 e.badge) (.int .u32 e.guard) (.int .i64 e.gbits) (.int .i64 e.root) (.int .u32 e.va)
  exact ⟨Only.beyond h.on ho (fun j hj => by subst hj; exact h.ge.1), cap_set h.c _ _ _ _ _ _ _ _, by rw [ho.block rc (lt_of_some h.r) (tag_ne h.r h.c (by decide))]; exact h.r, h.ge⟩
set_option maxRecDepth 100000 in
set_option maxHeartbeats 8000000 in
theorem xlookup_ok (hc : XcAt U w xb bs es) (c : Cp) (hnum : I64 c.num) (a : Nat) (ha : a < 4294967296) (l : Int) : Calls Tryd.prog 43 #[.pointer (some ⟨xb, 0, none⟩), .agg #[.int .i64 c.kind, .int .i64 c.num, .int .i64 c.rights, .int .u32 c.badge, .int .u32 c.guard, .int .i64 c.gbits, .int .i64 c.root, .int .u32 c.va], .int .u32 (a : Int), .int .i64 l] w fun e w' => e = .returned (.tuple #[slV (lookR bs es a c l).1, .int .i64 (lookR bs es a c l).2]) ∧ Only (fun _ => False) w w' := by
  obtain ⟨w1, hw1⟩ : ∃ w1, w1 = (w.alloc (.cells #[.int .i64 c.kind, .int .i64 c.num, .int .i64 c.rights, .int .u32 c.badge, .int .u32 c.guard, .int .i64 c.gbits, .int .i64 c.root, .int .u32 c.va] 66)).alloc (.cells #[.int .i64 0, .int .i64 0] 62) := ⟨_, rfl⟩
  have hon : Only (fun _ => False) w w1 := by rw [hw1]; exact ((Only.refl _ w).alloc _).alloc _
  have bC : w1.heap[w.heap.size]? = some (.cells #[.int .i64 c.kind, .int .i64 c.num, .int .i64 c.rights, .int .u32 c.badge, .int .u32 c.guard, .int .i64 c.gbits, .int .i64 c.root, .int .u32 c.va] 66 (0, 0)) := by
    rw [hw1, Below.heap_alloc _ _ _ (by simp)]
    exact heap_alloc_last w _
  have bR : w1.heap[w.heap.size + 1]? = some (.cells #[.int .i64 0, .int .i64 0] 62 (0, 0)) := by rw [hw1]; exact new_second (Only.refl _ _)
  obtain ⟨cb, hcb⟩ : ∃ cb, cb = w.heap.size := ⟨_, rfl⟩
  obtain ⟨rc, hrc⟩ : ∃ rc, rc = w.heap.size + 1 := ⟨_, rfl⟩
  rw [← hcb] at bC
  rw [← hrc] at bR
  have H1 : Hid (LkX w cb rc c w1) := ⟨hon, bC, bR, by omega, by omega⟩
  have HC := Vx.hid hc
  have HNS : Hid (∀ wv, Only (fun _ => False) w wv → wv.cell? ⟨0, 0, none⟩ = some (.int .i64 (-1)) ∧ wv.cell? ⟨0, 1, none⟩ = some (.int .i64 (-1))) := fun wv ho => by
    obtain ⟨mb, D, G, h, _⟩ := hc
    exact (slot_cells (h.quiet ho).ns).1
  have HFI : Hid (∀ c wv x y, LkX w cb rc c wv → Only (fun _ => False) w ((wv.setCell ⟨rc, 0, none⟩ x).setCell ⟨rc, 1, none⟩ y)) := fun c wv x y hv => hv.on.newer (only_set2 wv rc x y) hv.ge.2
  have HLD : Hid (∀ c2 : Cp, I64 c2.num → ∀ l2 : Nat, l2 ≤ 32 → ∀ wv, Only (fun _ => False) w wv → Calls Tryd.prog 67 #[.pointer (some ⟨xb, 0, none⟩), .agg #[.int .i64 c2.kind, .int .i64 c2.num, .int .i64 c2.rights, .int .u32 c2.badge, .int .u32 c2.guard, .int .i64 c2.gbits, .int .i64 c2.root, .int .u32 c2.va], .int .u32 (a : Int), .int .i64 (l2 : Int)] wv fun e w' => e = .returned (.tuple #[slV (leadR bs a c2 l2).1, .int .i64 ((leadR bs a c2 l2).2.1 : Int), .int .i64 (leadR bs a c2 l2).2.2]) ∧ Only (fun _ => False) wv w') := fun c2 h2 l2 hl2 wv ho => by
    obtain ⟨mb, D, G, h, hf, _⟩ := hc
    exact xlead_ok (h.quiet ho) (fun b hb => (hf.bn b hb).1) c2 h2 a ha l2 hl2
  have HGT : Hid (∀ s : Sl, I64 s.1 → ∀ wv, Only (fun _ => False) w wv → Calls Tryd.prog 18 #[.pointer (some ⟨xb, 0, none⟩), .agg #[.int .i64 s.1, .int .i64 s.2]] wv fun e w' => e = .returned (.tuple #[cpV (getF bs es s).1, .int .i64 (getF bs es s).2]) ∧ Only (fun _ => False) wv w') := fun s hs wv ho => xget_ok (hc.quiet ho) s hs
  have HBS : Hid (∀ b ∈ bs, twoB b.2 = true) := by obtain ⟨mb, D, G, h, hf, _⟩ := hc; exact fun b hb => (hf.bn b hb).1
  have HIB : Hid (∀ s n, sizeF bs s = some n → I64 s) := by
    obtain ⟨mb, D, G, h, _⟩ := hc
    exact fun s n hs => h.ib _ (size_mem hs)
  have HNM : Hid (∀ s k, entF es s = some k → I64 (es.getD k .df).cap.num) := by
    obtain ⟨mb, D, G, h, hf, hx, _⟩ := hc
    intro s k hk
    obtain ⟨hi, _⟩ := entF_at hk
    rw [getD_at es k hi]
    exact hx.nm _ (List.getElem_mem hi)
  have HNU := Vx.hid hnum
  clear hc hon bC bR hnum
  by_cases hl : l < 1 ∨ 32 < l
  · have HG : Hid (lookR bs es a c l = ((-1, -1), 1)) := if_pos hl
    obtain ⟨⟨z0, z1⟩, zf⟩ := slot_cells H1.out.r
    obtain ⟨n0, n1⟩ := HNS.out w1 H1.out.on
    by_cases hl1 : l < 1
    · clear hl
      go_enter Tryd.func43, Tryd.ntmps43
      go_upto_region 1 with fail
      rw [← hw1, ← hrc, ← hcb]
      clear hw1 hrc hcb
      go_wp2_with fail
      refine bodyPost_ret (v := .tuple #[slV (-1, -1), .int .i64 1]) ?_ rfl ⟨by rw [HG.out], HFI.out _ _ _ _ H1.out⟩
      simp [results, Tryd.results43, go_sem, slV, z0, z1]
    · have hl2 : 32 < l := by omega
      clear hl
      go_enter Tryd.func43, Tryd.ntmps43
      go_upto_region 1 with fail
      rw [← hw1, ← hrc, ← hcb]
      clear hw1 hrc hcb
      go_wp2_with fail
      refine bodyPost_ret (v := .tuple #[slV (-1, -1), .int .i64 1]) ?_ rfl ⟨by rw [HG.out], HFI.out _ _ _ _ H1.out⟩
      simp [results, Tryd.results43, go_sem, slV, z0, z1]
  · have hl1 : ¬ l < 1 := fun h => hl (Or.inl h)
    have hl2 : ¬ 32 < l := fun h => hl (Or.inr h)
    have HLR : Hid (lookR bs es a c l = lookF bs es a 33 c l.toNat) := if_neg hl
    clear hl
    obtain ⟨L, rfl⟩ : ∃ L : Nat, l = (L : Int) := ⟨l.toNat, by omega⟩
    obtain ⟨ans, hans⟩ : ∃ ans, ans = lookF bs es a 33 c L := ⟨_, rfl⟩
    have HA0 : Hid (lookF bs es a 33 c L = ans) := hans.symm
    have HLA : Hid (lookR bs es a c (L : Int) = ans) := by show lookR bs es a c (L : Int) = ans; rw [HLR.out, hans]; rfl
    clear hans HLR
    go_enter Tryd.func43, Tryd.ntmps43
    go_upto_region 1 with fail
    rw [← hw1, ← hrc, ← hcb]
    clear hw1 hrc hcb
    go_wp2_with fail
    go_loopw [3, 10, 11, 12] (fun d _ _ _ wr => ∃ (f l : Nat) (c : Cp), d = .int .i64 (l : Int) ∧ 1 ≤ l ∧ l ≤ 32 ∧ l < f ∧ Hid (lookF bs es a f c l = ans) ∧ Hid (I64 c.num) ∧ Hid (LkX w cb rc c wr)) (fun d _ _ _ _ => (RowKit.intOf d).toNat)
    case atStart => exact ⟨33, L, c, rfl, by omega, by omega, by omega, HA0, HNU, H1⟩
    case round =>
      clear HA0 H1 HNU hl1 hl2
      obtain ⟨f, l, c2, rfl, hl1, hl2, hlf, HA, HNU, HK⟩ := hrel
      have HL1 := Vx.hid (HLD.out c2 HNU.out l hl2 wr HK.out.on)
      obtain ⟨f, rfl⟩ : ∃ g, f = g + 1 := ⟨f - 1, by omega⟩
      have hct := lookF_lead bs es a f c2 l
      rw [HA.out] at hct
      have HLI := Vx.hid (lead_in (a := a) (c := c2) (l := l) HBS.out)
      generalize leadR bs a c2 l = ld at HL1 hct HLI
      obtain ⟨⟨s1, s2⟩, rest, er⟩ := ld
      dsimp only at HL1 HLI
      have HK0 := Vx.hid (⟨HK.out.c, HK.out.r⟩ : _ ∧ _)
      obtain ⟨⟨y0, y1, y2, y3, y4, y5, y6, y7⟩, yf⟩ := cap_cells HK.out.c
      obtain ⟨d0, d1, d2, d3, d4, d5, d6, d7⟩ := c2
      dsimp only at y0 y1 y2 y3 y4 y5 y6 y7 HL1
      have HCT := Vx.hid hct
      clear hct HA
      unfold slV at HL1
      go_wp2_with fail
      refine HL1.out.mono ?_
      rintro e w2 ⟨rfl, hO2⟩
      have HK2 := Vx.hid (HK.out.quiet hO2)
      clear hO2 y0 y1 y2 y3 y4 y5 y6 y7 yf HK HL1
      dsimp only
      go_upto_region 4 with fail
      obtain ⟨w3, hw3⟩ : ∃ w3, w3 = w2.alloc (.cells #[.int .i64 s1, .int .i64 s2] 62) := ⟨_, rfl⟩
      rw [← hw3]
      have hO3 : Only (fun _ => False) w2 w3 := by rw [hw3]; exact (Only.refl _ w2).alloc _
      have hat : w3.heap[w2.heap.size]? = some (.cells #[.int .i64 s1, .int .i64 s2] 62 (0, 0)) := by rw [hw3]; exact heap_alloc_last w2 _
      obtain ⟨⟨t0, t1⟩, tf⟩ := slot_cells hat
      have HK3 := Vx.hid (HK2.out.quiet hO3)
      obtain ⟨tb, htb⟩ : ∃ tb, tb = w2.heap.size := ⟨_, rfl⟩
      rw [← htb] at t0 t1 tf ⊢
      obtain ⟨⟨z0, z1⟩, zf⟩ := slot_cells HK3.out.r
      clear hw3 hO3 hat htb HK2
      by_cases her : er = 0
      · subst her
        by_cases hre : rest = 0
        · subst hre
          have HANS : Hid (ans = ((s1, s2), 0)) := by
            show ans = ((s1, s2), 0)
            rw [HCT.out]; unfold contF; rw [if_pos (Or.inr rfl)]
          go_wp2_with fail
          refine bodyPost_ret (v := .tuple #[slV (s1, s2), .int .i64 0]) ?_ rfl ⟨by rw [HLA.out, HANS.out], HFI.out _ _ _ _ HK3.out⟩
          simp [results, Tryd.results43, go_sem, slV, z0, z1]
        · have hre2 : ((rest : Int) == 0) = false := beq_eq_false_iff_ne.2 (by omega)
          obtain ⟨⟨n, hn, hs0, hsn⟩, hrl⟩ : (∃ n, sizeF bs s1 = some n ∧ 0 ≤ s2 ∧ s2 < n) ∧ rest < l := by
            rcases HLI.out rfl with h | h
            · exact h
            · exact absurd h hre
          have hge := get_in (es := es) (s := (s1, s2)) hn hs0 hsn
          have hcf : ans = match entF es (s1, s2) with | none => ((-1, -1), 11) | some k => lookF bs es a f (es.getD k .df).cap rest := by
            rw [HCT.out]; unfold contF; rw [if_neg (fun h => h.elim (fun h => h rfl) hre)]
            cases entF es (s1, s2) <;> rfl
          have HG1 := Vx.hid (HGT.out (s1, s2) (HIB.out _ n hn) w3 HK3.out.on)
          cases hen : entF es (s1, s2) with
          | none =>
            rw [hen] at hge hcf
            rw [hge] at HG1
            unfold cpV zeroCp at HG1
            have HANS := Vx.hid hcf
            clear hge hcf hn hs0 hsn hen HCT HLI
            go_wp2_with fail
            refine HG1.out.mono ?_
            rintro e w4 ⟨rfl, hO4⟩
            have HK4 := Vx.hid (HK3.out.quiet hO4)
            obtain ⟨⟨y0, y1, y2, y3, y4, y5, y6, y7⟩, yf⟩ := cap_cells HK4.out.c
            clear hO4 t0 t1 tf z0 z1 zf HG1 HK3
            go_upto_region 7 with fail
            obtain ⟨w5, hw5⟩ : ∃ w5, w5 = ((((((((w4.setCell ⟨cb, 0, none⟩ (.int .i64 0)).setCell ⟨cb, 1, none⟩ (.int .i64 0)).setCell ⟨cb, 2, none⟩ (.int .i64 0)).setCell ⟨cb, 3, none⟩ (.int .u32 0)).setCell ⟨cb, 4, none⟩ (.int .u32 0)).setCell ⟨cb, 5, none⟩ (.int .i64 0)).setCell ⟨cb, 6, none⟩ (.int .i64 0)).setCell ⟨cb, 7, none⟩ (.int .u32 0)) := ⟨_, rfl⟩
            rw [← hw5]
            have hK5 : LkX w cb rc zeroCp w5 := by rw [hw5]; exact HK4.out.next zeroCp
            have HK5 := Vx.hid hK5
            obtain ⟨⟨z0, z1⟩, zf⟩ := slot_cells HK5.out.r
            obtain ⟨n0, n1⟩ := HNS.out w5 HK5.out.on
            clear hw5 hK5 y0 y1 y2 y3 y4 y5 y6 y7 yf HK4
            go_wp2_with fail
            refine bodyPost_ret (v := .tuple #[slV (-1, -1), .int .i64 11]) ?_ rfl ⟨by rw [HLA.out, HANS.out], HFI.out _ _ _ _ HK5.out⟩
            simp [results, Tryd.results43, go_sem, slV, z0, z1]
          | some k =>
            rw [hen] at hge hcf
            rw [hge] at HG1
            have HNU2 := Vx.hid (HNM.out _ _ hen)
            dsimp only at hcf HG1
            generalize (es.getD k .df).cap = c3 at hcf HG1 HNU2
            obtain ⟨e0, e1, e2, e3, e4, e5, e6, e7⟩ := c3
            unfold cpV at HG1
            dsimp only at HG1
            have HANS := Vx.hid hcf.symm
            clear hge hcf hn hs0 hsn hen HCT HLI
            go_wp2_with fail
            refine HG1.out.mono ?_
            rintro e w4 ⟨rfl, hO4⟩
            have HK4 := Vx.hid (HK3.out.quiet hO4)
            obtain ⟨⟨y0, y1, y2, y3, y4, y5, y6, y7⟩, yf⟩ := cap_cells HK4.out.c
            clear hO4 t0 t1 tf z0 z1 zf HG1 HK3
            go_upto_region 7 with fail
            obtain ⟨w5, hw5⟩ : ∃ w5, w5 = ((((((((w4.setCell ⟨cb, 0, none⟩ (.int .i64 e0)).setCell ⟨cb, 1, none⟩ (.int .i64 e1)).setCell ⟨cb, 2, none⟩ (.int .i64 e2)).setCell ⟨cb, 3, none⟩ (.int .u32 e3)).setCell ⟨cb, 4, none⟩ (.int .u32 e4)).setCell ⟨cb, 5, none⟩ (.int .i64 e5)).setCell ⟨cb, 6, none⟩ (.int .i64 e6)).setCell ⟨cb, 7, none⟩ (.int .u32 e7)) := ⟨_, rfl⟩
            rw [← hw5]
            have hK5 : LkX w cb rc ⟨e0, e1, e2, e3, e4, e5, e6, e7⟩ w5 := by rw [hw5]; exact HK4.out.next ⟨e0, e1, e2, e3, e4, e5, e6, e7⟩
            have HK5 := Vx.hid hK5
            clear hw5 hK5 y0 y1 y2 y3 y4 y5 y6 y7 yf HK4
            go_wp2_with fail
            go_roundw
            case rel => exact ⟨f, rest, ⟨e0, e1, e2, e3, e4, e5, e6, e7⟩, rfl, by omega, by omega, by omega, HANS, HNU2, HK5⟩
            case measure => simp only [RowKit.intOf]; omega
      · have her2 : (er == 0) = false := beq_eq_false_iff_ne.2 her
        have her3 : (er != 0) = true := by simp [bne, her2]
        have HANS : Hid (ans = ((s1, s2), er)) := by
          show ans = ((s1, s2), er)
          rw [HCT.out]; unfold contF; rw [if_pos (Or.inl her)]
        go_wp2_with fail
        refine bodyPost_ret (v := .tuple #[slV (s1, s2), .int .i64 er]) ?_ rfl ⟨by rw [HLA.out, HANS.out], HFI.out _ _ _ _ HK3.out⟩
        simp [results, Tryd.results43, go_sem, slV, z0, z1]
end Go.Proofs.YtbmchgjilkoplaaDoor

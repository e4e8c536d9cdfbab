/- Walks of package vspace: Mappings. -/
import Derived.Test.YtflmobffeeocdaaGreatDoorG2
namespace Go.Proofs.YtflmobffeeocdaaGreatDoor
open Go.ChangeShapes Go.WideShapes Go.ChangeAt Go.RowKit
open Go.Vx

theorem mappings_no {U : Nat → Prop} {w : World} {bm n : Nat} {f : Nat → UInt8} (h : MemAt U w bm n f) (root : Int) (hb : hasB n root = false) :
    Calls Tryz.prog 51 #[.pointer (some ⟨bm, 0, none⟩), .int .i64 root] w fun e w' => e = .returned (.tuple #[.slice none 0 0, .int .i64 1]) ∧ Only (fun _ => False) w w' := by
  have HTB := Vx.hid (tables_no h root hb)
  clear h hb
  go_enter Tryz.func51, Tryz.ntmps51
  go_wp2_with fail
  refine HTB.out.mono ?_
  rintro e w1 ⟨rfl, ho1⟩
  have HO1 := Vx.hid ho1
  clear ho1
  go_wp2_with fail
  go_loopw [8, 23] (fun v d wr => v = .slice none 0 0 ∧ d = .int .i64 0 ∧ wr = w1) (fun _ _ _ => 0)
  case atStart => exact ⟨rfl, rfl, rfl⟩
  case round =>
    obtain ⟨rfl, rfl, rfl⟩ := hrel
    go_wp2_with fail
    all_goals
      go_ret2
      exact ⟨rfl, HO1.out⟩
/-- A list under way beside the table that is gone through. -/
structure InR (w1 : World) (tb : Nat) (y : Int × Int × Int) (v : Value) (ms : List (Int × Int × Int)) (wx : World) : Prop where
  lk : MkR w1 v ms wx
  blk : wx.heap[tb]? = some (.cells #[.int .u32 y.1, .int .i64 y.2.1, .int .i64 y.2.2] 104 (0, 0))
  ne : v.ownBlock ≠ some tb
theorem InR.quiet {w1 : World} {tb : Nat} {y : Int × Int × Int} {v : Value} {ms : List (Int × Int × Int)} {wx wy : World} (h : InR w1 tb y v ms wx) (ho : Only (fun _ => False) wx wy) : InR w1 tb y v ms wy :=
  ⟨h.lk.quiet ho, by rw [ho.block tb (lt_of_some h.blk) (fun h => h)]; exact h.blk, h.ne⟩
theorem InR.push {w1 : World} {tb : Nat} {y : Int × Int × Int} {v : Value} {ms ms' : List (Int × Int × Int)} {wx wy : World} {g m c : Nat} (h : InR w1 tb y v ms wx) (ho : OwnM wy w1.heap.size 104 (.slice (some ⟨g, 0, none⟩) m c) ms') (hon : Only (fun k => v.ownBlock = some k) wx wy) (hg : v.ownBlock = some g ∨ wx.heap.size ≤ g) : InR w1 tb y (.slice (some ⟨g, 0, none⟩) m c) ms' wy := by
  have hl := lt_of_some h.blk
  refine ⟨h.lk.push ho hon, by rw [hon.block tb hl h.ne]; exact h.blk, fun e => ?_⟩
  have e' : g = tb := by simpa [Value.ownBlock] using e
  subst e'
  rcases hg with hg | hg
  · exact h.ne hg
  · omega
theorem InR.start {w1 wr : World} {v : Value} {ms : List (Int × Int × Int)} (h : MkR w1 v ms wr) (y : Int × Int × Int) : InR w1 wr.heap.size y v ms (wr.alloc (.cells #[.int .u32 y.1, .int .i64 y.2.1, .int .i64 y.2.2] 104)) :=
  ⟨h.quiet ((Only.refl _ _).alloc _), heap_alloc_last _ _, fun e => by have := (World.ownsRow.lt h.o _ e).2; omega⟩
set_option maxRecDepth 100000 in
set_option maxHeartbeats 4000000 in
theorem mappings_ok {U : Nat → Prop} {w : World} {bm n : Nat} {f : Nat → UInt8} (h : MemAt U w bm n f) (root : Nat) (hb : root < n) :
    Calls Tryz.prog 51 #[.pointer (some ⟨bm, 0, none⟩), .int .i64 (root : Int)] w fun e w' => ∃ v, e = .returned (.tuple #[v, .int .i64 0]) ∧ MkR w v (mapsF f (tabsF f n root 1024)) w' := by
  have hn := h.top
  have HTB := Vx.hid (tables_ok h root hb)
  have HM := Vx.hid h
  have HLN := Vx.hid (tabsF_len f n root 1024)
  have HME : Hid (∀ t ∈ tabsF f n root 1024, ∃ i p : Nat, i < 1024 ∧ p < n ∧ t = (((4194304 * i : Nat) : Int), ((p : Nat) : Int), (0 : Int))) := fun t ht => tabsF_mem ht
  have HFA := Vx.hid (fun t va (ht : t < n) (hv : va < 4294967296) wv => frameAt_any t va (by omega) hv wv)
  have HWD := Vx.hid (fun t va (ht : t < n) wv (hm : MemAt U wv bm n f) => word_ok hm (frmP t va) (frmP4 _ _) (frmP_in ht))
  generalize tabsF f n root 1024 = ts at HTB HLN HME
  clear h hb hn
  go_enter Tryz.func51, Tryz.ntmps51
  go_wp2_with fail
  refine HTB.out.mono ?_
  rintro e w1 ⟨vt, rfl, hmk⟩
  have HT1 := Vx.hid hmk
  obtain ⟨pt, ct, rfl, hlc, hcm, hpt⟩ := hmk.o.form
  have HPT := Vx.hid hpt
  have hlm : (ts.length : Int) ≤ 1024 := by have := HLN.out; omega
  obtain ⟨L, hL⟩ : ∃ L, L = ts.length := ⟨_, rfl⟩
  have HL := Vx.hid hL
  rw [← hL] at hlm HT1 HPT ⊢
  clear hmk hpt hlc hcm hL
  go_wp2_with fail
  go_loopw [8, 23] (fun v d wr => ∃ j : Nat, d = .int .i64 (j : Int) ∧ j ≤ L ∧ Hid (MkR w1 v (mapsF f (ts.take j)) wr)) (fun _ d _ => L - (intOf d).toNat)
  case atStart => exact ⟨0, rfl, by omega, MkR.start (Only.refl _ _)⟩
  case round =>
    obtain ⟨j, rfl, hj, HR⟩ := hrel
    by_cases hlt : j < L
    · have h1 : (j : Int) < (L : Int) := by omega
      have hidx : 0 ≤ (j : Int) ∧ (j : Int) < (L : Int) := by omega
      have hjt : j < ts.length := by have := HL.out; omega
      have w1' : IntKind.i64.wrap ((j : Int) + 1) = (j : Int) + 1 := by rw [IntKind.wrap_i64]; omega
      obtain ⟨gt, rfl, hg1, hg2⟩ := HPT.out (by omega)
      have hcells := (show OwnM wr w.heap.size 104 (.slice (some ⟨gt, 0, none⟩) ts.length ct) ts from by have := HT1.out.o.quiet HR.out.on; rw [HL.out] at this; exact this).at j hjt
      obtain ⟨i, p, hi, hp, hte⟩ := HME.out ts[j] (List.getElem_mem _)
      have HTK : Hid (mapsF f (ts.take (j + 1)) = mapsF f (ts.take j) ++ frmsF f i p 1024) := by
        show _ = _
        rw [mapsF_take f ts j hjt, hte]
        simp only [Int.toNat_natCast]
        rw [show 4194304 * i / 4194304 = i by omega]
      rw [hte] at hcells
      obtain ⟨c0, c1, c2⟩ := hcells
      simp only at c0 c1 c2
      have HI0 := Vx.hid (InR.start HR.out (((4194304 * i : Nat) : Int), ((p : Nat) : Int), (0 : Int)))
      have HML := Vx.hid (mapsF_len f (ts.take j))
      have HTL : Hid ((ts.take j).length ≤ 1024) := by show _ ≤ _; rw [List.length_take]; omega
      obtain ⟨A, hA⟩ : ∃ A, A = 4194304 * i := ⟨_, rfl⟩
      rw [← hA] at c0 HI0
      have HA : Hid (A = 4194304 * i ∧ i < 1024 ∧ p < n) := ⟨hA, hi, hp⟩
      generalize mapsF f (ts.take j) = ms at HR HTK HI0 HML
      clear hte hA hi hp hjt hlt HR
      go_wp2_with fail
      obtain ⟨w2, hw2⟩ : ∃ w2, w2 = wr.alloc (.cells #[.int .u32 (A : Int), .int .i64 (p : Int), .int .i64 0] 104) := ⟨_, rfl⟩
      rw [← hw2] at HI0 ⊢
      clear hw2 c0 c1 c2
      generalize wr.heap.size = tb at HI0 ⊢
      go_loopw [8, 27] (fun v d wx => ∃ k : Nat, d = .int .u32 (k : Int) ∧ k ≤ 1024 ∧ Hid (InR w1 tb ((A : Int), (p : Int), (0 : Int)) v (ms ++ frmsF f i p k) wx)) (fun _ d _ => 1024 - (intOf d).toNat)
      case atStart => exact ⟨0, rfl, by omega, by show InR _ _ _ _ _ _; rw [show frmsF f i p 0 = [] from rfl, List.append_nil]; exact HI0.out⟩
      case round =>
        clear HI0
        obtain ⟨k, rfl, hk, HR⟩ := hrel
        by_cases hk2 : k < 1024
        · have d1 : (k : Int) < 1024 := by omega
          have v1 : IntKind.u32.wrap ((k : Int) + 1) = (k : Int) + 1 := by rw [IntKind.wrap_u32]; omega
          have e1 : (k : Int) * 4096 = ((4096 * k : Nat) : Int) := by omega
          have v2 : IntKind.u32.wrap ((4096 * k : Nat) : Int) = ((4096 * k : Nat) : Int) := by rw [IntKind.wrap_u32]; omega
          have e2 : (A : Int) + ((4096 * k : Nat) : Int) = ((4194304 * i + 4096 * k : Nat) : Int) := by have := HA.out.1; omega
          have v3 : IntKind.u32.wrap ((4194304 * i + 4096 * k : Nat) : Int) = ((4194304 * i + 4096 * k : Nat) : Int) := by have := HA.out.2.1; rw [IntKind.wrap_u32]; omega
          have HF2 := Vx.hid (HFA.out p (4194304 * i + 4096 * k) HA.out.2.2 (by have := HA.out.2.1; omega))
          have HW2 := Vx.hid (HWD.out p (4194304 * i + 4096 * k) HA.out.2.2 wr ((HM.out.quiet HT1.out.on).quiet HR.out.lk.on))
          have hP : frmP p (4194304 * i + 4096 * k) = 4096 * p + k * 4 := by unfold frmP; omega
          rw [hP] at HF2 HW2
          have HS := Vx.hid (frmsF_succ f i p k)
          have g0 : wr.cell? ⟨tb, 0, none⟩ = some (.int .u32 (A : Int)) := by rw [cell_of_row _ _ 0 _ _ (0, 0) HR.out.blk]; rfl
          have g1 : wr.cell? ⟨tb, 1, none⟩ = some (.int .i64 (p : Int)) := by rw [cell_of_row _ _ 1 _ _ (0, 0) HR.out.blk]; rfl
          have HLL : Hid ((ms ++ frmsF f i p k).length ≤ 2000000) := by
            show _ ≤ _
            have h1 := HML.out
            have h2 := HTL.out
            have h3 := frmsF_len f i p k
            rw [List.length_append]
            omega
          generalize 4194304 * i + 4096 * k = VA at e2 v3 HF2 HW2 HS
          generalize 4096 * p + k * 4 = P at HF2 HW2 HS
          generalize 4096 * k = K4 at e1 v2 e2
          have hvl := wordF_lt f P
          generalize wordF f P = wd at HW2 HS hvl
          have hb1 : bits .and .u32 (wd : Int) 1 = ((wd % 2 : Nat) : Int) := by
            rw [u32_and (wd : Int) 1 (by omega) (by omega) (by decide) (by decide)]
            show ((wd &&& 1 : Nat) : Int) = _
            rw [Nat.and_one_is_mod]
          have HPG := Vx.hid (fun wv => vpage_any wd hvl wv)
          have HRG := Vx.hid (fun wv => vrights_any wd hvl wv)
          clear hvl hP
          by_cases hw : wd % 2 = 1
          · have hb2 : bits .and .u32 (wd : Int) 1 = 1 := by rw [hb1, hw]; rfl
            have HS2 : Hid (frmsF f i p (k + 1) = frmsF f i p k ++ [((VA : Int), ((wd / 1024 : Nat) : Int), ((wd / 2 % 8 : Nat) : Int))]) := by show _ = _; rw [HS.out, if_pos hw]
            generalize wd / 1024 = pg at HPG HS2
            generalize wd / 2 % 8 = rt at HRG HS2
            clear hb1 hw HS
            go_wp2_with fail
            refine (HF2.out _).mono ?_
            rintro e w' ⟨rfl, h⟩
            have h2 := h.symm; clear h; subst h2
            go_wp2_with fail
            refine HW2.out.mono ?_
            rintro e w3 ⟨rfl, ho3⟩
            have HR3 := Vx.hid (HR.out.quiet ho3)
            clear ho3
            go_wp2_with fail
            refine (HPG.out _).mono ?_
            rintro e w' ⟨rfl, h⟩
            have h2 := h.symm; clear h; subst h2
            go_wp2_with fail
            refine (HRG.out _).mono ?_
            rintro e w' ⟨rfl, h⟩
            have h2 := h.symm; clear h; subst h2
            have HB3 : Hid (w1.heap.size ≤ w3.heap.size) := HR3.out.lk.on.size
            go_wp2_with (at_builtin; refine append_mp _ rfl _ _ rfl w1.heap.size _ _ rfl HR3.out.lk.o ((VA : Int), (pg : Int), (rt : Int)) rfl HLL.out HB3.out (fun g cap w4 h1 h2 h3 => ?_))
            have HR4 : Hid (InR w1 tb ((A : Int), (p : Int), (0 : Int)) (.slice (some ⟨g, 0, none⟩) ((ms ++ frmsF f i p k).length + 1) cap) (ms ++ frmsF f i p (k + 1)) w4) := by
              show InR _ _ _ _ _ _
              rw [HS2.out, ← List.append_assoc]
              exact HR3.out.push h1 h2 h3
            clear h1 h2 h3
            go_wp2_with fail
            go_roundw
            case rel => exact ⟨k + 1, by go_num, by omega, by have h := HR4.out; rw [List.length_append] at h; exact h⟩
            case measure => simp only [intOf]; omega
          · have hb2 : bits .and .u32 (wd : Int) 1 = 0 := by rw [hb1, show wd % 2 = 0 by omega]; rfl
            have HS2 : Hid (frmsF f i p (k + 1) = frmsF f i p k) := by show _ = _; rw [HS.out, if_neg hw, List.append_nil]
            clear hb1 hw HS
            go_wp2_with fail
            refine (HF2.out _).mono ?_
            rintro e w' ⟨rfl, h⟩
            have h2 := h.symm; clear h; subst h2
            go_wp2_with fail
            refine HW2.out.mono ?_
            rintro e w3 ⟨rfl, ho3⟩
            have HR3 := Vx.hid (HR.out.quiet ho3)
            clear ho3
            go_wp2_with fail
            go_roundw
            case rel => exact ⟨k + 1, by go_num, by omega, by show InR _ _ _ _ _ _; rw [HS2.out]; exact HR3.out⟩
            case measure => simp only [intOf]; omega
        · obtain rfl : k = 1024 := by omega
          clear hk2 hk
          have HR2 : Hid (MkR w1 u8 (mapsF f (ts.take (j + 1))) wr) := by show MkR _ _ _ _; rw [HTK.out]; exact HR.out.lk
          go_wp2_with fail
          go_roundw
          case rel => exact ⟨j + 1, by go_num, by omega, HR2⟩
          case measure => simp only [intOf]; omega
    · obtain rfl : j = L := by omega
      have h1 : ¬ (j : Int) < (j : Int) := by omega
      have HF : Hid (mapsF f (ts.take j) = mapsF f ts) := by
        show _ = _
        rw [List.take_of_length_le (by have := HL.out; omega)]
      clear hlt hj
      go_wp2_with fail
      all_goals
        go_ret2
        refine ⟨_, rfl, ?_⟩
        have := HR.out
        rw [HF.out] at this
        exact ⟨⟨this.o.1, this.o.2.imp (fun h => h) (fun ⟨g, cap, cur, a, b, c⟩ => ⟨g, cap, cur, a, Nat.le_trans HT1.out.on.size b, c⟩)⟩, HT1.out.on.trans this.on⟩
end Go.Proofs.YtflmobffeeocdaaGreatDoor

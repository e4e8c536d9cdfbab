/- SpecReads' law: object (gen_td3.py). -/
import Derived.Test.YtgacifbpjdakaaaGreatDoorTL
import Derived.Deep.RegionHeld3
import Derived.Deep.CutBlock
namespace Go.Proofs.YtgacifbpjdakaaaGreatDoor
open Go.ChangeShapes Go.WideShapes Go.ChangeAt Go.RowKit
open Go.Vx
set_option linter.unusedVariables false

variable {W w w2 : World} {xb : Nat} {vt vo vc vm vh vi vn va : Value} {T : Tx}
theorem tab_at (k : Nat) (hk0 : 1 ≤ k) (hk1 : k ≤ 10) : [Value.string { data := #[] }, Value.string { data := #[117, 110, 116, 121, 112, 101, 100] }, Value.string { data := #[102, 114, 97, 109, 101] }, Value.string { data := #[116, 97, 98, 108, 101] }, Value.string { data := #[114, 111, 111, 116] }, Value.string { data := #[98, 111, 120] }, Value.string { data := #[116, 104, 114, 101, 97, 100] }, Value.string { data := #[101, 110, 100] }, Value.string { data := #[98, 101, 108, 108] }, Value.string { data := #[105, 114, 113] }, Value.string { data := #[112, 111, 114, 116] }][k]? = some (.string ⟨(wordF k).toArray⟩) := by
  rcases (show k = 1 ∨ k = 2 ∨ k = 3 ∨ k = 4 ∨ k = 5 ∨ k = 6 ∨ k = 7 ∨ k = 8 ∨ k = 9 ∨ k = 10 by omega) with rfl | rfl | rfl | rfl | rfl | rfl | rfl | rfl | rfl | rfl <;> rfl
theorem dec_len (n : Nat) (h : n < 18446744073709551616) : (Lib.decDigits n).length ≤ 20 := by rw [Lib.decDigits_length]; exact nDig_le n h
theorem tail_len (k s : Nat) (hs : s < 100) : (tailO k s).length ≤ 21 := by
  have h1 := dec_len (s % 9) (by omega)
  have h2 := dec_len s (by omega)
  unfold tailO
  split
  · simp; omega
  · split
    · simp; omega
    · simp
theorem word_len (k : Nat) : (wordF k).length ≤ 7 := by
  unfold wordF
  split <;> decide
/-- An object on its way. -/
def ObAt (w : World) (ob k n z : Nat) : Prop := w.heap[ob]? = some (.cells #[.int .i64 (k : Int), .int .i64 (n : Int), .int .i64 (z : Int)] 58 (0, 0))
def szO (k s : Nat) : Nat := if k = 5 then s else 0
theorem ObAt.only {S : Nat → Prop} {ob k n z : Nat} (h : ObAt w ob k n z) (ho : Only S w w2) (hS : ¬ S ob) : ObAt w2 ob k n z := (ho.block ob (lt_of_some h) hS).trans h
theorem ObAt.num {ob k n z : Nat} (h : ObAt w ob k n z) (n' : Nat) : ObAt (w.setCell ⟨ob, 1, none⟩ (.int .i64 (n' : Int))) ob k n' z := by
  unfold ObAt at h ⊢
  rw [heap_setCell_same _ _ 1 _ _ _ h]
  rfl
theorem ObAt.siz {ob k n z : Nat} (h : ObAt w ob k n z) (z' : Nat) : ObAt (w.setCell ⟨ob, 2, none⟩ (.int .i64 (z' : Int))) ob k n z' := by
  unfold ObAt at h ⊢
  rw [heap_setCell_same _ _ 2 _ _ _ h]
  rfl
theorem numO_lt (k p s : Nat) (hp : p < 256) (hs : s < 100) : numO k p s < 2400 ∧ numO k p s % 256 < 256 := by
  unfold numO
  split
  · omega
  · split <;> omega
theorem TxAt.other (h : TxAt W w xb vt vo vc vm vh vi vn va T) {ob : Nat} (u : Value) (j : Nat) {cs : Array Value} (hob : w.heap[ob]? = some (.cells cs 58 (0, 0))) (hf : vo.ownBlock ≠ some ob) (hW : W.heap.size ≤ ob) : TxAt W (w.setCell ⟨ob, j, none⟩ u) xb vt vo vc vm vh vi vn va T := by
  have ho : Only (fun k => k = ob) w (w.setCell ⟨ob, j, none⟩ u) := Only.setCell (S := fun k => k = ob) (Only.refl _ w) (Or.inl rfl) _
  refine ⟨h.be.trans (ho.below h.be.size (fun k hk h9 => by omega)), (ho.block xb (lt_of_some h.row) (fun e => tag_ne hob h.row (by decide) e.symm)).trans h.row, h.hb, h.lt.kept ho (fun k hk h9 => by obtain ⟨cur, h8⟩ := own_tag h.lt hk; exact tag_ne h8 hob (by decide) h9), h.lo.kept ho (fun k hk h9 => hf (by rw [← h9]; exact hk)), h.lc.kept ho (fun k hk h9 => by obtain ⟨cur, h8⟩ := own_tag h.lc hk; exact tag_ne h8 hob (by decide) h9), h.lm.kept ho (fun k hk h9 => by obtain ⟨cur, h8⟩ := own_tag h.lm hk; exact tag_ne h8 hob (by decide) h9), h.lh.kept ho (fun k hk h9 => by obtain ⟨cur, h8⟩ := own_tag h.lh hk; exact tag_ne h8 hob (by decide) h9), h.li.kept ho (fun k hk h9 => by obtain ⟨cur, h8⟩ := own_tag h.li hk; exact tag_ne h8 hob (by decide) h9), h.ln.kept ho (fun k hk h9 => by obtain ⟨cur, h8⟩ := own_tag h.ln hk; exact tag_ne h8 hob (by decide) h9), h.la.kept ho (fun k hk h9 => by obtain ⟨cur, h8⟩ := own_tag h.la hk; exact tag_ne h8 hob (by decide) h9)⟩
set_option maxRecDepth 100000 in
set_option maxHeartbeats 2000000 in
theorem object_any (h : TxAt W w xb vt vo vc vm vh vi vn va T) (k p s : Nat) (hk0 : 1 ≤ k) (hk1 : k ≤ 10) (hp : p < 256) (hs : s < 100) (hl : T.nm.length ≤ 1000) (hl2 : T.ar.length ≤ 1000) (hl3 : T.ob.length ≤ 1000) (hlt : T.t.length ≤ 1000000) : Calls Tryz.prog 20 #[.pointer (some ⟨xb, 0, none⟩), .int .i64 (k : Int), .int .i64 (p : Int), .int .i64 (s : Int)] w fun e w' => e = .returned (.tuple #[]) ∧
    Hid (∃ vo' vn' va', TxAt W w' xb vt vo' vc vm vh vi vn' va' { putO T k p s with t := T.t ++ lineO k p s T.nm.length }) := by
  have hkw := tab_at k hk0 hk1
  obtain ⟨wd, hwd⟩ : ∃ wd, wd = wordF k := ⟨_, rfl⟩
  rw [← hwd] at hkw
  have HWD := Vx.hid hwd
  have hwl : wd.length ≤ 7 := by rw [hwd]; exact word_len k
  obtain ⟨wa, hwa⟩ : ∃ wa, wa = w.alloc (.cells #[Value.string { data := #[] }, Value.string { data := #[117, 110, 116, 121, 112, 101, 100] }, Value.string { data := #[102, 114, 97, 109, 101] }, Value.string { data := #[116, 97, 98, 108, 101] }, Value.string { data := #[114, 111, 111, 116] }, Value.string { data := #[98, 111, 120] }, Value.string { data := #[116, 104, 114, 101, 97, 100] }, Value.string { data := #[101, 110, 100] }, Value.string { data := #[98, 101, 108, 108] }, Value.string { data := #[105, 114, 113] }, Value.string { data := #[112, 111, 114, 116] }] 9) := ⟨_, rfl⟩
  obtain ⟨wb, hwb⟩ : ∃ wb, wb = wa.alloc (.cells #[.int .i64 (k : Int), .int .i64 (p : Int), .int .i64 0] 58) := ⟨_, rfl⟩
  obtain ⟨ob, hob⟩ : ∃ ob, ob = w.heap.size + 1 := ⟨_, rfl⟩
  have hae : wa.heap.size = w.heap.size + 1 := by rw [hwa]; simp
  have hoh : ObAt wb ob k p 0 := by unfold ObAt; rw [hwb, hob, ← hae]; exact heap_alloc_last wa _
  have HOB := Vx.hid hoh
  have HH := Vx.hid (h.quiet (w2 := wb) (by rw [hwb, hwa]; exact ((Only.refl _ w).alloc _).alloc _))
  have HFR : Hid (vo.ownBlock ≠ some ob ∧ W.heap.size ≤ ob) := ⟨fun e => by have := (own_lt h.lo e).2; omega, by have := h.be.size; omega⟩
  have HLN : Hid (T.nm.length ≤ 1000 ∧ T.ar.length ≤ 1000 ∧ T.ob.length + 1 ≤ 10000000 ∧ T.t.length ≤ 1000000) := ⟨hl, hl2, by omega, hlt⟩
  have hnl := numO_lt k p s hp hs
  have htl := tail_len k s hs
  have heq : putO T k p s = { T with nm := T.nm ++ [nmF T.nm.length], ar := T.ar ++ [((k : Int), (numO k p s : Int))], ob := if k < 9 then T.ob ++ [⟨(k : Int), (numO k p s : Int), (szO k s : Int)⟩] else T.ob } := by
    have e : obO k p s = ⟨(k : Int), (numO k p s : Int), (szO k s : Int)⟩ := by unfold obO szO; split <;> rfl
    unfold putO
    rw [e]
  have hel : lineO k p s T.nm.length = wd ++ 32 :: (nmF T.nm.length ++ 32 :: (Lib.decDigits (numO k p s % 256) ++ tailO k s)) := by rw [HWD.out]; rfl
  rw [heq, hel]
  clear heq hel HWD
  obtain ⟨n, hn⟩ : ∃ n, n = numO k p s := ⟨_, rfl⟩
  obtain ⟨z, hz⟩ : ∃ z, z = szO k s := ⟨_, rfl⟩
  obtain ⟨tl, htle⟩ : ∃ tl, tl = tailO k s := ⟨_, rfl⟩
  rw [← hn] at hnl ⊢
  rw [← hz]
  rw [← htle] at htl ⊢
  have HNZ : Hid (n = numO k p s ∧ z = szO k s ∧ tl = tailO k s) := ⟨hn, hz, htle⟩
  have HTL := Vx.hid htl
  have HDG := Vx.hid (fun wv => decimal_ok (n % 256) (by omega) wv)
  have HDL := Vx.hid (dec_len (n % 256) (by omega))
  have hr0 : Int.tmod (n : Int) 256 = ((n % 256 : Nat) : Int) := by rw [Int.tmod_eq_emod_of_nonneg (by omega)]; omega
  obtain ⟨q, hq⟩ : ∃ q, q = n % 256 := ⟨_, rfl⟩
  rw [← hq] at HDG HDL hr0 ⊢
  have hq2 : q < 256 := by omega
  have HR0 := Vx.hid hr0
  obtain ⟨dq, hdq⟩ : ∃ dq, dq = Lib.decDigits q := ⟨_, rfl⟩
  rw [← hdq] at HDG HDL ⊢
  have HNN : Hid ((nmF T.nm.length).length ≤ 30) := by
    unfold nmF
    show _ ≤ _
    rw [List.length_cons]
    have := dec_len T.nm.length (by omega)
    omega
  have HNO : Hid (∀ (wv : World), TxAt W wv xb vt vo vc vm vh vi vn va T → Calls Tryz.prog 60 #[.pointer (some ⟨xb, 0, none⟩), .agg #[.int .i64 (k : Int), .int .i64 (n : Int)]] wv fun e w' => e = .returned (.string ⟨(nmF T.nm.length).toArray⟩) ∧ Hid (Only (fun k => k = xb ∨ vn.ownBlock = some k ∨ va.ownBlock = some k) wv w') ∧
    Hid (∃ vn' va', TxAt W w' xb vt vo vc vm vh vi vn' va' { T with nm := T.nm ++ [nmF T.nm.length], ar := T.ar ++ [((k : Int), (n : Int))] })) := fun wv hv => name_ok hv ((k : Int), (n : Int)) hl hl2
  obtain ⟨nf, hnf⟩ : ∃ nf, nf = nmF T.nm.length := ⟨_, rfl⟩
  rw [← hnf] at HNN HNO ⊢
  obtain ⟨obl, hobl⟩ : ∃ obl : List Ob, obl = if k < 9 then T.ob ++ [⟨(k : Int), (n : Int), (z : Int)⟩] else T.ob := ⟨_, rfl⟩
  rw [← hobl]
  have HOL := Vx.hid hobl
  clear hobl h hae hoh hwd hl hl2 hl3 hlt hn hz htle hnl htl hq hdq hnf hr0
  go_enter Tryz.func20, Tryz.ntmps20
  go_upto_block 0 with fail
  rw [← hwa, ← hwb]
  simp only [← hob]
  clear hwa hwb hob hkw
  go_cut [10] from 12 (fun t10 wx => t10 = .string ⟨tl.toArray⟩ ∧ Hid (TxAt W wx xb vt vo vc vm vh vi vn va T) ∧ Hid (ObAt wx ob k n z))
  case first =>
    obtain ⟨hn, hz, htle⟩ := HNZ.out
    subst hn hz htle
    clear HNZ HTL HDG HDL HR0 HNN HNO
    have HD1 := Vx.hid (fun wv => decimal_ok (s % 9) (by omega) wv)
    have HD2 := Vx.hid (fun wv => decimal_ok s (by omega) wv)
    have HL1 := Vx.hid (dec_len (s % 9) (by omega))
    have HL2 := Vx.hid (dec_len s (by omega))
    have c1 := (cell_of_row _ _ 1 _ _ (0, 0) HOB.out).trans rfl
    have c2 := (cell_of_row _ _ 2 _ _ (0, 0) HOB.out).trans rfl
    have f1 := froz HOB.out 1
    have f2 := froz HOB.out 2
    rcases (show k = 1 ∨ k = 5 ∨ k = 9 ∨ k = 10 ∨ (k = 2 ∨ k = 3 ∨ k = 4 ∨ k = 6 ∨ k = 7 ∨ k = 8) by omega) with rfl | rfl | rfl | rfl | h9
    · have e1 : Int.tmod (s : Int) 9 = ((s % 9 : Nat) : Int) := by rw [Int.tmod_eq_emod_of_nonneg (by omega)]; omega
      have hr : s % 9 < 9 := Nat.mod_lt _ (by omega)
      have HNE : Hid (numO 1 p s = p + s % 9 * 256 ∧ tailO 1 s = 32 :: Lib.decDigits (s % 9)) := ⟨rfl, rfl⟩
      obtain ⟨r, hre⟩ : ∃ r, r = s % 9 := ⟨_, rfl⟩
      rw [← hre] at e1 hr HNE HD1 HL1
      obtain ⟨wc, hwc⟩ : ∃ wc, wc = wb.setCell ⟨ob, 1, none⟩ (.int .i64 ((p + r * 256 : Nat) : Int)) := ⟨_, rfl⟩
      have HTX : Hid (TxAt W wc xb vt vo vc vm vh vi vn va T) := by rw [hwc]; exact HH.out.other (ob := ob) _ _ HOB.out HFR.out.1 HFR.out.2
      have HOC : Hid (ObAt wc ob 1 (p + r * 256) 0) := by rw [hwc]; exact HOB.out.num _
      clear HH HOB hre HD2 HL2
      go_wp2_with fail
      have ew : wb.setCell ⟨ob, 1, none⟩ (.int .i64 ((p : Int) + (r : Int) * 256)) = wc := by rw [hwc]; congr 2
      rw [ew]
      clear hwc ew
      refine (HD1.out _).mono ?_
      rintro e w4 ⟨rfl, hb4⟩
      have ho4 : Only (fun _ => False) wc w4 := Only.of_below hb4 (fun k hk h9 => by omega)
      have HT4 := Vx.hid (HTX.out.quiet ho4)
      have HO4 := Vx.hid (HOC.out.only ho4 (fun h => h))
      clear hb4 ho4
      have hl4 := HL1.out
      go_wp2_with fail
      go_meet
      case rel =>
        refine ⟨?_, HT4.out, ?_⟩
        · rw [HNE.out.2]; exact congrArg Value.string (catB [32] _)
        · rw [HNE.out.1]; exact HO4.out
    · have HNE : Hid (numO 5 p s = p ∧ tailO 5 s = 32 :: Lib.decDigits s ∧ szO 5 s = s) := ⟨rfl, rfl, rfl⟩
      obtain ⟨wc, hwc⟩ : ∃ wc, wc = wb.setCell ⟨ob, 2, none⟩ (.int .i64 (s : Int)) := ⟨_, rfl⟩
      have HTX : Hid (TxAt W wc xb vt vo vc vm vh vi vn va T) := by rw [hwc]; exact HH.out.other (ob := ob) _ _ HOB.out HFR.out.1 HFR.out.2
      have HOC : Hid (ObAt wc ob 5 p s) := by rw [hwc]; exact HOB.out.siz _
      clear HH HOB HD1 HL1
      go_wp2_with fail
      rw [← hwc]
      clear hwc
      refine (HD2.out _).mono ?_
      rintro e w4 ⟨rfl, hb4⟩
      have ho4 : Only (fun _ => False) wc w4 := Only.of_below hb4 (fun k hk h9 => by omega)
      have HT4 := Vx.hid (HTX.out.quiet ho4)
      have HO4 := Vx.hid (HOC.out.only ho4 (fun h => h))
      clear hb4 ho4
      have hl4 := HL2.out
      go_wp2_with fail
      go_meet
      case rel =>
        refine ⟨?_, HT4.out, ?_⟩
        · rw [HNE.out.2.1]; exact congrArg Value.string (catB [32] _)
        · rw [HNE.out.1, HNE.out.2.2]; exact HO4.out
    · have e1 : Int.tmod (p : Int) 8 = ((p % 8 : Nat) : Int) := by rw [Int.tmod_eq_emod_of_nonneg (by omega)]; omega
      have HNE : Hid (numO 9 p s = p % 8 ∧ tailO 9 s = [] ∧ szO 9 s = 0) := ⟨rfl, rfl, rfl⟩
      obtain ⟨r, hre⟩ : ∃ r, r = p % 8 := ⟨_, rfl⟩
      rw [← hre] at e1 HNE
      have hr : r < 8 := by omega
      have e2 : (p : Int) % 8 = (r : Int) := by omega
      have HTX := Vx.hid (HH.out.other (ob := ob) (.int .i64 (r : Int)) 1 HOB.out HFR.out.1 HFR.out.2)
      have HOC := Vx.hid (HOB.out.num r)
      clear HH HOB hre HD1 HD2 HL1 HL2
      go_wp2_with fail
      go_meet
      case rel =>
        refine ⟨?_, HTX.out, ?_⟩
        · rw [HNE.out.2.1]
        · rw [HNE.out.1, HNE.out.2.2]; exact HOC.out
    · have e1 : Int.tmod (p : Int) 8 = ((p % 8 : Nat) : Int) := by rw [Int.tmod_eq_emod_of_nonneg (by omega)]; omega
      have HNE : Hid (numO 10 p s = p % 8 ∧ tailO 10 s = [] ∧ szO 10 s = 0) := ⟨rfl, rfl, rfl⟩
      obtain ⟨r, hre⟩ : ∃ r, r = p % 8 := ⟨_, rfl⟩
      rw [← hre] at e1 HNE
      have hr : r < 8 := by omega
      have e2 : (p : Int) % 8 = (r : Int) := by omega
      have HTX := Vx.hid (HH.out.other (ob := ob) (.int .i64 (r : Int)) 1 HOB.out HFR.out.1 HFR.out.2)
      have HOC := Vx.hid (HOB.out.num r)
      clear HH HOB hre HD1 HD2 HL1 HL2
      go_wp2_with fail
      go_meet
      case rel =>
        refine ⟨?_, HTX.out, ?_⟩
        · rw [HNE.out.2.1]
        · rw [HNE.out.1, HNE.out.2.2]; exact HOC.out
    · have HNE : Hid (numO k p s = p ∧ tailO k s = [] ∧ szO k s = 0) := by rcases h9 with rfl | rfl | rfl | rfl | rfl | rfl <;> exact ⟨rfl, rfl, rfl⟩
      have n1 : ((k : Int) == 1) = false := beq_eq_false_iff_ne.2 (by omega)
      have n5 : ((k : Int) == 5) = false := beq_eq_false_iff_ne.2 (by omega)
      have n9 : ((k : Int) == 9) = false := beq_eq_false_iff_ne.2 (by omega)
      have n10 : ((k : Int) == 10) = false := beq_eq_false_iff_ne.2 (by omega)
      clear h9 HD1 HD2 HL1 HL2
      go_wp2_with fail
      go_meet
      case rel =>
        refine ⟨?_, HH.out, ?_⟩
        · rw [HNE.out.2.1]
        · rw [HNE.out.1, HNE.out.2.2]; exact HOB.out
  case rest =>
    obtain ⟨rfl, HH2, HOB2⟩ := hcut
    have c0 := (cell_of_row _ _ 0 _ _ (0, 0) HOB2.out).trans rfl
    have c1 := (cell_of_row _ _ 1 _ _ (0, 0) HOB2.out).trans rfl
    clear hs hp HNZ
    go_wp2_with fail
    refine (HNO.out _ HH2.out).mono ?_
    rintro e w3 ⟨rfl, HO3, HE3⟩
    obtain ⟨vn3, va3, H3⟩ := HE3.out
    have HH3 := Vx.hid H3
    have HOB3 : Hid (ObAt w3 ob k n z) := by
      refine HOB2.out.only HO3.out (fun h9 => ?_)
      rcases h9 with h9 | h9 | h9
      · exact tag_ne HOB2.out HH2.out.row (by decide) h9
      · obtain ⟨cur, h8⟩ := own_tag HH2.out.ln h9; exact tag_ne h8 HOB2.out (by decide) rfl
      · obtain ⟨cur, h8⟩ := own_tag HH2.out.la h9; exact tag_ne h8 HOB2.out (by decide) rfl
    clear HNO HO3 HE3 H3 HH2 HOB2 c0 c1 HOB HH
    have hr0 := HR0.out
    go_upto_region 14 with fail
    have HCE : Hid (∀ wv, TxAt W wv xb vt vo vc vm vh vi vn3 va3 { T with nm := T.nm ++ [nf], ar := T.ar ++ [((k : Int), (n : Int))] } → ObAt wv ob k n z → wv.cell? ⟨xb, 0, none⟩ = some (.string ⟨T.t.toArray⟩) ∧ wv.cell? ⟨ob, 1, none⟩ = some (.int .i64 (n : Int))) := fun wv h1 h2 => ⟨(cell_of_row _ _ 0 _ _ (0, 0) h1.row).trans rfl, (cell_of_row _ _ 1 _ _ (0, 0) h2).trans rfl⟩
    have HI0 := Vx.hid (HH3.out.quiet ((Only.refl _ w3).drew))
    have HOB0 : Hid (ObAt w3.drew ob k n z) := HOB3.out
    have HFL : Hid (∀ w4, Below w3.drew.heap.size w3.drew w4 → TxAt W w4 xb vt vo vc vm vh vi vn3 va3 { T with nm := T.nm ++ [nf], ar := T.ar ++ [((k : Int), (n : Int))] } ∧ ObAt w4 ob k n z) := fun w4 hb4 => by
      have ho4 : Only (fun _ => False) w3.drew w4 := Only.of_below hb4 (fun k hk h9 => by omega)
      exact ⟨HI0.out.quiet ho4, HOB0.out.only ho4 (fun h => h)⟩
    have HFIN : Hid (∀ wv, TxAt W wv xb vt vo vc vm vh vi vn3 va3 { T with nm := T.nm ++ [nf], ar := T.ar ++ [((k : Int), (n : Int))] } → ObAt wv ob k n z → Hid (TxAt W (wv.setCell ⟨xb, 0, none⟩ (.string ((⟨T.t.toArray⟩ : ByteArray) ++ ⟨wd.toArray⟩ ++ ⟨#[32]⟩ ++ ⟨nf.toArray⟩ ++ ⟨#[32]⟩ ++ ⟨dq.toArray⟩ ++ ⟨tl.toArray⟩))) xb vt vo vc vm vh vi vn3 va3 { T with t := T.t ++ (wd ++ 32 :: (nf ++ 32 :: (dq ++ tl))), nm := T.nm ++ [nf], ar := T.ar ++ [((k : Int), (n : Int))] }) ∧ Hid (ObAt (wv.setCell ⟨xb, 0, none⟩ (.string ((⟨T.t.toArray⟩ : ByteArray) ++ ⟨wd.toArray⟩ ++ ⟨#[32]⟩ ++ ⟨nf.toArray⟩ ++ ⟨#[32]⟩ ++ ⟨dq.toArray⟩ ++ ⟨tl.toArray⟩))) ob k n z)) := fun wv h1 h2 => by
      have e : (⟨T.t.toArray⟩ : ByteArray) ++ ⟨wd.toArray⟩ ++ ⟨#[32]⟩ ++ ⟨nf.toArray⟩ ++ ⟨#[32]⟩ ++ ⟨dq.toArray⟩ ++ ⟨tl.toArray⟩ = ⟨(T.t ++ (wd ++ 32 :: (nf ++ 32 :: (dq ++ tl)))).toArray⟩ := by
        simp only [catB, List.append_assoc, List.cons_append, List.nil_append]
      rw [e]
      exact ⟨h1.text _, h2.only (Only.setCell (S := fun k => k = xb) (Only.refl _ wv) (Or.inl rfl) _) (fun e => tag_ne h2 h1.row (by decide) e)⟩
    go_cut [] from 52 (fun wx => Hid (TxAt W wx xb vt vo vc vm vh vi vn3 va3 { T with t := T.t ++ (wd ++ 32 :: (nf ++ 32 :: (dq ++ tl))), nm := T.nm ++ [nf], ar := T.ar ++ [((k : Int), (n : Int))] }) ∧ Hid (ObAt wx ob k n z))
    case first =>
      have g0 := HLN.out.2.2.2
      have gd := HDL.out
      have gn := HNN.out
      have gt := HTL.out
      have g1 : ¬ 9223372036854775807 < T.t.length + wd.length := by omega
      have g2 : ¬ 9223372036854775807 < T.t.length + wd.length + 1 := by omega
      have g3 : ¬ 9223372036854775807 < T.t.length + wd.length + 1 + nf.length := by omega
      have g4 : ¬ 9223372036854775807 < T.t.length + wd.length + 1 + nf.length + 1 := by omega
      have g5 : ¬ 9223372036854775807 < T.t.length + wd.length + 1 + nf.length + 1 + dq.length := by omega
      have g6 : ¬ 9223372036854775807 < T.t.length + wd.length + 1 + nf.length + 1 + dq.length + tl.length := by omega
      clear g0 gd gn gt hwl
      obtain ⟨d0, d1⟩ := HCE.out _ HH3.out HOB3.out
      go_region_law (refine Vx.step_callx rfl 22 #[.tmp 66] #[3] rfl #[.int .i64 (q : Int)] (by first | rfl | simp [Act.eval, go_sem]) (by simp [go_sem]) (HDG.out _) ?_; rintro e w4 ⟨rfl, hb4⟩; have HI1 := Vx.hid (HFL.out w4 hb4); clear hb4; obtain ⟨d0, d1⟩ := HCE.out _ HI1.out.1 HI1.out.2; have f0 := froz HI1.out.1.row 0; refine ⟨_, rfl, ?_⟩)
      all_goals
        go_wp2_with fail
        go_meet
        case rel => exact HFIN.out _ HI1.out.1 HI1.out.2
    case rest =>
      obtain ⟨HH5, HO5⟩ := hcut
      clear HFIN HFL HI0 HOB0 HOB3 HH3 HCE
      by_cases hk9 : k < 9
      · have HOE : Hid (obl = T.ob ++ [⟨(k : Int), (n : Int), (z : Int)⟩]) := by show _ = _; rw [HOL.out, if_pos hk9]
        have hkb : decide ((k : Int) < 9) = true := decide_eq_true (by omega)
        obtain ⟨po, co, hvo, _⟩ := HH5.out.lo.form
        obtain ⟨no, hno⟩ : ∃ no, no = T.ob.length := ⟨_, rfl⟩
        dsimp only at hvo
        rw [← hno] at hvo
        subst hvo
        have c4 := (cell_of_row _ _ 4 _ _ (0, 0) HH5.out.row).trans rfl
        have e0 := (cell_of_row _ _ 0 _ _ (0, 0) HO5.out).trans rfl
        have e1 := (cell_of_row _ _ 1 _ _ (0, 0) HO5.out).trans rfl
        have e2 := (cell_of_row _ _ 2 _ _ (0, 0) HO5.out).trans rfl
        have hxl : xb < wc.heap.size := lt_of_some HH5.out.row
        have hol : ob < wc.heap.size := lt_of_some HO5.out
        obtain ⟨we, hwe⟩ : ∃ we, we = (wc.alloc (.cells #[.int .i64 (k : Int), .int .i64 (n : Int), .int .i64 (z : Int)] 58)).drew := ⟨_, rfl⟩
        have hond : Only (fun _ => False) wc we := by rw [hwe]; exact ((Only.refl _ wc).alloc _).drew
        have HYD : Hid (∀ j u, (obL.cf ⟨(k : Int), (n : Int), (z : Int)⟩)[j]? = some u → we.cell? ⟨wc.heap.size, j, none⟩ = some u) := fun j u hj => by
          have hl : we.heap[wc.heap.size]? = some (.cells #[.int .i64 (k : Int), .int .i64 (n : Int), .int .i64 (z : Int)] 58 (0, 0)) := by rw [hwe]; exact heap_alloc_last wc _
          rw [cell_of_row _ _ j _ _ (0, 0) hl]
          simpa [obL] using hj
        have HHD := Vx.hid (HH5.out.quiet hond)
        have HBD : Hid (W.heap.size ≤ we.heap.size) := HHD.out.be.size
        have HLO : Hid (T.ob.length + 1 ≤ 10000000) := HLN.out.2.2.1
        clear hond hno HLN
        go_upto_region 16 with fail
        go_region_law (refine Vx.step_append_one tKo rfl (.tmp 80) (.tmp 82) rfl W.heap.size (.slice po no co) T.ob (by simp [Act.eval]) (by rw [← hwe]; exact HHD.out.lo) ⟨(k : Int), (n : Int), (z : Int)⟩ wc.heap.size 1 1 (by simp [Act.eval]) (by rw [← hwe]; exact HYD.out) HLO.out (by rw [← hwe]; exact HBD.out) ?_; intro v' w6 hv1 hv2 hv3; rw [← hwe] at hv2 hv3; obtain ⟨⟨pq, mq, cq, rfl⟩, ⟨qx, hq1⟩, hq2, HQ5⟩ := HHD.out.st_o v' w6 _ hv1 hv2; clear hv1 hv2 hv3)
        all_goals
          go_wp2_with fail
          first | go_end0 | refine bodyPost_ret (results_none rfl _ _ _) rfl ?_
          exact ⟨rfl, _, _, _, by rw [HOE.out]; exact HQ5.out⟩
      · have HOE : Hid (obl = T.ob) := by show _ = _; rw [HOL.out, if_neg hk9]
        have hkb : decide ((k : Int) < 9) = false := decide_eq_false (by omega)
        go_wp2_with fail
        first | go_end0 | refine bodyPost_ret (results_none rfl _ _ _) rfl ?_
        exact ⟨rfl, _, _, _, by rw [HOE.out]; exact HH5.out⟩
end Go.Proofs.YtgacifbpjdakaaaGreatDoor

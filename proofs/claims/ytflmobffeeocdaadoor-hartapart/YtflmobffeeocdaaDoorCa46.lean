import Derived.Test.YtflmobffeeocdaaDoorCa34
import Derived.Test.YtflmobffeeocdaaDoorCa45
import Derived.Test.YtflmobffeeocdaaDoorCa27
/- HartSums: one instruction alone. -/
namespace Go.Proofs.YtflmobffeeocdaaDoor
open Go.ChangeShapes Go.WideShapes Go.ChangeAt Go.RowKit
open Go.Vx

theorem good_three (op : Nat) (h : (28 ≤ op ∧ op ≤ 37) ∨ (41 ≤ op ∧ op ≤ 48)) : Good ⟨(op : Int), 3, 1, 2, 0⟩ := by
  have hc : op = 28 ∨ op = 29 ∨ op = 30 ∨ op = 31 ∨ op = 32 ∨ op = 33 ∨ op = 34 ∨ op = 35 ∨ op = 36 ∨ op = 37 ∨ op = 41 ∨ op = 42 ∨ op = 43 ∨ op = 44 ∨ op = 45 ∨ op = 46 ∨ op = 47 ∨ op = 48 := by omega
  rcases hc with rfl | rfl | rfl | rfl | rfl | rfl | rfl | rfl | rfl | rfl | rfl | rfl | rfl | rfl | rfl | rfl | rfl | rfl
  all_goals exact ⟨by decide, by decide, by kernel_rfl⟩
theorem word_three (op : Nat) (h : (28 ≤ op ∧ op ≤ 37) ∨ (41 ≤ op ∧ op ≤ 48)) : ∃ x : Nat, wordOf ⟨(op : Int), 3, 1, 2, 0⟩ = (x : Int) ∧ x < 4294967296 := by
  have hc : op = 28 ∨ op = 29 ∨ op = 30 ∨ op = 31 ∨ op = 32 ∨ op = 33 ∨ op = 34 ∨ op = 35 ∨ op = 36 ∨ op = 37 ∨ op = 41 ∨ op = 42 ∨ op = 43 ∨ op = 44 ∨ op = 45 ∨ op = 46 ∨ op = 47 ∨ op = 48 := by omega
  refine ⟨(wordOf ⟨(op : Int), 3, 1, 2, 0⟩).toNat, ?_, ?_⟩
  · rcases hc with rfl | rfl | rfl | rfl | rfl | rfl | rfl | rfl | rfl | rfl | rfl | rfl | rfl | rfl | rfl | rfl | rfl | rfl
    all_goals kernel_rfl
  · rcases hc with rfl | rfl | rfl | rfl | rfl | rfl | rfl | rfl | rfl | rfl | rfl | rfl | rfl | rfl | rfl | rfl | rfl | rfl
    all_goals exact of_decide_eq_true (by kernel_rfl)
/-- The registers of one instruction alone. -/
def regs2 (a b : Nat) : Nat → Nat := Vx.setR (Vx.setR (fun _ => 0) 1 a) 2 b
theorem regs2_eq (a b i : Nat) : regs2 a b i = if i = 2 then b else if i = 1 then a else 0 := rfl
theorem regs2_lt (a b : Nat) (ha : a < 4294967296) (hb : b < 4294967296) (i : Nat) : regs2 a b i < 4294967296 := by
  rw [regs2_eq]
  split
  · exact hb
  · split
    · exact ha
    · decide
/-- A context's cells. -/
def ctxL (R : Nat → Nat) (pc : Nat) : List Value := (List.range 32).map (fun i => Value.int .u32 (R i : Nat)) ++ [.int .u32 (pc : Int)]
theorem length_ctxL (R : Nat → Nat) (pc : Nat) : (ctxL R pc).length = 33 := by simp [ctxL]
theorem ctxL_r (R : Nat → Nat) (pc i : Nat) (h : i < 32) : (ctxL R pc)[i]? = some (.int .u32 (R i : Nat)) := by
  unfold ctxL
  rw [List.getElem?_append_left (by simpa using h)]
  simp [h]
theorem ctxL_p (R : Nat → Nat) (pc : Nat) : (ctxL R pc)[32]? = some (.int .u32 (pc : Int)) := by
  unfold ctxL
  rw [List.getElem?_append_right (by simp)]
  simp
theorem oneCell_ctx (R : Nat → Nat) (pc : Nat) : ∀ v ∈ ctxL R pc, v.oneCell' = true := by
  intro v hv
  unfold ctxL at hv
  rw [List.mem_append] at hv
  rcases hv with hv | hv
  · simp only [List.mem_map] at hv
    obtain ⟨i, _, rfl⟩ := hv
    rfl
  · simp only [List.mem_singleton] at hv
    subst hv
    rfl
theorem CxAt.made {w : World} {cb : Nat} {R : Nat → Nat} {pc : Nat} (h : w.heap[cb]? = some (.cells (ctxL R pc).toArray 26 (0, 0))) : CxAt w cb 0 26 (ctxL R pc).toArray R pc :=
  ⟨h, fun i hi => by rw [Nat.zero_add]; simpa using ctxL_r R pc i hi, by simpa using ctxL_p R pc⟩
theorem infoCtx : (Tryd.prog.info? 26).map (fun i => (i.zero, i.size)) = some (some (.agg (ctxL (fun _ => 0) 0).toArray), 33) := by kernel_rfl
theorem infoCtx2 : (Tryd.prog.info? 26).map (·.size) = some 33 := by kernel_rfl
theorem zero_ctx : ∀ w, (zeroValue 26).run Tryd.prog w = .ok (.agg (ctxL (fun _ => 0) 0).toArray) w := (zero_of_info (P := Tryd.prog) infoCtx).1
theorem ctxL_set (R : Nat → Nat) (p q : Nat) : (ctxL R p).set 32 (.int .u32 (q : Int)) = ctxL R q := by
  unfold ctxL
  rw [List.set_append_right _ _ (by simp)]
  simp
theorem ctxL_setR (R : Nat → Nat) (p i v : Nat) (h0 : i ≠ 0) (h : i < 32) : (ctxL R p).set i (.int .u32 (v : Int)) = ctxL (Vx.setR R i v) p := by
  apply List.ext_getElem?
  intro j
  rw [List.getElem?_set, length_ctxL]
  by_cases hj : j < 32
  · rw [ctxL_r _ _ _ hj, ctxL_r _ _ _ hj]
    unfold Vx.setR
    rw [if_neg h0]
    by_cases hij : i = j
    · rw [if_pos hij, if_pos (by omega), if_pos hij.symm]
    · rw [if_neg hij, if_neg (fun e => hij e.symm)]
  · rw [if_neg (by omega)]
    by_cases h2 : j = 32
    · subst h2
      rw [ctxL_p, ctxL_p]
    · rw [List.getElem?_eq_none (by rw [length_ctxL]; omega), List.getElem?_eq_none (by rw [length_ctxL]; omega)]
theorem store_ctx (w : World) (R S : Nat → Nat) (p q : Nat) : (storeCells ⟨w.heap.size, 0, none⟩ (ctxL S q) 0).run Tryd.prog (w.alloc (.cells (ctxL R p).toArray 26)) = .ok () (w.alloc (.cells (ctxL S q).toArray 26)) := by
  have h := run_storeCells_new (P := Tryd.prog) w 26 (ctxL R p).toArray (ctxL S q).toArray (by rw [infoCtx2, List.size_toArray, length_ctxL]) (by rw [List.size_toArray, List.size_toArray, length_ctxL, length_ctxL]) (by simpa using oneCell_ctx S q)
  simpa using h
def one1 : List (Int × Int × Int) := [(1, 1, 4)]
theorem lay_one : layH (one1.take 40) 1 = (5, 5) := by kernel_rfl
theorem step_three (op : Nat) (h : (28 ≤ op ∧ op ≤ 37) ∨ (41 ≤ op ∧ op ≤ 48)) (x : Nat) (hx : wordOf ⟨(op : Int), 3, 1, 2, 0⟩ = (x : Int)) (hx2 : x < 4294967296) (hok : ∀ v, v < 12 → okE (layH (one1.take 40) v)) (a b : Nat) :
    stepF (putF (laidF (layH (one1.take 40))) 20480 (fourB x)) 12 1 (regs2 a b) 4096 = .ok (putF (laidF (layH (one1.take 40))) 20480 (fourB x), Vx.setR (regs2 a b) 3 (arithF op a b), 4100) := by
  have ht : Tabs (layH (one1.take 40)) (putF (laidF (layH (one1.take 40))) 20480 (fourB x)) := fun y hy => by
    unfold putF
    rw [if_neg (by omega)]
  have hp : placeF (putF (laidF (layH (one1.take 40))) 20480 (fourB x)) 12 1 4096 4 0 = .ok 20480 := by
    rw [place_at ht hok 4096 (by decide) 4 0 (by decide), if_neg (by decide), show 4096 / 4096 = 1 from rfl, lay_one]
    exact if_pos ⟨by decide, by decide⟩
  have hw : wordF (putF (laidF (layH (one1.take 40))) 20480 (fourB x)) 20480 = x := wordF_four _ _ x hx2 (fun i hi => by
    unfold putF
    rw [if_pos (by rw [len4]; omega), show 20480 + i - 20480 = i by omega])
  unfold stepF
  rw [hp]
  have hd : dec (wordF (putF (laidF (layH (one1.take 40))) 20480 (fourB x)) 20480 : Nat) = ⟨(op : Int), ((3 : Nat) : Int), ((1 : Nat) : Int), ((2 : Nat) : Int), 0⟩ := by
    rw [hw, ← hx]
    exact (good_three op h).2.2
  have hi : InsIs (dec (wordF (putF (laidF (layH (one1.take 40))) 20480 (fourB x)) 20480 : Nat)) op 3 1 2 0 := ⟨hd, by omega, by omega, by decide, by decide, by decide, by decide, by decide, fun _ => by omega⟩
  rw [decG_ok hi, exe_sum (by decide) h]
  rfl
set_option maxRecDepth 100000 in
set_option maxHeartbeats 2000000 in
theorem alone_ok (W : World) (hus : UsesAt W) (hmi : MisAt W) (hfo : FormsAt W) (op : Nat) (hop : (28 ≤ op ∧ op ≤ 37) ∨ (41 ≤ op ∧ op ≤ 48)) (a b : Nat) (ha : a < 4294967296) (hb : b < 4294967296) :
    Calls Tryd.prog 10 #[.int .i64 (op : Int), .int .u32 (a : Int), .int .u32 (b : Int)] W fun e w' => e = .returned (.tuple #[.int .u32 (arithF op a b : Nat), .bool true]) ∧ Below W.heap.size W w' := by
  obtain ⟨x, hx, hx2⟩ := word_three op hop
  have HST := Vx.hid (fun hok => step_three op hop x hx hx2 hok a b)
  have HEN : Hid (∀ wv, FormsAt wv → Calls Tryd.prog 20 #[.agg #[.int .i64 (op : Int), .int .i64 3, .int .i64 1, .int .i64 2, .int .i64 0]] wv fun e w' => e = .returned (.tuple #[.int .u32 (x : Int), .int .i64 0]) ∧ Below wv.heap.size wv w') := fun wv hv => by
    have h := encode_good _ (good_three op hop) wv hv
    rw [hx] at h
    exact h
  obtain ⟨W1, hW1⟩ : ∃ W1, W1 = W.alloc (.cells #[.int .i64 1, .int .i64 1, .int .i64 4] 29) := ⟨_, rfl⟩
  have hO1 : Only (fun _ => False) W W1 := by rw [hW1]; exact (Only.refl _ W).alloc _
  have hrow : W1.heap[W.heap.size]? = some (.cells #[.int .i64 1, .int .i64 1, .int .i64 4] 29 (0, 0)) := by rw [hW1]; exact heap_alloc_last W _
  have HLD := Vx.hid (laid_at W1 (some ⟨W.heap.size, 0, none⟩) 1 1 one1 rfl (Nat.le_refl _) (by decide) (Or.inr ⟨W.heap.size, 0, rfl, fun j hj => by
    have hj0 : j = 0 := by have : one1.length = 1 := rfl; omega
    subst hj0
    exact ⟨by rw [cell_of_row _ _ _ _ _ (0, 0) hrow]; rfl, by rw [cell_of_row _ _ _ _ _ (0, 0) hrow]; rfl, by rw [cell_of_row _ _ _ _ _ (0, 0) hrow]; rfl⟩⟩) (fun z hz => by
    have hz2 : z = (1, 1, 4) := by simpa [one1] using hz
    subst hz2
    exact ⟨⟨by decide, by decide⟩, ⟨by decide, by decide⟩, by decide, by decide⟩))
  have HW := Vx.hid (⟨hus, hmi, hfo, hO1⟩ : _ ∧ _ ∧ _ ∧ _)
  have HX := Vx.hid hx2
  have HAB := Vx.hid (⟨ha, hb⟩ : _ ∧ _)
  clear hus hmi hfo hop ha hb hx hx2 hO1 hrow
  go_enter Tryd.func10, Tryd.ntmps10
  go_wp2_with fail
  rw [← hW1]
  refine HLD.out.mono ?_
  rintro e w1 ⟨bm, H, rfl, hm, hok, hbe, hH⟩
  have hsz : (hvL H).length = 36 := length_hvL H
  have hsc : (storeCells ⟨w1.heap.size, 0, none⟩ (hvL H) 0).run Tryd.prog (w1.alloc (.cells #[.int .i64 0, .int .i64 0, .int .i64 0, .int .i64 0, .int .i64 0, .int .i64 0, .int .i64 0, .int .i64 0, .int .i64 0, .int .i64 0, .int .i64 0, .int .i64 0, .int .i64 0, .int .i64 0, .int .i64 0, .int .i64 0, .int .i64 0, .int .i64 0, .int .i64 0, .int .i64 0, .int .i64 0, .int .i64 0, .int .i64 0, .int .i64 0, .int .i64 0, .int .i64 0, .int .i64 0, .int .i64 0, .int .i64 0, .int .i64 0, .int .i64 0, .int .i64 0, .int .i64 0, .int .i64 0, .int .i64 0, .int .i64 0] 30)) = .ok () (w1.alloc (.cells (hvL H).toArray 30)) := by
    rw [← hvL_zero]
    exact run_storeCells_new (P := Tryd.prog) w1 30 (hvL (fun _ => (0, 0))).toArray (hvL H).toArray (by rw [infoLay, List.size_toArray, length_hvL]) (by rw [List.size_toArray, List.size_toArray, length_hvL, length_hvL]) (by simpa using oneCell_hv H)
  have HM := Vx.hid (⟨hm, hok, hbe, hH⟩ : _ ∧ _ ∧ _ ∧ _)
  clear hm hok hbe hH HLD
  go_wp2_with fail
  have hOa : Only (fun _ => False) W (w1.alloc (.cells (hvL H).toArray 30)) := (HW.out.2.2.2.trans (only_of_below HM.out.2.2.1)).alloc _
  refine (HEN.out _ (HW.out.2.2.1.only hOa (fun h => h))).mono ?_
  rintro e w2 ⟨rfl, hbe2⟩
  have hO2 := hOa.trans (only_of_below hbe2)
  have hm2 : MemAt (fun k => k < W1.heap.size) w2 bm 12 (laidF H) := (HM.out.1.only ((Only.refl (fun _ => False) w1).alloc _) (fun _ h _ => h.elim)).only (only_of_below hbe2) (fun _ h _ => h.elim)
  have hz1 : W1.heap.size ≤ w2.heap.size := Nat.le_trans HM.out.2.2.1.size (Nat.le_trans (by simp) hbe2.size)
  have HO2 := Vx.hid (⟨hO2, hz1⟩ : _ ∧ _)
  obtain ⟨bp, q, hmi2⟩ := hm2
  have HSW := Vx.hid (setWord_ok hmi2 20480 x HX.out (by decide) (by decide))
  clear hsz hsc hOa hbe2 hO2 hmi2 HEN hz1
  go_wp2_with fail
  refine HSW.out.mono ?_
  rintro e w3 ⟨rfl, ⟨q3, hm3⟩, ho3⟩
  have HM3 := Vx.hid (⟨⟨bp, q3, hm3⟩, ho3⟩ : MemAt (fun k => k < W1.heap.size) w3 bm 12 (putF (laidF H) 20480 (fourB x)) ∧ _)
  clear hm3 ho3 HSW
  have hzero := zero_ctx
  have hbuild : (ctxL (fun _ => 0) 0).set 32 (.int .u32 4096) = ctxL (fun _ => 0) 4096 := ctxL_set (fun _ => 0) 0 4096
  have hsc := store_ctx w3 (fun _ => 0) (fun _ => 0) 0 4096
  have hsz := length_ctxL (fun _ => 0) 4096
  have hl1 := ctxL_r (fun _ => 0) 4096 1 (by decide)
  have hl2 := ctxL_r (fun _ => 0) 4096 2 (by decide)
  have hL2 : ((ctxL (fun _ => 0) 4096).set 1 (.int .u32 (a : Int))).set 2 (.int .u32 (b : Int)) = ctxL (regs2 a b) 4096 := by rw [ctxL_setR _ _ _ _ (by decide) (by decide), ctxL_setR _ _ _ _ (by decide) (by decide)]; rfl
  have HL2 := Vx.hid hL2
  obtain ⟨L0, hL0⟩ : ∃ L0, L0 = ctxL (fun _ => 0) 4096 := ⟨_, rfl⟩
  obtain ⟨LZ, hLZ⟩ : ∃ LZ, LZ = ctxL (fun _ => 0) 0 := ⟨_, rfl⟩
  rw [← hL0] at hbuild hsc hsz hl1 hl2 HL2
  rw [← hLZ] at hzero hsc hbuild
  have hsz0 : LZ.length = 33 := by rw [hLZ]; exact length_ctxL _ _
  clear hL0 hLZ hL2
  go_wp2_with fail
  rw [HL2.out]
  clear hzero hbuild hsc hsz hsz0 hl1 hl2 HL2
  have hW : UsesAt w3 ∧ MisAt w3 ∧ FormsAt w3 := by
    obtain ⟨u1, u2, u3, u4⟩ := HW.out
    have hz := u4.size
    refine ⟨(u1.only HO2.out.1 (fun h => h)).only HM3.out.2 (fun h => h ?_), (u2.only HO2.out.1 (fun h => h)).only HM3.out.2 (fun h => h ?_), (u3.only HO2.out.1 (fun h => h)).only HM3.out.2 (fun h => h ?_)⟩
    · exact Nat.lt_of_lt_of_le (World.block_lt_of_cell? W _ (u1 0 (by decide)).1) hz
    · exact Nat.lt_of_lt_of_le (World.block_lt_of_cell? W _ (u2 0 (by decide))) hz
    · exact Nat.lt_of_lt_of_le u3.1 hz
  obtain ⟨Wc, hWc⟩ : ∃ Wc, Wc = w3.alloc (.cells (ctxL (regs2 a b) 4096).toArray 26) := ⟨_, rfl⟩
  have hOc : Only (fun _ => False) w3 Wc := by rw [hWc]; exact (Only.refl _ w3).alloc _
  have hsz : Wc.heap.size = w3.heap.size + 1 := by rw [hWc]; simp
  have hcx : CxAt Wc w3.heap.size 0 26 (ctxL (regs2 a b) 4096).toArray (regs2 a b) 4096 := by rw [hWc]; exact CxAt.made (heap_alloc_last w3 _)
  have HSP := Vx.hid (step_any (HM3.out.1.more hOc) (hW.1.only hOc (fun h => h)) (hW.2.1.only hOc (fun h => h)) (hW.2.2.only hOc (fun h => h)) hcx (Or.inr ⟨Nat.le_refl _, by omega⟩) (by decide) (fun i _ => regs2_lt a b HAB.out.1 HAB.out.2 i) 1)
  rw [← hWc]
  refine HSP.out.mono ?_
  rintro e w5 hsp
  have hst : stepF (putF (laidF H) 20480 (fourB x)) 12 1 (regs2 a b) 4096 = .ok (putF (laidF H) 20480 (fourB x), Vx.setR (regs2 a b) 3 (arithF op a b), 4100) := by
    have h1 := HM.out.2.1
    rw [HM.out.2.2.2] at h1 ⊢
    exact HST.out h1
  rcases hsp with ⟨c, t, h1, _⟩ | ⟨f', R', pc', h1, rfl, _, ⟨cs', hc5, _⟩, ho5⟩
  · rw [hst] at h1; cases h1
  · rw [hst] at h1
    injection h1 with h1
    injection h1 with h1 h5
    injection h5 with h5 h6
    subst h1 h5 h6
    have c3 : w5.cell? ⟨w3.heap.size, 3, none⟩ = some (.int .u32 (arithF op a b : Nat)) := by have := hc5.ctx.r 3 (by decide); rw [Nat.zero_add] at this; exact this
    have c1 : w5.cell? ⟨w3.heap.size, 1, none⟩ = some (.int .u32 (a : Int)) := by have := hc5.ctx.r 1 (by decide); rw [Nat.zero_add] at this; exact this
    have c2 : w5.cell? ⟨w3.heap.size, 2, none⟩ = some (.int .u32 (b : Int)) := by have := hc5.ctx.r 2 (by decide); rw [Nat.zero_add] at this; exact this
    have cp : w5.cell? ⟨w3.heap.size, 32, none⟩ = some (.int .u32 4100) := by have := hc5.ctx.p; rw [Nat.zero_add] at this; exact this
    have hl5 : w3.heap.size < w5.heap.size := World.block_lt_of_cell? w5 _ c3
    have hz3 : W1.heap.size ≤ w3.heap.size := Nat.le_trans HO2.out.2 HM3.out.2.size
    have hzW : W.heap.size ≤ W1.heap.size := HW.out.2.2.2.size
    have HFI : Hid (Below W.heap.size W w5) := by
      refine ⟨ho5.os.trans (hOc.os.trans (HM3.out.2.os.trans HO2.out.1.os)), ho5.tape.trans (hOc.tape.trans (HM3.out.2.tape.trans HO2.out.1.tape)), ho5.output.trans (hOc.output.trans (HM3.out.2.output.trans HO2.out.1.output)), Nat.le_trans HO2.out.1.size (Nat.le_trans HM3.out.2.size (Nat.le_trans hOc.size ho5.size)), fun k hk => ?_⟩
      have hk2 := Nat.lt_of_lt_of_le hk HO2.out.1.size
      have hk3 := Nat.lt_of_lt_of_le hk2 HM3.out.2.size
      rw [ho5.block k (by omega) (by rintro (hn | hn); exact hn (Or.inl (show k < W1.heap.size by omega)); omega), hOc.block k hk3 (fun h => h), HM3.out.2.block k hk2 (fun h => h (show k < W1.heap.size by omega)), HO2.out.1.block k hk (fun h => h)]
    have HF2 : Hid (∀ n o, Below W.heap.size W ((w5.alloc o).drewN n)) := fun n o => HFI.out.trans ((((Only.refl (fun _ => False) w5).alloc o).drewN n).below HFI.out.size (fun _ _ h => h))
    generalize w3.heap.size = cb at c1 c2 c3 cp hl5 ⊢
    clear hc5 ho5 HSP hst hOc hsz hcx hW hWc HM3 HO2 HM HX HST HW HAB hz3 hzW
    unfold evC
    go_wp2_with fail
    go_quiet (fail)
    go_wp2_with fail
    all_goals
      go_ret2
      exact ⟨rfl, HF2.out _ _⟩
end Go.Proofs.YtflmobffeeocdaaDoor

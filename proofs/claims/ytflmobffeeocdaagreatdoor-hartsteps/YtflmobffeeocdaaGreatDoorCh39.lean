import Derived.Test.YtflmobffeeocdaaGreatDoorCh37
/- Walks of the document's chapter 6: load (made by gen_f2.py). -/
namespace Go.Proofs.YtflmobffeeocdaaGreatDoor
open Go.ChangeShapes Go.WideShapes Go.ChangeAt Go.RowKit
open Go.Vx
set_option linter.unusedVariables false

set_option maxRecDepth 100000 in
set_option maxHeartbeats 4000000 in
theorem refLoad_mis {w : World} {br bb n cb off pc : Nat} {T : TypeId} {cs : Array Value} {R : Nat → Nat} {f : Nat → UInt8} (h : RefAt w br bb n f) (hd : DxAt w cb off T cs R pc) (hne : cb ≠ br ∧ cb ≠ bb) (root : Int) (op rd : Nat) (r1 r2 im : Int) (ho : 11 ≤ op) (ho2 : op ≤ 15) (hrd : rd < 32) (va : Nat) (hva : va < 4294967296) (ham : va % bytesF op ≠ 0) :
    Calls Tryz.prog 79 #[.pointer (some ⟨br, 0, none⟩), .int .i64 root, .pointer (some ⟨cb, off, none⟩), .agg #[.int .i64 (op : Int), .int .i64 (rd : Int), .int .i64 r1, .int .i64 r2, .int .i64 im], .int .i64 (va : Int)] w fun e w' => DocP w br bb n cb off T cs (loadG f R pc op rd (placeF f n root va (bytesF op) 1)) e w' := by
  obtain ⟨w1, hw1⟩ : ∃ w1, w1 = (w.alloc (.cells #[.int .i64 (op : Int), .int .i64 (rd : Int), .int .i64 r1, .int .i64 r2, .int .i64 im] 129)).alloc (.cells (evC false 0 0) 93) := ⟨_, rfl⟩
  have hO1 : Only (fun _ => False) w w1 := by rw [hw1]; exact ((Only.refl _ w).alloc _).alloc _
  have hi1 : w1.heap[w.heap.size]? = some (.cells #[.int .i64 (op : Int), .int .i64 (rd : Int), .int .i64 r1, .int .i64 r2, .int .i64 im] 129 (0, 0)) := by
    rw [hw1, RowKit.Below.heap_alloc _ _ _ (by simp)]; exact heap_alloc_last w _
  have he1 : w1.heap[w.heap.size + 1]? = some (.cells (evC false 0 0) 93 (0, 0)) := by
    rw [hw1]
    have := heap_alloc_last (w.alloc (.cells #[.int .i64 (op : Int), .int .i64 (rd : Int), .int .i64 r1, .int .i64 r2, .int .i64 im] 129)) (.cells (evC false 0 0) 93)
    simpa using this
  have hcl : cb < w.heap.size := lt_of_some hd.b
  have HBY := Vx.hid (fun wv => refBytes_any op ho (by omega) wv)
  have hb := bytes_cases op
  have hbs := bytes_cases op
  have t1 : Int.tmod (va : Int) ((bytesF op : Nat) : Int) = ((va % bytesF op : Nat) : Int) := by rw [Int.tmod_eq_emod_of_nonneg (by omega)]; rfl
  have t2 : (va : Int) % ((bytesF op : Nat) : Int) = ((va % bytesF op : Nat) : Int) := rfl
  have z1 : ¬ ((bytesF op : Nat) : Int) = 0 := by omega
  have hr4 : va % bytesF op < 4 := by have := Nat.mod_lt va (show bytesF op > 0 by omega); omega
  have v1 : IntKind.i64.wrap ((va % bytesF op : Nat) : Int) = ((va % bytesF op : Nat) : Int) := by rw [IntKind.wrap_i64]; omega
  have HTR := Vx.hid (trapped_any 4 va hva w1)
  have HPF : Hid (placeF f n root va (bytesF op) 1 = .error (4, va)) := by
    show _ = _
    unfold placeF placeG
    rw [if_pos ham]
    rfl
  obtain ⟨r, hrr⟩ : ∃ r, va % bytesF op = r := ⟨_, rfl⟩
  rw [hrr] at t1 t2 hr4 v1 ham
  have b0 : ((r : Int) != 0) = true := by simp; omega
  have b1 : ¬ (r : Int) = 0 := by omega
  have HFIN : Hid (∀ w2 w3, Only (fun _ => False) w1 w2 → Only (fun k => k = w.heap.size + 1) w2 w3 → DocP w br bb n cb off T cs (loadG f R pc op rd (placeF f n root va (bytesF op) 1)) (.returned (.agg (evC true 4 va))) w3) := fun w2 w3 h2 h3 => Or.inl ⟨4, va, by rw [HPF.out]; rfl, rfl, by
    have h4 := hO1.trans h2
    exact ⟨h3.os.trans h4.os, h3.tape.trans h4.tape, h3.output.trans h4.output, Nat.le_trans h4.size h3.size, fun k hk _ => by rw [h3.block k (Nat.lt_of_lt_of_le hk h4.size) (by omega), h4.block k hk (fun h => h)]⟩⟩
  have HE1 := Vx.hid he1
  generalize bytesF op = len at HBY hb t1 t2 z1 HFIN
  clear h hd hne ho ho2 hrd hva ham hrr hi1 he1 hcl hbs hr4 hO1 hb HPF
  subst hw1
  go_enter Tryz.func79, Tryz.ntmps79
  go_wp2_with fail
  refine (HBY.out _).mono ?_
  rintro e w' ⟨rfl, h⟩
  have h2 := h.symm; clear h; subst h2
  go_wp2_with fail
  refine HTR.out.mono ?_
  rintro e w2 ⟨rfl, h2⟩
  have hb2 : w2.heap[w.heap.size + 1]? = some (.cells (evC false 0 0) 93 (0, 0)) := by rw [h2.block _ (lt_of_some HE1.out) (fun h => h)]; exact HE1.out
  have hfin := fun w3 h3 => HFIN.out w2 w3 h2 h3
  clear h2 HE1 HFIN HTR HBY
  obtain ⟨s1, s2⟩ := ev_set (b := false) (c := 0) (t := 0) hb2 true 4 va
  have HFI := Vx.hid (hfin _ s2)
  have HK := Vx.hid (ev_read s1)
  obtain ⟨h0, h1, h2, hf, hl⟩ := ev_read hb2
  have f0 := hf 0
  have f1 := hf 1
  have f2 := hf 2
  clear hb2 hfin s1 s2 hf
  unfold evC at *
  go_wp2_with fail
  obtain ⟨k0, k1, k2, _, _⟩ := HK.out
  refine bodyPost_ret (v := .agg #[.bool true, .int .i64 4, .int .u32 (va : Nat)]) ?_ rfl HFI.out
  simp [results, Tryz.results79, go_sem, k0, k1, k2]
set_option maxRecDepth 100000 in
set_option maxHeartbeats 4000000 in
theorem refLoad_fault {w : World} {br bb n cb off pc : Nat} {T : TypeId} {cs : Array Value} {R : Nat → Nat} {f : Nat → UInt8} (h : RefAt w br bb n f) (hd : DxAt w cb off T cs R pc) (hne : cb ≠ br ∧ cb ≠ bb) (root : Int) (op rd : Nat) (r1 r2 im : Int) (ho : 11 ≤ op) (ho2 : op ≤ 15) (hrd : rd < 32) (va : Nat) (hva : va < 4294967296) (ham : va % bytesF op = 0) (hwc : (walkF f n root va 1).2 ≠ -1) :
    Calls Tryz.prog 79 #[.pointer (some ⟨br, 0, none⟩), .int .i64 root, .pointer (some ⟨cb, off, none⟩), .agg #[.int .i64 (op : Int), .int .i64 (rd : Int), .int .i64 r1, .int .i64 r2, .int .i64 im], .int .i64 (va : Int)] w fun e w' => DocP w br bb n cb off T cs (loadG f R pc op rd (placeF f n root va (bytesF op) 1)) e w' := by
  obtain ⟨w1, hw1⟩ : ∃ w1, w1 = (w.alloc (.cells #[.int .i64 (op : Int), .int .i64 (rd : Int), .int .i64 r1, .int .i64 r2, .int .i64 im] 129)).alloc (.cells (evC false 0 0) 93) := ⟨_, rfl⟩
  have hO1 : Only (fun _ => False) w w1 := by rw [hw1]; exact ((Only.refl _ w).alloc _).alloc _
  have hi1 : w1.heap[w.heap.size]? = some (.cells #[.int .i64 (op : Int), .int .i64 (rd : Int), .int .i64 r1, .int .i64 r2, .int .i64 im] 129 (0, 0)) := by
    rw [hw1, RowKit.Below.heap_alloc _ _ _ (by simp)]; exact heap_alloc_last w _
  have he1 : w1.heap[w.heap.size + 1]? = some (.cells (evC false 0 0) 93 (0, 0)) := by
    rw [hw1]
    have := heap_alloc_last (w.alloc (.cells #[.int .i64 (op : Int), .int .i64 (rd : Int), .int .i64 r1, .int .i64 r2, .int .i64 im] 129)) (.cells (evC false 0 0) 93)
    simpa using this
  have hcl : cb < w.heap.size := lt_of_some hd.b
  have HBY := Vx.hid (fun wv => refBytes_any op ho (by omega) wv)
  have hb := bytes_cases op
  have hbs := bytes_cases op
  have t1 : Int.tmod (va : Int) ((bytesF op : Nat) : Int) = ((va % bytesF op : Nat) : Int) := by rw [Int.tmod_eq_emod_of_nonneg (by omega)]; rfl
  have t2 : (va : Int) % ((bytesF op : Nat) : Int) = ((va % bytesF op : Nat) : Int) := rfl
  have z1 : ¬ ((bytesF op : Nat) : Int) = 0 := by omega
  have hr4 : va % bytesF op < 4 := by have := Nat.mod_lt va (show bytesF op > 0 by omega); omega
  have v1 : IntKind.i64.wrap ((va % bytesF op : Nat) : Int) = ((va % bytesF op : Nat) : Int) := by rw [IntKind.wrap_i64]; omega
  have hc0 : 0 ≤ (walkF f n root va 1).2 := by
    rcases walk_cause f n root va 1 (by decide) with h | h
    · exact absurd h hwc
    · exact h
  have HPF : Hid (placeF f n root va (bytesF op) 1 = .error ((walkF f n root va 1).2, va)) := by
    show _ = _
    unfold placeF placeG
    rw [if_neg (by omega)]
    exact if_pos hwc
  have HWK := Vx.hid (refWalk_any (h.only hO1 (fun h => h) (fun h => h)) root va hva 1)
  generalize walkF f n root va 1 = WF at HWK HPF hc0 hwc
  obtain ⟨pa, cz⟩ := WF
  simp only at HWK HPF hc0 hwc
  have HTR := Vx.hid (fun wv => trapped_any cz va hva wv)
  have b0 : ((0 : Int) != 0) = false := rfl
  rw [ham] at t1 t2 v1
  have HFIN : Hid (∀ w2 w3, Only (fun _ => False) w1 w2 → Only (fun k => k = w.heap.size + 1) w2 w3 → DocP w br bb n cb off T cs (loadG f R pc op rd (placeF f n root va (bytesF op) 1)) (.returned (.agg (evC true cz va))) w3) := fun w2 w3 h2 h3 => Or.inl ⟨cz, va, by rw [HPF.out]; rfl, rfl, by
    have h4 := hO1.trans h2
    exact ⟨h3.os.trans h4.os, h3.tape.trans h4.tape, h3.output.trans h4.output, Nat.le_trans h4.size h3.size, fun k hk _ => by rw [h3.block k (Nat.lt_of_lt_of_le hk h4.size) (by omega), h4.block k hk (fun h => h)]⟩⟩
  have HE1 := Vx.hid he1
  generalize bytesF op = len at HBY hb t1 t2 z1 HFIN
  clear h hd hne ho ho2 hrd hva ham hi1 he1 hcl hbs hr4 hO1 hb HPF hwc
  subst hw1
  go_enter Tryz.func79, Tryz.ntmps79
  go_wp2_with fail
  refine (HBY.out _).mono ?_
  rintro e w' ⟨rfl, h⟩
  have h2 := h.symm; clear h; subst h2
  go_wp2_with fail
  refine HWK.out.mono ?_
  rintro e w2 ⟨rfl, h2⟩
  have HO2 := Vx.hid h2
  have hb1 : w2.heap[w.heap.size + 1]? = some (.cells (evC false 0 0) 93 (0, 0)) := by rw [h2.block _ (lt_of_some HE1.out) (fun h => h)]; exact HE1.out
  have HE2 := Vx.hid hb1
  clear h2 hb1
  go_wp2_with fail
  refine (HTR.out _).mono ?_
  rintro e w4 ⟨rfl, h4⟩
  have hb2 : w4.heap[w.heap.size + 1]? = some (.cells (evC false 0 0) 93 (0, 0)) := by rw [h4.block _ (lt_of_some HE2.out) (fun h => h)]; exact HE2.out
  have hfin := fun w3 h3 => HFIN.out w4 w3 (HO2.out.trans h4) h3
  clear h4 HE1 HE2 HFIN HTR HBY HWK HO2
  obtain ⟨s1, s2⟩ := ev_set (b := false) (c := 0) (t := 0) hb2 true cz va
  have HFI := Vx.hid (hfin _ s2)
  have HK := Vx.hid (ev_read s1)
  obtain ⟨h0, h1, h2, hf, hl⟩ := ev_read hb2
  have f0 := hf 0
  have f1 := hf 1
  have f2 := hf 2
  clear hb2 hfin s1 s2 hf
  unfold evC at *
  go_wp2_with fail
  obtain ⟨k0, k1, k2, _, _⟩ := HK.out
  refine bodyPost_ret (v := .agg #[.bool true, .int .i64 cz, .int .u32 (va : Nat)]) ?_ rfl HFI.out
  simp [results, Tryz.results79, go_sem, k0, k1, k2]
set_option maxRecDepth 100000 in
set_option maxHeartbeats 4000000 in
theorem refLoad_good {w : World} {br bb n cb off pc : Nat} {T : TypeId} {cs : Array Value} {R : Nat → Nat} {f : Nat → UInt8} (h : RefAt w br bb n f) (hd : DxAt w cb off T cs R pc) (hne : cb ≠ br ∧ cb ≠ bb) (root : Int) (op rd : Nat) (r1 r2 im : Int) (ho : 11 ≤ op) (ho2 : op ≤ 15) (hrd : rd < 32) (va : Nat) (hva : va < 4294967296) (hpc : pc < 4294967296) (ham : va % bytesF op = 0) (hwc : (walkF f n root va 1).2 = -1) :
    Calls Tryz.prog 79 #[.pointer (some ⟨br, 0, none⟩), .int .i64 root, .pointer (some ⟨cb, off, none⟩), .agg #[.int .i64 (op : Int), .int .i64 (rd : Int), .int .i64 r1, .int .i64 r2, .int .i64 im], .int .i64 (va : Int)] w fun e w' => DocP w br bb n cb off T cs (loadG f R pc op rd (placeF f n root va (bytesF op) 1)) e w' := by
  obtain ⟨w1, hw1⟩ : ∃ w1, w1 = (w.alloc (.cells #[.int .i64 (op : Int), .int .i64 (rd : Int), .int .i64 r1, .int .i64 r2, .int .i64 im] 129)).alloc (.cells (evC false 0 0) 93) := ⟨_, rfl⟩
  have hO1 : Only (fun _ => False) w w1 := by rw [hw1]; exact ((Only.refl _ w).alloc _).alloc _
  have hi1 : w1.heap[w.heap.size]? = some (.cells #[.int .i64 (op : Int), .int .i64 (rd : Int), .int .i64 r1, .int .i64 r2, .int .i64 im] 129 (0, 0)) := by
    rw [hw1, RowKit.Below.heap_alloc _ _ _ (by simp)]; exact heap_alloc_last w _
  have he1 : w1.heap[w.heap.size + 1]? = some (.cells (evC false 0 0) 93 (0, 0)) := by
    rw [hw1]
    have := heap_alloc_last (w.alloc (.cells #[.int .i64 (op : Int), .int .i64 (rd : Int), .int .i64 r1, .int .i64 r2, .int .i64 im] 129)) (.cells (evC false 0 0) 93)
    simpa using this
  have hcl : cb < w.heap.size := lt_of_some hd.b
  have HBY := Vx.hid (fun wv => refBytes_any op ho (by omega) wv)
  have hb := bytes_cases op
  have hbs := bytes_cases op
  have t1 : Int.tmod (va : Int) ((bytesF op : Nat) : Int) = ((va % bytesF op : Nat) : Int) := by rw [Int.tmod_eq_emod_of_nonneg (by omega)]; rfl
  have t2 : (va : Int) % ((bytesF op : Nat) : Int) = ((va % bytesF op : Nat) : Int) := rfl
  have z1 : ¬ ((bytesF op : Nat) : Int) = 0 := by omega
  have hr4 : va % bytesF op < 4 := by have := Nat.mod_lt va (show bytesF op > 0 by omega); omega
  have v1 : IntKind.i64.wrap ((va % bytesF op : Nat) : Int) = ((va % bytesF op : Nat) : Int) := by rw [IntKind.wrap_i64]; omega
  have hp0 : placeF f n root va (bytesF op) 1 = .ok (walkF f n root va 1).1 := by
    unfold placeF placeG
    rw [if_neg (by omega)]
    exact if_neg (fun h => h hwc)
  have hin := place_in hbs hp0
  have HWK := Vx.hid (refWalk_any (h.only hO1 (fun h => h) (fun h => h)) root va hva 1)
  have HPF := Vx.hid hp0
  have hn256 := h.top
  generalize walkF f n root va 1 = WF at HWK HPF hwc hin hp0
  obtain ⟨pa, cz⟩ := WF
  simp only at HWK HPF hwc hin hp0
  subst hwc
  have HWR := Vx.hid (fun v wv => refWrap_any v wv)
  rw [ham] at t1 t2 v1
  have HE1 := Vx.hid (⟨hi1, he1, hO1, hcl⟩ : _ ∧ _ ∧ _ ∧ _)
  have HRF := Vx.hid (⟨h, hd, hne⟩ : _ ∧ _ ∧ _)
  have HPCL := Vx.hid hpc
  have HST := Vx.hid (fun k hk => hi_step f pa (bytesF op) k hbs hk)
  have htop := hi_top f pa (bytesF op) hbs
  have hplt := partF_lt f pa (bytesF op)
  have HLD : Hid (ldF op (partF f pa (bytesF op)) = ldF op (partF f pa (bytesF op))) := rfl
  have HFIN : Hid (∀ v w3 cs3, v = ldF op (partF f pa (bytesF op)) → RefAt w3 br bb n f → DxAt w3 cb off T cs3 (Vx.setR R rd v) (m32 ((pc : Int) + 4)) → Beside cs cs3 off → Only (fun k => k = cb) w w3 → ∀ w4, Only (fun k => k = w.heap.size + 1) w3 w4 → DocP w br bb n cb off T cs (loadG f R pc op rd (placeF f n root va (bytesF op) 1)) (.returned (.agg (evC false 0 0))) w4) := fun v w3 cs3 hv hr3 hd3 hb3 ho3 w4 h4 => by
    have hbl : bb < w.heap.size := lt_of_some h.b
    have hrl : br < w.heap.size := lt_of_some h.r
    refine Or.inr ⟨f, Vx.setR R rd v, m32 ((pc : Int) + 4), by rw [HPF.out, hv]; rfl, rfl, hr3.only h4 (by omega) (by omega), ⟨cs3, hd3.only h4 (by omega), hb3⟩, ?_⟩
    exact ⟨h4.os.trans ho3.os, h4.tape.trans ho3.tape, h4.output.trans ho3.output, Nat.le_trans ho3.size h4.size, fun k hk hn => by rw [h4.block k (Nat.lt_of_lt_of_le hk ho3.size) (by omega), ho3.block k hk (fun hx => hn (Or.inr hx))]⟩
  generalize partF f pa (bytesF op) = P at HST htop hplt HLD HFIN
  have HOP := Vx.hid (⟨ho, ho2, hrd⟩ : _ ∧ _ ∧ _)
  have HHN := Vx.hid hin
  have hpaN : (pa : Int) < 1048576 ∧ 0 ≤ (pa : Int) := by have := hin.2; omega
  obtain ⟨N, hN⟩ : ∃ N, N = 4096 * n := ⟨_, rfl⟩
  have HNN := Vx.hid hN
  generalize hlen : bytesF op = len at HBY hb hbs t1 t2 z1 HFIN HST htop HHN
  clear h hd hne ho ho2 hrd hva ham hi1 he1 hcl hr4 hO1 hp0 HPF hin hpc hN HLD hlen
  subst hw1
  go_enter Tryz.func79, Tryz.ntmps79
  go_wp2_with fail
  refine (HBY.out _).mono ?_
  rintro e w' ⟨rfl, h⟩
  have h2 := h.symm; clear h; subst h2
  go_wp2_with fail
  refine HWK.out.mono ?_
  rintro e w2 ⟨rfl, h2⟩
  have HO2 := Vx.hid (HE1.out.2.2.1.trans h2)
  have HIN : Hid (w2.heap[w.heap.size]? = some (.cells #[.int .i64 (op : Int), .int .i64 (rd : Int), .int .i64 r1, .int .i64 r2, .int .i64 im] 129 (0, 0)) ∧ w2.heap[w.heap.size + 1]? = some (.cells (evC false 0 0) 93 (0, 0))) := ⟨by rw [h2.block _ (lt_of_some HE1.out.1) (fun h => h)]; exact HE1.out.1, by rw [h2.block _ (lt_of_some HE1.out.2.1) (fun h => h)]; exact HE1.out.2.1⟩
  have HRF2 : Hid (RefAt w2 br bb n f ∧ DxAt w2 cb off T cs R pc) := ⟨HRF.out.1.only HO2.out (fun h => h) (fun h => h), HRF.out.2.1.only HO2.out (fun h => h)⟩
  have hcr := HRF2.out.1.cr
  rw [← HNN.out] at hcr
  have hi0 : w2.cell? ⟨w.heap.size, 0, none⟩ = some (.int .i64 (op : Int)) := (cell_of_row _ _ 0 _ _ (0, 0) HIN.out.1).trans rfl
  have hi1 : w2.cell? ⟨w.heap.size, 1, none⟩ = some (.int .i64 (rd : Int)) := (cell_of_row _ _ 1 _ _ (0, 0) HIN.out.1).trans rfl
  have hgl : w.heap.size < w2.heap.size := lt_of_some HIN.out.1
  clear h2 HWK HBY
  go_wp2_with fail
  go_loop [14, 15] (fun v k => ∃ kk : Nat, kk ≤ len ∧ k = .int .i64 ((kk : Int) - 1) ∧ v = .int .i64 ((P / 256 ^ kk : Nat) : Int)) (fun _ k => (intOf k + 1).toNat)
  case atStart => exact ⟨len, Nat.le_refl _, rfl, by rw [htop]; rfl⟩
  case round =>
    obtain ⟨kk, hkk, rfl, rfl⟩ := hrel
    by_cases h0 : kk = 0
    · subst h0
      have hd0 : P / 256 ^ 0 = P := by simp
      rw [hd0]
      by_cases o11 : op = 11
      · have e11 : ((op : Int) == 11) = true := by rw [beq_iff_eq]; omega
        have e12 := neqF (op : Int) 12 (by omega)
        by_cases hv : 128 ≤ P
        ·
          have hv2 : (128 : Int) ≤ (P : Int) := by omega
          have dv : decide ((128 : Int) ≤ (P : Int)) = true := decide_eq_true hv2
          have w5 : IntKind.i64.wrap ((P : Int) + 4294967296) = (P : Int) + 4294967296 := by rw [IntKind.wrap_i64]; omega
          obtain ⟨LV, hLV⟩ : ∃ LV, LV = ldF op P := ⟨_, rfl⟩
          have hx : (LV : Int) = (P : Int) + 4294967296 - 256 := by rw [hLV, o11]; exact ld11_hi P hv
          have w6 : IntKind.i64.wrap ((P : Int) + 4294967296 - 256) = (LV : Int) := wrap_ext P LV 256 hplt (by decide) (by decide) hx
          clear hx hv
          have HV : Hid (LV = ldF op P) := by show _ = _; exact hLV
          clear o11 hLV
          have hcp := HRF2.out.2.cp
          have hfp := HRF2.out.2.fz (off + 32)
          have hpx : IntKind.i64.wrap ((pc : Int) + 4) = (pc : Int) + 4 := by have := HPCL.out; rw [IntKind.wrap_i64]; omega
          have HWRP := Vx.hid (fun wv => HWR.out ((pc : Int) + 4) wv)
          have hclw := HE1.out.2.2.2
          have HEV := Vx.hid (ev_read HIN.out.2)
          by_cases hr0 : rd = 0
          · subst hr0
            obtain ⟨cs5, hdx5, hbs5⟩ := HRF2.out.2.setPc (m32 ((pc : Int) + 4))
            have hO5 : Only (fun k => k = cb) w (w2.setCell ⟨cb, off + 32, none⟩ (.int .i64 (m32 ((pc : Int) + 4) : Nat))) := Only.setCell (S := fun k => k = cb) (p := ⟨cb, off + 32, none⟩) (HO2.out.mono (fun _ _ h => h.elim)) (Or.inl rfl) _
            have hfin := HFIN.out (LV) _ cs5 HV.out (HRF2.out.1.only (only_cell w2 ⟨cb, off + 32, none⟩ _) (fun e => HRF.out.2.2.1 e.symm) (fun e => HRF.out.2.2.2 e.symm)) (by rw [setR_zero]; exact hdx5) hbs5 hO5
            have hb2 : (w2.setCell ⟨cb, off + 32, none⟩ (.int .i64 (m32 ((pc : Int) + 4) : Nat))).heap[w.heap.size + 1]? = some (.cells (evC false 0 0) 93 (0, 0)) := by
              rw [(only_cell w2 ⟨cb, off + 32, none⟩ _).block _ (lt_of_some HIN.out.2) (by show ¬ _ = cb; omega)]; exact HIN.out.2
            obtain ⟨s1, s2⟩ := ev_set (b := false) (c := 0) (t := 0) hb2 false 0 0
            have HFI := Vx.hid (hfin _ s2)
            have HK := Vx.hid (ev_read s1)
            obtain ⟨h0, h1, h2, hf, hl⟩ := ev_read hb2
            have f0 := hf 0
            have f1 := hf 1
            have f2 := hf 2
            have hcbl : cb < w2.heap.size := World.block_lt_of_cell? w2 _ hcp
            clear hb2 hfin s1 s2 hf hdx5 hbs5 hO5 HFIN HV HRF HRF2 HIN HE1 HO2 HST HHN HNN HEV hn256 hpaN htop hplt hb hbs hkk hclw
            go_wp2_with fail
            refine (HWRP.out _).mono ?_
            rintro e w' ⟨rfl, h⟩
            have h3 := h.symm; clear h; subst h3
            generalize m32 ((pc : Int) + 4) = nx at HFI HK h0 h1 h2 f0 f1 f2 hl ⊢
            unfold evC at *
            go_wp2_with fail
            rw [show (((0 : Nat)) : Int) = 0 from rfl] at HK
            obtain ⟨k0, k1, k2, _, _⟩ := HK.out
            refine bodyPost_ret (v := .agg #[.bool false, .int .i64 0, .int .u32 ((0 : Nat) : Int)]) ?_ rfl HFI.out
            simp [results, Tryz.results79, go_sem, k0, k1, k2]
          · obtain ⟨cs4, hdx4, hbs4⟩ := HRF2.out.2.setR rd (LV) HOP.out.2.2 hr0
            obtain ⟨cs5, hdx5, hbs5⟩ := hdx4.setPc (m32 ((pc : Int) + 4))
            obtain ⟨w3, hw3⟩ : ∃ w3, w3 = ((w2.setCell ⟨cb, off + rd, none⟩ (.int .i64 (LV : Nat))).setCell ⟨cb, off + 32, none⟩ (.int .i64 (m32 ((pc : Int) + 4) : Nat))) := ⟨_, rfl⟩
            have hO3 : Only (fun k => k = cb) w2 w3 := by rw [hw3]; exact Only.setCell (S := fun k => k = cb) (p := ⟨cb, off + 32, none⟩) (Only.setCell (S := fun k => k = cb) (p := ⟨cb, off + rd, none⟩) (Only.refl _ w2) (Or.inl rfl) _) (Or.inl rfl) _
            rw [← hw3] at hdx5
            have hfin := HFIN.out (LV) w3 cs5 HV.out (HRF2.out.1.only hO3 (fun e => HRF.out.2.2.1 e.symm) (fun e => HRF.out.2.2.2 e.symm)) hdx5 (hbs4.trans hbs5) ((HO2.out.mono (fun _ _ h => h.elim)).trans hO3)
            have hb2 : w3.heap[w.heap.size + 1]? = some (.cells (evC false 0 0) 93 (0, 0)) := by
              rw [hO3.block _ (lt_of_some HIN.out.2) (by show ¬ _ = cb; omega)]; exact HIN.out.2
            obtain ⟨s1, s2⟩ := ev_set (b := false) (c := 0) (t := 0) hb2 false 0 0
            have HFI := Vx.hid (hfin _ s2.drew)
            have HK := Vx.hid (ev_read s1)
            have HB2 := Vx.hid (ev_read hb2)
            have hcr2 := HRF2.out.2.cr rd HOP.out.2.2
            have hfr2 := HRF2.out.2.fz (off + rd)
            have HRB : Hid ((0 : Int) < (rd : Int) ∧ 0 ≤ (rd : Int) ∧ (rd : Int) < 32) := by have := HOP.out.2.2; show _ ∧ _ ∧ _; omega
            have hcbl : cb < w2.heap.size := World.block_lt_of_cell? w2 _ hcp
            have hcp2 : ∀ v, (w2.setCell ⟨cb, off + rd, none⟩ v).cell? ⟨cb, off + 32, none⟩ = some (.int .i64 (pc : Int)) := fun v => by
              rw [World.cell?_setCell_other _ _ _ _ (by intro e; injection e with _ e2; have := HOP.out.2.2; omega)]; exact hcp
            have hgc : ¬ w.heap.size = cb := by omega
            have hgc2 : ¬ cb = w.heap.size := by omega
            clear hb2 hfin s1 s2 hdx4 hdx5 hbs4 hbs5 hO3 HFIN HV HRF HRF2 HIN HE1 HO2 HST HHN HNN HEV hn256 hpaN htop hplt hb hbs hkk hclw hr0
            go_upto_region 16 with fail
            clear w5 w6 hv2 dv
            have hrb := HRB.out.1
            have hidx := HRB.out.2
            go_wp2_with fail
            go_region
            all_goals
              go_wp2_with fail
              refine (HWRP.out _).mono ?_
              rintro e w' ⟨rfl, h⟩
              have h3 := h.symm; clear h; subst h3
              obtain ⟨h0, h1, h2, hf, hl⟩ := HB2.out
              have f0 := hf 0
              have f1 := hf 1
              have f2 := hf 2
              rw [hw3] at h0 h1 h2 f0 f1 f2 hl HFI HK
              clear hf HB2 hw3
              generalize m32 ((pc : Int) + 4) = nx at HFI HK h0 h1 h2 f0 f1 f2 hl ⊢
              unfold evC at *
              go_wp2_with fail
              rw [show (((0 : Nat)) : Int) = 0 from rfl] at HK
              obtain ⟨k0, k1, k2, _, _⟩ := HK.out
              refine bodyPost_ret (v := .agg #[.bool false, .int .i64 0, .int .u32 ((0 : Nat) : Int)]) ?_ rfl HFI.out
              simp [results, Tryz.results79, go_sem, k0, k1, k2]
        ·
          have hv2 : ¬ (128 : Int) ≤ (P : Int) := by omega
          have dv : decide ((128 : Int) ≤ (P : Int)) = false := decide_eq_false hv2
          have HV : Hid (P = ldF op P) := by show _ = _; rw [o11]; exact (ld11_lo P hv).symm
          clear o11 hv
          have hcp := HRF2.out.2.cp
          have hfp := HRF2.out.2.fz (off + 32)
          have hpx : IntKind.i64.wrap ((pc : Int) + 4) = (pc : Int) + 4 := by have := HPCL.out; rw [IntKind.wrap_i64]; omega
          have HWRP := Vx.hid (fun wv => HWR.out ((pc : Int) + 4) wv)
          have hclw := HE1.out.2.2.2
          have HEV := Vx.hid (ev_read HIN.out.2)
          by_cases hr0 : rd = 0
          · subst hr0
            obtain ⟨cs5, hdx5, hbs5⟩ := HRF2.out.2.setPc (m32 ((pc : Int) + 4))
            have hO5 : Only (fun k => k = cb) w (w2.setCell ⟨cb, off + 32, none⟩ (.int .i64 (m32 ((pc : Int) + 4) : Nat))) := Only.setCell (S := fun k => k = cb) (p := ⟨cb, off + 32, none⟩) (HO2.out.mono (fun _ _ h => h.elim)) (Or.inl rfl) _
            have hfin := HFIN.out (P) _ cs5 HV.out (HRF2.out.1.only (only_cell w2 ⟨cb, off + 32, none⟩ _) (fun e => HRF.out.2.2.1 e.symm) (fun e => HRF.out.2.2.2 e.symm)) (by rw [setR_zero]; exact hdx5) hbs5 hO5
            have hb2 : (w2.setCell ⟨cb, off + 32, none⟩ (.int .i64 (m32 ((pc : Int) + 4) : Nat))).heap[w.heap.size + 1]? = some (.cells (evC false 0 0) 93 (0, 0)) := by
              rw [(only_cell w2 ⟨cb, off + 32, none⟩ _).block _ (lt_of_some HIN.out.2) (by show ¬ _ = cb; omega)]; exact HIN.out.2
            obtain ⟨s1, s2⟩ := ev_set (b := false) (c := 0) (t := 0) hb2 false 0 0
            have HFI := Vx.hid (hfin _ s2)
            have HK := Vx.hid (ev_read s1)
            obtain ⟨h0, h1, h2, hf, hl⟩ := ev_read hb2
            have f0 := hf 0
            have f1 := hf 1
            have f2 := hf 2
            have hcbl : cb < w2.heap.size := World.block_lt_of_cell? w2 _ hcp
            clear hb2 hfin s1 s2 hf hdx5 hbs5 hO5 HFIN HV HRF HRF2 HIN HE1 HO2 HST HHN HNN HEV hn256 hpaN htop hplt hb hbs hkk hclw
            go_wp2_with fail
            refine (HWRP.out _).mono ?_
            rintro e w' ⟨rfl, h⟩
            have h3 := h.symm; clear h; subst h3
            generalize m32 ((pc : Int) + 4) = nx at HFI HK h0 h1 h2 f0 f1 f2 hl ⊢
            unfold evC at *
            go_wp2_with fail
            rw [show (((0 : Nat)) : Int) = 0 from rfl] at HK
            obtain ⟨k0, k1, k2, _, _⟩ := HK.out
            refine bodyPost_ret (v := .agg #[.bool false, .int .i64 0, .int .u32 ((0 : Nat) : Int)]) ?_ rfl HFI.out
            simp [results, Tryz.results79, go_sem, k0, k1, k2]
          · obtain ⟨cs4, hdx4, hbs4⟩ := HRF2.out.2.setR rd (P) HOP.out.2.2 hr0
            obtain ⟨cs5, hdx5, hbs5⟩ := hdx4.setPc (m32 ((pc : Int) + 4))
            obtain ⟨w3, hw3⟩ : ∃ w3, w3 = ((w2.setCell ⟨cb, off + rd, none⟩ (.int .i64 (P : Nat))).setCell ⟨cb, off + 32, none⟩ (.int .i64 (m32 ((pc : Int) + 4) : Nat))) := ⟨_, rfl⟩
            have hO3 : Only (fun k => k = cb) w2 w3 := by rw [hw3]; exact Only.setCell (S := fun k => k = cb) (p := ⟨cb, off + 32, none⟩) (Only.setCell (S := fun k => k = cb) (p := ⟨cb, off + rd, none⟩) (Only.refl _ w2) (Or.inl rfl) _) (Or.inl rfl) _
            rw [← hw3] at hdx5
            have hfin := HFIN.out (P) w3 cs5 HV.out (HRF2.out.1.only hO3 (fun e => HRF.out.2.2.1 e.symm) (fun e => HRF.out.2.2.2 e.symm)) hdx5 (hbs4.trans hbs5) ((HO2.out.mono (fun _ _ h => h.elim)).trans hO3)
            have hb2 : w3.heap[w.heap.size + 1]? = some (.cells (evC false 0 0) 93 (0, 0)) := by
              rw [hO3.block _ (lt_of_some HIN.out.2) (by show ¬ _ = cb; omega)]; exact HIN.out.2
            obtain ⟨s1, s2⟩ := ev_set (b := false) (c := 0) (t := 0) hb2 false 0 0
            have HFI := Vx.hid (hfin _ s2.drew)
            have HK := Vx.hid (ev_read s1)
            have HB2 := Vx.hid (ev_read hb2)
            have hcr2 := HRF2.out.2.cr rd HOP.out.2.2
            have hfr2 := HRF2.out.2.fz (off + rd)
            have HRB : Hid ((0 : Int) < (rd : Int) ∧ 0 ≤ (rd : Int) ∧ (rd : Int) < 32) := by have := HOP.out.2.2; show _ ∧ _ ∧ _; omega
            have hcbl : cb < w2.heap.size := World.block_lt_of_cell? w2 _ hcp
            have hcp2 : ∀ v, (w2.setCell ⟨cb, off + rd, none⟩ v).cell? ⟨cb, off + 32, none⟩ = some (.int .i64 (pc : Int)) := fun v => by
              rw [World.cell?_setCell_other _ _ _ _ (by intro e; injection e with _ e2; have := HOP.out.2.2; omega)]; exact hcp
            have hgc : ¬ w.heap.size = cb := by omega
            have hgc2 : ¬ cb = w.heap.size := by omega
            clear hb2 hfin s1 s2 hdx4 hdx5 hbs4 hbs5 hO3 HFIN HV HRF HRF2 HIN HE1 HO2 HST HHN HNN HEV hn256 hpaN htop hplt hb hbs hkk hclw hr0
            go_upto_region 16 with fail
            skip
            have hrb := HRB.out.1
            have hidx := HRB.out.2
            go_wp2_with fail
            go_region
            all_goals
              go_wp2_with fail
              refine (HWRP.out _).mono ?_
              rintro e w' ⟨rfl, h⟩
              have h3 := h.symm; clear h; subst h3
              obtain ⟨h0, h1, h2, hf, hl⟩ := HB2.out
              have f0 := hf 0
              have f1 := hf 1
              have f2 := hf 2
              rw [hw3] at h0 h1 h2 f0 f1 f2 hl HFI HK
              clear hf HB2 hw3
              generalize m32 ((pc : Int) + 4) = nx at HFI HK h0 h1 h2 f0 f1 f2 hl ⊢
              unfold evC at *
              go_wp2_with fail
              rw [show (((0 : Nat)) : Int) = 0 from rfl] at HK
              obtain ⟨k0, k1, k2, _, _⟩ := HK.out
              refine bodyPost_ret (v := .agg #[.bool false, .int .i64 0, .int .u32 ((0 : Nat) : Int)]) ?_ rfl HFI.out
              simp [results, Tryz.results79, go_sem, k0, k1, k2]
      · have e11 := neqF (op : Int) 11 (by omega)
        by_cases o12 : op = 12
        · have e12 : ((op : Int) == 12) = true := by rw [beq_iff_eq]; omega
          by_cases hv : 32768 ≤ P
          ·
            have hv2 : (32768 : Int) ≤ (P : Int) := by omega
            have dv : decide ((32768 : Int) ≤ (P : Int)) = true := decide_eq_true hv2
            have w5 : IntKind.i64.wrap ((P : Int) + 4294967296) = (P : Int) + 4294967296 := by rw [IntKind.wrap_i64]; omega
            obtain ⟨LV, hLV⟩ : ∃ LV, LV = ldF op P := ⟨_, rfl⟩
            have hx : (LV : Int) = (P : Int) + 4294967296 - 65536 := by rw [hLV, o12]; exact ld12_hi P hv
            have w6 : IntKind.i64.wrap ((P : Int) + 4294967296 - 65536) = (LV : Int) := wrap_ext P LV 65536 hplt (by decide) (by decide) hx
            clear hx hv
            have HV : Hid (LV = ldF op P) := by show _ = _; exact hLV
            clear o12 hLV
            have hcp := HRF2.out.2.cp
            have hfp := HRF2.out.2.fz (off + 32)
            have hpx : IntKind.i64.wrap ((pc : Int) + 4) = (pc : Int) + 4 := by have := HPCL.out; rw [IntKind.wrap_i64]; omega
            have HWRP := Vx.hid (fun wv => HWR.out ((pc : Int) + 4) wv)
            have hclw := HE1.out.2.2.2
            have HEV := Vx.hid (ev_read HIN.out.2)
            by_cases hr0 : rd = 0
            · subst hr0
              obtain ⟨cs5, hdx5, hbs5⟩ := HRF2.out.2.setPc (m32 ((pc : Int) + 4))
              have hO5 : Only (fun k => k = cb) w (w2.setCell ⟨cb, off + 32, none⟩ (.int .i64 (m32 ((pc : Int) + 4) : Nat))) := Only.setCell (S := fun k => k = cb) (p := ⟨cb, off + 32, none⟩) (HO2.out.mono (fun _ _ h => h.elim)) (Or.inl rfl) _
              have hfin := HFIN.out (LV) _ cs5 HV.out (HRF2.out.1.only (only_cell w2 ⟨cb, off + 32, none⟩ _) (fun e => HRF.out.2.2.1 e.symm) (fun e => HRF.out.2.2.2 e.symm)) (by rw [setR_zero]; exact hdx5) hbs5 hO5
              have hb2 : (w2.setCell ⟨cb, off + 32, none⟩ (.int .i64 (m32 ((pc : Int) + 4) : Nat))).heap[w.heap.size + 1]? = some (.cells (evC false 0 0) 93 (0, 0)) := by
                rw [(only_cell w2 ⟨cb, off + 32, none⟩ _).block _ (lt_of_some HIN.out.2) (by show ¬ _ = cb; omega)]; exact HIN.out.2
              obtain ⟨s1, s2⟩ := ev_set (b := false) (c := 0) (t := 0) hb2 false 0 0
              have HFI := Vx.hid (hfin _ s2)
              have HK := Vx.hid (ev_read s1)
              obtain ⟨h0, h1, h2, hf, hl⟩ := ev_read hb2
              have f0 := hf 0
              have f1 := hf 1
              have f2 := hf 2
              have hcbl : cb < w2.heap.size := World.block_lt_of_cell? w2 _ hcp
              clear hb2 hfin s1 s2 hf hdx5 hbs5 hO5 HFIN HV HRF HRF2 HIN HE1 HO2 HST HHN HNN HEV hn256 hpaN htop hplt hb hbs hkk hclw
              go_wp2_with fail
              refine (HWRP.out _).mono ?_
              rintro e w' ⟨rfl, h⟩
              have h3 := h.symm; clear h; subst h3
              generalize m32 ((pc : Int) + 4) = nx at HFI HK h0 h1 h2 f0 f1 f2 hl ⊢
              unfold evC at *
              go_wp2_with fail
              rw [show (((0 : Nat)) : Int) = 0 from rfl] at HK
              obtain ⟨k0, k1, k2, _, _⟩ := HK.out
              refine bodyPost_ret (v := .agg #[.bool false, .int .i64 0, .int .u32 ((0 : Nat) : Int)]) ?_ rfl HFI.out
              simp [results, Tryz.results79, go_sem, k0, k1, k2]
            · obtain ⟨cs4, hdx4, hbs4⟩ := HRF2.out.2.setR rd (LV) HOP.out.2.2 hr0
              obtain ⟨cs5, hdx5, hbs5⟩ := hdx4.setPc (m32 ((pc : Int) + 4))
              obtain ⟨w3, hw3⟩ : ∃ w3, w3 = ((w2.setCell ⟨cb, off + rd, none⟩ (.int .i64 (LV : Nat))).setCell ⟨cb, off + 32, none⟩ (.int .i64 (m32 ((pc : Int) + 4) : Nat))) := ⟨_, rfl⟩
              have hO3 : Only (fun k => k = cb) w2 w3 := by rw [hw3]; exact Only.setCell (S := fun k => k = cb) (p := ⟨cb, off + 32, none⟩) (Only.setCell (S := fun k => k = cb) (p := ⟨cb, off + rd, none⟩) (Only.refl _ w2) (Or.inl rfl) _) (Or.inl rfl) _
              rw [← hw3] at hdx5
              have hfin := HFIN.out (LV) w3 cs5 HV.out (HRF2.out.1.only hO3 (fun e => HRF.out.2.2.1 e.symm) (fun e => HRF.out.2.2.2 e.symm)) hdx5 (hbs4.trans hbs5) ((HO2.out.mono (fun _ _ h => h.elim)).trans hO3)
              have hb2 : w3.heap[w.heap.size + 1]? = some (.cells (evC false 0 0) 93 (0, 0)) := by
                rw [hO3.block _ (lt_of_some HIN.out.2) (by show ¬ _ = cb; omega)]; exact HIN.out.2
              obtain ⟨s1, s2⟩ := ev_set (b := false) (c := 0) (t := 0) hb2 false 0 0
              have HFI := Vx.hid (hfin _ s2.drew)
              have HK := Vx.hid (ev_read s1)
              have HB2 := Vx.hid (ev_read hb2)
              have hcr2 := HRF2.out.2.cr rd HOP.out.2.2
              have hfr2 := HRF2.out.2.fz (off + rd)
              have HRB : Hid ((0 : Int) < (rd : Int) ∧ 0 ≤ (rd : Int) ∧ (rd : Int) < 32) := by have := HOP.out.2.2; show _ ∧ _ ∧ _; omega
              have hcbl : cb < w2.heap.size := World.block_lt_of_cell? w2 _ hcp
              have hcp2 : ∀ v, (w2.setCell ⟨cb, off + rd, none⟩ v).cell? ⟨cb, off + 32, none⟩ = some (.int .i64 (pc : Int)) := fun v => by
                rw [World.cell?_setCell_other _ _ _ _ (by intro e; injection e with _ e2; have := HOP.out.2.2; omega)]; exact hcp
              have hgc : ¬ w.heap.size = cb := by omega
              have hgc2 : ¬ cb = w.heap.size := by omega
              clear hb2 hfin s1 s2 hdx4 hdx5 hbs4 hbs5 hO3 HFIN HV HRF HRF2 HIN HE1 HO2 HST HHN HNN HEV hn256 hpaN htop hplt hb hbs hkk hclw hr0
              go_upto_region 16 with fail
              clear w5 w6 hv2 dv
              have hrb := HRB.out.1
              have hidx := HRB.out.2
              go_wp2_with fail
              go_region
              all_goals
                go_wp2_with fail
                refine (HWRP.out _).mono ?_
                rintro e w' ⟨rfl, h⟩
                have h3 := h.symm; clear h; subst h3
                obtain ⟨h0, h1, h2, hf, hl⟩ := HB2.out
                have f0 := hf 0
                have f1 := hf 1
                have f2 := hf 2
                rw [hw3] at h0 h1 h2 f0 f1 f2 hl HFI HK
                clear hf HB2 hw3
                generalize m32 ((pc : Int) + 4) = nx at HFI HK h0 h1 h2 f0 f1 f2 hl ⊢
                unfold evC at *
                go_wp2_with fail
                rw [show (((0 : Nat)) : Int) = 0 from rfl] at HK
                obtain ⟨k0, k1, k2, _, _⟩ := HK.out
                refine bodyPost_ret (v := .agg #[.bool false, .int .i64 0, .int .u32 ((0 : Nat) : Int)]) ?_ rfl HFI.out
                simp [results, Tryz.results79, go_sem, k0, k1, k2]
          ·
            have hv2 : ¬ (32768 : Int) ≤ (P : Int) := by omega
            have dv : decide ((32768 : Int) ≤ (P : Int)) = false := decide_eq_false hv2
            have HV : Hid (P = ldF op P) := by show _ = _; rw [o12]; exact (ld12_lo P hv).symm
            clear o12 hv
            have hcp := HRF2.out.2.cp
            have hfp := HRF2.out.2.fz (off + 32)
            have hpx : IntKind.i64.wrap ((pc : Int) + 4) = (pc : Int) + 4 := by have := HPCL.out; rw [IntKind.wrap_i64]; omega
            have HWRP := Vx.hid (fun wv => HWR.out ((pc : Int) + 4) wv)
            have hclw := HE1.out.2.2.2
            have HEV := Vx.hid (ev_read HIN.out.2)
            by_cases hr0 : rd = 0
            · subst hr0
              obtain ⟨cs5, hdx5, hbs5⟩ := HRF2.out.2.setPc (m32 ((pc : Int) + 4))
              have hO5 : Only (fun k => k = cb) w (w2.setCell ⟨cb, off + 32, none⟩ (.int .i64 (m32 ((pc : Int) + 4) : Nat))) := Only.setCell (S := fun k => k = cb) (p := ⟨cb, off + 32, none⟩) (HO2.out.mono (fun _ _ h => h.elim)) (Or.inl rfl) _
              have hfin := HFIN.out (P) _ cs5 HV.out (HRF2.out.1.only (only_cell w2 ⟨cb, off + 32, none⟩ _) (fun e => HRF.out.2.2.1 e.symm) (fun e => HRF.out.2.2.2 e.symm)) (by rw [setR_zero]; exact hdx5) hbs5 hO5
              have hb2 : (w2.setCell ⟨cb, off + 32, none⟩ (.int .i64 (m32 ((pc : Int) + 4) : Nat))).heap[w.heap.size + 1]? = some (.cells (evC false 0 0) 93 (0, 0)) := by
                rw [(only_cell w2 ⟨cb, off + 32, none⟩ _).block _ (lt_of_some HIN.out.2) (by show ¬ _ = cb; omega)]; exact HIN.out.2
              obtain ⟨s1, s2⟩ := ev_set (b := false) (c := 0) (t := 0) hb2 false 0 0
              have HFI := Vx.hid (hfin _ s2)
              have HK := Vx.hid (ev_read s1)
              obtain ⟨h0, h1, h2, hf, hl⟩ := ev_read hb2
              have f0 := hf 0
              have f1 := hf 1
              have f2 := hf 2
              have hcbl : cb < w2.heap.size := World.block_lt_of_cell? w2 _ hcp
              clear hb2 hfin s1 s2 hf hdx5 hbs5 hO5 HFIN HV HRF HRF2 HIN HE1 HO2 HST HHN HNN HEV hn256 hpaN htop hplt hb hbs hkk hclw
              go_wp2_with fail
              refine (HWRP.out _).mono ?_
              rintro e w' ⟨rfl, h⟩
              have h3 := h.symm; clear h; subst h3
              generalize m32 ((pc : Int) + 4) = nx at HFI HK h0 h1 h2 f0 f1 f2 hl ⊢
              unfold evC at *
              go_wp2_with fail
              rw [show (((0 : Nat)) : Int) = 0 from rfl] at HK
              obtain ⟨k0, k1, k2, _, _⟩ := HK.out
              refine bodyPost_ret (v := .agg #[.bool false, .int .i64 0, .int .u32 ((0 : Nat) : Int)]) ?_ rfl HFI.out
              simp [results, Tryz.results79, go_sem, k0, k1, k2]
            · obtain ⟨cs4, hdx4, hbs4⟩ := HRF2.out.2.setR rd (P) HOP.out.2.2 hr0
              obtain ⟨cs5, hdx5, hbs5⟩ := hdx4.setPc (m32 ((pc : Int) + 4))
              obtain ⟨w3, hw3⟩ : ∃ w3, w3 = ((w2.setCell ⟨cb, off + rd, none⟩ (.int .i64 (P : Nat))).setCell ⟨cb, off + 32, none⟩ (.int .i64 (m32 ((pc : Int) + 4) : Nat))) := ⟨_, rfl⟩
              have hO3 : Only (fun k => k = cb) w2 w3 := by rw [hw3]; exact Only.setCell (S := fun k => k = cb) (p := ⟨cb, off + 32, none⟩) (Only.setCell (S := fun k => k = cb) (p := ⟨cb, off + rd, none⟩) (Only.refl _ w2) (Or.inl rfl) _) (Or.inl rfl) _
              rw [← hw3] at hdx5
              have hfin := HFIN.out (P) w3 cs5 HV.out (HRF2.out.1.only hO3 (fun e => HRF.out.2.2.1 e.symm) (fun e => HRF.out.2.2.2 e.symm)) hdx5 (hbs4.trans hbs5) ((HO2.out.mono (fun _ _ h => h.elim)).trans hO3)
              have hb2 : w3.heap[w.heap.size + 1]? = some (.cells (evC false 0 0) 93 (0, 0)) := by
                rw [hO3.block _ (lt_of_some HIN.out.2) (by show ¬ _ = cb; omega)]; exact HIN.out.2
              obtain ⟨s1, s2⟩ := ev_set (b := false) (c := 0) (t := 0) hb2 false 0 0
              have HFI := Vx.hid (hfin _ s2.drew)
              have HK := Vx.hid (ev_read s1)
              have HB2 := Vx.hid (ev_read hb2)
              have hcr2 := HRF2.out.2.cr rd HOP.out.2.2
              have hfr2 := HRF2.out.2.fz (off + rd)
              have HRB : Hid ((0 : Int) < (rd : Int) ∧ 0 ≤ (rd : Int) ∧ (rd : Int) < 32) := by have := HOP.out.2.2; show _ ∧ _ ∧ _; omega
              have hcbl : cb < w2.heap.size := World.block_lt_of_cell? w2 _ hcp
              have hcp2 : ∀ v, (w2.setCell ⟨cb, off + rd, none⟩ v).cell? ⟨cb, off + 32, none⟩ = some (.int .i64 (pc : Int)) := fun v => by
                rw [World.cell?_setCell_other _ _ _ _ (by intro e; injection e with _ e2; have := HOP.out.2.2; omega)]; exact hcp
              have hgc : ¬ w.heap.size = cb := by omega
              have hgc2 : ¬ cb = w.heap.size := by omega
              clear hb2 hfin s1 s2 hdx4 hdx5 hbs4 hbs5 hO3 HFIN HV HRF HRF2 HIN HE1 HO2 HST HHN HNN HEV hn256 hpaN htop hplt hb hbs hkk hclw hr0
              go_upto_region 16 with fail
              skip
              have hrb := HRB.out.1
              have hidx := HRB.out.2
              go_wp2_with fail
              go_region
              all_goals
                go_wp2_with fail
                refine (HWRP.out _).mono ?_
                rintro e w' ⟨rfl, h⟩
                have h3 := h.symm; clear h; subst h3
                obtain ⟨h0, h1, h2, hf, hl⟩ := HB2.out
                have f0 := hf 0
                have f1 := hf 1
                have f2 := hf 2
                rw [hw3] at h0 h1 h2 f0 f1 f2 hl HFI HK
                clear hf HB2 hw3
                generalize m32 ((pc : Int) + 4) = nx at HFI HK h0 h1 h2 f0 f1 f2 hl ⊢
                unfold evC at *
                go_wp2_with fail
                rw [show (((0 : Nat)) : Int) = 0 from rfl] at HK
                obtain ⟨k0, k1, k2, _, _⟩ := HK.out
                refine bodyPost_ret (v := .agg #[.bool false, .int .i64 0, .int .u32 ((0 : Nat) : Int)]) ?_ rfl HFI.out
                simp [results, Tryz.results79, go_sem, k0, k1, k2]
        · have e12 := neqF (op : Int) 12 (by omega)
          have HV : Hid (P = ldF op P) := by show _ = _; exact (ld_other op P o11 o12).symm
          clear o12
          have hcp := HRF2.out.2.cp
          have hfp := HRF2.out.2.fz (off + 32)
          have hpx : IntKind.i64.wrap ((pc : Int) + 4) = (pc : Int) + 4 := by have := HPCL.out; rw [IntKind.wrap_i64]; omega
          have HWRP := Vx.hid (fun wv => HWR.out ((pc : Int) + 4) wv)
          have hclw := HE1.out.2.2.2
          have HEV := Vx.hid (ev_read HIN.out.2)
          by_cases hr0 : rd = 0
          · subst hr0
            obtain ⟨cs5, hdx5, hbs5⟩ := HRF2.out.2.setPc (m32 ((pc : Int) + 4))
            have hO5 : Only (fun k => k = cb) w (w2.setCell ⟨cb, off + 32, none⟩ (.int .i64 (m32 ((pc : Int) + 4) : Nat))) := Only.setCell (S := fun k => k = cb) (p := ⟨cb, off + 32, none⟩) (HO2.out.mono (fun _ _ h => h.elim)) (Or.inl rfl) _
            have hfin := HFIN.out (P) _ cs5 HV.out (HRF2.out.1.only (only_cell w2 ⟨cb, off + 32, none⟩ _) (fun e => HRF.out.2.2.1 e.symm) (fun e => HRF.out.2.2.2 e.symm)) (by rw [setR_zero]; exact hdx5) hbs5 hO5
            have hb2 : (w2.setCell ⟨cb, off + 32, none⟩ (.int .i64 (m32 ((pc : Int) + 4) : Nat))).heap[w.heap.size + 1]? = some (.cells (evC false 0 0) 93 (0, 0)) := by
              rw [(only_cell w2 ⟨cb, off + 32, none⟩ _).block _ (lt_of_some HIN.out.2) (by show ¬ _ = cb; omega)]; exact HIN.out.2
            obtain ⟨s1, s2⟩ := ev_set (b := false) (c := 0) (t := 0) hb2 false 0 0
            have HFI := Vx.hid (hfin _ s2)
            have HK := Vx.hid (ev_read s1)
            obtain ⟨h0, h1, h2, hf, hl⟩ := ev_read hb2
            have f0 := hf 0
            have f1 := hf 1
            have f2 := hf 2
            have hcbl : cb < w2.heap.size := World.block_lt_of_cell? w2 _ hcp
            clear hb2 hfin s1 s2 hf hdx5 hbs5 hO5 HFIN HV HRF HRF2 HIN HE1 HO2 HST HHN HNN HEV hn256 hpaN htop hplt hb hbs hkk hclw
            go_wp2_with fail
            refine (HWRP.out _).mono ?_
            rintro e w' ⟨rfl, h⟩
            have h3 := h.symm; clear h; subst h3
            generalize m32 ((pc : Int) + 4) = nx at HFI HK h0 h1 h2 f0 f1 f2 hl ⊢
            unfold evC at *
            go_wp2_with fail
            rw [show (((0 : Nat)) : Int) = 0 from rfl] at HK
            obtain ⟨k0, k1, k2, _, _⟩ := HK.out
            refine bodyPost_ret (v := .agg #[.bool false, .int .i64 0, .int .u32 ((0 : Nat) : Int)]) ?_ rfl HFI.out
            simp [results, Tryz.results79, go_sem, k0, k1, k2]
          · obtain ⟨cs4, hdx4, hbs4⟩ := HRF2.out.2.setR rd (P) HOP.out.2.2 hr0
            obtain ⟨cs5, hdx5, hbs5⟩ := hdx4.setPc (m32 ((pc : Int) + 4))
            obtain ⟨w3, hw3⟩ : ∃ w3, w3 = ((w2.setCell ⟨cb, off + rd, none⟩ (.int .i64 (P : Nat))).setCell ⟨cb, off + 32, none⟩ (.int .i64 (m32 ((pc : Int) + 4) : Nat))) := ⟨_, rfl⟩
            have hO3 : Only (fun k => k = cb) w2 w3 := by rw [hw3]; exact Only.setCell (S := fun k => k = cb) (p := ⟨cb, off + 32, none⟩) (Only.setCell (S := fun k => k = cb) (p := ⟨cb, off + rd, none⟩) (Only.refl _ w2) (Or.inl rfl) _) (Or.inl rfl) _
            rw [← hw3] at hdx5
            have hfin := HFIN.out (P) w3 cs5 HV.out (HRF2.out.1.only hO3 (fun e => HRF.out.2.2.1 e.symm) (fun e => HRF.out.2.2.2 e.symm)) hdx5 (hbs4.trans hbs5) ((HO2.out.mono (fun _ _ h => h.elim)).trans hO3)
            have hb2 : w3.heap[w.heap.size + 1]? = some (.cells (evC false 0 0) 93 (0, 0)) := by
              rw [hO3.block _ (lt_of_some HIN.out.2) (by show ¬ _ = cb; omega)]; exact HIN.out.2
            obtain ⟨s1, s2⟩ := ev_set (b := false) (c := 0) (t := 0) hb2 false 0 0
            have HFI := Vx.hid (hfin _ s2.drew)
            have HK := Vx.hid (ev_read s1)
            have HB2 := Vx.hid (ev_read hb2)
            have hcr2 := HRF2.out.2.cr rd HOP.out.2.2
            have hfr2 := HRF2.out.2.fz (off + rd)
            have HRB : Hid ((0 : Int) < (rd : Int) ∧ 0 ≤ (rd : Int) ∧ (rd : Int) < 32) := by have := HOP.out.2.2; show _ ∧ _ ∧ _; omega
            have hcbl : cb < w2.heap.size := World.block_lt_of_cell? w2 _ hcp
            have hcp2 : ∀ v, (w2.setCell ⟨cb, off + rd, none⟩ v).cell? ⟨cb, off + 32, none⟩ = some (.int .i64 (pc : Int)) := fun v => by
              rw [World.cell?_setCell_other _ _ _ _ (by intro e; injection e with _ e2; have := HOP.out.2.2; omega)]; exact hcp
            have hgc : ¬ w.heap.size = cb := by omega
            have hgc2 : ¬ cb = w.heap.size := by omega
            clear hb2 hfin s1 s2 hdx4 hdx5 hbs4 hbs5 hO3 HFIN HV HRF HRF2 HIN HE1 HO2 HST HHN HNN HEV hn256 hpaN htop hplt hb hbs hkk hclw hr0
            go_upto_region 16 with fail
            skip
            have hrb := HRB.out.1
            have hidx := HRB.out.2
            go_wp2_with fail
            go_region
            all_goals
              go_wp2_with fail
              refine (HWRP.out _).mono ?_
              rintro e w' ⟨rfl, h⟩
              have h3 := h.symm; clear h; subst h3
              obtain ⟨h0, h1, h2, hf, hl⟩ := HB2.out
              have f0 := hf 0
              have f1 := hf 1
              have f2 := hf 2
              rw [hw3] at h0 h1 h2 f0 f1 f2 hl HFI HK
              clear hf HB2 hw3
              generalize m32 ((pc : Int) + 4) = nx at HFI HK h0 h1 h2 f0 f1 f2 hl ⊢
              unfold evC at *
              go_wp2_with fail
              rw [show (((0 : Nat)) : Int) = 0 from rfl] at HK
              obtain ⟨k0, k1, k2, _, _⟩ := HK.out
              refine bodyPost_ret (v := .agg #[.bool false, .int .i64 0, .int .u32 ((0 : Nat) : Int)]) ?_ rfl HFI.out
              simp [results, Tryz.results79, go_sem, k0, k1, k2]
    · obtain ⟨k, rfl⟩ : ∃ k, kk = k + 1 := ⟨kk - 1, by omega⟩
      have hst := HST.out k (by omega)
      have hcb : w2.cell? ⟨bb, pa + k, none⟩ = some (.int .u8 ((f (pa + k)).toNat : Int)) := HRF2.out.1.cb (by have := HHN.out.2; omega)
      have hb8 := (f (pa + k)).toNat_lt
      have hV : P / 256 ^ (k + 1) ≤ P := Nat.div_le_self _ _
      have hk1 : (((k + 1 : Nat) : Int) - 1) = (k : Int) := by omega
      rw [hk1]
      generalize P / 256 ^ (k + 1) = V at hst hV ⊢
      generalize (f (pa + k)).toNat = x at hst hcb hb8
      obtain ⟨Q, hQ⟩ : ∃ Q, Q = P / 256 ^ k := ⟨_, rfl⟩
      have HQ := Vx.hid hQ
      rw [← hQ] at hst
      have g1 : (0 : Int) ≤ (k : Int) := by omega
      have g2 : IntKind.i64.wrap ((pa : Int) + (k : Int)) = ((pa + k : Nat) : Int) := by rw [IntKind.wrap_i64]; omega
      have g3 : 0 ≤ ((pa + k : Nat) : Int) ∧ ((pa + k : Nat) : Int) < (N : Int) := by have := HHN.out.2; have := HNN.out; omega
      have g4 : IntKind.i64.wrap (256 * (V : Int)) = 256 * (V : Int) := by rw [IntKind.wrap_i64]; omega
      have g5 : IntKind.i64.wrap (256 * (V : Int) + (x : Int)) = (Q : Int) := by rw [IntKind.wrap_i64]; omega
      have g6 : IntKind.i64.wrap (x : Int) = (x : Int) := by rw [IntKind.wrap_i64]; omega
      have g7 : IntKind.i64.wrap ((k : Int) - 1) = (k : Int) - 1 := by rw [IntKind.wrap_i64]; omega
      have HKL := Vx.hid hkk
      clear hV hst hQ hb8 hkk h0 hpaN hn256 hplt htop hb hbs
      generalize pa + k = pk at g2 g3 hcb
      go_wp2_with fail
      all_goals
        go_round
        case rel => exact ⟨k, Nat.le_of_succ_le HKL.out, rfl, by rw [← HQ.out]⟩
        case measure => simp [intOf]
end Go.Proofs.YtflmobffeeocdaaGreatDoor

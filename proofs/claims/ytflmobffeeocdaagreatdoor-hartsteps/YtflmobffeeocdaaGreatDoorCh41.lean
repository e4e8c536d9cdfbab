import Derived.Test.YtflmobffeeocdaaGreatDoorCh39
import Derived.Test.YtflmobffeeocdaaGreatDoorCh38
import Derived.Test.YtflmobffeeocdaaGreatDoorCh40
import Derived.Deep.QuietTactic
import Derived.BigQuiet
/- Walks of the document's chapter 6: load and store, whole; Step where no instruction is come to. -/
namespace Go.Proofs.YtflmobffeeocdaaGreatDoor
open Go.ChangeShapes Go.WideShapes Go.ChangeAt Go.RowKit
open Go.Vx

theorem refLoad_any {w : World} {br bb n cb off pc : Nat} {T : TypeId} {cs : Array Value} {R : Nat → Nat} {f : Nat → UInt8} (h : RefAt w br bb n f) (hd : DxAt w cb off T cs R pc) (hne : cb ≠ br ∧ cb ≠ bb) (hpc : pc < 4294967296) (root : Int) (op rd : Nat) (r1 r2 im : Int) (ho : 11 ≤ op) (ho2 : op ≤ 15) (hrd : rd < 32) (va : Nat) (hva : va < 4294967296) :
    Calls Tryz.prog 79 #[.pointer (some ⟨br, 0, none⟩), .int .i64 root, .pointer (some ⟨cb, off, none⟩), .agg #[.int .i64 (op : Int), .int .i64 (rd : Int), .int .i64 r1, .int .i64 r2, .int .i64 im], .int .i64 (va : Int)] w fun e w' => DocP w br bb n cb off T cs (loadG f R pc op rd (placeF f n root va (bytesF op) 1)) e w' := by
  by_cases ham : va % bytesF op = 0
  · by_cases hwc : (walkF f n root va 1).2 = -1
    · exact refLoad_good h hd hne root op rd r1 r2 im ho ho2 hrd va hva hpc ham hwc
    · exact refLoad_fault h hd hne root op rd r1 r2 im ho ho2 hrd va hva ham hwc
  · exact refLoad_mis h hd hne root op rd r1 r2 im ho ho2 hrd va hva ham
theorem refStore_any {w : World} {br bb n cb off pc : Nat} {T : TypeId} {cs : Array Value} {R : Nat → Nat} {f : Nat → UInt8} (h : RefAt w br bb n f) (hd : DxAt w cb off T cs R pc) (hne : cb ≠ br ∧ cb ≠ bb) (hpc : pc < 4294967296) (root : Int) (op rd : Nat) (r1 r2 im : Int) (ho : 16 ≤ op) (ho2 : op ≤ 18) (hrd : rd < 32) (va : Nat) (hva : va < 4294967296) (b : Nat) (hb : b < 4294967296) :
    Calls Tryz.prog 81 #[.pointer (some ⟨br, 0, none⟩), .int .i64 root, .pointer (some ⟨cb, off, none⟩), .agg #[.int .i64 (op : Int), .int .i64 (rd : Int), .int .i64 r1, .int .i64 r2, .int .i64 im], .int .i64 (va : Int), .int .i64 (b : Int)] w fun e w' => DocP w br bb n cb off T cs (storeG f R pc op b (placeF f n root va (bytesF op) 2)) e w' := by
  by_cases ham : va % bytesF op = 0
  · by_cases hwc : (walkF f n root va 2).2 = -1
    · exact refStore_good h hd hne root op rd r1 r2 im ho ho2 hrd va hva b hb hpc ham hwc
    · exact refStore_fault h hd hne root op rd r1 r2 im ho ho2 hrd va hva b ham hwc
  · exact refStore_mis h hd hne root op rd r1 r2 im ho ho2 hrd va hva b ham
end Go.Proofs.YtflmobffeeocdaaGreatDoor

/- Walks of the document's chapter 6: Step (made by gen_f5.py). -/
namespace Go.Proofs.YtflmobffeeocdaaGreatDoor
open Go.ChangeShapes Go.WideShapes Go.ChangeAt Go.RowKit
open Go.Vx
set_option linter.unusedVariables false

set_option maxRecDepth 100000 in
set_option maxHeartbeats 4000000 in
theorem doc_mis {w : World} {br bb n cb off pc : Nat} {T : TypeId} {cs : Array Value} {R : Nat → Nat} {f : Nat → UInt8} (h : RefAt w br bb n f) (hd : DxAt w cb off T cs R pc) (hne : cb ≠ br ∧ cb ≠ bb) (hpc : pc < 4294967296) (hR : ∀ i, i < 32 → R i < 4294967296) (root : Int) (hm : pc % 4 ≠ 0) :
    Calls Tryz.prog 54 #[.pointer (some ⟨br, 0, none⟩), .int .i64 root, .pointer (some ⟨cb, off, none⟩)] w fun e w' => DocP w br bb n cb off T cs (stepF f n root R pc) e w' := by
  have hcl : cb < w.heap.size := lt_of_some hd.b
  obtain ⟨w1, hw1⟩ : ∃ w1, w1 = w.alloc (.cells (evC false 0 0) 93) := ⟨_, rfl⟩
  have hO1 : Only (fun _ => False) w w1 := by rw [hw1]; exact (Only.refl _ w).alloc _
  have he1 : w1.heap[w.heap.size]? = some (.cells (evC false 0 0) 93 (0, 0)) := by rw [hw1]; exact heap_alloc_last w _
  have hcp := hd.cp
  have HFT : Hid (∀ w2 w3, Only (fun _ => False) w w2 → Only (fun k => k = w.heap.size) w2 w3 → DocP w br bb n cb off T cs (stepF f n root R pc) (.returned (.agg (evC true 0 pc))) w3) := fun w2 w3 h4 h3 => Or.inl ⟨0, pc, by unfold stepF placeF placeG; rw [if_pos hm]; rfl, rfl, ⟨h3.os.trans h4.os, h3.tape.trans h4.tape, h3.output.trans h4.output, Nat.le_trans h4.size h3.size, fun k hk _ => by rw [h3.block k (Nat.lt_of_lt_of_le hk h4.size) (by omega), h4.block k hk (fun h => h)]⟩⟩
  have HTR := Vx.hid (trapped_any 0 pc hpc w1)
  obtain ⟨r, hr⟩ : ∃ r : Nat, r = pc % 4 := ⟨_, rfl⟩
  have t1 : Int.tmod (pc : Int) 4 = (r : Int) := by rw [Int.tmod_eq_emod_of_nonneg (by omega)]; omega
  have t2 : (pc : Int) % 4 = (r : Int) := by omega
  have t3 : ((r : Int) != 0) = true := by simp; omega
  have t4 : ¬ (r : Int) = 0 := by omega
  have t5 : IntKind.i64.wrap (r : Int) = (r : Int) := by rw [IntKind.wrap_i64]; omega
  have HE1 := Vx.hid (⟨he1, hO1⟩ : _ ∧ _)
  clear h hd hne hpc hR hm hr he1 hO1
  subst hw1
  go_enter Tryz.func54, Tryz.ntmps54
  go_wp2_with fail
  refine HTR.out.mono ?_
  rintro e w2 ⟨rfl, h2⟩
  have hb2 : w2.heap[w.heap.size]? = some (.cells (evC false 0 0) 93 (0, 0)) := by rw [h2.block _ (lt_of_some HE1.out.1) (fun h => h)]; exact HE1.out.1
  have hfin := fun w3 h3 => HFT.out w2 w3 (HE1.out.2.trans h2) h3
  clear h2 HE1 HFT HTR
  obtain ⟨s1, s2⟩ := ev_set (b := false) (c := 0) (t := 0) hb2 true 0 pc
  have HFI := Vx.hid (hfin _ s2)
  have HK := Vx.hid (ev_read s1)
  obtain ⟨h0, h1, h2, hf, hl⟩ := ev_read hb2
  have f0 := hf 0
  have f1 := hf 1
  have f2 := hf 2
  clear hb2 hfin s1 s2 hf
  unfold evC at *
  go_wp2_with fail
  obtain ⟨k0, k1, k2, _, _⟩ := HK.out
  refine bodyPost_ret (v := .agg #[.bool true, .int .i64 (0), .int .u32 ((pc : Nat) : Int)]) ?_ rfl HFI.out
  simp [results, Tryz.results54, go_sem, k0, k1, k2]
set_option maxRecDepth 100000 in
set_option maxHeartbeats 4000000 in
theorem doc_fault {w : World} {br bb n cb off pc : Nat} {T : TypeId} {cs : Array Value} {R : Nat → Nat} {f : Nat → UInt8} (h : RefAt w br bb n f) (hd : DxAt w cb off T cs R pc) (hne : cb ≠ br ∧ cb ≠ bb) (hpc : pc < 4294967296) (hR : ∀ i, i < 32 → R i < 4294967296) (root : Int) (hm : pc % 4 = 0) (hwc : (walkF f n root pc 0).2 ≠ -1) :
    Calls Tryz.prog 54 #[.pointer (some ⟨br, 0, none⟩), .int .i64 root, .pointer (some ⟨cb, off, none⟩)] w fun e w' => DocP w br bb n cb off T cs (stepF f n root R pc) e w' := by
  have hcl : cb < w.heap.size := lt_of_some hd.b
  obtain ⟨w1, hw1⟩ : ∃ w1, w1 = w.alloc (.cells (evC false 0 0) 93) := ⟨_, rfl⟩
  have hO1 : Only (fun _ => False) w w1 := by rw [hw1]; exact (Only.refl _ w).alloc _
  have he1 : w1.heap[w.heap.size]? = some (.cells (evC false 0 0) 93 (0, 0)) := by rw [hw1]; exact heap_alloc_last w _
  have hcp := hd.cp
  have HFT : Hid (∀ w2 w3, Only (fun _ => False) w w2 → Only (fun k => k = w.heap.size) w2 w3 → DocP w br bb n cb off T cs (stepF f n root R pc) (.returned (.agg (evC true (walkF f n root pc 0).2 pc))) w3) := fun w2 w3 h4 h3 => Or.inl ⟨(walkF f n root pc 0).2, pc, by unfold stepF placeF placeG; rw [if_neg (by omega)]; exact congrArg (decG f n root R pc) (if_pos hwc), rfl, ⟨h3.os.trans h4.os, h3.tape.trans h4.tape, h3.output.trans h4.output, Nat.le_trans h4.size h3.size, fun k hk _ => by rw [h3.block k (Nat.lt_of_lt_of_le hk h4.size) (by omega), h4.block k hk (fun h => h)]⟩⟩
  have t1 : Int.tmod (pc : Int) 4 = 0 := by rw [Int.tmod_eq_emod_of_nonneg (by omega)]; omega
  have t2 : (pc : Int) % 4 = 0 := by omega
  have hc0 : 0 ≤ (walkF f n root pc 0).2 := by
    rcases walk_cause f n root pc 0 (by decide) with h | h
    · exact absurd h hwc
    · exact h
  have HWK := Vx.hid (refWalk_any (h.only hO1 (fun h => h) (fun h => h)) root pc hpc 0)
  generalize walkF f n root pc 0 = WF at HWK HFT hc0 hwc
  obtain ⟨pa, cz⟩ := WF
  simp only at HWK HFT hc0 hwc
  have HTR := Vx.hid (fun wv => trapped_any cz pc hpc wv)
  have HE1 := Vx.hid (⟨he1, hO1⟩ : _ ∧ _)
  have HCP := Vx.hid (fun wv (ho : Only (fun _ => False) w1 wv) => ((hd.only hO1 (fun h => h)).only ho (fun h => h)).cp)
  clear h hd hne hpc hR hm hwc he1 hO1
  subst hw1
  go_enter Tryz.func54, Tryz.ntmps54
  go_wp2_with fail
  refine HWK.out.mono ?_
  rintro e w2 ⟨rfl, h2⟩
  have HO2 := Vx.hid h2
  have hcp2 := HCP.out _ h2
  have hb1 : w2.heap[w.heap.size]? = some (.cells (evC false 0 0) 93 (0, 0)) := by rw [h2.block _ (lt_of_some HE1.out.1) (fun h => h)]; exact HE1.out.1
  have HE2 := Vx.hid hb1
  clear h2 hb1 hcp HCP
  go_wp2_with fail
  refine (HTR.out _).mono ?_
  rintro e w4 ⟨rfl, h4⟩
  have hb2 : w4.heap[w.heap.size]? = some (.cells (evC false 0 0) 93 (0, 0)) := by rw [h4.block _ (lt_of_some HE2.out) (fun h => h)]; exact HE2.out
  have hfin := fun w3 h3 => HFT.out w4 w3 ((HE1.out.2.trans HO2.out).trans h4) h3
  clear h4 HE1 HE2 HFT HTR HWK HO2 hcp2
  obtain ⟨s1, s2⟩ := ev_set (b := false) (c := 0) (t := 0) hb2 true cz pc
  have HFI := Vx.hid (hfin _ s2)
  have HK := Vx.hid (ev_read s1)
  obtain ⟨h0, h1, h2, hf, hl⟩ := ev_read hb2
  have f0 := hf 0
  have f1 := hf 1
  have f2 := hf 2
  clear hb2 hfin s1 s2 hf
  unfold evC at *
  go_wp2_with fail
  obtain ⟨k0, k1, k2, _, _⟩ := HK.out
  refine bodyPost_ret (v := .agg #[.bool true, .int .i64 (cz), .int .u32 ((pc : Nat) : Int)]) ?_ rfl HFI.out
  simp [results, Tryz.results54, go_sem, k0, k1, k2]
end Go.Proofs.YtflmobffeeocdaaGreatDoor

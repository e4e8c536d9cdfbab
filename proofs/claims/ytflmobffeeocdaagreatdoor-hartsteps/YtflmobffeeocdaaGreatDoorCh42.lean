import Derived.Test.YtflmobffeeocdaaGreatDoorCh41
import Derived.Deep.QuietTactic
import Derived.BigQuiet
/- Walks of the document's chapter 6: Step (made by gen_f5.py). -/
namespace Go.Proofs.YtflmobffeeocdaaGreatDoor
open Go.ChangeShapes Go.WideShapes Go.ChangeAt Go.RowKit
open Go.Vx
set_option linter.unusedVariables false

set_option maxRecDepth 100000 in
set_option maxHeartbeats 4000000 in
theorem doc_ecall {w : World} {br bb n cb off pc : Nat} {T : TypeId} {cs : Array Value} {R : Nat → Nat} {f : Nat → UInt8} (h : RefAt w br bb n f) (hd : DxAt w cb off T cs R pc) (hne : cb ≠ br ∧ cb ≠ bb) (hpc : pc < 4294967296) (hR : ∀ i, i < 32 → R i < 4294967296) (root : Int) (hm : pc % 4 = 0) (p : Nat) (hp : placeF f n root pc 4 0 = .ok p) (op rd r1 r2 : Nat) (im : Int) (hi : InsIs (dec (wordF f p : Nat)) op rd r1 r2 im) (hop : op = 39) :
    Calls Tryz.prog 54 #[.pointer (some ⟨br, 0, none⟩), .int .i64 root, .pointer (some ⟨cb, off, none⟩)] w fun e w' => DocP w br bb n cb off T cs (exeF f n root R pc op rd (R r1) (R r2) im) e w' := by
  have hcl : cb < w.heap.size := lt_of_some hd.b
  obtain ⟨w1, hw1⟩ : ∃ w1, w1 = w.alloc (.cells (evC false 0 0) 93) := ⟨_, rfl⟩
  have hO1 : Only (fun _ => False) w w1 := by rw [hw1]; exact (Only.refl _ w).alloc _
  have he1 : w1.heap[w.heap.size]? = some (.cells (evC false 0 0) 93 (0, 0)) := by rw [hw1]; exact heap_alloc_last w _
  have hcp := hd.cp
  have t1 : Int.tmod (pc : Int) 4 = 0 := by rw [Int.tmod_eq_emod_of_nonneg (by omega)]; omega
  have t2 : (pc : Int) % 4 = 0 := by omega
  have hpl : (walkF f n root pc 0).1 = p ∧ (walkF f n root pc 0).2 = -1 := by
    unfold placeF placeG at hp
    rw [if_neg (by omega)] at hp
    by_cases h1 : (walkF f n root pc 0).2 ≠ -1
    · rw [if_pos (show (walkF f n root pc ((0 : Nat) : Int)).2 ≠ -1 from h1)] at hp; cases hp
    · rw [if_neg (show ¬ (walkF f n root pc ((0 : Nat) : Int)).2 ≠ -1 from h1)] at hp
      injection hp with hp
      exact ⟨hp, by simpa using h1⟩
  have hpi := place_in (Or.inr (Or.inr rfl)) hp
  have HWK := Vx.hid (refWalk_any (h.only hO1 (fun h => h) (fun h => h)) root pc hpc 0)
  rw [hpl.1, hpl.2] at HWK
  have hwr : wordR f n (p : Int) = (wordF f p, 0) := by
    unfold wordR
    rw [if_pos ⟨by simp [insB]; omega, by rw [Int.tmod_eq_emod_of_nonneg (by omega)]; omega⟩, Int.toNat_natCast]
  have HWD : Hid (∀ wv, Only (fun _ => False) w wv → wv.heap[w.heap.size]? = some (.cells (evC false 0 0) 93 (0, 0)) → Calls Tryz.prog 30 #[.pointer (some ⟨br, 0, none⟩), .int .i64 (p : Int)] wv fun e w' => e = .returned (.tuple #[.int .i64 (wordF f p : Nat), .int .i64 0]) ∧ Hid (Only (fun _ => False) w w') ∧ Hid (w'.heap[w.heap.size]? = some (.cells (evC false 0 0) 93 (0, 0)))) := fun wv hv hev => by
    refine (refWord_any (h.only hv (fun h => h) (fun h => h)) (p : Int)).mono ?_
    rintro e w' ⟨rfl, ho⟩
    rw [hwr]
    exact ⟨rfl, hv.trans ho, by show _ = _; rw [ho.block _ (lt_of_some hev) (fun h => h)]; exact hev⟩
  have HDE : Hid (∀ wv, Only (fun _ => False) w wv → wv.heap[w.heap.size]? = some (.cells (evC false 0 0) 93 (0, 0)) → Calls Tryz.prog 78 #[.int .i64 (wordF f p : Nat)] wv fun e w' => e = .returned (.agg #[.int .i64 (op : Int), .int .i64 (rd : Int), .int .i64 (r1 : Int), .int .i64 (r2 : Int), .int .i64 im]) ∧ Hid (Only (fun _ => False) w w') ∧ Hid (w'.heap[w.heap.size]? = some (.cells (evC false 0 0) 93 (0, 0)))) := fun wv hv hev => by
    refine (refDecode_any (wordF f p) (wordF_lt f p) wv).mono ?_
    rintro e w' ⟨rfl, hb⟩
    rw [hi.e]
    exact ⟨rfl, hv.trans (only_of_below hb), by show _ = _; rw [(only_of_below hb).block _ (lt_of_some hev) (fun h => h)]; exact hev⟩
  have HWL := Vx.hid (wordF_lt f p)
  have HD := Vx.hid (fun wv (ho : Only (fun _ => False) w wv) => (⟨h.only ho (fun h => h) (fun h => h), hd.only ho (fun h => h)⟩ : RefAt wv br bb n f ∧ DxAt wv cb off T cs R pc))
  have HE1 := Vx.hid (⟨he1, hO1⟩ : _ ∧ _)
  have HPC := Vx.hid (⟨hpc, hm⟩ : _ ∧ _)
  have HNE := Vx.hid (⟨hne, hcl⟩ : _ ∧ _)
  have HINS := Vx.hid (⟨hi.lo, hi.hi, hi.hrd, hi.hr1, hi.hr2, hi.i0, hi.i1, hi.no⟩ : 1 ≤ op ∧ op ≤ 48 ∧ rd < 32 ∧ r1 < 32 ∧ r2 < 32 ∧ -1048576 ≤ im ∧ im ≤ 1048576 ∧ (((5 ≤ op ∧ op ≤ 10) ∨ (16 ≤ op ∧ op ≤ 18)) → rd = 0))
  have HAB : Hid (R r1 < 4294967296 ∧ R r2 < 4294967296) := ⟨hR r1 hi.hr1, hR r2 hi.hr2⟩
  have HOP := Vx.hid hop
  clear h hd hne hpc hR hm hp hpl hpi hwr he1 hO1 hi hop
  subst hw1
  go_enter Tryz.func54, Tryz.ntmps54
  go_wp2_with fail
  refine HWK.out.mono ?_
  rintro e w2 ⟨rfl, h2⟩
  have HO2 := Vx.hid (HE1.out.2.trans h2)
  have hb2e : w2.heap[w.heap.size]? = some (.cells (evC false 0 0) 93 (0, 0)) := by rw [h2.block _ (lt_of_some HE1.out.1) (fun h => h)]; exact HE1.out.1
  have HE2 := Vx.hid hb2e
  clear h2 hb2e HE1
  go_wp2_with fail
  refine (HWD.out _ HO2.out HE2.out).mono ?_
  rintro e w3 ⟨rfl, h3, HE3⟩
  clear HWD
  go_wp2_with fail
  refine (HDE.out _ h3.out HE3.out).mono ?_
  rintro e w4 ⟨rfl, h4, HE4⟩
  have hel : w.heap.size < w4.heap.size := lt_of_some HE4.out
  clear HDE
  go_wp2_with fail
  obtain ⟨W5, hW5⟩ : ∃ W5, W5 = w4.alloc (.cells #[.int .i64 (op : Int), .int .i64 (rd : Int), .int .i64 (r1 : Int), .int .i64 (r2 : Int), .int .i64 im] 129) := ⟨_, rfl⟩
  have hO5 : Only (fun _ => False) w W5 := by rw [hW5]; exact h4.out.alloc _
  have hik : W5.heap[w4.heap.size]? = some (.cells #[.int .i64 (op : Int), .int .i64 (rd : Int), .int .i64 (r1 : Int), .int .i64 (r2 : Int), .int .i64 im] 129 (0, 0)) := by rw [hW5]; exact heap_alloc_last w4 _
  have hge : w.heap.size < w4.heap.size := hel
  have heb : W5.heap[w.heap.size]? = some (.cells (evC false 0 0) 93 (0, 0)) := by rw [hW5, RowKit.Below.heap_alloc _ _ _ hel]; exact HE4.out
  rw [← hW5]
  obtain ⟨gi, hgi⟩ : ∃ gi, gi = w4.heap.size := ⟨_, rfl⟩
  rw [← hgi] at hik hge ⊢
  have HF : Hid (∀ wv, Only (fun _ => False) W5 wv → (wv.cell? ⟨gi, 0, none⟩ = some (.int .i64 (op : Int)) ∧ wv.cell? ⟨gi, 1, none⟩ = some (.int .i64 (rd : Int)) ∧ wv.cell? ⟨gi, 2, none⟩ = some (.int .i64 (r1 : Int)) ∧ wv.cell? ⟨gi, 3, none⟩ = some (.int .i64 (r2 : Int)) ∧ wv.cell? ⟨gi, 4, none⟩ = some (.int .i64 im)) ∧ wv.heap[gi]? = some (.cells #[.int .i64 (op : Int), .int .i64 (rd : Int), .int .i64 (r1 : Int), .int .i64 (r2 : Int), .int .i64 im] 129 (0, 0)) ∧ wv.heap[w.heap.size]? = some (.cells (evC false 0 0) 93 (0, 0)) ∧ RefAt wv br bb n f ∧ DxAt wv cb off T cs R pc ∧ Only (fun _ => False) w wv) := fun wv hv => by
    have hk2 : wv.heap[gi]? = some (.cells #[.int .i64 (op : Int), .int .i64 (rd : Int), .int .i64 (r1 : Int), .int .i64 (r2 : Int), .int .i64 im] 129 (0, 0)) := by rw [hv.block _ (lt_of_some hik) (fun h => h)]; exact hik
    exact ⟨⟨(cell_of_row _ _ 0 _ _ (0, 0) hk2).trans rfl, (cell_of_row _ _ 1 _ _ (0, 0) hk2).trans rfl, (cell_of_row _ _ 2 _ _ (0, 0) hk2).trans rfl, (cell_of_row _ _ 3 _ _ (0, 0) hk2).trans rfl, (cell_of_row _ _ 4 _ _ (0, 0) hk2).trans rfl⟩, hk2, by rw [hv.block _ (lt_of_some heb) (fun h => h)]; exact heb, (HD.out _ (hO5.trans hv)).1, (HD.out _ (hO5.trans hv)).2, hO5.trans hv⟩
  have HGE := Vx.hid hge
  have hx1 : 0 ≤ (r1 : Int) ∧ (r1 : Int) < 32 := by have := HINS.out.2.2.2.1; omega
  have hx2 : 0 ≤ (r2 : Int) ∧ (r2 : Int) < 32 := by have := HINS.out.2.2.2.2.1; omega
  obtain ⟨⟨i0, i1, i2, i3, i4⟩, q1, q2, q3, hdx5, q4⟩ := HF.out W5 (Only.refl _ _)
  clear q1 q2 q3 q4
  have hcr1 := hdx5.cr r1 HINS.out.2.2.2.1
  have hcr2 := hdx5.cr r2 HINS.out.2.2.2.2.1
  clear hik heb hge hW5 hgi hO5 hdx5 h3 h4 hel HO2 HE2 HE4 HE3 hcp hcl
  go_quiet (fail)
  obtain ⟨W6, hW6⟩ : ∃ W6, W6 = W5.drewN nq := ⟨_, rfl⟩
  have hO6 : Only (fun _ => False) W5 W6 := by rw [hW6]; exact (Only.refl _ W5).drewN nq
  rw [← hW6]
  clear i0 i1 i2 i3 i4 hcr1 hcr2 hW6
  obtain ⟨⟨i0, i1, i2, i3, i4⟩, q1, q2, q3, hdx6, q4⟩ := HF.out W6 hO6
  clear q1 q2 q3 q4
  have hcr2 := hdx6.cr r2 HINS.out.2.2.2.2.1
  have HO6 := Vx.hid hO6
  clear hdx6 hO6 nq
  go_wp2_with fail
  go_quiet (fail)
  obtain ⟨W7, hW7⟩ : ∃ W7, W7 = W6.drewN nq := ⟨_, rfl⟩
  have hO7 : Only (fun _ => False) W5 W7 := by rw [hW7]; exact HO6.out.drewN nq
  rw [← hW7]
  clear i0 i1 i2 i3 i4 hcr2 hW7 hx1 hx2 HO6
  obtain ⟨⟨i0, i1, i2, i3, i4⟩, hik, heb, hrf7, hdx7, hOw⟩ := HF.out W7 hO7
  have hcp := hdx7.cp
  have HEB := Vx.hid heb
  have HIK := Vx.hid hik
  have HRF := Vx.hid hrf7
  have HDX := Vx.hid hdx7
  have HOW := Vx.hid hOw
  clear hik heb hrf7 hdx7 hOw hO7 HF nq
  have hop := HOP.out
  have e0 := neqF (op : Int) 0 (by omega)
  have e39 : ((op : Int) == 39) = true := by rw [beq_iff_eq]; omega
  have e40 := neqF (op : Int) 40 (by omega)
  have e3 := neqF (op : Int) 3 (by omega)
  have e4 := neqF (op : Int) 4 (by omega)
  have e1 := neqF (op : Int) 1 (by omega)
  have e2 := neqF (op : Int) 2 (by omega)
  have n38 : ((op : Int) != 38) = true := by simp; omega
  have g11 : (11 : Int) ≤ (op : Int) := by omega
  have dg11 : decide ((11 : Int) ≤ (op : Int)) = true := decide_eq_true g11
  have g16 : (16 : Int) ≤ (op : Int) := by omega
  have dg16 : decide ((16 : Int) ≤ (op : Int)) = true := decide_eq_true g16
  have g5 : (5 : Int) ≤ (op : Int) := by omega
  have dg5 : decide ((5 : Int) ≤ (op : Int)) = true := decide_eq_true g5
  have g19 : (19 : Int) ≤ (op : Int) := by omega
  have dg19 : decide ((19 : Int) ≤ (op : Int)) = true := decide_eq_true g19
  have g28 : (28 : Int) ≤ (op : Int) := by omega
  have dg28 : decide ((28 : Int) ≤ (op : Int)) = true := decide_eq_true g28
  have g41 : ¬ (41 : Int) ≤ (op : Int) := by omega
  have dg41 : decide ((41 : Int) ≤ (op : Int)) = false := decide_eq_false g41
  have l15 : ¬ (op : Int) ≤ 15 := by omega
  have dl15 : decide ((op : Int) ≤ 15) = false := decide_eq_false l15
  have l18 : ¬ (op : Int) ≤ 18 := by omega
  have dl18 : decide ((op : Int) ≤ 18) = false := decide_eq_false l18
  have l10 : ¬ (op : Int) ≤ 10 := by omega
  have dl10 : decide ((op : Int) ≤ 10) = false := decide_eq_false l10
  have l27 : ¬ (op : Int) ≤ 27 := by omega
  have dl27 : decide ((op : Int) ≤ 27) = false := decide_eq_false l27
  have l37 : ¬ (op : Int) ≤ 37 := by omega
  have dl37 : decide ((op : Int) ≤ 37) = false := decide_eq_false l37
  have l4 : ¬ (op : Int) ≤ 4 := by omega
  have dl4 : decide ((op : Int) ≤ 4) = false := decide_eq_false l4
  have HFT : Hid (∀ w2 w3, Only (fun _ => False) w w2 → Only (fun k => k = w.heap.size) w2 w3 → DocP w br bb n cb off T cs (exeF f n root R pc op rd (R r1) (R r2) im) (.returned (.agg (evC true 8 0))) w3) := fun w2 w3 h4 h3 => Or.inl ⟨8, 0, by rw [hop]; rfl, rfl, ⟨h3.os.trans h4.os, h3.tape.trans h4.tape, h3.output.trans h4.output, Nat.le_trans h4.size h3.size, fun k hk _ => by rw [h3.block k (Nat.lt_of_lt_of_le hk h4.size) (by omega), h4.block k hk (fun h => h)]⟩⟩
  have HTR := Vx.hid (fun wv => trapped_any 8 0 (by decide) wv)
  clear hop
  go_wp2_with fail
  refine (HTR.out _).mono ?_
  rintro e w8 ⟨rfl, h8⟩
  have hb2 : w8.heap[w.heap.size]? = some (.cells (evC false 0 0) 93 (0, 0)) := by rw [h8.block _ (lt_of_some HEB.out) (fun h => h)]; exact HEB.out
  have hfin := fun w3 h3 => HFT.out w8 w3 (HOW.out.trans h8) h3
  clear h8 HFT HTR HEB HIK HRF HDX HOW i0 i1 i2 i3 i4 hcp
  obtain ⟨s1, s2⟩ := ev_set (b := false) (c := 0) (t := 0) hb2 true 8 0
  have HFI := Vx.hid (hfin _ s2)
  have HK := Vx.hid (ev_read s1)
  obtain ⟨h0, h1, h2, hf, hl⟩ := ev_read hb2
  have f0 := hf 0
  have f1 := hf 1
  have f2 := hf 2
  clear hb2 hfin s1 s2 hf
  unfold evC at *
  go_wp2_with fail
  rw [show (((0 : Nat)) : Int) = 0 from rfl] at HK
  obtain ⟨k0, k1, k2, _, _⟩ := HK.out
  refine bodyPost_ret (v := .agg #[.bool true, .int .i64 (8), .int .u32 ((0 : Nat) : Int)]) ?_ rfl HFI.out
  simp [results, Tryz.results54, go_sem, k0, k1, k2]

set_option maxRecDepth 100000 in
set_option maxHeartbeats 4000000 in
theorem doc_ebreak {w : World} {br bb n cb off pc : Nat} {T : TypeId} {cs : Array Value} {R : Nat → Nat} {f : Nat → UInt8} (h : RefAt w br bb n f) (hd : DxAt w cb off T cs R pc) (hne : cb ≠ br ∧ cb ≠ bb) (hpc : pc < 4294967296) (hR : ∀ i, i < 32 → R i < 4294967296) (root : Int) (hm : pc % 4 = 0) (p : Nat) (hp : placeF f n root pc 4 0 = .ok p) (op rd r1 r2 : Nat) (im : Int) (hi : InsIs (dec (wordF f p : Nat)) op rd r1 r2 im) (hop : op = 40) :
    Calls Tryz.prog 54 #[.pointer (some ⟨br, 0, none⟩), .int .i64 root, .pointer (some ⟨cb, off, none⟩)] w fun e w' => DocP w br bb n cb off T cs (exeF f n root R pc op rd (R r1) (R r2) im) e w' := by
  have hcl : cb < w.heap.size := lt_of_some hd.b
  obtain ⟨w1, hw1⟩ : ∃ w1, w1 = w.alloc (.cells (evC false 0 0) 93) := ⟨_, rfl⟩
  have hO1 : Only (fun _ => False) w w1 := by rw [hw1]; exact (Only.refl _ w).alloc _
  have he1 : w1.heap[w.heap.size]? = some (.cells (evC false 0 0) 93 (0, 0)) := by rw [hw1]; exact heap_alloc_last w _
  have hcp := hd.cp
  have t1 : Int.tmod (pc : Int) 4 = 0 := by rw [Int.tmod_eq_emod_of_nonneg (by omega)]; omega
  have t2 : (pc : Int) % 4 = 0 := by omega
  have hpl : (walkF f n root pc 0).1 = p ∧ (walkF f n root pc 0).2 = -1 := by
    unfold placeF placeG at hp
    rw [if_neg (by omega)] at hp
    by_cases h1 : (walkF f n root pc 0).2 ≠ -1
    · rw [if_pos (show (walkF f n root pc ((0 : Nat) : Int)).2 ≠ -1 from h1)] at hp; cases hp
    · rw [if_neg (show ¬ (walkF f n root pc ((0 : Nat) : Int)).2 ≠ -1 from h1)] at hp
      injection hp with hp
      exact ⟨hp, by simpa using h1⟩
  have hpi := place_in (Or.inr (Or.inr rfl)) hp
  have HWK := Vx.hid (refWalk_any (h.only hO1 (fun h => h) (fun h => h)) root pc hpc 0)
  rw [hpl.1, hpl.2] at HWK
  have hwr : wordR f n (p : Int) = (wordF f p, 0) := by
    unfold wordR
    rw [if_pos ⟨by simp [insB]; omega, by rw [Int.tmod_eq_emod_of_nonneg (by omega)]; omega⟩, Int.toNat_natCast]
  have HWD : Hid (∀ wv, Only (fun _ => False) w wv → wv.heap[w.heap.size]? = some (.cells (evC false 0 0) 93 (0, 0)) → Calls Tryz.prog 30 #[.pointer (some ⟨br, 0, none⟩), .int .i64 (p : Int)] wv fun e w' => e = .returned (.tuple #[.int .i64 (wordF f p : Nat), .int .i64 0]) ∧ Hid (Only (fun _ => False) w w') ∧ Hid (w'.heap[w.heap.size]? = some (.cells (evC false 0 0) 93 (0, 0)))) := fun wv hv hev => by
    refine (refWord_any (h.only hv (fun h => h) (fun h => h)) (p : Int)).mono ?_
    rintro e w' ⟨rfl, ho⟩
    rw [hwr]
    exact ⟨rfl, hv.trans ho, by show _ = _; rw [ho.block _ (lt_of_some hev) (fun h => h)]; exact hev⟩
  have HDE : Hid (∀ wv, Only (fun _ => False) w wv → wv.heap[w.heap.size]? = some (.cells (evC false 0 0) 93 (0, 0)) → Calls Tryz.prog 78 #[.int .i64 (wordF f p : Nat)] wv fun e w' => e = .returned (.agg #[.int .i64 (op : Int), .int .i64 (rd : Int), .int .i64 (r1 : Int), .int .i64 (r2 : Int), .int .i64 im]) ∧ Hid (Only (fun _ => False) w w') ∧ Hid (w'.heap[w.heap.size]? = some (.cells (evC false 0 0) 93 (0, 0)))) := fun wv hv hev => by
    refine (refDecode_any (wordF f p) (wordF_lt f p) wv).mono ?_
    rintro e w' ⟨rfl, hb⟩
    rw [hi.e]
    exact ⟨rfl, hv.trans (only_of_below hb), by show _ = _; rw [(only_of_below hb).block _ (lt_of_some hev) (fun h => h)]; exact hev⟩
  have HWL := Vx.hid (wordF_lt f p)
  have HD := Vx.hid (fun wv (ho : Only (fun _ => False) w wv) => (⟨h.only ho (fun h => h) (fun h => h), hd.only ho (fun h => h)⟩ : RefAt wv br bb n f ∧ DxAt wv cb off T cs R pc))
  have HE1 := Vx.hid (⟨he1, hO1⟩ : _ ∧ _)
  have HPC := Vx.hid (⟨hpc, hm⟩ : _ ∧ _)
  have HNE := Vx.hid (⟨hne, hcl⟩ : _ ∧ _)
  have HINS := Vx.hid (⟨hi.lo, hi.hi, hi.hrd, hi.hr1, hi.hr2, hi.i0, hi.i1, hi.no⟩ : 1 ≤ op ∧ op ≤ 48 ∧ rd < 32 ∧ r1 < 32 ∧ r2 < 32 ∧ -1048576 ≤ im ∧ im ≤ 1048576 ∧ (((5 ≤ op ∧ op ≤ 10) ∨ (16 ≤ op ∧ op ≤ 18)) → rd = 0))
  have HAB : Hid (R r1 < 4294967296 ∧ R r2 < 4294967296) := ⟨hR r1 hi.hr1, hR r2 hi.hr2⟩
  have HOP := Vx.hid hop
  clear h hd hne hpc hR hm hp hpl hpi hwr he1 hO1 hi hop
  subst hw1
  go_enter Tryz.func54, Tryz.ntmps54
  go_wp2_with fail
  refine HWK.out.mono ?_
  rintro e w2 ⟨rfl, h2⟩
  have HO2 := Vx.hid (HE1.out.2.trans h2)
  have hb2e : w2.heap[w.heap.size]? = some (.cells (evC false 0 0) 93 (0, 0)) := by rw [h2.block _ (lt_of_some HE1.out.1) (fun h => h)]; exact HE1.out.1
  have HE2 := Vx.hid hb2e
  clear h2 hb2e HE1
  go_wp2_with fail
  refine (HWD.out _ HO2.out HE2.out).mono ?_
  rintro e w3 ⟨rfl, h3, HE3⟩
  clear HWD
  go_wp2_with fail
  refine (HDE.out _ h3.out HE3.out).mono ?_
  rintro e w4 ⟨rfl, h4, HE4⟩
  have hel : w.heap.size < w4.heap.size := lt_of_some HE4.out
  clear HDE
  go_wp2_with fail
  obtain ⟨W5, hW5⟩ : ∃ W5, W5 = w4.alloc (.cells #[.int .i64 (op : Int), .int .i64 (rd : Int), .int .i64 (r1 : Int), .int .i64 (r2 : Int), .int .i64 im] 129) := ⟨_, rfl⟩
  have hO5 : Only (fun _ => False) w W5 := by rw [hW5]; exact h4.out.alloc _
  have hik : W5.heap[w4.heap.size]? = some (.cells #[.int .i64 (op : Int), .int .i64 (rd : Int), .int .i64 (r1 : Int), .int .i64 (r2 : Int), .int .i64 im] 129 (0, 0)) := by rw [hW5]; exact heap_alloc_last w4 _
  have hge : w.heap.size < w4.heap.size := hel
  have heb : W5.heap[w.heap.size]? = some (.cells (evC false 0 0) 93 (0, 0)) := by rw [hW5, RowKit.Below.heap_alloc _ _ _ hel]; exact HE4.out
  rw [← hW5]
  obtain ⟨gi, hgi⟩ : ∃ gi, gi = w4.heap.size := ⟨_, rfl⟩
  rw [← hgi] at hik hge ⊢
  have HF : Hid (∀ wv, Only (fun _ => False) W5 wv → (wv.cell? ⟨gi, 0, none⟩ = some (.int .i64 (op : Int)) ∧ wv.cell? ⟨gi, 1, none⟩ = some (.int .i64 (rd : Int)) ∧ wv.cell? ⟨gi, 2, none⟩ = some (.int .i64 (r1 : Int)) ∧ wv.cell? ⟨gi, 3, none⟩ = some (.int .i64 (r2 : Int)) ∧ wv.cell? ⟨gi, 4, none⟩ = some (.int .i64 im)) ∧ wv.heap[gi]? = some (.cells #[.int .i64 (op : Int), .int .i64 (rd : Int), .int .i64 (r1 : Int), .int .i64 (r2 : Int), .int .i64 im] 129 (0, 0)) ∧ wv.heap[w.heap.size]? = some (.cells (evC false 0 0) 93 (0, 0)) ∧ RefAt wv br bb n f ∧ DxAt wv cb off T cs R pc ∧ Only (fun _ => False) w wv) := fun wv hv => by
    have hk2 : wv.heap[gi]? = some (.cells #[.int .i64 (op : Int), .int .i64 (rd : Int), .int .i64 (r1 : Int), .int .i64 (r2 : Int), .int .i64 im] 129 (0, 0)) := by rw [hv.block _ (lt_of_some hik) (fun h => h)]; exact hik
    exact ⟨⟨(cell_of_row _ _ 0 _ _ (0, 0) hk2).trans rfl, (cell_of_row _ _ 1 _ _ (0, 0) hk2).trans rfl, (cell_of_row _ _ 2 _ _ (0, 0) hk2).trans rfl, (cell_of_row _ _ 3 _ _ (0, 0) hk2).trans rfl, (cell_of_row _ _ 4 _ _ (0, 0) hk2).trans rfl⟩, hk2, by rw [hv.block _ (lt_of_some heb) (fun h => h)]; exact heb, (HD.out _ (hO5.trans hv)).1, (HD.out _ (hO5.trans hv)).2, hO5.trans hv⟩
  have HGE := Vx.hid hge
  have hx1 : 0 ≤ (r1 : Int) ∧ (r1 : Int) < 32 := by have := HINS.out.2.2.2.1; omega
  have hx2 : 0 ≤ (r2 : Int) ∧ (r2 : Int) < 32 := by have := HINS.out.2.2.2.2.1; omega
  obtain ⟨⟨i0, i1, i2, i3, i4⟩, q1, q2, q3, hdx5, q4⟩ := HF.out W5 (Only.refl _ _)
  clear q1 q2 q3 q4
  have hcr1 := hdx5.cr r1 HINS.out.2.2.2.1
  have hcr2 := hdx5.cr r2 HINS.out.2.2.2.2.1
  clear hik heb hge hW5 hgi hO5 hdx5 h3 h4 hel HO2 HE2 HE4 HE3 hcp hcl
  go_quiet (fail)
  obtain ⟨W6, hW6⟩ : ∃ W6, W6 = W5.drewN nq := ⟨_, rfl⟩
  have hO6 : Only (fun _ => False) W5 W6 := by rw [hW6]; exact (Only.refl _ W5).drewN nq
  rw [← hW6]
  clear i0 i1 i2 i3 i4 hcr1 hcr2 hW6
  obtain ⟨⟨i0, i1, i2, i3, i4⟩, q1, q2, q3, hdx6, q4⟩ := HF.out W6 hO6
  clear q1 q2 q3 q4
  have hcr2 := hdx6.cr r2 HINS.out.2.2.2.2.1
  have HO6 := Vx.hid hO6
  clear hdx6 hO6 nq
  go_wp2_with fail
  go_quiet (fail)
  obtain ⟨W7, hW7⟩ : ∃ W7, W7 = W6.drewN nq := ⟨_, rfl⟩
  have hO7 : Only (fun _ => False) W5 W7 := by rw [hW7]; exact HO6.out.drewN nq
  rw [← hW7]
  clear i0 i1 i2 i3 i4 hcr2 hW7 hx1 hx2 HO6
  obtain ⟨⟨i0, i1, i2, i3, i4⟩, hik, heb, hrf7, hdx7, hOw⟩ := HF.out W7 hO7
  have hcp := hdx7.cp
  have HEB := Vx.hid heb
  have HIK := Vx.hid hik
  have HRF := Vx.hid hrf7
  have HDX := Vx.hid hdx7
  have HOW := Vx.hid hOw
  clear hik heb hrf7 hdx7 hOw hO7 HF nq
  have hop := HOP.out
  have e0 := neqF (op : Int) 0 (by omega)
  have e39 := neqF (op : Int) 39 (by omega)
  have e40 : ((op : Int) == 40) = true := by rw [beq_iff_eq]; omega
  have e3 := neqF (op : Int) 3 (by omega)
  have e4 := neqF (op : Int) 4 (by omega)
  have e1 := neqF (op : Int) 1 (by omega)
  have e2 := neqF (op : Int) 2 (by omega)
  have n38 : ((op : Int) != 38) = true := by simp; omega
  have g11 : (11 : Int) ≤ (op : Int) := by omega
  have dg11 : decide ((11 : Int) ≤ (op : Int)) = true := decide_eq_true g11
  have g16 : (16 : Int) ≤ (op : Int) := by omega
  have dg16 : decide ((16 : Int) ≤ (op : Int)) = true := decide_eq_true g16
  have g5 : (5 : Int) ≤ (op : Int) := by omega
  have dg5 : decide ((5 : Int) ≤ (op : Int)) = true := decide_eq_true g5
  have g19 : (19 : Int) ≤ (op : Int) := by omega
  have dg19 : decide ((19 : Int) ≤ (op : Int)) = true := decide_eq_true g19
  have g28 : (28 : Int) ≤ (op : Int) := by omega
  have dg28 : decide ((28 : Int) ≤ (op : Int)) = true := decide_eq_true g28
  have g41 : ¬ (41 : Int) ≤ (op : Int) := by omega
  have dg41 : decide ((41 : Int) ≤ (op : Int)) = false := decide_eq_false g41
  have l15 : ¬ (op : Int) ≤ 15 := by omega
  have dl15 : decide ((op : Int) ≤ 15) = false := decide_eq_false l15
  have l18 : ¬ (op : Int) ≤ 18 := by omega
  have dl18 : decide ((op : Int) ≤ 18) = false := decide_eq_false l18
  have l10 : ¬ (op : Int) ≤ 10 := by omega
  have dl10 : decide ((op : Int) ≤ 10) = false := decide_eq_false l10
  have l27 : ¬ (op : Int) ≤ 27 := by omega
  have dl27 : decide ((op : Int) ≤ 27) = false := decide_eq_false l27
  have l37 : ¬ (op : Int) ≤ 37 := by omega
  have dl37 : decide ((op : Int) ≤ 37) = false := decide_eq_false l37
  have l4 : ¬ (op : Int) ≤ 4 := by omega
  have dl4 : decide ((op : Int) ≤ 4) = false := decide_eq_false l4
  have HFT : Hid (∀ w2 w3, Only (fun _ => False) w w2 → Only (fun k => k = w.heap.size) w2 w3 → DocP w br bb n cb off T cs (exeF f n root R pc op rd (R r1) (R r2) im) (.returned (.agg (evC true 3 pc))) w3) := fun w2 w3 h4 h3 => Or.inl ⟨3, pc, by rw [hop]; rfl, rfl, ⟨h3.os.trans h4.os, h3.tape.trans h4.tape, h3.output.trans h4.output, Nat.le_trans h4.size h3.size, fun k hk _ => by rw [h3.block k (Nat.lt_of_lt_of_le hk h4.size) (by omega), h4.block k hk (fun h => h)]⟩⟩
  have HTR := Vx.hid (fun wv => trapped_any 3 pc HPC.out.1 wv)
  clear hop
  go_wp2_with fail
  refine (HTR.out _).mono ?_
  rintro e w8 ⟨rfl, h8⟩
  have hb2 : w8.heap[w.heap.size]? = some (.cells (evC false 0 0) 93 (0, 0)) := by rw [h8.block _ (lt_of_some HEB.out) (fun h => h)]; exact HEB.out
  have hfin := fun w3 h3 => HFT.out w8 w3 (HOW.out.trans h8) h3
  clear h8 HFT HTR HEB HIK HRF HDX HOW i0 i1 i2 i3 i4 hcp
  obtain ⟨s1, s2⟩ := ev_set (b := false) (c := 0) (t := 0) hb2 true 3 pc
  have HFI := Vx.hid (hfin _ s2)
  have HK := Vx.hid (ev_read s1)
  obtain ⟨h0, h1, h2, hf, hl⟩ := ev_read hb2
  have f0 := hf 0
  have f1 := hf 1
  have f2 := hf 2
  clear hb2 hfin s1 s2 hf
  unfold evC at *
  go_wp2_with fail
  obtain ⟨k0, k1, k2, _, _⟩ := HK.out
  refine bodyPost_ret (v := .agg #[.bool true, .int .i64 (3), .int .u32 ((pc : Nat) : Int)]) ?_ rfl HFI.out
  simp [results, Tryz.results54, go_sem, k0, k1, k2]

end Go.Proofs.YtflmobffeeocdaaGreatDoor

/- Walks of the document's chapter 6: Step (made by gen_f5.py). -/
namespace Go.Proofs.YtflmobffeeocdaaGreatDoor
open Go.ChangeShapes Go.WideShapes Go.ChangeAt Go.RowKit
open Go.Vx
set_option linter.unusedVariables false

set_option maxRecDepth 100000 in
set_option maxHeartbeats 4000000 in
theorem doc_lui {w : World} {br bb n cb off pc : Nat} {T : TypeId} {cs : Array Value} {R : Nat → Nat} {f : Nat → UInt8} (h : RefAt w br bb n f) (hd : DxAt w cb off T cs R pc) (hne : cb ≠ br ∧ cb ≠ bb) (hpc : pc < 4294967296) (hR : ∀ i, i < 32 → R i < 4294967296) (root : Int) (hm : pc % 4 = 0) (p : Nat) (hp : placeF f n root pc 4 0 = .ok p) (op rd r1 r2 : Nat) (im : Int) (hi : InsIs (dec (wordF f p : Nat)) op rd r1 r2 im) (hop : op = 1) :
    Calls Tryz.prog 54 #[.pointer (some ⟨br, 0, none⟩), .int .i64 root, .pointer (some ⟨cb, off, none⟩)] w fun e w' => DocP w br bb n cb off T cs (exeF f n root R pc op rd (R r1) (R r2) im) e w' := by
  have hcl : cb < w.heap.size := lt_of_some hd.b
  obtain ⟨w1, hw1⟩ : ∃ w1, w1 = w.alloc (.cells (evC false 0 0) 93) := ⟨_, rfl⟩
  have hO1 : Only (fun _ => False) w w1 := by rw [hw1]; exact (Only.refl _ w).alloc _
  have he1 : w1.heap[w.heap.size]? = some (.cells (evC false 0 0) 93 (0, 0)) := by rw [hw1]; exact heap_alloc_last w _
  have hcp := hd.cp
  have t1 : Int.tmod (pc : Int) 4 = 0 := by rw [Int.tmod_eq_emod_of_nonneg (by omega)]; omega
  have t2 : (pc : Int) % 4 = 0 := by omega
  have hpl : (walkF f n root pc 0).1 = p ∧ (walkF f n root pc 0).2 = -1 := by
    unfold placeF placeG at hp
    rw [if_neg (by omega)] at hp
    by_cases h1 : (walkF f n root pc 0).2 ≠ -1
    · rw [if_pos (show (walkF f n root pc ((0 : Nat) : Int)).2 ≠ -1 from h1)] at hp; cases hp
    · rw [if_neg (show ¬ (walkF f n root pc ((0 : Nat) : Int)).2 ≠ -1 from h1)] at hp
      injection hp with hp
      exact ⟨hp, by simpa using h1⟩
  have hpi := place_in (Or.inr (Or.inr rfl)) hp
  have HWK := Vx.hid (refWalk_any (h.only hO1 (fun h => h) (fun h => h)) root pc hpc 0)
  rw [hpl.1, hpl.2] at HWK
  have hwr : wordR f n (p : Int) = (wordF f p, 0) := by
    unfold wordR
    rw [if_pos ⟨by simp [insB]; omega, by rw [Int.tmod_eq_emod_of_nonneg (by omega)]; omega⟩, Int.toNat_natCast]
  have HWD : Hid (∀ wv, Only (fun _ => False) w wv → wv.heap[w.heap.size]? = some (.cells (evC false 0 0) 93 (0, 0)) → Calls Tryz.prog 30 #[.pointer (some ⟨br, 0, none⟩), .int .i64 (p : Int)] wv fun e w' => e = .returned (.tuple #[.int .i64 (wordF f p : Nat), .int .i64 0]) ∧ Hid (Only (fun _ => False) w w') ∧ Hid (w'.heap[w.heap.size]? = some (.cells (evC false 0 0) 93 (0, 0)))) := fun wv hv hev => by
    refine (refWord_any (h.only hv (fun h => h) (fun h => h)) (p : Int)).mono ?_
    rintro e w' ⟨rfl, ho⟩
    rw [hwr]
    exact ⟨rfl, hv.trans ho, by show _ = _; rw [ho.block _ (lt_of_some hev) (fun h => h)]; exact hev⟩
  have HDE : Hid (∀ wv, Only (fun _ => False) w wv → wv.heap[w.heap.size]? = some (.cells (evC false 0 0) 93 (0, 0)) → Calls Tryz.prog 78 #[.int .i64 (wordF f p : Nat)] wv fun e w' => e = .returned (.agg #[.int .i64 (op : Int), .int .i64 (rd : Int), .int .i64 (r1 : Int), .int .i64 (r2 : Int), .int .i64 im]) ∧ Hid (Only (fun _ => False) w w') ∧ Hid (w'.heap[w.heap.size]? = some (.cells (evC false 0 0) 93 (0, 0)))) := fun wv hv hev => by
    refine (refDecode_any (wordF f p) (wordF_lt f p) wv).mono ?_
    rintro e w' ⟨rfl, hb⟩
    rw [hi.e]
    exact ⟨rfl, hv.trans (only_of_below hb), by show _ = _; rw [(only_of_below hb).block _ (lt_of_some hev) (fun h => h)]; exact hev⟩
  have HWL := Vx.hid (wordF_lt f p)
  have HD := Vx.hid (fun wv (ho : Only (fun _ => False) w wv) => (⟨h.only ho (fun h => h) (fun h => h), hd.only ho (fun h => h)⟩ : RefAt wv br bb n f ∧ DxAt wv cb off T cs R pc))
  have HE1 := Vx.hid (⟨he1, hO1⟩ : _ ∧ _)
  have HPC := Vx.hid (⟨hpc, hm⟩ : _ ∧ _)
  have HNE := Vx.hid (⟨hne, hcl⟩ : _ ∧ _)
  have HLB : Hid (bb < w.heap.size ∧ br < w.heap.size) := ⟨lt_of_some h.b, lt_of_some h.r⟩
  have HINS := Vx.hid (⟨hi.lo, hi.hi, hi.hrd, hi.hr1, hi.hr2, hi.i0, hi.i1, hi.no⟩ : 1 ≤ op ∧ op ≤ 48 ∧ rd < 32 ∧ r1 < 32 ∧ r2 < 32 ∧ -1048576 ≤ im ∧ im ≤ 1048576 ∧ (((5 ≤ op ∧ op ≤ 10) ∨ (16 ≤ op ∧ op ≤ 18)) → rd = 0))
  have HAB : Hid (R r1 < 4294967296 ∧ R r2 < 4294967296) := ⟨hR r1 hi.hr1, hR r2 hi.hr2⟩
  have HOP := Vx.hid hop
  clear h hd hne hpc hR hm hp hpl hpi hwr he1 hO1 hi hop
  subst hw1
  go_enter Tryz.func54, Tryz.ntmps54
  go_wp2_with fail
  refine HWK.out.mono ?_
  rintro e w2 ⟨rfl, h2⟩
  have HO2 := Vx.hid (HE1.out.2.trans h2)
  have hb2e : w2.heap[w.heap.size]? = some (.cells (evC false 0 0) 93 (0, 0)) := by rw [h2.block _ (lt_of_some HE1.out.1) (fun h => h)]; exact HE1.out.1
  have HE2 := Vx.hid hb2e
  clear h2 hb2e HE1
  go_wp2_with fail
  refine (HWD.out _ HO2.out HE2.out).mono ?_
  rintro e w3 ⟨rfl, h3, HE3⟩
  clear HWD
  go_wp2_with fail
  refine (HDE.out _ h3.out HE3.out).mono ?_
  rintro e w4 ⟨rfl, h4, HE4⟩
  have hel : w.heap.size < w4.heap.size := lt_of_some HE4.out
  clear HDE
  go_wp2_with fail
  obtain ⟨W5, hW5⟩ : ∃ W5, W5 = w4.alloc (.cells #[.int .i64 (op : Int), .int .i64 (rd : Int), .int .i64 (r1 : Int), .int .i64 (r2 : Int), .int .i64 im] 129) := ⟨_, rfl⟩
  have hO5 : Only (fun _ => False) w W5 := by rw [hW5]; exact h4.out.alloc _
  have hik : W5.heap[w4.heap.size]? = some (.cells #[.int .i64 (op : Int), .int .i64 (rd : Int), .int .i64 (r1 : Int), .int .i64 (r2 : Int), .int .i64 im] 129 (0, 0)) := by rw [hW5]; exact heap_alloc_last w4 _
  have hge : w.heap.size < w4.heap.size := hel
  have heb : W5.heap[w.heap.size]? = some (.cells (evC false 0 0) 93 (0, 0)) := by rw [hW5, RowKit.Below.heap_alloc _ _ _ hel]; exact HE4.out
  rw [← hW5]
  obtain ⟨gi, hgi⟩ : ∃ gi, gi = w4.heap.size := ⟨_, rfl⟩
  rw [← hgi] at hik hge ⊢
  have HF : Hid (∀ wv, Only (fun _ => False) W5 wv → (wv.cell? ⟨gi, 0, none⟩ = some (.int .i64 (op : Int)) ∧ wv.cell? ⟨gi, 1, none⟩ = some (.int .i64 (rd : Int)) ∧ wv.cell? ⟨gi, 2, none⟩ = some (.int .i64 (r1 : Int)) ∧ wv.cell? ⟨gi, 3, none⟩ = some (.int .i64 (r2 : Int)) ∧ wv.cell? ⟨gi, 4, none⟩ = some (.int .i64 im)) ∧ wv.heap[gi]? = some (.cells #[.int .i64 (op : Int), .int .i64 (rd : Int), .int .i64 (r1 : Int), .int .i64 (r2 : Int), .int .i64 im] 129 (0, 0)) ∧ wv.heap[w.heap.size]? = some (.cells (evC false 0 0) 93 (0, 0)) ∧ RefAt wv br bb n f ∧ DxAt wv cb off T cs R pc ∧ Only (fun _ => False) w wv) := fun wv hv => by
    have hk2 : wv.heap[gi]? = some (.cells #[.int .i64 (op : Int), .int .i64 (rd : Int), .int .i64 (r1 : Int), .int .i64 (r2 : Int), .int .i64 im] 129 (0, 0)) := by rw [hv.block _ (lt_of_some hik) (fun h => h)]; exact hik
    exact ⟨⟨(cell_of_row _ _ 0 _ _ (0, 0) hk2).trans rfl, (cell_of_row _ _ 1 _ _ (0, 0) hk2).trans rfl, (cell_of_row _ _ 2 _ _ (0, 0) hk2).trans rfl, (cell_of_row _ _ 3 _ _ (0, 0) hk2).trans rfl, (cell_of_row _ _ 4 _ _ (0, 0) hk2).trans rfl⟩, hk2, by rw [hv.block _ (lt_of_some heb) (fun h => h)]; exact heb, (HD.out _ (hO5.trans hv)).1, (HD.out _ (hO5.trans hv)).2, hO5.trans hv⟩
  have HGE := Vx.hid hge
  have hx1 : 0 ≤ (r1 : Int) ∧ (r1 : Int) < 32 := by have := HINS.out.2.2.2.1; omega
  have hx2 : 0 ≤ (r2 : Int) ∧ (r2 : Int) < 32 := by have := HINS.out.2.2.2.2.1; omega
  obtain ⟨⟨i0, i1, i2, i3, i4⟩, q1, q2, q3, hdx5, q4⟩ := HF.out W5 (Only.refl _ _)
  clear q1 q2 q3 q4
  have hcr1 := hdx5.cr r1 HINS.out.2.2.2.1
  have hcr2 := hdx5.cr r2 HINS.out.2.2.2.2.1
  clear hik heb hge hW5 hgi hO5 hdx5 h3 h4 hel HO2 HE2 HE4 HE3 hcp hcl
  go_quiet (fail)
  obtain ⟨W6, hW6⟩ : ∃ W6, W6 = W5.drewN nq := ⟨_, rfl⟩
  have hO6 : Only (fun _ => False) W5 W6 := by rw [hW6]; exact (Only.refl _ W5).drewN nq
  rw [← hW6]
  clear i0 i1 i2 i3 i4 hcr1 hcr2 hW6
  obtain ⟨⟨i0, i1, i2, i3, i4⟩, q1, q2, q3, hdx6, q4⟩ := HF.out W6 hO6
  clear q1 q2 q3 q4
  have hcr2 := hdx6.cr r2 HINS.out.2.2.2.2.1
  have HO6 := Vx.hid hO6
  clear hdx6 hO6 nq
  go_wp2_with fail
  go_quiet (fail)
  obtain ⟨W7, hW7⟩ : ∃ W7, W7 = W6.drewN nq := ⟨_, rfl⟩
  have hO7 : Only (fun _ => False) W5 W7 := by rw [hW7]; exact HO6.out.drewN nq
  rw [← hW7]
  clear i0 i1 i2 i3 i4 hcr2 hW7 hx1 hx2 HO6
  obtain ⟨⟨i0, i1, i2, i3, i4⟩, hik, heb, hrf7, hdx7, hOw⟩ := HF.out W7 hO7
  have hcp := hdx7.cp
  have HEB := Vx.hid heb
  have HIK := Vx.hid hik
  have HRF := Vx.hid hrf7
  have HDX := Vx.hid hdx7
  have HOW := Vx.hid hOw
  clear hik heb hrf7 hdx7 hOw hO7 HF nq
  have hop := HOP.out
  have e0 := neqF (op : Int) 0 (by omega)
  have e39 := neqF (op : Int) 39 (by omega)
  have e40 := neqF (op : Int) 40 (by omega)
  have e3 := neqF (op : Int) 3 (by omega)
  have e4 := neqF (op : Int) 4 (by omega)
  have e1 : ((op : Int) == 1) = true := by rw [beq_iff_eq]; omega
  have e2 := neqF (op : Int) 2 (by omega)
  have n38 : ((op : Int) != 38) = true := by simp; omega
  have g11 : ¬ (11 : Int) ≤ (op : Int) := by omega
  have dg11 : decide ((11 : Int) ≤ (op : Int)) = false := decide_eq_false g11
  have g16 : ¬ (16 : Int) ≤ (op : Int) := by omega
  have dg16 : decide ((16 : Int) ≤ (op : Int)) = false := decide_eq_false g16
  have g5 : ¬ (5 : Int) ≤ (op : Int) := by omega
  have dg5 : decide ((5 : Int) ≤ (op : Int)) = false := decide_eq_false g5
  have g19 : ¬ (19 : Int) ≤ (op : Int) := by omega
  have dg19 : decide ((19 : Int) ≤ (op : Int)) = false := decide_eq_false g19
  have g28 : ¬ (28 : Int) ≤ (op : Int) := by omega
  have dg28 : decide ((28 : Int) ≤ (op : Int)) = false := decide_eq_false g28
  have g41 : ¬ (41 : Int) ≤ (op : Int) := by omega
  have dg41 : decide ((41 : Int) ≤ (op : Int)) = false := decide_eq_false g41
  have l15 : (op : Int) ≤ 15 := by omega
  have dl15 : decide ((op : Int) ≤ 15) = true := decide_eq_true l15
  have l18 : (op : Int) ≤ 18 := by omega
  have dl18 : decide ((op : Int) ≤ 18) = true := decide_eq_true l18
  have l10 : (op : Int) ≤ 10 := by omega
  have dl10 : decide ((op : Int) ≤ 10) = true := decide_eq_true l10
  have l27 : (op : Int) ≤ 27 := by omega
  have dl27 : decide ((op : Int) ≤ 27) = true := decide_eq_true l27
  have l37 : (op : Int) ≤ 37 := by omega
  have dl37 : decide ((op : Int) ≤ 37) = true := decide_eq_true l37
  have l4 : (op : Int) ≤ 4 := by omega
  have dl4 : decide ((op : Int) ≤ 4) = true := decide_eq_true l4
  have hpx : IntKind.i64.wrap ((pc : Int) + 4) = (pc : Int) + 4 := by have := HPC.out.1; rw [IntKind.wrap_i64]; omega
  obtain ⟨nx, hnx⟩ : ∃ nx, nx = m32 ((pc : Int) + 4) := ⟨_, rfl⟩
  have HWP : Hid (∀ wv, Calls Tryz.prog 80 #[.int .i64 ((pc : Int) + 4)] wv fun e w' => e = .returned (.int .i64 (nx : Int)) ∧ w' = wv) := fun wv => by rw [hnx]; exact refWrap_any _ wv
  have hn4 : nx % 4 = 0 := by rw [hnx]; exact next_mod HPC.out.2
  have him : IntKind.i64.wrap (im * 4096) = im * 4096 := by have := HINS.out.2.2.2.2.2.1; have := HINS.out.2.2.2.2.2.2.1; rw [IntKind.wrap_i64]; omega
  obtain ⟨uv, huv⟩ : ∃ uv, uv = m32 (im * 4096) := ⟨_, rfl⟩
  have HSU : Hid (∀ wv, Calls Tryz.prog 80 #[.int .i64 (im * 4096)] wv fun e w' => e = .returned (.int .i64 (uv : Int)) ∧ w' = wv) := fun wv => by rw [huv]; exact refWrap_any _ wv
  have HEX : Hid (exeF f n root R pc op rd (R r1) (R r2) im = .ok (f, Vx.setR R rd (uv), nx)) := by
    show _ = _
    rw [hop, hnx, huv]; exact exe_lui HPC.out.2
  have HFIN : Hid (∀ w3 cs3, RefAt w3 br bb n f → DxAt w3 cb off T cs3 (Vx.setR R rd (uv)) nx → Beside cs cs3 off → Only (fun k => k = cb) w w3 → ∀ w4, Only (fun k => k = w.heap.size) w3 w4 → DocP w br bb n cb off T cs (exeF f n root R pc op rd (R r1) (R r2) im) (.returned (.agg (evC false 0 0))) w4) := fun w3 cs3 hr3 hd3 hb3 ho3 w4 h4 => by
    have hbl : bb < w.heap.size := HLB.out.1
    have hrl : br < w.heap.size := HLB.out.2
    have hclw := HNE.out.2
    refine Or.inr ⟨f, Vx.setR R rd (uv), nx, HEX.out, rfl, hr3.only h4 (by omega) (by omega), ⟨cs3, hd3.only h4 (by omega), hb3⟩, ?_⟩
    exact ⟨h4.os.trans ho3.os, h4.tape.trans ho3.tape, h4.output.trans ho3.output, Nat.le_trans ho3.size h4.size, fun k hk hn => by rw [h4.block k (Nat.lt_of_lt_of_le hk ho3.size) (by omega), ho3.block k hk (fun hx => hn (Or.inr hx))]⟩
  have tn1 : Int.tmod (nx : Int) 4 = 0 := by rw [Int.tmod_eq_emod_of_nonneg (by omega)]; omega
  have tn2 : (nx : Int) % 4 = 0 := by omega
  clear hnx hn4
  clear huv
  clear hop
  by_cases hr0 : rd = 0
  · subst hr0
    obtain ⟨cs5, hdx5, hbs5⟩ := HDX.out.setPc nx
    have hO5 : Only (fun k => k = cb) W7 (W7.setCell ⟨cb, off + 32, none⟩ (.int .i64 (nx : Nat))) := only_cell W7 ⟨cb, off + 32, none⟩ _
    have hfin := HFIN.out _ cs5 (HRF.out.only hO5 (fun e => HNE.out.1.1 e.symm) (fun e => HNE.out.1.2 e.symm)) (by rw [setR_zero]; exact hdx5) hbs5 ((HOW.out.mono (fun _ _ h => h.elim)).trans hO5)
    have hclw := HNE.out.2
    have hb2 : (W7.setCell ⟨cb, off + 32, none⟩ (.int .i64 (nx : Nat))).heap[w.heap.size]? = some (.cells (evC false 0 0) 93 (0, 0)) := by
      rw [hO5.block _ (lt_of_some HEB.out) (by omega)]; exact HEB.out
    obtain ⟨s1, s2⟩ := ev_set (b := false) (c := 0) (t := 0) hb2 false 0 0
    have HFI := Vx.hid (hfin _ s2)
    have HK := Vx.hid (ev_read s1)
    obtain ⟨h0, h1, h2, hf, hl⟩ := ev_read hb2
    have f0 := hf 0
    have f1 := hf 1
    have f2 := hf 2
    have hfp := HDX.out.fz (off + 32)
    have hcbl : cb < W7.heap.size := World.block_lt_of_cell? W7 _ hcp
    clear hb2 hfin s1 s2 hf hdx5 hbs5 hO5 HFIN HRF HDX HIK HEB HOW HLB HINS HAB HPC HNE HGE HEX hclw
    go_wp2_with fail
    refine (HWP.out _).mono ?_
    rintro e w' ⟨rfl, h⟩
    have h2 := h.symm; clear h; subst h2
    go_wp2_with fail
    refine (HSU.out _).mono ?_
    rintro e w' ⟨rfl, h⟩
    have h2 := h.symm; clear h; subst h2
    go_wp2_with fail
    unfold evC at HFI
    rw [show (((0 : Nat)) : Int) = 0 from rfl] at HK
    obtain ⟨k0, k1, k2, _, _⟩ := HK.out
    refine bodyPost_ret (v := .agg #[.bool false, .int .i64 0, .int .u32 ((0 : Nat) : Int)]) ?_ rfl HFI.out
    simp [results, Tryz.results54, go_sem, k0, k1, k2]
  · obtain ⟨cs4, hdx4, hbs4⟩ := HDX.out.setR rd (uv) HINS.out.2.2.1 hr0
    obtain ⟨cs5, hdx5, hbs5⟩ := hdx4.setPc nx
    obtain ⟨w3, hw3⟩ : ∃ w3, w3 = ((W7.setCell ⟨cb, off + rd, none⟩ (.int .i64 (uv : Nat))).setCell ⟨cb, off + 32, none⟩ (.int .i64 (nx : Nat))) := ⟨_, rfl⟩
    have hO3 : Only (fun k => k = cb) W7 w3 := by rw [hw3]; exact Only.setCell (S := fun k => k = cb) (p := ⟨cb, off + 32, none⟩) (Only.setCell (S := fun k => k = cb) (p := ⟨cb, off + rd, none⟩) (Only.refl _ W7) (Or.inl rfl) _) (Or.inl rfl) _
    rw [← hw3] at hdx5
    have hfin := HFIN.out w3 cs5 (HRF.out.only hO3 (fun e => HNE.out.1.1 e.symm) (fun e => HNE.out.1.2 e.symm)) hdx5 (hbs4.trans hbs5) ((HOW.out.mono (fun _ _ h => h.elim)).trans hO3)
    have hclw := HNE.out.2
    have hb2 : w3.heap[w.heap.size]? = some (.cells (evC false 0 0) 93 (0, 0)) := by
      rw [hO3.block _ (lt_of_some HEB.out) (by omega)]; exact HEB.out
    obtain ⟨s1, s2⟩ := ev_set (b := false) (c := 0) (t := 0) hb2 false 0 0
    have HFI := Vx.hid (hfin _ s2.drew)
    have HK := Vx.hid (ev_read s1)
    have HB2 := Vx.hid (ev_read hb2)
    have hcr2 := HDX.out.cr rd HINS.out.2.2.1
    have hfr2 := HDX.out.fz (off + rd)
    have hfp := HDX.out.fz (off + 32)
    have HRB : Hid ((0 : Int) < (rd : Int) ∧ 0 ≤ (rd : Int) ∧ (rd : Int) < 32) := by have := HINS.out.2.2.1; show _ ∧ _ ∧ _; omega
    have hcbl : cb < W7.heap.size := World.block_lt_of_cell? W7 _ hcp
    have hcp2 : ∀ v, (W7.setCell ⟨cb, off + rd, none⟩ v).cell? ⟨cb, off + 32, none⟩ = some (.int .i64 (pc : Int)) := fun v => by
      rw [World.cell?_setCell_other _ _ _ _ (by intro e; injection e with _ e2; have := HINS.out.2.2.1; omega)]; exact hcp
    have hgc : ¬ gi = cb := by have := HGE.out; omega
    have hgc2 : ¬ cb = gi := by have := HGE.out; omega
    clear hb2 hfin s1 s2 hdx4 hdx5 hbs4 hbs5 hO3 HFIN HRF HDX HIK HEB HOW HLB HINS HAB HPC HNE HGE HEX hclw hr0
    have hrb := HRB.out.1
    have drb : decide ((0 : Int) < (rd : Int)) = true := decide_eq_true hrb
    have hidx := HRB.out.2
    go_wp2_with fail
    refine (HWP.out _).mono ?_
    rintro e w' ⟨rfl, h⟩
    have h2 := h.symm; clear h; subst h2
    go_wp2_with fail
    refine (HSU.out _).mono ?_
    rintro e w' ⟨rfl, h⟩
    have h2 := h.symm; clear h; subst h2
    go_wp2_with fail
    go_region
    all_goals
      obtain ⟨h0, h1, h2, hf, hl⟩ := HB2.out
      have f0 := hf 0
      have f1 := hf 1
      have f2 := hf 2
      rw [hw3] at h0 h1 h2 f0 f1 f2 hl HFI HK
      clear hf HB2 hw3
      unfold evC at *
      go_wp2_with fail
      rw [show (((0 : Nat)) : Int) = 0 from rfl] at HK
      obtain ⟨k0, k1, k2, _, _⟩ := HK.out
      refine bodyPost_ret (v := .agg #[.bool false, .int .i64 0, .int .u32 ((0 : Nat) : Int)]) ?_ rfl HFI.out
      simp [results, Tryz.results54, go_sem, k0, k1, k2]

end Go.Proofs.YtflmobffeeocdaaGreatDoor

/- Walks of the document's chapter 6: Step (made by gen_f5.py). -/
namespace Go.Proofs.YtflmobffeeocdaaGreatDoor
open Go.ChangeShapes Go.WideShapes Go.ChangeAt Go.RowKit
open Go.Vx
set_option linter.unusedVariables false

set_option maxRecDepth 100000 in
set_option maxHeartbeats 4000000 in
theorem doc_goes {w : World} {br bb n cb off pc : Nat} {T : TypeId} {cs : Array Value} {R : Nat → Nat} {f : Nat → UInt8} (h : RefAt w br bb n f) (hd : DxAt w cb off T cs R pc) (hne : cb ≠ br ∧ cb ≠ bb) (hpc : pc < 4294967296) (hR : ∀ i, i < 32 → R i < 4294967296) (root : Int) (hm : pc % 4 = 0) (p : Nat) (hp : placeF f n root pc 4 0 = .ok p) (op rd r1 r2 : Nat) (im : Int) (hi : InsIs (dec (wordF f p : Nat)) op rd r1 r2 im) (hop : 5 ≤ op ∧ op ≤ 10) :
    Calls Tryz.prog 54 #[.pointer (some ⟨br, 0, none⟩), .int .i64 root, .pointer (some ⟨cb, off, none⟩)] w fun e w' => DocP w br bb n cb off T cs (exeF f n root R pc op rd (R r1) (R r2) im) e w' := by
  have hcl : cb < w.heap.size := lt_of_some hd.b
  obtain ⟨w1, hw1⟩ : ∃ w1, w1 = w.alloc (.cells (evC false 0 0) 93) := ⟨_, rfl⟩
  have hO1 : Only (fun _ => False) w w1 := by rw [hw1]; exact (Only.refl _ w).alloc _
  have he1 : w1.heap[w.heap.size]? = some (.cells (evC false 0 0) 93 (0, 0)) := by rw [hw1]; exact heap_alloc_last w _
  have hcp := hd.cp
  have t1 : Int.tmod (pc : Int) 4 = 0 := by rw [Int.tmod_eq_emod_of_nonneg (by omega)]; omega
  have t2 : (pc : Int) % 4 = 0 := by omega
  have hpl : (walkF f n root pc 0).1 = p ∧ (walkF f n root pc 0).2 = -1 := by
    unfold placeF placeG at hp
    rw [if_neg (by omega)] at hp
    by_cases h1 : (walkF f n root pc 0).2 ≠ -1
    · rw [if_pos (show (walkF f n root pc ((0 : Nat) : Int)).2 ≠ -1 from h1)] at hp; cases hp
    · rw [if_neg (show ¬ (walkF f n root pc ((0 : Nat) : Int)).2 ≠ -1 from h1)] at hp
      injection hp with hp
      exact ⟨hp, by simpa using h1⟩
  have hpi := place_in (Or.inr (Or.inr rfl)) hp
  have HWK := Vx.hid (refWalk_any (h.only hO1 (fun h => h) (fun h => h)) root pc hpc 0)
  rw [hpl.1, hpl.2] at HWK
  have hwr : wordR f n (p : Int) = (wordF f p, 0) := by
    unfold wordR
    rw [if_pos ⟨by simp [insB]; omega, by rw [Int.tmod_eq_emod_of_nonneg (by omega)]; omega⟩, Int.toNat_natCast]
  have HWD : Hid (∀ wv, Only (fun _ => False) w wv → wv.heap[w.heap.size]? = some (.cells (evC false 0 0) 93 (0, 0)) → Calls Tryz.prog 30 #[.pointer (some ⟨br, 0, none⟩), .int .i64 (p : Int)] wv fun e w' => e = .returned (.tuple #[.int .i64 (wordF f p : Nat), .int .i64 0]) ∧ Hid (Only (fun _ => False) w w') ∧ Hid (w'.heap[w.heap.size]? = some (.cells (evC false 0 0) 93 (0, 0)))) := fun wv hv hev => by
    refine (refWord_any (h.only hv (fun h => h) (fun h => h)) (p : Int)).mono ?_
    rintro e w' ⟨rfl, ho⟩
    rw [hwr]
    exact ⟨rfl, hv.trans ho, by show _ = _; rw [ho.block _ (lt_of_some hev) (fun h => h)]; exact hev⟩
  have HDE : Hid (∀ wv, Only (fun _ => False) w wv → wv.heap[w.heap.size]? = some (.cells (evC false 0 0) 93 (0, 0)) → Calls Tryz.prog 78 #[.int .i64 (wordF f p : Nat)] wv fun e w' => e = .returned (.agg #[.int .i64 (op : Int), .int .i64 (rd : Int), .int .i64 (r1 : Int), .int .i64 (r2 : Int), .int .i64 im]) ∧ Hid (Only (fun _ => False) w w') ∧ Hid (w'.heap[w.heap.size]? = some (.cells (evC false 0 0) 93 (0, 0)))) := fun wv hv hev => by
    refine (refDecode_any (wordF f p) (wordF_lt f p) wv).mono ?_
    rintro e w' ⟨rfl, hb⟩
    rw [hi.e]
    exact ⟨rfl, hv.trans (only_of_below hb), by show _ = _; rw [(only_of_below hb).block _ (lt_of_some hev) (fun h => h)]; exact hev⟩
  have HWL := Vx.hid (wordF_lt f p)
  have HD := Vx.hid (fun wv (ho : Only (fun _ => False) w wv) => (⟨h.only ho (fun h => h) (fun h => h), hd.only ho (fun h => h)⟩ : RefAt wv br bb n f ∧ DxAt wv cb off T cs R pc))
  have HE1 := Vx.hid (⟨he1, hO1⟩ : _ ∧ _)
  have HPC := Vx.hid (⟨hpc, hm⟩ : _ ∧ _)
  have HNE := Vx.hid (⟨hne, hcl⟩ : _ ∧ _)
  have HLB : Hid (bb < w.heap.size ∧ br < w.heap.size) := ⟨lt_of_some h.b, lt_of_some h.r⟩
  have HINS := Vx.hid (⟨hi.lo, hi.hi, hi.hrd, hi.hr1, hi.hr2, hi.i0, hi.i1, hi.no⟩ : 1 ≤ op ∧ op ≤ 48 ∧ rd < 32 ∧ r1 < 32 ∧ r2 < 32 ∧ -1048576 ≤ im ∧ im ≤ 1048576 ∧ (((5 ≤ op ∧ op ≤ 10) ∨ (16 ≤ op ∧ op ≤ 18)) → rd = 0))
  have HAB : Hid (R r1 < 4294967296 ∧ R r2 < 4294967296) := ⟨hR r1 hi.hr1, hR r2 hi.hr2⟩
  have HOP := Vx.hid hop
  clear h hd hne hpc hR hm hp hpl hpi hwr he1 hO1 hi hop
  subst hw1
  go_enter Tryz.func54, Tryz.ntmps54
  go_wp2_with fail
  refine HWK.out.mono ?_
  rintro e w2 ⟨rfl, h2⟩
  have HO2 := Vx.hid (HE1.out.2.trans h2)
  have hb2e : w2.heap[w.heap.size]? = some (.cells (evC false 0 0) 93 (0, 0)) := by rw [h2.block _ (lt_of_some HE1.out.1) (fun h => h)]; exact HE1.out.1
  have HE2 := Vx.hid hb2e
  clear h2 hb2e HE1
  go_wp2_with fail
  refine (HWD.out _ HO2.out HE2.out).mono ?_
  rintro e w3 ⟨rfl, h3, HE3⟩
  clear HWD
  go_wp2_with fail
  refine (HDE.out _ h3.out HE3.out).mono ?_
  rintro e w4 ⟨rfl, h4, HE4⟩
  have hel : w.heap.size < w4.heap.size := lt_of_some HE4.out
  clear HDE
  go_wp2_with fail
  obtain ⟨W5, hW5⟩ : ∃ W5, W5 = w4.alloc (.cells #[.int .i64 (op : Int), .int .i64 (rd : Int), .int .i64 (r1 : Int), .int .i64 (r2 : Int), .int .i64 im] 129) := ⟨_, rfl⟩
  have hO5 : Only (fun _ => False) w W5 := by rw [hW5]; exact h4.out.alloc _
  have hik : W5.heap[w4.heap.size]? = some (.cells #[.int .i64 (op : Int), .int .i64 (rd : Int), .int .i64 (r1 : Int), .int .i64 (r2 : Int), .int .i64 im] 129 (0, 0)) := by rw [hW5]; exact heap_alloc_last w4 _
  have hge : w.heap.size < w4.heap.size := hel
  have heb : W5.heap[w.heap.size]? = some (.cells (evC false 0 0) 93 (0, 0)) := by rw [hW5, RowKit.Below.heap_alloc _ _ _ hel]; exact HE4.out
  rw [← hW5]
  obtain ⟨gi, hgi⟩ : ∃ gi, gi = w4.heap.size := ⟨_, rfl⟩
  rw [← hgi] at hik hge ⊢
  have HF : Hid (∀ wv, Only (fun _ => False) W5 wv → (wv.cell? ⟨gi, 0, none⟩ = some (.int .i64 (op : Int)) ∧ wv.cell? ⟨gi, 1, none⟩ = some (.int .i64 (rd : Int)) ∧ wv.cell? ⟨gi, 2, none⟩ = some (.int .i64 (r1 : Int)) ∧ wv.cell? ⟨gi, 3, none⟩ = some (.int .i64 (r2 : Int)) ∧ wv.cell? ⟨gi, 4, none⟩ = some (.int .i64 im)) ∧ wv.heap[gi]? = some (.cells #[.int .i64 (op : Int), .int .i64 (rd : Int), .int .i64 (r1 : Int), .int .i64 (r2 : Int), .int .i64 im] 129 (0, 0)) ∧ wv.heap[w.heap.size]? = some (.cells (evC false 0 0) 93 (0, 0)) ∧ RefAt wv br bb n f ∧ DxAt wv cb off T cs R pc ∧ Only (fun _ => False) w wv) := fun wv hv => by
    have hk2 : wv.heap[gi]? = some (.cells #[.int .i64 (op : Int), .int .i64 (rd : Int), .int .i64 (r1 : Int), .int .i64 (r2 : Int), .int .i64 im] 129 (0, 0)) := by rw [hv.block _ (lt_of_some hik) (fun h => h)]; exact hik
    exact ⟨⟨(cell_of_row _ _ 0 _ _ (0, 0) hk2).trans rfl, (cell_of_row _ _ 1 _ _ (0, 0) hk2).trans rfl, (cell_of_row _ _ 2 _ _ (0, 0) hk2).trans rfl, (cell_of_row _ _ 3 _ _ (0, 0) hk2).trans rfl, (cell_of_row _ _ 4 _ _ (0, 0) hk2).trans rfl⟩, hk2, by rw [hv.block _ (lt_of_some heb) (fun h => h)]; exact heb, (HD.out _ (hO5.trans hv)).1, (HD.out _ (hO5.trans hv)).2, hO5.trans hv⟩
  have HGE := Vx.hid hge
  have hx1 : 0 ≤ (r1 : Int) ∧ (r1 : Int) < 32 := by have := HINS.out.2.2.2.1; omega
  have hx2 : 0 ≤ (r2 : Int) ∧ (r2 : Int) < 32 := by have := HINS.out.2.2.2.2.1; omega
  obtain ⟨⟨i0, i1, i2, i3, i4⟩, q1, q2, q3, hdx5, q4⟩ := HF.out W5 (Only.refl _ _)
  clear q1 q2 q3 q4
  have hcr1 := hdx5.cr r1 HINS.out.2.2.2.1
  have hcr2 := hdx5.cr r2 HINS.out.2.2.2.2.1
  clear hik heb hge hW5 hgi hO5 hdx5 h3 h4 hel HO2 HE2 HE4 HE3 hcp hcl
  go_quiet (fail)
  obtain ⟨W6, hW6⟩ : ∃ W6, W6 = W5.drewN nq := ⟨_, rfl⟩
  have hO6 : Only (fun _ => False) W5 W6 := by rw [hW6]; exact (Only.refl _ W5).drewN nq
  rw [← hW6]
  clear i0 i1 i2 i3 i4 hcr1 hcr2 hW6
  obtain ⟨⟨i0, i1, i2, i3, i4⟩, q1, q2, q3, hdx6, q4⟩ := HF.out W6 hO6
  clear q1 q2 q3 q4
  have hcr2 := hdx6.cr r2 HINS.out.2.2.2.2.1
  have HO6 := Vx.hid hO6
  clear hdx6 hO6 nq
  go_wp2_with fail
  go_quiet (fail)
  obtain ⟨W7, hW7⟩ : ∃ W7, W7 = W6.drewN nq := ⟨_, rfl⟩
  have hO7 : Only (fun _ => False) W5 W7 := by rw [hW7]; exact HO6.out.drewN nq
  rw [← hW7]
  clear i0 i1 i2 i3 i4 hcr2 hW7 hx1 hx2 HO6
  obtain ⟨⟨i0, i1, i2, i3, i4⟩, hik, heb, hrf7, hdx7, hOw⟩ := HF.out W7 hO7
  have hcp := hdx7.cp
  have HEB := Vx.hid heb
  have HIK := Vx.hid hik
  have HRF := Vx.hid hrf7
  have HDX := Vx.hid hdx7
  have HOW := Vx.hid hOw
  clear hik heb hrf7 hdx7 hOw hO7 HF nq
  have hop := HOP.out
  have e0 := neqF (op : Int) 0 (by omega)
  have e39 := neqF (op : Int) 39 (by omega)
  have e40 := neqF (op : Int) 40 (by omega)
  have e3 := neqF (op : Int) 3 (by omega)
  have e4 := neqF (op : Int) 4 (by omega)
  have e1 := neqF (op : Int) 1 (by omega)
  have e2 := neqF (op : Int) 2 (by omega)
  have n38 : ((op : Int) != 38) = true := by simp; omega
  have g11 : ¬ (11 : Int) ≤ (op : Int) := by omega
  have dg11 : decide ((11 : Int) ≤ (op : Int)) = false := decide_eq_false g11
  have g16 : ¬ (16 : Int) ≤ (op : Int) := by omega
  have dg16 : decide ((16 : Int) ≤ (op : Int)) = false := decide_eq_false g16
  have g5 : (5 : Int) ≤ (op : Int) := by omega
  have dg5 : decide ((5 : Int) ≤ (op : Int)) = true := decide_eq_true g5
  have g19 : ¬ (19 : Int) ≤ (op : Int) := by omega
  have dg19 : decide ((19 : Int) ≤ (op : Int)) = false := decide_eq_false g19
  have g28 : ¬ (28 : Int) ≤ (op : Int) := by omega
  have dg28 : decide ((28 : Int) ≤ (op : Int)) = false := decide_eq_false g28
  have g41 : ¬ (41 : Int) ≤ (op : Int) := by omega
  have dg41 : decide ((41 : Int) ≤ (op : Int)) = false := decide_eq_false g41
  have l15 : (op : Int) ≤ 15 := by omega
  have dl15 : decide ((op : Int) ≤ 15) = true := decide_eq_true l15
  have l18 : (op : Int) ≤ 18 := by omega
  have dl18 : decide ((op : Int) ≤ 18) = true := decide_eq_true l18
  have l10 : (op : Int) ≤ 10 := by omega
  have dl10 : decide ((op : Int) ≤ 10) = true := decide_eq_true l10
  have l27 : (op : Int) ≤ 27 := by omega
  have dl27 : decide ((op : Int) ≤ 27) = true := decide_eq_true l27
  have l37 : (op : Int) ≤ 37 := by omega
  have dl37 : decide ((op : Int) ≤ 37) = true := decide_eq_true l37
  have l4 : ¬ (op : Int) ≤ 4 := by omega
  have dl4 : decide ((op : Int) ≤ 4) = false := decide_eq_false l4
  have hpx : IntKind.i64.wrap ((pc : Int) + 4) = (pc : Int) + 4 := by have := HPC.out.1; rw [IntKind.wrap_i64]; omega
  obtain ⟨nx, hnx⟩ : ∃ nx, nx = m32 ((pc : Int) + 4) := ⟨_, rfl⟩
  have HWP : Hid (∀ wv, Calls Tryz.prog 80 #[.int .i64 ((pc : Int) + 4)] wv fun e w' => e = .returned (.int .i64 (nx : Int)) ∧ w' = wv) := fun wv => by rw [hnx]; exact refWrap_any _ wv
  have hn4 : nx % 4 = 0 := by rw [hnx]; exact next_mod HPC.out.2
  have HTK := Vx.hid (fun wv => refTakes_any op (R r1) (R r2) (by omega) (by omega) HAB.out.1 HAB.out.2 wv)
  have hqw : IntKind.i64.wrap ((pc : Int) + im) = (pc : Int) + im := by have := HPC.out.1; have := HINS.out.2.2.2.2.2.1; have := HINS.out.2.2.2.2.2.2.1; rw [IntKind.wrap_i64]; omega
  obtain ⟨dst, hdst⟩ : ∃ dst, dst = m32 ((pc : Int) + im) := ⟨_, rfl⟩
  have HQW : Hid (∀ wv, Calls Tryz.prog 80 #[.int .i64 ((pc : Int) + im)] wv fun e w' => e = .returned (.int .i64 (dst : Int)) ∧ w' = wv) := fun wv => by rw [hdst]; exact refWrap_any _ wv
  have HDL : Hid (dst < 4294967296) := by show _ < _; rw [hdst]; exact m32_lt _
  have HEG : Hid (takesF op (R r1) (R r2) = true → ∃ v, exeF f n root R pc op rd (R r1) (R r2) im = plainG f R 0 v dst) := fun ht => by rw [hdst]; exact exe_goes hop ht
  have HES : Hid (takesF op (R r1) (R r2) = false → exeF f n root R pc op rd (R r1) (R r2) im = .ok (f, R, nx)) := fun ht => by rw [hnx]; exact exe_stays HPC.out.2 hop ht
  clear hdst
  cases ht : takesF op (R r1) (R r2)
  · rw [ht] at HTK
    have HEX : Hid (exeF f n root R pc op rd (R r1) (R r2) im = .ok (f, R, nx)) := by
      show _ = _
      exact HES.out ht
    have HFIN : Hid (∀ w3 cs3, RefAt w3 br bb n f → DxAt w3 cb off T cs3 (R) nx → Beside cs cs3 off → Only (fun k => k = cb) w w3 → ∀ w4, Only (fun k => k = w.heap.size) w3 w4 → DocP w br bb n cb off T cs (exeF f n root R pc op rd (R r1) (R r2) im) (.returned (.agg (evC false 0 0))) w4) := fun w3 cs3 hr3 hd3 hb3 ho3 w4 h4 => by
      have hbl : bb < w.heap.size := HLB.out.1
      have hrl : br < w.heap.size := HLB.out.2
      have hclw := HNE.out.2
      refine Or.inr ⟨f, R, nx, HEX.out, rfl, hr3.only h4 (by omega) (by omega), ⟨cs3, hd3.only h4 (by omega), hb3⟩, ?_⟩
      exact ⟨h4.os.trans ho3.os, h4.tape.trans ho3.tape, h4.output.trans ho3.output, Nat.le_trans ho3.size h4.size, fun k hk hn => by rw [h4.block k (Nat.lt_of_lt_of_le hk ho3.size) (by omega), ho3.block k hk (fun hx => hn (Or.inr hx))]⟩
    have tn1 : Int.tmod (nx : Int) 4 = 0 := by rw [Int.tmod_eq_emod_of_nonneg (by omega)]; omega
    have tn2 : (nx : Int) % 4 = 0 := by omega
    clear hnx hn4
    clear HES HEG HDL ht
    clear hop
    obtain ⟨cs5, hdx5, hbs5⟩ := HDX.out.setPc nx
    have hO5 : Only (fun k => k = cb) W7 (W7.setCell ⟨cb, off + 32, none⟩ (.int .i64 (nx : Nat))) := only_cell W7 ⟨cb, off + 32, none⟩ _
    have hfin := HFIN.out _ cs5 (HRF.out.only hO5 (fun e => HNE.out.1.1 e.symm) (fun e => HNE.out.1.2 e.symm)) hdx5 hbs5 ((HOW.out.mono (fun _ _ h => h.elim)).trans hO5)
    have hclw := HNE.out.2
    have hb2 : (W7.setCell ⟨cb, off + 32, none⟩ (.int .i64 (nx : Nat))).heap[w.heap.size]? = some (.cells (evC false 0 0) 93 (0, 0)) := by
      rw [hO5.block _ (lt_of_some HEB.out) (by omega)]; exact HEB.out
    obtain ⟨s1, s2⟩ := ev_set (b := false) (c := 0) (t := 0) hb2 false 0 0
    have HFI := Vx.hid (hfin _ s2)
    have HK := Vx.hid (ev_read s1)
    obtain ⟨h0, h1, h2, hf, hl⟩ := ev_read hb2
    have f0 := hf 0
    have f1 := hf 1
    have f2 := hf 2
    have hfp := HDX.out.fz (off + 32)
    have hcbl : cb < W7.heap.size := World.block_lt_of_cell? W7 _ hcp
    clear hb2 hfin s1 s2 hf hdx5 hbs5 hO5 HFIN HRF HDX HIK HEB HOW HLB HINS HAB HPC HNE HGE HEX hclw
    clear HOP 
    go_wp2_with fail
    refine (HWP.out _).mono ?_
    rintro e w' ⟨rfl, h⟩
    have h2 := h.symm; clear h; subst h2
    go_wp2_with fail
    refine (HTK.out _).mono ?_
    rintro e w' ⟨rfl, h⟩
    have h2 := h.symm; clear h; subst h2
    go_wp2_with fail
    unfold evC at HFI
    rw [show (((0 : Nat)) : Int) = 0 from rfl] at HK
    obtain ⟨k0, k1, k2, _, _⟩ := HK.out
    refine bodyPost_ret (v := .agg #[.bool false, .int .i64 0, .int .u32 ((0 : Nat) : Int)]) ?_ rfl HFI.out
    simp [results, Tryz.results54, go_sem, k0, k1, k2]
  · rw [ht] at HTK
    obtain ⟨vv, hvv⟩ := HEG.out ht
    have HVV := Vx.hid hvv
    clear HES HEG ht hnx hn4 hvv
    by_cases h4 : dst % 4 = 0
    ·
      have HEX : Hid (exeF f n root R pc op rd (R r1) (R r2) im = .ok (f, R, dst)) := by
        show _ = _
        rw [HVV.out]; unfold plainG; rw [if_neg (by omega), setR_zero]
      have HFIN : Hid (∀ w3 cs3, RefAt w3 br bb n f → DxAt w3 cb off T cs3 (R) dst → Beside cs cs3 off → Only (fun k => k = cb) w w3 → ∀ w4, Only (fun k => k = w.heap.size) w3 w4 → DocP w br bb n cb off T cs (exeF f n root R pc op rd (R r1) (R r2) im) (.returned (.agg (evC false 0 0))) w4) := fun w3 cs3 hr3 hd3 hb3 ho3 w4 h4 => by
        have hbl : bb < w.heap.size := HLB.out.1
        have hrl : br < w.heap.size := HLB.out.2
        have hclw := HNE.out.2
        refine Or.inr ⟨f, R, dst, HEX.out, rfl, hr3.only h4 (by omega) (by omega), ⟨cs3, hd3.only h4 (by omega), hb3⟩, ?_⟩
        exact ⟨h4.os.trans ho3.os, h4.tape.trans ho3.tape, h4.output.trans ho3.output, Nat.le_trans ho3.size h4.size, fun k hk hn => by rw [h4.block k (Nat.lt_of_lt_of_le hk ho3.size) (by omega), ho3.block k hk (fun hx => hn (Or.inr hx))]⟩
      have tn1 : Int.tmod (dst : Int) 4 = 0 := by rw [Int.tmod_eq_emod_of_nonneg (by omega)]; omega
      have tn2 : (dst : Int) % 4 = 0 := by omega
      clear h4 HVV HDL
      clear hop
      go_wp2_with fail
      refine (HWP.out _).mono ?_
      rintro e w' ⟨rfl, h⟩
      have h2 := h.symm; clear h; subst h2
      go_wp2_with fail
      refine (HTK.out _).mono ?_
      rintro e w' ⟨rfl, h⟩
      have h2 := h.symm; clear h; subst h2
      go_wp2_with fail
      go_quiet ((go_at_call 80; exact Calls.quiet_of_same (HQW.out _)))
      obtain ⟨W8, hW8⟩ : ∃ W8, W8 = W7.drewN nq := ⟨_, rfl⟩
      have hO8 : Only (fun _ => False) W7 W8 := by rw [hW8]; exact (Only.refl _ W7).drewN nq
      rw [← hW8]
      clear hW8 i0 i1 i2 i3 i4 hcp
      have hik8 : W8.heap[gi]? = some (.cells #[.int .i64 (op : Int), .int .i64 (rd : Int), .int .i64 (r1 : Int), .int .i64 (r2 : Int), .int .i64 im] 129 (0, 0)) := by rw [hO8.block _ (lt_of_some HIK.out) (fun h => h)]; exact HIK.out
      have i0 : W8.cell? ⟨gi, 0, none⟩ = some (.int .i64 (op : Int)) := (cell_of_row _ _ 0 _ _ (0, 0) hik8).trans rfl
      have i1 : W8.cell? ⟨gi, 1, none⟩ = some (.int .i64 (rd : Int)) := (cell_of_row _ _ 1 _ _ (0, 0) hik8).trans rfl
      have i4 : W8.cell? ⟨gi, 4, none⟩ = some (.int .i64 im) := (cell_of_row _ _ 4 _ _ (0, 0) hik8).trans rfl
      have heb8 : W8.heap[w.heap.size]? = some (.cells (evC false 0 0) 93 (0, 0)) := by rw [hO8.block _ (lt_of_some HEB.out) (fun h => h)]; exact HEB.out
      have hrf8 := HRF.out.only hO8 (fun h => h) (fun h => h)
      have hdx8 := HDX.out.only hO8 (fun h => h)
      have how8 := HOW.out.trans hO8
      clear HIK HEB HRF HDX HOW hO8 nq
      have HIK := Vx.hid hik8
      have HEB := Vx.hid heb8
      have HRF := Vx.hid hrf8
      have HDX := Vx.hid hdx8
      have HOW := Vx.hid how8
      have hcp := hdx8.cp
      clear hik8 heb8 hrf8 hdx8 how8
      obtain ⟨cs5, hdx5, hbs5⟩ := HDX.out.setPc dst
      have hO5 : Only (fun k => k = cb) W8 (W8.setCell ⟨cb, off + 32, none⟩ (.int .i64 (dst : Nat))) := only_cell W8 ⟨cb, off + 32, none⟩ _
      have hfin := HFIN.out _ cs5 (HRF.out.only hO5 (fun e => HNE.out.1.1 e.symm) (fun e => HNE.out.1.2 e.symm)) hdx5 hbs5 ((HOW.out.mono (fun _ _ h => h.elim)).trans hO5)
      have hclw := HNE.out.2
      have hb2 : (W8.setCell ⟨cb, off + 32, none⟩ (.int .i64 (dst : Nat))).heap[w.heap.size]? = some (.cells (evC false 0 0) 93 (0, 0)) := by
        rw [hO5.block _ (lt_of_some HEB.out) (by omega)]; exact HEB.out
      obtain ⟨s1, s2⟩ := ev_set (b := false) (c := 0) (t := 0) hb2 false 0 0
      have HFI := Vx.hid (hfin _ s2)
      have HK := Vx.hid (ev_read s1)
      obtain ⟨h0, h1, h2, hf, hl⟩ := ev_read hb2
      have f0 := hf 0
      have f1 := hf 1
      have f2 := hf 2
      have hfp := HDX.out.fz (off + 32)
      have hcbl : cb < W8.heap.size := World.block_lt_of_cell? W8 _ hcp
      clear hb2 hfin s1 s2 hf hdx5 hbs5 hO5 HFIN HRF HDX HIK HEB HOW HLB HINS HAB HPC HNE HGE HEX hclw
      go_wp2_with fail
      unfold evC at HFI
      rw [show (((0 : Nat)) : Int) = 0 from rfl] at HK
      obtain ⟨k0, k1, k2, _, _⟩ := HK.out
      refine bodyPost_ret (v := .agg #[.bool false, .int .i64 0, .int .u32 ((0 : Nat) : Int)]) ?_ rfl HFI.out
      simp [results, Tryz.results54, go_sem, k0, k1, k2]
    ·
      have HTP : Hid (exeF f n root R pc op rd (R r1) (R r2) im = .error (0, dst)) := by show _ = _; rw [HVV.out]; exact if_pos h4
      have HFT : Hid (∀ w2 w3, Only (fun _ => False) w w2 → Only (fun k => k = w.heap.size) w2 w3 → DocP w br bb n cb off T cs (exeF f n root R pc op rd (R r1) (R r2) im) (.returned (.agg (evC true 0 dst))) w3) := fun w2 w3 h4 h3 => Or.inl ⟨0, dst, HTP.out, rfl, ⟨h3.os.trans h4.os, h3.tape.trans h4.tape, h3.output.trans h4.output, Nat.le_trans h4.size h3.size, fun k hk _ => by rw [h3.block k (Nat.lt_of_lt_of_le hk h4.size) (by omega), h4.block k hk (fun h => h)]⟩⟩
      have HTR := Vx.hid (fun wv => trapped_any 0 dst HDL.out wv)
      obtain ⟨rz, hrz⟩ : ∃ rz : Nat, rz = dst % 4 := ⟨_, rfl⟩
      have t1z : Int.tmod (dst : Int) 4 = (rz : Int) := by rw [Int.tmod_eq_emod_of_nonneg (by omega)]; omega
      have t2z : (dst : Int) % 4 = (rz : Int) := by omega
      have t3z : ((rz : Int) != 0) = true := by simp; omega
      have t4z : ¬ (rz : Int) = 0 := by omega
      have t5z : IntKind.i64.wrap (rz : Int) = (rz : Int) := by rw [IntKind.wrap_i64]; omega
      clear hrz h4
      clear hop HVV
      go_wp2_with fail
      refine (HWP.out _).mono ?_
      rintro e w' ⟨rfl, h⟩
      have h2 := h.symm; clear h; subst h2
      go_wp2_with fail
      refine (HTK.out _).mono ?_
      rintro e w' ⟨rfl, h⟩
      have h2 := h.symm; clear h; subst h2
      go_wp2_with fail
      go_quiet ((go_at_call 80; exact Calls.quiet_of_same (HQW.out _)))
      obtain ⟨W8, hW8⟩ : ∃ W8, W8 = W7.drewN nq := ⟨_, rfl⟩
      have hO8 : Only (fun _ => False) W7 W8 := by rw [hW8]; exact (Only.refl _ W7).drewN nq
      rw [← hW8]
      clear hW8 i0 i1 i2 i3 i4 hcp
      have hik8 : W8.heap[gi]? = some (.cells #[.int .i64 (op : Int), .int .i64 (rd : Int), .int .i64 (r1 : Int), .int .i64 (r2 : Int), .int .i64 im] 129 (0, 0)) := by rw [hO8.block _ (lt_of_some HIK.out) (fun h => h)]; exact HIK.out
      have i0 : W8.cell? ⟨gi, 0, none⟩ = some (.int .i64 (op : Int)) := (cell_of_row _ _ 0 _ _ (0, 0) hik8).trans rfl
      have i1 : W8.cell? ⟨gi, 1, none⟩ = some (.int .i64 (rd : Int)) := (cell_of_row _ _ 1 _ _ (0, 0) hik8).trans rfl
      have i4 : W8.cell? ⟨gi, 4, none⟩ = some (.int .i64 im) := (cell_of_row _ _ 4 _ _ (0, 0) hik8).trans rfl
      have heb8 : W8.heap[w.heap.size]? = some (.cells (evC false 0 0) 93 (0, 0)) := by rw [hO8.block _ (lt_of_some HEB.out) (fun h => h)]; exact HEB.out
      have hrf8 := HRF.out.only hO8 (fun h => h) (fun h => h)
      have hdx8 := HDX.out.only hO8 (fun h => h)
      have how8 := HOW.out.trans hO8
      clear HIK HEB HRF HDX HOW hO8 nq
      have HIK := Vx.hid hik8
      have HEB := Vx.hid heb8
      have HRF := Vx.hid hrf8
      have HDX := Vx.hid hdx8
      have HOW := Vx.hid how8
      have hcp := hdx8.cp
      clear hik8 heb8 hrf8 hdx8 how8
      go_wp2_with fail
      refine (HTR.out _).mono ?_
      rintro e w8 ⟨rfl, h8⟩
      have hb2 : w8.heap[w.heap.size]? = some (.cells (evC false 0 0) 93 (0, 0)) := by rw [h8.block _ (lt_of_some HEB.out) (fun h => h)]; exact HEB.out
      have hfin := fun w3 h3 => HFT.out w8 w3 (HOW.out.trans h8) h3
      clear h8 HFT HTR HEB HIK HRF HDX HOW i0 i1 i4 hcp HTP HDL
      obtain ⟨s1, s2⟩ := ev_set (b := false) (c := 0) (t := 0) hb2 true 0 dst
      have HFI := Vx.hid (hfin _ s2)
      have HK := Vx.hid (ev_read s1)
      obtain ⟨h0, h1, h2, hf, hl⟩ := ev_read hb2
      have f0 := hf 0
      have f1 := hf 1
      have f2 := hf 2
      clear hb2 hfin s1 s2 hf
      unfold evC at *
      go_wp2_with fail
      obtain ⟨k0, k1, k2, _, _⟩ := HK.out
      refine bodyPost_ret (v := .agg #[.bool true, .int .i64 (0), .int .u32 ((dst : Nat) : Int)]) ?_ rfl HFI.out
      simp [results, Tryz.results54, go_sem, k0, k1, k2]

end Go.Proofs.YtflmobffeeocdaaGreatDoor

/- Walks of the document's chapter 6: Step (made by gen_f5.py). -/
namespace Go.Proofs.YtflmobffeeocdaaGreatDoor
open Go.ChangeShapes Go.WideShapes Go.ChangeAt Go.RowKit
open Go.Vx
set_option linter.unusedVariables false

set_option maxRecDepth 100000 in
set_option maxHeartbeats 4000000 in
theorem doc_illegal {w : World} {br bb n cb off pc : Nat} {T : TypeId} {cs : Array Value} {R : Nat → Nat} {f : Nat → UInt8} (h : RefAt w br bb n f) (hd : DxAt w cb off T cs R pc) (hne : cb ≠ br ∧ cb ≠ bb) (hpc : pc < 4294967296) (hR : ∀ i, i < 32 → R i < 4294967296) (root : Int) (hm : pc % 4 = 0) (p : Nat) (hp : placeF f n root pc 4 0 = .ok p) (op rd r1 r2 : Nat) (im : Int) (hi : dec (wordF f p : Nat) = ⟨(op : Int), (rd : Int), (r1 : Int), (r2 : Int), im⟩) (hb3 : rd < 32 ∧ r1 < 32 ∧ r2 < 32) (hop : op = 0) :
    Calls Tryz.prog 54 #[.pointer (some ⟨br, 0, none⟩), .int .i64 root, .pointer (some ⟨cb, off, none⟩)] w fun e w' => DocP w br bb n cb off T cs (stepF f n root R pc) e w' := by
  have hcl : cb < w.heap.size := lt_of_some hd.b
  obtain ⟨w1, hw1⟩ : ∃ w1, w1 = w.alloc (.cells (evC false 0 0) 93) := ⟨_, rfl⟩
  have hO1 : Only (fun _ => False) w w1 := by rw [hw1]; exact (Only.refl _ w).alloc _
  have he1 : w1.heap[w.heap.size]? = some (.cells (evC false 0 0) 93 (0, 0)) := by rw [hw1]; exact heap_alloc_last w _
  have hcp := hd.cp
  have t1 : Int.tmod (pc : Int) 4 = 0 := by rw [Int.tmod_eq_emod_of_nonneg (by omega)]; omega
  have t2 : (pc : Int) % 4 = 0 := by omega
  have hpl : (walkF f n root pc 0).1 = p ∧ (walkF f n root pc 0).2 = -1 := by
    unfold placeF placeG at hp
    rw [if_neg (by omega)] at hp
    by_cases h1 : (walkF f n root pc 0).2 ≠ -1
    · rw [if_pos (show (walkF f n root pc ((0 : Nat) : Int)).2 ≠ -1 from h1)] at hp; cases hp
    · rw [if_neg (show ¬ (walkF f n root pc ((0 : Nat) : Int)).2 ≠ -1 from h1)] at hp
      injection hp with hp
      exact ⟨hp, by simpa using h1⟩
  have hpi := place_in (Or.inr (Or.inr rfl)) hp
  have HWK := Vx.hid (refWalk_any (h.only hO1 (fun h => h) (fun h => h)) root pc hpc 0)
  rw [hpl.1, hpl.2] at HWK
  have hwr : wordR f n (p : Int) = (wordF f p, 0) := by
    unfold wordR
    rw [if_pos ⟨by simp [insB]; omega, by rw [Int.tmod_eq_emod_of_nonneg (by omega)]; omega⟩, Int.toNat_natCast]
  have HWD : Hid (∀ wv, Only (fun _ => False) w wv → wv.heap[w.heap.size]? = some (.cells (evC false 0 0) 93 (0, 0)) → Calls Tryz.prog 30 #[.pointer (some ⟨br, 0, none⟩), .int .i64 (p : Int)] wv fun e w' => e = .returned (.tuple #[.int .i64 (wordF f p : Nat), .int .i64 0]) ∧ Hid (Only (fun _ => False) w w') ∧ Hid (w'.heap[w.heap.size]? = some (.cells (evC false 0 0) 93 (0, 0)))) := fun wv hv hev => by
    refine (refWord_any (h.only hv (fun h => h) (fun h => h)) (p : Int)).mono ?_
    rintro e w' ⟨rfl, ho⟩
    rw [hwr]
    exact ⟨rfl, hv.trans ho, by show _ = _; rw [ho.block _ (lt_of_some hev) (fun h => h)]; exact hev⟩
  have HDE : Hid (∀ wv, Only (fun _ => False) w wv → wv.heap[w.heap.size]? = some (.cells (evC false 0 0) 93 (0, 0)) → Calls Tryz.prog 78 #[.int .i64 (wordF f p : Nat)] wv fun e w' => e = .returned (.agg #[.int .i64 (op : Int), .int .i64 (rd : Int), .int .i64 (r1 : Int), .int .i64 (r2 : Int), .int .i64 im]) ∧ Hid (Only (fun _ => False) w w') ∧ Hid (w'.heap[w.heap.size]? = some (.cells (evC false 0 0) 93 (0, 0)))) := fun wv hv hev => by
    refine (refDecode_any (wordF f p) (wordF_lt f p) wv).mono ?_
    rintro e w' ⟨rfl, hb⟩
    rw [hi]
    exact ⟨rfl, hv.trans (only_of_below hb), by show _ = _; rw [(only_of_below hb).block _ (lt_of_some hev) (fun h => h)]; exact hev⟩
  have HWL := Vx.hid (wordF_lt f p)
  have HD := Vx.hid (fun wv (ho : Only (fun _ => False) w wv) => (⟨h.only ho (fun h => h) (fun h => h), hd.only ho (fun h => h)⟩ : RefAt wv br bb n f ∧ DxAt wv cb off T cs R pc))
  have HE1 := Vx.hid (⟨he1, hO1⟩ : _ ∧ _)
  have HPC := Vx.hid (⟨hpc, hm⟩ : _ ∧ _)
  have HNE := Vx.hid (⟨hne, hcl⟩ : _ ∧ _)
  have HLB : Hid (bb < w.heap.size ∧ br < w.heap.size) := ⟨lt_of_some h.b, lt_of_some h.r⟩
  have HINS := Vx.hid (⟨trivial, trivial, hb3.1, hb3.2.1, hb3.2.2, trivial⟩ : True ∧ True ∧ rd < 32 ∧ r1 < 32 ∧ r2 < 32 ∧ True)
  have HAB : Hid (R r1 < 4294967296 ∧ R r2 < 4294967296) := ⟨hR r1 hb3.2.1, hR r2 hb3.2.2⟩
  have HOP := Vx.hid hop
  have HRS : Hid (stepF f n root R pc = .error (2, wordF f p)) := by
    show _ = _
    unfold stepF
    rw [hp]
    exact if_pos (by rw [hi, hop]; rfl)
  clear h hd hne hpc hR hm hp hpl hpi hwr he1 hO1 hi hop hb3
  subst hw1
  go_enter Tryz.func54, Tryz.ntmps54
  go_wp2_with fail
  refine HWK.out.mono ?_
  rintro e w2 ⟨rfl, h2⟩
  have HO2 := Vx.hid (HE1.out.2.trans h2)
  have hb2e : w2.heap[w.heap.size]? = some (.cells (evC false 0 0) 93 (0, 0)) := by rw [h2.block _ (lt_of_some HE1.out.1) (fun h => h)]; exact HE1.out.1
  have HE2 := Vx.hid hb2e
  clear h2 hb2e HE1
  go_wp2_with fail
  refine (HWD.out _ HO2.out HE2.out).mono ?_
  rintro e w3 ⟨rfl, h3, HE3⟩
  clear HWD
  go_wp2_with fail
  refine (HDE.out _ h3.out HE3.out).mono ?_
  rintro e w4 ⟨rfl, h4, HE4⟩
  have hel : w.heap.size < w4.heap.size := lt_of_some HE4.out
  clear HDE
  go_wp2_with fail
  obtain ⟨W5, hW5⟩ : ∃ W5, W5 = w4.alloc (.cells #[.int .i64 (op : Int), .int .i64 (rd : Int), .int .i64 (r1 : Int), .int .i64 (r2 : Int), .int .i64 im] 129) := ⟨_, rfl⟩
  have hO5 : Only (fun _ => False) w W5 := by rw [hW5]; exact h4.out.alloc _
  have hik : W5.heap[w4.heap.size]? = some (.cells #[.int .i64 (op : Int), .int .i64 (rd : Int), .int .i64 (r1 : Int), .int .i64 (r2 : Int), .int .i64 im] 129 (0, 0)) := by rw [hW5]; exact heap_alloc_last w4 _
  have hge : w.heap.size < w4.heap.size := hel
  have heb : W5.heap[w.heap.size]? = some (.cells (evC false 0 0) 93 (0, 0)) := by rw [hW5, RowKit.Below.heap_alloc _ _ _ hel]; exact HE4.out
  rw [← hW5]
  obtain ⟨gi, hgi⟩ : ∃ gi, gi = w4.heap.size := ⟨_, rfl⟩
  rw [← hgi] at hik hge ⊢
  have HF : Hid (∀ wv, Only (fun _ => False) W5 wv → (wv.cell? ⟨gi, 0, none⟩ = some (.int .i64 (op : Int)) ∧ wv.cell? ⟨gi, 1, none⟩ = some (.int .i64 (rd : Int)) ∧ wv.cell? ⟨gi, 2, none⟩ = some (.int .i64 (r1 : Int)) ∧ wv.cell? ⟨gi, 3, none⟩ = some (.int .i64 (r2 : Int)) ∧ wv.cell? ⟨gi, 4, none⟩ = some (.int .i64 im)) ∧ wv.heap[gi]? = some (.cells #[.int .i64 (op : Int), .int .i64 (rd : Int), .int .i64 (r1 : Int), .int .i64 (r2 : Int), .int .i64 im] 129 (0, 0)) ∧ wv.heap[w.heap.size]? = some (.cells (evC false 0 0) 93 (0, 0)) ∧ RefAt wv br bb n f ∧ DxAt wv cb off T cs R pc ∧ Only (fun _ => False) w wv) := fun wv hv => by
    have hk2 : wv.heap[gi]? = some (.cells #[.int .i64 (op : Int), .int .i64 (rd : Int), .int .i64 (r1 : Int), .int .i64 (r2 : Int), .int .i64 im] 129 (0, 0)) := by rw [hv.block _ (lt_of_some hik) (fun h => h)]; exact hik
    exact ⟨⟨(cell_of_row _ _ 0 _ _ (0, 0) hk2).trans rfl, (cell_of_row _ _ 1 _ _ (0, 0) hk2).trans rfl, (cell_of_row _ _ 2 _ _ (0, 0) hk2).trans rfl, (cell_of_row _ _ 3 _ _ (0, 0) hk2).trans rfl, (cell_of_row _ _ 4 _ _ (0, 0) hk2).trans rfl⟩, hk2, by rw [hv.block _ (lt_of_some heb) (fun h => h)]; exact heb, (HD.out _ (hO5.trans hv)).1, (HD.out _ (hO5.trans hv)).2, hO5.trans hv⟩
  have HGE := Vx.hid hge
  have hx1 : 0 ≤ (r1 : Int) ∧ (r1 : Int) < 32 := by have := HINS.out.2.2.2.1; omega
  have hx2 : 0 ≤ (r2 : Int) ∧ (r2 : Int) < 32 := by have := HINS.out.2.2.2.2.1; omega
  obtain ⟨⟨i0, i1, i2, i3, i4⟩, q1, q2, q3, hdx5, q4⟩ := HF.out W5 (Only.refl _ _)
  clear q1 q2 q3 q4
  have hcr1 := hdx5.cr r1 HINS.out.2.2.2.1
  have hcr2 := hdx5.cr r2 HINS.out.2.2.2.2.1
  clear hik heb hge hW5 hgi hO5 hdx5 h3 h4 hel HO2 HE2 HE4 HE3 hcp hcl
  go_quiet (fail)
  obtain ⟨W6, hW6⟩ : ∃ W6, W6 = W5.drewN nq := ⟨_, rfl⟩
  have hO6 : Only (fun _ => False) W5 W6 := by rw [hW6]; exact (Only.refl _ W5).drewN nq
  rw [← hW6]
  clear i0 i1 i2 i3 i4 hcr1 hcr2 hW6
  obtain ⟨⟨i0, i1, i2, i3, i4⟩, q1, q2, q3, hdx6, q4⟩ := HF.out W6 hO6
  clear q1 q2 q3 q4
  have hcr2 := hdx6.cr r2 HINS.out.2.2.2.2.1
  have HO6 := Vx.hid hO6
  clear hdx6 hO6 nq
  go_wp2_with fail
  go_quiet (fail)
  obtain ⟨W7, hW7⟩ : ∃ W7, W7 = W6.drewN nq := ⟨_, rfl⟩
  have hO7 : Only (fun _ => False) W5 W7 := by rw [hW7]; exact HO6.out.drewN nq
  rw [← hW7]
  clear i0 i1 i2 i3 i4 hcr2 hW7 hx1 hx2 HO6
  obtain ⟨⟨i0, i1, i2, i3, i4⟩, hik, heb, hrf7, hdx7, hOw⟩ := HF.out W7 hO7
  have hcp := hdx7.cp
  have HEB := Vx.hid heb
  have HIK := Vx.hid hik
  have HRF := Vx.hid hrf7
  have HDX := Vx.hid hdx7
  have HOW := Vx.hid hOw
  clear hik heb hrf7 hdx7 hOw hO7 HF nq
  have hop := HOP.out
  have e0 : ((op : Int) == 0) = true := by rw [beq_iff_eq]; omega
  have e39 := neqF (op : Int) 39 (by omega)
  have e40 := neqF (op : Int) 40 (by omega)
  have e3 := neqF (op : Int) 3 (by omega)
  have e4 := neqF (op : Int) 4 (by omega)
  have e1 := neqF (op : Int) 1 (by omega)
  have e2 := neqF (op : Int) 2 (by omega)
  have n38 : ((op : Int) != 38) = true := by simp; omega
  have g11 : ¬ (11 : Int) ≤ (op : Int) := by omega
  have dg11 : decide ((11 : Int) ≤ (op : Int)) = false := decide_eq_false g11
  have g16 : ¬ (16 : Int) ≤ (op : Int) := by omega
  have dg16 : decide ((16 : Int) ≤ (op : Int)) = false := decide_eq_false g16
  have g5 : ¬ (5 : Int) ≤ (op : Int) := by omega
  have dg5 : decide ((5 : Int) ≤ (op : Int)) = false := decide_eq_false g5
  have g19 : ¬ (19 : Int) ≤ (op : Int) := by omega
  have dg19 : decide ((19 : Int) ≤ (op : Int)) = false := decide_eq_false g19
  have g28 : ¬ (28 : Int) ≤ (op : Int) := by omega
  have dg28 : decide ((28 : Int) ≤ (op : Int)) = false := decide_eq_false g28
  have g41 : ¬ (41 : Int) ≤ (op : Int) := by omega
  have dg41 : decide ((41 : Int) ≤ (op : Int)) = false := decide_eq_false g41
  have l15 : (op : Int) ≤ 15 := by omega
  have dl15 : decide ((op : Int) ≤ 15) = true := decide_eq_true l15
  have l18 : (op : Int) ≤ 18 := by omega
  have dl18 : decide ((op : Int) ≤ 18) = true := decide_eq_true l18
  have l10 : (op : Int) ≤ 10 := by omega
  have dl10 : decide ((op : Int) ≤ 10) = true := decide_eq_true l10
  have l27 : (op : Int) ≤ 27 := by omega
  have dl27 : decide ((op : Int) ≤ 27) = true := decide_eq_true l27
  have l37 : (op : Int) ≤ 37 := by omega
  have dl37 : decide ((op : Int) ≤ 37) = true := decide_eq_true l37
  have l4 : (op : Int) ≤ 4 := by omega
  have dl4 : decide ((op : Int) ≤ 4) = true := decide_eq_true l4
  have HFT : Hid (∀ w2 w3, Only (fun _ => False) w w2 → Only (fun k => k = w.heap.size) w2 w3 → DocP w br bb n cb off T cs (stepF f n root R pc) (.returned (.agg (evC true 2 (wordF f p)))) w3) := fun w2 w3 h4 h3 => Or.inl ⟨2, (wordF f p), HRS.out, rfl, ⟨h3.os.trans h4.os, h3.tape.trans h4.tape, h3.output.trans h4.output, Nat.le_trans h4.size h3.size, fun k hk _ => by rw [h3.block k (Nat.lt_of_lt_of_le hk h4.size) (by omega), h4.block k hk (fun h => h)]⟩⟩
  have HTR := Vx.hid (fun wv => trapped_any 2 (wordF f p) HWL.out wv)
  clear hop
  go_wp2_with fail
  refine (HTR.out _).mono ?_
  rintro e w8 ⟨rfl, h8⟩
  have hb2 : w8.heap[w.heap.size]? = some (.cells (evC false 0 0) 93 (0, 0)) := by rw [h8.block _ (lt_of_some HEB.out) (fun h => h)]; exact HEB.out
  have hfin := fun w3 h3 => HFT.out w8 w3 (HOW.out.trans h8) h3
  clear h8 HFT HTR HEB HIK HRF HDX HOW i0 i1 i2 i3 i4 hcp HRS
  obtain ⟨s1, s2⟩ := ev_set (b := false) (c := 0) (t := 0) hb2 true 2 (wordF f p)
  have HFI := Vx.hid (hfin _ s2)
  have HK := Vx.hid (ev_read s1)
  obtain ⟨h0, h1, h2, hf, hl⟩ := ev_read hb2
  have f0 := hf 0
  have f1 := hf 1
  have f2 := hf 2
  clear hb2 hfin s1 s2 hf
  unfold evC at *
  go_wp2_with fail
  obtain ⟨k0, k1, k2, _, _⟩ := HK.out
  refine bodyPost_ret (v := .agg #[.bool true, .int .i64 (2), .int .u32 (((wordF f p) : Nat) : Int)]) ?_ rfl HFI.out
  simp [results, Tryz.results54, go_sem, k0, k1, k2]
end Go.Proofs.YtflmobffeeocdaaGreatDoor

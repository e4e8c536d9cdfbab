/- Walks of the document's chapter 5: MapFrame, Unmap (made by gen_g5.py). -/
import Derived.Test.YtflmobffeeocdaaGreatDoorG4
namespace Go.Proofs.YtflmobffeeocdaaGreatDoor
open Go.ChangeShapes Go.WideShapes Go.ChangeAt Go.RowKit
open Go.Vx

theorem refMap_refused {w : World} {br bb n : Nat} {f : Nat → UInt8} (h : RefAt w br bb n f) (root : Int) (va : Nat) (fr r : Int) (hb : ¬ ((hasB n root && hasB n fr) = true ∧ va % 4096 = 0)) :
    Calls Tryz.prog 44 #[.pointer (some ⟨br, 0, none⟩), .int .i64 root, .int .i64 (va : Int), .int .i64 fr, .int .i64 r] w fun e w' => e = .returned (.int .i64 ((mapR f n root va fr r).2 : Nat)) ∧ RefAt w' br bb n (mapR f n root va fr r).1 ∧ Only (fun k => k = bb) w w' := by
  have HHP := Vx.hid (hasPages_any h root fr)
  have HR := Vx.hid h
  have HRR : Hid (mapR f n root va fr r = (f, 1)) := if_neg hb
  have hm1 : (va : Int) % 4096 = ((va % 4096 : Nat) : Int) := by omega
  have hm2 : Int.tmod (va : Int) 4096 = ((va % 4096 : Nat) : Int) := by rw [Int.tmod_eq_emod_of_nonneg (by omega)]; omega
  have hw : IntKind.i64.wrap ((va % 4096 : Nat) : Int) = ((va % 4096 : Nat) : Int) := by rw [IntKind.wrap_i64]; omega
  generalize mapR f n root va fr r = R at HRR
  cases hB : (hasB n root && hasB n fr) with
  | true =>
    have c1 : ¬ ((va % 4096 : Nat) : Int) = 0 := by
      intro hc
      exact hb ⟨hB, by omega⟩
    have c2 : (((va % 4096 : Nat) : Int) != 0) = true := by simpa using c1
    rw [hB] at HHP
    generalize va % 4096 = m at hm1 hm2 c1 c2 hw
    clear h hb hB
    go_enter Tryz.func44, Tryz.ntmps44
    go_wp2_with fail
    refine HHP.out.mono ?_
    rintro e w' ⟨rfl, h⟩
    have h2 := h.symm; clear h; subst h2
    go_wp2_with fail
    all_goals
      go_ret
      rw [HRR.out]
      exact ⟨rfl, HR.out, Only.refl _ _⟩
  | false =>
    rw [hB] at HHP
    clear h hb hB hm1 hm2 hw
    go_enter Tryz.func44, Tryz.ntmps44
    go_wp2_with fail
    refine HHP.out.mono ?_
    rintro e w' ⟨rfl, h⟩
    have h2 := h.symm; clear h; subst h2
    go_wp2_with fail
    all_goals
      go_ret
      rw [HRR.out]
      exact ⟨rfl, HR.out, Only.refl _ _⟩
theorem refUnmap_refused {w : World} {br bb n : Nat} {f : Nat → UInt8} (h : RefAt w br bb n f) (root : Int) (va : Nat) (fr : Int) (hb : ¬ ((hasB n root && hasB n fr) = true ∧ va % 4096 = 0)) :
    Calls Tryz.prog 46 #[.pointer (some ⟨br, 0, none⟩), .int .i64 root, .int .i64 (va : Int), .int .i64 fr] w fun e w' => e = .returned (.int .i64 ((unmapR f n root va fr).2 : Nat)) ∧ RefAt w' br bb n (unmapR f n root va fr).1 ∧ Only (fun k => k = bb) w w' := by
  have HHP := Vx.hid (hasPages_any h root fr)
  have HR := Vx.hid h
  have HRR : Hid (unmapR f n root va fr = (f, 1)) := if_neg hb
  have hm1 : (va : Int) % 4096 = ((va % 4096 : Nat) : Int) := by omega
  have hm2 : Int.tmod (va : Int) 4096 = ((va % 4096 : Nat) : Int) := by rw [Int.tmod_eq_emod_of_nonneg (by omega)]; omega
  have hw : IntKind.i64.wrap ((va % 4096 : Nat) : Int) = ((va % 4096 : Nat) : Int) := by rw [IntKind.wrap_i64]; omega
  generalize unmapR f n root va fr = R at HRR
  cases hB : (hasB n root && hasB n fr) with
  | true =>
    have c1 : ¬ ((va % 4096 : Nat) : Int) = 0 := by
      intro hc
      exact hb ⟨hB, by omega⟩
    have c2 : (((va % 4096 : Nat) : Int) != 0) = true := by simpa using c1
    rw [hB] at HHP
    generalize va % 4096 = m at hm1 hm2 c1 c2 hw
    clear h hb hB
    go_enter Tryz.func46, Tryz.ntmps46
    go_wp2_with fail
    refine HHP.out.mono ?_
    rintro e w' ⟨rfl, h⟩
    have h2 := h.symm; clear h; subst h2
    go_wp2_with fail
    all_goals
      go_ret
      rw [HRR.out]
      exact ⟨rfl, HR.out, Only.refl _ _⟩
  | false =>
    rw [hB] at HHP
    clear h hb hB hm1 hm2 hw
    go_enter Tryz.func46, Tryz.ntmps46
    go_wp2_with fail
    refine HHP.out.mono ?_
    rintro e w' ⟨rfl, h⟩
    have h2 := h.symm; clear h; subst h2
    go_wp2_with fail
    all_goals
      go_ret
      rw [HRR.out]
      exact ⟨rfl, HR.out, Only.refl _ _⟩
set_option maxHeartbeats 4000000 in
theorem refMap_any {w : World} {br bb n : Nat} {f : Nat → UInt8} (h : RefAt w br bb n f) (root : Int) (va : Nat) (hv : va < 4294967296) (fr r : Int) :
    Calls Tryz.prog 44 #[.pointer (some ⟨br, 0, none⟩), .int .i64 root, .int .i64 (va : Int), .int .i64 fr, .int .i64 r] w fun e w' => e = .returned (.int .i64 ((mapR f n root va fr r).2 : Nat)) ∧ RefAt w' br bb n (mapR f n root va fr r).1 ∧ Only (fun k => k = bb) w w' := by
  by_cases hb : (hasB n root && hasB n fr) = true ∧ va % 4096 = 0
  case neg => exact refMap_refused h root va fr r hb
  have HHP := Vx.hid (hasPages_any h root fr)
  have HR := Vx.hid h
  have HRR : Hid (mapR f n root va fr r = if mayB r = true then (match tabF f n root.toNat va with | some t => fillF f (frmP t va) (1024 * fr.toNat + bitsN r) | none => (f, 15)) else (f, 13)) := if_pos hb
  obtain ⟨hb, hva⟩ := hb
  have hm1 : (va : Int) % 4096 = 0 := by omega
  have hm2 : Int.tmod (va : Int) 4096 = 0 := by rw [Int.tmod_eq_emod_of_nonneg (by omega)]; omega
  rw [hb] at HHP
  rw [Bool.and_eq_true] at hb
  obtain ⟨x, rfl, hr⟩ := hasB_nat hb.1
  obtain ⟨p, rfl, hp⟩ := hasB_nat hb.2
  rw [Int.toNat_natCast, Int.toNat_natCast] at HRR
  have hn := h.top
  have HTB := Vx.hid (refTable_any h x va hr hv)
  have HWD := Vx.hid (fun t (ht : t < n) wv (hm : RefAt wv br bb n f) => refWord_in hm (frmP t va) (frmP4 _ _) (frmP_in ht))
  have HSW := Vx.hid (fun t (ht : t < n) X (hX : X < 4294967296) wv (hm : RefAt wv br bb n f) => refSet_in hm (frmP t va) X hX (frmP4 _ _) (frmP_in ht))
  have HTL := Vx.hid (fun t (h : tabF f n x va = some t) => tabF_lt h)
  have HFP : Hid (∀ t, t < n → 4096 * (t : Int) + ((va / 4096 % 1024 : Nat) : Int) * 4 = ((frmP t va : Nat) : Int) ∧ IntKind.i64.wrap (4096 * (t : Int)) = 4096 * (t : Int) ∧ IntKind.i64.wrap ((frmP t va : Nat) : Int) = ((frmP t va : Nat) : Int)) := fun t ht => by
    have := frmP_in (v := va) ht
    refine ⟨by unfold frmP; omega, by rw [IntKind.wrap_i64]; omega, by rw [IntKind.wrap_i64]; omega⟩
  have q0 : Int.tdiv (va : Int) 4096 = ((va / 4096 : Nat) : Int) := by rw [Int.tdiv_eq_ediv_of_nonneg (by omega)]; omega
  have q0' : (va : Int) / 4096 = ((va / 4096 : Nat) : Int) := by omega
  have q1 : Int.tmod ((va / 4096 : Nat) : Int) 1024 = ((va / 4096 % 1024 : Nat) : Int) := by rw [Int.tmod_eq_emod_of_nonneg (by omega)]; omega
  have q1' : ((va / 4096 : Nat) : Int) % 1024 = ((va / 4096 % 1024 : Nat) : Int) := by omega
  have s0 : IntKind.i64.wrap ((va / 4096 : Nat) : Int) = ((va / 4096 : Nat) : Int) := by rw [IntKind.wrap_i64]; omega
  have s1 : IntKind.i64.wrap ((va / 4096 % 1024 : Nat) : Int) = ((va / 4096 % 1024 : Nat) : Int) := by rw [IntKind.wrap_i64]; omega
  have s2 : IntKind.i64.wrap (((va / 4096 % 1024 : Nat) : Int) * 4) = ((va / 4096 % 1024 : Nat) : Int) * 4 := by rw [IntKind.wrap_i64]; omega
  generalize va / 4096 % 1024 = q at q1 q1' s1 s2 HFP
  generalize va / 4096 = qq at q0 q0' q1 q1' s0
  generalize mapR f n x va p r = R at HRR
  generalize tabF f n x va = TF at HTB HRR HTL
  have A1 : IntKind.i64.wrap (1024 * (p : Int)) = 1024 * (p : Int) := by rw [IntKind.wrap_i64]; omega
  obtain ⟨n1, h1⟩ : ∃ n1, n1 = 1024 * p + 1 := ⟨_, rfl⟩
  obtain ⟨n17, h17⟩ : ∃ n17, n17 = 1024 * p + 17 := ⟨_, rfl⟩
  obtain ⟨n81, h81⟩ : ∃ n81, n81 = 1024 * p + 81 := ⟨_, rfl⟩
  obtain ⟨n83, h83⟩ : ∃ n83, n83 = 1024 * p + 83 := ⟨_, rfl⟩
  obtain ⟨n87, h87⟩ : ∃ n87, n87 = 1024 * p + 87 := ⟨_, rfl⟩
  obtain ⟨n215, h215⟩ : ∃ n215, n215 = 1024 * p + 215 := ⟨_, rfl⟩
  obtain ⟨n89, h89⟩ : ∃ n89, n89 = 1024 * p + 89 := ⟨_, rfl⟩
  obtain ⟨n91, h91⟩ : ∃ n91, n91 = 1024 * p + 91 := ⟨_, rfl⟩
  obtain ⟨n223, h223⟩ : ∃ n223, n223 = 1024 * p + 223 := ⟨_, rfl⟩
  have e1_1 : 1024 * (p : Int) + 1 = (n1 : Int) := by omega
  have e17_16 : (n1 : Int) + 16 = (n17 : Int) := by omega
  have e81_64 : (n17 : Int) + 64 = (n81 : Int) := by omega
  have e83_2 : (n81 : Int) + 2 = (n83 : Int) := by omega
  have e87_4 : (n83 : Int) + 4 = (n87 : Int) := by omega
  have e215_128 : (n87 : Int) + 128 = (n215 : Int) := by omega
  have e89_8 : (n81 : Int) + 8 = (n89 : Int) := by omega
  have e91_8 : (n83 : Int) + 8 = (n91 : Int) := by omega
  have e223_8 : (n215 : Int) + 8 = (n223 : Int) := by omega
  have v1 : IntKind.i64.wrap (n1 : Int) = (n1 : Int) := by rw [IntKind.wrap_i64]; omega
  have v17 : IntKind.i64.wrap (n17 : Int) = (n17 : Int) := by rw [IntKind.wrap_i64]; omega
  have v81 : IntKind.i64.wrap (n81 : Int) = (n81 : Int) := by rw [IntKind.wrap_i64]; omega
  have v83 : IntKind.i64.wrap (n83 : Int) = (n83 : Int) := by rw [IntKind.wrap_i64]; omega
  have v87 : IntKind.i64.wrap (n87 : Int) = (n87 : Int) := by rw [IntKind.wrap_i64]; omega
  have v215 : IntKind.i64.wrap (n215 : Int) = (n215 : Int) := by rw [IntKind.wrap_i64]; omega
  have v89 : IntKind.i64.wrap (n89 : Int) = (n89 : Int) := by rw [IntKind.wrap_i64]; omega
  have v91 : IntKind.i64.wrap (n91 : Int) = (n91 : Int) := by rw [IntKind.wrap_i64]; omega
  have v223 : IntKind.i64.wrap (n223 : Int) = (n223 : Int) := by rw [IntKind.wrap_i64]; omega
  have H83 : Hid (1024 * p + bitsN 1 = n83 ∧ n83 < 4294967296) := ⟨by rw [h83]; rfl, by omega⟩
  have H215 : Hid (1024 * p + bitsN 3 = n215 ∧ n215 < 4294967296) := ⟨by rw [h215]; rfl, by omega⟩
  have H89 : Hid (1024 * p + bitsN 4 = n89 ∧ n89 < 4294967296) := ⟨by rw [h89]; rfl, by omega⟩
  have H91 : Hid (1024 * p + bitsN 5 = n91 ∧ n91 < 4294967296) := ⟨by rw [h91]; rfl, by omega⟩
  have H223 : Hid (1024 * p + bitsN 7 = n223 ∧ n223 < 4294967296) := ⟨by rw [h223]; rfl, by omega⟩
  clear h hv hb hr hp hn hva h1 h17 h81 h83 h87 h215 h89 h91 h223
  by_cases r1 : r < 1
  · have d1 : decide (r < 1) = true := decide_eq_true r1
    have HR2 : Hid (R = (f, 13)) := by show _ = _; rw [HRR.out, if_neg (by simp [mayB]; omega)]
    clear HRR
    go_enter Tryz.func44, Tryz.ntmps44
    go_wp2_with fail
    refine HHP.out.mono ?_
    rintro e w' ⟨rfl, h⟩
    have h2 := h.symm; clear h; subst h2
    go_wp2_with fail
    all_goals
      go_ret
      rw [HR2.out]
      exact ⟨rfl, HR.out, Only.refl _ _⟩
  · have d1 : decide (r < 1) = false := decide_eq_false r1
    by_cases r7 : 7 < r
    · have d2 : decide (7 < r) = true := decide_eq_true r7
      have HR2 : Hid (R = (f, 13)) := by show _ = _; rw [HRR.out, if_neg (by simp [mayB]; omega)]
      clear HRR
      go_enter Tryz.func44, Tryz.ntmps44
      go_wp2_with fail
      refine HHP.out.mono ?_
      rintro e w' ⟨rfl, h⟩
      have h2 := h.symm; clear h; subst h2
      go_wp2_with fail
      all_goals
        go_ret
        rw [HR2.out]
        exact ⟨rfl, HR.out, Only.refl _ _⟩
    · have d2 : decide (7 < r) = false := decide_eq_false r7
      have hc : r = 1 ∨ r = 2 ∨ r = 3 ∨ r = 4 ∨ r = 5 ∨ r = 6 ∨ r = 7 := by omega
      clear r1 r7 d1 d2
      rcases hc with rfl | rfl | rfl | rfl | rfl | rfl | rfl
      · rw [if_pos (show mayB 1 = true by decide)] at HRR
        have HRS := Vx.hid HRR.out
        clear HRR
        go_enter Tryz.func44, Tryz.ntmps44
        go_wp2_with fail
        refine HHP.out.mono ?_
        rintro e w' ⟨rfl, h⟩
        have h2 := h.symm; clear h; subst h2
        go_wp2_with fail
        refine HTB.out.mono ?_
        rintro e w2' ⟨rfl, ho⟩
        have HO := Vx.hid ho
        clear ho
        cases TF with
        | none =>
          simp only [Option.getD_none, tabE]
          go_wp2_with fail
          all_goals
            go_ret
            rw [HRS.out]
            exact ⟨rfl, HR.out.quiet HO.out, HO.out.mono (fun _ _ h => h.elim)⟩
        | some t =>
          simp only [Option.getD_some, tabE]
          obtain ⟨z1, z2, z3⟩ := HFP.out t (HTL.out t rfl)
          have HW2 := Vx.hid (HWD.out t (HTL.out t rfl) _ (HR.out.quiet HO.out))
          have HS2 := Vx.hid (HSW.out t (HTL.out t rfl) n83 H83.out.2)
          have HR3 : Hid (R = fillF f (frmP t va) n83) := by
            show _ = _
            rw [HRS.out]
            show fillF f (frmP t va) (1024 * p + bitsN 1) = _
            rw [H83.out.1]
          generalize frmP t va = P at HW2 HS2 HR3 z1 z3
          clear HRS HTL HFP HWD HSW
          by_cases h0 : wordF f P = 0
          · have HR4 : Hid (R = (putF f P (fourB n83), 0)) := by show _ = _; rw [HR3.out]; exact if_pos h0
            rw [h0] at HW2
            clear h0 HR3
            go_wp2_with fail
            refine HW2.out.mono ?_
            rintro e w3' ⟨rfl, ho⟩
            have HO3 := Vx.hid (HO.out.trans ho)
            have HS3 := Vx.hid (HS2.out _ (HR.out.quiet HO3.out))
            clear ho HO
            go_wp2_with fail
            refine HS3.out.mono ?_
            rintro e w9 ⟨rfl, hr9, ho9⟩
            have HE : Hid (RefAt w9 br bb n R.1 ∧ Only (fun k => k = bb) w w9) := by rw [HR4.out]; exact ⟨hr9, (HO3.out.mono (fun _ _ h => h.elim)).trans ho9⟩
            clear hr9 ho9
            go_wp2_with fail
            all_goals
              go_ret
              refine ⟨?_, HE.out⟩
              rw [HR4.out]
              rfl
          · have HR4 : Hid (R = (f, 7)) := by show _ = _; rw [HR3.out]; exact if_neg h0
            have c1 : ¬ ((wordF f P : Nat) : Int) = 0 := by omega
            have c2 : (((wordF f P : Nat) : Int) != 0) = true := by simpa using c1
            generalize wordF f P = v at HW2 c1 c2
            clear h0 HR3
            go_wp2_with fail
            refine HW2.out.mono ?_
            rintro e w3' ⟨rfl, ho⟩
            have HO3 := Vx.hid (HO.out.trans ho)
            clear ho HO
            go_wp2_with fail
            all_goals
              go_ret
              rw [HR4.out]
              exact ⟨rfl, HR.out.quiet HO3.out, HO3.out.mono (fun _ _ h => h.elim)⟩
      · have HR2 : Hid (R = (f, 13)) := by show _ = _; rw [HRR.out, if_neg (by decide)]
        clear HRR
        go_enter Tryz.func44, Tryz.ntmps44
        go_wp2_with fail
        refine HHP.out.mono ?_
        rintro e w' ⟨rfl, h⟩
        have h2 := h.symm; clear h; subst h2
        go_wp2_with fail
        all_goals
          go_ret
          rw [HR2.out]
          exact ⟨rfl, HR.out, Only.refl _ _⟩
      · rw [if_pos (show mayB 3 = true by decide)] at HRR
        have HRS := Vx.hid HRR.out
        clear HRR
        go_enter Tryz.func44, Tryz.ntmps44
        go_wp2_with fail
        refine HHP.out.mono ?_
        rintro e w' ⟨rfl, h⟩
        have h2 := h.symm; clear h; subst h2
        go_wp2_with fail
        refine HTB.out.mono ?_
        rintro e w2' ⟨rfl, ho⟩
        have HO := Vx.hid ho
        clear ho
        cases TF with
        | none =>
          simp only [Option.getD_none, tabE]
          go_wp2_with fail
          all_goals
            go_ret
            rw [HRS.out]
            exact ⟨rfl, HR.out.quiet HO.out, HO.out.mono (fun _ _ h => h.elim)⟩
        | some t =>
          simp only [Option.getD_some, tabE]
          obtain ⟨z1, z2, z3⟩ := HFP.out t (HTL.out t rfl)
          have HW2 := Vx.hid (HWD.out t (HTL.out t rfl) _ (HR.out.quiet HO.out))
          have HS2 := Vx.hid (HSW.out t (HTL.out t rfl) n215 H215.out.2)
          have HR3 : Hid (R = fillF f (frmP t va) n215) := by
            show _ = _
            rw [HRS.out]
            show fillF f (frmP t va) (1024 * p + bitsN 3) = _
            rw [H215.out.1]
          generalize frmP t va = P at HW2 HS2 HR3 z1 z3
          clear HRS HTL HFP HWD HSW
          by_cases h0 : wordF f P = 0
          · have HR4 : Hid (R = (putF f P (fourB n215), 0)) := by show _ = _; rw [HR3.out]; exact if_pos h0
            rw [h0] at HW2
            clear h0 HR3
            go_wp2_with fail
            refine HW2.out.mono ?_
            rintro e w3' ⟨rfl, ho⟩
            have HO3 := Vx.hid (HO.out.trans ho)
            have HS3 := Vx.hid (HS2.out _ (HR.out.quiet HO3.out))
            clear ho HO
            go_wp2_with fail
            refine HS3.out.mono ?_
            rintro e w9 ⟨rfl, hr9, ho9⟩
            have HE : Hid (RefAt w9 br bb n R.1 ∧ Only (fun k => k = bb) w w9) := by rw [HR4.out]; exact ⟨hr9, (HO3.out.mono (fun _ _ h => h.elim)).trans ho9⟩
            clear hr9 ho9
            go_wp2_with fail
            all_goals
              go_ret
              refine ⟨?_, HE.out⟩
              rw [HR4.out]
              rfl
          · have HR4 : Hid (R = (f, 7)) := by show _ = _; rw [HR3.out]; exact if_neg h0
            have c1 : ¬ ((wordF f P : Nat) : Int) = 0 := by omega
            have c2 : (((wordF f P : Nat) : Int) != 0) = true := by simpa using c1
            generalize wordF f P = v at HW2 c1 c2
            clear h0 HR3
            go_wp2_with fail
            refine HW2.out.mono ?_
            rintro e w3' ⟨rfl, ho⟩
            have HO3 := Vx.hid (HO.out.trans ho)
            clear ho HO
            go_wp2_with fail
            all_goals
              go_ret
              rw [HR4.out]
              exact ⟨rfl, HR.out.quiet HO3.out, HO3.out.mono (fun _ _ h => h.elim)⟩
      · rw [if_pos (show mayB 4 = true by decide)] at HRR
        have HRS := Vx.hid HRR.out
        clear HRR
        go_enter Tryz.func44, Tryz.ntmps44
        go_wp2_with fail
        refine HHP.out.mono ?_
        rintro e w' ⟨rfl, h⟩
        have h2 := h.symm; clear h; subst h2
        go_wp2_with fail
        refine HTB.out.mono ?_
        rintro e w2' ⟨rfl, ho⟩
        have HO := Vx.hid ho
        clear ho
        cases TF with
        | none =>
          simp only [Option.getD_none, tabE]
          go_wp2_with fail
          all_goals
            go_ret
            rw [HRS.out]
            exact ⟨rfl, HR.out.quiet HO.out, HO.out.mono (fun _ _ h => h.elim)⟩
        | some t =>
          simp only [Option.getD_some, tabE]
          obtain ⟨z1, z2, z3⟩ := HFP.out t (HTL.out t rfl)
          have HW2 := Vx.hid (HWD.out t (HTL.out t rfl) _ (HR.out.quiet HO.out))
          have HS2 := Vx.hid (HSW.out t (HTL.out t rfl) n89 H89.out.2)
          have HR3 : Hid (R = fillF f (frmP t va) n89) := by
            show _ = _
            rw [HRS.out]
            show fillF f (frmP t va) (1024 * p + bitsN 4) = _
            rw [H89.out.1]
          generalize frmP t va = P at HW2 HS2 HR3 z1 z3
          clear HRS HTL HFP HWD HSW
          by_cases h0 : wordF f P = 0
          · have HR4 : Hid (R = (putF f P (fourB n89), 0)) := by show _ = _; rw [HR3.out]; exact if_pos h0
            rw [h0] at HW2
            clear h0 HR3
            go_wp2_with fail
            refine HW2.out.mono ?_
            rintro e w3' ⟨rfl, ho⟩
            have HO3 := Vx.hid (HO.out.trans ho)
            have HS3 := Vx.hid (HS2.out _ (HR.out.quiet HO3.out))
            clear ho HO
            go_wp2_with fail
            refine HS3.out.mono ?_
            rintro e w9 ⟨rfl, hr9, ho9⟩
            have HE : Hid (RefAt w9 br bb n R.1 ∧ Only (fun k => k = bb) w w9) := by rw [HR4.out]; exact ⟨hr9, (HO3.out.mono (fun _ _ h => h.elim)).trans ho9⟩
            clear hr9 ho9
            go_wp2_with fail
            all_goals
              go_ret
              refine ⟨?_, HE.out⟩
              rw [HR4.out]
              rfl
          · have HR4 : Hid (R = (f, 7)) := by show _ = _; rw [HR3.out]; exact if_neg h0
            have c1 : ¬ ((wordF f P : Nat) : Int) = 0 := by omega
            have c2 : (((wordF f P : Nat) : Int) != 0) = true := by simpa using c1
            generalize wordF f P = v at HW2 c1 c2
            clear h0 HR3
            go_wp2_with fail
            refine HW2.out.mono ?_
            rintro e w3' ⟨rfl, ho⟩
            have HO3 := Vx.hid (HO.out.trans ho)
            clear ho HO
            go_wp2_with fail
            all_goals
              go_ret
              rw [HR4.out]
              exact ⟨rfl, HR.out.quiet HO3.out, HO3.out.mono (fun _ _ h => h.elim)⟩
      · rw [if_pos (show mayB 5 = true by decide)] at HRR
        have HRS := Vx.hid HRR.out
        clear HRR
        go_enter Tryz.func44, Tryz.ntmps44
        go_wp2_with fail
        refine HHP.out.mono ?_
        rintro e w' ⟨rfl, h⟩
        have h2 := h.symm; clear h; subst h2
        go_wp2_with fail
        refine HTB.out.mono ?_
        rintro e w2' ⟨rfl, ho⟩
        have HO := Vx.hid ho
        clear ho
        cases TF with
        | none =>
          simp only [Option.getD_none, tabE]
          go_wp2_with fail
          all_goals
            go_ret
            rw [HRS.out]
            exact ⟨rfl, HR.out.quiet HO.out, HO.out.mono (fun _ _ h => h.elim)⟩
        | some t =>
          simp only [Option.getD_some, tabE]
          obtain ⟨z1, z2, z3⟩ := HFP.out t (HTL.out t rfl)
          have HW2 := Vx.hid (HWD.out t (HTL.out t rfl) _ (HR.out.quiet HO.out))
          have HS2 := Vx.hid (HSW.out t (HTL.out t rfl) n91 H91.out.2)
          have HR3 : Hid (R = fillF f (frmP t va) n91) := by
            show _ = _
            rw [HRS.out]
            show fillF f (frmP t va) (1024 * p + bitsN 5) = _
            rw [H91.out.1]
          generalize frmP t va = P at HW2 HS2 HR3 z1 z3
          clear HRS HTL HFP HWD HSW
          by_cases h0 : wordF f P = 0
          · have HR4 : Hid (R = (putF f P (fourB n91), 0)) := by show _ = _; rw [HR3.out]; exact if_pos h0
            rw [h0] at HW2
            clear h0 HR3
            go_wp2_with fail
            refine HW2.out.mono ?_
            rintro e w3' ⟨rfl, ho⟩
            have HO3 := Vx.hid (HO.out.trans ho)
            have HS3 := Vx.hid (HS2.out _ (HR.out.quiet HO3.out))
            clear ho HO
            go_wp2_with fail
            refine HS3.out.mono ?_
            rintro e w9 ⟨rfl, hr9, ho9⟩
            have HE : Hid (RefAt w9 br bb n R.1 ∧ Only (fun k => k = bb) w w9) := by rw [HR4.out]; exact ⟨hr9, (HO3.out.mono (fun _ _ h => h.elim)).trans ho9⟩
            clear hr9 ho9
            go_wp2_with fail
            all_goals
              go_ret
              refine ⟨?_, HE.out⟩
              rw [HR4.out]
              rfl
          · have HR4 : Hid (R = (f, 7)) := by show _ = _; rw [HR3.out]; exact if_neg h0
            have c1 : ¬ ((wordF f P : Nat) : Int) = 0 := by omega
            have c2 : (((wordF f P : Nat) : Int) != 0) = true := by simpa using c1
            generalize wordF f P = v at HW2 c1 c2
            clear h0 HR3
            go_wp2_with fail
            refine HW2.out.mono ?_
            rintro e w3' ⟨rfl, ho⟩
            have HO3 := Vx.hid (HO.out.trans ho)
            clear ho HO
            go_wp2_with fail
            all_goals
              go_ret
              rw [HR4.out]
              exact ⟨rfl, HR.out.quiet HO3.out, HO3.out.mono (fun _ _ h => h.elim)⟩
      · have HR2 : Hid (R = (f, 13)) := by show _ = _; rw [HRR.out, if_neg (by decide)]
        clear HRR
        go_enter Tryz.func44, Tryz.ntmps44
        go_wp2_with fail
        refine HHP.out.mono ?_
        rintro e w' ⟨rfl, h⟩
        have h2 := h.symm; clear h; subst h2
        go_wp2_with fail
        all_goals
          go_ret
          rw [HR2.out]
          exact ⟨rfl, HR.out, Only.refl _ _⟩
      · rw [if_pos (show mayB 7 = true by decide)] at HRR
        have HRS := Vx.hid HRR.out
        clear HRR
        go_enter Tryz.func44, Tryz.ntmps44
        go_wp2_with fail
        refine HHP.out.mono ?_
        rintro e w' ⟨rfl, h⟩
        have h2 := h.symm; clear h; subst h2
        go_wp2_with fail
        refine HTB.out.mono ?_
        rintro e w2' ⟨rfl, ho⟩
        have HO := Vx.hid ho
        clear ho
        cases TF with
        | none =>
          simp only [Option.getD_none, tabE]
          go_wp2_with fail
          all_goals
            go_ret
            rw [HRS.out]
            exact ⟨rfl, HR.out.quiet HO.out, HO.out.mono (fun _ _ h => h.elim)⟩
        | some t =>
          simp only [Option.getD_some, tabE]
          obtain ⟨z1, z2, z3⟩ := HFP.out t (HTL.out t rfl)
          have HW2 := Vx.hid (HWD.out t (HTL.out t rfl) _ (HR.out.quiet HO.out))
          have HS2 := Vx.hid (HSW.out t (HTL.out t rfl) n223 H223.out.2)
          have HR3 : Hid (R = fillF f (frmP t va) n223) := by
            show _ = _
            rw [HRS.out]
            show fillF f (frmP t va) (1024 * p + bitsN 7) = _
            rw [H223.out.1]
          generalize frmP t va = P at HW2 HS2 HR3 z1 z3
          clear HRS HTL HFP HWD HSW
          by_cases h0 : wordF f P = 0
          · have HR4 : Hid (R = (putF f P (fourB n223), 0)) := by show _ = _; rw [HR3.out]; exact if_pos h0
            rw [h0] at HW2
            clear h0 HR3
            go_wp2_with fail
            refine HW2.out.mono ?_
            rintro e w3' ⟨rfl, ho⟩
            have HO3 := Vx.hid (HO.out.trans ho)
            have HS3 := Vx.hid (HS2.out _ (HR.out.quiet HO3.out))
            clear ho HO
            go_wp2_with fail
            refine HS3.out.mono ?_
            rintro e w9 ⟨rfl, hr9, ho9⟩
            have HE : Hid (RefAt w9 br bb n R.1 ∧ Only (fun k => k = bb) w w9) := by rw [HR4.out]; exact ⟨hr9, (HO3.out.mono (fun _ _ h => h.elim)).trans ho9⟩
            clear hr9 ho9
            go_wp2_with fail
            all_goals
              go_ret
              refine ⟨?_, HE.out⟩
              rw [HR4.out]
              rfl
          · have HR4 : Hid (R = (f, 7)) := by show _ = _; rw [HR3.out]; exact if_neg h0
            have c1 : ¬ ((wordF f P : Nat) : Int) = 0 := by omega
            have c2 : (((wordF f P : Nat) : Int) != 0) = true := by simpa using c1
            generalize wordF f P = v at HW2 c1 c2
            clear h0 HR3
            go_wp2_with fail
            refine HW2.out.mono ?_
            rintro e w3' ⟨rfl, ho⟩
            have HO3 := Vx.hid (HO.out.trans ho)
            clear ho HO
            go_wp2_with fail
            all_goals
              go_ret
              rw [HR4.out]
              exact ⟨rfl, HR.out.quiet HO3.out, HO3.out.mono (fun _ _ h => h.elim)⟩
set_option maxHeartbeats 1000000 in
theorem refUnmap_any {w : World} {br bb n : Nat} {f : Nat → UInt8} (h : RefAt w br bb n f) (root : Int) (va : Nat) (hv : va < 4294967296) (fr : Int) :
    Calls Tryz.prog 46 #[.pointer (some ⟨br, 0, none⟩), .int .i64 root, .int .i64 (va : Int), .int .i64 fr] w fun e w' => e = .returned (.int .i64 ((unmapR f n root va fr).2 : Nat)) ∧ RefAt w' br bb n (unmapR f n root va fr).1 ∧ Only (fun k => k = bb) w w' := by
  by_cases hb : (hasB n root && hasB n fr) = true ∧ va % 4096 = 0
  case neg => exact refUnmap_refused h root va fr hb
  have HHP := Vx.hid (hasPages_any h root fr)
  have HR := Vx.hid h
  have HRR : Hid (unmapR f n root va fr = (match tabF f n root.toNat va with | some t => (if wordF f (frmP t va) % 2 = 1 ∧ wordF f (frmP t va) / 1024 = fr.toNat then (putF f (frmP t va) (fourB 0), 0) else (f, 6)) | none => (f, 15))) := if_pos hb
  obtain ⟨hb, hva⟩ := hb
  have hm1 : (va : Int) % 4096 = 0 := by omega
  have hm2 : Int.tmod (va : Int) 4096 = 0 := by rw [Int.tmod_eq_emod_of_nonneg (by omega)]; omega
  rw [hb] at HHP
  rw [Bool.and_eq_true] at hb
  obtain ⟨x, rfl, hr⟩ := hasB_nat hb.1
  obtain ⟨p, rfl, hp⟩ := hasB_nat hb.2
  rw [Int.toNat_natCast, Int.toNat_natCast] at HRR
  have hn := h.top
  have HTB := Vx.hid (refTable_any h x va hr hv)
  have HWD := Vx.hid (fun t (ht : t < n) wv (hm : RefAt wv br bb n f) => refWord_in hm (frmP t va) (frmP4 _ _) (frmP_in ht))
  have HSW := Vx.hid (fun t (ht : t < n) wv (hm : RefAt wv br bb n f) => refSet_in hm (frmP t va) 0 (by decide) (frmP4 _ _) (frmP_in ht))
  have HTL := Vx.hid (fun t (h : tabF f n x va = some t) => tabF_lt h)
  have HFP : Hid (∀ t, t < n → 4096 * (t : Int) + ((va / 4096 % 1024 : Nat) : Int) * 4 = ((frmP t va : Nat) : Int) ∧ IntKind.i64.wrap (4096 * (t : Int)) = 4096 * (t : Int) ∧ IntKind.i64.wrap ((frmP t va : Nat) : Int) = ((frmP t va : Nat) : Int)) := fun t ht => by
    have := frmP_in (v := va) ht
    refine ⟨by unfold frmP; omega, by rw [IntKind.wrap_i64]; omega, by rw [IntKind.wrap_i64]; omega⟩
  have q0 : Int.tdiv (va : Int) 4096 = ((va / 4096 : Nat) : Int) := by rw [Int.tdiv_eq_ediv_of_nonneg (by omega)]; omega
  have q0' : (va : Int) / 4096 = ((va / 4096 : Nat) : Int) := by omega
  have q1 : Int.tmod ((va / 4096 : Nat) : Int) 1024 = ((va / 4096 % 1024 : Nat) : Int) := by rw [Int.tmod_eq_emod_of_nonneg (by omega)]; omega
  have q1' : ((va / 4096 : Nat) : Int) % 1024 = ((va / 4096 % 1024 : Nat) : Int) := by omega
  have s0 : IntKind.i64.wrap ((va / 4096 : Nat) : Int) = ((va / 4096 : Nat) : Int) := by rw [IntKind.wrap_i64]; omega
  have s1 : IntKind.i64.wrap ((va / 4096 % 1024 : Nat) : Int) = ((va / 4096 % 1024 : Nat) : Int) := by rw [IntKind.wrap_i64]; omega
  have s2 : IntKind.i64.wrap (((va / 4096 % 1024 : Nat) : Int) * 4) = ((va / 4096 % 1024 : Nat) : Int) * 4 := by rw [IntKind.wrap_i64]; omega
  generalize va / 4096 % 1024 = q at q1 q1' s1 s2 HFP
  generalize va / 4096 = qq at q0 q0' q1 q1' s0
  generalize unmapR f n x va p = R at HRR
  generalize tabF f n x va = TF at HTB HRR HTL
  clear h hv hb hr hp hn hva
  go_enter Tryz.func46, Tryz.ntmps46
  go_wp2_with fail
  refine HHP.out.mono ?_
  rintro e w' ⟨rfl, h⟩
  have h2 := h.symm; clear h; subst h2
  go_wp2_with fail
  refine HTB.out.mono ?_
  rintro e w2' ⟨rfl, ho⟩
  have HO := Vx.hid ho
  clear ho
  cases TF with
  | none =>
    simp only [Option.getD_none, tabE]
    go_wp2_with fail
    all_goals
      go_ret
      rw [HRR.out]
      exact ⟨rfl, HR.out.quiet HO.out, HO.out.mono (fun _ _ h => h.elim)⟩
  | some t =>
    simp only [Option.getD_some, tabE]
    obtain ⟨z1, z2, z3⟩ := HFP.out t (HTL.out t rfl)
    have HW2 := Vx.hid (HWD.out t (HTL.out t rfl) _ (HR.out.quiet HO.out))
    have HS2 := Vx.hid (HSW.out t (HTL.out t rfl))
    have HR3 : Hid (R = if wordF f (frmP t va) % 2 = 1 ∧ wordF f (frmP t va) / 1024 = p then (putF f (frmP t va) (fourB 0), 0) else (f, 6)) := HRR.out
    have hlt := wordF_lt f (frmP t va)
    generalize frmP t va = P at HW2 HS2 HR3 z1 z3 hlt
    generalize wordF f P = v at HW2 HR3 hlt
    have t1 : Int.tdiv (v : Int) 1024 = ((v / 1024 : Nat) : Int) := by rw [Int.tdiv_eq_ediv_of_nonneg (by omega)]; omega
    have t2 : (v : Int) / 1024 = ((v / 1024 : Nat) : Int) := by omega
    have t5 : IntKind.i64.wrap ((v / 1024 : Nat) : Int) = ((v / 1024 : Nat) : Int) := by rw [IntKind.wrap_i64]; omega
    have t3 : Int.tmod (v : Int) 2 = ((v % 2 : Nat) : Int) := by rw [Int.tmod_eq_emod_of_nonneg (by omega)]; omega
    have t4 : (v : Int) % 2 = ((v % 2 : Nat) : Int) := by omega
    have t6 : IntKind.i64.wrap ((v % 2 : Nat) : Int) = ((v % 2 : Nat) : Int) := by rw [IntKind.wrap_i64]; omega
    clear HRR HTL HFP HWD HSW hlt
    by_cases h1 : v % 2 = 1
    · rw [h1] at t3 t4 t6
      by_cases h2 : v / 1024 = p
      · have HR4 : Hid (R = (putF f P (fourB 0), 0)) := by show _ = _; rw [HR3.out, if_pos ⟨h1, h2⟩]
        rw [h2] at t1 t2 t5
        clear h1 h2 HR3
        go_wp2_with fail
        refine HW2.out.mono ?_
        rintro e w3' ⟨rfl, ho⟩
        have HO3 := Vx.hid (HO.out.trans ho)
        have HS3 := Vx.hid (HS2.out _ (HR.out.quiet HO3.out))
        clear ho HO
        go_wp2_with fail
        refine HS3.out.mono ?_
        rintro e w9 ⟨rfl, hr9, ho9⟩
        have HE : Hid (RefAt w9 br bb n R.1 ∧ Only (fun k => k = bb) w w9) := by rw [HR4.out]; exact ⟨hr9, (HO3.out.mono (fun _ _ h => h.elim)).trans ho9⟩
        clear hr9 ho9
        go_wp2_with fail
        all_goals
          go_ret
          refine ⟨?_, HE.out⟩
          rw [HR4.out]
          rfl
      · have HR4 : Hid (R = (f, 6)) := by show _ = _; rw [HR3.out, if_neg (fun hc => h2 hc.2)]
        generalize v / 1024 = pv at t1 t2 t5 h2
        have c1 : ¬ (pv : Int) = (p : Int) := by omega
        have c2 : ((pv : Int) != (p : Int)) = true := by simpa using c1
        clear h1 h2 HR3
        go_wp2_with fail
        refine HW2.out.mono ?_
        rintro e w3' ⟨rfl, ho⟩
        have HO3 := Vx.hid (HO.out.trans ho)
        clear ho HO
        go_wp2_with fail
        all_goals
          go_ret
          rw [HR4.out]
          exact ⟨rfl, HR.out.quiet HO3.out, HO3.out.mono (fun _ _ h => h.elim)⟩
    · have HR4 : Hid (R = (f, 6)) := by show _ = _; rw [HR3.out, if_neg (fun hc => h1 hc.1)]
      rw [show v % 2 = 0 by omega] at t3 t4 t6
      clear h1 HR3
      go_wp2_with fail
      refine HW2.out.mono ?_
      rintro e w3' ⟨rfl, ho⟩
      have HO3 := Vx.hid (HO.out.trans ho)
      clear ho HO
      go_wp2_with fail
      all_goals
        go_ret
        rw [HR4.out]
        exact ⟨rfl, HR.out.quiet HO3.out, HO3.out.mono (fun _ _ h => h.elim)⟩
end Go.Proofs.YtflmobffeeocdaaGreatDoor

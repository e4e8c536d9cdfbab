/- Walks of package vspace: Unmap. -/
import Derived.Test.YtflmobffeeocdaaGreatDoorK3
namespace Go.Proofs.YtflmobffeeocdaaGreatDoor
open Go.ChangeShapes Go.WideShapes Go.ChangeAt Go.RowKit
open Go.Vx

theorem unmap_refused {U : Nat → Prop} {w : World} {bm n : Nat} {f : Nat → UInt8} (h : MemAt U w bm n f) (root : Int) (va : Nat) (fr : Int) (hb : ¬ ((hasB n root && hasB n fr) = true ∧ va % 4096 = 0)) :
    Calls Tryz.prog 45 #[.pointer (some ⟨bm, 0, none⟩), .int .i64 root, .int .u32 (va : Int), .int .i64 fr] w fun e w' => e = .returned (.int .i64 ((unmapR f n root va fr).2 : Nat)) ∧ MemAt U w' bm n (unmapR f n root va fr).1 ∧ Only (fun k => ¬ U k) w w' := by
  have HTH := Vx.hid (there2 h root fr)
  have HM := Vx.hid h
  have HR : Hid (unmapR f n root va fr = (f, 1)) := if_neg hb
  have hm1 : (va : Int) % 4096 = ((va % 4096 : Nat) : Int) := by omega
  have hm2 : Int.tmod (va : Int) 4096 = ((va % 4096 : Nat) : Int) := by rw [Int.tmod_eq_emod_of_nonneg (by omega)]; omega
  have hw : IntKind.u32.wrap ((va % 4096 : Nat) : Int) = ((va % 4096 : Nat) : Int) := by rw [IntKind.wrap_u32]; omega
  generalize unmapR f n root va fr = R at HR
  cases hB : (hasB n root && hasB n fr) with
  | true =>
    have c1 : ¬ ((va % 4096 : Nat) : Int) = 0 := by
      intro hc
      exact hb ⟨hB, by omega⟩
    have c2 : (((va % 4096 : Nat) : Int) != 0) = true := by simpa using c1
    rw [hB] at HTH
    generalize va % 4096 = m at hm1 hm2 c1 c2 hw
    clear h hb hB
    go_enter Tryz.func45, Tryz.ntmps45
    go_wp2_with fail
    refine HTH.out.mono ?_
    rintro e w1 ⟨rfl, h1⟩
    have HO1 : Hid (Only (fun _ => False) w w1) := by show Only _ _ _; rw [h1]; exact (Only.refl _ w).alloc _
    clear h1
    go_wp2_with fail
    all_goals
      go_ret
      rw [HR.out]
      exact ⟨rfl, HM.out.quiet HO1.out, HO1.out.mono (fun _ _ h => h.elim)⟩
  | false =>
    rw [hB] at HTH
    clear h hb hB hm1 hm2 hw
    go_enter Tryz.func45, Tryz.ntmps45
    go_wp2_with fail
    refine HTH.out.mono ?_
    rintro e w1 ⟨rfl, h1⟩
    have HO1 : Hid (Only (fun _ => False) w w1) := by show Only _ _ _; rw [h1]; exact (Only.refl _ w).alloc _
    clear h1
    go_wp2_with fail
    all_goals
      go_ret
      rw [HR.out]
      exact ⟨rfl, HM.out.quiet HO1.out, HO1.out.mono (fun _ _ h => h.elim)⟩
theorem unmap_any {U : Nat → Prop} {w : World} {bm n : Nat} {f : Nat → UInt8} (h : MemAt U w bm n f) (root : Int) (va : Nat) (hv : va < 4294967296) (fr : Int) :
    Calls Tryz.prog 45 #[.pointer (some ⟨bm, 0, none⟩), .int .i64 root, .int .u32 (va : Int), .int .i64 fr] w fun e w' => e = .returned (.int .i64 ((unmapR f n root va fr).2 : Nat)) ∧ MemAt U w' bm n (unmapR f n root va fr).1 ∧ Only (fun k => ¬ U k) w w' := by
  by_cases hb : (hasB n root && hasB n fr) = true ∧ va % 4096 = 0
  case neg => exact unmap_refused h root va fr hb
  have HTH := Vx.hid (there2 h root fr)
  have HM := Vx.hid h
  have HR : Hid (unmapR f n root va fr = (match tabF f n root.toNat va with | some t => (if wordF f (frmP t va) % 2 = 1 ∧ wordF f (frmP t va) / 1024 = fr.toNat then (putF f (frmP t va) (fourB 0), 0) else (f, 6)) | none => (f, 15))) := if_pos hb
  obtain ⟨hb, hva⟩ := hb
  have hm1 : (va : Int) % 4096 = 0 := by omega
  have hm2 : Int.tmod (va : Int) 4096 = 0 := by rw [Int.tmod_eq_emod_of_nonneg (by omega)]; omega
  rw [hb] at HTH
  rw [Bool.and_eq_true] at hb
  obtain ⟨x, rfl, hr⟩ := hasB_nat hb.1
  obtain ⟨p, rfl, hp⟩ := hasB_nat hb.2
  rw [Int.toNat_natCast, Int.toNat_natCast] at HR
  have hn := h.top
  have HTB := Vx.hid (fun wv (hm : MemAt U wv bm n f) => table_any hm x va hr hv)
  have HFA := Vx.hid (fun t (ht : t < n) wv => frameAt_any t va (by omega) hv wv)
  have HWD := Vx.hid (fun t (ht : t < n) wv (hm : MemAt U wv bm n f) => word_ok hm (frmP t va) (frmP4 _ _) (frmP_in ht))
  have HSW := Vx.hid (fun t (ht : t < n) wv bp q (hm : MemIs U wv bm bp n q f) => setWord_ok hm (frmP t va) 0 (by decide) (frmP4 _ _) (frmP_in ht))
  have HTL := Vx.hid (fun t (h : tabF f n x va = some t) => tabF_lt h)
  generalize unmapR f n x va p = R at HR
  generalize tabF f n x va = TF at HTB HR HTL
  clear h hv hb hr hp hn hva
  cases TF with
  | none =>
    go_enter Tryz.func45, Tryz.ntmps45
    go_wp2_with fail
    refine HTH.out.mono ?_
    rintro e w1 ⟨rfl, h1⟩
    have HO1 : Hid (Only (fun _ => False) w w1) := by show Only _ _ _; rw [h1]; exact (Only.refl _ w).alloc _
    clear h1
    go_wp2_with fail
    refine (HTB.out _ (HM.out.quiet HO1.out)).mono ?_
    rintro e w2 ⟨rfl, ho2⟩
    have HO2 := Vx.hid (HO1.out.trans ho2)
    clear ho2 HO1
    simp only [Option.getD_none, Option.isSome_none]
    go_wp2_with fail
    all_goals
      go_ret
      rw [HR.out]
      exact ⟨rfl, HM.out.quiet HO2.out, HO2.out.mono (fun _ _ h => h.elim)⟩
  | some t =>
    have HF2 := Vx.hid (HFA.out t (HTL.out t rfl))
    have HW2 := Vx.hid (HWD.out t (HTL.out t rfl))
    have HS2 := Vx.hid (HSW.out t (HTL.out t rfl))
    have HR2 : Hid (R = if wordF f (frmP t va) % 2 = 1 ∧ wordF f (frmP t va) / 1024 = p then (putF f (frmP t va) (fourB 0), 0) else (f, 6)) := HR.out
    have hlt := wordF_lt f (frmP t va)
    generalize frmP t va = P at HF2 HW2 HS2 HR2 hlt
    generalize wordF f P = v at HW2 HR2 hlt
    have hb1 : bits .and .u32 (v : Int) 1 = ((v % 2 : Nat) : Int) := by
      rw [u32_and (v : Int) 1 (by omega) (by omega) (by decide) (by decide)]
      show ((v &&& 1 : Nat) : Int) = _
      rw [Nat.and_one_is_mod]
    have HPG := Vx.hid (fun wv => vpage_any v hlt wv)
    clear HR HFA HWD HSW HTL hlt
    by_cases h1 : v % 2 = 1
    · have hb2 : bits .and .u32 (v : Int) 1 = 1 := by rw [hb1, h1]; rfl
      clear hb1
      by_cases h2 : v / 1024 = p
      · have HR3 : Hid (R = (putF f P (fourB 0), 0)) := by show _ = _; rw [HR2.out, if_pos ⟨h1, h2⟩]
        rw [h2] at HPG
        clear HR2 h1 h2
        go_enter Tryz.func45, Tryz.ntmps45
        go_wp2_with fail
        refine HTH.out.mono ?_
        rintro e w1 ⟨rfl, h1⟩
        have HO1 : Hid (Only (fun _ => False) w w1) := by show Only _ _ _; rw [h1]; exact (Only.refl _ w).alloc _
        clear h1
        go_wp2_with fail
        refine (HTB.out _ (HM.out.quiet HO1.out)).mono ?_
        rintro e w2 ⟨rfl, ho2⟩
        have HO2 := Vx.hid (HO1.out.trans ho2)
        clear ho2 HO1
        simp only [Option.getD_some, Option.isSome_some]
        go_wp2_with fail
        refine (HF2.out _).mono ?_
        rintro e w' ⟨rfl, h⟩
        have h2 := h.symm; clear h; subst h2
        go_wp2_with fail
        refine (HW2.out _ (HM.out.quiet HO2.out)).mono ?_
        rintro e w3 ⟨rfl, ho3⟩
        have HO3 := Vx.hid (HO2.out.trans ho3)
        clear ho3 HO2
        go_wp2_with fail
        refine (HPG.out _).mono ?_
        rintro e w' ⟨rfl, h⟩
        have h2 := h.symm; clear h; subst h2
        obtain ⟨bp, q, hm3⟩ := HM.out.quiet HO3.out
        have HS3 := Vx.hid (HS2.out _ bp q hm3)
        clear hm3
        go_wp2_with fail
        refine HS3.out.mono ?_
        rintro e w4 ⟨rfl, hm4, ho4⟩
        have HE : Hid (MemAt U w4 bm n R.1 ∧ Only (fun k => ¬ U k) w w4) := by rw [HR3.out]; exact ⟨⟨bp, hm4⟩, (HO3.out.mono (fun _ _ h => h.elim)).trans ho4⟩
        clear hm4 ho4
        go_wp2_with fail
        all_goals
          go_ret
          refine ⟨?_, HE.out⟩
          rw [HR3.out]
          rfl
      · have HR3 : Hid (R = (f, 6)) := by show _ = _; rw [HR2.out, if_neg (fun hc => h2 hc.2)]
        generalize v / 1024 = pv at HPG h2
        have c1 : ¬ (pv : Int) = (p : Int) := by omega
        have c2 : ((pv : Int) != (p : Int)) = true := by simpa using c1
        clear HR2 h1 h2
        go_enter Tryz.func45, Tryz.ntmps45
        go_wp2_with fail
        refine HTH.out.mono ?_
        rintro e w1 ⟨rfl, h1⟩
        have HO1 : Hid (Only (fun _ => False) w w1) := by show Only _ _ _; rw [h1]; exact (Only.refl _ w).alloc _
        clear h1
        go_wp2_with fail
        refine (HTB.out _ (HM.out.quiet HO1.out)).mono ?_
        rintro e w2 ⟨rfl, ho2⟩
        have HO2 := Vx.hid (HO1.out.trans ho2)
        clear ho2 HO1
        simp only [Option.getD_some, Option.isSome_some]
        go_wp2_with fail
        refine (HF2.out _).mono ?_
        rintro e w' ⟨rfl, h⟩
        have h2 := h.symm; clear h; subst h2
        go_wp2_with fail
        refine (HW2.out _ (HM.out.quiet HO2.out)).mono ?_
        rintro e w3 ⟨rfl, ho3⟩
        have HO3 := Vx.hid (HO2.out.trans ho3)
        clear ho3 HO2
        go_wp2_with fail
        refine (HPG.out _).mono ?_
        rintro e w' ⟨rfl, h⟩
        have h2 := h.symm; clear h; subst h2
        go_wp2_with fail
        all_goals
          go_ret
          rw [HR3.out]
          exact ⟨rfl, HM.out.quiet HO3.out, HO3.out.mono (fun _ _ h => h.elim)⟩
    · have hb2 : bits .and .u32 (v : Int) 1 = 0 := by rw [hb1, show v % 2 = 0 by omega]; rfl
      have HR3 : Hid (R = (f, 6)) := by show _ = _; rw [HR2.out, if_neg (fun hc => h1 hc.1)]
      clear HR2 h1 hb1
      go_enter Tryz.func45, Tryz.ntmps45
      go_wp2_with fail
      refine HTH.out.mono ?_
      rintro e w1 ⟨rfl, h1⟩
      have HO1 : Hid (Only (fun _ => False) w w1) := by show Only _ _ _; rw [h1]; exact (Only.refl _ w).alloc _
      clear h1
      go_wp2_with fail
      refine (HTB.out _ (HM.out.quiet HO1.out)).mono ?_
      rintro e w2 ⟨rfl, ho2⟩
      have HO2 := Vx.hid (HO1.out.trans ho2)
      clear ho2 HO1
      simp only [Option.getD_some, Option.isSome_some]
      go_wp2_with fail
      refine (HF2.out _).mono ?_
      rintro e w' ⟨rfl, h⟩
      have h2 := h.symm; clear h; subst h2
      go_wp2_with fail
      refine (HW2.out _ (HM.out.quiet HO2.out)).mono ?_
      rintro e w3 ⟨rfl, ho3⟩
      have HO3 := Vx.hid (HO2.out.trans ho3)
      clear ho3 HO2
      go_wp2_with fail
      all_goals
        go_ret
        rw [HR3.out]
        exact ⟨rfl, HM.out.quiet HO3.out, HO3.out.mono (fun _ _ h => h.elim)⟩
end Go.Proofs.YtflmobffeeocdaaGreatDoor

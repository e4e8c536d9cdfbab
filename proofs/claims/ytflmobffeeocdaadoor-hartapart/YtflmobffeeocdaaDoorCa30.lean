import Derived.Test.YtflmobffeeocdaaDoorCa29
/- Walks of package vspace: Table, NoTable, Map, Unmap. -/
namespace Go.Proofs.YtflmobffeeocdaaDoor
open Go.ChangeShapes Go.WideShapes Go.ChangeAt Go.RowKit
open Go.Vx

def tableR (f : Nat → UInt8) (n : Nat) (root : Int) (va : Nat) (t : Int) : (Nat → UInt8) × Nat := if (hasB n root && hasB n t) = true then fillF f (tabP root.toNat va) (1024 * t.toNat + 1) else (f, 1)
def noTableR (f : Nat → UInt8) (n : Nat) (root : Int) (va : Nat) (t : Int) : (Nat → UInt8) × Nat := if (hasB n root && hasB n t) = true then (if tabF f n root.toNat va = some t.toNat then (putF f (tabP root.toNat va) (fourB 0), 0) else (f, 15)) else (f, 1)
/-- The bits of a frame's entry. -/
def bitsN (r : Int) : Nat := if r = 1 then 83 else if r = 3 then 215 else if r = 4 then 89 else if r = 5 then 91 else 223
def mapR (f : Nat → UInt8) (n : Nat) (root : Int) (va : Nat) (fr r : Int) : (Nat → UInt8) × Nat :=
  if (hasB n root && hasB n fr) = true ∧ va % 4096 = 0 then (if mayB r = true then (match tabF f n root.toNat va with | some t => fillF f (frmP t va) (1024 * fr.toNat + bitsN r) | none => (f, 15)) else (f, 13)) else (f, 1)
def unmapR (f : Nat → UInt8) (n : Nat) (root : Int) (va : Nat) (fr : Int) : (Nat → UInt8) × Nat :=
  if (hasB n root && hasB n fr) = true ∧ va % 4096 = 0 then (match tabF f n root.toNat va with | some t => (if wordF f (frmP t va) % 2 = 1 ∧ wordF f (frmP t va) / 1024 = fr.toNat then (putF f (frmP t va) (fourB 0), 0) else (f, 6)) | none => (f, 15)) else (f, 1)
theorem bitsN_lt (r : Int) : bitsN r < 1024 := by
  unfold bitsN
  split
  · decide
  · split
    · decide
    · split
      · decide
      · split <;> decide
theorem tabP4 (r v : Nat) : tabP r v % 4 = 0 := by unfold tabP; omega
theorem frmP4 (r v : Nat) : frmP r v % 4 = 0 := by unfold frmP; omega
theorem tabP_in {r v n : Nat} (h : r < n) (hv : v < 4294967296) : tabP r v + 4 ≤ 4096 * n := by unfold tabP; omega
theorem frmP_in {r v n : Nat} (h : r < n) : frmP r v + 4 ≤ 4096 * n := by unfold frmP; omega
theorem MemAt.top {U : Nat → Prop} {w : World} {bm n : Nat} {f : Nat → UInt8} (h : MemAt U w bm n f) : n ≤ 256 := by obtain ⟨bp, q, h⟩ := h; exact h.top
theorem MemAt.quiet {U : Nat → Prop} {w w' : World} {bm n : Nat} {f : Nat → UInt8} (h : MemAt U w bm n f) (ho : Only (fun _ => False) w w') : MemAt U w' bm n f := h.only ho (fun _ h _ => h.elim)
theorem putTable_any {U : Nat → Prop} {w : World} {bm n : Nat} {f : Nat → UInt8} (h : MemAt U w bm n f) (root : Int) (va : Nat) (hv : va < 4294967296) (t : Int) :
    Calls Tryd.prog 12 #[.pointer (some ⟨bm, 0, none⟩), .int .i64 root, .int .u32 (va : Int), .int .i64 t] w fun e w' => e = .returned (.int .i64 ((tableR f n root va t).2 : Nat)) ∧ MemAt U w' bm n (tableR f n root va t).1 ∧ Only (fun k => ¬ U k) w w' := by
  have HTH := Vx.hid (there2 h root t)
  have HM := Vx.hid h
  by_cases hb : (hasB n root && hasB n t) = true
  · have HR : Hid (tableR f n root va t = fillF f (tabP root.toNat va) (1024 * t.toNat + 1)) := if_pos hb
    rw [hb] at HTH
    rw [Bool.and_eq_true] at hb
    obtain ⟨r, rfl, hr⟩ := hasB_nat hb.1
    obtain ⟨p, rfl, hp⟩ := hasB_nat hb.2
    rw [Int.toNat_natCast, Int.toNat_natCast] at HR
    have hn := h.top
    have HTA := Vx.hid (fun wv => tableAt_any r va (by omega) hv wv)
    have HEN := Vx.hid (fun wv => entry_any p 1 (by omega) (by decide) wv)
    have HFI := Vx.hid (fun wv (hm : MemAt U wv bm n f) => fill_any hm (tabP r va) (1024 * p + 1) (tabP4 _ _) (tabP_in hr hv) (by omega))
    generalize tableR f n r va p = R at HR
    generalize 1024 * p + 1 = x at HEN HFI HR
    generalize tabP r va = P at HTA HFI HR
    clear h hv hb hr hp hn
    go_enter Tryd.func12, Tryd.ntmps12
    go_wp2_with fail
    refine HTH.out.mono ?_
    rintro e w1 ⟨rfl, h1⟩
    have HO1 : Hid (Only (fun _ => False) w w1) := by show Only _ _ _; rw [h1]; exact (Only.refl _ w).alloc _
    clear h1
    go_wp2_with fail
    refine (HTA.out _).mono ?_
    rintro e w' ⟨rfl, h⟩
    have h2 := h.symm; clear h; subst h2
    go_wp2_with fail
    refine (HEN.out _).mono ?_
    rintro e w' ⟨rfl, h⟩
    have h2 := h.symm; clear h; subst h2
    go_wp2_with fail
    refine (HFI.out _ (HM.out.quiet HO1.out)).mono ?_
    rintro e w2 ⟨rfl, hm2, ho2⟩
    have HE : Hid (MemAt U w2 bm n R.1 ∧ Only (fun k => ¬ U k) w w2) := by rw [HR.out]; exact ⟨hm2, (HO1.out.mono (fun _ _ h => h.elim)).trans ho2⟩
    clear hm2 ho2
    rw [← HR.out]
    obtain ⟨ee, HEE⟩ : ∃ ee, Hid (R.2 = ee) := ⟨_, rfl⟩
    rw [HEE.out]
    go_wp2_with fail
    all_goals
      go_ret
      rw [HEE.out]
      exact ⟨rfl, HE.out⟩
  · have HR : Hid (tableR f n root va t = (f, 1)) := if_neg hb
    have hb2 : (hasB n root && hasB n t) = false := by simpa using hb
    rw [hb2] at HTH
    clear h hv hb hb2
    go_enter Tryd.func12, Tryd.ntmps12
    go_wp2_with fail
    refine HTH.out.mono ?_
    rintro e w1 ⟨rfl, h1⟩
    have HO1 : Hid (Only (fun _ => False) w w1) := by show Only _ _ _; rw [h1]; exact (Only.refl _ w).alloc _
    clear h1
    go_wp2_with fail
    all_goals
      go_ret
      rw [HR.out]
      exact ⟨rfl, HM.out.quiet HO1.out, HO1.out.mono (fun _ _ h => h.elim)⟩
end Go.Proofs.YtflmobffeeocdaaDoor
/- Walks of package vspace: Map. -/
namespace Go.Proofs.YtflmobffeeocdaaDoor
open Go.ChangeShapes Go.WideShapes Go.ChangeAt Go.RowKit
open Go.Vx

theorem map_refused {U : Nat → Prop} {w : World} {bm n : Nat} {f : Nat → UInt8} (h : MemAt U w bm n f) (root : Int) (va : Nat) (fr r : Int) (hb : ¬ ((hasB n root && hasB n fr) = true ∧ va % 4096 = 0)) :
    Calls Tryd.prog 13 #[.pointer (some ⟨bm, 0, none⟩), .int .i64 root, .int .u32 (va : Int), .int .i64 fr, .int .i64 r] w fun e w' => e = .returned (.int .i64 ((mapR f n root va fr r).2 : Nat)) ∧ MemAt U w' bm n (mapR f n root va fr r).1 ∧ Only (fun k => ¬ U k) w w' := by
  have HTH := Vx.hid (there2 h root fr)
  have HM := Vx.hid h
  have HR : Hid (mapR f n root va fr r = (f, 1)) := if_neg hb
  have hm1 : (va : Int) % 4096 = ((va % 4096 : Nat) : Int) := by omega
  have hm2 : Int.tmod (va : Int) 4096 = ((va % 4096 : Nat) : Int) := by rw [Int.tmod_eq_emod_of_nonneg (by omega)]; omega
  have hw : IntKind.u32.wrap ((va % 4096 : Nat) : Int) = ((va % 4096 : Nat) : Int) := by rw [IntKind.wrap_u32]; omega
  generalize mapR f n root va fr r = R at HR
  cases hB : (hasB n root && hasB n fr) with
  | true =>
    have c1 : ¬ ((va % 4096 : Nat) : Int) = 0 := by
      intro hc
      exact hb ⟨hB, by omega⟩
    have c2 : (((va % 4096 : Nat) : Int) != 0) = true := by simpa using c1
    rw [hB] at HTH
    generalize va % 4096 = m at hm1 hm2 c1 c2 hw
    clear h hb hB
    go_enter Tryd.func13, Tryd.ntmps13
    go_wp2_with fail
    refine HTH.out.mono ?_
    rintro e w1 ⟨rfl, h1⟩
    have HO1 : Hid (Only (fun _ => False) w w1) := by show Only _ _ _; rw [h1]; exact (Only.refl _ w).alloc _
    clear h1
    go_wp2_with fail
    all_goals
      go_ret
      rw [HR.out]
      exact ⟨rfl, HM.out.quiet HO1.out, HO1.out.mono (fun _ _ h => h.elim)⟩
  | false =>
    rw [hB] at HTH
    clear h hb hB hm1 hm2 hw
    go_enter Tryd.func13, Tryd.ntmps13
    go_wp2_with fail
    refine HTH.out.mono ?_
    rintro e w1 ⟨rfl, h1⟩
    have HO1 : Hid (Only (fun _ => False) w w1) := by show Only _ _ _; rw [h1]; exact (Only.refl _ w).alloc _
    clear h1
    go_wp2_with fail
    all_goals
      go_ret
      rw [HR.out]
      exact ⟨rfl, HM.out.quiet HO1.out, HO1.out.mono (fun _ _ h => h.elim)⟩
set_option maxHeartbeats 2000000 in
theorem map_any {U : Nat → Prop} {w : World} {bm n : Nat} {f : Nat → UInt8} (h : MemAt U w bm n f) (root : Int) (va : Nat) (hv : va < 4294967296) (fr r : Int) :
    Calls Tryd.prog 13 #[.pointer (some ⟨bm, 0, none⟩), .int .i64 root, .int .u32 (va : Int), .int .i64 fr, .int .i64 r] w fun e w' => e = .returned (.int .i64 ((mapR f n root va fr r).2 : Nat)) ∧ MemAt U w' bm n (mapR f n root va fr r).1 ∧ Only (fun k => ¬ U k) w w' := by
  by_cases hb : (hasB n root && hasB n fr) = true ∧ va % 4096 = 0
  case neg => exact map_refused h root va fr r hb
  have HTH := Vx.hid (there2 h root fr)
  have HM := Vx.hid h
  have HR : Hid (mapR f n root va fr r = if mayB r = true then (match tabF f n root.toNat va with | some t => fillF f (frmP t va) (1024 * fr.toNat + bitsN r) | none => (f, 15)) else (f, 13)) := if_pos hb
  obtain ⟨hb, hva⟩ := hb
  have hm1 : (va : Int) % 4096 = 0 := by omega
  have hm2 : Int.tmod (va : Int) 4096 = 0 := by rw [Int.tmod_eq_emod_of_nonneg (by omega)]; omega
  rw [hb] at HTH
  rw [Bool.and_eq_true] at hb
  obtain ⟨x, rfl, hr⟩ := hasB_nat hb.1
  obtain ⟨p, rfl, hp⟩ := hasB_nat hb.2
  rw [Int.toNat_natCast, Int.toNat_natCast] at HR
  have hn := h.top
  have HMB := Vx.hid (fun wv => mayBe_any r wv)
  have HTB := Vx.hid (fun wv (hm : MemAt U wv bm n f) => table_any hm x va hr hv)
  have HFA := Vx.hid (fun t (ht : t < n) wv => frameAt_any t va (by omega) hv wv)
  have HEN := Vx.hid (fun b (hb : b < 1024) wv => entry_any p b (by omega) hb wv)
  have HFI := Vx.hid (fun t (ht : t < n) wv (hm : MemAt U wv bm n f) => fill_any hm (frmP t va) (1024 * p + bitsN r) (frmP4 _ _) (frmP_in ht) (by have := bitsN_lt r; omega))
  have HTL := Vx.hid (fun t (h : tabF f n x va = some t) => tabF_lt h)
  generalize mapR f n x va p r = R at HR
  generalize tabF f n x va = TF at HTB HR HTL
  clear h hv hb hr hp hn hva
  cases hmb : mayB r with
  | false =>
    have HR2 : Hid (R = (f, 13)) := by show _ = _; rw [HR.out, hmb, if_neg (by simp)]
    rw [hmb] at HMB
    clear HR hmb
    go_enter Tryd.func13, Tryd.ntmps13
    go_wp2_with fail
    refine HTH.out.mono ?_
    rintro e w1 ⟨rfl, h1⟩
    have HO1 : Hid (Only (fun _ => False) w w1) := by show Only _ _ _; rw [h1]; exact (Only.refl _ w).alloc _
    clear h1
    go_wp2_with fail
    refine (HMB.out _).mono ?_
    rintro e w' ⟨rfl, h⟩
    have h2 := h.symm; clear h; subst h2
    go_wp2_with fail
    all_goals
      go_ret
      rw [HR2.out]
      exact ⟨rfl, HM.out.quiet HO1.out, HO1.out.mono (fun _ _ h => h.elim)⟩
  | true =>
    rw [hmb] at HMB HR
    rw [if_pos rfl] at HR
    cases TF with
    | none =>
      clear hmb
      go_enter Tryd.func13, Tryd.ntmps13
      go_wp2_with fail
      refine HTH.out.mono ?_
      rintro e w1 ⟨rfl, h1⟩
      have HO1 : Hid (Only (fun _ => False) w w1) := by show Only _ _ _; rw [h1]; exact (Only.refl _ w).alloc _
      clear h1
      go_wp2_with fail
      refine (HMB.out _).mono ?_
      rintro e w' ⟨rfl, h⟩
      have h2 := h.symm; clear h; subst h2
      go_wp2_with fail
      refine (HTB.out _ (HM.out.quiet HO1.out)).mono ?_
      rintro e w2 ⟨rfl, ho2⟩
      have HO2 := Vx.hid (HO1.out.trans ho2)
      clear ho2 HO1
      simp only [Option.getD_none, Option.isSome_none]
      go_wp2_with fail
      all_goals
        go_ret
        rw [HR.out]
        exact ⟨rfl, HM.out.quiet HO2.out, HO2.out.mono (fun _ _ h => h.elim)⟩
    | some t =>
      have HF2 := Vx.hid (HFA.out t (HTL.out t rfl))
      have HI2 := Vx.hid (HFI.out t (HTL.out t rfl))
      have HR2 : Hid (R = fillF f (frmP t va) (1024 * p + bitsN r)) := HR.out
      generalize frmP t va = P at HF2 HI2 HR2
      clear HR HFA HFI HTL
      have HE2 := Vx.hid (HEN.out (bitsN r) (bitsN_lt r))
      generalize 1024 * p + bitsN r = X at HE2 HI2 HR2
      obtain ⟨B, hB⟩ : ∃ B, B = bitsN r := ⟨_, rfl⟩
      rw [← hB] at HE2
      clear HEN
      rcases mayB_cases hmb with rfl | rfl | rfl | rfl | rfl
      all_goals
        first | (obtain rfl : B = 83 := hB) | (obtain rfl : B = 215 := hB) | (obtain rfl : B = 89 := hB) | (obtain rfl : B = 91 := hB) | (obtain rfl : B = 223 := hB)
        clear hmb
        go_enter Tryd.func13, Tryd.ntmps13
        go_wp2_with fail
        refine HTH.out.mono ?_
        rintro e w1 ⟨rfl, h1⟩
        have HO1 : Hid (Only (fun _ => False) w w1) := by show Only _ _ _; rw [h1]; exact (Only.refl _ w).alloc _
        clear h1
        go_wp2_with fail
        refine (HMB.out _).mono ?_
        rintro e w' ⟨rfl, h⟩
        have h2 := h.symm; clear h; subst h2
        go_wp2_with fail
        refine (HTB.out _ (HM.out.quiet HO1.out)).mono ?_
        rintro e w2 ⟨rfl, ho2⟩
        have HO2 := Vx.hid (HO1.out.trans ho2)
        clear ho2 HO1
        simp only [Option.getD_some, Option.isSome_some]
        go_wp2_with fail
        refine (HF2.out _).mono ?_
        rintro e w' ⟨rfl, h⟩
        have h2 := h.symm; clear h; subst h2
        go_wp2_with fail
        refine (HE2.out _).mono ?_
        rintro e w' ⟨rfl, h⟩
        have h2 := h.symm; clear h; subst h2
        go_wp2_with fail
        refine (HI2.out _ (HM.out.quiet HO2.out)).mono ?_
        rintro e w3 ⟨rfl, hm3, ho3⟩
        have HE : Hid (MemAt U w3 bm n R.1 ∧ Only (fun k => ¬ U k) w w3) := by rw [HR2.out]; exact ⟨hm3, (HO2.out.mono (fun _ _ h => h.elim)).trans ho3⟩
        clear hm3 ho3
        rw [← HR2.out]
        obtain ⟨ee, HEE⟩ : ∃ ee, Hid (R.2 = ee) := ⟨_, rfl⟩
        rw [HEE.out]
        go_wp2_with fail
        all_goals
          go_ret
          rw [HEE.out]
          exact ⟨rfl, HE.out⟩
end Go.Proofs.YtflmobffeeocdaaDoor

/- Walks of package vspace: Unmap. -/
namespace Go.Proofs.YtflmobffeeocdaaDoor
open Go.ChangeShapes Go.WideShapes Go.ChangeAt Go.RowKit
open Go.Vx

end Go.Proofs.YtflmobffeeocdaaDoor
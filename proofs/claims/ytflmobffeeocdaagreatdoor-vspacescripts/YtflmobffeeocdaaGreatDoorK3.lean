/- Walks of package vspace: Table, NoTable, Map, Unmap. -/
import Derived.Test.YtflmobffeeocdaaGreatDoorK2
namespace Go.Proofs.YtflmobffeeocdaaGreatDoor
open Go.ChangeShapes Go.WideShapes Go.ChangeAt Go.RowKit
open Go.Vx

def tableR (f : Nat → UInt8) (n : Nat) (root : Int) (va : Nat) (t : Int) : (Nat → UInt8) × Nat := if (hasB n root && hasB n t) = true then fillF f (tabP root.toNat va) (1024 * t.toNat + 1) else (f, 1)
def noTableR (f : Nat → UInt8) (n : Nat) (root : Int) (va : Nat) (t : Int) : (Nat → UInt8) × Nat := if (hasB n root && hasB n t) = true then (if tabF f n root.toNat va = some t.toNat then (putF f (tabP root.toNat va) (fourB 0), 0) else (f, 15)) else (f, 1)
/-- The bits of a frame's entry. -/
def bitsN (r : Int) : Nat := if r = 1 then 83 else if r = 3 then 215 else if r = 4 then 89 else if r = 5 then 91 else 223
def mapR (f : Nat → UInt8) (n : Nat) (root : Int) (va : Nat) (fr r : Int) : (Nat → UInt8) × Nat :=
  if (hasB n root && hasB n fr) = true ∧ va % 4096 = 0 then (if mayB r = true then (match tabF f n root.toNat va with | some t => fillF f (frmP t va) (1024 * fr.toNat + bitsN r) | none => (f, 15)) else (f, 13)) else (f, 1)
def unmapR (f : Nat → UInt8) (n : Nat) (root : Int) (va : Nat) (fr : Int) : (Nat → UInt8) × Nat :=
  if (hasB n root && hasB n fr) = true ∧ va % 4096 = 0 then (match tabF f n root.toNat va with | some t => (if wordF f (frmP t va) % 2 = 1 ∧ wordF f (frmP t va) / 1024 = fr.toNat then (putF f (frmP t va) (fourB 0), 0) else (f, 6)) | none => (f, 15)) else (f, 1)
theorem bitsN_lt (r : Int) : bitsN r < 1024 := by
  unfold bitsN
  split
  · decide
  · split
    · decide
    · split
      · decide
      · split <;> decide
theorem tabP4 (r v : Nat) : tabP r v % 4 = 0 := by unfold tabP; omega
theorem frmP4 (r v : Nat) : frmP r v % 4 = 0 := by unfold frmP; omega
theorem tabP_in {r v n : Nat} (h : r < n) (hv : v < 4294967296) : tabP r v + 4 ≤ 4096 * n := by unfold tabP; omega
theorem frmP_in {r v n : Nat} (h : r < n) : frmP r v + 4 ≤ 4096 * n := by unfold frmP; omega
theorem MemAt.top {U : Nat → Prop} {w : World} {bm n : Nat} {f : Nat → UInt8} (h : MemAt U w bm n f) : n ≤ 256 := by obtain ⟨bp, q, h⟩ := h; exact h.top
theorem MemAt.quiet {U : Nat → Prop} {w w' : World} {bm n : Nat} {f : Nat → UInt8} (h : MemAt U w bm n f) (ho : Only (fun _ => False) w w') : MemAt U w' bm n f := h.only ho (fun _ h _ => h.elim)
theorem putTable_any {U : Nat → Prop} {w : World} {bm n : Nat} {f : Nat → UInt8} (h : MemAt U w bm n f) (root : Int) (va : Nat) (hv : va < 4294967296) (t : Int) :
    Calls Tryz.prog 39 #[.pointer (some ⟨bm, 0, none⟩), .int .i64 root, .int .u32 (va : Int), .int .i64 t] w fun e w' => e = .returned (.int .i64 ((tableR f n root va t).2 : Nat)) ∧ MemAt U w' bm n (tableR f n root va t).1 ∧ Only (fun k => ¬ U k) w w' := by
  have HTH := Vx.hid (there2 h root t)
  have HM := Vx.hid h
  by_cases hb : (hasB n root && hasB n t) = true
  · have HR : Hid (tableR f n root va t = fillF f (tabP root.toNat va) (1024 * t.toNat + 1)) := if_pos hb
    rw [hb] at HTH
    rw [Bool.and_eq_true] at hb
    obtain ⟨r, rfl, hr⟩ := hasB_nat hb.1
    obtain ⟨p, rfl, hp⟩ := hasB_nat hb.2
    rw [Int.toNat_natCast, Int.toNat_natCast] at HR
    have hn := h.top
    have HTA := Vx.hid (fun wv => tableAt_any r va (by omega) hv wv)
    have HEN := Vx.hid (fun wv => entry_any p 1 (by omega) (by decide) wv)
    have HFI := Vx.hid (fun wv (hm : MemAt U wv bm n f) => fill_any hm (tabP r va) (1024 * p + 1) (tabP4 _ _) (tabP_in hr hv) (by omega))
    generalize tableR f n r va p = R at HR
    generalize 1024 * p + 1 = x at HEN HFI HR
    generalize tabP r va = P at HTA HFI HR
    clear h hv hb hr hp hn
    go_enter Tryz.func39, Tryz.ntmps39
    go_wp2_with fail
    refine HTH.out.mono ?_
    rintro e w1 ⟨rfl, h1⟩
    have HO1 : Hid (Only (fun _ => False) w w1) := by show Only _ _ _; rw [h1]; exact (Only.refl _ w).alloc _
    clear h1
    go_wp2_with fail
    refine (HTA.out _).mono ?_
    rintro e w' ⟨rfl, h⟩
    have h2 := h.symm; clear h; subst h2
    go_wp2_with fail
    refine (HEN.out _).mono ?_
    rintro e w' ⟨rfl, h⟩
    have h2 := h.symm; clear h; subst h2
    go_wp2_with fail
    refine (HFI.out _ (HM.out.quiet HO1.out)).mono ?_
    rintro e w2 ⟨rfl, hm2, ho2⟩
    have HE : Hid (MemAt U w2 bm n R.1 ∧ Only (fun k => ¬ U k) w w2) := by rw [HR.out]; exact ⟨hm2, (HO1.out.mono (fun _ _ h => h.elim)).trans ho2⟩
    clear hm2 ho2
    rw [← HR.out]
    obtain ⟨ee, HEE⟩ : ∃ ee, Hid (R.2 = ee) := ⟨_, rfl⟩
    rw [HEE.out]
    go_wp2_with fail
    all_goals
      go_ret
      rw [HEE.out]
      exact ⟨rfl, HE.out⟩
  · have HR : Hid (tableR f n root va t = (f, 1)) := if_neg hb
    have hb2 : (hasB n root && hasB n t) = false := by simpa using hb
    rw [hb2] at HTH
    clear h hv hb hb2
    go_enter Tryz.func39, Tryz.ntmps39
    go_wp2_with fail
    refine HTH.out.mono ?_
    rintro e w1 ⟨rfl, h1⟩
    have HO1 : Hid (Only (fun _ => False) w w1) := by show Only _ _ _; rw [h1]; exact (Only.refl _ w).alloc _
    clear h1
    go_wp2_with fail
    all_goals
      go_ret
      rw [HR.out]
      exact ⟨rfl, HM.out.quiet HO1.out, HO1.out.mono (fun _ _ h => h.elim)⟩
theorem noTable_any {U : Nat → Prop} {w : World} {bm n : Nat} {f : Nat → UInt8} (h : MemAt U w bm n f) (root : Int) (va : Nat) (hv : va < 4294967296) (t : Int) :
    Calls Tryz.prog 41 #[.pointer (some ⟨bm, 0, none⟩), .int .i64 root, .int .u32 (va : Int), .int .i64 t] w fun e w' => e = .returned (.int .i64 ((noTableR f n root va t).2 : Nat)) ∧ MemAt U w' bm n (noTableR f n root va t).1 ∧ Only (fun k => ¬ U k) w w' := by
  have HTH := Vx.hid (there2 h root t)
  have HM := Vx.hid h
  by_cases hb : (hasB n root && hasB n t) = true
  · have HR : Hid (noTableR f n root va t = if tabF f n root.toNat va = some t.toNat then (putF f (tabP root.toNat va) (fourB 0), 0) else (f, 15)) := if_pos hb
    rw [hb] at HTH
    rw [Bool.and_eq_true] at hb
    obtain ⟨r, rfl, hr⟩ := hasB_nat hb.1
    obtain ⟨p, rfl, hp⟩ := hasB_nat hb.2
    rw [Int.toNat_natCast, Int.toNat_natCast] at HR
    have hn := h.top
    have HTA := Vx.hid (fun wv => tableAt_any r va (by omega) hv wv)
    have HTB := Vx.hid (fun wv (hm : MemAt U wv bm n f) => table_any hm r va hr hv)
    have HSW := Vx.hid (fun wv bp q (hm : MemIs U wv bm bp n q f) => setWord_ok hm (tabP r va) 0 (by decide) (tabP4 _ _) (tabP_in hr hv))
    generalize noTableR f n r va p = R at HR
    generalize tabP r va = P at HTA HSW HR
    generalize tabF f n r va = TF at HTB HR
    clear h hv hb hr hp hn
    go_enter Tryz.func41, Tryz.ntmps41
    go_wp2_with fail
    refine HTH.out.mono ?_
    rintro e w1 ⟨rfl, h1⟩
    have HO1 : Hid (Only (fun _ => False) w w1) := by show Only _ _ _; rw [h1]; exact (Only.refl _ w).alloc _
    clear h1
    go_wp2_with fail
    refine (HTB.out _ (HM.out.quiet HO1.out)).mono ?_
    rintro e w2 ⟨rfl, ho2⟩
    have HO2 := Vx.hid (HO1.out.trans ho2)
    clear ho2 HO1
    cases TF with
    | none =>
      have HR2 : Hid (R = (f, 15)) := by show _ = _; rw [HR.out, if_neg (by simp)]
      clear HR
      simp only [Option.getD_none, Option.isSome_none]
      go_wp2_with fail
      all_goals
        go_ret
        rw [HR2.out]
        exact ⟨rfl, HM.out.quiet HO2.out, HO2.out.mono (fun _ _ h => h.elim)⟩
    | some s =>
      simp only [Option.getD_some, Option.isSome_some]
      by_cases hs : s = p
      · subst hs
        have HR2 : Hid (R = (putF f P (fourB 0), 0)) := by show _ = _; rw [HR.out, if_pos rfl]
        clear HR
        go_wp2_with fail
        refine (HTA.out _).mono ?_
        rintro e w' ⟨rfl, h⟩
        have h2 := h.symm; clear h; subst h2
        obtain ⟨bp, q, hm2⟩ := HM.out.quiet HO2.out
        have HSW2 := Vx.hid (HSW.out _ bp q hm2)
        clear hm2
        go_wp2_with fail
        refine HSW2.out.mono ?_
        rintro e w3 ⟨rfl, hm3, ho3⟩
        have HE : Hid (MemAt U w3 bm n R.1 ∧ Only (fun k => ¬ U k) w w3) := by rw [HR2.out]; exact ⟨⟨bp, hm3⟩, (HO2.out.mono (fun _ _ h => h.elim)).trans ho3⟩
        clear hm3 ho3
        go_wp2_with fail
        all_goals
          go_ret
          refine ⟨?_, HE.out⟩
          rw [HR2.out]
          rfl
      · have HR2 : Hid (R = (f, 15)) := by show _ = _; rw [HR.out, if_neg (by simpa using hs)]
        have c1 : ¬ (s : Int) = (p : Int) := by omega
        have c2 : ((s : Int) != (p : Int)) = true := by simpa using c1
        clear HR hs
        go_wp2_with fail
        all_goals
          go_ret
          rw [HR2.out]
          exact ⟨rfl, HM.out.quiet HO2.out, HO2.out.mono (fun _ _ h => h.elim)⟩
  · have HR : Hid (noTableR f n root va t = (f, 1)) := if_neg hb
    have hb2 : (hasB n root && hasB n t) = false := by simpa using hb
    rw [hb2] at HTH
    clear h hv hb hb2
    go_enter Tryz.func41, Tryz.ntmps41
    go_wp2_with fail
    refine HTH.out.mono ?_
    rintro e w1 ⟨rfl, h1⟩
    have HO1 : Hid (Only (fun _ => False) w w1) := by show Only _ _ _; rw [h1]; exact (Only.refl _ w).alloc _
    clear h1
    go_wp2_with fail
    all_goals
      go_ret
      rw [HR.out]
      exact ⟨rfl, HM.out.quiet HO1.out, HO1.out.mono (fun _ _ h => h.elim)⟩
end Go.Proofs.YtflmobffeeocdaaGreatDoor

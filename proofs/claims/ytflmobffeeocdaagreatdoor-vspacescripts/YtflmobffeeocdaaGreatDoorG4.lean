/- Walks of the document's chapter 5: hasPages, tableAt, PutTable, NoTable. -/
import Derived.Test.YtflmobffeeocdaaGreatDoorS7
import Derived.Test.YtflmobffeeocdaaGreatDoorK3
namespace Go.Proofs.YtflmobffeeocdaaGreatDoor
open Go.ChangeShapes Go.WideShapes Go.ChangeAt Go.RowKit
open Go.Vx

theorem RefAt.quiet {w w' : World} {br bb n : Nat} {f : Nat → UInt8} (h : RefAt w br bb n f) (ho : Only (fun _ => False) w w') : RefAt w' br bb n f := h.only ho (fun h => h) (fun h => h)
theorem hasPages_any {w : World} {br bb n : Nat} {f : Nat → UInt8} (h : RefAt w br bb n f) (a b : Int) :
    Calls Tryz.prog 68 #[.pointer (some ⟨br, 0, none⟩), .int .i64 a, .int .i64 b] w fun e w' => e = .returned (.bool (hasB n a && hasB n b)) ∧ w' = w := by
  have hcr := h.cr
  have hn := h.top
  obtain ⟨N, hN⟩ : ∃ N, N = 4096 * n := ⟨_, rfl⟩
  rw [← hN] at hcr
  have q1 : Int.tdiv (N : Int) 4096 = (n : Int) := by rw [Int.tdiv_eq_ediv_of_nonneg (by omega)]; omega
  have q2 : (N : Int) / 4096 = (n : Int) := by omega
  have q3 : IntKind.i64.wrap (n : Int) = (n : Int) := by rw [IntKind.wrap_i64]; omega
  have HT : Hid ((hasB n a && hasB n b) = ((decide (0 ≤ a) && decide (a < (n : Int))) && (decide (0 ≤ b) && decide (b < (n : Int))))) := rfl
  generalize (hasB n a && hasB n b) = B at HT
  clear h hn hN
  by_cases c1 : 0 ≤ a
  · have b1 : decide (0 ≤ a) = true := decide_eq_true c1
    by_cases c2 : a < (n : Int)
    · have b2 : decide (a < (n : Int)) = true := decide_eq_true c2
      by_cases c3 : 0 ≤ b
      · have b3 : decide (0 ≤ b) = true := decide_eq_true c3
        by_cases c4 : b < (n : Int)
        · have b4 : decide (b < (n : Int)) = true := decide_eq_true c4
          have HB : Hid (B = true) := by show _ = _; rw [HT.out, b1, b2, b3, b4]; rfl
          clear HT
          go_enter Tryz.func68, Tryz.ntmps68
          go_wp2_with fail
          all_goals
            go_ret
            rw [HB.out]
            exact ⟨rfl, rfl⟩
        · have b4 : decide (b < (n : Int)) = false := decide_eq_false c4
          have HB : Hid (B = false) := by show _ = _; rw [HT.out, b1, b2, b3, b4]; rfl
          clear HT
          go_enter Tryz.func68, Tryz.ntmps68
          go_wp2_with fail
          all_goals
            go_ret
            rw [HB.out]
            exact ⟨rfl, rfl⟩
      · have b3 : decide (0 ≤ b) = false := decide_eq_false c3
        have HB : Hid (B = false) := by show _ = _; rw [HT.out, b1, b2, b3]; rfl
        clear HT
        go_enter Tryz.func68, Tryz.ntmps68
        go_wp2_with fail
        all_goals
          go_ret
          rw [HB.out]
          exact ⟨rfl, rfl⟩
    · have b2 : decide (a < (n : Int)) = false := decide_eq_false c2
      have HB : Hid (B = false) := by show _ = _; rw [HT.out, b1, b2]; rfl
      clear HT
      go_enter Tryz.func68, Tryz.ntmps68
      go_wp2_with fail
      all_goals
        go_ret
        rw [HB.out]
        exact ⟨rfl, rfl⟩
  · have b1 : decide (0 ≤ a) = false := decide_eq_false c1
    have HB : Hid (B = false) := by show _ = _; rw [HT.out, b1]; rfl
    clear HT
    go_enter Tryz.func68, Tryz.ntmps68
    go_wp2_with fail
    all_goals
      go_ret
      rw [HB.out]
      exact ⟨rfl, rfl⟩
theorem insB_in {n a : Nat} (h : a + 4 ≤ 4096 * n) : insB n (a : Int) 4 = true := by simp [insB]; omega
theorem refWord_in {w : World} {br bb n : Nat} {f : Nat → UInt8} (h : RefAt w br bb n f) (a : Nat) (h4 : a % 4 = 0) (hin : a + 4 ≤ 4096 * n) :
    Calls Tryz.prog 30 #[.pointer (some ⟨br, 0, none⟩), .int .i64 (a : Int)] w fun e w' => e = .returned (.tuple #[.int .i64 (wordF f a : Nat), .int .i64 0]) ∧ Only (fun _ => False) w w' := by
  refine (refWord_any h (a : Int)).mono ?_
  have e : wordR f n (a : Int) = (wordF f a, 0) := by
    unfold wordR
    rw [if_pos ⟨insB_in hin, by rw [Int.tmod_eq_emod_of_nonneg (by omega)]; omega⟩, Int.toNat_natCast]
  rintro x w' ⟨rfl, ho⟩
  rw [e]
  exact ⟨rfl, ho⟩
theorem refSet_in {w : World} {br bb n : Nat} {f : Nat → UInt8} (h : RefAt w br bb n f) (a x : Nat) (hx : x < 4294967296) (h4 : a % 4 = 0) (hin : a + 4 ≤ 4096 * n) :
    Calls Tryz.prog 31 #[.pointer (some ⟨br, 0, none⟩), .int .i64 (a : Int), .int .i64 (x : Int)] w fun e w' => e = .returned (.int .i64 0) ∧ RefAt w' br bb n (putF f a (fourB x)) ∧ Only (fun k => k = bb) w w' := by
  refine (refSetWord_any h (a : Int) x hx).mono ?_
  have e : setWF f n (a : Int) x = (putF f a (fourB x), 0) := by
    unfold setWF
    rw [if_pos ⟨insB_in hin, by rw [Int.tmod_eq_emod_of_nonneg (by omega)]; omega⟩, Int.toNat_natCast]
  rintro y w' ⟨rfl, hr, ho⟩
  rw [e] at hr ⊢
  exact ⟨rfl, hr, ho⟩
/-- The error of a table that is sought. -/
def tabE : Option Nat → Int
  | some _ => 0
  | none => 15
theorem refTable_any {w : World} {br bb n : Nat} {f : Nat → UInt8} (h : RefAt w br bb n f) (root va : Nat) (hr : root < n) (hv : va < 4294967296) :
    Calls Tryz.prog 70 #[.pointer (some ⟨br, 0, none⟩), .int .i64 (root : Int), .int .i64 (va : Int)] w fun e w' => e = .returned (.tuple #[.int .i64 (((tabF f n root va).getD 0 : Nat) : Int), .int .i64 (tabE (tabF f n root va))]) ∧ Only (fun _ => False) w w' := by
  have hn := h.top
  have HR := Vx.hid h
  have HWD := Vx.hid (refWord_in h (tabP root va) (tabP4 _ _) (tabP_in hr hv))
  have HLT := wordF_lt f (tabP root va)
  have HTF : Hid (tabF f n root va = if wordF f (tabP root va) % 1024 = 1 ∧ wordF f (tabP root va) / 1024 < n then some (wordF f (tabP root va) / 1024) else none) := rfl
  generalize tabF f n root va = TF at HTF
  have q0 : Int.tdiv (va : Int) 4194304 = ((va / 4194304 : Nat) : Int) := by rw [Int.tdiv_eq_ediv_of_nonneg (by omega)]; omega
  have q0' : (va : Int) / 4194304 = ((va / 4194304 : Nat) : Int) := by omega
  have w0 : IntKind.i64.wrap ((va / 4194304 : Nat) : Int) = ((va / 4194304 : Nat) : Int) := by rw [IntKind.wrap_i64]; omega
  have w1 : IntKind.i64.wrap (4096 * (root : Int)) = 4096 * (root : Int) := by rw [IntKind.wrap_i64]; omega
  have w2 : IntKind.i64.wrap (((va / 4194304 : Nat) : Int) * 4) = ((va / 4194304 : Nat) : Int) * 4 := by rw [IntKind.wrap_i64]; omega
  have w3 : 4096 * (root : Int) + ((va / 4194304 : Nat) : Int) * 4 = ((tabP root va : Nat) : Int) := by unfold tabP; omega
  have w4 : IntKind.i64.wrap ((tabP root va : Nat) : Int) = ((tabP root va : Nat) : Int) := by have := tabP_in hr hv; rw [IntKind.wrap_i64]; omega
  generalize tabP root va = P at HWD HTF HLT w3 w4
  generalize va / 4194304 = q at q0 q0' w0 w2 w3
  generalize wordF f P = e at HWD HTF HLT
  have t1 : Int.tdiv (e : Int) 1024 = ((e / 1024 : Nat) : Int) := by rw [Int.tdiv_eq_ediv_of_nonneg (by omega)]; omega
  have t2 : (e : Int) / 1024 = ((e / 1024 : Nat) : Int) := by omega
  have t3 : Int.tmod (e : Int) 1024 = ((e % 1024 : Nat) : Int) := by rw [Int.tmod_eq_emod_of_nonneg (by omega)]; omega
  have t4 : (e : Int) % 1024 = ((e % 1024 : Nat) : Int) := by omega
  have t5 : IntKind.i64.wrap ((e / 1024 : Nat) : Int) = ((e / 1024 : Nat) : Int) := by rw [IntKind.wrap_i64]; omega
  have t6 : IntKind.i64.wrap ((e % 1024 : Nat) : Int) = ((e % 1024 : Nat) : Int) := by rw [IntKind.wrap_i64]; omega
  obtain ⟨N, hN⟩ : ∃ N, N = 4096 * n := ⟨_, rfl⟩
  have u1 : Int.tdiv (N : Int) 4096 = (n : Int) := by rw [Int.tdiv_eq_ediv_of_nonneg (by omega)]; omega
  have u2 : (N : Int) / 4096 = (n : Int) := by omega
  have u3 : IntKind.i64.wrap (n : Int) = (n : Int) := by rw [IntKind.wrap_i64]; omega
  have HN := Vx.hid hN
  by_cases h1 : e % 1024 = 1
  · have m1 : Int.tmod (e : Int) 1024 = 1 := by rw [t3, h1]; rfl
    have m2 : (e : Int) % 1024 = 1 := by rw [t4, h1]; rfl
    by_cases h2 : e / 1024 < n
    · have HTF2 : Hid (TF = some (e / 1024)) := by show _ = _; rw [HTF.out, if_pos ⟨h1, h2⟩]
      have c1 : ¬ (n : Int) ≤ ((e / 1024 : Nat) : Int) := by omega
      have c2 : decide ((n : Int) ≤ ((e / 1024 : Nat) : Int)) = false := decide_eq_false c1
      generalize e / 1024 = p at t1 t2 t5 HTF2 c1 c2
      clear h hr hv HTF h1 h2 t3 t4 t6 HLT hn hN
      go_enter Tryz.func70, Tryz.ntmps70
      go_wp2_with fail
      refine HWD.out.mono ?_
      rintro x w5 ⟨rfl, ho⟩
      have HO := Vx.hid ho
      have hcr := (HR.out.quiet ho).cr
      rw [← HN.out] at hcr
      clear ho
      go_wp2_with fail
      all_goals
        go_ret2
        rw [HTF2.out]
        exact ⟨rfl, HO.out⟩
    · have HTF2 : Hid (TF = none) := by show _ = _; rw [HTF.out, if_neg (fun hc => h2 hc.2)]
      have c1 : (n : Int) ≤ ((e / 1024 : Nat) : Int) := by omega
      have c2 : decide ((n : Int) ≤ ((e / 1024 : Nat) : Int)) = true := decide_eq_true c1
      generalize e / 1024 = p at t1 t2 t5 c1 c2
      clear h hr hv HTF h1 h2 t3 t4 t6 HLT hn hN
      go_enter Tryz.func70, Tryz.ntmps70
      go_wp2_with fail
      refine HWD.out.mono ?_
      rintro x w5 ⟨rfl, ho⟩
      have HO := Vx.hid ho
      have hcr := (HR.out.quiet ho).cr
      rw [← HN.out] at hcr
      clear ho
      go_wp2_with fail
      all_goals
        go_ret2
        rw [HTF2.out]
        exact ⟨rfl, HO.out⟩
  · have HTF2 : Hid (TF = none) := by show _ = _; rw [HTF.out, if_neg (fun hc => h1 hc.1)]
    have c1 : ¬ ((e % 1024 : Nat) : Int) = 1 := by omega
    have c2 : (((e % 1024 : Nat) : Int) != 1) = true := by simpa using c1
    generalize e % 1024 = m at t3 t4 t6 c1 c2
    generalize e / 1024 = p at t1 t2 t5
    clear h hr hv HTF h1 HLT hn hN
    go_enter Tryz.func70, Tryz.ntmps70
    go_wp2_with fail
    refine HWD.out.mono ?_
    rintro x w5 ⟨rfl, ho⟩
    have HO := Vx.hid ho
    clear ho
    go_wp2_with fail
    all_goals
      go_ret2
      rw [HTF2.out]
      exact ⟨rfl, HO.out⟩
theorem refPut_any {w : World} {br bb n : Nat} {f : Nat → UInt8} (h : RefAt w br bb n f) (root : Int) (va : Nat) (hv : va < 4294967296) (t : Int) :
    Calls Tryz.prog 40 #[.pointer (some ⟨br, 0, none⟩), .int .i64 root, .int .i64 (va : Int), .int .i64 t] w fun e w' => e = .returned (.int .i64 ((tableR f n root va t).2 : Nat)) ∧ RefAt w' br bb n (tableR f n root va t).1 ∧ Only (fun k => k = bb) w w' := by
  have HHP := Vx.hid (hasPages_any h root t)
  have HR := Vx.hid h
  by_cases hb : (hasB n root && hasB n t) = true
  · have HRR : Hid (tableR f n root va t = fillF f (tabP root.toNat va) (1024 * t.toNat + 1)) := if_pos hb
    rw [hb] at HHP
    rw [Bool.and_eq_true] at hb
    obtain ⟨r, rfl, hr⟩ := hasB_nat hb.1
    obtain ⟨p, rfl, hp⟩ := hasB_nat hb.2
    rw [Int.toNat_natCast, Int.toNat_natCast] at HRR
    have hn := h.top
    have HWD := Vx.hid (refWord_in h (tabP r va) (tabP4 _ _) (tabP_in hr hv))
    have HSW := Vx.hid (fun wv (hm : RefAt wv br bb n f) => refSet_in hm (tabP r va) (1024 * p + 1) (by omega) (tabP4 _ _) (tabP_in hr hv))
    have q0 : Int.tdiv (va : Int) 4194304 = ((va / 4194304 : Nat) : Int) := by rw [Int.tdiv_eq_ediv_of_nonneg (by omega)]; omega
    have q0' : (va : Int) / 4194304 = ((va / 4194304 : Nat) : Int) := by omega
    have w0 : IntKind.i64.wrap ((va / 4194304 : Nat) : Int) = ((va / 4194304 : Nat) : Int) := by rw [IntKind.wrap_i64]; omega
    have w1 : IntKind.i64.wrap (4096 * (r : Int)) = 4096 * (r : Int) := by rw [IntKind.wrap_i64]; omega
    have w2 : IntKind.i64.wrap (((va / 4194304 : Nat) : Int) * 4) = ((va / 4194304 : Nat) : Int) * 4 := by rw [IntKind.wrap_i64]; omega
    have w3 : 4096 * (r : Int) + ((va / 4194304 : Nat) : Int) * 4 = ((tabP r va : Nat) : Int) := by unfold tabP; omega
    have w4 : IntKind.i64.wrap ((tabP r va : Nat) : Int) = ((tabP r va : Nat) : Int) := by have := tabP_in hr hv; rw [IntKind.wrap_i64]; omega
    have w5 : IntKind.i64.wrap (1024 * (p : Int)) = 1024 * (p : Int) := by rw [IntKind.wrap_i64]; omega
    have w6 : 1024 * (p : Int) + 1 = ((1024 * p + 1 : Nat) : Int) := by omega
    have w7 : IntKind.i64.wrap ((1024 * p + 1 : Nat) : Int) = ((1024 * p + 1 : Nat) : Int) := by rw [IntKind.wrap_i64]; omega
    generalize tableR f n r va p = R at HRR
    generalize 1024 * p + 1 = x at HSW HRR w6 w7
    generalize tabP r va = P at HWD HSW HRR w3 w4
    generalize va / 4194304 = q at q0 q0' w0 w2 w3
    by_cases h0 : wordF f P = 0
    · have HR2 : Hid (R = (putF f P (fourB x), 0)) := by show _ = _; rw [HRR.out]; exact if_pos h0
      rw [h0] at HWD
      clear h hv hb hr hp hn h0 HRR
      go_enter Tryz.func40, Tryz.ntmps40
      go_wp2_with fail
      refine HHP.out.mono ?_
      rintro e w' ⟨rfl, h⟩
      have h2 := h.symm; clear h; subst h2
      go_wp2_with fail
      refine HWD.out.mono ?_
      rintro e w8 ⟨rfl, ho⟩
      have HO := Vx.hid ho
      have HS2 := Vx.hid (HSW.out _ (HR.out.quiet ho))
      clear ho
      go_wp2_with fail
      refine HS2.out.mono ?_
      rintro e w9 ⟨rfl, hr9, ho9⟩
      have HE : Hid (RefAt w9 br bb n R.1 ∧ Only (fun k => k = bb) w w9) := by rw [HR2.out]; exact ⟨hr9, (HO.out.mono (fun _ _ h => h.elim)).trans ho9⟩
      clear hr9 ho9
      go_wp2_with fail
      all_goals
        go_ret
        refine ⟨?_, HE.out⟩
        rw [HR2.out]
        rfl
    · have HR2 : Hid (R = (f, 7)) := by show _ = _; rw [HRR.out]; exact if_neg h0
      have c1 : ¬ ((wordF f P : Nat) : Int) = 0 := by omega
      have c2 : (((wordF f P : Nat) : Int) != 0) = true := by simpa using c1
      generalize wordF f P = v at HWD c1 c2
      clear h hv hb hr hp hn h0 HRR HSW
      go_enter Tryz.func40, Tryz.ntmps40
      go_wp2_with fail
      refine HHP.out.mono ?_
      rintro e w' ⟨rfl, h⟩
      have h2 := h.symm; clear h; subst h2
      go_wp2_with fail
      refine HWD.out.mono ?_
      rintro e w8 ⟨rfl, ho⟩
      have HO := Vx.hid ho
      clear ho
      go_wp2_with fail
      all_goals
        go_ret
        rw [HR2.out]
        exact ⟨rfl, HR.out.quiet HO.out, HO.out.mono (fun _ _ h => h.elim)⟩
  · have HRR : Hid (tableR f n root va t = (f, 1)) := if_neg hb
    have hb2 : (hasB n root && hasB n t) = false := by simpa using hb
    rw [hb2] at HHP
    clear h hv hb hb2
    go_enter Tryz.func40, Tryz.ntmps40
    go_wp2_with fail
    refine HHP.out.mono ?_
    rintro e w' ⟨rfl, h⟩
    have h2 := h.symm; clear h; subst h2
    go_wp2_with fail
    all_goals
      go_ret
      rw [HRR.out]
      exact ⟨rfl, HR.out, Only.refl _ _⟩
theorem refNo_any {w : World} {br bb n : Nat} {f : Nat → UInt8} (h : RefAt w br bb n f) (root : Int) (va : Nat) (hv : va < 4294967296) (t : Int) :
    Calls Tryz.prog 42 #[.pointer (some ⟨br, 0, none⟩), .int .i64 root, .int .i64 (va : Int), .int .i64 t] w fun e w' => e = .returned (.int .i64 ((noTableR f n root va t).2 : Nat)) ∧ RefAt w' br bb n (noTableR f n root va t).1 ∧ Only (fun k => k = bb) w w' := by
  have HHP := Vx.hid (hasPages_any h root t)
  have HR := Vx.hid h
  by_cases hb : (hasB n root && hasB n t) = true
  · have HRR : Hid (noTableR f n root va t = if tabF f n root.toNat va = some t.toNat then (putF f (tabP root.toNat va) (fourB 0), 0) else (f, 15)) := if_pos hb
    rw [hb] at HHP
    rw [Bool.and_eq_true] at hb
    obtain ⟨r, rfl, hr⟩ := hasB_nat hb.1
    obtain ⟨p, rfl, hp⟩ := hasB_nat hb.2
    rw [Int.toNat_natCast, Int.toNat_natCast] at HRR
    have hn := h.top
    have HTB := Vx.hid (refTable_any h r va hr hv)
    have HSW := Vx.hid (fun wv (hm : RefAt wv br bb n f) => refSet_in hm (tabP r va) 0 (by decide) (tabP4 _ _) (tabP_in hr hv))
    have q0 : Int.tdiv (va : Int) 4194304 = ((va / 4194304 : Nat) : Int) := by rw [Int.tdiv_eq_ediv_of_nonneg (by omega)]; omega
    have q0' : (va : Int) / 4194304 = ((va / 4194304 : Nat) : Int) := by omega
    have w0 : IntKind.i64.wrap ((va / 4194304 : Nat) : Int) = ((va / 4194304 : Nat) : Int) := by rw [IntKind.wrap_i64]; omega
    have w1 : IntKind.i64.wrap (4096 * (r : Int)) = 4096 * (r : Int) := by rw [IntKind.wrap_i64]; omega
    have w2 : IntKind.i64.wrap (((va / 4194304 : Nat) : Int) * 4) = ((va / 4194304 : Nat) : Int) * 4 := by rw [IntKind.wrap_i64]; omega
    have w3 : 4096 * (r : Int) + ((va / 4194304 : Nat) : Int) * 4 = ((tabP r va : Nat) : Int) := by unfold tabP; omega
    have w4 : IntKind.i64.wrap ((tabP r va : Nat) : Int) = ((tabP r va : Nat) : Int) := by have := tabP_in hr hv; rw [IntKind.wrap_i64]; omega
    generalize noTableR f n r va p = R at HRR
    generalize tabP r va = P at HSW HRR w3 w4
    generalize va / 4194304 = q at q0 q0' w0 w2 w3
    generalize tabF f n r va = TF at HTB HRR
    clear h hv hb hr hp hn
    go_enter Tryz.func42, Tryz.ntmps42
    go_wp2_with fail
    refine HHP.out.mono ?_
    rintro e w' ⟨rfl, h⟩
    have h2 := h.symm; clear h; subst h2
    go_wp2_with fail
    refine HTB.out.mono ?_
    rintro e w2' ⟨rfl, ho⟩
    have HO := Vx.hid ho
    clear ho
    cases TF with
    | none =>
      have HR2 : Hid (R = (f, 15)) := by show _ = _; rw [HRR.out, if_neg (by simp)]
      clear HRR
      simp only [Option.getD_none, tabE]
      go_wp2_with fail
      all_goals
        go_ret
        rw [HR2.out]
        exact ⟨rfl, HR.out.quiet HO.out, HO.out.mono (fun _ _ h => h.elim)⟩
    | some s =>
      simp only [Option.getD_some, tabE]
      by_cases hs : s = p
      · subst hs
        have HR2 : Hid (R = (putF f P (fourB 0), 0)) := by show _ = _; rw [HRR.out, if_pos rfl]
        have HS2 := Vx.hid (HSW.out _ (HR.out.quiet HO.out))
        clear HRR
        go_wp2_with fail
        refine HS2.out.mono ?_
        rintro e w9 ⟨rfl, hr9, ho9⟩
        have HE : Hid (RefAt w9 br bb n R.1 ∧ Only (fun k => k = bb) w w9) := by rw [HR2.out]; exact ⟨hr9, (HO.out.mono (fun _ _ h => h.elim)).trans ho9⟩
        clear hr9 ho9
        go_wp2_with fail
        all_goals
          go_ret
          refine ⟨?_, HE.out⟩
          rw [HR2.out]
          rfl
      · have HR2 : Hid (R = (f, 15)) := by show _ = _; rw [HRR.out, if_neg (by simpa using hs)]
        have c1 : ¬ (s : Int) = (p : Int) := by omega
        have c2 : ((s : Int) != (p : Int)) = true := by simpa using c1
        clear HRR hs
        go_wp2_with fail
        all_goals
          go_ret
          rw [HR2.out]
          exact ⟨rfl, HR.out.quiet HO.out, HO.out.mono (fun _ _ h => h.elim)⟩
  · have HRR : Hid (noTableR f n root va t = (f, 1)) := if_neg hb
    have hb2 : (hasB n root && hasB n t) = false := by simpa using hb
    rw [hb2] at HHP
    clear h hv hb hb2
    go_enter Tryz.func42, Tryz.ntmps42
    go_wp2_with fail
    refine HHP.out.mono ?_
    rintro e w' ⟨rfl, h⟩
    have h2 := h.symm; clear h; subst h2
    go_wp2_with fail
    all_goals
      go_ret
      rw [HRR.out]
      exact ⟨rfl, HR.out, Only.refl _ _⟩
end Go.Proofs.YtflmobffeeocdaaGreatDoor

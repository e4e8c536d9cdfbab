import Derived.Test.YtflmobffeeocdaaDoorCa28
import Derived.Deep.RegionHeld3
/- Walks of package vspace: there, table, fill. -/
namespace Go.Vx
/-- The table of an address, if there is one. -/
def tabF (f : Nat → UInt8) (n root va : Nat) : Option Nat := if wordF f (tabP root va) % 1024 = 1 ∧ wordF f (tabP root va) / 1024 < n then some (wordF f (tabP root va) / 1024) else none
theorem tabF_lt {f : Nat → UInt8} {n root va t : Nat} (h : tabF f n root va = some t) : t < n := by
  unfold tabF at h
  split at h
  · rename_i h1; simp at h; omega
  · simp at h
end Go.Vx
namespace Go.Proofs.YtflmobffeeocdaaDoor
open Go.ChangeShapes Go.WideShapes Go.ChangeAt Go.RowKit
open Go.Vx

theorem there_any {U : Nat → Prop} {w : World} {bm n : Nat} {f : Nat → UInt8} (h : MemAt U w bm n f) (sb : Nat) (ps : List Int) (hps : ps.length ≤ 2) (hc : ∀ (j : Nat) (hj : j < ps.length), w.cell? ⟨sb, j, none⟩ = some (.int .i64 ps[j])) :
    Calls Tryd.prog 22 #[.pointer (some ⟨bm, 0, none⟩), .slice (some ⟨sb, 0, none⟩) ps.length ps.length] w fun e w' => e = .returned (.bool (allB n ps)) ∧ w' = w := by
  have HPG := Vx.hid (pages_any h)
  have HC := Vx.hid hc
  obtain ⟨L, hL⟩ : ∃ L, L = ps.length := ⟨_, rfl⟩
  have HL := Vx.hid hL
  rw [← hL] at hps ⊢
  have hlm : (L : Int) ≤ 2 := by omega
  have HA0 : Hid (allB n ps = allB n (ps.drop 0)) := rfl
  clear h hc hL
  go_enter Tryd.func22, Tryd.ntmps22
  go_wp2_with fail
  go_loopw [9] (fun i wr => ∃ k : Nat, i = .int .i64 (k : Int) ∧ k ≤ L ∧ Hid (allB n ps = allB n (ps.drop k)) ∧ wr = w) (fun i _ => L - (intOf i).toNat)
  case atStart => exact ⟨0, rfl, by omega, HA0, rfl⟩
  case round =>
    obtain ⟨k, rfl, hk, HA, rfl⟩ := hrel
    by_cases hlt : k < L
    · have hkz : k < ps.length := by have := HL.out; omega
      have hcell := HC.out k hkz
      have h1 : (k : Int) < (L : Int) := by omega
      have hidx : 0 ≤ (k : Int) ∧ (k : Int) < (L : Int) := by omega
      have hw9 : IntKind.i64.wrap ((k : Int) + 1) = (k : Int) + 1 := by rw [IntKind.wrap_i64]; omega
      have hd : ps.drop k = ps[k] :: ps.drop (k + 1) := List.drop_eq_getElem_cons hkz
      have HA2 : Hid (allB n ps = ((decide (0 ≤ ps[k]) && decide (ps[k] < (n : Int))) && allB n (ps.drop (k + 1)))) := by
        show _ = _
        rw [HA.out, hd]; rfl
      generalize ps[k] = p at hcell HA2
      clear hd hlt hkz HA
      by_cases c1 : p < 0
      · have HA3 : Hid (allB n ps = false) := by show _ = _; rw [HA2.out, show decide (0 ≤ p) = false from decide_eq_false (by omega)]; rfl
        have b1 : decide (p < 0) = true := decide_eq_true c1
        clear HA2
        go_wp2_with fail
        all_goals
          go_ret
          rw [HA3.out]
          exact ⟨rfl, rfl⟩
      · have b1 : decide (p < 0) = false := decide_eq_false c1
        by_cases c2 : (n : Int) ≤ p
        · have HA3 : Hid (allB n ps = false) := by show _ = _; rw [HA2.out, show decide (p < (n : Int)) = false from decide_eq_false (by omega)]; simp
          have b2 : decide ((n : Int) ≤ p) = true := decide_eq_true c2
          clear HA2
          go_wp2_with fail
          refine HPG.out.mono ?_
          rintro e w' ⟨rfl, h⟩
          have h2 := h.symm; clear h; subst h2
          go_wp2_with fail
          all_goals
            go_ret
            rw [HA3.out]
            exact ⟨rfl, rfl⟩
        · have HA3 : Hid (allB n ps = allB n (ps.drop (k + 1))) := by show _ = _; rw [HA2.out, show decide (0 ≤ p) = true from decide_eq_true (by omega), show decide (p < (n : Int)) = true from decide_eq_true (by omega)]; simp
          have b2 : decide ((n : Int) ≤ p) = false := decide_eq_false c2
          clear HA2
          go_wp2_with fail
          refine HPG.out.mono ?_
          rintro e w' ⟨rfl, h⟩
          have h2 := h.symm; clear h; subst h2
          go_wp2_with fail
          go_roundw
          case rel => exact ⟨k + 1, by go_num, by omega, HA3, trivial⟩
          case measure => simp only [intOf]; omega
    · have h1 : ¬ (k : Int) < (L : Int) := by omega
      have HA3 : Hid (allB n ps = true) := by
        show _ = _
        rw [HA.out, List.drop_eq_nil_of_le (by have := HL.out; omega)]
        rfl
      go_wp2_with fail
      all_goals
        go_ret
        rw [HA3.out]
        exact ⟨rfl, rfl⟩
theorem there1 {U : Nat → Prop} {w : World} {bm n : Nat} {f : Nat → UInt8} (h : MemAt U w bm n f) (p : Int) :
    Calls Tryd.prog 22 #[.pointer (some ⟨bm, 0, none⟩), .slice (some ⟨w.heap.size, 0, none⟩) 1 1] (w.alloc (.cells #[.int .i64 p] 3)) fun e w' => e = .returned (.bool (hasB n p)) ∧ w' = w.alloc (.cells #[.int .i64 p] 3) := by
  refine (there_any (h.only ((Only.refl (fun _ => False) w).alloc _) (fun _ h _ => h.elim)) w.heap.size [p] (by simp) (fun j hj => ?_)).mono ?_
  · obtain rfl : j = 0 := by simp at hj; omega
    rw [cell_of_row _ _ 0 _ _ (0, 0) (heap_alloc_last w _)]; rfl
  · rintro e w' ⟨rfl, rfl⟩
    refine ⟨?_, rfl⟩
    refine ret_val (congrArg Value.bool ?_)
    simp [allB, hasB]
theorem there2 {U : Nat → Prop} {w : World} {bm n : Nat} {f : Nat → UInt8} (h : MemAt U w bm n f) (p q : Int) :
    Calls Tryd.prog 22 #[.pointer (some ⟨bm, 0, none⟩), .slice (some ⟨w.heap.size, 0, none⟩) 2 2] (w.alloc (.cells #[.int .i64 p, .int .i64 q] 3)) fun e w' => e = .returned (.bool (hasB n p && hasB n q)) ∧ w' = w.alloc (.cells #[.int .i64 p, .int .i64 q] 3) := by
  refine (there_any (h.only ((Only.refl (fun _ => False) w).alloc _) (fun _ h _ => h.elim)) w.heap.size [p, q] (by simp) (fun j hj => ?_)).mono ?_
  · have hc : j = 0 ∨ j = 1 := by simp at hj; omega
    rcases hc with rfl | rfl
    · rw [cell_of_row _ _ 0 _ _ (0, 0) (heap_alloc_last w _)]; rfl
    · rw [cell_of_row _ _ 1 _ _ (0, 0) (heap_alloc_last w _)]; rfl
  · rintro e w' ⟨rfl, rfl⟩
    refine ⟨?_, rfl⟩
    refine ret_val (congrArg Value.bool ?_)
    simp [allB, hasB]
theorem table_any {U : Nat → Prop} {w : World} {bm n : Nat} {f : Nat → UInt8} (h : MemAt U w bm n f) (root va : Nat) (hr : root < n) (hv : va < 4294967296) :
    Calls Tryd.prog 27 #[.pointer (some ⟨bm, 0, none⟩), .int .i64 (root : Int), .int .u32 (va : Int)] w fun e w' => e = .returned (.tuple #[.int .i64 (((tabF f n root va).getD 0 : Nat) : Int), .bool (tabF f n root va).isSome]) ∧ Only (fun _ => False) w w' := by
  have hn : n ≤ 256 := by obtain ⟨bp, q, h⟩ := h; exact h.top
  have HTA := Vx.hid (fun wv => tableAt_any root va (by omega) hv wv)
  have hp4 : tabP root va % 4 = 0 := by unfold tabP; omega
  have hpn : tabP root va + 4 ≤ 4096 * n := by unfold tabP; omega
  have HWD := Vx.hid (word_ok h (tabP root va) hp4 hpn)
  have HLT := wordF_lt f (tabP root va)
  have HM := Vx.hid h
  have HTF : Hid (tabF f n root va = if wordF f (tabP root va) % 1024 = 1 ∧ wordF f (tabP root va) / 1024 < n then some (wordF f (tabP root va) / 1024) else none) := rfl
  generalize tabF f n root va = TF at HTF
  generalize tabP root va = P at HTA HWD HTF HLT
  generalize wordF f P = e at HWD HTF HLT
  have hb : bits .and .u32 (e : Int) 1023 = ((e % 1024 : Nat) : Int) := by
    rw [u32_and (e : Int) 1023 (by omega) (by omega) (by decide) (by decide)]
    show ((e &&& 1023 : Nat) : Int) = _
    rw [show (1023 : Nat) = 2 ^ 10 - 1 by decide, Nat.and_two_pow_sub_one_eq_mod]
  have HPG := Vx.hid (fun wv => vpage_any e HLT wv)
  clear h hr hv hn hp4 hpn HLT
  go_enter Tryd.func27, Tryd.ntmps27
  go_wp2_with fail
  refine (HTA.out _).mono ?_
  rintro x w' ⟨rfl, h⟩
  have h2 := h.symm; clear h; subst h2
  go_wp2_with fail
  refine HWD.out.mono ?_
  rintro x w1 ⟨rfl, ho⟩
  have HO := Vx.hid ho
  have HM1 := Vx.hid (HM.out.only ho (fun _ h _ => h.elim))
  clear ho
  by_cases h1 : e % 1024 = 1
  · have hb1 : bits .and .u32 (e : Int) 1023 = 1 := by rw [hb, h1]; rfl
    have HTF2 : Hid (TF = if e / 1024 < n then some (e / 1024) else none) := by
      show _ = _
      rw [HTF.out]
      simp [h1]
    clear hb h1 HTF
    generalize e / 1024 = p at HPG HTF2
    go_wp2_with fail
    refine (HPG.out _).mono ?_
    rintro x w' ⟨rfl, h⟩
    have h2 := h.symm; clear h; subst h2
    go_wp2_with fail
    have HTH := Vx.hid (there1 HM1.out (p : Int))
    by_cases hp : p < n
    · have HB : Hid (hasB n (p : Int) = true) := by show _ = _; simp [hasB]; exact hp
      have HTF3 : Hid (TF = some p) := by show _ = _; rw [HTF2.out, if_pos hp]
      rw [HB.out] at HTH
      clear HTF2 hp HB
      refine HTH.out.mono ?_
      rintro x w' ⟨rfl, h⟩
      have h2 := h.symm; clear h; subst h2
      go_wp2_with fail
      refine (HPG.out _).mono ?_
      rintro x w' ⟨rfl, h⟩
      have h2 := h.symm; clear h; subst h2
      go_wp2_with fail
      all_goals
        go_ret2
        rw [HTF3.out]
        exact ⟨rfl, HO.out.alloc _⟩
    · have HB : Hid (hasB n (p : Int) = false) := by show _ = _; simp [hasB]; omega
      have HTF3 : Hid (TF = none) := by show _ = _; rw [HTF2.out, if_neg hp]
      rw [HB.out] at HTH
      clear HTF2 hp HB
      refine HTH.out.mono ?_
      rintro x w' ⟨rfl, h⟩
      have h2 := h.symm; clear h; subst h2
      go_wp2_with fail
      all_goals
        go_ret2
        rw [HTF3.out]
        exact ⟨rfl, HO.out.alloc _⟩
  · have HTF3 : Hid (TF = none) := by show _ = _; rw [HTF.out, if_neg (fun hc => h1 hc.1)]
    have c1 : ¬ ((e % 1024 : Nat) : Int) = 1 := by omega
    have c2 : (((e % 1024 : Nat) : Int) != 1) = true := by simpa using c1
    clear HTF h1
    generalize e % 1024 = m at hb c1 c2
    go_wp2_with fail
    all_goals
      go_ret2
      rw [HTF3.out]
      exact ⟨rfl, HO.out⟩
/-- An entry is written where none is. -/
def fillF (f : Nat → UInt8) (P x : Nat) : (Nat → UInt8) × Nat := if wordF f P = 0 then (putF f P (fourB x), 0) else (f, 7)
theorem fill_any {U : Nat → Prop} {w : World} {bm n : Nat} {f : Nat → UInt8} (h : MemAt U w bm n f) (P x : Nat) (h4 : P % 4 = 0) (hin : P + 4 ≤ 4096 * n) (hx : x < 4294967296) :
    Calls Tryd.prog 23 #[.pointer (some ⟨bm, 0, none⟩), .int .i64 (P : Int), .int .u32 (x : Int)] w fun e w' => e = .returned (.int .i64 ((fillF f P x).2 : Nat)) ∧ MemAt U w' bm n (fillF f P x).1 ∧ Only (fun k => ¬ U k) w w' := by
  have HWD := Vx.hid (word_ok h P h4 hin)
  have HM := Vx.hid h
  have HIN := Vx.hid (And.intro h4 (And.intro hin hx))
  by_cases h0 : wordF f P = 0
  · have HF : Hid (fillF f P x = (putF f P (fourB x), 0)) := if_pos h0
    rw [h0] at HWD
    clear h h4 hin hx h0
    go_enter Tryd.func23, Tryd.ntmps23
    go_wp2_with fail
    refine HWD.out.mono ?_
    rintro e w1 ⟨rfl, ho⟩
    obtain ⟨bp, q, hm1⟩ := HM.out.only ho (fun _ h _ => h.elim)
    have HSW := Vx.hid (setWord_ok hm1 P x HIN.out.2.2 HIN.out.1 HIN.out.2.1)
    have HO := Vx.hid ho
    clear ho hm1
    go_wp2_with fail
    refine HSW.out.mono ?_
    rintro e w2 ⟨rfl, hm2, ho2⟩
    have HM2 := Vx.hid hm2
    have HO2 := Vx.hid ho2
    clear hm2 ho2
    go_wp2_with fail
    all_goals
      go_ret
      rw [HF.out]
      exact ⟨rfl, ⟨bp, HM2.out⟩, (HO.out.mono (fun _ _ h => h.elim)).trans HO2.out⟩
  · have HF : Hid (fillF f P x = (f, 7)) := if_neg h0
    have c1 : ¬ ((wordF f P : Nat) : Int) = 0 := by omega
    have c2 : (((wordF f P : Nat) : Int) != 0) = true := by simpa using c1
    generalize wordF f P = v at HWD c1 c2
    clear h h4 hin hx h0
    go_enter Tryd.func23, Tryd.ntmps23
    go_wp2_with fail
    refine HWD.out.mono ?_
    rintro e w1 ⟨rfl, ho⟩
    have HO := Vx.hid ho
    clear ho
    go_wp2_with fail
    all_goals
      go_ret
      rw [HF.out]
      exact ⟨rfl, HM.out.only HO.out (fun _ h _ => h.elim), HO.out.mono (fun _ _ h => h.elim)⟩
end Go.Proofs.YtflmobffeeocdaaDoor

import Derived.Test.YtflmobffeeocdaaDoorCa8
/- Walks of package mmu: word, leaf. -/
namespace Go.Proofs.YtflmobffeeocdaaDoor
open Go.ChangeShapes Go.WideShapes Go.ChangeAt Go.RowKit
open Go.Vx

/-- An entry of a page, or that it is not there. -/
def entF (f : Nat → UInt8) (n : Nat) (p : Int) (k : Nat) : Nat × Nat := if p < 0 ∨ (n : Int) ≤ p then (0, 1) else (wordF f (4096 * p.toNat + 4 * k), 0)
theorem entF_lt (f : Nat → UInt8) (n : Nat) (p : Int) (k : Nat) : (entF f n p k).1 < 4294967296 := by
  unfold entF
  split
  · show 0 < 4294967296; decide
  · exact wordF_lt _ _
theorem mmuWord_any {U : Nat → Prop} {w : World} {bm n : Nat} {f : Nat → UInt8} (h : MemAt U w bm n f) (p : Int) (k : Nat) (hk : k < 1024) :
    Calls Tryd.prog 58 #[.pointer (some ⟨bm, 0, none⟩), .int .i64 p, .int .u32 (k : Int)] w fun x w' => x = .returned (.tuple #[.int .u32 ((entF f n p k).1 : Nat), .int .i64 ((entF f n p k).2 : Nat)]) ∧ Only (fun _ => False) w w' := by
  have HM := Vx.hid h
  have hn : n ≤ 256 := by obtain ⟨bp, q, h⟩ := h; exact h.top
  have HPG := Vx.hid (pages_any h)
  clear h
  by_cases h0 : p < 0
  · have HE : Hid (entF f n p k = (0, 1)) := if_pos (Or.inl h0)
    have d0 : decide (p < 0) = true := decide_eq_true h0
    go_enter Tryd.func58, Tryd.ntmps58
    go_wp2_with fail
    all_goals
      go_ret2
      rw [HE.out]
      exact ⟨rfl, Only.refl _ _⟩
  · have d0 : decide (p < 0) = false := decide_eq_false h0
    by_cases h1 : (n : Int) ≤ p
    · have HE : Hid (entF f n p k = (0, 1)) := if_pos (Or.inr h1)
      go_enter Tryd.func58, Tryd.ntmps58
      go_wp2_with fail
      refine HPG.out.mono ?_
      rintro z w' ⟨rfl, h⟩
      have h2 := h.symm; clear h; subst h2
      go_wp2_with fail
      all_goals
        go_ret2
        rw [HE.out]
        exact ⟨rfl, Only.refl _ _⟩
    · obtain ⟨m, rfl⟩ : ∃ m : Nat, p = (m : Int) := ⟨p.toNat, by omega⟩
      have HE : Hid (entF f n (m : Int) k = (wordF f (4096 * m + 4 * k), 0)) := by
        show entF f n (m : Int) k = _
        unfold entF
        rw [if_neg (by omega)]
        rfl
      have HW := Vx.hid (word_ok HM.out (4096 * m + 4 * k) (by omega) (by omega))
      have w1 : IntKind.i64.wrap ((m : Int) * 4096) = ((m : Int) * 4096) := by rw [IntKind.wrap_i64]; omega
      have w2 : IntKind.i64.wrap ((k : Int) * 4) = ((k : Int) * 4) := by rw [IntKind.wrap_i64]; omega
      have w3 : IntKind.i64.wrap (k : Int) = (k : Int) := by rw [IntKind.wrap_i64]; omega
      have w4 : IntKind.i64.wrap ((m : Int) * 4096 + (k : Int) * 4) = ((4096 * m + 4 * k : Nat) : Int) := by rw [IntKind.wrap_i64]; omega
      have e4 : (m : Int) * 4096 + (k : Int) * 4 = ((4096 * m + 4 * k : Nat) : Int) := by omega
      generalize 4096 * m + 4 * k = a at HE HW w4 e4
      go_enter Tryd.func58, Tryd.ntmps58
      go_wp2_with fail
      refine HPG.out.mono ?_
      rintro z w' ⟨rfl, h⟩
      have h2 := h.symm; clear h; subst h2
      go_wp2_with fail
      refine HW.out.mono ?_
      rintro z w5 ⟨rfl, ho⟩
      have HO := Vx.hid ho
      clear ho
      go_wp2_with fail
      all_goals
        go_ret2
        rw [HE.out]
        exact ⟨rfl, HO.out⟩
/-- The entry that an address ends at, of how many bytes it is, and whether all was there. -/
def leafF (f : Nat → UInt8) (n : Nat) (root : Int) (va : Nat) : Nat × Nat × Nat :=
  if (entF f n root (va / 4194304)).2 ≠ 0 ∨ leadsB (entF f n root (va / 4194304)).1 = false then ((entF f n root (va / 4194304)).1, 4194304, (entF f n root (va / 4194304)).2)
  else ((entF f n (((entF f n root (va / 4194304)).1 / 1024 : Nat) : Int) (va % 4194304 / 4096)).1, 4096, (entF f n (((entF f n root (va / 4194304)).1 / 1024 : Nat) : Int) (va % 4194304 / 4096)).2)
theorem leafF_eq (f : Nat → UInt8) (n : Nat) (root : Int) (va : Nat) : leafF f n root va =
  if (entF f n root (va / 4194304)).2 ≠ 0 ∨ leadsB (entF f n root (va / 4194304)).1 = false then ((entF f n root (va / 4194304)).1, 4194304, (entF f n root (va / 4194304)).2)
  else ((entF f n (((entF f n root (va / 4194304)).1 / 1024 : Nat) : Int) (va % 4194304 / 4096)).1, 4096, (entF f n (((entF f n root (va / 4194304)).1 / 1024 : Nat) : Int) (va % 4194304 / 4096)).2) := rfl
theorem entF_err (f : Nat → UInt8) (n : Nat) (p : Int) (k : Nat) : (entF f n p k).2 = 0 ∨ (entF f n p k).2 = 1 := by
  unfold entF
  split
  · exact Or.inr rfl
  · exact Or.inl rfl
theorem leaf_any {U : Nat → Prop} {w : World} {bm n : Nat} {f : Nat → UInt8} (h : MemAt U w bm n f) (root : Int) (va : Nat) (hva : va < 4294967296) :
    Calls Tryd.prog 55 #[.pointer (some ⟨bm, 0, none⟩), .int .i64 root, .int .u32 (va : Int)] w fun x w' => x = .returned (.tuple #[.int .u32 ((leafF f n root va).1 : Nat), .int .u32 ((leafF f n root va).2.1 : Nat), .int .i64 ((leafF f n root va).2.2 : Nat)]) ∧ Only (fun _ => False) w w' := by
  have q1 : Int.tdiv (va : Int) 4194304 = ((va / 4194304 : Nat) : Int) := by rw [Int.tdiv_eq_ediv_of_nonneg (by omega)]; omega
  have q2 : Int.tmod (va : Int) 4194304 = ((va % 4194304 : Nat) : Int) := by rw [Int.tmod_eq_emod_of_nonneg (by omega)]; omega
  have q3 : Int.tdiv ((va % 4194304 : Nat) : Int) 4096 = ((va % 4194304 / 4096 : Nat) : Int) := by rw [Int.tdiv_eq_ediv_of_nonneg (by omega)]; omega
  have q1' : (va : Int) / 4194304 = ((va / 4194304 : Nat) : Int) := by omega
  have q2' : (va : Int) % 4194304 = ((va % 4194304 : Nat) : Int) := by omega
  have q3' : ((va % 4194304 : Nat) : Int) / 4096 = ((va % 4194304 / 4096 : Nat) : Int) := by omega
  have HV : Hid ((va : Int) < 4294967296) := by show (va : Int) < _; omega
  have HW1 := Vx.hid (mmuWord_any h root (va / 4194304) (by omega))
  have HLF := Vx.hid (leafF_eq f n root va)
  have hk2 : va % 4194304 / 4096 < 1024 := by omega
  have he1 := entF_lt f n root (va / 4194304)
  have hr1 := entF_err f n root (va / 4194304)
  have HW2 : Hid (∀ w2, Only (fun _ => False) w w2 → ∀ p : Int, Calls Tryd.prog 58 #[.pointer (some ⟨bm, 0, none⟩), .int .i64 p, .int .u32 ((va % 4194304 / 4096 : Nat) : Int)] w2 fun x w' => x = .returned (.tuple #[.int .u32 ((entF f n p (va % 4194304 / 4096)).1 : Nat), .int .i64 ((entF f n p (va % 4194304 / 4096)).2 : Nat)]) ∧ Only (fun _ => False) w w') := fun w2 h2 p => by
    refine (mmuWord_any (h.only h2 (fun _ h _ => h.elim)) p _ hk2).mono ?_
    rintro x w' ⟨rfl, ho⟩
    exact ⟨rfl, h2.trans ho⟩
  generalize va % 4194304 / 4096 = k2 at q3 q3' HLF HW2 hk2
  generalize va % 4194304 = v2 at q2 q2' q3 q3'
  generalize va / 4194304 = k1 at q1 q1' HLF HW1 he1 hr1
  have HLD := Vx.hid (fun wv => leads_any (entF f n root k1).1 he1 wv)
  have HPG := Vx.hid (fun wv => page_any (entF f n root k1).1 he1 wv)
  have hpb : (entF f n root k1).1 / 1024 < 4194304 := by omega
  generalize (entF f n root k1).1 / 1024 = pg at HPG HLF hpb
  generalize leadsB (entF f n root k1).1 = ld at HLD HLF
  generalize (entF f n root k1).1 = e1 at HW1 HLF HLD HPG
  generalize (entF f n root k1).2 = r1 at HW1 HLF hr1
  generalize leafF f n root va = LF at HLF
  have hvb := HV.out
  clear h he1 hva HV
  rcases hr1 with rfl | rfl
  · cases ld with
    | false =>
      have HL2 : Hid (LF = (e1, 4194304, 0)) := by show _ = _; rw [HLF.out, if_pos (Or.inr rfl)]
      clear HLF
      go_enter Tryd.func55, Tryd.ntmps55
      go_wp2_with fail
      refine HW1.out.mono ?_
      rintro z w5 ⟨rfl, ho⟩
      have HO := Vx.hid ho
      clear ho
      go_wp2_with fail
      refine (HLD.out _).mono ?_
      rintro z w' ⟨rfl, h⟩
      have h2 := h.symm; clear h; subst h2
      go_wp2_with fail
      all_goals
        go_ret3
        rw [HL2.out]
        exact ⟨rfl, HO.out⟩
    | true =>
      have HL2 : Hid (LF = ((entF f n (pg : Int) k2).1, 4096, (entF f n (pg : Int) k2).2)) := by show _ = _; rw [HLF.out, if_neg (by simp)]
      clear HLF
      go_enter Tryd.func55, Tryd.ntmps55
      go_wp2_with fail
      refine HW1.out.mono ?_
      rintro z w5 ⟨rfl, ho⟩
      have HO := Vx.hid ho
      clear ho
      go_wp2_with fail
      refine (HLD.out _).mono ?_
      rintro z w' ⟨rfl, h⟩
      have h2 := h.symm; clear h; subst h2
      go_wp2_with fail
      refine (HPG.out _).mono ?_
      rintro z w' ⟨rfl, h⟩
      have h2 := h.symm; clear h; subst h2
      go_wp2_with fail
      refine (HW2.out w5 HO.out (pg : Int)).mono ?_
      rintro z w6 ⟨rfl, ho⟩
      have HO2 := Vx.hid ho
      clear ho
      go_wp2_with fail
      all_goals
        go_ret3
        rw [HL2.out]
        exact ⟨rfl, HO2.out⟩
  · have HL2 : Hid (LF = (e1, 4194304, 1)) := by show _ = _; rw [HLF.out, if_pos (Or.inl (by decide))]
    clear HLF
    go_enter Tryd.func55, Tryd.ntmps55
    go_wp2_with fail
    refine HW1.out.mono ?_
    rintro z w5 ⟨rfl, ho⟩
    have HO := Vx.hid ho
    clear ho
    go_wp2_with fail
    all_goals
      go_ret3
      rw [HL2.out]
      exact ⟨rfl, HO.out⟩
end Go.Proofs.YtflmobffeeocdaaDoor

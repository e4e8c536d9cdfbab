import Derived.Test.YtbmchgjilkoplaaDoorCq39
/- Chapter 7, the law: capOf. -/
namespace Go.Proofs.YtbmchgjilkoplaaDoor
open Go.ChangeShapes Go.WideShapes Go.ChangeAt Go.RowKit
open Go.Vx
set_option linter.unusedVariables false

/-- The capability that raw numbers name. -/
def capK (k : Nat) (b : Bool) : Cp := ⟨if b then 5 else ((k % 11 : Nat) : Int), ((k / 11 % 5 : Nat) : Int), ((k / 55 % 8 : Nat) : Int), if k / 440 % 4 = 1 then ((k / 1760 % 4294967296 : Nat) : Int) else 0, if k / 440 % 4 = 2 then ((k / 59840 % 16 : Nat) : Int) else 0, if k / 440 % 4 = 2 then ((k / 1760 % 34 : Nat) : Int) else 0, if k / 440 % 4 = 3 then ((k / 1760 % 4 : Nat) : Int) else 0, if k / 440 % 4 = 3 then ((k / 7040 % 4294967296 : Nat) : Int) else 0⟩
def capF (n : Int) (s : ByteArray) : Cp := capK (pickL n 1099511627776) (decide ((0 : Int) < (s.size : Int)))
theorem wrap_u32n (q : Nat) : IntKind.u32.wrap (q : Int) = ((q % 4294967296 : Nat) : Int) := by
  rw [IntKind.wrap_u32]
  omega
set_option maxRecDepth 100000 in
set_option maxHeartbeats 8000000 in
theorem capOf_ok (n : Int) (hn : I64 n) (s : ByteArray) (w : World) : Calls Tryd.prog 29 #[.int .i64 n, .string s] w fun e w' => e = .returned (cpV (capF n s)) ∧ Only (fun _ => False) w w' := by
  obtain ⟨h0, h1⟩ := hn
  have HO : Hid (∀ o p, Only (fun _ => False) w ((w.alloc o).alloc p)) := fun o p => ((Only.refl _ w).alloc _).alloc _
  have HP := Vx.hid (fun wv => pickL_any 1099511627776 (by decide) (by decide) n h0 h1 wv)
  have hk : pickL n 1099511627776 < 1099511627776 := Nat.mod_lt _ (by decide)
  have HF : Hid (capF n s = capK (pickL n 1099511627776) (decide ((0 : Int) < (s.size : Int)))) := rfl
  generalize pickL n 1099511627776 = k at HP HF hk
  obtain ⟨r11, e_r11⟩ : ∃ z, z = k % 11 := ⟨_, rfl⟩
  obtain ⟨q11, e_q11⟩ : ∃ z, z = k / 11 := ⟨_, rfl⟩
  obtain ⟨nu, e_nu⟩ : ∃ z, z = q11 % 5 := ⟨_, rfl⟩
  obtain ⟨q55, e_q55⟩ : ∃ z, z = k / 55 := ⟨_, rfl⟩
  obtain ⟨ri, e_ri⟩ : ∃ z, z = q55 % 8 := ⟨_, rfl⟩
  obtain ⟨q440, e_q440⟩ : ∃ z, z = k / 440 := ⟨_, rfl⟩
  obtain ⟨se, e_se⟩ : ∃ z, z = q440 % 4 := ⟨_, rfl⟩
  obtain ⟨q17, e_q17⟩ : ∃ z, z = k / 1760 := ⟨_, rfl⟩
  obtain ⟨gb, e_gb⟩ : ∃ z, z = q17 % 34 := ⟨_, rfl⟩
  obtain ⟨ro, e_ro⟩ : ∃ z, z = q17 % 4 := ⟨_, rfl⟩
  obtain ⟨q59, e_q59⟩ : ∃ z, z = k / 59840 := ⟨_, rfl⟩
  obtain ⟨gd, e_gd⟩ : ∃ z, z = q59 % 16 := ⟨_, rfl⟩
  obtain ⟨q70, e_q70⟩ : ∃ z, z = k / 7040 := ⟨_, rfl⟩
  obtain ⟨ba, e_ba⟩ : ∃ z, z = q17 % 4294967296 := ⟨_, rfl⟩
  obtain ⟨va, e_va⟩ : ∃ z, z = q70 % 4294967296 := ⟨_, rfl⟩
  have HCK : Hid (∀ b, capK k b = ⟨if b then 5 else (r11 : Int), (nu : Int), (ri : Int), if se = 1 then (ba : Int) else 0, if se = 2 then (gd : Int) else 0, if se = 2 then (gb : Int) else 0, if se = 3 then (ro : Int) else 0, if se = 3 then (va : Int) else 0⟩) := fun b => by
    unfold capK
    rw [e_ba, e_va, e_r11, e_nu, e_ri, e_se, e_gd, e_gb, e_ro, e_q11, e_q55, e_q440, e_q17, e_q59, e_q70]
  have a_r11 : Int.tmod (k : Int) 11 = (r11 : Int) := by rw [Int.tmod_eq_emod_of_nonneg (by omega)]; omega
  have b_r11 : (k : Int) % 11 = (r11 : Int) := by omega
  have c_r11 : IntKind.i64.wrap (r11 : Int) = (r11 : Int) := by rw [IntKind.wrap_i64]; omega
  have a_q11 : Int.tdiv (k : Int) 11 = (q11 : Int) := by rw [Int.tdiv_eq_ediv_of_nonneg (by omega)]; omega
  have b_q11 : (k : Int) / 11 = (q11 : Int) := by omega
  have c_q11 : IntKind.i64.wrap (q11 : Int) = (q11 : Int) := by rw [IntKind.wrap_i64]; omega
  have a_nu : Int.tmod (q11 : Int) 5 = (nu : Int) := by rw [Int.tmod_eq_emod_of_nonneg (by omega)]; omega
  have b_nu : (q11 : Int) % 5 = (nu : Int) := by omega
  have c_nu : IntKind.i64.wrap (nu : Int) = (nu : Int) := by rw [IntKind.wrap_i64]; omega
  have a_q55 : Int.tdiv (k : Int) 55 = (q55 : Int) := by rw [Int.tdiv_eq_ediv_of_nonneg (by omega)]; omega
  have b_q55 : (k : Int) / 55 = (q55 : Int) := by omega
  have c_q55 : IntKind.i64.wrap (q55 : Int) = (q55 : Int) := by rw [IntKind.wrap_i64]; omega
  have a_ri : Int.tmod (q55 : Int) 8 = (ri : Int) := by rw [Int.tmod_eq_emod_of_nonneg (by omega)]; omega
  have b_ri : (q55 : Int) % 8 = (ri : Int) := by omega
  have c_ri : IntKind.i64.wrap (ri : Int) = (ri : Int) := by rw [IntKind.wrap_i64]; omega
  have a_q440 : Int.tdiv (k : Int) 440 = (q440 : Int) := by rw [Int.tdiv_eq_ediv_of_nonneg (by omega)]; omega
  have b_q440 : (k : Int) / 440 = (q440 : Int) := by omega
  have c_q440 : IntKind.i64.wrap (q440 : Int) = (q440 : Int) := by rw [IntKind.wrap_i64]; omega
  have a_se : Int.tmod (q440 : Int) 4 = (se : Int) := by rw [Int.tmod_eq_emod_of_nonneg (by omega)]; omega
  have b_se : (q440 : Int) % 4 = (se : Int) := by omega
  have c_se : IntKind.i64.wrap (se : Int) = (se : Int) := by rw [IntKind.wrap_i64]; omega
  have a_q17 : Int.tdiv (k : Int) 1760 = (q17 : Int) := by rw [Int.tdiv_eq_ediv_of_nonneg (by omega)]; omega
  have b_q17 : (k : Int) / 1760 = (q17 : Int) := by omega
  have c_q17 : IntKind.i64.wrap (q17 : Int) = (q17 : Int) := by rw [IntKind.wrap_i64]; omega
  have a_gb : Int.tmod (q17 : Int) 34 = (gb : Int) := by rw [Int.tmod_eq_emod_of_nonneg (by omega)]; omega
  have b_gb : (q17 : Int) % 34 = (gb : Int) := by omega
  have c_gb : IntKind.i64.wrap (gb : Int) = (gb : Int) := by rw [IntKind.wrap_i64]; omega
  have a_ro : Int.tmod (q17 : Int) 4 = (ro : Int) := by rw [Int.tmod_eq_emod_of_nonneg (by omega)]; omega
  have b_ro : (q17 : Int) % 4 = (ro : Int) := by omega
  have c_ro : IntKind.i64.wrap (ro : Int) = (ro : Int) := by rw [IntKind.wrap_i64]; omega
  have a_q59 : Int.tdiv (k : Int) 59840 = (q59 : Int) := by rw [Int.tdiv_eq_ediv_of_nonneg (by omega)]; omega
  have b_q59 : (k : Int) / 59840 = (q59 : Int) := by omega
  have c_q59 : IntKind.i64.wrap (q59 : Int) = (q59 : Int) := by rw [IntKind.wrap_i64]; omega
  have a_gd : Int.tmod (q59 : Int) 16 = (gd : Int) := by rw [Int.tmod_eq_emod_of_nonneg (by omega)]; omega
  have b_gd : (q59 : Int) % 16 = (gd : Int) := by omega
  have c_gd : IntKind.i64.wrap (gd : Int) = (gd : Int) := by rw [IntKind.wrap_i64]; omega
  have a_q70 : Int.tdiv (k : Int) 7040 = (q70 : Int) := by rw [Int.tdiv_eq_ediv_of_nonneg (by omega)]; omega
  have b_q70 : (k : Int) / 7040 = (q70 : Int) := by omega
  have c_q70 : IntKind.i64.wrap (q70 : Int) = (q70 : Int) := by rw [IntKind.wrap_i64]; omega
  have u1 : IntKind.u32.wrap (q17 : Int) = (ba : Int) := by rw [wrap_u32n, e_ba]
  have u2 : IntKind.u32.wrap (q70 : Int) = (va : Int) := by rw [wrap_u32n, e_va]
  have u3 : IntKind.u32.wrap (gd : Int) = (gd : Int) := by rw [wrap_u32n]; omega
  have hse : se < 4 := by omega
  clear e_r11 e_q11 e_nu e_q55 e_ri e_q440 e_se e_q17 e_gb e_ro e_q59 e_gd e_q70 e_ba e_va hk
  have hc : se = 0 ∨ se = 1 ∨ se = 2 ∨ se = 3 := by omega
  clear hse
  rcases hc with rfl | rfl | rfl | rfl
  · by_cases hs : (0 : Int) < (s.size : Int)
    · have HG : Hid (capF n s = ⟨5, (nu : Int), (ri : Int), 0, 0, 0, 0, 0⟩) := by show capF n s = _; rw [HF.out, decide_eq_true hs, HCK.out]; rfl
      clear HF HCK
      go_enter Tryd.func29, Tryd.ntmps29
      go_wp2_with fail
      refine (HP.out _).mono ?_
      rintro e w' ⟨rfl, hh⟩
      have h2 := hh.symm; clear hh; subst h2
      go_wp2_with fail
      refine bodyPost_ret (v := cpV ⟨5, (nu : Int), (ri : Int), 0, 0, 0, 0, 0⟩) ?_ rfl ⟨by rw [HG.out], HO.out _ _⟩
      simp [results, Tryd.results29, go_sem, cpV]
    · have HG : Hid (capF n s = ⟨(r11 : Int), (nu : Int), (ri : Int), 0, 0, 0, 0, 0⟩) := by show capF n s = _; rw [HF.out, decide_eq_false hs, HCK.out]; rfl
      clear HF HCK
      go_enter Tryd.func29, Tryd.ntmps29
      go_wp2_with fail
      refine (HP.out _).mono ?_
      rintro e w' ⟨rfl, hh⟩
      have h2 := hh.symm; clear hh; subst h2
      go_wp2_with fail
      refine bodyPost_ret (v := cpV ⟨(r11 : Int), (nu : Int), (ri : Int), 0, 0, 0, 0, 0⟩) ?_ rfl ⟨by rw [HG.out], HO.out _ _⟩
      simp [results, Tryd.results29, go_sem, cpV]
  · by_cases hs : (0 : Int) < (s.size : Int)
    · have HG : Hid (capF n s = ⟨5, (nu : Int), (ri : Int), (ba : Int), 0, 0, 0, 0⟩) := by show capF n s = _; rw [HF.out, decide_eq_true hs, HCK.out]; rfl
      clear HF HCK
      go_enter Tryd.func29, Tryd.ntmps29
      go_wp2_with fail
      refine (HP.out _).mono ?_
      rintro e w' ⟨rfl, hh⟩
      have h2 := hh.symm; clear hh; subst h2
      go_wp2_with fail
      refine bodyPost_ret (v := cpV ⟨5, (nu : Int), (ri : Int), (ba : Int), 0, 0, 0, 0⟩) ?_ rfl ⟨by rw [HG.out], HO.out _ _⟩
      simp [results, Tryd.results29, go_sem, cpV]
    · have HG : Hid (capF n s = ⟨(r11 : Int), (nu : Int), (ri : Int), (ba : Int), 0, 0, 0, 0⟩) := by show capF n s = _; rw [HF.out, decide_eq_false hs, HCK.out]; rfl
      clear HF HCK
      go_enter Tryd.func29, Tryd.ntmps29
      go_wp2_with fail
      refine (HP.out _).mono ?_
      rintro e w' ⟨rfl, hh⟩
      have h2 := hh.symm; clear hh; subst h2
      go_wp2_with fail
      refine bodyPost_ret (v := cpV ⟨(r11 : Int), (nu : Int), (ri : Int), (ba : Int), 0, 0, 0, 0⟩) ?_ rfl ⟨by rw [HG.out], HO.out _ _⟩
      simp [results, Tryd.results29, go_sem, cpV]
  · by_cases hs : (0 : Int) < (s.size : Int)
    · have HG : Hid (capF n s = ⟨5, (nu : Int), (ri : Int), 0, (gd : Int), (gb : Int), 0, 0⟩) := by show capF n s = _; rw [HF.out, decide_eq_true hs, HCK.out]; rfl
      clear HF HCK
      go_enter Tryd.func29, Tryd.ntmps29
      go_wp2_with fail
      refine (HP.out _).mono ?_
      rintro e w' ⟨rfl, hh⟩
      have h2 := hh.symm; clear hh; subst h2
      go_wp2_with fail
      refine bodyPost_ret (v := cpV ⟨5, (nu : Int), (ri : Int), 0, (gd : Int), (gb : Int), 0, 0⟩) ?_ rfl ⟨by rw [HG.out], HO.out _ _⟩
      simp [results, Tryd.results29, go_sem, cpV]
    · have HG : Hid (capF n s = ⟨(r11 : Int), (nu : Int), (ri : Int), 0, (gd : Int), (gb : Int), 0, 0⟩) := by show capF n s = _; rw [HF.out, decide_eq_false hs, HCK.out]; rfl
      clear HF HCK
      go_enter Tryd.func29, Tryd.ntmps29
      go_wp2_with fail
      refine (HP.out _).mono ?_
      rintro e w' ⟨rfl, hh⟩
      have h2 := hh.symm; clear hh; subst h2
      go_wp2_with fail
      refine bodyPost_ret (v := cpV ⟨(r11 : Int), (nu : Int), (ri : Int), 0, (gd : Int), (gb : Int), 0, 0⟩) ?_ rfl ⟨by rw [HG.out], HO.out _ _⟩
      simp [results, Tryd.results29, go_sem, cpV]
  · by_cases hs : (0 : Int) < (s.size : Int)
    · have HG : Hid (capF n s = ⟨5, (nu : Int), (ri : Int), 0, 0, 0, (ro : Int), (va : Int)⟩) := by show capF n s = _; rw [HF.out, decide_eq_true hs, HCK.out]; rfl
      clear HF HCK
      go_enter Tryd.func29, Tryd.ntmps29
      go_wp2_with fail
      refine (HP.out _).mono ?_
      rintro e w' ⟨rfl, hh⟩
      have h2 := hh.symm; clear hh; subst h2
      go_wp2_with fail
      refine bodyPost_ret (v := cpV ⟨5, (nu : Int), (ri : Int), 0, 0, 0, (ro : Int), (va : Int)⟩) ?_ rfl ⟨by rw [HG.out], HO.out _ _⟩
      simp [results, Tryd.results29, go_sem, cpV]
    · have HG : Hid (capF n s = ⟨(r11 : Int), (nu : Int), (ri : Int), 0, 0, 0, (ro : Int), (va : Int)⟩) := by show capF n s = _; rw [HF.out, decide_eq_false hs, HCK.out]; rfl
      clear HF HCK
      go_enter Tryd.func29, Tryd.ntmps29
      go_wp2_with fail
      refine (HP.out _).mono ?_
      rintro e w' ⟨rfl, hh⟩
      have h2 := hh.symm; clear hh; subst h2
      go_wp2_with fail
      refine bodyPost_ret (v := cpV ⟨(r11 : Int), (nu : Int), (ri : Int), 0, 0, 0, (ro : Int), (va : Int)⟩) ?_ rfl ⟨by rw [HG.out], HO.out _ _⟩
      simp [results, Tryd.results29, go_sem, cpV]
end Go.Proofs.YtbmchgjilkoplaaDoor

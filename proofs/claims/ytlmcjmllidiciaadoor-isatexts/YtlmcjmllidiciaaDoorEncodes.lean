/- IsaEncodes: the law out of the contracts of isa.Encode and the document's Encode, its row, its tied card. -/
import Derived.Test.YtlmcjmllidiciaaDoorW7
import Derived.Test.YtlmcjmllidiciaaDoorRound
namespace Go.Proofs.YtlmcjmllidiciaaDoor
open Go.ChangeShapes Go.WideShapes Go.ChangeAt Go.RowKit
open Go.Vx (insV dec Ins wordOf)

theorem refEncode_good (i : Ins) (h : Good i) (w : World) :
    Calls Tryd.prog 10 #[insV i] w fun e w' => e = .returned (.tuple #[.int .i64 (wordOf i), .int .i64 0]) ∧ Below w.heap.size w w' :=
  refEncode_near i h.1 h.2.1 true (fun _ => h.2.2) (fun h => by cases h) w
theorem refEncode_bad (i : Ins) (h : ¬ Good i) (w : World) :
    Calls Tryd.prog 10 #[insV i] w fun e w' => e = .returned (.tuple #[.int .i64 0, .int .i64 8]) ∧ Below w.heap.size w w' := by
  by_cases h1 : 1 ≤ i.op ∧ i.op ≤ 48
  · exact refEncode_near i h1.1 h1.2 false (fun h => by cases h) (fun _ e => h ⟨h1.1, h1.2, e⟩) w
  · exact refEncode_far i h1 w
theorem good_addi : Good ⟨19, 1, 0, 0, 5⟩ := ⟨by decide, by decide, dec_addi⟩
theorem encode_addi (w : World) (hF : FormsAt w) :
    Calls Tryd.prog 9 #[.agg #[.int .i64 19, .int .i64 1, .int .i64 0, .int .i64 0, .int .i64 5]] w fun e w' => e = .returned (.tuple #[.int .u32 5243027, .int .i64 0]) ∧ Below w.heap.size w w' :=
  encode_good ⟨19, 1, 0, 0, 5⟩ good_addi w hF

set_option maxHeartbeats 1000000 in
theorem encodes_good (i : Ins) (hg : Good i) (w : World) (hF : FormsAt w) :
    Calls Tryd.prog 4 #[insV i] w fun e w' => e = .returned (.bool true) ∧ Below w.heap.size w w' := by
  have HF : Hid (FormsAt w) := hF
  have hz := hF.1
  have HG : Hid (Good i) := hg
  have HI : Hid (insV i = .agg #[.int .i64 i.op, .int .i64 i.rd, .int .i64 i.rs1, .int .i64 i.rs2, .int .i64 i.imm]) := rfl
  have hwb := Vx.word_bound i hg.1 hg.2.1
  obtain ⟨hw0, hw1⟩ := hwb
  clear hF hg
  rw [HI.out]
  go_enter Tryd.func4, Tryd.ntmps4
  go_wp2_with fail
  refine (encode_addi _ (HF.out.below hz ((Below.refl _ _).alloc (Nat.le_refl _) _))).mono ?_
  rintro e w1 ⟨rfl, hb1⟩
  have hs1 : w.heap.size < w1.heap.size := by have := hb1.size; simp at this; omega
  have hc1 := box_cells hb1 (show w.heap.size < _ by simp)
  have HB1 : Hid (Below w.heap.size w w1) := ((Below.refl _ _).alloc (Nat.le_refl _) _).trans (hb1.mono (by simp))
  clear hb1
  go_wp2_with fail
  rw [← HI.out]
  refine (encode_good i HG.out _ (HF.out.below hz HB1.out)).mono ?_
  rintro e w2 ⟨rfl, hb2⟩
  have hs2 : w.heap.size < w2.heap.size := Nat.lt_of_lt_of_le hs1 hb2.size
  have hc2 : ∀ o, w2.cell? ⟨w.heap.size, o, none⟩ = (w.alloc (.cells #[.int .i64 i.op, .int .i64 i.rd, .int .i64 i.rs1, .int .i64 i.rs2, .int .i64 i.imm] 24)).cell? ⟨w.heap.size, o, none⟩ := by
    intro o
    rw [box_cells hb2 hs1 o, hc1 o]
  have HB2 : Hid (Below w.heap.size w w2) := HB1.out.trans (hb2.mono (Nat.le_of_lt hs1))
  clear hb2 hc1
  go_wp2_with fail
  rw [← HI.out]
  refine (refEncode_good i HG.out _).mono ?_
  rintro e w3 ⟨rfl, hb3⟩
  have HB3 : Hid (Below w.heap.size w w3) := HB2.out.trans (hb3.mono (Nat.le_of_lt hs2))
  clear hb3 hc2
  go_wp2
  go_ret
  exact ⟨ret_val (by simp), HB3.out⟩

set_option maxHeartbeats 1000000 in
theorem encodes_bad (i : Ins) (hg : ¬ Good i) (w : World) (hF : FormsAt w) :
    Calls Tryd.prog 4 #[insV i] w fun e w' => e = .returned (.bool true) ∧ Below w.heap.size w w' := by
  have HF : Hid (FormsAt w) := hF
  have hz := hF.1
  have HG : Hid (¬ Good i) := hg
  have HI : Hid (insV i = .agg #[.int .i64 i.op, .int .i64 i.rd, .int .i64 i.rs1, .int .i64 i.rs2, .int .i64 i.imm]) := rfl
  clear hF hg
  rw [HI.out]
  go_enter Tryd.func4, Tryd.ntmps4
  go_wp2_with fail
  refine (encode_addi _ (HF.out.below hz ((Below.refl _ _).alloc (Nat.le_refl _) _))).mono ?_
  rintro e w1 ⟨rfl, hb1⟩
  have hs1 : w.heap.size < w1.heap.size := by have := hb1.size; simp at this; omega
  have hc1 := box_cells hb1 (show w.heap.size < _ by simp)
  have HB1 : Hid (Below w.heap.size w w1) := ((Below.refl _ _).alloc (Nat.le_refl _) _).trans (hb1.mono (by simp))
  clear hb1
  go_wp2_with fail
  rw [← HI.out]
  refine (encode_bad i HG.out _ (HF.out.below hz HB1.out)).mono ?_
  rintro e w2 ⟨rfl, hb2⟩
  have hs2 : w.heap.size < w2.heap.size := Nat.lt_of_lt_of_le hs1 hb2.size
  have hc2 : ∀ o, w2.cell? ⟨w.heap.size, o, none⟩ = (w.alloc (.cells #[.int .i64 i.op, .int .i64 i.rd, .int .i64 i.rs1, .int .i64 i.rs2, .int .i64 i.imm] 24)).cell? ⟨w.heap.size, o, none⟩ := by
    intro o
    rw [box_cells hb2 hs1 o, hc1 o]
  have HB2 : Hid (Below w.heap.size w w2) := HB1.out.trans (hb2.mono (Nat.le_of_lt hs1))
  clear hb2 hc1
  go_wp2_with fail
  rw [← HI.out]
  refine (refEncode_bad i HG.out _).mono ?_
  rintro e w3 ⟨rfl, hb3⟩
  have HB3 : Hid (Below w.heap.size w w3) := HB2.out.trans (hb3.mono (Nat.le_of_lt hs2))
  clear hb3 hc2
  go_wp2
  go_ret
  exact ⟨ret_val (by simp), HB3.out⟩

theorem isaEncodes_walk (i : Ins) (w : World) (hF : FormsAt w) :
    Calls Tryd.prog 4 #[insV i] w fun e w' => e = .returned (.bool true) ∧ Below w.heap.size w w' := by
  by_cases hg : Good i
  · exact encodes_good i hg w hF
  · exact encodes_bad i hg w hF

set_option maxRecDepth 100000 in
theorem isaEncodes_lifted (os : Os) (started : os.Started) (H : Type) (enc : TypeId × Value → H) :
    ReturnsInHanded {} Tryd.checked os 4 .any (fun w args => (Rows.isaEncodesSpec.pre enc Tryd.prog Tryd.f4 [] false w args ∧ laidMetH Tryd.prog [("vault/isa.forms", Rows.laid_vault_isa_forms)] w) ∧ sizedMet enc Tryd.prog Tryd.f4 (OpenSpec.ofChange Rows.isaEncodesSpec) false w args)
      (Rows.isaEncodesSpec.post enc Tryd.prog Tryd.f4 false true false false) := by
  refine returnsInHanded_of_change_and (C := Tryd.checked) (X := fun w _ => laidMetH Tryd.prog [("vault/isa.forms", Rows.laid_vault_isa_forms)] w) (fun _ _ _ hh h => h.of_heap hh) own started (by kernel_rfl) Tryd.func4
    (ChangeSpec.witness_shaped (enc := enc) (C := Tryd.checked) (os := os) (X := fun w _ => laidMetH Tryd.prog [("vault/isa.forms", Rows.laid_vault_isa_forms)] w) false (World.doorLaid Tryd.prog 400 os) #[.agg #[.int .i64 0, .int .i64 0, .int .i64 0, .int .i64 0, .int .i64 0]] 8 rfl (World.shaped_of_RefB (by kernel_rfl) (by kernel_rfl)) (by kernel_rfl) (by kernel_rfl) (by kernel_rfl) (forms_met os _)) ?_
  intro W base args ds gs before hval0 hW _ _ hL _
  have hval : ∀ (j : Nat) t v, Tryd.f4.params[j]? = some t → args[j]? = some v → Value.okWide Tryd.prog W .any base t v := hval0
  have hW' := hW
  obtain ⟨p, q, hA0, hV, rfl, hfz, hnd⟩ := hW
  have hA : DataW.TrodAll enc Tryd.prog W 0 (fun _ => true) true Tryd.f4.params.toList args.toList ds p := hA0
  rw [Tryd.params4] at hA hval
  obtain ⟨v0, d0, rfl, rfl, h0⟩ := trodAll_one hA
  obtain ⟨rfl, rfl⟩ := trodVars_none hV
  obtain ⟨i, rfl, rfl, rfl, wi⟩ := open_ins (hval 0 24 v0 rfl rfl) h0
  have hF := formsAt_of_laid hL
  clear hA0 hval0
  simp only [List.append_nil] at hW'
  refine (isaEncodes_walk i W hF).mono fun e W' ⟨he, hb⟩ => ?_
  subst he
  exact ⟨_, rfl, _, _, _, [], _, [], hW', trodAll_mk1 (shut_bool Tryd.underlying4 _), trodAll_mk1 (shut_ins i wi), rfl, hb.frame _, fun h => by cases h⟩

theorem isaEncodes_row : Rows.IsaEncodesSaid :=
  OpenClaim.holds_of_wide 4 Tryd.f4 rfl rfl rfl rfl rfl rfl rfl ⟨rfl, rfl, rfl, rfl, rfl⟩ rfl rfl rfl rfl rfl (by kernel_rfl) Tryd.func4 (by kernel_rfl)
    (of_decide_eq_true (by kernel_rfl)) (by unfold Func.isWrapper; first | (rw [if_pos (by decide +kernel)]; kernel_rfl) | (rw [if_neg (by decide +kernel)]; exact ⟨rfl, rfl⟩))
    (fun os started H enc _ => isaEncodes_lifted os started H enc)

/-- The statement: the tied card. -/
theorem isaEncodes_holds : Rows.IsaEncodesCardSaid :=
  Claim7.holds_tied_plain_at .later [] [.data] true _ false
    isaEncodes_row (fun _ h => by cases h) (by kernel_rfl) (fun _ h => by cases h) isaEncodes_row_tie rfl ⟨rfl, rfl⟩ (by kernel_rfl) rfl
    (fun f fn hf hfn => by
      obtain rfl : f = 4 := Option.some.inj ((show Tryd.prog.funcNamed "vault/vaultlaw.IsaEncodes" = some 4 by kernel_rfl).symm.trans hf) |>.symm
      obtain rfl : fn = Tryd.f4 := (Option.some.inj (Tryd.func4.symm.trans hfn)).symm
      exact ⟨by kernel_rfl, fun j t ht => by
        rw [Tryd.params4] at ht
        have hm : t ∈ [24] := by simpa using Array.mem_of_getElem? ht
        have hall : ([24].all fun u => !Tryd.prog.wantsStandIn u) = true := by kernel_rfl
        exact (show Tryd.prog.wantsStandIn t = false by simpa using List.all_eq_true.1 hall t hm)⟩)
    (by kernel_rfl)
#print axioms isaEncodes_holds
end Go.Proofs.YtlmcjmllidiciaaDoor

/- IsaTexts: the law out of the contracts of the two texts, its row, its tied card. -/
import Derived.Test.YtlmcjmllidiciaaDoorW13
namespace Go.Vx
theorem gather_small (k : Nat) (hk : k ≤ 7) (x : Int) (h0 : 0 ≤ x) (h1 : x < 4294967296) : Small (gatherOf k x) := by
  have hk' : k = 0 ∨ k = 1 ∨ k = 2 ∨ k = 3 ∨ k = 4 ∨ k = 5 ∨ k = 6 ∨ k = 7 := by omega
  unfold Small
  rcases hk' with rfl | rfl | rfl | rfl | rfl | rfl | rfl | rfl <;> simp only [gatherOf] <;> omega
theorem ins_small (op x : Int) (h0 : 1 ≤ op) (h1 : op ≤ 48) (h2 : 0 ≤ x) (h3 : x < 4294967296) : InsSmall (ins op x) := by
  refine ⟨⟨by show -4294967296 < op; omega, by show op < 4294967296; omega⟩, ?_, ?_, ?_, gather_small _ (kindOf_le op) x h2 h3⟩
  · show Small (rdF _ x); unfold rdF Small; split <;> omega
  · show Small (rs1F _ x); unfold rs1F Small; split <;> omega
  · show Small (rs2F _ x); unfold rs2F Small; split <;> omega
end Go.Vx
namespace Go.Proofs.YtlmcjmllidiciaaDoor
open Go.ChangeShapes Go.WideShapes Go.ChangeAt Go.RowKit Go.Sort Go.Shelf
open Go.Vx (insV Ins regB opd Small InsSmall tailF fullT letterOk shapeB nameB dec zeroIns wordOf ins)

theorem dec_small (x : Nat) (hx : x < 4294967296) : InsSmall (dec x) := by
  rcases find_cases x 48 1 with h | ⟨o, h1, h2, _, h4⟩
  · have hd : dec x = zeroIns := h
    rw [hd]
    exact ⟨⟨by decide, by decide⟩, ⟨by decide, by decide⟩, ⟨by decide, by decide⟩, ⟨by decide, by decide⟩, ⟨by decide, by decide⟩⟩
  · have hd : dec x = ins o x := h4
    rw [hd]
    exact Vx.ins_small o x h1 (by omega) (by omega) (by omega)
/-- What a word is told as. -/
def textOf (x : Nat) (l : List UInt8) : Prop := (dec x = zeroIns ∧ l = wordT x) ∨ (dec x ≠ zeroIns ∧ l = fullT (dec x))
theorem two_texts (x : Nat) (hx : x < 4294967296) : ∃ l : List UInt8, textOf x l ∧ (∀ w : World, FormsAt w → PowAt w → Calls Tryd.prog 11 #[.int .u32 (x : Int)] w fun e w' => e = .returned (.string ⟨l.toArray⟩) ∧ Below w.heap.size w w') ∧
    (∀ w : World, Calls Tryd.prog 12 #[.int .i64 (x : Int)] w fun e w' => e = .returned (.string ⟨l.toArray⟩) ∧ Below w.heap.size w w') := by
  rcases dec_cases x hx with h | ⟨h1, h2, h3⟩
  · exact ⟨wordT x, Or.inl ⟨h, rfl⟩, fun w hF hP => text_word x hx h w hF hP, fun w => refText_word x hx h w⟩
  · refine ⟨fullT (dec x), Or.inr ⟨fun e => ?_, rfl⟩, fun w hF hP => text_ins x hx (dec x) rfl h2.1 h2.2.1 (dec_small x hx) w hF hP, fun w => refText_ins x hx (dec x) rfl h2 h3 (dec_small x hx) w⟩
    rw [e] at h1
    exact absurd h1 (by decide)
theorem addi_text (l : List UInt8) (h : textOf 5243027 l) : l = [97, 100, 100, 105, 32, 120, 49, 44, 32, 120, 48, 44, 32, 53] := by
  have hd : dec (5243027 : Nat) = ⟨19, 1, 0, 0, 5⟩ := dec_addi
  rcases h with ⟨h, _⟩ | ⟨_, h⟩
  · rw [hd] at h
    exact absurd (congrArg Ins.op h) (by decide)
  · rw [h, hd]
    have e1 : Lib.itoa 1 = [49] := by rw [show (1 : Int) = ((1 : Nat) : Int) from rfl, Lib.itoa_nonneg, Lib.decDigits_one (by decide)]; rfl
    have e0 : Lib.itoa 0 = [48] := by rw [show (0 : Int) = ((0 : Nat) : Int) from rfl, Lib.itoa_nonneg, Lib.decDigits_one (by decide)]; rfl
    have e5 : Lib.itoa 5 = [53] := by rw [show (5 : Int) = ((5 : Nat) : Int) from rfl, Lib.itoa_nonneg, Lib.decDigits_one (by decide)]; rfl
    have hs : shapeB 19 = [100, 115, 105] := by decide
    have hn : nameB 19 = [97, 100, 100, 105] := by decide
    show nameB 19 ++ tailF ⟨19, 1, 0, 0, 5⟩ [32] (shapeB 19) = _
    rw [hs, hn]
    simp [tailF, opd, regB, e1, e0, e5]

set_option maxHeartbeats 1000000 in
theorem isaTexts_walk (n : Nat) (hn : n < 4294967296) (w : World) (hF : FormsAt w) (hP : PowAt w) :
    Calls Tryd.prog 5 #[.int .u32 (n : Int)] w fun e w' => e = .returned (.bool true) ∧ Below w.heap.size w w' := by
  have HF : Hid (FormsAt w) := hF
  have HP : Hid (PowAt w) := hP
  have hz := hF.1
  have hz1 := hP.size
  obtain ⟨la, ha, hca, _⟩ := two_texts 5243027 (by decide)
  have hla := addi_text la ha
  subst hla
  obtain ⟨l, _, hc1, hc2⟩ := two_texts n hn
  have HA : Hid (∀ w : World, FormsAt w → PowAt w → Calls Tryd.prog 11 #[.int .u32 5243027] w fun e w' => e = .returned (.string ⟨#[97, 100, 100, 105, 32, 120, 49, 44, 32, 120, 48, 44, 32, 53]⟩) ∧ Below w.heap.size w w') := hca
  have H1 : Hid (∀ w : World, FormsAt w → PowAt w → Calls Tryd.prog 11 #[.int .u32 (n : Int)] w fun e w' => e = .returned (.string ⟨l.toArray⟩) ∧ Below w.heap.size w w') := hc1
  have H2 : Hid (∀ w : World, Calls Tryd.prog 12 #[.int .i64 (n : Int)] w fun e w' => e = .returned (.string ⟨l.toArray⟩) ∧ Below w.heap.size w w') := hc2
  clear hF hP ha hca hc1 hc2
  go_enter Tryd.func5, Tryd.ntmps5
  go_wp2_with fail
  refine (HA.out _ HF.out HP.out).mono ?_
  rintro e w1 ⟨rfl, hb1⟩
  have HB1 : Hid (Below w.heap.size w w1) := hb1
  have hs1 : w.heap.size ≤ w1.heap.size := hb1.size
  clear hb1
  go_wp2_with fail
  refine (H1.out _ (HF.out.below hz HB1.out) (HP.out.below HB1.out hz1)).mono ?_
  rintro e w2 ⟨rfl, hb2⟩
  have HB2 : Hid (Below w.heap.size w w2) := HB1.out.trans (hb2.mono hs1)
  have hs2 : w.heap.size ≤ w2.heap.size := Nat.le_trans hs1 hb2.size
  clear hb2
  go_wp2_with fail
  refine (H2.out _).mono ?_
  rintro e w3 ⟨rfl, hb3⟩
  have HB3 : Hid (Below w.heap.size w w3) := HB2.out.trans (hb3.mono hs2)
  clear hb3
  go_wp2
  go_ret
  exact ⟨ret_val (by simp), HB3.out⟩

abbrev laid4 : List (String × DataW Unit) := [("math/bits.deBruijn32tab", Rows.laid_math_bits_deBruijn32tab), ("math/bits.deBruijn64tab", Rows.laid_math_bits_deBruijn64tab), ("internal/strconv.uint64pow10", Rows.laid_internal_strconv_uint64pow10), ("vault/isa.forms", Rows.laid_vault_isa_forms)]
theorem laid4_met (os : Os) (args : Array Value) : laidMetH Tryd.prog laid4 ((World.doorLaid Tryd.prog 400 os).forCall (fun _ _ => 0) ⟨#[], args, []⟩).memory :=
  laidMetH_of_parts3 (fuel := 8) (laidMet_of_run' 8 (by kernel_rfl) (by kernel_rfl)) (by kernel_rfl) (by kernel_rfl)
theorem tPow : (Tryd.prog.globals[1]?).map (·.type) = some 63 := by kernel_rfl
theorem pow_datum : (Rows.laid_internal_strconv_uint64pow10 : DataW Unit) = Lib.tabData .u64 Lib.pow10Tab := by kernel_rfl
theorem of_laid4 {W : World} (h : laidMetH Tryd.prog laid4 W) : FormsAt W ∧ PowAt W := by
  rw [MakeChecks.laidMetH_plain _ _ _ (by kernel_rfl)] at h
  obtain ⟨ps, ⟨_, _, _, _, _, _, _, _, _, _, ⟨_, _, _, _, _, _, _, _, _, _, ⟨g2, t2, cs2, f2, p2, q2, hg2, ht2, hv2, hd2, ⟨g3, t3, cs3, f3, p3, q3, hg3, ht3, hv3, hd3, _⟩, _⟩, _⟩, _⟩, _⟩ := h
  obtain rfl := Option.some.inj (gForms.symm.trans hg3)
  obtain rfl := Option.some.inj (tForms.symm.trans ht3)
  obtain rfl := Option.some.inj (gPow.symm.trans hg2)
  obtain rfl := Option.some.inj (tPow.symm.trans ht2)
  refine ⟨formsAt_of_cells hv3 (forms_cells hd3), ?_⟩
  rw [pow_datum] at hd2
  have := Lib.cells_of_tab Tryd.underlying63 Tryd.underlying48 (by kernel_rfl) (by kernel_rfl) hd2
  show W.var? Tryd.prog "internal/strconv.uint64pow10" = some (Lib.pow10Tab.map fun z => Value.int .u64 z).toArray
  rw [hv2, ← this]

set_option maxRecDepth 100000 in
theorem isaTexts_lifted (os : Os) (started : os.Started) (H : Type) (enc : TypeId × Value → H) :
    ReturnsInHanded {} Tryd.checked os 5 .any (fun w args => (Rows.isaTextsSpec.pre enc Tryd.prog Tryd.f5 [] false w args ∧ laidMetH Tryd.prog laid4 w) ∧ sizedMet enc Tryd.prog Tryd.f5 (OpenSpec.ofChange Rows.isaTextsSpec) false w args)
      (Rows.isaTextsSpec.post enc Tryd.prog Tryd.f5 false true false false) := by
  refine returnsInHanded_of_change_and (C := Tryd.checked) (X := fun w _ => laidMetH Tryd.prog laid4 w) (fun _ _ _ hh h => h.of_heap hh) own started (by kernel_rfl) Tryd.func5
    (ChangeSpec.witness_shaped (enc := enc) (C := Tryd.checked) (os := os) (X := fun w _ => laidMetH Tryd.prog laid4 w) false (World.doorLaid Tryd.prog 400 os) #[.int .u32 0] 8 rfl (World.shaped_of_RefB (by kernel_rfl) (by kernel_rfl)) (by kernel_rfl) (by kernel_rfl) (by kernel_rfl) (laid4_met os _)) ?_
  intro W base args ds gs before hval0 hW _ _ hL _
  have hval : ∀ (j : Nat) t v, Tryd.f5.params[j]? = some t → args[j]? = some v → Value.okWide Tryd.prog W .any base t v := hval0
  have hW' := hW
  obtain ⟨p, q, hA0, hV, rfl, hfz, hnd⟩ := hW
  have hA : DataW.TrodAll enc Tryd.prog W 0 (fun _ => true) true Tryd.f5.params.toList args.toList ds p := hA0
  rw [Tryd.params5] at hA hval
  obtain ⟨v0, d0, rfl, rfl, h0⟩ := trodAll_one hA
  obtain ⟨rfl, rfl⟩ := trodVars_none hV
  obtain ⟨x, rfl, rfl, rfl, wx⟩ := open_int Tryd.underlying22 (hval 0 22 v0 rfl rfl) h0
  obtain ⟨hF, hP⟩ := of_laid4 hL
  clear hA0 hval0
  simp only [List.append_nil] at hW'
  obtain ⟨b0, b1⟩ := bounds_u32 wx
  obtain ⟨n, rfl⟩ := Int.eq_ofNat_of_zero_le b0
  refine (isaTexts_walk n (by omega) W hF hP).mono fun e W' ⟨he, hb⟩ => ?_
  subst he
  exact ⟨_, rfl, _, _, _, [], _, [], hW', trodAll_mk1 (shut_bool Tryd.underlying4 _), trodAll_mk1 (shut_int Tryd.underlying22 wx), rfl, hb.frame _, fun h => by cases h⟩

theorem isaTexts_row : Rows.IsaTextsSaid :=
  OpenClaim.holds_of_wide 5 Tryd.f5 rfl rfl rfl rfl rfl rfl rfl ⟨rfl, rfl, rfl, rfl, rfl⟩ rfl rfl rfl rfl rfl (by kernel_rfl) Tryd.func5 (by kernel_rfl)
    (of_decide_eq_true (by kernel_rfl)) (by unfold Func.isWrapper; first | (rw [if_pos (by decide +kernel)]; kernel_rfl) | (rw [if_neg (by decide +kernel)]; exact ⟨rfl, rfl⟩))
    (fun os started H enc _ => isaTexts_lifted os started H enc)

/-- The statement: the tied card. -/
theorem isaTexts_holds : Rows.IsaTextsCardSaid :=
  Claim7.holds_tied_plain_at .later [] [.data, .data, .data, .data] true _ false
    isaTexts_row (fun _ h => by cases h) (by kernel_rfl) (fun _ h => by cases h) isaTexts_row_tie rfl ⟨rfl, rfl⟩ (by kernel_rfl) rfl
    (fun f fn hf hfn => by
      obtain rfl : f = 5 := Option.some.inj ((show Tryd.prog.funcNamed "vault/vaultlaw.IsaTexts" = some 5 by kernel_rfl).symm.trans hf) |>.symm
      obtain rfl : fn = Tryd.f5 := (Option.some.inj (Tryd.func5.symm.trans hfn)).symm
      exact ⟨by kernel_rfl, fun j t ht => by
        rw [Tryd.params5] at ht
        have hm : t ∈ [22] := by simpa using Array.mem_of_getElem? ht
        have hall : ([22].all fun u => !Tryd.prog.wantsStandIn u) = true := by kernel_rfl
        exact (show Tryd.prog.wantsStandIn t = false by simpa using List.all_eq_true.1 hall t hm)⟩)
    (by kernel_rfl)
#print axioms isaTexts_holds
end Go.Proofs.YtlmcjmllidiciaaDoor

/- IsaDecodes: the law out of the two contracts, its row, its tied card. -/
import Derived.Test.YtlmcjmllidiciaaDoorW5
import Derived.Test.YtlmcjmllidiciaaDoorLaid
import Derived.Test.YtlmcjmllidiciaaDoorCards
import Derived.Test.YtlmcjmllidiciaaDoorTie
import Derived.SevenTiedAt
namespace Go.Proofs.YtlmcjmllidiciaaDoor
open Go.ChangeShapes Go.WideShapes Go.ChangeAt Go.RowKit
open Go.Vx (kindOf formOf ins insV zeroIns fits dec)
theorem dec_addi : dec 5243027 = ⟨19, 1, 0, 0, 5⟩ := by kernel_rfl
set_option maxHeartbeats 1000000 in
theorem isaDecodes_walk (x : Nat) (hx : x < 4294967296) (w : World) (hF : FormsAt w) :
    Calls Tryd.prog 3 #[.int .u32 (x : Int)] w fun e w' => e = .returned (.bool true) ∧ Below w.heap.size w w' := by
  have HF : Hid (FormsAt w) := hF
  have hz := hF.1
  clear hF
  go_enter Tryd.func3, Tryd.ntmps3
  go_wp2_with fail
  refine (decode_any 5243027 (by omega) (by omega) _ HF.out).mono ?_
  rintro e w1 ⟨rfl, hb1⟩
  rw [dec_addi]
  unfold insV
  have hs1 : w.heap.size ≤ w1.heap.size := hb1.size
  have HF1 : Hid (FormsAt (w1.alloc (.cells #[.int .i64 19, .int .i64 1, .int .i64 0, .int .i64 0, .int .i64 5] 24))) := HF.out.below hz (hb1.alloc hs1 _)
  go_wp2_with fail
  refine (decode_any x (by omega) (by omega) _ HF1.out).mono ?_
  rintro e w2 ⟨rfl, hb2⟩
  unfold insV
  have hs2 : w1.heap.size + 1 ≤ w2.heap.size := by have := hb2.size; simpa using this
  go_wp2_with fail
  refine (refDecode_any x hx _).mono ?_
  rintro e w3 ⟨rfl, hb3⟩
  unfold insV
  have hs3 : w2.heap.size + 1 ≤ w3.heap.size := by have := hb3.size; simpa using this
  have hc2 : ∀ o, w3.cell? ⟨w2.heap.size, o, none⟩ = (w2.alloc (.cells #[.int .i64 (dec x).op, .int .i64 (dec x).rd, .int .i64 (dec x).rs1, .int .i64 (dec x).rs2, .int .i64 (dec x).imm] 24)).cell? ⟨w2.heap.size, o, none⟩ := fun o => hb3.cell (p := ⟨w2.heap.size, o, none⟩) (by simp)
  have hc1 : ∀ o, w3.cell? ⟨w1.heap.size, o, none⟩ = (w1.alloc (.cells #[.int .i64 19, .int .i64 1, .int .i64 0, .int .i64 0, .int .i64 5] 24)).cell? ⟨w1.heap.size, o, none⟩ := by
    intro o
    rw [hb3.cell (p := ⟨w1.heap.size, o, none⟩) (by simp; omega), ← hb2.cell (p := ⟨w1.heap.size, o, none⟩) (by simp)]
    exact ((Below.refl w2.heap.size w2).alloc (Nat.le_refl _) _).cell (p := ⟨w1.heap.size, o, none⟩) (by show w1.heap.size < w2.heap.size; omega)
  have hs4 : w1.heap.size < w3.heap.size := by omega
  have hs5 : w2.heap.size < w3.heap.size := by omega
  have HBW : Hid (Below w.heap.size w w3) := ((hb1.alloc hs1 _).trans ((hb2.mono (by simp; omega)).alloc (by omega) _)).trans (hb3.mono (by simp; omega))
  clear hb1 hb2 hb3
  go_wp2
  go_ret
  exact ⟨ret_val (by simp), HBW.out.alloc (by omega) _⟩

/-- The door's own heap meets the condition. -/
theorem forms_met (os : Os) (args : Array Value) : laidMetH Tryd.prog [("vault/isa.forms", Rows.laid_vault_isa_forms)] ((World.doorLaid Tryd.prog 400 os).forCall (fun _ _ => 0) ⟨#[], args, []⟩).memory :=
  laidMetH_of_parts3 (fuel := 8) (laidMet_of_run' 8 (by kernel_rfl) (by kernel_rfl)) (by kernel_rfl) (by kernel_rfl)

set_option maxRecDepth 100000 in
theorem isaDecodes_lifted (os : Os) (started : os.Started) (H : Type) (enc : TypeId × Value → H) :
    ReturnsInHanded {} Tryd.checked os 3 .any (fun w args => (Rows.isaDecodesSpec.pre enc Tryd.prog Tryd.f3 [] false w args ∧ laidMetH Tryd.prog [("vault/isa.forms", Rows.laid_vault_isa_forms)] w) ∧ sizedMet enc Tryd.prog Tryd.f3 (OpenSpec.ofChange Rows.isaDecodesSpec) false w args)
      (Rows.isaDecodesSpec.post enc Tryd.prog Tryd.f3 false true false false) := by
  refine returnsInHanded_of_change_and (C := Tryd.checked) (X := fun w _ => laidMetH Tryd.prog [("vault/isa.forms", Rows.laid_vault_isa_forms)] w) (fun _ _ _ hh h => h.of_heap hh) own started (by kernel_rfl) Tryd.func3
    (ChangeSpec.witness_shaped (enc := enc) (C := Tryd.checked) (os := os) (X := fun w _ => laidMetH Tryd.prog [("vault/isa.forms", Rows.laid_vault_isa_forms)] w) false (World.doorLaid Tryd.prog 400 os) #[.int .u32 0] 8 rfl (World.shaped_of_RefB (by kernel_rfl) (by kernel_rfl)) (by kernel_rfl) (by kernel_rfl) (by kernel_rfl) (forms_met os _)) ?_
  intro W base args ds gs before hval0 hW _ _ hL _
  have hval : ∀ (j : Nat) t v, Tryd.f3.params[j]? = some t → args[j]? = some v → Value.okWide Tryd.prog W .any base t v := hval0
  have hW' := hW
  obtain ⟨p, q, hA0, hV, rfl, hfz, hnd⟩ := hW
  have hA : DataW.TrodAll enc Tryd.prog W 0 (fun _ => true) true Tryd.f3.params.toList args.toList ds p := hA0
  rw [Tryd.params3] at hA hval
  obtain ⟨v0, d0, rfl, rfl, h0⟩ := trodAll_one hA
  obtain ⟨rfl, rfl⟩ := trodVars_none hV
  obtain ⟨x, rfl, rfl, rfl, wx⟩ := open_int Tryd.underlying22 (hval 0 22 v0 rfl rfl) h0
  have hF := formsAt_of_laid hL
  clear hA0 hval0
  simp only [List.append_nil] at hW'
  obtain ⟨b0, b1⟩ := bounds_u32 wx
  obtain ⟨n, rfl⟩ := Int.eq_ofNat_of_zero_le b0
  refine (isaDecodes_walk n (by omega) W hF).mono fun e W' ⟨he, hb⟩ => ?_
  subst he
  exact ⟨_, rfl, _, _, _, [], _, [], hW', trodAll_mk1 (shut_bool Tryd.underlying4 _), trodAll_mk1 (shut_int Tryd.underlying22 wx), rfl, hb.frame _, fun h => by cases h⟩

theorem isaDecodes_row : Rows.IsaDecodesSaid :=
  OpenClaim.holds_of_wide 3 Tryd.f3 rfl rfl rfl rfl rfl rfl rfl ⟨rfl, rfl, rfl, rfl, rfl⟩ rfl rfl rfl rfl rfl (by kernel_rfl) Tryd.func3 (by kernel_rfl)
    (of_decide_eq_true (by kernel_rfl)) (by unfold Func.isWrapper; first | (rw [if_pos (by decide +kernel)]; kernel_rfl) | (rw [if_neg (by decide +kernel)]; exact ⟨rfl, rfl⟩))
    (fun os started H enc _ => isaDecodes_lifted os started H enc)

/-- The statement: the tied card. -/
theorem isaDecodes_holds : Rows.IsaDecodesCardSaid :=
  Claim7.holds_tied_plain_at .later [] [.data] true _ false
    isaDecodes_row (fun _ h => by cases h) (by kernel_rfl) (fun _ h => by cases h) isaDecodes_row_tie rfl ⟨rfl, rfl⟩ (by kernel_rfl) rfl
    (fun f fn hf hfn => by
      obtain rfl : f = 3 := Option.some.inj ((show Tryd.prog.funcNamed "vault/vaultlaw.IsaDecodes" = some 3 by kernel_rfl).symm.trans hf) |>.symm
      obtain rfl : fn = Tryd.f3 := (Option.some.inj (Tryd.func3.symm.trans hfn)).symm
      exact ⟨by kernel_rfl, fun j t ht => by
        rw [Tryd.params3] at ht
        have hm : t ∈ [22] := by simpa using Array.mem_of_getElem? ht
        have hall : ([22].all fun u => !Tryd.prog.wantsStandIn u) = true := by kernel_rfl
        exact (show Tryd.prog.wantsStandIn t = false by simpa using List.all_eq_true.1 hall t hm)⟩)
    (by kernel_rfl)
#print axioms isaDecodes_holds
end Go.Proofs.YtlmcjmllidiciaaDoor

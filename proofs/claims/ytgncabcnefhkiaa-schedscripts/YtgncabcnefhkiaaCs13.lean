import Derived.Test.YtgncabcnefhkiaaCs3
import Derived.Deep.RegionLaw
import Derived.Test.YtgncabcnefhkiaaCs12
/- append as a step of a region that draws. -/
namespace Go.Vx
set_option linter.unusedVariables false
variable {α : Type}
theorem step_append_one {P : Program} {L : Lay α} {t e : TypeId} (hk : Kind P L t e) {w : World} {ops : Array Oper} {o : Oper} {a : Act} {K : Act → World → Prop} {Q : Exit → Act → World → Prop} {E : Prop} (hgd : o.guard = none) (s x : Operand)
    (ho : o.op = .call { callee := .builtin .append, args := #[s, x], argTypes := #[t, t] }) (base : Nat) (v : Value) (xs : List α) (hs : a.eval s = v) (hown : OwnL L w base e v xs) (y : α) (b n c : Nat) (hx : a.eval x = .slice (some ⟨b, 0, none⟩) 1 c) (hy : ∀ j u, (L.cf y)[j]? = some u → w.cell? ⟨b, j, none⟩ = some u) (hlen : xs.length + 1 ≤ 10000000) (hbase : base ≤ w.heap.size)
    (h : ∀ v' w', OwnL L w' base e v' (xs ++ [y]) → Only (fun k => v.ownBlock = some k) w w' → (v'.ownBlock = v.ownBlock ∨ ∃ g, v'.ownBlock = some g ∧ w.heap.size ≤ g ∧ Only (fun _ => False) w w') → K (a.put o.dst v') w') : if Region.wanted o (yielded ops a.tmps) = true then Oper.wp P o a w K Q else E := by
  have hw : Region.wanted o (yielded ops a.tmps) = true := by simp [Region.wanted, hgd]
  rw [if_pos hw]
  obtain ⟨v', w', hr, h2, h3, h4⟩ := run_append_many hk w o.type base v xs hown (some ⟨b, 0, none⟩) c [y] (fun _ => ⟨_, rfl, fun j u hj => by rw [addr_add, Nat.zero_add]; exact hy j u (by rw [fl_one] at hj; exact hj)⟩) hlen hbase
  have hr' : (Builtin.append_ #[t, t] o.type #[v, .slice (some ⟨b, 0, none⟩) 1 c]).run P w = .ok v' w' := hr
  unfold Oper.wp execOp
  simp only [ho, resolve, invoke, builtin, Sem.run_bind, Sem.run_pure, Result.andThen_ok, List.map_toArray, List.map_cons, List.map_nil, hs, hx, hr']
  exact h v' w' h2 h3 h4
theorem step_callx {P : Program} {ops : Array Oper} {o : Oper} {a : Act} {w : World} {K : Act → World → Prop} {Q : Exit → Act → World → Prop} {E : Prop} {R : Ending → World → Prop}
    (hg : o.guard = none) (f : FuncId) (args : Array Operand) (ats : Array TypeId) (hop : o.op = Op.call { callee := Callee.value (.func f), args := args, argTypes := ats }) (vals : Array Value) (hv : args.map a.eval = vals)
    (hcf : (callFunc f vals).run P w = .ok (.enter f vals) w) (hC : Calls P f vals w R) (hR : ∀ e w', R e w' → ∃ v, e = .returned v ∧ K (a.put o.dst v) w') :
    if Region.wanted o (yielded ops a.tmps) = true then Oper.wp P o a w K Q else E := by
  have hw : Region.wanted o (yielded ops a.tmps) = true := by simp [Region.wanted, hg]
  rw [if_pos hw]
  unfold Oper.wp
  simp [execOp, hop, resolve, invoke, hv, hcf, Act.eval, Deferred.ofValue]
  refine hC.mono ?_
  intro e w' h
  obtain ⟨v, rfl, hk⟩ := hR e w' h
  exact hk
theorem only_set8 (w : World) (g : Nat) (a0 a1 a2 a3 a4 a5 a6 a7 : Value) : Only (fun k => k = g) w ((((((((w.setCell ⟨g, 0, none⟩ a0).setCell ⟨g, 1, none⟩ a1).setCell ⟨g, 2, none⟩ a2).setCell ⟨g, 3, none⟩ a3).setCell ⟨g, 4, none⟩ a4).setCell ⟨g, 5, none⟩ a5).setCell ⟨g, 6, none⟩ a6).setCell ⟨g, 7, none⟩ a7) :=
  ((((((((Only.refl (fun k => k = g) w).setCell (p := ⟨g, 0, none⟩) (Or.inl rfl) a0).setCell (p := ⟨g, 1, none⟩) (Or.inl rfl) a1).setCell (p := ⟨g, 2, none⟩) (Or.inl rfl) a2).setCell (p := ⟨g, 3, none⟩) (Or.inl rfl) a3).setCell (p := ⟨g, 4, none⟩) (Or.inl rfl) a4).setCell (p := ⟨g, 5, none⟩) (Or.inl rfl) a5).setCell (p := ⟨g, 6, none⟩) (Or.inl rfl) a6).setCell (p := ⟨g, 7, none⟩) (Or.inl rfl) a7
end Go.Vx

/- Chapter 9, the document's scheduler: Remove. -/
namespace Go.Proofs.Ytgncabcnefhkiaa
open Go.ChangeShapes Go.WideShapes Go.ChangeAt Go.RowKit
open Go.Vx
set_option linter.unusedVariables false
variable {U V S : Nat → Prop} {w w2 w3 : World} {sb : Nat} {vt vl : Value} {ts : List (Int × Int)} {t : Nat} {lf : Int} {es : List Et} {ck : Nat}

theorem et_from (g M cb i : Nat) (hi : i < M) (hc : M ≤ cb) : ∃ q : Option Addr, (∀ wv, (Instr.slice 72 (.slice (some ⟨g, 0, none⟩) M cb) (some (.int .i64 ((i : Int) + 1))) none none).run Try.prog wv = .ok (.slice q (M - (i + 1)) (cb - (i + 1))) wv) ∧ (i + 1 < M → q = some ⟨g, (i + 1) * 5, none⟩) := by
  have ht : Try.prog.underlying 72 = some (.slice (Try.prog.elem 72)) := by kernel_rfl
  have hsz : ∀ wv, (sizeOf (Try.prog.elem 72)).run Try.prog wv = .ok 5 wv := by
    have he : Try.prog.elem 72 = 104 := by kernel_rfl
    rw [he]
    obtain ⟨k, z, h1, _, h2, _⟩ := etK.hi
    intro wv
    have h3 : k.size = 5 := h2
    simp [sizeOf, typeInfo, h1, h3]
  by_cases hq : cb = i + 1
  · refine ⟨some ⟨g, 0, none⟩, fun wv => ?_, fun h => by omega⟩
    rw [run_slice_l wv 72 (some ⟨g, 0, none⟩) M cb ht .i64 ((i : Int) + 1) (by omega) (by omega), hsz]
    have e : ((i : Int) + 1).toNat = i + 1 := by omega
    rw [e, hq]
    simp [sliced, Result.andThen]
  · refine ⟨some ⟨g, (i + 1) * 5, none⟩, fun wv => ?_, fun h => rfl⟩
    rw [run_slice_l wv 72 (some ⟨g, 0, none⟩) M cb ht .i64 ((i : Int) + 1) (by omega) (by omega), hsz]
    have e : ((i : Int) + 1).toNat = i + 1 := by omega
    rw [e]
    simp [sliced, Result.andThen, hq, addr_add]
def remSE (es : List Et) (n : Int) : Int := match fnF es n with | none => 6 | some _ => 0
def remSL (es : List Et) (n : Int) : List Et := match fnF es n with | none => es | some i => es.take i ++ es.drop (i + 1)
set_option maxRecDepth 100000 in
set_option maxHeartbeats 2000000 in
theorem srem_ok (h : SdAt U w sb vt vl ts t lf es ck) (n : Int) : Calls Try.prog 30 #[.pointer (some ⟨sb, 0, none⟩), .int .i64 n] w fun e w' => e = .returned (.int .i64 (remSE es n)) ∧ SdX U w' sb ts t lf (remSL es n) ck ∧ Only (fun k => ¬ U k) w w' := by
  have HH := Vx.hid h
  cases hi : fnF es n with
  | none =>
    have HFN := Vx.hid (find_none h hi)
    have e1 : remSE es n = 6 := by unfold remSE; rw [hi]
    have e2 : remSL es n = es := by unfold remSL; rw [hi]
    rw [e1, e2]
    clear h hi e1 e2
    go_enter Try.func30, Try.ntmps30
    go_wp2_with fail
    refine HFN.out.mono ?_
    rintro e w' ⟨rfl, h⟩
    have h3 := h.symm; clear h; subst h3
    go_wp2_with fail
    all_goals
      go_ret
      exact ⟨rfl, ⟨_, _, HH.out⟩, Only.refl _ _⟩
  | some i =>
    obtain ⟨hib, _⟩ := fnF_at hi
    have HFN := Vx.hid (find_some h hi)
    have e1 : remSE es n = 0 := by unfold remSE; rw [hi]
    have e2 : remSL es n = es.take i ++ es.drop (i + 1) := by unfold remSL; rw [hi]
    rw [e1, e2]
    have hi0 : ¬ (i : Int) < 0 := by omega
    obtain ⟨pb0, cb, hvb, hcb, _, hbg⟩ := h.l.form
    obtain ⟨g, rfl, _⟩ := hbg (by omega)
    subst hvb
    obtain ⟨M, hM⟩ : ∃ M, M = es.length := ⟨_, rfl⟩
    have HM := Vx.hid hM
    have hnb := h.nl
    rw [← hM] at hcb hib hnb
    have c3 := h.c3
    rw [← hM] at c3
    clear hbg hM hi e1 e2 h
    have hwi : IntKind.i64.wrap ((i : Int) + 1) = (i : Int) + 1 := by rw [IntKind.wrap_i64]; omega
    have hs1 : 0 ≤ (i : Int) ∧ (i : Int) ≤ (cb : Int) := by omega
    obtain ⟨q2, hsl, hq2⟩ := et_from g M cb i hib hcb
    have HQ2 := Vx.hid hq2
    have hT1 : i = (es.take i).length := by rw [List.length_take]; have := HM.out; omega
    have hT2 : M - (i + 1) = (es.drop (i + 1)).length := by rw [List.length_drop, HM.out]
    have HT1 := Vx.hid hT1
    have HT2 := Vx.hid hT2
    have hS1 : 0 < (es.take i).length → ∃ ad, (some ⟨g, 0, none⟩ : Option Addr) = some ad ∧ ∀ j u, (fl etL (es.take i))[j]? = some u → w.cell? (ad.add j) = some u := fun _ => ⟨_, rfl, fun j u hj => by
      have := HH.out.l.part 0 i j u (by rw [List.drop_zero]; exact hj)
      rw [Nat.zero_mul] at this
      exact this⟩
    have HS1 := Vx.hid hS1
    have hSl : ([] : List Et).length + (es.take i).length ≤ 10000000 := by rw [← hT1]; simp; omega
    have HSL := Vx.hid hSl
    clear hq2 hT1 hT2 hS1 hSl
    go_enter Try.func30, Try.ntmps30
    go_wp2_with fail
    refine HFN.out.mono ?_
    rintro e w' ⟨rfl, h⟩
    have h3 := h.symm; clear h; subst h3
    go_upto_region 6 with (at_builtin; refine wpList_append_many etK _ rfl _ _ rfl 0 (.slice none 0 0) [] rfl (OwnL.nil _ _ _ _) (some ⟨g, 0, none⟩) cb i (es.take i) rfl HT1.out HS1.out HSL.out (Nat.zero_le _) ?_; intro v1 w4 hv1 hv2 hv3; obtain ⟨p1, c1', hv', _⟩ := hv1.form; obtain ⟨m1, hm1⟩ : ∃ m, m = (([] : List Et) ++ es.take i).length := ⟨_, rfl⟩; rw [← hm1] at hv'; subst hv'; clear hm1)
    have hon : Only (fun _ => False) w w4 := hv2.mono (fun k _ h => by cases h)
    have hb1 : ∀ k, (Value.slice p1 m1 c1').ownBlock = some k → w.heap.size ≤ k := fun k hk => by
      rcases lies_of hv3 k hk with h | h
      · cases h
      · exact h
    have h1' := HH.out.quiet hon
    have c3' := h1'.c3
    rw [← HM.out] at c3'
    have hS2 : 0 < (es.drop (i + 1)).length → ∃ ad, q2 = some ad ∧ ∀ j u, (fl etL (es.drop (i + 1)))[j]? = some u → w4.cell? (ad.add j) = some u := fun h0 => ⟨_, HQ2.out (by have := HT2.out; omega), fun j u hj => by
      have := h1'.l.part (i + 1) (es.drop (i + 1)).length j u (by rw [List.take_length]; exact hj)
      exact this⟩
    have hSl2 : (([] : List Et) ++ es.take i).length + (es.drop (i + 1)).length ≤ 10000000 := by
      rw [List.nil_append, ← HT1.out, ← HT2.out]; omega
    have hFL : ((([] : List Et) ++ es.take i) ++ es.drop (i + 1)).length ≤ 1000000 := by
      rw [List.length_append, List.nil_append, ← HT1.out, ← HT2.out]; omega
    have HS2 := Vx.hid hS2
    have HSL2 := Vx.hid hSl2
    have HFL := Vx.hid hFL
    have HV1 := Vx.hid (⟨hv1, hon, hb1⟩ : _ ∧ _ ∧ _)
    clear hv1 hv2 hv3 hon hb1 h1' hS2 hSl2 hFL HS1 HSL c3
    go_wp2_with (at_builtin; refine wpList_append_many etK _ rfl _ _ rfl 0 (.slice p1 m1 c1') _ rfl HV1.out.1 q2 (cb - (i + 1)) (M - (i + 1)) (es.drop (i + 1)) rfl HT2.out HS2.out HSL2.out (Nat.zero_le _) ?_; intro v2 w5 hv1 hv2 hv3; obtain ⟨p2, c2', hv', _⟩ := hv1.form; obtain ⟨m2, hm2⟩ : ∃ m, m = ((([] : List Et) ++ es.take i) ++ es.drop (i + 1)).length := ⟨_, rfl⟩; rw [← hm2] at hv'; subst hv'; clear hm2; obtain ⟨⟨x0, hx0⟩, hf0, hR, hO⟩ := HH.out.setL hv1 ((HV1.out.2.1.beyond hv2 HV1.out.2.2).mono (fun _ _ h => h.elim)) (fun k hk => Or.inr ((lies_of hv3 k hk).elim (fun h => HV1.out.2.2 k h) (fun h => Nat.le_trans HV1.out.2.1.size h))) HFL.out; have HR := Vx.hid hR; have HO := Vx.hid hO; clear hv1 hv2 hv3 hR hO)
    all_goals
      go_ret
      exact ⟨rfl, by rw [← List.nil_append (es.take i)]; exact ⟨_, _, HR.out⟩, HO.out⟩
end Go.Proofs.Ytgncabcnefhkiaa

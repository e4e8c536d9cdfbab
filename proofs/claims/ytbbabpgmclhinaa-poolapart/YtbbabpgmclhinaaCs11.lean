import Derived.Test.YtbbabpgmclhinaaCs8
/- Chapter 8, the document's pool: Remove of an untyped. -/
namespace Go.Proofs.Ytbbabpgmclhinaa
open Go.ChangeShapes Go.WideShapes Go.ChangeAt Go.RowKit
open Go.Vx
set_option linter.unusedVariables false
variable {U S : Nat → Prop} {w w2 : World} {pb : Nat} {P : Int} {vo vr : Value} {os rs : List (Int × Int)}

theorem rg_from (g M cb i : Nat) (hi : i < M) (hc : M ≤ cb) : ∃ q : Option Addr, (∀ wv, (Instr.slice 68 (.slice (some ⟨g, 0, none⟩) M cb) (some (.int .i64 ((i : Int) + 1))) none none).run Try.prog wv = .ok (.slice q (M - (i + 1)) (cb - (i + 1))) wv) ∧ (i + 1 < M → q = some ⟨g, (i + 1) * 2, none⟩) := by
  have ht : Try.prog.underlying 68 = some (.slice (Try.prog.elem 68)) := by kernel_rfl
  have hsz : ∀ wv, (sizeOf (Try.prog.elem 68)).run Try.prog wv = .ok 2 wv := by
    have he : Try.prog.elem 68 = 104 := by kernel_rfl
    rw [he]
    obtain ⟨k, z, h1, _, h2, _⟩ := rgK.hi
    intro wv
    have h3 : k.size = 2 := h2
    simp [sizeOf, typeInfo, h1, h3]
  by_cases hq : cb = i + 1
  · refine ⟨some ⟨g, 0, none⟩, fun wv => ?_, fun h => by omega⟩
    rw [run_slice_l wv 68 (some ⟨g, 0, none⟩) M cb ht .i64 ((i : Int) + 1) (by omega) (by omega), hsz]
    have e : ((i : Int) + 1).toNat = i + 1 := by omega
    rw [e, hq]
    simp [sliced, Result.andThen]
  · refine ⟨some ⟨g, (i + 1) * 2, none⟩, fun wv => ?_, fun h => rfl⟩
    rw [run_slice_l wv 68 (some ⟨g, 0, none⟩) M cb ht .i64 ((i : Int) + 1) (by omega) (by omega), hsz]
    have e : ((i : Int) + 1).toNat = i + 1 := by omega
    rw [e]
    simp [sliced, Result.andThen, hq, addr_add]
def remE (os rs : List (Int × Int)) (o : Int × Int) : Int := if o.1 = 1 then (match rgF rs o.2 with | none => 6 | some _ => if liesB os rs o.2 = true then 16 else 0) else if os.contains o = true then 0 else 6
def remO (os : List (Int × Int)) (o : Int × Int) : List (Int × Int) := if o.1 = 1 then os else os.filter (fun x => decide (x ≠ o))
def remG (os rs : List (Int × Int)) (o : Int × Int) : List (Int × Int) := if o.1 = 1 then (match rgF rs o.2 with | none => rs | some i => if liesB os rs o.2 = true then rs else rs.take i ++ rs.drop (i + 1)) else rs
set_option maxRecDepth 100000 in
set_option maxHeartbeats 2000000 in
theorem remove_one (hc : PcAt U w pb P os rs) (hp : PgOk os rs) (n : Int) : Calls Try.prog 32 #[.pointer (some ⟨pb, 0, none⟩), .agg #[.int .i64 1, .int .i64 n]] w fun e w' => e = .returned (.int .i64 (remE os rs (1, n))) ∧ PcAt U w' pb P (remO os (1, n)) (remG os rs (1, n)) ∧ Only (fun k => ¬ U k) w w' := by
  obtain ⟨vo, vr, h⟩ := hc
  obtain ⟨w1, hw1⟩ : ∃ w1, w1 = w.alloc (.cells #[.int .i64 1, .int .i64 n] 33) := ⟨_, rfl⟩
  have ho1 : Only (fun _ => False) w w1 := by rw [hw1]; exact (Only.refl _ w).alloc _
  have hz : w1.heap[w.heap.size]? = some (.cells #[.int .i64 1, .int .i64 n] 33 (0, 0)) := by rw [hw1]; exact heap_alloc_last _ _
  obtain ⟨ob, hob⟩ : ∃ ob, ob = w.heap.size := ⟨_, rfl⟩
  rw [← hob] at hz
  have HMO : Hid (∀ wv, Only (fun _ => False) w1 wv → Only (fun k => ¬ U k) w wv) := fun wv hv => (ho1.trans hv).mono (fun _ _ h => h.elim)
  have HK := Vx.hid (h.quiet ho1)
  have HRG := Vx.hid (region_ok HK.out n)
  have HRO : Hid (remO os (1, n) = os) := if_pos rfl
  obtain ⟨⟨z0, z1⟩, _⟩ := obj_cells hz
  clear h ho1 hz
  cases hx : rgF rs n with
  | none =>
    have HE : Hid (remE os rs (1, n) = 6) := by show remE os rs (1, n) = _; unfold remE; rw [if_pos rfl]; simp only [hx]
    have HG : Hid (remG os rs (1, n) = rs) := by show remG os rs (1, n) = _; unfold remG; rw [if_pos rfl]; simp only [hx]
    rw [hx] at HRG
    have HR2 : Hid (Calls Try.prog 56 #[.pointer (some ⟨pb, 0, none⟩), .int .i64 n] w1 fun e w' => e = .returned (.int .i64 (-1)) ∧ w' = w1) := HRG
    clear hx HRG
    go_enter Try.func32, Try.ntmps32
    go_upto_region 1 with fail
    rw [← hw1, ← hob]
    clear hw1 hob
    go_wp2_with fail
    refine HR2.out.mono ?_
    rintro e w' ⟨rfl, h⟩
    have h3 := h.symm; clear h; subst h3
    go_wp2_with fail
    all_goals
      go_ret
      exact ⟨by rw [HE.out]; rfl, by rw [HRO.out, HG.out]; exact ⟨_, _, HK.out⟩, HMO.out _ (Only.refl _ _)⟩
  | some i =>
    obtain ⟨hib, _⟩ := rgF_at hx
    have HLI := Vx.hid (lies_ok HK.out hp n (rgF_ok hp hx))
    rw [hx] at HRG
    have HR2 : Hid (Calls Try.prog 56 #[.pointer (some ⟨pb, 0, none⟩), .int .i64 n] w1 fun e w' => e = .returned (.int .i64 (i : Int)) ∧ w' = w1) := HRG
    have hi0 : ¬ (i : Int) < 0 := by omega
    cases hl : liesB os rs n with
    | true =>
      have HE : Hid (remE os rs (1, n) = 16) := by show remE os rs (1, n) = _; unfold remE; rw [if_pos rfl]; simp only [hx, hl, if_true]
      have HG : Hid (remG os rs (1, n) = rs) := by show remG os rs (1, n) = _; unfold remG; rw [if_pos rfl]; simp only [hx, hl, if_true]
      rw [hl] at HLI
      clear hx HRG hl
      go_enter Try.func32, Try.ntmps32
      go_upto_region 1 with fail
      rw [← hw1, ← hob]
      clear hw1 hob
      go_wp2_with fail
      refine HR2.out.mono ?_
      rintro e w' ⟨rfl, h⟩
      have h3 := h.symm; clear h; subst h3
      go_wp2_with fail
      refine HLI.out.mono ?_
      rintro e w3 ⟨rfl, ho3⟩
      have HQ3 := Vx.hid ho3
      clear ho3
      go_wp2_with fail
      all_goals
        go_ret
        exact ⟨by rw [HE.out]; rfl, by rw [HRO.out, HG.out]; exact ⟨_, _, HK.out.quiet HQ3.out⟩, HMO.out _ HQ3.out⟩
    | false =>
      have HE : Hid (remE os rs (1, n) = 0) := by show remE os rs (1, n) = _; unfold remE; rw [if_pos rfl]; simp only [hx, hl]; rfl
      have HG : Hid (remG os rs (1, n) = rs.take i ++ rs.drop (i + 1)) := by show remG os rs (1, n) = _; unfold remG; rw [if_pos rfl]; simp only [hx, hl]; rfl
      rw [hl] at HLI
      clear hx HRG hl
      obtain ⟨pb0, cb, hvb, hcb, _, hbg⟩ := HK.out.g.form
      obtain ⟨g, rfl, _⟩ := hbg (by omega)
      have HVB := Vx.hid hvb
      obtain ⟨M, hM⟩ : ∃ M, M = rs.length := ⟨_, rfl⟩
      have HM := Vx.hid hM
      have hnb := HK.out.ng
      rw [← hM] at hcb hib hnb
      clear hvb hbg hM
      go_enter Try.func32, Try.ntmps32
      go_upto_region 1 with fail
      rw [← hw1, ← hob]
      clear hw1 hob
      go_wp2_with fail
      refine HR2.out.mono ?_
      rintro e w' ⟨rfl, h⟩
      have h3 := h.symm; clear h; subst h3
      go_wp2_with fail
      refine HLI.out.mono ?_
      rintro e wr ⟨rfl, ho3⟩
      have HQ3 := Vx.hid ho3
      have HH := Vx.hid (HK.out.quiet ho3)
      have c2 := HH.out.c2
      rw [HVB.out, ← HM.out] at c2
      clear ho3 z0 z1
      have hwi : IntKind.i64.wrap ((i : Int) + 1) = (i : Int) + 1 := by rw [IntKind.wrap_i64]; omega
      have hs1 : 0 ≤ (i : Int) ∧ (i : Int) ≤ (cb : Int) := by omega
      obtain ⟨q2, hsl, hq2⟩ := rg_from g M cb i hib hcb
      have HQ2 := Vx.hid hq2
      have HBO : Hid (OwnL slL wr 0 104 (.slice (some ⟨g, 0, none⟩) rs.length cb) rs) := by have := HH.out.g; rw [HVB.out] at this; exact this
      have hT1 : i = (rs.take i).length := by rw [List.length_take]; have := HM.out; omega
      have hT2 : M - (i + 1) = (rs.drop (i + 1)).length := by rw [List.length_drop, HM.out]
      have HT1 := Vx.hid hT1
      have HT2 := Vx.hid hT2
      have hS1 : 0 < (rs.take i).length → ∃ ad, (some ⟨g, 0, none⟩ : Option Addr) = some ad ∧ ∀ j u, (fl slL (rs.take i))[j]? = some u → wr.cell? (ad.add j) = some u := fun _ => ⟨_, rfl, fun j u hj => by
        have := HBO.out.part 0 i j u (by rw [List.drop_zero]; exact hj)
        rw [Nat.zero_mul] at this
        exact this⟩
      have HS1 := Vx.hid hS1
      have hSl : ([] : List (Int × Int)).length + (rs.take i).length ≤ 10000000 := by rw [← hT1]; simp; omega
      have HSL := Vx.hid hSl
      clear hq2 hT1 hT2 hS1 hSl
      go_upto_region 10 with (at_builtin; refine wpList_append_many rgK _ rfl _ _ rfl 0 (.slice none 0 0) [] rfl (OwnL.nil _ _ _ _) (some ⟨g, 0, none⟩) cb i (rs.take i) rfl HT1.out HS1.out HSL.out (Nat.zero_le _) ?_; intro v1 w4 hv1 hv2 hv3; obtain ⟨p1, c1', hv', _⟩ := hv1.form; obtain ⟨m1, hm1⟩ : ∃ m, m = (([] : List (Int × Int)) ++ rs.take i).length := ⟨_, rfl⟩; rw [← hm1] at hv'; subst hv'; clear hm1)
      have hon : Only (fun _ => False) wr w4 := hv2.mono (fun k _ h => by cases h)
      have hb1 : ∀ k, (Value.slice p1 m1 c1').ownBlock = some k → wr.heap.size ≤ k := fun k hk => by
        rcases lies_of hv3 k hk with h | h
        · cases h
        · exact h
      have h1' := HH.out.quiet hon
      have c2' := h1'.c2
      rw [HVB.out, ← HM.out] at c2'
      have HBO1 : Hid (OwnL slL w4 0 104 (.slice (some ⟨g, 0, none⟩) rs.length cb) rs) := by have := h1'.g; rw [HVB.out] at this; exact this
      have hS2 : 0 < (rs.drop (i + 1)).length → ∃ ad, q2 = some ad ∧ ∀ j u, (fl slL (rs.drop (i + 1)))[j]? = some u → w4.cell? (ad.add j) = some u := fun h0 => ⟨_, HQ2.out (by have := HT2.out; omega), fun j u hj => by
        have := HBO1.out.part (i + 1) (rs.drop (i + 1)).length j u (by rw [List.take_length]; exact hj)
        exact this⟩
      have hSl2 : (([] : List (Int × Int)) ++ rs.take i).length + (rs.drop (i + 1)).length ≤ 10000000 := by
        rw [List.nil_append, ← HT1.out, ← HT2.out]; omega
      have hFL : ((([] : List (Int × Int)) ++ rs.take i) ++ rs.drop (i + 1)).length ≤ 1000000 := by
        rw [List.length_append, List.nil_append, ← HT1.out, ← HT2.out]; omega
      have HS2 := Vx.hid hS2
      have HSL2 := Vx.hid hSl2
      have HFL := Vx.hid hFL
      have HV1 := Vx.hid (⟨hv1, hon, hb1⟩ : _ ∧ _ ∧ _)
      have HMR := Vx.hid (HMO.out _ HQ3.out)
      clear hv1 hv2 hv3 hon hb1 h1' hS2 hSl2 hFL HS1 HSL c2
      go_wp2_with (at_builtin; refine wpList_append_many rgK _ rfl _ _ rfl 0 (.slice p1 m1 c1') _ rfl HV1.out.1 q2 (cb - (i + 1)) (M - (i + 1)) (rs.drop (i + 1)) rfl HT2.out HS2.out HSL2.out (Nat.zero_le _) ?_; intro v2 w5 hv1 hv2 hv3; obtain ⟨p2, c2', hv', _⟩ := hv1.form; obtain ⟨m2, hm2⟩ : ∃ m, m = ((([] : List (Int × Int)) ++ rs.take i) ++ rs.drop (i + 1)).length := ⟨_, rfl⟩; rw [← hm2] at hv'; subst hv'; clear hm2; obtain ⟨⟨x0, hx0⟩, hf0, hR, hO⟩ := HH.out.setG hv1 ((HV1.out.2.1.beyond hv2 HV1.out.2.2).mono (fun _ _ h => h.elim)) (fun k hk => Or.inr ((lies_of hv3 k hk).elim (fun h => HV1.out.2.2 k h) (fun h => Nat.le_trans HV1.out.2.1.size h))) HFL.out; have HR := Vx.hid hR; have HO := Vx.hid hO; clear hv1 hv2 hv3 hR hO)
      all_goals
        go_ret
        exact ⟨by rw [HE.out]; rfl, by rw [HRO.out, HG.out, ← List.nil_append (rs.take i)]; exact ⟨_, _, HR.out⟩, HMR.out.trans HO.out⟩
end Go.Proofs.Ytbbabpgmclhinaa

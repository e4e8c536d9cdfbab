import Derived.Test.YtbmchgjilkoplaaDoorCk7
import Derived.Deep.CutRange
/- Chapter 7, the document's store: Drop. -/
namespace Go.Proofs.YtbmchgjilkoplaaDoor
open Go.ChangeShapes Go.WideShapes Go.ChangeAt Go.RowKit
open Go.Vx
set_option linter.unusedVariables false

/-- The first entry of a box. -/
def inF (es : List En) (n : Int) : Option Nat := idxF (fun e => decide (e.at'.1 = n)) es 0
def dropE (bs : List (Int × Int)) (es : List En) (n : Int) : Int := match boxF bs n with | none => 6 | some _ => match inF es n with | some _ => 10 | none => 0
def dropL (bs : List (Int × Int)) (es : List En) (n : Int) : List (Int × Int) := match boxF bs n with | none => bs | some i => match inF es n with | some _ => bs | none => bs.take i ++ bs.drop (i + 1)
theorem box_from (g M cb i : Nat) (hi : i < M) (hc : M ≤ cb) : ∃ q : Option Addr, (∀ wv, (Instr.slice 27 (.slice (some ⟨g, 0, none⟩) M cb) (some (.int .i64 ((i : Int) + 1))) none none).run Tryd.prog wv = .ok (.slice q (M - (i + 1)) (cb - (i + 1))) wv) ∧ (i + 1 < M → q = some ⟨g, (i + 1) * 2, none⟩) := by
  have ht : Tryd.prog.underlying 27 = some (.slice (Tryd.prog.elem 27)) := by kernel_rfl
  have hsz : ∀ wv, (sizeOf (Tryd.prog.elem 27)).run Tryd.prog wv = .ok 2 wv := by
    have he : Tryd.prog.elem 27 = 116 := by kernel_rfl
    rw [he]
    obtain ⟨k, z, h1, _, h2, _⟩ := bxK.hi
    intro wv
    have h3 : k.size = 2 := h2
    simp [sizeOf, typeInfo, h1, h3]
  by_cases hq : cb = i + 1
  · refine ⟨some ⟨g, 0, none⟩, fun wv => ?_, fun h => by omega⟩
    rw [run_slice_l wv 27 (some ⟨g, 0, none⟩) M cb ht .i64 ((i : Int) + 1) (by omega) (by omega), hsz]
    have e : ((i : Int) + 1).toNat = i + 1 := by omega
    rw [e, hq]
    simp [sliced, Result.andThen]
  · refine ⟨some ⟨g, (i + 1) * 2, none⟩, fun wv => ?_, fun h => rfl⟩
    rw [run_slice_l wv 27 (some ⟨g, 0, none⟩) M cb ht .i64 ((i : Int) + 1) (by omega) (by omega), hsz]
    have e : ((i : Int) + 1).toNat = i + 1 := by omega
    rw [e]
    simp [sliced, Result.andThen, hq, addr_add]
set_option maxRecDepth 100000 in
set_option maxHeartbeats 2000000 in
theorem drop_ok {U : Nat → Prop} {w : World} {rb : Nat} {bs : List (Int × Int)} {es : List En} (hc : RcAt U w rb bs es) (n : Int) : Calls Tryd.prog 27 #[.pointer (some ⟨rb, 0, none⟩), .int .i64 n] w fun e w' => e = .returned (.int .i64 (dropE bs es n)) ∧ RcAt U w' rb (dropL bs es n) es ∧ Only (fun k => ¬ U k) w w' := by
  obtain ⟨vb, ve, h⟩ := hc
  have HBX := Vx.hid (box_ok h n)
  have HH := Vx.hid h
  have c0 := h.c0
  have c1 := h.c1
  have f0 := h.fz 0
  have hne := h.ne
  obtain ⟨pe, ce, hve, hen⟩ := h.en
  rw [hve] at c1
  have HEN := Vx.hid hen
  have hnb := h.nb
  clear h hen hve
  obtain ⟨N, hN⟩ : ∃ N, N = es.length := ⟨_, rfl⟩
  have HN := Vx.hid hN
  rw [← hN] at c1 hne
  clear hN
  cases hx : boxF bs n with
  | none =>
    have HE : Hid (dropE bs es n = 6) := by show dropE bs es n = 6; unfold dropE; rw [hx]
    have HR : Hid (RcAt U w rb (dropL bs es n) es) := ⟨vb, ve, by unfold dropL; rw [hx]; exact HH.out⟩
    rw [hx] at HBX
    have HB2 : Hid (Calls Tryd.prog 58 #[.pointer (some ⟨rb, 0, none⟩), .int .i64 n] w fun e w' => e = .returned (.int .i64 (-1)) ∧ w' = w) := HBX
    clear hx HBX
    go_enter Tryd.func27, Tryd.ntmps27
    go_wp2_with fail
    refine HB2.out.mono ?_
    rintro e w' ⟨rfl, h⟩
    have h2 := h.symm; clear h; subst h2
    go_wp2_with fail
    all_goals
      go_ret
      exact ⟨by rw [HE.out]; rfl, HR.out, Only.refl _ _⟩
  | some i =>
    obtain ⟨hib, _⟩ := boxF_at hx
    rw [hx] at HBX
    have HB2 : Hid (Calls Tryd.prog 58 #[.pointer (some ⟨rb, 0, none⟩), .int .i64 n] w fun e w' => e = .returned (.int .i64 (i : Int)) ∧ w' = w) := HBX
    have HX := Vx.hid hx
    have hi0 : ¬ (i : Int) < 0 := by omega
    obtain ⟨pb, cb, hvb, hcb, _, hbg⟩ := HH.out.b.form
    obtain ⟨g, rfl, _⟩ := hbg (by omega)
    rw [hvb] at c0
    have HVB := Vx.hid hvb
    obtain ⟨M, hM⟩ : ∃ M, M = bs.length := ⟨_, rfl⟩
    have HM := Vx.hid hM
    rw [← hM] at c0 hcb hib hnb
    have HIB := Vx.hid hib
    clear hx HBX hvb hbg hM
    go_enter Tryd.func27, Tryd.ntmps27
    go_wp2_with fail
    refine HB2.out.mono ?_
    rintro e w' ⟨rfl, h⟩
    have h2 := h.symm; clear h; subst h2
    go_wp2_with fail
    go_loopw [6] (fun d wr => ∃ k : Nat, d = .int .i64 (k : Int) ∧ k ≤ N ∧ Hid (idxF (fun e => decide (e.at'.1 = n)) (es.drop k) k = inF es n) ∧ wr = w) (fun d _ => N - (intOf d).toNat)
    case atStart => exact ⟨0, rfl, by omega, (show idxF _ (es.drop 0) 0 = _ from by rw [List.drop_zero]; rfl), rfl⟩
    case round =>
      obtain ⟨k, rfl, hk, HQ, rfl⟩ := hrel
      by_cases hlt : k < N
      · have hlb : k < es.length := by have := HN.out; omega
        have h1 : (k : Int) < (N : Int) := by omega
        have hidx : 0 ≤ (k : Int) ∧ (k : Int) < (N : Int) := by omega
        have hwk : IntKind.i64.wrap ((k : Int) + 1) = (k : Int) + 1 := by rw [IntKind.wrap_i64]; omega
        obtain ⟨ge, rfl, b⟩ := HEN.out k hlb
        have b0 := b 0 (by decide)
        rw [enC_eq] at b0
        simp only [List.getElem?_cons_zero, Nat.add_zero] at b0
        have hq := HQ.out
        rw [idxF_step es k hlb] at hq
        generalize es[k].at'.1 = z at b0 hq
        clear b
        by_cases he : z = n
        · rw [if_pos (decide_eq_true he)] at hq
          have HE : Hid (dropE bs es n = 10) := by show dropE bs es n = 10; unfold dropE; rw [HX.out, ← hq]
          have HR : Hid (RcAt U wr rb (dropL bs es n) es) := ⟨vb, ve, by unfold dropL; rw [HX.out, ← hq]; exact HH.out⟩
          subst he
          clear hq hlt HQ
          go_wp2_with fail
          all_goals
            go_ret
            exact ⟨by rw [HE.out]; rfl, HR.out, Only.refl _ _⟩
        · rw [if_neg (by simpa using he)] at hq
          have HE := Vx.hid hq
          have he2 : (z == n) = false := beq_eq_false_iff_ne.2 he
          clear hq hlt HQ
          go_wp2_with fail
          go_roundw
          case rel => exact ⟨k + 1, by go_num, by omega, HE, trivial⟩
          case measure => simp only [intOf]; omega
      · obtain rfl : k = N := by omega
        have hq := HQ.out
        rw [HN.out, idxF_end] at hq
        have HE : Hid (dropE bs es n = 0) := by show dropE bs es n = 0; unfold dropE; rw [HX.out, ← hq]
        have HL : Hid (dropL bs es n = bs.take i ++ bs.drop (i + 1)) := by show dropL bs es n = _; unfold dropL; rw [HX.out, ← hq]
        have h1 : ¬ (k : Int) < (k : Int) := by omega
        have hwi : IntKind.i64.wrap ((i : Int) + 1) = (i : Int) + 1 := by rw [IntKind.wrap_i64]; omega
        have hs1 : 0 ≤ (i : Int) ∧ (i : Int) ≤ (cb : Int) := by omega
        obtain ⟨q2, hsl, hq2⟩ := box_from g M cb i hib hcb
        have HQ2 := Vx.hid hq2
        have HBO : Hid (OwnL bxL wr 0 116 (.slice (some ⟨g, 0, none⟩) bs.length cb) bs) := by have := HH.out.b; rw [HVB.out] at this; exact this
        have hT1 : i = (bs.take i).length := by rw [List.length_take]; have := HM.out; omega
        have hT2 : M - (i + 1) = (bs.drop (i + 1)).length := by rw [List.length_drop, HM.out]
        have HT1 := Vx.hid hT1
        have HT2 := Vx.hid hT2
        have hS1 : 0 < (bs.take i).length → ∃ ad, (some ⟨g, 0, none⟩ : Option Addr) = some ad ∧ ∀ j u, (fl bxL (bs.take i))[j]? = some u → wr.cell? (ad.add j) = some u := fun _ => ⟨_, rfl, fun j u hj => by
          have := HBO.out.part 0 i j u (by rw [List.drop_zero]; exact hj)
          rw [Nat.zero_mul] at this
          exact this⟩
        have HS1 := Vx.hid hS1
        have hSl : ([] : List (Int × Int)).length + (bs.take i).length ≤ 10000000 := by rw [← hT1]; simp; omega
        have HSL := Vx.hid hSl
        clear hq hlt HQ hq2 hT1 hT2 hS1 hSl
        go_upto_region 11 with (at_builtin; refine wpList_append_many bxK _ rfl _ _ rfl 0 (.slice none 0 0) [] rfl (OwnL.nil _ _ _ _) (some ⟨g, 0, none⟩) cb i (bs.take i) rfl HT1.out HS1.out HSL.out (Nat.zero_le _) ?_; intro v1 w1 hv1 hv2 hv3; obtain ⟨p1, c1', hv', _⟩ := hv1.form; obtain ⟨m1, hm1⟩ : ∃ m, m = (([] : List (Int × Int)) ++ bs.take i).length := ⟨_, rfl⟩; rw [← hm1] at hv'; subst hv'; clear hm1)
        have hon : Only (fun _ => False) wr w1 := hv2.mono (fun k _ h => by cases h)
        have hb1 : ∀ k, (Value.slice p1 m1 c1').ownBlock = some k → wr.heap.size ≤ k := fun k hk => by
          rcases lies_of hv3 k hk with h | h
          · cases h
          · exact h
        have h1' := HH.out.quiet hon
        have c0' := h1'.c0
        rw [HVB.out, ← HM.out] at c0'
        have HBO1 : Hid (OwnL bxL w1 0 116 (.slice (some ⟨g, 0, none⟩) bs.length cb) bs) := by have := h1'.b; rw [HVB.out] at this; exact this
        have hS2 : 0 < (bs.drop (i + 1)).length → ∃ ad, q2 = some ad ∧ ∀ j u, (fl bxL (bs.drop (i + 1)))[j]? = some u → w1.cell? (ad.add j) = some u := fun h0 => ⟨_, HQ2.out (by have := HT2.out; omega), fun j u hj => by
          have := HBO1.out.part (i + 1) (bs.drop (i + 1)).length j u (by rw [List.take_length]; exact hj)
          exact this⟩
        have hSl2 : (([] : List (Int × Int)) ++ bs.take i).length + (bs.drop (i + 1)).length ≤ 10000000 := by
          rw [List.nil_append, ← HT1.out, ← HT2.out]; omega
        have hFL : ((([] : List (Int × Int)) ++ bs.take i) ++ bs.drop (i + 1)).length ≤ 1000000 := by
          rw [List.length_append, List.nil_append, ← HT1.out, ← HT2.out]; omega
        have HS2 := Vx.hid hS2
        have HSL2 := Vx.hid hSl2
        have HFL := Vx.hid hFL
        have HV1 := Vx.hid (⟨hv1, hon, hb1⟩ : _ ∧ _ ∧ _)
        clear hv1 hv2 hv3 hon hb1 h1' hS2 hSl2 hFL HS1 HSL c0
        go_wp2_with (at_builtin; refine wpList_append_many bxK _ rfl _ _ rfl 0 (.slice p1 m1 c1') _ rfl HV1.out.1 q2 (cb - (i + 1)) (M - (i + 1)) (bs.drop (i + 1)) rfl HT2.out HS2.out HSL2.out (Nat.zero_le _) ?_; intro v2 w3 hv1 hv2 hv3; obtain ⟨p2, c2', hv', _⟩ := hv1.form; obtain ⟨m2, hm2⟩ : ∃ m, m = ((([] : List (Int × Int)) ++ bs.take i) ++ bs.drop (i + 1)).length := ⟨_, rfl⟩; rw [← hm2] at hv'; subst hv'; clear hm2; obtain ⟨⟨x0, hx0⟩, hf0, hR, hO⟩ := HH.out.setB hv1 ((HV1.out.2.1.beyond hv2 HV1.out.2.2).mono (fun _ _ h => h.elim)) (fun k hk => Or.inr ((lies_of hv3 k hk).elim (fun h => HV1.out.2.2 k h) (fun h => Nat.le_trans HV1.out.2.1.size h))) HFL.out; have HR := Vx.hid hR; have HO := Vx.hid hO; clear hv1 hv2 hv3 hR hO)
        all_goals
          go_ret
          exact ⟨by rw [HE.out]; rfl, by rw [HL.out, ← List.nil_append (bs.take i)]; exact ⟨_, _, HR.out⟩, HO.out⟩
end Go.Proofs.YtbmchgjilkoplaaDoor

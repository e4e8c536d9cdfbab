import Derived.Test.YtgncabcnefhkiaaCs29
/- Chapter 9, the program's scheduler: Add. -/
namespace Go.Proofs.Ytgncabcnefhkiaa
open Go.ChangeShapes Go.WideShapes Go.ChangeAt Go.RowKit
open Go.Vx
set_option linter.unusedVariables false
variable {U V S : Nat → Prop} {w w2 w3 : World} {xb mb n : Nat} {D D2 : DataW Value} {G : Int → Nat} {vt : Value} {vq : List Value} {ts : List (Int × Int)} {t : Nat} {lf : Int} {es es2 : List Et} {Q : Nat → List Int} {ck : Nat}

def nuE (n d p : Int) : Et := ⟨n, d, p, 0, 0⟩
set_option maxRecDepth 100000 in
set_option maxHeartbeats 2000000 in
theorem xadd_ok (h : XgAt U w xb G ts t lf es ck) (hl9 : es.length < 1000000) (n d p : Int) (hn : I64 n) : Calls Try.prog 10 #[.pointer (some ⟨xb, 0, none⟩), .int .i64 n, .int .i64 d, .int .i64 p] w fun e w' => e = .returned (.int .i64 (addSE es n d p)) ∧ XcAt U w' xb ts t lf (addSL es n d p) ck ∧ Only (fun k => ¬ U k) w w' := by
  have HH := Vx.hid h
  have HD := Vx.hid (isDom_ok d)
  have HP := Vx.hid (isPrio_ok p)
  have HB : Hid (∀ b c : Bool, ltB d = b → ltB p = c → (n < 0 ∨ b = false ∨ c = false) → addSE es n d p = 1 ∧ addSL es n d p = es) := by
    intro b c hb hc hh
    have e1 : addSE es n d p = 1 := by
      refine if_pos ?_
      rcases hh with hh | hh | hh
      · omega
      · rw [hh] at hb; have := of_decide_eq_false hb; omega
      · rw [hh] at hc; have := of_decide_eq_false hc; omega
    exact ⟨e1, if_neg (by rw [e1]; decide)⟩
  by_cases a1 : n < 0
  · obtain ⟨e1, e2⟩ := HB.out _ _ rfl rfl (Or.inl a1)
    rw [e1, e2]
    clear h e1 e2 HB hn hl9
    go_enter Try.func10, Try.ntmps10
    go_wp2_with fail
    all_goals
      go_ret
      exact ⟨rfl, ⟨_, HH.out⟩, Only.refl _ _⟩
  · cases hb : ltB d with
    | false =>
      obtain ⟨e1, e2⟩ := HB.out _ _ hb rfl (Or.inr (Or.inl rfl))
      rw [e1, e2]
      rw [hb] at HD
      clear h e1 e2 HB hn hl9 hb
      go_enter Try.func10, Try.ntmps10
      go_wp2_with fail
      refine (HD.out _).mono ?_
      rintro e w' ⟨rfl, h⟩
      have h3 := h.symm; clear h; subst h3
      go_wp2_with fail
      all_goals
        go_ret
        exact ⟨rfl, ⟨_, HH.out⟩, Only.refl _ _⟩
    | true =>
      cases hc : ltB p with
      | false =>
        obtain ⟨e1, e2⟩ := HB.out _ _ hb hc (Or.inr (Or.inr rfl))
        rw [e1, e2]
        rw [hb] at HD
        rw [hc] at HP
        clear h e1 e2 HB hn hl9 hb hc
        go_enter Try.func10, Try.ntmps10
        go_wp2_with fail
        refine (HD.out _).mono ?_
        rintro e w' ⟨rfl, h⟩
        have h3 := h.symm; clear h; subst h3
        go_wp2_with fail
        refine (HP.out _).mono ?_
        rintro e w' ⟨rfl, h⟩
        have h3 := h.symm; clear h; subst h3
        go_wp2_with fail
        all_goals
          go_ret
          exact ⟨rfl, ⟨_, HH.out⟩, Only.refl _ _⟩
      | true =>
        have hd07 := of_decide_eq_true hb
        have hp07 := of_decide_eq_true hc
        have hcc : ¬ (n < 0 ∨ d < 0 ∨ 7 < d ∨ p < 0 ∨ 7 < p) := by omega
        rw [hb] at HD
        rw [hc] at HP
        obtain ⟨mb, c3, hk⟩ := h.look n hn
        cases hi : fnF es n with
        | some i =>
          obtain ⟨hl, hE, r5, hv⟩ := h.r5 hi
          rw [hv] at hk
          have e1 : addSE es n d p = 7 := by unfold addSE; rw [if_neg hcc, hi]; rfl
          have e2 : addSL es n d p = es := if_neg (by rw [e1]; decide)
          rw [e1, e2]
          generalize G n = g at hk
          clear h e1 e2 HB hn hl9 hb hc hd07 hp07 hcc hi hE r5 hv hl
          go_enter Try.func10, Try.ntmps10
          go_wp2_with fail
          refine (HD.out _).mono ?_
          rintro e w' ⟨rfl, h⟩
          have h3 := h.symm; clear h; subst h3
          go_wp2_with fail
          refine (HP.out _).mono ?_
          rintro e w' ⟨rfl, h⟩
          have h3 := h.symm; clear h; subst h3
          go_wp2_with fail
          all_goals
            go_ret
            exact ⟨rfl, ⟨_, HH.out⟩, Only.refl _ _⟩
        | none =>
          have hv : rnV G es n = .pointer none := by unfold rnV; rw [hi]
          rw [hv] at hk
          have e1 : addSE es n d p = 0 := by unfold addSE; rw [if_neg hcc, hi]; rfl
          have e2 : addSL es n d p = es ++ [nuE n d p] := if_pos e1
          have HWA := Vx.hid (h.1.add n d p)
          rw [e2] at HWA
          rw [e1, e2]
          have HM : Hid (∀ mb2, w.cell? ⟨xb, 3, none⟩ = some (.map (some mb2)) → ∃ w1 w3, w1 = w.alloc (.cells (rnC (nuE n d p)) 78) ∧ w1.cell? ⟨xb, 3, none⟩ = some (.map (some mb2)) ∧ (Instr.mapUpdate 64 (.map (some mb2)) (.int .i64 n) (.pointer (some ⟨w.heap.size, 0, none⟩))).run Try.prog w1 = .ok () w3 ∧ XcAt U w3 xb ts t lf (es ++ [nuE n d p]) ck ∧ Only (fun k => ¬ U k) w w3) := by
            intro mb2 hmb
            obtain ⟨hw, hts, mb, D, vt, vq, Q, hq, hx⟩ := HH.out
            have hmm : mb2 = mb := by
              have := hx.c3
              rw [hmb] at this
              simpa using this
            subst hmm
            have ho1 : Only (fun _ => False) w (w.alloc (.cells (rnC (nuE n d p)) 78)) := (Only.refl _ w).alloc _
            have hx1 := hx.quiet ho1
            have hg1 : (w.alloc (.cells (rnC (nuE n d p)) 78)).heap[w.heap.size]? = some (.cells (rnC (nuE n d p)) 78 (0, 0)) := heap_alloc_last w _
            obtain ⟨w3, hrun, hm3, hg3⟩ := hx1.m.update (t := 64) (e := 76) mi_keyed Try.underlying64 (by unfold maxLen; omega) (mi_key hn) (val := .pointer (some ⟨w.heap.size, 0, none⟩)) (d := .held (.pointer (some ⟨w.heap.size, 0, none⟩))) (ps := []) rfl
            obtain ⟨k1, o1⟩ := hx1.added hw.nd (fun j hj x hx9 => by
                obtain ⟨e, he, h9, _⟩ := (hq j hj).mem.1 hx9
                exact List.mem_map.2 ⟨e, he, h9⟩) (y := nuE n d p) hn (fun h9 => by have := fn_mem.2 h9; rw [show (nuE n d p).num = n from rfl, hi] at this; cases this) hg1 (fun e he h9 => by have := lt_of_some (hx.rn e he); omega) (fun hu => by have := hx.low _ hu; omega) hm3 hg3 (by omega)
            exact ⟨_, w3, rfl, hx1.c3, hrun, ⟨_, HWA.out, hts, _, _, _, _, _, fun j hj => NQ.add _ rfl (hq j hj), k1⟩, (ho1.mono (fun _ _ h => h.elim)).trans o1⟩
          obtain ⟨w1, w3, hw1, c31, hrun, hr, ho⟩ := HM.out mb c3
          have HF := Vx.hid (⟨hr, ho⟩ : _ ∧ _)
          have hw1' : w1 = w.alloc (.cells #[.int .i64 n, .int .i64 d, .int .i64 p, .bool false, .int .i64 0] 78) := hw1
          obtain ⟨A, hA⟩ : ∃ A, A = w.heap.size := ⟨_, rfl⟩
          rw [← hA] at hrun
          clear h e1 e2 HB hn hl9 hb hc hd07 hp07 hcc hi hv HWA HM hr ho hw1
          go_enter Try.func10, Try.ntmps10
          go_wp2_with fail
          refine (HD.out _).mono ?_
          rintro e w' ⟨rfl, h⟩
          have h3 := h.symm; clear h; subst h3
          go_wp2_with fail
          refine (HP.out _).mono ?_
          rintro e w' ⟨rfl, h⟩
          have h3 := h.symm; clear h; subst h3
          rw [hA, hw1'] at hrun
          clear hw1' hA
          go_wp2_with fail
          all_goals
            go_ret
            exact ⟨rfl, HF.out.1, HF.out.2⟩
end Go.Proofs.Ytgncabcnefhkiaa

import Derived.Test.YtgncabcnefhkiaaCs9
/- Chapter 9, the document's scheduler: Add. -/
namespace Go.Proofs.Ytgncabcnefhkiaa
open Go.ChangeShapes Go.WideShapes Go.ChangeAt Go.RowKit
open Go.Vx
set_option linter.unusedVariables false
variable {U V S : Nat → Prop} {w w2 w3 : World} {sb : Nat} {vt vl : Value} {ts : List (Int × Int)} {t : Nat} {lf : Int} {es : List Et} {ck : Nat}

theorem etK : Kind Try.prog etL 72 104 := kind_of (z := .agg #[.int .i64 0, .int .i64 0, .int .i64 0, .int .i64 0, .int .i64 0]) (b := 40) Try.underlying72 (by kernel_rfl) rfl (by decide)
theorem SdAt.setL {w3 : World} {v' : Value} {xs' : List Et} (h : SdAt U w sb vt vl ts t lf es ck) (ho : OwnL etL w3 0 104 v' xs') (hon : Only (fun k => vl.ownBlock = some k) w w3) (hl : ∀ k, v'.ownBlock = some k → vl.ownBlock = some k ∨ w.heap.size ≤ k) (hn : xs'.length ≤ 1000000) :
    (∃ x, w3.cell? ⟨sb, 3, none⟩ = some x) ∧ w3.frozen? ⟨sb, 3, none⟩ = false ∧ SdAt U (w3.setCell ⟨sb, 3, none⟩ v') sb vt v' ts t lf xs' ck ∧ Only (fun k => ¬ U k) w (w3.setCell ⟨sb, 3, none⟩ v') := by
  have n1 : ∀ k, vl.ownBlock = some k → k ≠ sb := fun k hk => by
    obtain ⟨cur, hc⟩ := own_tag h.l hk
    exact tag_ne hc h.r (by decide)
  have n2 : ∀ k j, vl.ownBlock = some k → vt.ownBlock = some j → k ≠ j := fun k j hk hj => by
    obtain ⟨cur, hc⟩ := own_tag h.l hk
    obtain ⟨cur2, hc2⟩ := own_tag h.t' hj
    exact tag_ne hc hc2 (by decide)
  have n3 : ∀ j, vt.ownBlock = some j → j ≠ sb := fun j hj => by
    obtain ⟨cur2, hc2⟩ := own_tag h.t' hj
    exact tag_ne hc2 h.r (by decide)
  have hr3 : w3.heap[sb]? = some (.cells #[vt, .int .i64 (t : Int), .int .i64 lf, vl, .int .i64 (ck : Int)] 74 (0, 0)) := by rw [hon.block sb (lt_of_some h.r) (fun e => n1 sb e rfl)]; exact h.r
  have hne' : ∀ k, v'.ownBlock = some k → k ≠ sb := fun k hk => by
    obtain ⟨cur, hc⟩ := own_tag ho hk
    exact tag_ne hc hr3 (by decide)
  have hs : Only (fun k => k = sb) w3 (w3.setCell ⟨sb, 3, none⟩ v') := Only.setCell (S := fun k => k = sb) (Only.refl _ w3) (Or.inl rfl) _
  have he3 : OwnL slL w3 0 34 vt ts := h.t'.kept hon (fun k hk e => n2 k k e hk rfl)
  refine ⟨⟨vl, (cell_of_row _ _ 3 _ _ (0, 0) hr3).trans rfl⟩, by simp [World.frozen?, hr3], ⟨?_, he3.kept hs (fun k hk e => n3 k hk e), ho.kept hs hne', h.ur, h.ut, ?_, fun k hk => Nat.lt_of_lt_of_le (h.low k hk) (Nat.le_trans hon.size hs.size), hn⟩, ?_⟩
  · rw [heap_setCell_same _ _ 3 _ _ v' hr3]; rfl
  · intro k hk
    rcases hl k hk with hl | hl
    · exact h.ul k hl
    · intro hu
      have := h.low k hu
      omega
  · refine (hon.mono (fun k _ hk => h.ul k hk)).trans ?_
    exact hs.mono (fun k _ hk => by subst hk; exact h.ur)
def addSE (es : List Et) (n d p : Int) : Int := if n < 0 ∨ d < 0 ∨ 7 < d ∨ p < 0 ∨ 7 < p then 1 else if (fnF es n).isSome = true then 7 else 0
def addSL (es : List Et) (n d p : Int) : List Et := if addSE es n d p = 0 then es ++ [⟨n, d, p, 0, 0⟩] else es
set_option maxHeartbeats 2000000 in
theorem sadd_ok (h : SdAt U w sb vt vl ts t lf es ck) (hn9 : es.length < 1000000) (n d p : Int) : Calls Try.prog 28 #[.pointer (some ⟨sb, 0, none⟩), .int .i64 n, .int .i64 d, .int .i64 p] w fun e w' => e = .returned (.int .i64 (addSE es n d p)) ∧ SdX U w' sb ts t lf (addSL es n d p) ck ∧ Only (fun k => ¬ U k) w w' := by
  have HH := Vx.hid h
  by_cases a1 : n < 0
  · have e1 : addSE es n d p = 1 := if_pos (by omega)
    have e2 : addSL es n d p = es := if_neg (by rw [e1]; decide)
    rw [e1, e2]
    clear h e1 e2
    go_enter Try.func28, Try.ntmps28
    go_wp2_with fail
    all_goals
      go_ret
      exact ⟨rfl, ⟨_, _, HH.out⟩, Only.refl _ _⟩
  · by_cases a2 : d < 0
    · have e1 : addSE es n d p = 1 := if_pos (by omega)
      have e2 : addSL es n d p = es := if_neg (by rw [e1]; decide)
      rw [e1, e2]
      clear h e1 e2
      go_enter Try.func28, Try.ntmps28
      go_wp2_with fail
      all_goals
        go_ret
        exact ⟨rfl, ⟨_, _, HH.out⟩, Only.refl _ _⟩
    · by_cases a3 : 7 < d
      · have e1 : addSE es n d p = 1 := if_pos (by omega)
        have e2 : addSL es n d p = es := if_neg (by rw [e1]; decide)
        rw [e1, e2]
        clear h e1 e2
        go_enter Try.func28, Try.ntmps28
        go_wp2_with fail
        all_goals
          go_ret
          exact ⟨rfl, ⟨_, _, HH.out⟩, Only.refl _ _⟩
      · by_cases a4 : p < 0
        · have e1 : addSE es n d p = 1 := if_pos (by omega)
          have e2 : addSL es n d p = es := if_neg (by rw [e1]; decide)
          rw [e1, e2]
          clear h e1 e2
          go_enter Try.func28, Try.ntmps28
          go_wp2_with fail
          all_goals
            go_ret
            exact ⟨rfl, ⟨_, _, HH.out⟩, Only.refl _ _⟩
        · by_cases a5 : 7 < p
          · have e1 : addSE es n d p = 1 := if_pos (by omega)
            have e2 : addSL es n d p = es := if_neg (by rw [e1]; decide)
            rw [e1, e2]
            clear h e1 e2
            go_enter Try.func28, Try.ntmps28
            go_wp2_with fail
            all_goals
              go_ret
              exact ⟨rfl, ⟨_, _, HH.out⟩, Only.refl _ _⟩
          · have hc : ¬ (n < 0 ∨ d < 0 ∨ 7 < d ∨ p < 0 ∨ 7 < p) := by omega
            cases hi : fnF es n with
            | some i =>
              have HFN := Vx.hid (find_some h hi)
              have e1 : addSE es n d p = 7 := by unfold addSE; rw [if_neg hc, hi]; rfl
              have e2 : addSL es n d p = es := if_neg (by rw [e1]; decide)
              have hge : 0 ≤ (i : Int) := by omega
              rw [e1, e2]
              clear h e1 e2 hi hc
              go_enter Try.func28, Try.ntmps28
              go_wp2_with fail
              refine HFN.out.mono ?_
              rintro e w' ⟨rfl, h⟩
              have h3 := h.symm; clear h; subst h3
              go_wp2_with fail
              all_goals
                go_ret
                exact ⟨rfl, ⟨_, _, HH.out⟩, Only.refl _ _⟩
            | none =>
              have HFN := Vx.hid (find_none h hi)
              have e1 : addSE es n d p = 0 := by unfold addSE; rw [if_neg hc, hi]; rfl
              have e2 : addSL es n d p = es ++ [⟨n, d, p, 0, 0⟩] := if_pos e1
              rw [e1, e2]
              obtain ⟨q, c, hvl, _⟩ := h.l.form
              obtain ⟨N, hN⟩ : ∃ N, N = es.length := ⟨_, rfl⟩
              rw [← hN] at hvl
              subst hvl
              have c3 := h.c3
              have HL1 : Hid (es.length + 1 ≤ 10000000) := by show _ ≤ _; omega
              have HL2 : Hid ((es ++ [(⟨n, d, p, 0, 0⟩ : Et)]).length ≤ 1000000) := by show _ ≤ _; rw [List.length_append, List.length_singleton]; omega
              clear h e1 e2 hi hc hN
              go_enter Try.func28, Try.ntmps28
              go_wp2_with fail
              refine HFN.out.mono ?_
              rintro e w' ⟨rfl, h⟩
              have h3 := h.symm; clear h; subst h3
              go_wp2_with (at_builtin; refine wpList_append_one etK _ rfl _ _ rfl 0 (.slice q N c) _ rfl HH.out.l ⟨n, d, p, 0, 0⟩ _ _ rfl rfl rfl HL1.out (Nat.zero_le _) ?_; intro v' w8 hv1 hv2 hv3; obtain ⟨pz, cz, hvz, _⟩ := hv1.form; generalize (es ++ [(⟨n, d, p, 0, 0⟩ : Et)]).length = mz at hvz; subst hvz; obtain ⟨⟨qx, q1⟩, q2, q3, q4⟩ := HH.out.setL hv1 hv2 (lies_of hv3) HL2.out; have HF := Vx.hid (⟨q3, q4⟩ : _ ∧ _); clear hv1 hv2 hv3 q3 q4)
              all_goals
                go_ret
                exact ⟨rfl, ⟨_, _, HF.out.1⟩, HF.out.2⟩
end Go.Proofs.Ytgncabcnefhkiaa

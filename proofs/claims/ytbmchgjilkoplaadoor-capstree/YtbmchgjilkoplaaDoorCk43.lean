import Derived.Test.YtbmchgjilkoplaaDoorCk42
import Derived.Test.YtbmchgjilkoplaaDoorCk18
import Derived.Deep.RegionLaw
import Derived.Lib.SliceRun
/- Chapter 7, pure: what comes from a slot, by a stack; slices.Clone. -/
namespace Go.Proofs.YtbmchgjilkoplaaDoor
open Go.ChangeShapes Go.WideShapes Go.ChangeAt Go.RowKit
open Go.Vx
set_option linter.unusedVariables false

theorem comF_rev (es : List En) (s : Sl) : comF es.reverse s = (comF es s).reverse := by
  unfold comF
  rw [List.filter_reverse, List.map_reverse]
theorem com_flat (f : Sl → List Sl) (s : Sl) : ∀ es : List En, es.flatMap (fun e => if e.from' = s then e.at' :: f e.at' else []) = (comF es s).flatMap fun t => t :: f t
  | [] => rfl
  | e :: es => by
    have ih := com_flat f s es
    rw [List.flatMap_cons, ih]
    by_cases h : e.from' = s
    · have : comF (e :: es) s = e.at' :: comF es s := by unfold comF; rw [List.filter_cons_of_pos (by simpa using h)]; rfl
      rw [if_pos h, this, List.flatMap_cons]
    · have : comF (e :: es) s = comF es s := by unfold comF; rw [List.filter_cons_of_neg (by simpa using h)]
      rw [if_neg h, this, List.nil_append]
theorem belN_com (es : List En) (d : Nat) (s : Sl) : belN es (d + 1) s = (comF es s).flatMap fun t => t :: belN es d t := com_flat (belN es d) s es
theorem com_mem {es : List En} {s t : Sl} (h : t ∈ comF es s) : ∃ e ∈ es, e.from' = s ∧ e.at' = t := by
  unfold comF at h
  obtain ⟨e, he, rfl⟩ := List.mem_map.1 h
  obtain ⟨h1, h2⟩ := List.mem_filter.1 he
  exact ⟨e, h1, of_decide_eq_true h2, rfl⟩
/-- Deep enough is deep enough. -/
theorem belN_stable {es : List En} {r : Sl → Nat} {D : Nat} (hr : ∀ e ∈ es, r e.from' < r e.at') (hD : ∀ e ∈ es, r e.at' ≤ D) : ∀ (d : Nat) (s : Sl), D + 1 ≤ d + r s → belN es d s = belN es (d + 1) s
  | 0, s, h => by
    rw [belN_com]
    have : comF es s = [] := by
      cases hc : comF es s with
      | nil => rfl
      | cons t l =>
        obtain ⟨e, he, h1, h2⟩ := com_mem (es := es) (s := s) (t := t) (by rw [hc]; simp)
        have h3 := hr e he
        have h4 := hD e he
        rw [h1] at h3
        omega
    rw [this]
    rfl
  | d + 1, s, h => by
    rw [belN_com, belN_com]
    have : ∀ t ∈ comF es s, t :: belN es d t = t :: belN es (d + 1) t := fun t ht => by
      obtain ⟨e, he, h1, rfl⟩ := com_mem ht
      have h3 := hr e he
      rw [h1] at h3
      rw [belN_stable hr hD d e.at' (by omega)]
    have h5 : ∀ l : List Sl, (∀ t ∈ l, t :: belN es d t = t :: belN es (d + 1) t) → l.flatMap (fun t => t :: belN es d t) = l.flatMap (fun t => t :: belN es (d + 1) t) := by
      intro l
      induction l with
      | nil => intro _; rfl
      | cons a l ih =>
        intro hl
        rw [List.flatMap_cons, List.flatMap_cons, hl a (by simp), ih (fun t ht => hl t (by simp [ht]))]
    exact h5 _ this
theorem belN_all {es : List En} {r : Sl → Nat} {D : Nat} (hr : ∀ e ∈ es, r e.from' < r e.at') (hD : ∀ e ∈ es, r e.at' ≤ D) (s : Sl) : belN es (D + 1) s = (comF es s).flatMap fun t => t :: belN es (D + 1) t := by
  rw [belN_stable hr hD (D + 1) s (by omega), belN_com]
/-- What a stack still gives. -/
def stkF (B : Sl → List Sl) (st : List Sl) : List Sl := st.reverse.flatMap fun t => t :: B t
theorem stk_nil (B : Sl → List Sl) : stkF B [] = [] := rfl
theorem stk_len (B : Sl → List Sl) (st : List Sl) : st.length ≤ (stkF B st).length := by
  unfold stkF
  rw [← List.length_reverse]
  generalize st.reverse = l
  induction l with
  | nil => simp
  | cons a l ih => rw [List.flatMap_cons, List.length_append, List.length_cons, List.length_cons]; omega
theorem stk_push (B : Sl → List Sl) (st : List Sl) (x : Sl) : stkF B (st ++ [x]) = x :: (B x ++ stkF B st) := by
  unfold stkF
  rw [List.reverse_append]
  rfl
theorem stk_app (B : Sl → List Sl) (st l : List Sl) : stkF B (st ++ l) = stkF B l ++ stkF B st := by
  unfold stkF
  rw [List.reverse_append, List.flatMap_append]
theorem OwnL.cut {α : Type} {L : Lay α} {w : World} {base g c : Nat} {e : TypeId} {st : List α} {x : α} (h : OwnL L w base e (.slice (some ⟨g, 0, none⟩) (st ++ [x]).length c) (st ++ [x])) : OwnL L w base e (.slice (some ⟨g, 0, none⟩) st.length c) st := by
  refine ⟨by rw [length_fl], ?_⟩
  rcases h.2 with ⟨hv, _⟩ | ⟨g2, cap, cur, hv, hb, hg, hnc, hcm, hcs, ht⟩
  · cases hv
  · simp only [Value.slice.injEq, Option.some.injEq, Addr.mk.injEq, and_true, true_and] at hv
    obtain ⟨rfl, rfl⟩ := hv
    refine Or.inr ⟨g, c, cur, rfl, hb, hg, by rw [List.length_append] at hnc; omega, hcm, hcs, ?_⟩
    have e1 : (cur.toList.take ((st ++ [x]).length * L.sz)).take (st.length * L.sz) = (fl L (st ++ [x])).take (st.length * L.sz) := by rw [ht]
    rw [List.take_take, fl_app, List.take_append_of_le_length (by rw [length_fl]; exact Nat.le_refl _), ← length_fl L st, List.take_length, length_fl] at e1
    rw [← e1]
    congr 1
    rw [List.length_append, Nat.add_mul]
    omega
end Go.Proofs.YtbmchgjilkoplaaDoor

/- Chapter 7, the program's store: slices.Clone, Below. -/
namespace Go.Proofs.YtbmchgjilkoplaaDoor
open Go.ChangeShapes Go.WideShapes Go.ChangeAt Go.RowKit
open Go.Vx
set_option linter.unusedVariables false
variable {U : Nat → Prop} {w : World} {xb mb : Nat} {D : DataW Value} {G : Int → Nat} {bs : List (Int × Int)} {es : List En} {Q : Sl → Pl}

theorem eql_nil (w : World) (a : Option Addr) (n c : Nat) : (binOp .eql 57 (.slice a n c) (.slice none 0 0)).run Tryd.prog w = .ok (.bool a.isNone) w := Lib.run_eql_slice_nil w _ _ a n c 0 0 Tryd.underlying57
theorem own_empty (w : World) : OwnL slL (w.alloc (.cells #[] 62)) w.heap.size 62 (.slice (some ⟨w.heap.size, 0, none⟩) 0 0) [] :=
  ⟨rfl, Or.inr ⟨w.heap.size, 0, #[], rfl, Nat.le_refl _, heap_alloc_last w _, Nat.le_refl _, by unfold maxLen; omega, rfl, rfl⟩⟩
set_option maxRecDepth 100000 in
set_option maxHeartbeats 1000000 in
theorem clone_ok {base : Nat} {v : Value} {xs : List Sl} (h : OwnL slL w base 62 v xs) (hl : xs.length ≤ 1000000) : Calls Tryd.prog 54 #[v] w fun e w' => ∃ v', e = .returned v' ∧ OwnL slL w' w.heap.size 62 v' xs ∧ Only (fun _ => False) w w' := by
  have HH := Vx.hid h
  have hq := eql_nil
  rcases h.2 with ⟨rfl, h0⟩ | ⟨g, cap, cur, rfl, hb, hg, hnc, hcm, hcs, ht⟩
  · have hx : xs = [] := List.length_eq_zero_iff.1 h0
    subst hx
    clear h h0
    go_enter Tryd.func54, Tryd.ntmps54
    go_wp2_with fail
    go_ret
    exact ⟨_, rfl, OwnL.nil _ _ _ _, Only.refl _ _⟩
  · have HC : Hid (0 < xs.length → ∃ ad, (some ⟨g, 0, none⟩ : Option Addr) = some ad ∧ ∀ j u, (fl slL xs)[j]? = some u → (w.alloc (.cells #[] 62)).cell? (ad.add j) = some u) := fun _ => ⟨_, rfl, fun j u hj => by
      rw [addr_add, Nat.zero_add, (((Only.refl (fun _ => False) w).alloc (.cells #[] 62)).cell (p := ⟨g, j, none⟩) (lt_of_some hg) (fun h => h))]
      have hj2 := (List.getElem?_eq_some_iff.1 hj).1
      rw [World.ownsRow.cellAt h j (by rw [length_fl] at hj2; exact hj2)]
      exact hj⟩
    have HE := Vx.hid (own_empty w)
    have HL : Hid (([] : List Sl).length + xs.length ≤ 10000000) := by show ([] : List Sl).length + xs.length ≤ 10000000; simp; omega
    have HO : Hid (Only (fun _ => False) w (w.alloc (.cells #[] 62))) := (Only.refl _ w).alloc _
    obtain ⟨N, hN⟩ : ∃ N, N = xs.length := ⟨_, rfl⟩
    rw [← hN]
    have HN := Vx.hid hN
    clear h hb hg hnc hcm hcs ht hN
    go_enter Tryd.func54, Tryd.ntmps54
    go_wp2_with (at_builtin; refine wpList_append_many slK _ rfl _ _ rfl w.heap.size (.slice (some ⟨w.heap.size, 0, none⟩) 0 0) [] rfl HE.out (some ⟨g, 0, none⟩) cap N xs rfl HN.out HC.out HL.out (by simp) ?_; intro v1 w1 hv1 hv2 hv3)
    obtain ⟨p1, c1, hv, _⟩ := hv1.form
    have H1 := Vx.hid hv1
    have H2 : Hid (Only (fun _ => False) w w1) := Only.beyond HO.out hv2 (fun k hk => by
      have : w.heap.size = k := by simpa [Value.ownBlock] using hk
      omega)
    generalize ([] ++ xs).length = m at hv
    subst hv
    clear hv1 hv2 hv3
    go_wp2_with fail
    go_ret
    exact ⟨_, rfl, by have := H1.out; rw [List.nil_append] at this; exact this, H2.out⟩
end Go.Proofs.YtbmchgjilkoplaaDoor

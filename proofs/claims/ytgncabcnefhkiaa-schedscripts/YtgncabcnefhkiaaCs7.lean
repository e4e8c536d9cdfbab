import Derived.Test.YtgncabcnefhkiaaCs6
/- Chapter 9, the document's scheduler: a thread changed where it lies; last, Ready, Block, Yield, Prio. -/
namespace Go.Proofs.Ytgncabcnefhkiaa
open Go.ChangeShapes Go.WideShapes Go.ChangeAt Go.RowKit
open Go.Vx
set_option linter.unusedVariables false
variable {U V S : Nat → Prop} {w w2 w3 : World} {sb : Nat} {vt vl : Value} {ts : List (Int × Int)} {t : Nat} {lf : Int} {es : List Et} {ck : Nat}

theorem own_et {base g m c : Nat} {T : TypeId} {xs : List Et} (h : OwnL etL w base T (.slice (some ⟨g, 0, none⟩) m c) xs) (hm : m = xs.length) (k : Nat) (hk : k < xs.length) (j : Nat) (hj : j < 5) (y : Int) (e' : Et) (he : etC e' = (etC xs[k]).set j (.int .i64 y)) :
    OwnL etL (w.setCell ⟨g, k * 5 + j, none⟩ (.int .i64 y)) base T (.slice (some ⟨g, 0, none⟩) m c) (xs.set k e') ∧ Only (fun b => b = g) w (w.setCell ⟨g, k * 5 + j, none⟩ (.int .i64 y)) := by
  subst hm
  have h0 := (World.ownsRow.stored h (k * 5 + j) (.int .i64 y)).1
  refine ⟨?_, Only.setCell (S := fun b => b = g) (Only.refl _ w) (Or.inl rfl) _⟩
  have hs : etL.sz = 5 := rfl
  have hlen : (fl etL xs).length = xs.length * 5 := length_fl etL xs
  have hz : (fl etL xs).set (k * 5 + j) (.int .i64 y) = fl etL (xs.set k e') := by
    refine fl_set etL xs k e' hk _ (by simp) (fun i hi => ?_) (fun i hi => ?_)
    · have hi' : i < 5 := hi
      have h1 := get_fl etL xs k i hk hi
      have h2 : (etC xs[k]).length = 5 := rfl
      rw [hs] at h1 ⊢
      show _ = (etC e')[i]?
      rw [he, List.getElem?_set, List.getElem?_set, h2]
      by_cases hij : j = i
      · subst hij
        rw [if_pos rfl, if_pos rfl, if_pos (by rw [hlen]; omega), if_pos hj]
      · rw [if_neg (by omega), if_neg hij, h1]
        rfl
    · rw [hs] at hi
      rw [List.getElem?_set, if_neg (by omega)]
  rw [hz] at h0
  show World.ownsRow _ _ _ _ _ (xs.set k e').length _
  rw [List.length_set]
  exact h0
def SdX (U : Nat → Prop) (w : World) (sb : Nat) (ts : List (Int × Int)) (t : Nat) (lf : Int) (es : List Et) (ck : Nat) : Prop := ∃ vt vl, SdAt U w sb vt vl ts t lf es ck
/-- A thread's field put anew. -/
theorem SdAt.putE {g m c : Nat} (h : SdAt U w sb vt (.slice (some ⟨g, 0, none⟩) m c) ts t lf es ck) (hm : m = es.length) (k : Nat) (hk : k < es.length) (j : Nat) (hj : j < 5) (y : Int) (e' : Et) (he : etC e' = (etC es[k]).set j (.int .i64 y)) :
    SdAt U (w.setCell ⟨g, k * 5 + j, none⟩ (.int .i64 y)) sb vt (.slice (some ⟨g, 0, none⟩) m c) ts t lf (es.set k e') ck ∧ Only (fun k => ¬ U k) w (w.setCell ⟨g, k * 5 + j, none⟩ (.int .i64 y)) := by
  obtain ⟨h1, ho⟩ := own_et h.l hm k hk j hj y e' he
  obtain ⟨cur, hc⟩ := own_tag h.l (k := g) rfl
  have hug : ¬ U g := h.ul g rfl
  refine ⟨⟨Only.keep ho h.r (fun e => tag_ne hc h.r (by decide) e.symm), h.t'.kept ho (fun j hj e => ?_), h1, h.ur, h.ut, h.ul, fun k hu => Nat.lt_of_lt_of_le (h.low k hu) ho.size, by rw [List.length_set]; exact h.nl⟩, ho.mono (fun j _ hj => by subst hj; exact hug)⟩
  obtain ⟨cur2, hc2⟩ := own_tag h.t' hj
  exact tag_ne hc hc2 (by decide) e.symm
/-- The clock put anew. -/
theorem SdAt.putC (h : SdAt U w sb vt vl ts t lf es ck) (c2 : Nat) : SdAt U (w.setCell ⟨sb, 4, none⟩ (.int .i64 (c2 : Int))) sb vt vl ts t lf es c2 ∧ Only (fun k => ¬ U k) w (w.setCell ⟨sb, 4, none⟩ (.int .i64 (c2 : Int))) := by
  have ho : Only (fun b => b = sb) w (w.setCell ⟨sb, 4, none⟩ (.int .i64 (c2 : Int))) := Only.setCell (S := fun b => b = sb) (Only.refl _ w) (Or.inl rfl) _
  have hr : (w.setCell ⟨sb, 4, none⟩ (.int .i64 (c2 : Int))).heap[sb]? = some (.cells #[vt, .int .i64 (t : Int), .int .i64 lf, vl, .int .i64 (c2 : Int)] 74 (0, 0)) := by
    rw [heap_setCell_same _ _ 4 _ _ (.int .i64 (c2 : Int)) h.r]
    rfl
  refine ⟨⟨hr, h.t'.kept ho (fun j hj e => ?_), h.l.kept ho (fun j hj e => ?_), h.ur, h.ut, h.ul, fun k hu => Nat.lt_of_lt_of_le (h.low k hu) ho.size, h.nl⟩, ho.mono (fun j _ hj => by subst hj; exact h.ur)⟩
  · obtain ⟨cur2, hc2⟩ := own_tag h.t' hj
    exact tag_ne h.r hc2 (by decide) e.symm
  · obtain ⟨cur2, hc2⟩ := own_tag h.l hj
    exact tag_ne h.r hc2 (by decide) e.symm
def lastE (ck : Nat) (e : Et) : Et := { e with left := 5, came := (ck : Int) + 1 }
theorem SdAt.formL (h : SdAt U w sb vt vl ts t lf es ck) (hn : 0 < es.length) : ∃ g c, vl = .slice (some ⟨g, 0, none⟩) es.length c := by
  obtain ⟨p, c, rfl, _, _, hg⟩ := h.l.form
  obtain ⟨g, rfl, _⟩ := hg hn
  exact ⟨g, c, rfl⟩
theorem SdAt.e5 {g m c : Nat} (h : SdAt U w sb vt (.slice (some ⟨g, 0, none⟩) m c) ts t lf es ck) (k : Nat) (hk : k < es.length) : E5 w g k es[k] :=
  ⟨h.l.cell k 0 hk (by decide), h.l.cell k 1 hk (by decide), h.l.cell k 2 hk (by decide), h.l.cell k 3 hk (by decide), h.l.cell k 4 hk (by decide)⟩
set_option maxHeartbeats 1000000 in
theorem slast_ok (h : SdAt U w sb vt vl ts t lf es ck) (i : Nat) (hi : i < es.length) (hck : ck < 1000000000000) : Calls Try.prog 54 #[.pointer (some ⟨sb, 0, none⟩), .int .i64 (i : Int)] w fun e w' => (∃ v, e = .returned v) ∧ SdX U w' sb ts t lf (es.set i (lastE ck es[i])) (ck + 1) ∧ Only (fun k => ¬ U k) w w' := by
  obtain ⟨g, c, rfl⟩ := h.formL (by omega)
  obtain ⟨N, hN⟩ : ∃ N, N = es.length := ⟨_, rfl⟩
  rw [← hN] at h
  have hidx : 0 ≤ (i : Int) ∧ (i : Int) < (N : Int) := by omega
  have hwc : IntKind.i64.wrap ((ck : Int) + 1) = (ck : Int) + 1 := by rw [IntKind.wrap_i64]; omega
  have c4 := h.c4
  have f4 := h.fz 4
  obtain ⟨h1, o1⟩ := h.putC (ck + 1)
  have e9 : ((ck + 1 : Nat) : Int) = (ck : Int) + 1 := by omega
  rw [e9] at h1 o1
  obtain ⟨w1, hw1⟩ : ∃ w1, w1 = w.setCell ⟨sb, 4, none⟩ (.int .i64 ((ck : Int) + 1)) := ⟨_, rfl⟩
  rw [← hw1] at h1 o1
  have d3 := h1.c3
  have d4 := h1.c4
  rw [e9] at d4
  obtain ⟨x4, q4⟩ : ∃ x, w1.cell? ⟨g, i * 5 + 4, none⟩ = some x := ⟨_, (h1.e5 i hi).c4⟩
  have z4 := h1.l.fz (i * 5 + 4)
  obtain ⟨h2a, o2a⟩ := h1.putE hN i hi 4 (by decide) ((ck : Int) + 1) { es[i] with came := (ck : Int) + 1 } rfl
  have h2 := h2a.quiet ((Only.refl (fun _ => False) _).drew)
  have o2 := o2a.trans (((Only.refl (fun _ => False) (w1.setCell ⟨g, i * 5 + 4, none⟩ (.int .i64 ((ck : Int) + 1)))).drew).mono (fun _ _ h => h.elim))
  have hi2 : i < (es.set i { es[i] with came := (ck : Int) + 1 }).length := by rw [List.length_set]; exact hi
  have hN2 : N = (es.set i { es[i] with came := (ck : Int) + 1 }).length := by rw [List.length_set]; exact hN
  obtain ⟨w2, hw2⟩ : ∃ w2, w2 = (w1.setCell ⟨g, i * 5 + 4, none⟩ (.int .i64 ((ck : Int) + 1))).drew := ⟨_, rfl⟩
  rw [← hw2] at h2 o2
  have k3 := h2.c3
  obtain ⟨x3, q3⟩ : ∃ x, w2.cell? ⟨g, i * 5 + 3, none⟩ = some x := ⟨_, (h2.e5 i hi2).c3⟩
  have z3 := h2.l.fz (i * 5 + 3)
  obtain ⟨h3, o3⟩ := h2.putE hN2 i hi2 3 (by decide) 5 (lastE ck es[i]) (by rw [List.getElem_set_self]; rfl)
  rw [List.set_set] at h3
  have HF : Hid (SdX U (w2.setCell ⟨g, i * 5 + 3, none⟩ (.int .i64 5)) sb ts t lf (es.set i (lastE ck es[i])) (ck + 1) ∧ Only (fun k => ¬ U k) w (w2.setCell ⟨g, i * 5 + 3, none⟩ (.int .i64 5))) := ⟨⟨_, _, h3⟩, (o1.trans o2).trans o3⟩
  clear h h1 h2 h2a h3 o1 o2 o2a o3 e9 hi2 hN2 hN hck
  go_enter Try.func54, Try.ntmps54
  go_upto_region 1 with fail
  rw [← hw1]
  clear hw1 c4 f4
  go_region
  all_goals
    rw [← hw2]
    clear hw2
    go_wp2_with fail
    go_end0
    exact ⟨⟨_, rfl⟩, HF.out.1, HF.out.2⟩
end Go.Proofs.Ytgncabcnefhkiaa

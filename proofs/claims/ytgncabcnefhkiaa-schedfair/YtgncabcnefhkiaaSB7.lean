/- Chapter 9, the document's scheduler: Next. -/
import Derived.Test.YtgncabcnefhkiaaSB6
namespace Go.Vx
/-- The turn, a tick on. -/
def turnT (ts : List (Int × Int)) (t : Nat) (lf : Int) : Nat := if lf = 0 then (t + 1) % ts.length else t
def turnL (ts : List (Int × Int)) (t : Nat) (lf : Int) : Int := (if lf = 0 then (ts.getD ((t + 1) % ts.length) (0, 0)).2 else lf) - 1
def turnD (ts : List (Int × Int)) (t : Nat) (lf : Int) : Int := (ts.getD (turnT ts t lf) (0, 0)).1
def lessE (e : Et) : Et := { e with left := e.left - 1 }
end Go.Vx
namespace Go.Proofs.Ytgncabcnefhkiaa
open Go.ChangeShapes Go.WideShapes Go.ChangeAt Go.RowKit
open Go.Vx
set_option linter.unusedVariables false
variable {U V S : Nat → Prop} {w w2 w3 : World} {sb : Nat} {vt vl : Value} {ts : List (Int × Int)} {t : Nat} {lf : Int} {es : List Et} {ck : Nat}

def nextI (es : List Et) (ck : Nat) (d : Int) : List Et × Nat × Int := match bestF es d with
  | none => (es, ck, -1)
  | some i => if (es.getD i .df).left = 0 then match bestF (es.set i (lastE ck (es.getD i .df))) d with
      | none => (es.set i (lastE ck (es.getD i .df)), ck + 1, -1)
      | some j => ((es.set i (lastE ck (es.getD i .df))).set j (lessE ((es.set i (lastE ck (es.getD i .df))).getD j .df)), ck + 1, ((es.set i (lastE ck (es.getD i .df))).getD j .df).num)
    else (es.set i (lessE (es.getD i .df)), ck, (es.getD i .df).num)
theorem SdAt.putT (h : SdAt U w sb vt vl ts t lf es ck) (t2 : Nat) : SdAt U (w.setCell ⟨sb, 1, none⟩ (.int .i64 (t2 : Int))) sb vt vl ts t2 lf es ck ∧ Only (fun k => ¬ U k) w (w.setCell ⟨sb, 1, none⟩ (.int .i64 (t2 : Int))) := by
  have ho : Only (fun b => b = sb) w (w.setCell ⟨sb, 1, none⟩ (.int .i64 (t2 : Int))) := Only.setCell (S := fun b => b = sb) (Only.refl _ w) (Or.inl rfl) _
  have hr : (w.setCell ⟨sb, 1, none⟩ (.int .i64 (t2 : Int))).heap[sb]? = some (.cells #[vt, .int .i64 (t2 : Int), .int .i64 lf, vl, .int .i64 (ck : Int)] 74 (0, 0)) := by
    rw [heap_setCell_same _ _ 1 _ _ (.int .i64 (t2 : Int)) h.r]
    rfl
  refine ⟨⟨hr, h.t'.kept ho (fun j hj e => ?_), h.l.kept ho (fun j hj e => ?_), h.ur, h.ut, h.ul, fun k hu => Nat.lt_of_lt_of_le (h.low k hu) ho.size, h.nl⟩, ho.mono (fun j _ hj => by subst hj; exact h.ur)⟩
  · obtain ⟨cur2, hc2⟩ := own_tag h.t' hj
    exact tag_ne h.r hc2 (by decide) e.symm
  · obtain ⟨cur2, hc2⟩ := own_tag h.l hj
    exact tag_ne h.r hc2 (by decide) e.symm
theorem SdAt.putF (h : SdAt U w sb vt vl ts t lf es ck) (x : Int) : SdAt U (w.setCell ⟨sb, 2, none⟩ (.int .i64 x)) sb vt vl ts t x es ck ∧ Only (fun k => ¬ U k) w (w.setCell ⟨sb, 2, none⟩ (.int .i64 x)) := by
  have ho : Only (fun b => b = sb) w (w.setCell ⟨sb, 2, none⟩ (.int .i64 x)) := Only.setCell (S := fun b => b = sb) (Only.refl _ w) (Or.inl rfl) _
  have hr : (w.setCell ⟨sb, 2, none⟩ (.int .i64 x)).heap[sb]? = some (.cells #[vt, .int .i64 (t : Int), .int .i64 x, vl, .int .i64 (ck : Int)] 74 (0, 0)) := by
    rw [heap_setCell_same _ _ 2 _ _ (.int .i64 x) h.r]
    rfl
  refine ⟨⟨hr, h.t'.kept ho (fun j hj e => ?_), h.l.kept ho (fun j hj e => ?_), h.ur, h.ut, h.ul, fun k hu => Nat.lt_of_lt_of_le (h.low k hu) ho.size, h.nl⟩, ho.mono (fun j _ hj => by subst hj; exact h.ur)⟩
  · obtain ⟨cur2, hc2⟩ := own_tag h.t' hj
    exact tag_ne h.r hc2 (by decide) e.symm
  · obtain ⟨cur2, hc2⟩ := own_tag h.l hj
    exact tag_ne h.r hc2 (by decide) e.symm
theorem SdAt.formT (h : SdAt U w sb vt vl ts t lf es ck) (hn : 0 < ts.length) : ∃ g c, vt = .slice (some ⟨g, 0, none⟩) ts.length c := by
  obtain ⟨p, c, rfl, _, _, hg⟩ := h.t'.form
  obtain ⟨g, rfl, _⟩ := hg hn
  exact ⟨g, c, rfl⟩
theorem SdAt.turn {g m c : Nat} (h : SdAt U w sb (.slice (some ⟨g, 0, none⟩) m c) vl ts t lf es ck) (k : Nat) (hk : k < ts.length) : w.cell? ⟨g, k * 2, none⟩ = some (.int .i64 (ts.getD k (0, 0)).1) ∧ w.cell? ⟨g, k * 2 + 1, none⟩ = some (.int .i64 (ts.getD k (0, 0)).2) := by
  have e : ts.getD k (0, 0) = ts[k] := by simp [List.getD_eq_getElem?_getD, hk]
  rw [e]
  exact ⟨h.t'.cell k 0 hk (by decide), h.t'.cell k 1 hk (by decide)⟩
theorem SdX.quiet (h : SdX U w sb ts t lf es ck) (ho : Only (fun _ => False) w w2) : SdX U w2 sb ts t lf es ck := by
  obtain ⟨a, b, h⟩ := h
  exact ⟨a, b, h.quiet ho⟩
/-- The end of Next: the one that is told. -/
theorem SdAt.told (h : SdAt U w sb vt vl ts t lf es ck) (j : Nat) (hj : j < es.length) : ∃ g c, vl = .slice (some ⟨g, 0, none⟩) es.length c ∧ E5 w g j es[j] ∧ (∀ x, w.frozen? ⟨g, x, none⟩ = false) ∧ SdX U (w.setCell ⟨g, j * 5 + 3, none⟩ (.int .i64 (es[j].left - 1))) sb ts t lf (es.set j (lessE es[j])) ck ∧ Only (fun k => ¬ U k) w (w.setCell ⟨g, j * 5 + 3, none⟩ (.int .i64 (es[j].left - 1))) ∧ (w.setCell ⟨g, j * 5 + 3, none⟩ (.int .i64 (es[j].left - 1))).cell? ⟨g, j * 5, none⟩ = some (.int .i64 es[j].num) ∧ (w.setCell ⟨g, j * 5 + 3, none⟩ (.int .i64 (es[j].left - 1))).cell? ⟨sb, 3, none⟩ = some (.slice (some ⟨g, 0, none⟩) es.length c) := by
  obtain ⟨g, c, rfl⟩ := h.formL (by omega)
  obtain ⟨h1, o1⟩ := h.putE rfl j hj 3 (by decide) (es[j].left - 1) (lessE es[j]) rfl
  have hj2 : j < (es.set j (lessE es[j])).length := by rw [List.length_set]; exact hj
  have q0 := (h1.e5 j hj2).c0
  rw [List.getElem_set_self] at q0
  exact ⟨g, c, rfl, h.e5 j hj, fun x => h.l.fz x, ⟨_, _, h1⟩, o1, q0, h1.c3⟩
set_option maxRecDepth 100000 in
set_option maxHeartbeats 4000000 in
theorem snext_ok (h : SdAt U w sb vt vl ts t lf es ck) (hck : ck < 1000000000000) (hT : 0 < ts.length ∧ ts.length ≤ 16) (ht : t < ts.length) (hlf : 0 ≤ lf ∧ lf ≤ 1000) (htk : ∀ x ∈ ts, 1 ≤ x.2 ∧ x.2 ≤ 1000) (hes : ∀ e ∈ es, -1000000000000 < e.left ∧ e.left ≤ 5) :
    Calls Try.prog 36 #[.pointer (some ⟨sb, 0, none⟩)] w fun e w' => e = .returned (.int .i64 (nextI es ck (turnD ts t lf)).2.2) ∧ SdX U w' sb ts (turnT ts t lf) (turnL ts t lf) (nextI es ck (turnD ts t lf)).1 (nextI es ck (turnD ts t lf)).2.1 ∧ Only (fun k => ¬ U k) w w' := by
  obtain ⟨d, hd⟩ : ∃ d, d = turnD ts t lf := ⟨_, rfl⟩
  obtain ⟨t1, ht1⟩ : ∃ t1, t1 = turnT ts t lf := ⟨_, rfl⟩
  obtain ⟨l1, hl1⟩ : ∃ l1, l1 = turnL ts t lf := ⟨_, rfl⟩
  rw [← hd, ← ht1, ← hl1]
  have HH := Vx.hid h
  obtain ⟨g, c, rfl⟩ := h.formT hT.1
  obtain ⟨T, hTT⟩ : ∃ T, T = ts.length := ⟨_, rfl⟩
  rw [← hTT] at h HH
  have c2 := h.c2
  have f2 := h.fz 2
  go_enter Try.func36, Try.ntmps36
  go_upto_if 9 with fail
  go_cut [] from 10 to 37 (fun wx => Hid (SdX U wx sb ts t1 (l1 + 1) es ck ∧ Only (fun k => ¬ U k) w wx))
  case first =>
    by_cases hz : lf = 0
    · subst hz
      have e1 : t1 = (t + 1) % T := by rw [ht1, hTT]; exact if_pos rfl
      have ht1l : t1 < T := by rw [e1]; exact Nat.mod_lt _ (by omega)
      have hte : ts.getD t1 (0, 0) ∈ ts := by
        have hx : t1 < ts.length := by omega
        simp [List.getD_eq_getElem?_getD, hx]
      have htb := htk _ hte
      have e2 : l1 = (ts.getD t1 (0, 0)).2 - 1 := by rw [hl1, e1, hTT]; unfold turnL; rw [if_pos rfl]
      have e3 : d = (ts.getD t1 (0, 0)).1 := by rw [hd, ht1]; rfl
      have hwt : IntKind.i64.wrap ((t : Int) + 1) = (t : Int) + 1 := by rw [IntKind.wrap_i64]; omega
      have htm : ((t : Int) + 1).tmod (T : Int) = (t1 : Int) := by rw [Int.tmod_eq_emod_of_nonneg (by omega), e1, Int.natCast_emod]; rfl
      have hwt1 : IntKind.i64.wrap (t1 : Int) = (t1 : Int) := by rw [IntKind.wrap_i64]; omega
      have hT0 : ((T : Int) == 0) = false := by rw [beq_eq_false_iff_ne]; omega
      have hT0' : ¬ (T : Int) = 0 := by omega
      have hT1 : ((T : Int) == -1) = false := by rw [beq_eq_false_iff_ne]; omega
      have c0 := h.c0
      have c1 := h.c1
      have f1 := h.fz 1
      have hidx : 0 ≤ (t1 : Int) ∧ (t1 : Int) < (T : Int) := by omega
      obtain ⟨k1, o1⟩ := h.putT t1
      have k1' := k1.quiet ((Only.refl (fun _ => False) _).drew)
      obtain ⟨w1, hw1⟩ : ∃ w1, w1 = (w.setCell ⟨sb, 1, none⟩ (.int .i64 (t1 : Int))).drew := ⟨_, rfl⟩
      have o1' : Only (fun k => ¬ U k) w w1 := by rw [hw1]; exact o1.trans (((Only.refl (fun _ => False) _).drew).mono (fun _ _ h => h.elim))
      rw [← hw1] at k1'
      have p0 := k1'.c0
      have p1 := k1'.c1
      have p2 := k1'.c2
      have pf := k1'.fz 2
      obtain ⟨u0, u1⟩ := k1'.turn t1 (by omega)
      obtain ⟨k2, o2⟩ := k1'.putF (ts.getD t1 (0, 0)).2
      have k2' := k2.quiet ((Only.refl (fun _ => False) _).drew)
      obtain ⟨w2, hw2⟩ : ∃ w2, w2 = (w1.setCell ⟨sb, 2, none⟩ (.int .i64 (ts.getD t1 (0, 0)).2)).drew := ⟨_, rfl⟩
      have o2' : Only (fun k => ¬ U k) w1 w2 := by rw [hw2]; exact o2.trans (((Only.refl (fun _ => False) _).drew).mono (fun _ _ h => h.elim))
      rw [← hw2] at k2'
      have HF : Hid (SdX U w2 sb ts t1 (l1 + 1) es ck ∧ Only (fun k => ¬ U k) w w2) := ⟨⟨_, _, by rw [e2, Int.sub_add_cancel]; exact k2'⟩, o1'.trans o2'⟩
      generalize (ts.getD t1 (0, 0)).2 = tk at u1 hw2
      generalize (ts.getD t1 (0, 0)).1 = tdm at u0
      clear h HH e1 e2 e3 hte htb k1 k1' k2 k2' o1 o1' o2 o2' ht1 hl1 hd hTT hT ht htk hes hlf hck
      go_upto_region 2 with fail
      go_region
      all_goals
        rw [← hw1]
        clear hw1 c0 c1 c2 f1 f2
        go_wp2_with fail
        go_region
        all_goals
          rw [← hw2]
          clear hw2 p0 p1 p2 pf u0 u1
          go_wp2_with fail
          go_meet
          exact HF
    · have e1 : t1 = t := by rw [ht1]; exact if_neg hz
      have e2 : l1 + 1 = lf := by rw [hl1]; unfold turnL; rw [if_neg hz]; omega
      have hz2 : (lf == 0) = false := beq_eq_false_iff_ne.2 hz
      have HF : Hid (SdX U w sb ts t1 (l1 + 1) es ck ∧ Only (fun k => ¬ U k) w w) := ⟨⟨_, _, by rw [e1, e2]; exact h⟩, Only.refl _ _⟩
      clear h HH e1 e2 ht1 hl1 hd hTT hT ht htk hes hlf hck
      go_wp2_with fail
      go_meet
      exact HF
  case rest =>
    have HLB : Hid (-1 ≤ l1 ∧ l1 ≤ 999) := by
      rw [hl1]
      unfold turnL
      show _ ∧ _
      split
      · have hx : (t + 1) % ts.length < ts.length := Nat.mod_lt _ hT.1
        have hm : ts.getD ((t + 1) % ts.length) (0, 0) ∈ ts := by simp [List.getD_eq_getElem?_getD, hx]
        have := htk _ hm
        omega
      · omega
    have HT1 : Hid (t1 < ts.length) := by
      rw [ht1]
      unfold turnT
      show _ < _
      split
      · exact Nat.mod_lt _ hT.1
      · exact ht
    have HD : Hid (d = (ts.getD t1 (0, 0)).1) := by show _ = _; rw [hd, ht1]; rfl
    have HES := Vx.hid hes
    have HCK := Vx.hid hck
    have HTL := Vx.hid hT
    have HTT := Vx.hid hTT
    obtain ⟨⟨vt2, vl2, hq⟩, hon⟩ := hcut.out
    clear h HH c2 f2 hes hck hT hTT ht hlf htk hd ht1 hl1 hcut
    obtain ⟨g2, cc, rfl⟩ := hq.formT HTL.out.1
    rw [← HTT.out] at hq
    obtain ⟨L0, hL0⟩ : ∃ L0, L0 = l1 + 1 := ⟨_, rfl⟩
    rw [← hL0] at hq
    have c2 := hq.c2
    have f2 := hq.fz 2
    obtain ⟨k3, o3⟩ := hq.putF l1
    obtain ⟨w3, hw3⟩ : ∃ w3, w3 = wc.setCell ⟨sb, 2, none⟩ (.int .i64 l1) := ⟨_, rfl⟩
    rw [← hw3] at k3 o3
    have hidx : 0 ≤ (t1 : Int) ∧ (t1 : Int) < (T : Int) := by have := HT1.out; have := HTT.out; omega
    have s0 := k3.c0
    have s1 := k3.c1
    obtain ⟨v0, v1⟩ := k3.turn t1 HT1.out
    rw [← HD.out] at v0
    have hwl : IntKind.i64.wrap (L0 - 1) = l1 := by have := HLB.out; rw [IntKind.wrap_i64]; omega
    clear hL0
    have HK3 := Vx.hid k3
    have HO3 := Vx.hid (hon.trans o3)
    clear hq hon k3 o3 v1
    go_upto_region 5 with fail
    rw [← hw3]
    clear hw3 c2 f2
    go_quiet (fail)
    obtain ⟨w4, hw4⟩ : ∃ w4, w4 = w3.drewN nq := ⟨_, rfl⟩
    have ho4 : Only (fun _ => False) w3 w4 := by rw [hw4]; exact (Only.refl _ _).drewN _
    have HK4 := Vx.hid (HK3.out.quiet ho4)
    have HO4 := Vx.hid (HO3.out.trans (ho4.mono (fun _ _ h => h.elim)))
    rw [← hw4]
    clear hw4 ho4 s0 s1 v0 HK3 HO3
    have HFI := Vx.hid (fun wv (hv : Only (fun _ => False) w4 wv) => sfirst_ok (HK4.out.quiet hv) d)
    go_wp2_with fail
    refine (HFI.out _ (Only.refl _ _)).mono ?_
    rintro e w5 ⟨rfl, ho5⟩
    have HK5 := Vx.hid (HK4.out.quiet ho5)
    have HO5 := Vx.hid (HO4.out.trans (ho5.mono (fun _ _ h => h.elim)))
    clear ho5 HFI HK4 HO4
    cases hb : bestF es d with
    | none =>
      have e1 : nextI es ck d = (es, ck, -1) := by unfold nextI; rw [hb]
      have HF : Hid (SdX U w5 sb ts t1 l1 (nextI es ck d).1 (nextI es ck d).2.1 ∧ (nextI es ck d).2.2 = -1) := by
        rw [e1]
        exact ⟨⟨_, _, HK5.out⟩, rfl⟩
      have e0 : idI (none : Option Nat) = -1 := rfl
      rw [e0]
      clear e0 e1 hb HK5
      go_wp2_with fail
      all_goals
        go_ret
        exact ⟨by rw [HF.out.2]; try rfl, HF.out.1, HO5.out⟩
    | some i =>
      have hil : i < es.length := bestN_lt es d es.length i hb
      have e0 : idI (some i) = (i : Int) := rfl
      rw [e0]
      have hin : ¬ (i : Int) < 0 := by omega
      have hig : 0 ≤ (i : Int) := by omega
      obtain ⟨g3, c3, hv3, hE5, hfz, hX, hXO, hXn, hX3⟩ := HK5.out.told i hil
      have hes := HES.out es[i] (List.getElem_mem hil)
      by_cases hz : es[i].left = 0
      · have s3 := HK5.out.c3
        rw [hv3] at s3
        have b3 := hE5.c3
        have hix : 0 ≤ (i : Int) ∧ (i : Int) < (es.length : Int) := by omega
        have HLA := Vx.hid (slast_ok HK5.out i hil HCK.out)
        obtain ⟨es1, he1⟩ : ∃ es1, es1 = es.set i (lastE ck es[i]) := ⟨_, rfl⟩
        have HNX : Hid (nextI es ck d = match bestF es1 d with
          | none => (es1, ck + 1, -1)
          | some j => (es1.set j (lessE (es1.getD j .df)), ck + 1, (es1.getD j .df).num)) := by
          show _ = _
          unfold nextI
          rw [hb]
          dsimp only
          rw [getD_et hil, if_pos hz, ← he1]
        have HES1 : Hid (∀ e ∈ es1, -1000000000000 < e.left ∧ e.left ≤ 5) := fun e he => by
          rw [he1] at he
          rcases List.mem_or_eq_of_mem_set he with h9 | h9
          · exact HES.out e h9
          · rw [h9]
            show -1000000000000 < (5 : Int) ∧ (5 : Int) ≤ 5
            omega
        rw [← he1] at HLA
        rw [hz] at b3
        obtain ⟨NE, hNE⟩ : ∃ NE, NE = es.length := ⟨_, rfl⟩
        rw [← hNE] at s3 hix
        clear e0 hb HK5 hE5 hfz hX hXO hXn hX3 hes hil he1 hz hNE hv3
        go_wp2_with fail
        refine HLA.out.mono ?_
        rintro e w6 ⟨⟨v, rfl⟩, ⟨vt6, vl6, hx6⟩, ho6⟩
        have HX6 := Vx.hid hx6
        have HO6 := Vx.hid (HO5.out.trans ho6)
        have HF6 := Vx.hid (sfirst_ok hx6 d)
        clear hx6 ho6 s3 b3 HLA
        go_wp2_with fail
        refine HF6.out.mono ?_
        rintro e w7 ⟨rfl, ho7⟩
        have HK7 := Vx.hid (HX6.out.quiet ho7)
        have HO7 := Vx.hid (HO6.out.trans (ho7.mono (fun _ _ h => h.elim)))
        clear ho7 HF6 HX6
        cases hb1 : bestF es1 d with
        | none =>
          rw [hb1] at HNX
          have HF : Hid (SdX U w7 sb ts t1 l1 (nextI es ck d).1 (nextI es ck d).2.1 ∧ (nextI es ck d).2.2 = -1) := by
            rw [HNX.out]
            exact ⟨⟨_, _, HK7.out⟩, rfl⟩
          have e0 : idI (none : Option Nat) = -1 := rfl
          rw [e0]
          clear e0 hb1 HK7
          go_wp2_with fail
          all_goals
            go_ret
            exact ⟨by rw [HF.out.2]; try rfl, HF.out.1, HO7.out⟩
        | some j =>
          rw [hb1] at HNX
          dsimp only at HNX
          have hjl : j < es1.length := bestN_lt es1 d es1.length j hb1
          have e0 : idI (some j) = (j : Int) := rfl
          rw [e0]
          have hjn : ¬ (j : Int) < 0 := by omega
          obtain ⟨g8, c8, hv8, hE8, hfz8, hX8, hXO8, hXn8, hX38⟩ := HK7.out.told j hjl
          have hes8 := HES1.out es1[j] (List.getElem_mem hjl)
          obtain ⟨N8, hN8⟩ : ∃ N8, N8 = es1.length := ⟨_, rfl⟩
          rw [← hN8] at hv8 hX38
          subst hv8
          have s8 := HK7.out.c3
          have hjx : 0 ≤ (j : Int) ∧ (j : Int) < (N8 : Int) := by omega
          have b8 := hE8.c3
          have z8 := hfz8 (j * 5 + 3)
          have hwl8 : IntKind.i64.wrap (es1[j].left - 1) = es1[j].left - 1 := by rw [IntKind.wrap_i64]; omega
          obtain ⟨w8, hw8⟩ : ∃ w8, w8 = w7.setCell ⟨g8, j * 5 + 3, none⟩ (.int .i64 (es1[j].left - 1)) := ⟨_, rfl⟩
          rw [← hw8] at hX8 hXO8 hXn8 hX38
          have HF : Hid (SdX U w8 sb ts t1 l1 (nextI es ck d).1 (nextI es ck d).2.1 ∧ Only (fun k => ¬ U k) w w8 ∧ (nextI es ck d).2.2 = es1[j].num) := by
            rw [HNX.out, getD_et hjl]
            exact ⟨hX8, HO7.out.trans hXO8, rfl⟩
          generalize es1[j].num = xn at hXn8 HF
          generalize es1[j].left = xl at b8 hw8 hwl8 hes8
          clear e0 hb1 HK7 hE8 hfz8 hX8 hXO8 hes8 hN8 hjl HNX
          go_upto_region 13 with fail
          rw [← hw8]
          clear hw8 b8 z8 s8
          go_wp2_with fail
          all_goals
            go_ret
            exact ⟨by rw [HF.out.2.2]; try rfl, HF.out.1, HF.out.2.1⟩
      · have e1 : nextI es ck d = (es.set i (lessE es[i]), ck, es[i].num) := by
          unfold nextI
          rw [hb]
          dsimp only
          rw [getD_et hil, if_neg hz]
        obtain ⟨NE, hNE⟩ : ∃ NE, NE = es.length := ⟨_, rfl⟩
        rw [← hNE] at hv3 hX3
        subst hv3
        have s3 := HK5.out.c3
        have hix : 0 ≤ (i : Int) ∧ (i : Int) < (NE : Int) := by omega
        have b3 := hE5.c3
        have z3 := hfz (i * 5 + 3)
        have hwl3 : IntKind.i64.wrap (es[i].left - 1) = es[i].left - 1 := by rw [IntKind.wrap_i64]; omega
        have hz2 : (es[i].left == 0) = false := beq_eq_false_iff_ne.2 hz
        obtain ⟨w6, hw6⟩ : ∃ w6, w6 = w5.setCell ⟨g3, i * 5 + 3, none⟩ (.int .i64 (es[i].left - 1)) := ⟨_, rfl⟩
        rw [← hw6] at hX hXO hXn hX3
        have HF : Hid (SdX U w6 sb ts t1 l1 (nextI es ck d).1 (nextI es ck d).2.1 ∧ Only (fun k => ¬ U k) w w6 ∧ (nextI es ck d).2.2 = es[i].num) := by
          rw [e1]
          exact ⟨hX, HO5.out.trans hXO, rfl⟩
        generalize es[i].num = xn at hXn HF
        generalize es[i].left = xl at b3 hw6 hwl3 hz hz2
        clear e0 e1 hb HK5 hE5 hfz hX hXO hes hNE hil
        go_upto_region 13 with fail
        rw [← hw6]
        clear hw6 b3 z3 s3
        go_wp2_with fail
        all_goals
          go_ret
          exact ⟨by rw [HF.out.2.2]; try rfl, HF.out.1, HF.out.2.1⟩
end Go.Proofs.Ytgncabcnefhkiaa

/- Chapter 9, the program's scheduler: join, leave, rejoin. -/
import Derived.Test.YtgncabcnefhkiaaSX5
namespace Go.Proofs.Ytgncabcnefhkiaa
open Go.ChangeShapes Go.WideShapes Go.ChangeAt Go.RowKit
open Go.Vx
set_option linter.unusedVariables false
variable {U V S : Nat → Prop} {w w2 : World} {xb mb : Nat} {D : DataW Value} {G : Int → Nat} {vt : Value} {vq : List Value} {ts : List (Int × Int)} {t : Nat} {lf : Int} {es : List Et} {Q : Nat → List Int} {ck : Nat}

theorem XsAt.putRL (h : XsAt U w xb mb D G vt vq ts t lf es Q) (hnd : (es.map (·.num)).Nodup) {i : Nat} (hi : i < es.length) (y : Et) (hy : y.num = es[i].num) (hd : y.dom = es[i].dom) (hp : y.prio = es[i].prio) {b : Bool} (hb : decide (y.came ≠ 0) = b) {l : Int} (hl : y.left = l) :
    XsAt U ((w.setCell ⟨G es[i].num, 3, none⟩ (.bool b)).setCell ⟨G es[i].num, 4, none⟩ (.int .i64 l)) xb mb D G vt vq ts t lf (es.set i y) Q ∧ Only (fun k => ¬ U k) w ((w.setCell ⟨G es[i].num, 3, none⟩ (.bool b)).setCell ⟨G es[i].num, 4, none⟩ (.int .i64 l)) := by
  refine h.setR hnd hi y hy ?_ ?_
  · rw [hy]
    exact Only.setCell (S := fun k => k = G es[i].num) (Only.setCell (S := fun k => k = G es[i].num) (Only.refl _ w) (Or.inl rfl) _) (Or.inl rfl) _
  · have h1 := heap_setCell_same _ _ 3 _ _ (.bool b) (h.rn _ (List.getElem_mem hi))
    have h2 := heap_setCell_same _ _ 4 _ _ (.int .i64 l) h1
    rw [hy, h2]
    subst hb
    subst hl
    have e : rnC y = ((rnC es[i]).setIfInBounds 3 (.bool (decide (y.came ≠ 0)))).setIfInBounds 4 (.int .i64 y.left) := by
      unfold rnC
      rw [hy, hd, hp]
      rfl
    rw [e]
theorem ok_nat (h : SWf es ck) {i : Nat} (hi : i < es.length) : ∃ d p : Nat, es[i].dom = (d : Int) ∧ es[i].prio = (p : Int) ∧ d < 8 ∧ p < 8 := by
  have := h.ok _ (List.getElem_mem hi)
  exact ⟨es[i].dom.toNat, es[i].prio.toNat, by omega, by omega, by omega, by omega⟩
theorem XgAt.qlen (hq : QOk es Q) (h : XsAt U w xb mb D G vt vq ts t lf es Q) (j : Nat) (hj : j < 64) : (Q j).length ≤ 1000000 := by
  have := (hq j hj).len
  have := h.nl
  omega
theorem jq (d p j : Nat) (hd : d < 8) (hp : p < 8) : (((d : Int) = ((j / 8 : Nat) : Int)) ∧ ((p : Int) = ((j % 8 : Nat) : Int))) ↔ j = d * 8 + p := by
  constructor
  · rintro ⟨h1, h2⟩; omega
  · rintro rfl; omega
/-- The queues behind a join. -/
theorem QOk.join (hq : QOk es Q) (hw : SWf es ck) {i d p : Nat} (hi : i < es.length) (y : Et) (h0 : es[i].came = 0) (hd : y.dom = (d : Int)) (hp : y.prio = (p : Int)) (hd8 : d < 8) (hp8 : p < 8) (hc : y.came = (ck : Int) + 1) : QOk (es.set i y) (fun j => if j = d * 8 + p then Q (d * 8 + p) ++ [y.num] else Q j) := by
  intro j hj
  have h1 := NQ.join hi y h0 (by omega) (fun e he => by have := hw.ok e he; omega) (hq j hj)
  by_cases e : j = d * 8 + p
  · have := (jq d p j hd8 hp8).2 e
    rw [hd, hp, if_pos this] at h1
    show NQ _ _ _ (if j = d * 8 + p then _ else _)
    rw [if_pos e, ← e]
    exact h1
  · have : ¬ _ := fun h => e ((jq d p j hd8 hp8).1 h)
    rw [hd, hp, if_neg this, List.append_nil] at h1
    show NQ _ _ _ (if j = d * 8 + p then _ else _)
    rw [if_neg e]
    exact h1
/-- The queues behind a leave. -/
theorem QOk.leave (hq : QOk es Q) (hw : SWf es ck) {i d p : Nat} (hi : i < es.length) (y : Et) (hd : es[i].dom = (d : Int)) (hp : es[i].prio = (p : Int)) (hd8 : d < 8) (hp8 : p < 8) (hc : y.came = 0) : QOk (es.set i y) (fun j => if j = d * 8 + p then (Q (d * 8 + p)).filter (fun n => decide (n ≠ es[i].num)) else Q j) := by
  intro j hj
  have h1 := NQ.off hw.nd hi y hc (hq j hj)
  show NQ _ _ _ (if j = d * 8 + p then _ else _)
  by_cases e : j = d * 8 + p
  · rw [if_pos e, ← e]
    exact h1
  · rw [if_neg e]
    have e2 : (Q j).filter (fun n => decide (n ≠ es[i].num)) = Q j := by
      rw [List.filter_eq_self]
      intro a ha
      refine decide_eq_true (fun h9 => ?_)
      obtain ⟨f, hf, f1, f2, f3, _⟩ := (hq j hj).mem.1 ha
      obtain ⟨k, hk, rfl⟩ := List.getElem_of_mem hf
      have hki : k = i := by
        by_cases hki : k = i
        · exact hki
        · exact absurd (f1.trans h9) (num_ne hw.nd hk hi hki)
      subst hki
      rw [hd] at f2
      rw [hp] at f3
      exact e ((jq d p j hd8 hp8).1 ⟨f2, f3⟩)
    rw [e2] at h1
    exact h1
def offE (e : Et) : Et := { e with left := 0, came := 0 }
set_option maxHeartbeats 2000000 in
theorem xjoin_ok (h : XgAt U w xb G ts t lf es ck) {n : Int} {i : Nat} (hi : fnF es n = some i) (h0 : (es.getD i .df).came = 0) : Calls Try.prog 26 #[.pointer (some ⟨xb, 0, none⟩), .pointer (some ⟨G n, 0, none⟩)] w fun e w' => (∃ x, e = .returned x) ∧ XgAt U w' xb G ts t lf (es.set i (lastE ck (es.getD i .df))) (ck + 1) ∧ Only (fun k => ¬ U k) w w' := by
  obtain ⟨hw, hts, mb, D, vt, vq, Q, hq, hx⟩ := h
  obtain ⟨hl, hn, r5, _⟩ := hx.r5 hi
  rw [getD_et hl] at h0 ⊢
  obtain ⟨d, p, ed, ep, hd8, hp8⟩ := ok_nat hw hl
  have hko := hw.ok _ (List.getElem_mem hl)
  have hj : d * 8 + p < 64 := by omega
  obtain ⟨h1, o1⟩ := hx.putRL hw.nd hl (lastE ck es[i]) rfl rfl rfl (b := true) (decide_eq_true (by show (ck : Int) + 1 ≠ 0; omega)) (l := 5) rfl
  rw [hn] at h1 o1
  have a3 := r5.c3
  have a4 := r5.c4
  have f3 := r5.fz 3
  have f4 := r5.fz 4
  obtain ⟨g, hg⟩ : ∃ g, g = G n := ⟨_, rfl⟩
  rw [← hg] at h1 o1 a3 a4 f3 f4 ⊢
  obtain ⟨w1, hw1⟩ : ∃ w1, w1 = (w.setCell ⟨g, 3, none⟩ (.bool true)).setCell ⟨g, 4, none⟩ (.int .i64 5) := ⟨_, rfl⟩
  rw [← hw1] at h1 o1
  have hl2 : i < (es.set i (lastE ck es[i])).length := by rw [List.length_set]; exact hl
  have hi2 : fnF (es.set i (lastE ck es[i])) n = some i := by rw [fnF_set hl (lastE ck es[i]) rfl]; exact hi
  obtain ⟨_, _, s5, _⟩ := h1.r5 hi2
  have b1 := s5.c1
  have b2 := s5.c2
  rw [List.getElem_set_self] at b1 b2
  have b1' : w1.cell? ⟨g, 1, none⟩ = some (.int .i64 (d : Int)) := by rw [hg, ← ed]; exact b1
  have b2' : w1.cell? ⟨g, 2, none⟩ = some (.int .i64 (p : Int)) := by rw [hg, ← ep]; exact b2
  have HQ := Vx.hid (queueOf_ok (xb := xb) w1 g d p hd8 hp8 b1' b2')
  have hql := XgAt.qlen hq hx _ hj
  have hsw : SWf (es.set i (lastE ck es[i])) (ck + 1) := hw.put hl es[i].prio ⟨hko.2.2.2.1, hko.2.2.2.2.1⟩
  have HQO := Vx.hid (hq.join hw hl (lastE ck es[i]) h0 ed ep hd8 hp8 rfl)
  have HK : Hid (∀ wx, Only (fun _ => False) w1 wx → Calls Try.prog 52 #[.pointer (some ⟨xb, 4 + (d * 8 + p), none⟩), .pointer (some ⟨g, 0, none⟩)] wx fun e w' => (∃ x, e = .returned x) ∧ XgAt U w' xb G ts t lf (es.set i (lastE ck es[i])) (ck + 1) ∧ Only (fun k => ¬ U k) w w') := by
    intro wx ho
    have hx2 := h1.quiet ho
    refine (qjoin_ok (hx2.queue _ hj hql) g).mono ?_
    rintro e w' ⟨he, hT⟩
    have e9 : (Q (d * 8 + p)).map G ++ [g] = (Q (d * 8 + p) ++ [(lastE ck es[i]).num]).map G := by
      rw [List.map_append, hg]
      show _ = _ ++ [G es[i].num]
      rw [hn]
    rw [e9] at hT
    obtain ⟨⟨vq', h3⟩, o3⟩ := hx2.setQ hj hT
    exact ⟨he, ⟨hsw, hts, _, _, _, _, _, HQO.out, h3⟩, (o1.trans (ho.mono (fun _ _ h => h.elim))).trans o3⟩
  clear hx h1 o1 r5 s5 b1 b2 b1' b2' hi hi2 hl2 hn hg hw hts hq hko hsw HQO hql h0 ed ep
  go_enter Try.func26, Try.ntmps26
  go_upto_region 1 with fail
  rw [← hw1]
  clear hw1
  go_wp2_with fail
  refine HQ.out.mono ?_
  rintro e wx ⟨rfl, ho⟩
  go_wp2_with fail
  refine (HK.out _ ho).mono ?_
  rintro e w' ⟨⟨x, rfl⟩, hr⟩
  go_wp2_with fail
  all_goals
    go_end0
    exact ⟨⟨_, rfl⟩, hr⟩
set_option maxHeartbeats 2000000 in
theorem xleave_ok (h : XgAt U w xb G ts t lf es ck) {n : Int} {i : Nat} (hi : fnF es n = some i) : Calls Try.prog 49 #[.pointer (some ⟨xb, 0, none⟩), .pointer (some ⟨G n, 0, none⟩)] w fun e w' => (∃ x, e = .returned x) ∧ XgAt U w' xb G ts t lf (es.set i (offE (es.getD i .df))) ck ∧ Only (fun k => ¬ U k) w w' := by
  obtain ⟨hw, hts, mb, D, vt, vq, Q, hq, hx⟩ := h
  obtain ⟨hl, hn, r5, _⟩ := hx.r5 hi
  rw [getD_et hl]
  obtain ⟨d, p, ed, ep, hd8, hp8⟩ := ok_nat hw hl
  have hko := hw.ok _ (List.getElem_mem hl)
  have hj : d * 8 + p < 64 := by omega
  obtain ⟨h1, o1⟩ := hx.putRL hw.nd hl (offE es[i]) rfl rfl rfl (b := false) rfl (l := 0) rfl
  rw [hn] at h1 o1
  have a3 := r5.c3
  have a4 := r5.c4
  have f3 := r5.fz 3
  have f4 := r5.fz 4
  obtain ⟨g, hg⟩ : ∃ g, g = G n := ⟨_, rfl⟩
  rw [← hg] at h1 o1 a3 a4 f3 f4 ⊢
  obtain ⟨w1, hw1⟩ : ∃ w1, w1 = (w.setCell ⟨g, 3, none⟩ (.bool false)).setCell ⟨g, 4, none⟩ (.int .i64 0) := ⟨_, rfl⟩
  rw [← hw1] at h1 o1
  have hl2 : i < (es.set i (offE es[i])).length := by rw [List.length_set]; exact hl
  have hi2 : fnF (es.set i (offE es[i])) n = some i := by rw [fnF_set hl (offE es[i]) rfl]; exact hi
  obtain ⟨_, _, s5, _⟩ := h1.r5 hi2
  have b1 := s5.c1
  have b2 := s5.c2
  rw [List.getElem_set_self] at b1 b2
  have b1' : w1.cell? ⟨g, 1, none⟩ = some (.int .i64 (d : Int)) := by rw [hg, ← ed]; exact b1
  have b2' : w1.cell? ⟨g, 2, none⟩ = some (.int .i64 (p : Int)) := by rw [hg, ← ep]; exact b2
  have HQ := Vx.hid (queueOf_ok (xb := xb) w1 g d p hd8 hp8 b1' b2')
  have hql := XgAt.qlen hq hx _ hj
  have hsw : SWf (es.set i (offE es[i])) ck := hw.off hl (offE es[i]) rfl rfl ⟨hko.2.2.2.1, hko.2.2.2.2.1⟩ rfl rfl
  have HQO := Vx.hid (hq.leave hw hl (offE es[i]) ed ep hd8 hp8 rfl)
  have HK : Hid (∀ wx, Only (fun _ => False) w1 wx → Calls Try.prog 58 #[.pointer (some ⟨xb, 4 + (d * 8 + p), none⟩), .pointer (some ⟨g, 0, none⟩)] wx fun e w' => (∃ x, e = .returned x) ∧ XgAt U w' xb G ts t lf (es.set i (offE es[i])) ck ∧ Only (fun k => ¬ U k) w w') := by
    intro wx ho
    have hx2 := h1.quiet ho
    have hmem : ∀ x ∈ Q (d * 8 + p), ∃ e ∈ es, e.num = x := fun x hx9 => by
      obtain ⟨e, he, h9, _⟩ := (hq _ hj).mem.1 hx9
      exact ⟨e, he, h9⟩
    have hinj : ∀ x ∈ Q (d * 8 + p), ∀ y ∈ Q (d * 8 + p), G x = G y → x = y := fun x hx9 y hy9 h9 => by
      obtain ⟨e, he, rfl⟩ := hmem x hx9
      obtain ⟨f, hf, rfl⟩ := hmem y hy9
      exact hx.gi e he f hf h9
    have hinn : ∀ x ∈ Q (d * 8 + p), G x = g → x = n := fun x hx9 h9 => by
      obtain ⟨e, he, rfl⟩ := hmem x hx9
      rw [← hn]
      exact hx.gi e he _ (List.getElem_mem hl) (by rw [h9, hg, hn])
    have hnd : ((Q (d * 8 + p)).map G).Nodup := by
      have h8 := (hq _ hj).nodup hw.nd
      rw [List.Nodup, List.pairwise_map]
      exact List.Pairwise.imp_of_mem (fun {a b} ha hb hab h9 => hab (hinj a ha b hb h9)) h8
    have hlv0 : ∀ e ∈ es, Lv wx (G e.num) := fun e he => by
      obtain ⟨k, hk, rfl⟩ := List.getElem_of_mem he
      have hk2 : k < (es.set i (offE es[i])).length := by rw [List.length_set]; exact hk
      have h8 := hx2.rn _ (List.getElem_mem hk2)
      have h9 : (es.set i (offE es[i]))[k].num = es[k].num := by
        rw [List.getElem_set]
        split
        · rename_i e9; subst e9; rfl
        · rfl
      rw [h9] at h8
      exact ⟨_, _, h8⟩
    have hlv : ∀ x ∈ (Q (d * 8 + p)).map G, Lv wx x := fun x hx9 => by
      obtain ⟨y, hy, rfl⟩ := List.mem_map.1 hx9
      obtain ⟨e, he, rfl⟩ := hmem y hy
      exact hlv0 e he
    have hlg : Lv wx g := by
      have := hlv0 _ (List.getElem_mem hl)
      rw [hn, ← hg] at this
      exact this
    refine (qleave_ok (hx2.queue _ hj hql) hnd hlv hlg).mono ?_
    rintro e w' ⟨he, hT⟩
    have e9 : ((Q (d * 8 + p)).map G).filter (fun x => decide (x ≠ g)) = ((Q (d * 8 + p)).filter (fun x => decide (x ≠ es[i].num))).map G := by
      rw [List.filter_map]
      congr 1
      apply List.filter_congr
      intro a ha
      show decide (G a ≠ g) = decide (a ≠ es[i].num)
      rw [hn]
      by_cases h9 : a = n
      · rw [h9, ← hg]; simp
      · have : ¬ G a = g := fun h8 => h9 (hinn a ha h8)
        simp [h9, this]
    rw [e9] at hT
    obtain ⟨⟨vq', h3⟩, o3⟩ := hx2.setQ hj hT
    exact ⟨he, ⟨hsw, hts, _, _, _, _, _, HQO.out, h3⟩, (o1.trans (ho.mono (fun _ _ h => h.elim))).trans o3⟩
  clear hx h1 o1 r5 s5 b1 b2 b1' b2' hi hi2 hl2 hn hg hw hts hq hko hsw HQO hql ed ep
  go_enter Try.func49, Try.ntmps49
  go_upto_region 1 with fail
  rw [← hw1]
  clear hw1
  go_wp2_with fail
  refine HQ.out.mono ?_
  rintro e wx ⟨rfl, ho⟩
  go_wp2_with fail
  refine (HK.out _ ho).mono ?_
  rintro e w' ⟨⟨x, rfl⟩, hr⟩
  go_wp2_with fail
  all_goals
    go_end0
    exact ⟨⟨_, rfl⟩, hr⟩
set_option maxHeartbeats 2000000 in
theorem xrejoin_ok (h : XgAt U w xb G ts t lf es ck) {n : Int} {i : Nat} (hi : fnF es n = some i) : Calls Try.prog 48 #[.pointer (some ⟨xb, 0, none⟩), .pointer (some ⟨G n, 0, none⟩)] w fun e w' => (∃ x, e = .returned x) ∧ XgAt U w' xb G ts t lf (es.set i (lastE ck (es.getD i .df))) (ck + 1) ∧ Only (fun k => ¬ U k) w w' := by
  obtain ⟨hl, hnn⟩ := fnF_at hi
  have H1 := Vx.hid (xleave_ok h hi)
  have hl2 : i < (es.set i (offE (es.getD i .df))).length := by rw [List.length_set]; exact hl
  have hi2 : fnF (es.set i (offE (es.getD i .df))) n = some i := by
    rw [getD_et hl, fnF_set hl (offE es[i]) rfl]; exact hi
  have e1 : (es.set i (offE (es.getD i .df))).getD i .df = offE (es.getD i .df) := by
    rw [getD_et hl2, List.getElem_set_self]
  have e2 : (es.set i (offE (es.getD i .df))).set i (lastE ck (offE (es.getD i .df))) = es.set i (lastE ck (es.getD i .df)) := by
    rw [List.set_set]; rfl
  have H2 : Hid (∀ wx, XgAt U wx xb G ts t lf (es.set i (offE (es.getD i .df))) ck → Calls Try.prog 26 #[.pointer (some ⟨xb, 0, none⟩), .pointer (some ⟨G n, 0, none⟩)] wx fun e w' => (∃ x, e = .returned x) ∧ XgAt U w' xb G ts t lf (es.set i (lastE ck (es.getD i .df))) (ck + 1) ∧ Only (fun k => ¬ U k) wx w') := by
    intro wx hx
    have h9 := xjoin_ok hx hi2 (by rw [e1]; rfl)
    rw [e1, e2] at h9
    exact h9
  clear h hi hi2 hnn hl hl2 e1 e2
  generalize G n = g at H1 H2 ⊢
  go_enter Try.func48, Try.ntmps48
  go_wp2_with fail
  refine H1.out.mono ?_
  rintro e wx ⟨⟨x, rfl⟩, hx, ho⟩
  go_wp2_with fail
  refine (H2.out _ hx).mono ?_
  rintro e w' ⟨⟨x, rfl⟩, hr, ho2⟩
  go_wp2_with fail
  all_goals
    go_end0
    exact ⟨⟨_, rfl⟩, hr, ho.trans ho2⟩
end Go.Proofs.Ytgncabcnefhkiaa

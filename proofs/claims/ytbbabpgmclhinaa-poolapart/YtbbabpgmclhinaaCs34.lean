import Derived.Test.YtbbabpgmclhinaaCs33
/- Chapter 8, the program's pool: an untyped more, less, its mark; a page put anew. -/
namespace Go.Proofs.Ytbbabpgmclhinaa
open Go.ChangeShapes Go.WideShapes Go.ChangeAt Go.RowKit
open Go.Vx
set_option linter.unusedVariables false
variable {U V S : Nat → Prop} {w w2 w3 : World} {xb pb mb gb r N cnt cnt2 : Nat} {P : Int} {D D2 : DataW Value} {os rs os2 rs2 : List (Int × Int)}

theorem key_once (hn : (rs.map (·.1)).Nodup) {a b : Int × Int} (ha : a ∈ rs) (hb : b ∈ rs) (h : a.1 = b.1) : a = b := by
  obtain ⟨i, hi, rfl⟩ := List.getElem_of_mem ha
  obtain ⟨j, hj, rfl⟩ := List.getElem_of_mem hb
  have h1 := List.pairwise_iff_getElem.1 hn
  rcases Nat.lt_trichotomy i j with h2 | h2 | h2
  · exact absurd (by rw [List.getElem_map, List.getElem_map]; exact h) (h1 i j (by simpa using hi) (by simpa using hj) h2)
  · subst h2; rfl
  · exact absurd (by rw [List.getElem_map, List.getElem_map]; exact h.symm) (h1 j i (by simpa using hj) (by simpa using hi) h2)
theorem XqAt.hk (h : XqAt U w xb mb gb D N os rs) (k : Int) (hk : I64 k) : Maps.has D (.int .i64 k) = true ↔ k ∈ rs.map (·.1) := by
  rw [h.hs k hk]
  exact ⟨mem_rg, fun hm => by obtain ⟨i, hi⟩ := rg_mem hm; rw [hi]; rfl⟩
theorem XqAt.hv (h : XqAt U w xb mb gb D N os rs) (hn : (rs.map (·.1)).Nodup) (r : Int × Int) (hr : r ∈ rs) (z : DataW Value) : D.atKey (.int .i64 r.1) z = .lit (.int .i64 r.2) := by
  obtain ⟨i, hi⟩ := rg_mem (List.mem_map.2 ⟨r, hr, rfl⟩)
  rw [h.ha r.1 i z hi]
  obtain ⟨hl, hE⟩ := rgF_at hi
  rw [getD_two hl, key_once hn (List.getElem_mem hl) hr hE]
/-- The map anew. -/
theorem XqAt.remap (h : XqAt U w xb mb gb D N os rs) (hn2 : (rs2.map (·.1)).Nodup) (hi2 : ∀ r ∈ rs2, I64 r.1) {n : Nat} (hm : w3.ownsMap Try.prog 3 RI mb n D2) (hgr : w.grownBy w3 (some mb))
    (hk : ∀ k, I64 k → (Maps.has D2 (.int .i64 k) = true ↔ k ∈ rs2.map (·.1))) (hv : ∀ r ∈ rs2, ∀ z, D2.atKey (.int .i64 r.1) z = .lit (.int .i64 r.2)) : XqAt U w3 xb mb gb D2 N os rs2 ∧ Only (fun j => ¬ U j) w w3 := by
  have ho := mi_grown hgr
  obtain ⟨cur, hc⟩ := own_tag h.pg (k := gb) rfl
  have hks := mi_keys (ks := rs2.map (·.1)) hm (fun k hki hh => (hk k hki).1 hh) (fun k hm2 => by
    obtain ⟨r, hr, rfl⟩ := List.mem_map.1 hm2
    exact (hk _ (hi2 r hr)).2 hm2) hn2
  have hm2 : w3.ownsMap Try.prog 3 RI mb rs2.length D2 := by
    have := mi_exact hm
    rw [hks.2, List.length_map] at this
    exact this
  refine ⟨⟨Only.keep ho h.x (fun e => mi_ne h.x h.m e), hm2, fun k hki => ?_, fun k i z hi => ?_, h.pg.kept ho (fun j hj => by
    have : gb = j := by simpa [Value.ownBlock] using hj
    rw [← this]; exact fun e => mi_ne hc h.m e), h.ux, h.um, h.ug, fun k hu => Nat.lt_of_lt_of_le (h.low k hu) ho.size⟩, ho.mono (fun j _ hj => by subst hj; exact h.um)⟩
  · cases hs : rgF rs2 k with
    | some i =>
      have : k ∈ rs2.map (·.1) := mem_rg (by rw [hs]; rfl)
      exact (hk k hki).2 this
    | none =>
      cases hh : Maps.has D2 (.int .i64 k) with
      | false => rfl
      | true =>
        obtain ⟨i, hi⟩ := rg_mem ((hk k hki).1 hh)
        rw [hs] at hi; cases hi
  · obtain ⟨hl, hE⟩ := rgF_at hi
    rw [getD_two hl, ← hE]
    exact hv _ (List.getElem_mem hl) z
theorem lit_ne {k n : Int} (h : k ≠ n) : (Lit.int .i64 k) ≠ (Lit.int .i64 n) := fun e => h (by injection e)
theorem mi_isKey {n : Int} (h : I64 n) : WideAt.IsKeyLit (.int .i64 n) := mi_keyed.key (mi_key h)
theorem PWf.ri (hw : PWf P os rs) : ∀ r ∈ rs, I64 r.1 := fun r hr => by have := (hw.rk r hr).1; unfold RgOk at this; unfold I64; omega
theorem XqAt.added (h : XqAt U w xb mb gb D N os rs) (hrn : (rs.map (·.1)).Nodup) (hri : ∀ r ∈ rs, I64 r.1) {n y : Int} (hni : I64 n) (hno : n ∉ rs.map (·.1)) {m : Nat} (hm : w3.ownsMap Try.prog 3 RI mb m (D.put (.int .i64 n) (.lit (.int .i64 y)))) (hgr : w.grownBy w3 (some mb)) : XqAt U w3 xb mb gb (D.put (.int .i64 n) (.lit (.int .i64 y))) N os (rs ++ [(n, y)]) ∧ Only (fun j => ¬ U j) w w3 := by
  refine h.remap ?_ ?_ hm hgr (fun k hk => ?_) (fun r hr z => ?_)
  · rw [List.map_append, List.nodup_append]
    refine ⟨hrn, by simp, fun a ha b hb => ?_⟩
    simp only [List.map_cons, List.map_nil, List.mem_singleton] at hb
    rw [hb]
    exact fun e => hno (e ▸ ha)
  · intro r hr
    rcases List.mem_append.1 hr with hr | hr
    · exact hri r hr
    · rw [List.mem_singleton] at hr; rw [hr]; exact hni
  · rw [List.map_append, List.mem_append]
    by_cases he : k = n
    · subst he
      rw [Maps.has_put_same h.m.isMap (mi_isKey hni)]
      simp
    · rw [Maps.has_put_other (lit_ne he), h.hk k hk]
      simp [he]
  · rcases List.mem_append.1 hr with hr | hr
    · have : r.1 ≠ n := fun e => hno (List.mem_map.2 ⟨r, hr, e⟩)
      rw [Maps.atKey_put_other (lit_ne this)]
      exact h.hv hrn r hr z
    · rw [List.mem_singleton] at hr
      subst hr
      exact Maps.atKey_put_same h.m.isMap (mi_isKey hni) _ z
theorem set_keys {i : Nat} {n y : Int} (hi : i < rs.length) (he : rs[i].1 = n) : (rs.set i (n, y)).map (·.1) = rs.map (·.1) := by
  apply List.ext_getElem
  · simp
  · intro k h1 h2
    rw [List.getElem_map, List.getElem_map, List.getElem_set]
    split
    · rename_i e; subst e; exact he.symm
    · rfl
theorem XqAt.marked (h : XqAt U w xb mb gb D N os rs) (hrn : (rs.map (·.1)).Nodup) (hri : ∀ r ∈ rs, I64 r.1) {n y : Int} {i : Nat} (hi : rgF rs n = some i) {m : Nat} (hm : w3.ownsMap Try.prog 3 RI mb m (D.put (.int .i64 n) (.lit (.int .i64 y)))) (hgr : w.grownBy w3 (some mb)) : XqAt U w3 xb mb gb (D.put (.int .i64 n) (.lit (.int .i64 y))) N os (rs.set i (n, y)) ∧ Only (fun j => ¬ U j) w w3 := by
  obtain ⟨hl, hE⟩ := rgF_at hi
  have hni : I64 n := by rw [← hE]; exact hri _ (List.getElem_mem hl)
  have hks := set_keys (y := y) hl hE
  have hmem : n ∈ rs.map (·.1) := List.mem_map.2 ⟨_, List.getElem_mem hl, hE⟩
  have hin : ∀ r ∈ rs.set i (n, y), r = (n, y) ∨ (r ∈ rs ∧ r.1 ≠ n) := fun r hr => by
    obtain ⟨k, hk, rfl⟩ := List.getElem_of_mem hr
    rw [List.getElem_set]
    split
    · exact Or.inl rfl
    · rename_i e
      have hk' : k < rs.length := by simpa using hk
      refine Or.inr ⟨List.getElem_mem hk', fun e2 => e ?_⟩
      have h1 := List.pairwise_iff_getElem.1 hrn
      rcases Nat.lt_trichotomy i k with h2 | h2 | h2
      · exact absurd (by rw [List.getElem_map, List.getElem_map, hE, e2]) (h1 i k (by simpa using hl) (by simpa using hk') h2)
      · exact h2
      · exact absurd (by rw [List.getElem_map, List.getElem_map, hE, e2]) (h1 k i (by simpa using hk') (by simpa using hl) h2)
  refine h.remap (by rw [hks]; exact hrn) ?_ hm hgr (fun k hk => ?_) (fun r hr z => ?_)
  · intro r hr
    rcases hin r hr with rfl | ⟨h1, _⟩
    · exact hni
    · exact hri r h1
  · rw [hks]
    by_cases he : k = n
    · subst he
      rw [Maps.has_put_same h.m.isMap (mi_isKey hni)]
      exact ⟨fun _ => hmem, fun _ => rfl⟩
    · rw [Maps.has_put_other (lit_ne he), h.hk k hk]
  · rcases hin r hr with rfl | ⟨h1, h2⟩
    · exact Maps.atKey_put_same h.m.isMap (mi_isKey hni) _ z
    · rw [Maps.atKey_put_other (lit_ne h2)]
      exact h.hv hrn r h1 z
theorem XqAt.gone (h : XqAt U w xb mb gb D N os rs) (hw : PWf P os rs) {n : Int} {i : Nat} (hi : rgF rs n = some i) {m : Nat} (hm : w3.ownsMap Try.prog 3 RI mb m (D.del (.int .i64 n))) (hgr : w.grownBy w3 (some mb)) : XqAt U w3 xb mb gb (D.del (.int .i64 n)) N os (rs.take i ++ rs.drop (i + 1)) ∧ Only (fun j => ¬ U j) w w3 := by
  have hri : ∀ r ∈ rs, I64 r.1 := fun r hr => by have := (hw.rk r hr).1; unfold RgOk at this; unfold I64; omega
  obtain ⟨hl, hE⟩ := rgF_at hi
  have he0 : rs.take i ++ rs.drop (i + 1) = rs.eraseIdx i := by rw [List.eraseIdx_eq_take_drop_succ]
  rw [he0]
  have hnd2 : ((rs.eraseIdx i).map (·.1)).Nodup := List.Nodup.sublist (List.Sublist.map _ (List.eraseIdx_sublist rs i)) hw.rn
  have hin : ∀ r, r ∈ rs.eraseIdx i ↔ r ∈ rs ∧ r.1 ≠ n := fun r => by
    rw [List.mem_eraseIdx_iff_getElem]
    constructor
    · rintro ⟨k, hk, hki, rfl⟩
      refine ⟨List.getElem_mem hk, fun e2 => ?_⟩
      have h1 := List.pairwise_iff_getElem.1 hw.rn
      rcases Nat.lt_trichotomy i k with h2 | h2 | h2
      · exact absurd (by rw [List.getElem_map, List.getElem_map, hE, e2]) (h1 i k (by simpa using hl) (by simpa using hk) h2)
      · exact hki h2.symm
      · exact absurd (by rw [List.getElem_map, List.getElem_map, hE, e2]) (h1 k i (by simpa using hk) (by simpa using hl) h2)
    · rintro ⟨h1, h2⟩
      obtain ⟨k, hk, rfl⟩ := List.getElem_of_mem h1
      exact ⟨k, hk, fun e => h2 (by subst e; exact hE), rfl⟩
  refine h.remap hnd2 (fun r hr => hri r ((hin r).1 hr).1) hm hgr (fun k hk => ?_) (fun r hr z => ?_)
  · by_cases he : k = n
    · subst he
      rw [Maps.has_del_same]
      refine ⟨fun h => (by cases h), fun h9 => ?_⟩
      obtain ⟨r, hr, h8⟩ := List.mem_map.1 h9
      exact absurd h8 ((hin r).1 hr).2
    · rw [Maps.has_del_other (lit_ne he), h.hk k hk]
      constructor
      · intro h9
        obtain ⟨r, hr, h8⟩ := List.mem_map.1 h9
        exact List.mem_map.2 ⟨r, (hin r).2 ⟨hr, by rw [h8]; exact he⟩, h8⟩
      · intro h9
        obtain ⟨r, hr, h8⟩ := List.mem_map.1 h9
        exact List.mem_map.2 ⟨r, ((hin r).1 hr).1, h8⟩
  · obtain ⟨h1, h2⟩ := (hin r).1 hr
    rw [Maps.atKey_del_other (lit_ne h2)]
    exact h.hv hw.rn r h1 z
/-- A page put anew. -/
theorem XqAt.paged (h : XqAt U w xb mb gb D N os rs) (q : Nat) (hq : q < N) (y : Int × Int) (hr : rowP N os2 = (rowP N os).set q y) :
    XqAt U ((w.setCell ⟨gb, q * 2, none⟩ (.int .i64 y.1)).setCell ⟨gb, q * 2 + 1, none⟩ (.int .i64 y.2)) xb mb gb D N os2 rs ∧ Only (fun j => ¬ U j) w ((w.setCell ⟨gb, q * 2, none⟩ (.int .i64 y.1)).setCell ⟨gb, q * 2 + 1, none⟩ (.int .i64 y.2)) := by
  obtain ⟨h1, ho⟩ := own_slot h.pg (rowP_len N os).symm q (by rw [rowP_len]; exact hq) y
  obtain ⟨cur, hc⟩ := own_tag h.pg (k := gb) rfl
  rw [← hr] at h1
  exact ⟨⟨Only.keep ho h.x (fun e => tag_ne hc h.x (by decide) e.symm), mi_owns h.m ho (fun e => mi_ne hc h.m e.symm), h.hs, h.ha, h1, h.ux, h.um, h.ug, fun k hu => Nat.lt_of_lt_of_le (h.low k hu) ho.size⟩, ho.mono (fun j _ hj => by subst hj; exact h.ug)⟩
end Go.Proofs.Ytbbabpgmclhinaa

import Derived.Test.YtgncabcnefhkiaaCs26
/- Chapter 9, the program's scheduler: a thread more, a thread less. -/
namespace Go.Proofs.Ytgncabcnefhkiaa
open Go.ChangeShapes Go.WideShapes Go.ChangeAt Go.RowKit
open Go.Vx
set_option linter.unusedVariables false
variable {U V S : Nat → Prop} {w w2 w3 : World} {xb mb n : Nat} {D D2 : DataW Value} {G : Int → Nat} {vt : Value} {vq : List Value} {ts : List (Int × Int)} {t : Nat} {lf : Int} {es es2 : List Et} {Q : Nat → List Int} {ck : Nat}

theorem mp_exact (hm : w.ownsMap Try.prog 3 RP mb n D) : w.ownsMap Try.prog 3 RP mb (Maps.size D) D := by
  obtain ⟨l, clock, hb, F, hs, rfl⟩ := hm
  exact ⟨l, clock, hb, F, by simp [Maps.size, length_sorted], rfl⟩
/-- A map's keys, by what it has. -/
theorem mp_keys {ks : List Int} (hm : w.ownsMap Try.prog 3 RP mb n D) (hs : ∀ k, I64 k → Maps.has D (.int .i64 k) = true → k ∈ ks) (hs2 : ∀ k ∈ ks, Maps.has D (.int .i64 k) = true) (hnd : ks.Nodup) : ks.Perm (intKeys D) ∧ Maps.size D = ks.length := by
  obtain ⟨l, hD, hpw, _⟩ := hm.entries mi_keyed
  obtain ⟨l2, hD2, hko⟩ := hm.keysOf
  obtain rfl : l = l2 := by rw [hD] at hD2; simpa using hD2
  have hk : ∀ p ∈ l, ∃ x, p.1 = .int .i64 x ∧ I64 x := fun p hp => by
    obtain ⟨v, hv⟩ := hko p hp
    obtain ⟨x, _, hx, hw⟩ := Maps.keyOf_i64 Try.underlying3 hv
    exact ⟨x, hx, wf_mi hw⟩
  have hp : ks.Perm (intKeys D) := by
    rw [hD] at hs hs2 ⊢
    refine perm_intKeys hpw (fun p hp => ?_) hnd (fun x => ?_)
    · obtain ⟨x, hx, _⟩ := hk p hp
      exact ⟨x, hx⟩
    · constructor
      · intro hx
        exact hs2 x hx
      · intro hx
        have hx2 := hx
        rw [Maps.has_eq, List.any_eq_true] at hx2
        obtain ⟨p, hp, hpk⟩ := hx2
        obtain ⟨y, hy, hyi⟩ := hk p hp
        rw [hy] at hpk
        have hyx : y = x := by simpa [Lit.sameKey] using hpk
        subst hyx
        exact hs y hyi hx
  refine ⟨hp, ?_⟩
  have h1 := hp.length_eq
  rw [hD] at h1 ⊢
  rw [Maps.size_eq]
  simp only [intKeys, List.length_map] at h1
  exact h1.symm

theorem mpG (h : w.grownBy w2 (some mb)) : Only (fun j => j = mb) w w2 := ⟨h.os, h.tape, h.output, h.size, fun k hk hn => h.block k hk (fun e => hn (by injection e))⟩
theorem fn_mem {k : Int} : (fnF es k).isSome = true ↔ k ∈ es.map (·.num) := by
  constructor
  · intro h
    obtain ⟨i, hi⟩ := Option.isSome_iff_exists.1 h
    obtain ⟨hl, hE⟩ := fnF_at hi
    exact List.mem_map.2 ⟨_, List.getElem_mem hl, hE⟩
  · intro h
    obtain ⟨e, he, rfl⟩ := List.mem_map.1 h
    cases hi : fnF es e.num with
    | some i => rfl
    | none => have := idxF_none hi e he; simp at this
theorem XsAt.hk (h : XsAt U w xb mb D G vt vq ts t lf es Q) (k : Int) (hk : I64 k) : Maps.has D (.int .i64 k) = true ↔ k ∈ es.map (·.num) := by
  rw [h.hs k hk]
  exact fn_mem
theorem XsAt.hv (h : XsAt U w xb mb D G vt vq ts t lf es Q) (e : Et) (he : e ∈ es) (z : DataW Value) : D.atKey (.int .i64 e.num) z = .held (.pointer (some ⟨G e.num, 0, none⟩)) := by
  obtain ⟨i, hi⟩ := Option.isSome_iff_exists.1 (fn_mem.2 (List.mem_map.2 ⟨e, he, rfl⟩))
  exact h.ha _ i z hi
/-- The map anew; the runners as they lie. -/
theorem XsAt.remap (h : XsAt U w xb mb D G vt vq ts t lf es Q) (hn2 : (es2.map (·.num)).Nodup) (hi2 : ∀ e ∈ es2, I64 e.num) {n : Nat} (hm : w3.ownsMap Try.prog 3 RP mb n D2) (hgr : w.grownBy w3 (some mb))
    (hk : ∀ k, I64 k → (Maps.has D2 (.int .i64 k) = true ↔ k ∈ es2.map (·.num))) (hv : ∀ e ∈ es2, ∀ z, D2.atKey (.int .i64 e.num) z = .held (.pointer (some ⟨G e.num, 0, none⟩)))
    (hr : ∀ e ∈ es2, w.heap[G e.num]? = some (.cells (rnC e) 78 (0, 0))) (hgi : ∀ e ∈ es2, ∀ f ∈ es2, G e.num = G f.num → e.num = f.num) (hur : ∀ e ∈ es2, ¬ U (G e.num)) (hnl : es2.length ≤ 1000000) : XsAt U w3 xb mb D2 G vt vq ts t lf es2 Q ∧ Only (fun j => ¬ U j) w w3 := by
  have ho := mpG hgr
  have hks := mp_keys (ks := es2.map (·.num)) hm (fun k hki hh => (hk k hki).1 hh) (fun k hm2 => by
    obtain ⟨r, hr, rfl⟩ := List.mem_map.1 hm2
    exact (hk _ (hi2 r hr)).2 hm2) hn2
  have hm2 : w3.ownsMap Try.prog 3 RP mb es2.length D2 := by
    have := mp_exact hm
    rw [hks.2, List.length_map] at this
    exact this
  refine ⟨⟨Only.keep ho h.x (fun e => mp_ne h.x h.m e), h.lq, h.t'.kept ho (fun k hk e => ?_), hm2, fun k hki => ?_, fun k i z hi => ?_, fun e he => Only.keep ho (hr e he) (fun e2 => mp_ne (hr e he) h.m e2), hgi, fun j hj => (h.qs j hj).kept ho (fun k hk e => ?_), h.qd, h.ux, h.ut, h.um, hur, h.uq, fun k hu => Nat.lt_of_lt_of_le (h.low k hu) ho.size, hnl, hi2⟩, ho.mono (fun j _ hj => by subst hj; exact h.um)⟩
  · obtain ⟨cur, hc⟩ := own_tag h.t' hk
    exact mp_ne hc h.m e
  · cases hs : fnF es2 k with
    | some i => exact (hk k hki).2 (fn_mem.1 (by rw [hs]; rfl))
    | none =>
      cases hh : Maps.has D2 (.int .i64 k) with
      | false => rfl
      | true =>
        have := fn_mem.2 ((hk k hki).1 hh)
        rw [hs] at this; cases this
  · obtain ⟨hl, hE⟩ := fnF_at hi
    rw [← hE]
    exact hv _ (List.getElem_mem hl) z
  · obtain ⟨cur, hc⟩ := own_tag (h.qs j hj) hk
    exact mp_ne hc h.m e
theorem lit_ne {k n : Int} (h : k ≠ n) : (Lit.int .i64 k) ≠ (Lit.int .i64 n) := fun e => h (by injection e)
theorem mi_isKey {n : Int} (h : I64 n) : WideAt.IsKeyLit (.int .i64 n) := mi_keyed.key (mi_key h)
def nuG (G : Int → Nat) (n : Int) (g : Nat) : Int → Nat := fun k => if k = n then g else G k
theorem nuG_at (G : Int → Nat) (n : Int) (g : Nat) : nuG G n g n = g := if_pos rfl
theorem nuG_ne (G : Int → Nat) {n k : Int} (g : Nat) (h : k ≠ n) : nuG G n g k = G k := if_neg h
/-- A thread comes. w: with its runner, but not yet in the map. -/
theorem XsAt.added (h : XsAt U w xb mb D G vt vq ts t lf es Q) (hnd : (es.map (·.num)).Nodup) (hqm : ∀ j, j < 64 → ∀ x ∈ Q j, x ∈ es.map (·.num)) {y : Et} (hni : I64 y.num) (hno : y.num ∉ es.map (·.num)) {g : Nat} (hg : w.heap[g]? = some (.cells (rnC y) 78 (0, 0))) (hgn : ∀ e ∈ es, G e.num ≠ g) (hgu : ¬ U g) {m : Nat} (hm : w3.ownsMap Try.prog 3 RP mb m (D.put (.int .i64 y.num) (.held (.pointer (some ⟨g, 0, none⟩))))) (hgr : w.grownBy w3 (some mb)) (hnl : es.length + 1 ≤ 1000000) :
    XsAt U w3 xb mb (D.put (.int .i64 y.num) (.held (.pointer (some ⟨g, 0, none⟩)))) (nuG G y.num g) vt vq ts t lf (es ++ [y]) Q ∧ Only (fun j => ¬ U j) w w3 := by
  have hne : ∀ e ∈ es, e.num ≠ y.num := fun e he h9 => hno (List.mem_map.2 ⟨e, he, h9⟩)
  have hG : ∀ e ∈ es, nuG G y.num g e.num = G e.num := fun e he => nuG_ne G g (hne e he)
  have hN := nuG_at G y.num g
  have h' : XsAt U w xb mb D (nuG G y.num g) vt vq ts t lf es Q := by
    refine ⟨h.x, h.lq, h.t', h.m, h.hs, fun k i z hi => ?_, fun e he => by rw [hG e he]; exact h.rn e he, fun e he f hf => by rw [hG e he, hG f hf]; exact h.gi e he f hf, fun j hj => ?_, h.qd, h.ux, h.ut, h.um, fun e he => by rw [hG e he]; exact h.ur e he, h.uq, h.low, h.nl, h.ix⟩
    · obtain ⟨hl, hE⟩ := fnF_at hi
      rw [← hE, hG _ (List.getElem_mem hl), hE]
      exact h.ha k i z hi
    · have : (Q j).map (nuG G y.num g) = (Q j).map G := List.map_congr_left (fun x hx => by
        obtain ⟨e, he, rfl⟩ := List.mem_map.1 (hqm j hj x hx)
        exact hG e he)
      rw [this]
      exact h.qs j hj
  refine h'.remap ?_ ?_ hm hgr (fun k hk => ?_) (fun e he z => ?_) (fun e he => ?_) (fun e he f hf h9 => ?_) (fun e he => ?_) (by rw [List.length_append, List.length_singleton]; exact hnl)
  · rw [List.map_append, List.nodup_append]
    refine ⟨hnd, by simp, fun a ha b hb => ?_⟩
    simp only [List.map_cons, List.map_nil, List.mem_singleton] at hb
    rw [hb]
    exact fun e => hno (e ▸ ha)
  · intro r hr
    rcases List.mem_append.1 hr with hr | hr
    · exact h.ix r hr
    · rw [List.mem_singleton] at hr; rw [hr]; exact hni
  · rw [List.map_append, List.mem_append]
    by_cases he : k = y.num
    · subst he
      rw [Maps.has_put_same h.m.isMap (mi_isKey hni)]
      simp
    · rw [Maps.has_put_other (lit_ne he), h.hk k hk]
      simp [he]
  · rcases List.mem_append.1 he with he | he
    · rw [Maps.atKey_put_other (lit_ne (hne e he))]
      exact h'.hv e he z
    · rw [List.mem_singleton] at he
      subst he
      rw [hN]
      exact Maps.atKey_put_same h.m.isMap (mi_isKey hni) _ z
  · rcases List.mem_append.1 he with he | he
    · exact h'.rn e he
    · rw [List.mem_singleton] at he
      subst he
      rw [hN]
      exact hg
  · rcases List.mem_append.1 he with a1 | a1
    · rcases List.mem_append.1 hf with a2 | a2
      · exact h'.gi e a1 f a2 h9
      · rw [List.mem_singleton] at a2
        rw [a2, hN, hG e a1] at h9
        exact absurd h9 (hgn e a1)
    · rw [List.mem_singleton] at a1
      rcases List.mem_append.1 hf with a2 | a2
      · rw [a1, hN, hG f a2] at h9
        exact absurd h9.symm (hgn f a2)
      · rw [List.mem_singleton] at a2
        rw [a1, a2]
  · rcases List.mem_append.1 he with he | he
    · exact h'.ur e he
    · rw [List.mem_singleton] at he
      subst he
      rw [hN]
      exact hgu
/-- A thread goes. -/
theorem XsAt.gone (h : XsAt U w xb mb D G vt vq ts t lf es Q) (hnd : (es.map (·.num)).Nodup) {n : Int} {i : Nat} (hi : fnF es n = some i) {m : Nat} (hm : w3.ownsMap Try.prog 3 RP mb m (D.del (.int .i64 n))) (hgr : w.grownBy w3 (some mb)) : XsAt U w3 xb mb (D.del (.int .i64 n)) G vt vq ts t lf (es.take i ++ es.drop (i + 1)) Q ∧ Only (fun j => ¬ U j) w w3 := by
  obtain ⟨hl, hE⟩ := fnF_at hi
  have he0 : es.take i ++ es.drop (i + 1) = es.eraseIdx i := by rw [List.eraseIdx_eq_take_drop_succ]
  rw [he0]
  have hsub : ∀ e ∈ es.eraseIdx i, e ∈ es := fun e he => (List.eraseIdx_sublist es i).mem he
  have hnd2 : ((es.eraseIdx i).map (·.num)).Nodup := List.Nodup.sublist (List.Sublist.map _ (List.eraseIdx_sublist es i)) hnd
  have hin : ∀ r, r ∈ es.eraseIdx i ↔ r ∈ es ∧ r.num ≠ n := fun r => by
    rw [List.mem_eraseIdx_iff_getElem]
    constructor
    · rintro ⟨k, hk, hki, rfl⟩
      refine ⟨List.getElem_mem hk, fun e2 => ?_⟩
      exact num_ne hnd hk hl hki (e2.trans hE.symm)
    · rintro ⟨h1, h2⟩
      obtain ⟨k, hk, rfl⟩ := List.getElem_of_mem h1
      exact ⟨k, hk, fun e => h2 (by subst e; exact hE), rfl⟩
  refine h.remap hnd2 (fun r hr => h.ix r (hsub r hr)) hm hgr (fun k hk => ?_) (fun r hr z => ?_) (fun e he => h.rn e (hsub e he)) (fun e he f hf => h.gi e (hsub e he) f (hsub f hf)) (fun e he => h.ur e (hsub e he)) (Nat.le_trans (List.Sublist.length_le (List.eraseIdx_sublist es i)) h.nl)
  · by_cases he : k = n
    · subst he
      rw [Maps.has_del_same]
      refine ⟨fun h => (by cases h), fun h9 => ?_⟩
      obtain ⟨r, hr, h8⟩ := List.mem_map.1 h9
      exact absurd h8 ((hin r).1 hr).2
    · rw [Maps.has_del_other (lit_ne he), h.hk k hk]
      constructor
      · intro h9
        obtain ⟨r, hr, h8⟩ := List.mem_map.1 h9
        exact List.mem_map.2 ⟨r, (hin r).2 ⟨hr, by rw [h8]; exact he⟩, h8⟩
      · intro h9
        obtain ⟨r, hr, h8⟩ := List.mem_map.1 h9
        exact List.mem_map.2 ⟨r, ((hin r).1 hr).1, h8⟩
  · obtain ⟨h1, h2⟩ := (hin r).1 hr
    rw [Maps.atKey_del_other (lit_ne h2)]
    exact h.hv r h1 z
end Go.Proofs.Ytgncabcnefhkiaa

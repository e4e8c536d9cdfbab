/- Maps from numbers to pointers: a look, one more, one less. -/
import Derived.Test.YtdpgdjpphnbfnaaMP
namespace Go.Proofs.Ytdpgdjpphnbfnaa
open Go.ChangeShapes Go.WideShapes Go.ChangeAt Go.RowKit
open Go.Vx
set_option linter.unusedVariables false
variable {U V S : Nat → Prop} {w w2 : World} {mb n : Nat} {D : DataW Value} {ks : List Int} {G G2 : Int → Nat}

/-- A map from numbers to pointers: its keys, and to where each leads. -/
structure MapAt (w : World) (mb : Nat) (D : DataW Value) (ks : List Int) (G : Int → Nat) : Prop where
  own : w.ownsMap Try.prog 3 RP mb ks.length D
  has : ∀ k, I64 k → (Maps.has D (.int .i64 k) = true ↔ k ∈ ks)
  val : ∀ k ∈ ks, ∀ z, D.atKey (.int .i64 k) z = .held (.pointer (some ⟨G k, 0, none⟩))
  nd : ks.Nodup
  ix : ∀ k ∈ ks, I64 k
/-- What a look tells. -/
def mpV (G : Int → Nat) (ks : List Int) (k : Int) : Value := if k ∈ ks then .pointer (some ⟨G k, 0, none⟩) else .pointer none
theorem MapAt.look (h : MapAt w mb D ks G) {t e : TypeId} (ht : Try.prog.underlying t = some (.map 3 e)) (hz : ∀ w, (zeroValue e).run Try.prog w = .ok (.pointer none) w) (k : Int) (hk : I64 k) :
    (Instr.lookup t (.map (some mb)) (.int .i64 k) false).run Try.prog w = .ok (mpV G ks k) w := by
  have hz2 : RP (.pointer none) = some (.held (.pointer none), []) := rfl
  obtain ⟨v, ps, hr, hv⟩ := h.own.lookup (t := t) (e := e) mi_keyed ht (hz w) hz2 (mi_key hk)
  have hD : D.atKey (.int .i64 k) (.held (.pointer none)) = .held (mpV G ks k) := by
    unfold mpV
    by_cases hs : k ∈ ks
    · rw [if_pos hs]; exact h.val k hs _
    · rw [if_neg hs]
      exact Maps.atKey_of_not_has (by
        cases hh : Maps.has D (.int .i64 k) with
        | false => rfl
        | true => exact absurd ((h.has k hk).1 hh) hs) _
  rw [hD] at hv
  obtain ⟨p, rfl, he⟩ := rp_inv hv
  simp only [Prod.mk.injEq, DataW.held.injEq] at he
  rw [hr, he.1]
theorem MapAt.keep (h : MapAt w mb D ks G) (ho : Only S w w2) (hb : ¬ S mb) : MapAt w2 mb D ks G := ⟨mp_owns h.own ho hb, h.has, h.val, h.nd, h.ix⟩
theorem MapAt.congr (h : MapAt w mb D ks G) (hg : ∀ k ∈ ks, G2 k = G k) : MapAt w mb D ks G2 := ⟨h.own, h.has, fun k hk z => by rw [hg k hk]; exact h.val k hk z, h.nd, h.ix⟩
theorem MapAt.ne (h : MapAt w mb D ks G) {j : Nat} {c : Array Value} {t : TypeId} {fr : Nat × Nat} (hj : w.heap[j]? = some (.cells c t fr)) : j ≠ mb := mp_ne hj h.own
theorem MapAt.made (w : World) (G : Int → Nat) : MapAt (w.alloc (.map #[] 0)) w.heap.size (.map []) [] G :=
  ⟨World.ownsMap_made w Try.prog 3 RP, fun k hk => ⟨fun h => by simp [Maps.has_eq] at h, fun h => (by cases h)⟩, fun k hk => (by cases hk), List.nodup_nil, fun k hk => (by cases hk)⟩
/-- One more. -/
theorem MapAt.put (h : MapAt w mb D ks G) {t e : TypeId} (ht : Try.prog.underlying t = some (.map 3 e)) (hl : ks.length < maxLen) (n : Int) (hn : I64 n) (hno : n ∉ ks) (g : Nat) :
    ∃ w3, (Instr.mapUpdate t (.map (some mb)) (.int .i64 n) (.pointer (some ⟨g, 0, none⟩))).run Try.prog w = .ok () w3 ∧ MapAt w3 mb (D.put (.int .i64 n) (.held (.pointer (some ⟨g, 0, none⟩)))) (ks ++ [n]) (nuG G n g) ∧ Only (fun j => j = mb) w w3 := by
  obtain ⟨w3, hrun, hm3, hg3⟩ := h.own.update (t := t) (e := e) mi_keyed ht hl (mi_key hn) (val := .pointer (some ⟨g, 0, none⟩)) (d := .held (.pointer (some ⟨g, 0, none⟩))) (ps := []) rfl
  have hne : ∀ k ∈ ks, k ≠ n := fun k hk e => hno (e ▸ hk)
  have hnd : (ks ++ [n]).Nodup := by
    rw [List.nodup_append]
    refine ⟨h.nd, by simp, fun a ha b hb => ?_⟩
    rw [List.mem_singleton] at hb
    rw [hb]
    exact hne a ha
  have hix : ∀ k ∈ ks ++ [n], I64 k := fun k hk => by
    rcases List.mem_append.1 hk with hk | hk
    · exact h.ix k hk
    · rw [List.mem_singleton] at hk; rw [hk]; exact hn
  have hhas : ∀ k, I64 k → (Maps.has (D.put (.int .i64 n) (.held (.pointer (some ⟨g, 0, none⟩)))) (.int .i64 k) = true ↔ k ∈ ks ++ [n]) := fun k hk => by
    rw [List.mem_append]
    by_cases he : k = n
    · subst he
      rw [Maps.has_put_same h.own.isMap (mi_isKey hn)]
      simp
    · rw [Maps.has_put_other (lit_ne he), h.has k hk]
      simp [he]
  refine ⟨w3, hrun, ⟨?_, hhas, fun k hk z => ?_, hnd, hix⟩, mpG hg3⟩
  · have hks := mp_keys (ks := ks ++ [n]) hm3 (fun k hki hh => (hhas k hki).1 hh) (fun k hm2 => (hhas k (hix k hm2)).2 hm2) hnd
    have := mp_exact hm3
    rw [hks.2] at this
    exact this
  · rcases List.mem_append.1 hk with hk | hk
    · rw [Maps.atKey_put_other (lit_ne (hne k hk)), nuG_ne G g (hne k hk)]
      exact h.val k hk z
    · rw [List.mem_singleton] at hk
      subst hk
      rw [nuG_at]
      exact Maps.atKey_put_same h.own.isMap (mi_isKey hn) _ z
/-- One less. -/
theorem MapAt.del (h : MapAt w mb D ks G) {t e : TypeId} (ht : Try.prog.underlying t = some (.map 3 e)) (n : Int) (hn : I64 n) :
    ∃ w3, (∀ ty, (Builtin.delete_ #[t, 3] ty #[.map (some mb), .int .i64 n]).run Try.prog w = .ok (.tuple #[]) w3) ∧ MapAt w3 mb (D.del (.int .i64 n)) (ks.filter fun k => decide (k ≠ n)) G ∧ Only (fun j => j = mb) w w3 := by
  obtain ⟨w3, hrun, hm3, ht3⟩ := h.own.drop (t := t) (e := e) mi_keyed ht (mi_key hn) 0
  have hnd : (ks.filter fun k => decide (k ≠ n)).Nodup := List.Nodup.sublist List.filter_sublist h.nd
  have hhas : ∀ k, I64 k → (Maps.has (D.del (.int .i64 n)) (.int .i64 k) = true ↔ k ∈ ks.filter fun k => decide (k ≠ n)) := fun k hk => by
    rw [List.mem_filter]
    by_cases he : k = n
    · subst he
      rw [Maps.has_del_same]
      simp
    · rw [Maps.has_del_other (lit_ne he), h.has k hk]
      simp [he]
  have hix : ∀ k ∈ ks.filter (fun k => decide (k ≠ n)), I64 k := fun k hk => h.ix k (List.mem_filter.1 hk).1
  refine ⟨w3, fun ty => hrun, ⟨?_, hhas, fun k hk z => ?_, hnd, hix⟩, mpG ht3.grown⟩
  · have hks := mp_keys hm3 (fun k hki hh => (hhas k hki).1 hh) (fun k hm2 => (hhas k (hix k hm2)).2 hm2) hnd
    have := mp_exact hm3
    rw [hks.2] at this
    exact this
  · obtain ⟨h1, h2⟩ := List.mem_filter.1 hk
    rw [Maps.atKey_del_other (lit_ne (of_decide_eq_true h2))]
    exact h.val k h1 z
end Go.Proofs.Ytdpgdjpphnbfnaa

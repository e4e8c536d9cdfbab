/- Maps from texts to objects, as a program's own. -/
import Derived.Test.YtgacifbpjdakaaaGreatDoorGC
import Derived.Maps.OwnSet
import Derived.StringKeys
namespace Go.Proofs.YtgacifbpjdakaaaGreatDoor
open Go.ChangeShapes Go.WideShapes Go.ChangeAt Go.RowKit
open Go.Vx
set_option linter.unusedVariables false
variable {S : Nat → Prop} {w w2 : World} {mb n : Nat} {D : DataW Value} {nm : List (List UInt8)} {ar : List Sl}

/-- Anything, as an element of a map. -/
def RA (v : Value) : Option (DataW Value × List MemPlace) := some (.held v, [])
def objV (o : Sl) : Value := .agg #[.int .i64 o.1, .int .i64 o.2]
theorem keyedT : Maps.Keyed Tryz.prog 9 := Maps.string_keyed Tryz.underlying9
theorem keyT {k : List UInt8} (h : k.length ≤ 20000) : keyOf Tryz.prog 9 (.string ⟨k.toArray⟩) = some (.string k) := Go.WideMaps.keyOf_string_mk Tryz.underlying9 (by unfold maxLen; simp [ByteArray.size]; omega)
theorem zeroOb (w : World) : (zeroValue 46).run Tryz.prog w = .ok (objV (0, 0)) w := by kernel_rfl
/-- Names, and what each names. -/
structure NmAt (w : World) (mb : Nat) (D : DataW Value) (nm : List (List UInt8)) (ar : List Sl) : Prop where
  own : w.ownsMap Tryz.prog 9 RA mb nm.length D
  sz : Maps.size D = nm.length
  has : ∀ k, k.length ≤ 20000 → (Maps.has D (.string k) = true ↔ k ∈ nm)
  val : ∀ (i : Nat) (hi : i < nm.length), ∀ z, D.atKey (.string nm[i]) z = .held (objV (ar.getD i (0, 0)))
  nd : nm.Nodup
  len : nm.length = ar.length
  sh : ∀ k ∈ nm, k.length ≤ 20000
theorem NmAt.keep (h : NmAt w mb D nm ar) (ho : Only S w w2) (hb : ¬ S mb) : NmAt w2 mb D nm ar := by
  refine ⟨?_, h.sz, h.has, h.val, h.nd, h.len, h.sh⟩
  have hml := h.own.lt
  obtain ⟨e, clock, hb2, F, hs, hD⟩ := h.own
  exact ⟨e, clock, (ho.block mb hml hb).trans hb2, F, hs, hD⟩
theorem NmAt.ne (h : NmAt w mb D nm ar) {j : Nat} {c : Array Value} {t : TypeId} {fr : Nat × Nat} (hj : w.heap[j]? = some (.cells c t fr)) : j ≠ mb := by
  obtain ⟨es, clock, hb, _⟩ := h.own
  rintro rfl
  rw [hj] at hb
  cases hb
theorem NmAt.made (w : World) : NmAt (w.alloc (.map #[] 0)) w.heap.size (.map []) [] [] :=
  ⟨World.ownsMap_made w Tryz.prog 9 RA, by simp [Maps.size_eq], fun k hk => ⟨fun h => by simp [Maps.has_eq] at h, fun h => (by cases h)⟩, fun i hi => (by cases hi), List.nodup_nil, rfl, fun k hk => (by cases hk)⟩
/-- A name that is there. -/
theorem NmAt.look (h : NmAt w mb D nm ar) (i : Nat) (hi : i < nm.length) (b : Bool) :
    (Instr.lookup 32 (.map (some mb)) (.string ⟨nm[i].toArray⟩) b).run Tryz.prog w = .ok (if b then .tuple #[objV (ar.getD i (0, 0)), .bool true] else objV (ar.getD i (0, 0))) w := by
  have hmem : nm[i] ∈ nm := List.getElem_mem hi
  have hk := h.sh _ hmem
  have hz2 : RA (objV (0, 0)) = some (.held (objV (0, 0)), []) := rfl
  cases b with
  | false =>
    obtain ⟨v, ps, hr, hv⟩ := h.own.lookup (t := 32) (e := 46) keyedT Tryz.underlying32 (zeroOb w) hz2 (keyT hk)
    rw [h.val i hi] at hv
    simp only [RA, Option.some.injEq, Prod.mk.injEq, DataW.held.injEq] at hv
    rw [hr, hv.1]
    rfl
  | true =>
    obtain ⟨v, ps, hr, hv⟩ := h.own.look_ok (t := 32) (e := 46) keyedT Tryz.underlying32 (zeroOb w) hz2 (keyT hk)
    rw [h.val i hi] at hv
    simp only [RA, Option.some.injEq, Prod.mk.injEq, DataW.held.injEq] at hv
    rw [hr, hv.1, (h.has _ hk).2 hmem]
    rfl
/-- A name that is not there. -/
theorem NmAt.miss (h : NmAt w mb D nm ar) (k : List UInt8) (hk : k.length ≤ 20000) (hn : k ∉ nm) :
    (Instr.lookup 32 (.map (some mb)) (.string ⟨k.toArray⟩) true).run Tryz.prog w = .ok (.tuple #[objV (0, 0), .bool false]) w := by
  have hz2 : RA (objV (0, 0)) = some (.held (objV (0, 0)), []) := rfl
  have hh : Maps.has D (.string k) = false := by
    cases hh : Maps.has D (.string k) with
    | false => rfl
    | true => exact absurd ((h.has k hk).1 hh) hn
  obtain ⟨v, ps, hr, hv⟩ := h.own.look_ok (t := 32) (e := 46) keyedT Tryz.underlying32 (zeroOb w) hz2 (keyT hk)
  rw [Maps.atKey_of_not_has hh] at hv
  simp only [RA, Option.some.injEq, Prod.mk.injEq, DataW.held.injEq] at hv
  rw [hr, hv.1, hh]
theorem litT_ne {k n : List UInt8} (h : k ≠ n) : (Lit.string k) ≠ (Lit.string n) := fun e => h (by injection e)
/-- One more. -/
theorem NmAt.put (h : NmAt w mb D nm ar) (hl : nm.length < 1000000) (k : List UInt8) (hk : k.length ≤ 20000) (hno : k ∉ nm) (o : Sl) :
    ∃ w3 D3, (Instr.mapUpdate 32 (.map (some mb)) (.string ⟨k.toArray⟩) (objV o)).run Tryz.prog w = .ok () w3 ∧ NmAt w3 mb D3 (nm ++ [k]) (ar ++ [o]) ∧ Only (fun j => j = mb) w w3 := by
  obtain ⟨w3, hrun, hm3, hg3⟩ := h.own.update (t := 32) (e := 46) keyedT Tryz.underlying32 (by unfold maxLen; omega) (keyT hk) (val := objV o) (d := .held (objV o)) (ps := []) rfl
  have hkl : WideAt.IsKeyLit (.string k) := keyedT.key (keyT hk)
  have hne : ∀ x ∈ nm, x ≠ k := fun x hx e => hno (e ▸ hx)
  refine ⟨w3, D.put (.string k) (.held (objV o)), hrun, ⟨?_, ?_, fun x hx => ?_, fun i hi z => ?_, ?_, by rw [List.length_append, List.length_append, h.len]; rfl, fun x hx => ?_⟩, ⟨hg3.os, hg3.tape, hg3.output, hg3.size, fun j hj hn => hg3.block j hj (fun e => hn (by injection e))⟩⟩
  · rw [List.length_append]; exact hm3
  · have hms : Maps.has D (.string k) = false := by
      cases hh : Maps.has D (.string k) with
      | false => rfl
      | true => exact absurd ((h.has k hk).1 hh) hno
    rw [List.length_append, ← h.sz]
    rw [Maps.size_put (h.own.tidy keyedT), hms]
    rfl
  · rw [List.mem_append]
    by_cases he : x = k
    · subst he
      rw [Maps.has_put_same h.own.isMap hkl]
      simp
    · rw [Maps.has_put_other (litT_ne he), h.has x hx]
      simp [he]
  · rw [List.length_append] at hi
    by_cases hlt : i < nm.length
    · have e1 : (nm ++ [k])[i]'(by rw [List.length_append]; exact hi) = nm[i] := List.getElem_append_left hlt
      have e2 : (ar ++ [o]).getD i (0, 0) = ar.getD i (0, 0) := by
        rw [List.getD_eq_getElem?_getD, List.getD_eq_getElem?_getD, List.getElem?_append_left (by rw [← h.len]; exact hlt)]
      rw [e1, e2, Maps.atKey_put_other (litT_ne (hne _ (List.getElem_mem hlt)))]
      exact h.val i hlt z
    · have hi2 : i = nm.length := by simp only [List.length_singleton] at hi; omega
      subst hi2
      have e1 : (nm ++ [k])[nm.length]'(by rw [List.length_append]; exact hi) = k := by simp
      have e2 : (ar ++ [o]).getD nm.length (0, 0) = o := by rw [h.len]; simp
      rw [e1, e2]
      exact Maps.atKey_put_same h.own.isMap hkl _ z
  · rw [List.nodup_append]
    refine ⟨h.nd, by simp, fun a ha b hb => ?_⟩
    rw [List.mem_singleton] at hb
    rw [hb]
    exact hne a ha
  · rcases List.mem_append.1 hx with hx | hx
    · exact h.sh x hx
    · rw [List.mem_singleton] at hx; rw [hx]; exact hk
end Go.Proofs.YtgacifbpjdakaaaGreatDoor

/- Maps from numbers to pointers, as a program's own; rows of pointers. -/
import Derived.Test.YtdpgdjpphnbfnaaMI
namespace Go.Vx
/-- Pointers in a row. -/
def prL : Lay Nat := ⟨fun g => [.pointer (some ⟨g, 0, none⟩)], 1, fun _ => rfl, fun a u hu => by simp only [List.mem_cons, List.not_mem_nil, or_false] at hu; subst hu; rfl, by decide⟩
end Go.Vx
namespace Go.Proofs.Ytdpgdjpphnbfnaa
open Go.ChangeShapes Go.WideShapes Go.ChangeAt Go.RowKit
open Go.Vx
set_option linter.unusedVariables false
variable {U V S : Nat → Prop} {w w2 : World} {mb n : Nat} {D : DataW Value} {v : Value} {gs : List Nat}

/-- A pointer, as an element of a map. -/
def RP (v : Value) : Option (DataW Value × List MemPlace) := match v with | .pointer p => some (.held (.pointer p), []) | _ => none
theorem rp_inv {v : Value} {y : DataW Value × List MemPlace} (h : RP v = some y) : ∃ p, v = .pointer p ∧ y = (.held (.pointer p), []) := by
  unfold RP at h
  split at h
  · injection h with h; exact ⟨_, rfl, h.symm⟩
  · cases h
theorem mp_owns {n : Nat} (h : w.ownsMap Try.prog 3 RP mb n D) (ho : Only S w w2) (hb : ¬ S mb) : w2.ownsMap Try.prog 3 RP mb n D := by
  have hml := h.lt
  obtain ⟨e, clock, hb2, F, hs, hD⟩ := h
  exact ⟨e, clock, (ho.block mb hml hb).trans hb2, F, hs, hD⟩
theorem mp_ne {j n : Nat} {c : Array Value} {t : TypeId} {fr : Nat × Nat} (h : w.heap[j]? = some (.cells c t fr)) (h2 : w.ownsMap Try.prog 3 RP mb n D) : j ≠ mb := by
  obtain ⟨es, clock, hb, _⟩ := h2
  rintro rfl
  rw [h] at hb
  cases hb
theorem mp_exact (hm : w.ownsMap Try.prog 3 RP mb n D) : w.ownsMap Try.prog 3 RP mb (Maps.size D) D := by
  obtain ⟨l, clock, hb, F, hs, rfl⟩ := hm
  exact ⟨l, clock, hb, F, by simp [Maps.size, length_sorted], rfl⟩
/-- A map's keys, by what it has. -/
theorem mp_keys {ks : List Int} (hm : w.ownsMap Try.prog 3 RP mb n D) (hs : ∀ k, I64 k → Maps.has D (.int .i64 k) = true → k ∈ ks) (hs2 : ∀ k ∈ ks, Maps.has D (.int .i64 k) = true) (hnd : ks.Nodup) : ks.Perm (intKeys D) ∧ Maps.size D = ks.length := by
  obtain ⟨l, hD, hpw, _⟩ := hm.entries mi_keyed
  obtain ⟨l2, hD2, hko⟩ := hm.keysOf
  obtain rfl : l = l2 := by rw [hD] at hD2; simpa using hD2
  have hk : ∀ p ∈ l, ∃ x, p.1 = .int .i64 x ∧ I64 x := fun p hp => by
    obtain ⟨v, hv⟩ := hko p hp
    obtain ⟨x, _, hx, hw⟩ := Maps.keyOf_i64 Try.underlying3 hv
    exact ⟨x, hx, wf_mi hw⟩
  have hp : ks.Perm (intKeys D) := by
    rw [hD] at hs hs2 ⊢
    refine perm_intKeys hpw (fun p hp => ?_) hnd (fun x => ?_)
    · obtain ⟨x, hx, _⟩ := hk p hp
      exact ⟨x, hx⟩
    · constructor
      · intro hx
        exact hs2 x hx
      · intro hx
        have hx2 := hx
        rw [Maps.has_eq, List.any_eq_true] at hx2
        obtain ⟨p, hp, hpk⟩ := hx2
        obtain ⟨y, hy, hyi⟩ := hk p hp
        rw [hy] at hpk
        have hyx : y = x := by simpa [Lit.sameKey] using hpk
        subst hyx
        exact hs y hyi hx
  refine ⟨hp, ?_⟩
  have h1 := hp.length_eq
  rw [hD] at h1 ⊢
  rw [Maps.size_eq]
  simp only [intKeys, List.length_map] at h1
  exact h1.symm
theorem mpG (h : w.grownBy w2 (some mb)) : Only (fun j => j = mb) w w2 := ⟨h.os, h.tape, h.output, h.size, fun k hk hn => h.block k hk (fun e => hn (by injection e))⟩
theorem lit_ne {k n : Int} (h : k ≠ n) : (Lit.int .i64 k) ≠ (Lit.int .i64 n) := fun e => h (by injection e)
theorem mi_isKey {n : Int} (h : I64 n) : WideAt.IsKeyLit (.int .i64 n) := mi_keyed.key (mi_key h)
def nuG (G : Int → Nat) (n : Int) (g : Nat) : Int → Nat := fun k => if k = n then g else G k
theorem nuG_at (G : Int → Nat) (n : Int) (g : Nat) : nuG G n g n = g := if_pos rfl
theorem nuG_ne (G : Int → Nat) {n k : Int} (g : Nat) (h : k ≠ n) : nuG G n g k = G k := if_neg h
/-- A block of cells. -/
def Lv (w : World) (x : Nat) : Prop := ∃ cs T, w.heap[x]? = some (.cells cs T (0, 0))
def gxF (gs : List Nat) (g : Nat) : Option Nat := idxF (fun x => decide (x = g)) gs 0
/-- Values laid over a row. -/
def setV : List Value → Nat → List Value → List Value
  | xs, _, [] => xs
  | xs, o, v :: r => setV (xs.set o v) (o + 1) r
theorem setV_eq : ∀ (vs xs : List Value) (o : Nat), o + vs.length ≤ xs.length → setV xs o vs = xs.take o ++ vs ++ xs.drop (o + vs.length)
  | [], xs, o, h => by simp [setV]
  | v :: r, xs, o, h => by
    have h2 : o + 1 + r.length ≤ (xs.set o v).length := by rw [List.length_set]; simp only [List.length_cons] at h; omega
    have ho : o < xs.length := by simp only [List.length_cons] at h; omega
    show setV (xs.set o v) (o + 1) r = _
    rw [setV_eq r _ _ h2]
    have e1 : (xs.set o v).take (o + 1) = xs.take o ++ [v] := by
      rw [List.take_set, List.take_succ_eq_append_getElem ho, List.set_append_right _ _ (by rw [List.length_take]; omega)]
      have : o - (xs.take o).length = 0 := by rw [List.length_take]; omega
      rw [this]
      rfl
    have e2 : (xs.set o v).drop (o + 1 + r.length) = xs.drop (o + (v :: r).length) := by
      rw [List.drop_set_of_lt (by omega), List.length_cons]
      congr 1
      omega
    rw [e1, e2]
    simp
theorem own_cells {base g n cap size : Nat} {e : TypeId} : ∀ (vs xs : List Value) (o : Nat) (w : World), w.ownsRow base e size (.slice (some ⟨g, 0, none⟩) n cap) n xs → (w.setCells g o vs).ownsRow base e size (.slice (some ⟨g, 0, none⟩) n cap) n (setV xs o vs) ∧ Only (fun k => k = g) w (w.setCells g o vs)
  | [], xs, o, w, h => ⟨h, Only.refl _ _⟩
  | v :: r, xs, o, w, h => by
    have h1 := (World.ownsRow.stored h o v).1
    obtain ⟨h2, h3⟩ := own_cells r (xs.set o v) (o + 1) _ h1
    exact ⟨h2, (Only.setCell (S := fun k => k = g) (Only.refl _ w) (Or.inl rfl) v).trans h3⟩
theorem own_drew {base n size : Nat} {e : TypeId} {xs : List Value} (h : w.ownsRow base e size v n xs) : w.drew.ownsRow base e size v n xs := by
  refine ⟨h.1, ?_⟩
  rcases h.2 with h' | ⟨g', cap', cur, h', hb, hg, rest⟩
  · exact Or.inl h'
  · exact Or.inr ⟨g', cap', cur, h', hb, hg, rest⟩
/-- A row told shorter. -/
theorem own_cut {base g n cap m size : Nat} {e : TypeId} {xs : List Value} (h : w.ownsRow base e size (.slice (some ⟨g, 0, none⟩) n cap) n xs) (hm : m ≤ n) : w.ownsRow base e size (.slice (some ⟨g, 0, none⟩) m cap) m (xs.take (m * size)) := by
  have hms : m * size ≤ n * size := Nat.mul_le_mul_right _ hm
  refine ⟨by rw [List.length_take, h.1]; omega, ?_⟩
  rcases h.2 with ⟨h', _⟩ | ⟨g', cap', cur, h', hb, hg, hnc, hcm, hcs, htake⟩
  · cases h'
  · simp only [Value.slice.injEq, Option.some.injEq, Addr.mk.injEq, and_true, true_and] at h'
    obtain ⟨rfl, rfl⟩ := h'
    refine Or.inr ⟨g, cap, cur, rfl, hb, hg, Nat.le_trans hm hnc, hcm, hcs, ?_⟩
    rw [← htake, List.take_take]
    congr 1
    omega
theorem fl_pr (gs : List Nat) : fl prL gs = gs.map (fun g => Value.pointer (some ⟨g, 0, none⟩)) := by
  induction gs with
  | nil => rfl
  | cons a l ih => rw [fl_cons, ih]; rfl
theorem filter_at {i : Nat} (hn : gs.Nodup) (hi : i < gs.length) : gs.filter (fun x => decide (x ≠ gs[i])) = gs.take i ++ gs.drop (i + 1) := by
  have h1 := List.pairwise_iff_getElem.1 hn
  have hl : ∀ x ∈ gs.take i, decide (x ≠ gs[i]) = true := fun x hx => by
    obtain ⟨j, hj, rfl⟩ := List.getElem_of_mem hx
    rw [List.length_take] at hj
    rw [List.getElem_take]
    exact decide_eq_true (h1 j i (by omega) hi (by omega))
  have hr : ∀ x ∈ gs.drop (i + 1), decide (x ≠ gs[i]) = true := fun x hx => by
    obtain ⟨j, hj, rfl⟩ := List.getElem_of_mem hx
    rw [List.length_drop] at hj
    rw [List.getElem_drop]
    exact decide_eq_true (fun e => h1 i (i + 1 + j) hi (by omega) (by omega) e.symm)
  have e : gs = gs.take i ++ gs[i] :: gs.drop (i + 1) := by rw [← List.drop_eq_getElem_cons hi, List.take_append_drop]
  have e2 : gs.filter (fun x => decide (x ≠ gs[i])) = (gs.take i ++ gs[i] :: gs.drop (i + 1)).filter (fun x => decide (x ≠ gs[i])) := by rw [← e]
  rw [e2, List.filter_append, List.filter_cons, List.filter_eq_self.2 hl, List.filter_eq_self.2 hr]
  simp
def alV (x : Nat) : Array Value := #[.pointer (some ⟨x, 0, none⟩)]
/-- Some blocks lie as they lay. -/
def Kq (A : Nat → Prop) (W W2 : World) : Prop := ∀ b, A b → W2.heap[b]? = W.heap[b]?
theorem Kq.trans {A : Nat → Prop} {a b c : World} (h : Kq A a b) (k : Kq A b c) : Kq A a c := fun x hx => (k x hx).trans (h x hx)
end Go.Proofs.Ytdpgdjpphnbfnaa

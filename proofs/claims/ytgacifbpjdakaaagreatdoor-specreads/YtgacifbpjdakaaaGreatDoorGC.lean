/- Lists of one's own, common to the packages: kinds, tags, where a grown list lies; a list as it lies. -/
import Derived.Test.YtgacifbpjdakaaaGreatDoorCG
import Derived.Test.YtgacifbpjdakaaaGreatDoorCB0
namespace Go.Vx
theorem nodup_le {α : Type} [DecidableEq α] : ∀ (l m : List α), l.Nodup → (∀ x ∈ l, x ∈ m) → l.length ≤ m.length
  | [], m, _, _ => Nat.zero_le _
  | x :: l, m, hn, hs => by
    rw [List.nodup_cons] at hn
    have hx := hs x (by simp)
    have h1 := nodup_le l (m.erase x) hn.2 (fun y hy => by
      have hyx : y ≠ x := fun e => hn.1 (by rw [← e]; exact hy)
      exact (List.mem_erase_of_ne hyx).2 (hs y (by simp [hy])))
    rw [List.length_erase_of_mem hx] at h1
    have : 0 < m.length := List.length_pos_of_mem hx
    rw [List.length_cons]
    omega
end Go.Vx
namespace Go.Proofs.YtgacifbpjdakaaaGreatDoor
open Go.ChangeShapes Go.WideShapes Go.ChangeAt Go.RowKit
open Go.Vx
set_option linter.unusedVariables false

theorem kind_of {α : Type} {L : Lay α} {t e : TypeId} {z : Value} {b : Nat} (ht : Tryz.prog.underlying t = some (.slice e)) (h : (Tryz.prog.info? e).map (fun i => (i.zero, i.size, i.bytes)) = some (some z, L.sz, b)) (hz : z.cells.size = L.sz) (hb : b ≤ 1000) : Kind Tryz.prog L t e := by
  refine ⟨ht, ?_⟩
  cases hq : Tryz.prog.info? e with
  | none => rw [hq] at h; simp at h
  | some i =>
    rw [hq] at h
    simp only [Option.map_some, Option.some.injEq, Prod.mk.injEq] at h
    exact ⟨i, z, rfl, h.1, h.2.1, by omega, hz⟩
theorem own_tag {α : Type} {L : Lay α} {w : World} {base : Nat} {e : TypeId} {v : Value} {xs : List α} (h : OwnL L w base e v xs) {k : Nat} (hk : v.ownBlock = some k) : ∃ cur, w.heap[k]? = some (.cells cur e (0, 0)) := by
  rcases h.2 with ⟨hv, _⟩ | ⟨g, cap, cur, hv, _, hg, _⟩
  · rw [hv] at hk; cases hk
  · rw [hv] at hk
    have : g = k := by simpa [Value.ownBlock] using hk
    subst this
    exact ⟨cur, hg⟩
theorem tag_ne {w : World} {j k : Nat} {c d : Array Value} {t u : TypeId} (h : w.heap[j]? = some (.cells c t (0, 0))) (h' : w.heap[k]? = some (.cells d u (0, 0))) (hn : t ≠ u) : j ≠ k := by
  rintro rfl
  rw [h] at h'
  injection h' with h'
  injection h' with _ h'
  exact hn h'
/-- Where a grown list lies. -/
theorem lies_of {w w3 : World} {v v' : Value} (h : v'.ownBlock = v.ownBlock ∨ ∃ g, v'.ownBlock = some g ∧ w.heap.size ≤ g ∧ Only (fun _ => False) w w3) : ∀ k, v'.ownBlock = some k → v.ownBlock = some k ∨ w.heap.size ≤ k := by
  intro k hk
  rcases h with h | ⟨g, h, hg, _⟩
  · rw [h] at hk; exact Or.inl hk
  · rw [h] at hk
    injection hk with hk
    subst hk
    exact Or.inr hg
theorem own_zero {α : Type} {L : Lay α} {w : World} {base : Nat} {e : TypeId} {v : Value} {xs : List α} (h : OwnL L w base e v xs) : OwnL L w 0 e v xs :=
  ⟨h.1, h.2.imp (fun h => h) (fun ⟨g, cap, cur, a, b, c⟩ => ⟨g, cap, cur, a, Nat.zero_le _, c⟩)⟩
theorem own_lt {α : Type} {L : Lay α} {w : World} {base : Nat} {e : TypeId} {v : Value} {xs : List α} (h : OwnL L w base e v xs) {k : Nat} (hk : v.ownBlock = some k) : base ≤ k ∧ k < w.heap.size := World.ownsRow.lt h k hk
theorem Only.keep {S : Nat → Prop} {w w2 : World} (h : Only S w w2) {b : Nat} {o : Obj} (hb : w.heap[b]? = some o) (hS : ¬ S b) : w2.heap[b]? = some o := by rw [h.block b (lt_of_some hb) hS]; exact hb
/-- The marks of a slot, where it lies. -/
theorem own_slot {w : World} {base g c m : Nat} {T : TypeId} {xs : List Sl} (h : OwnL slL w base T (.slice (some ⟨g, 0, none⟩) m c) xs) (hm : m = xs.length) (k : Nat) (hk : k < xs.length) (y : Sl) :
    OwnL slL ((w.setCell ⟨g, k * 2, none⟩ (.int .i64 y.1)).setCell ⟨g, k * 2 + 1, none⟩ (.int .i64 y.2)) base T (.slice (some ⟨g, 0, none⟩) m c) (xs.set k y) ∧ Only (fun b => b = g) w ((w.setCell ⟨g, k * 2, none⟩ (.int .i64 y.1)).setCell ⟨g, k * 2 + 1, none⟩ (.int .i64 y.2)) := by
  subst hm
  have h0 := (World.ownsRow.stored h (k * 2) (.int .i64 y.1)).1
  have h1 := (World.ownsRow.stored h0 (k * 2 + 1) (.int .i64 y.2)).1
  have o1 : Only (fun b => b = g) w (w.setCell ⟨g, k * 2, none⟩ (.int .i64 y.1)) := Only.setCell (S := fun b => b = g) (Only.refl _ w) (Or.inl rfl) _
  have o2 := Only.setCell (S := fun b => b = g) o1 (p := ⟨g, k * 2 + 1, none⟩) (Or.inl rfl) (.int .i64 y.2)
  refine ⟨?_, o2⟩
  have hz : ((fl slL xs).set (k * 2) (.int .i64 y.1)).set (k * 2 + 1) (.int .i64 y.2) = fl slL (xs.set k y) := by
    refine fl_set slL xs k y hk _ (by simp) (fun j hj => ?_) (fun i hi => ?_)
    · have hj' : j < 2 := hj
      have hlen : (fl slL xs).length = xs.length * 2 := length_fl slL xs
      have hs2 : slL.sz = 2 := rfl
      rw [hs2, List.getElem?_set, List.getElem?_set]
      rcases (by omega : j = 0 ∨ j = 1) with rfl | rfl
      · rw [if_neg (by omega), if_pos (by omega), if_pos (by rw [hlen]; omega)]; rfl
      · rw [if_pos (by omega), if_pos (by rw [List.length_set, hlen]; omega)]; rfl
    · have hs2 : slL.sz = 2 := rfl
      rw [hs2] at hi
      rw [List.getElem?_set, List.getElem?_set, if_neg (by omega), if_neg (by omega)]
  rw [hz] at h1
  show World.ownsRow _ _ _ _ _ (xs.set k y).length _
  rw [List.length_set]
  exact h1
/-- Numbers in a row. -/
def inL : Lay Int := ⟨fun x => [.int .i64 x], 1, fun _ => rfl, fun a u hu => by simp only [List.mem_cons, List.not_mem_nil, or_false] at hu; subst hu; rfl, by decide⟩
/-- A list as it lies. -/
def LieL {α : Type} (L : Lay α) (w : World) (v : Value) (xs : List α) : Prop := ∃ p c, v = .slice p xs.length c ∧ xs.length ≤ 10000000 ∧ ∀ (k : Nat) (hk : k < xs.length), ∃ g, p = some ⟨g, 0, none⟩ ∧ ∀ j, j < L.sz → w.cell? ⟨g, k * L.sz + j, none⟩ = (L.cf xs[k])[j]?
theorem own_lie {α : Type} {L : Lay α} {w : World} {base : Nat} {e : TypeId} {v : Value} {xs : List α} (h : OwnL L w base e v xs) (hn : xs.length ≤ 10000000) : LieL L w v xs := by
  obtain ⟨p, c, rfl, _, _, hg⟩ := h.form
  refine ⟨p, c, rfl, hn, fun k hk => ?_⟩
  obtain ⟨g, rfl, _⟩ := hg (by omega)
  exact ⟨g, rfl, fun j hj => h.cell k j hk hj⟩
end Go.Proofs.YtgacifbpjdakaaaGreatDoor

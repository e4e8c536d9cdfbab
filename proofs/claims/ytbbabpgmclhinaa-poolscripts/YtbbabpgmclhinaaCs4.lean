import Derived.Test.YtbbabpgmclhinaaCs2
import Derived.Test.YtbbabpgmclhinaaCs3
/- Chapter 7, pure: boxes and entries, and what the document's calls make of them. -/
namespace Go.Vx
set_option linter.unusedVariables false
/-- A slot: its box, its index. -/
abbrev Sl := Int × Int
/-- A capability. -/
structure Cp where
  kind : Int
  num : Int
  rights : Int
  badge : Int
  guard : Int
  gbits : Int
  root : Int
  va : Int
def Cp.df : Cp := ⟨0, 0, 0, 0, 0, 0, 0, 0⟩
/-- A slot with what is in it, and from where that comes. -/
structure En where
  at' : Sl
  cap : Cp
  from' : Sl
def En.df : En := ⟨(0, 0), .df, (0, 0)⟩
def slC (s : Sl) : List Value := [.int .i64 s.1, .int .i64 s.2]
def cpC (c : Cp) : List Value := [.int .i64 c.kind, .int .i64 c.num, .int .i64 c.rights, .int .u32 c.badge, .int .u32 c.guard, .int .i64 c.gbits, .int .i64 c.root, .int .u32 c.va]
def enC (e : En) : List Value := slC e.at' ++ cpC e.cap ++ slC e.from'
theorem enC_eq (e : En) : enC e = [.int .i64 e.at'.1, .int .i64 e.at'.2, .int .i64 e.cap.kind, .int .i64 e.cap.num, .int .i64 e.cap.rights, .int .u32 e.cap.badge, .int .u32 e.cap.guard, .int .i64 e.cap.gbits, .int .i64 e.cap.root, .int .u32 e.cap.va, .int .i64 e.from'.1, .int .i64 e.from'.2] := rfl
def slL : Lay Sl := ⟨slC, 2, fun _ => rfl, fun a u hu => by simp only [slC, List.mem_cons, List.not_mem_nil, or_false] at hu; rcases hu with rfl | rfl <;> rfl, by decide⟩
def enL : Lay En := ⟨enC, 12, fun _ => rfl, fun a u hu => by
  rw [enC_eq] at hu
  simp only [List.mem_cons, List.not_mem_nil, or_false] at hu
  rcases hu with rfl | rfl | rfl | rfl | rfl | rfl | rfl | rfl | rfl | rfl | rfl | rfl <;> rfl, by decide⟩
/-- A box: its number, its slots. -/
def bxL : Lay (Int × Int) := slL
def twoB (n : Int) : Bool := decide (n = 1 ∨ n = 2 ∨ n = 4 ∨ n = 8 ∨ n = 16 ∨ n = 32 ∨ n = 64)
def aheadB (a b : Sl) : Bool := decide (a.1 < b.1 ∨ (a.1 = b.1 ∧ a.2 < b.2))
/-- The first that is so, from k on. -/
def idxF {α : Type} (p : α → Bool) : List α → Nat → Option Nat
  | [], _ => none
  | a :: l, k => if p a then some k else idxF p l (k + 1)
def idI (o : Option Nat) : Int := match o with | some k => k | none => -1
theorem idxF_lt {α : Type} {p : α → Bool} : ∀ {l : List α} {k i : Nat}, idxF p l k = some i → k ≤ i ∧ i < k + l.length
  | [], k, i, h => by cases h
  | a :: l, k, i, h => by
    unfold idxF at h
    by_cases hp : p a = true
    · rw [if_pos hp] at h; injection h with h; subst h; simp
    · rw [if_neg hp] at h
      have := idxF_lt h
      simp only [List.length_cons]
      omega
theorem idxF_get {α : Type} {p : α → Bool} : ∀ {l : List α} {k i : Nat} (h : idxF p l k = some i), ∃ (hi : i - k < l.length), p (l[i - k]) = true
  | [], k, i, h => by cases h
  | a :: l, k, i, h => by
    unfold idxF at h
    by_cases hp : p a = true
    · rw [if_pos hp] at h; injection h with h; subst h; exact ⟨by simp, by simpa using hp⟩
    · rw [if_neg hp] at h
      have h1 := idxF_lt h
      obtain ⟨h2, h3⟩ := idxF_get h
      have e : i - k = (i - (k + 1)) + 1 := by omega
      refine ⟨by simp only [List.length_cons]; omega, ?_⟩
      have : (a :: l)[i - k]'(by simp only [List.length_cons]; omega) = l[i - (k + 1)] := by simp only [e, List.getElem_cons_succ]
      rw [this]; exact h3
theorem idxF_none {α : Type} {p : α → Bool} : ∀ {l : List α} {k : Nat}, idxF p l k = none → ∀ a ∈ l, p a = false
  | [], k, h, a, ha => by cases ha
  | b :: l, k, h, a, ha => by
    unfold idxF at h
    by_cases hp : p b = true
    · rw [if_pos hp] at h; cases h
    · rw [if_neg hp] at h
      rcases List.mem_cons.1 ha with rfl | ha
      · simpa using hp
      · exact idxF_none h a ha
/-- What is still to be looked at from k on. -/
theorem idxF_step {α : Type} {p : α → Bool} (l : List α) (k : Nat) (hk : k < l.length) : idxF p (l.drop k) k = if p l[k] then some k else idxF p (l.drop (k + 1)) (k + 1) := by
  rw [List.drop_eq_getElem_cons hk]
  rfl
theorem idxF_end {α : Type} {p : α → Bool} (l : List α) : idxF p (l.drop l.length) l.length = none := by
  rw [List.drop_length]; rfl
def boxF (bs : List (Int × Int)) (n : Int) : Option Nat := idxF (fun b => decide (b.1 = n)) bs 0
def entF (es : List En) (s : Sl) : Option Nat := idxF (fun e => decide (e.at' = s)) es 0
/-- A box's slots. -/
def sizeF (bs : List (Int × Int)) (n : Int) : Option Int := (boxF bs n).map fun i => (bs.getD i (0, 0)).2
/-- A slot called for as full: where it is, or the error. -/
def fullF (bs : List (Int × Int)) (es : List En) (s : Sl) : Except Int Nat :=
  match sizeF bs s.1 with
  | none => .error 9
  | some n => if s.2 < 0 ∨ n ≤ s.2 then .error 9 else match entF es s with
    | none => .error 11
    | some i => .ok i
def fullE (r : Except Int Nat) : Int := match r with | .ok _ => 0 | .error e => e
def fullI (r : Except Int Nat) : Int := match r with | .ok i => i | .error _ => 0
def freeF (bs : List (Int × Int)) (es : List En) (s : Sl) : Int := match fullF bs es s with | .ok _ => 10 | .error e => if e = 11 then 0 else e
end Go.Vx

/- Lists of one's own, common to the packages: kinds, tags, where a grown list lies; a list as it lies. -/
namespace Go.Vx
theorem nodup_le {α : Type} [DecidableEq α] : ∀ (l m : List α), l.Nodup → (∀ x ∈ l, x ∈ m) → l.length ≤ m.length
  | [], m, _, _ => Nat.zero_le _
  | x :: l, m, hn, hs => by
    rw [List.nodup_cons] at hn
    have hx := hs x (by simp)
    have h1 := nodup_le l (m.erase x) hn.2 (fun y hy => by
      have hyx : y ≠ x := fun e => hn.1 (by rw [← e]; exact hy)
      exact (List.mem_erase_of_ne hyx).2 (hs y (by simp [hy])))
    rw [List.length_erase_of_mem hx] at h1
    have : 0 < m.length := List.length_pos_of_mem hx
    rw [List.length_cons]
    omega
end Go.Vx
namespace Go.Proofs.Ytbbabpgmclhinaa
open Go.ChangeShapes Go.WideShapes Go.ChangeAt Go.RowKit
open Go.Vx
set_option linter.unusedVariables false

theorem kind_of {α : Type} {L : Lay α} {t e : TypeId} {z : Value} {b : Nat} (ht : Try.prog.underlying t = some (.slice e)) (h : (Try.prog.info? e).map (fun i => (i.zero, i.size, i.bytes)) = some (some z, L.sz, b)) (hz : z.cells.size = L.sz) (hb : b ≤ 1000) : Kind Try.prog L t e := by
  refine ⟨ht, ?_⟩
  cases hq : Try.prog.info? e with
  | none => rw [hq] at h; simp at h
  | some i =>
    rw [hq] at h
    simp only [Option.map_some, Option.some.injEq, Prod.mk.injEq] at h
    exact ⟨i, z, rfl, h.1, h.2.1, by omega, hz⟩
theorem own_tag {α : Type} {L : Lay α} {w : World} {base : Nat} {e : TypeId} {v : Value} {xs : List α} (h : OwnL L w base e v xs) {k : Nat} (hk : v.ownBlock = some k) : ∃ cur, w.heap[k]? = some (.cells cur e (0, 0)) := by
  rcases h.2 with ⟨hv, _⟩ | ⟨g, cap, cur, hv, _, hg, _⟩
  · rw [hv] at hk; cases hk
  · rw [hv] at hk
    have : g = k := by simpa [Value.ownBlock] using hk
    subst this
    exact ⟨cur, hg⟩
theorem tag_ne {w : World} {j k : Nat} {c d : Array Value} {t u : TypeId} (h : w.heap[j]? = some (.cells c t (0, 0))) (h' : w.heap[k]? = some (.cells d u (0, 0))) (hn : t ≠ u) : j ≠ k := by
  rintro rfl
  rw [h] at h'
  injection h' with h'
  injection h' with _ h'
  exact hn h'
/-- Where a grown list lies. -/
theorem lies_of {w w3 : World} {v v' : Value} (h : v'.ownBlock = v.ownBlock ∨ ∃ g, v'.ownBlock = some g ∧ w.heap.size ≤ g ∧ Only (fun _ => False) w w3) : ∀ k, v'.ownBlock = some k → v.ownBlock = some k ∨ w.heap.size ≤ k := by
  intro k hk
  rcases h with h | ⟨g, h, hg, _⟩
  · rw [h] at hk; exact Or.inl hk
  · rw [h] at hk
    injection hk with hk
    subst hk
    exact Or.inr hg
theorem own_zero {α : Type} {L : Lay α} {w : World} {base : Nat} {e : TypeId} {v : Value} {xs : List α} (h : OwnL L w base e v xs) : OwnL L w 0 e v xs :=
  ⟨h.1, h.2.imp (fun h => h) (fun ⟨g, cap, cur, a, b, c⟩ => ⟨g, cap, cur, a, Nat.zero_le _, c⟩)⟩
theorem own_lt {α : Type} {L : Lay α} {w : World} {base : Nat} {e : TypeId} {v : Value} {xs : List α} (h : OwnL L w base e v xs) {k : Nat} (hk : v.ownBlock = some k) : base ≤ k ∧ k < w.heap.size := World.ownsRow.lt h k hk
theorem Only.keep {S : Nat → Prop} {w w2 : World} (h : Only S w w2) {b : Nat} {o : Obj} (hb : w.heap[b]? = some o) (hS : ¬ S b) : w2.heap[b]? = some o := by rw [h.block b (lt_of_some hb) hS]; exact hb
/-- The marks of a slot, where it lies. -/
theorem own_slot {w : World} {base g c m : Nat} {T : TypeId} {xs : List Sl} (h : OwnL slL w base T (.slice (some ⟨g, 0, none⟩) m c) xs) (hm : m = xs.length) (k : Nat) (hk : k < xs.length) (y : Sl) :
    OwnL slL ((w.setCell ⟨g, k * 2, none⟩ (.int .i64 y.1)).setCell ⟨g, k * 2 + 1, none⟩ (.int .i64 y.2)) base T (.slice (some ⟨g, 0, none⟩) m c) (xs.set k y) ∧ Only (fun b => b = g) w ((w.setCell ⟨g, k * 2, none⟩ (.int .i64 y.1)).setCell ⟨g, k * 2 + 1, none⟩ (.int .i64 y.2)) := by
  subst hm
  have h0 := (World.ownsRow.stored h (k * 2) (.int .i64 y.1)).1
  have h1 := (World.ownsRow.stored h0 (k * 2 + 1) (.int .i64 y.2)).1
  have o1 : Only (fun b => b = g) w (w.setCell ⟨g, k * 2, none⟩ (.int .i64 y.1)) := Only.setCell (S := fun b => b = g) (Only.refl _ w) (Or.inl rfl) _
  have o2 := Only.setCell (S := fun b => b = g) o1 (p := ⟨g, k * 2 + 1, none⟩) (Or.inl rfl) (.int .i64 y.2)
  refine ⟨?_, o2⟩
  have hz : ((fl slL xs).set (k * 2) (.int .i64 y.1)).set (k * 2 + 1) (.int .i64 y.2) = fl slL (xs.set k y) := by
    refine fl_set slL xs k y hk _ (by simp) (fun j hj => ?_) (fun i hi => ?_)
    · have hj' : j < 2 := hj
      have hlen : (fl slL xs).length = xs.length * 2 := length_fl slL xs
      have hs2 : slL.sz = 2 := rfl
      rw [hs2, List.getElem?_set, List.getElem?_set]
      rcases (by omega : j = 0 ∨ j = 1) with rfl | rfl
      · rw [if_neg (by omega), if_pos (by omega), if_pos (by rw [hlen]; omega)]; rfl
      · rw [if_pos (by omega), if_pos (by rw [List.length_set, hlen]; omega)]; rfl
    · have hs2 : slL.sz = 2 := rfl
      rw [hs2] at hi
      rw [List.getElem?_set, List.getElem?_set, if_neg (by omega), if_neg (by omega)]
  rw [hz] at h1
  show World.ownsRow _ _ _ _ _ (xs.set k y).length _
  rw [List.length_set]
  exact h1
/-- Numbers in a row. -/
def inL : Lay Int := ⟨fun x => [.int .i64 x], 1, fun _ => rfl, fun a u hu => by simp only [List.mem_cons, List.not_mem_nil, or_false] at hu; subst hu; rfl, by decide⟩
/-- A list as it lies. -/
def LieL {α : Type} (L : Lay α) (w : World) (v : Value) (xs : List α) : Prop := ∃ p c, v = .slice p xs.length c ∧ xs.length ≤ 10000000 ∧ ∀ (k : Nat) (hk : k < xs.length), ∃ g, p = some ⟨g, 0, none⟩ ∧ ∀ j, j < L.sz → w.cell? ⟨g, k * L.sz + j, none⟩ = (L.cf xs[k])[j]?
theorem own_lie {α : Type} {L : Lay α} {w : World} {base : Nat} {e : TypeId} {v : Value} {xs : List α} (h : OwnL L w base e v xs) (hn : xs.length ≤ 10000000) : LieL L w v xs := by
  obtain ⟨p, c, rfl, _, _, hg⟩ := h.form
  refine ⟨p, c, rfl, hn, fun k hk => ?_⟩
  obtain ⟨g, rfl, _⟩ := hg (by omega)
  exact ⟨g, rfl, fun j hj => h.cell k j hk hj⟩
end Go.Proofs.Ytbbabpgmclhinaa

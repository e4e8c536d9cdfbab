/- Chapter 7, pure: boxes and entries, and what the document's calls make of them. -/
import Derived.Test.YtdpgdjpphnbfnaaGA
namespace Go.Vx
set_option linter.unusedVariables false
/-- A slot: its box, its index. -/
abbrev Sl := Int × Int
/-- A capability. -/
structure Cp where
  kind : Int
  num : Int
  rights : Int
  badge : Int
  guard : Int
  gbits : Int
  root : Int
  va : Int
def Cp.df : Cp := ⟨0, 0, 0, 0, 0, 0, 0, 0⟩
/-- A slot with what is in it, and from where that comes. -/
structure En where
  at' : Sl
  cap : Cp
  from' : Sl
def En.df : En := ⟨(0, 0), .df, (0, 0)⟩
def slC (s : Sl) : List Value := [.int .i64 s.1, .int .i64 s.2]
def cpC (c : Cp) : List Value := [.int .i64 c.kind, .int .i64 c.num, .int .i64 c.rights, .int .u32 c.badge, .int .u32 c.guard, .int .i64 c.gbits, .int .i64 c.root, .int .u32 c.va]
def enC (e : En) : List Value := slC e.at' ++ cpC e.cap ++ slC e.from'
theorem enC_eq (e : En) : enC e = [.int .i64 e.at'.1, .int .i64 e.at'.2, .int .i64 e.cap.kind, .int .i64 e.cap.num, .int .i64 e.cap.rights, .int .u32 e.cap.badge, .int .u32 e.cap.guard, .int .i64 e.cap.gbits, .int .i64 e.cap.root, .int .u32 e.cap.va, .int .i64 e.from'.1, .int .i64 e.from'.2] := rfl
def slL : Lay Sl := ⟨slC, 2, fun _ => rfl, fun a u hu => by simp only [slC, List.mem_cons, List.not_mem_nil, or_false] at hu; rcases hu with rfl | rfl <;> rfl, by decide⟩
def enL : Lay En := ⟨enC, 12, fun _ => rfl, fun a u hu => by
  rw [enC_eq] at hu
  simp only [List.mem_cons, List.not_mem_nil, or_false] at hu
  rcases hu with rfl | rfl | rfl | rfl | rfl | rfl | rfl | rfl | rfl | rfl | rfl | rfl <;> rfl, by decide⟩
/-- A box: its number, its slots. -/
def bxL : Lay (Int × Int) := slL
def twoB (n : Int) : Bool := decide (n = 1 ∨ n = 2 ∨ n = 4 ∨ n = 8 ∨ n = 16 ∨ n = 32 ∨ n = 64)
def aheadB (a b : Sl) : Bool := decide (a.1 < b.1 ∨ (a.1 = b.1 ∧ a.2 < b.2))
/-- The first that is so, from k on. -/
def idxF {α : Type} (p : α → Bool) : List α → Nat → Option Nat
  | [], _ => none
  | a :: l, k => if p a then some k else idxF p l (k + 1)
def idI (o : Option Nat) : Int := match o with | some k => k | none => -1
theorem idxF_lt {α : Type} {p : α → Bool} : ∀ {l : List α} {k i : Nat}, idxF p l k = some i → k ≤ i ∧ i < k + l.length
  | [], k, i, h => by cases h
  | a :: l, k, i, h => by
    unfold idxF at h
    by_cases hp : p a = true
    · rw [if_pos hp] at h; injection h with h; subst h; simp
    · rw [if_neg hp] at h
      have := idxF_lt h
      simp only [List.length_cons]
      omega
theorem idxF_get {α : Type} {p : α → Bool} : ∀ {l : List α} {k i : Nat} (h : idxF p l k = some i), ∃ (hi : i - k < l.length), p (l[i - k]) = true
  | [], k, i, h => by cases h
  | a :: l, k, i, h => by
    unfold idxF at h
    by_cases hp : p a = true
    · rw [if_pos hp] at h; injection h with h; subst h; exact ⟨by simp, by simpa using hp⟩
    · rw [if_neg hp] at h
      have h1 := idxF_lt h
      obtain ⟨h2, h3⟩ := idxF_get h
      have e : i - k = (i - (k + 1)) + 1 := by omega
      refine ⟨by simp only [List.length_cons]; omega, ?_⟩
      have : (a :: l)[i - k]'(by simp only [List.length_cons]; omega) = l[i - (k + 1)] := by simp only [e, List.getElem_cons_succ]
      rw [this]; exact h3
theorem idxF_none {α : Type} {p : α → Bool} : ∀ {l : List α} {k : Nat}, idxF p l k = none → ∀ a ∈ l, p a = false
  | [], k, h, a, ha => by cases ha
  | b :: l, k, h, a, ha => by
    unfold idxF at h
    by_cases hp : p b = true
    · rw [if_pos hp] at h; cases h
    · rw [if_neg hp] at h
      rcases List.mem_cons.1 ha with rfl | ha
      · simpa using hp
      · exact idxF_none h a ha
/-- What is still to be looked at from k on. -/
theorem idxF_step {α : Type} {p : α → Bool} (l : List α) (k : Nat) (hk : k < l.length) : idxF p (l.drop k) k = if p l[k] then some k else idxF p (l.drop (k + 1)) (k + 1) := by
  rw [List.drop_eq_getElem_cons hk]
  rfl
theorem idxF_end {α : Type} {p : α → Bool} (l : List α) : idxF p (l.drop l.length) l.length = none := by
  rw [List.drop_length]; rfl
def boxF (bs : List (Int × Int)) (n : Int) : Option Nat := idxF (fun b => decide (b.1 = n)) bs 0
def entF (es : List En) (s : Sl) : Option Nat := idxF (fun e => decide (e.at' = s)) es 0
/-- A box's slots. -/
def sizeF (bs : List (Int × Int)) (n : Int) : Option Int := (boxF bs n).map fun i => (bs.getD i (0, 0)).2
/-- A slot called for as full: where it is, or the error. -/
def fullF (bs : List (Int × Int)) (es : List En) (s : Sl) : Except Int Nat :=
  match sizeF bs s.1 with
  | none => .error 9
  | some n => if s.2 < 0 ∨ n ≤ s.2 then .error 9 else match entF es s with
    | none => .error 11
    | some i => .ok i
def fullE (r : Except Int Nat) : Int := match r with | .ok _ => 0 | .error e => e
def fullI (r : Except Int Nat) : Int := match r with | .ok i => i | .error _ => 0
def freeF (bs : List (Int × Int)) (es : List En) (s : Sl) : Int := match fullF bs es s with | .ok _ => 10 | .error e => if e = 11 then 0 else e
end Go.Vx

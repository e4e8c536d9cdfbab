/- Pure: a line's words. -/
import Derived.Lib.FieldsP
import Derived.Laws.RangeString
import Derived.Lib.CutLaws
import Derived.Lib.ItoaNum
namespace Go.Vx
set_option linter.unusedVariables false
def sepB (c : UInt8) : Bool := c == 32 || c == 9
def sepN (x : Nat) : Bool := x == 32 || x == 9
theorem sepN_eq (c : UInt8) : sepN c.toNat = sepB c := by
  unfold sepN sepB
  have h : ∀ k : UInt8, (c.toNat == k.toNat) = (c == k) := fun k => by
    by_cases h : c = k
    · subst h; simp
    · have h2 : c.toNat ≠ k.toNat := fun e => h (UInt8.toNat_inj.1 e)
      rw [beq_eq_false_iff_ne.2 h, beq_eq_false_iff_ne.2 h2]
  rw [← h 32, ← h 9]
  rfl
/-- What stands between blanks and tabs: cur is the word under way. -/
def fldL : List UInt8 → List UInt8 → List (List UInt8)
  | cur, [] => if cur = [] then [] else [cur]
  | cur, c :: l => if sepB c then (if cur = [] then fldL [] l else cur :: fldL [] l) else fldL (cur ++ [c]) l
def mkB (l : List UInt8) : ByteArray := ⟨l.toArray⟩
def curF (l : List UInt8) (pos : Nat) : Option Nat → List UInt8
  | none => []
  | some a => (l.drop a).take (pos - a)
theorem cutB_eq (l : List UInt8) (a b : Nat) : (mkB l).extract a b = mkB ((l.drop a).take (b - a)) := by
  apply ByteArray.ext
  apply Array.ext'
  rw [Lib.extract_data]
  rfl
theorem cur_next (l : List UInt8) (a pos : Nat) (ha : a ≤ pos) (hp : pos < l.length) : (l.drop a).take (pos + 1 - a) = (l.drop a).take (pos - a) ++ [l[pos]] := by
  have e : pos + 1 - a = (pos - a) + 1 := by omega
  rw [e, List.take_add_one, List.getElem?_drop, show a + (pos - a) = pos by omega, List.getElem?_eq_getElem hp]
  rfl
theorem spans_fld (l : List UInt8) (hl : ∀ b ∈ l, b.toNat < 128) : ∀ (f pos : Nat) (st : Option Nat) (acc : List (Nat × Nat)), pos ≤ l.length → l.length ≤ pos + f → (∀ a, st = some a → a < pos) →
    (Lib.closeSpans (mkB l) (Lib.spansFromP sepN (mkB l) f pos st acc)).map (fun x => (mkB l).extract x.1 x.2) = acc.map (fun x => (mkB l).extract x.1 x.2) ++ (fldL (curF l pos st) (l.drop pos)).map mkB := by
  have hsz : (mkB l).size = l.length := by simp [mkB, ByteArray.size]
  have hend : ∀ (pos : Nat) (st : Option Nat) (acc : List (Nat × Nat)), pos = l.length → (∀ a, st = some a → a < pos) → (Lib.closeSpans (mkB l) (acc, st)).map (fun x => (mkB l).extract x.1 x.2) = acc.map (fun x => (mkB l).extract x.1 x.2) ++ (fldL (curF l pos st) (l.drop pos)).map mkB := by
    rintro pos st acc rfl hst
    rw [List.drop_length]
    cases st with
    | none => simp [Lib.closeSpans, curF, fldL]
    | some a =>
      have ha := hst a rfl
      have hne : curF l l.length (some a) ≠ [] := by
        intro e
        have := congrArg List.length e
        simp [curF] at this
        omega
      have e : fldL (curF l l.length (some a)) [] = [curF l l.length (some a)] := by
        show (if curF l l.length (some a) = [] then _ else _) = _
        rw [if_neg hne]
      rw [e]
      simp [Lib.closeSpans, curF, hsz, cutB_eq]
  intro f
  induction f with
  | zero =>
    intro pos st acc h1 h2 h3
    exact hend pos st acc (by omega) h3
  | succ f ih =>
    intro pos st acc h1 h2 h3
    by_cases hp : pos < l.length
    · have hp2 : pos < (mkB l).size := by rw [hsz]; exact hp
      have hg : (mkB l)[pos]'hp2 = l[pos]'hp := by simp [mkB]; rfl
      have hd : Utf8.decode (mkB l) pos = ((l[pos]'hp).toNat, 1) := by
        have := decode_ascii (mkB l) pos hp2 (by rw [hg]; exact hl _ (List.getElem_mem hp))
        rw [hg] at this
        exact this
      rw [List.drop_eq_getElem_cons hp]
      unfold Lib.spansFromP
      rw [if_pos hp2, hd]
      simp only
      rw [sepN_eq]
      have hcs : ∀ cur, fldL cur (l[pos]'hp :: l.drop (pos + 1)) = if sepB (l[pos]'hp) then (if cur = [] then fldL [] (l.drop (pos + 1)) else cur :: fldL [] (l.drop (pos + 1))) else fldL (cur ++ [l[pos]'hp]) (l.drop (pos + 1)) := fun cur => rfl
      rw [hcs]
      by_cases hs : sepB (l[pos]'hp) = true
      · rw [if_pos hs, if_pos hs]
        cases st with
        | none =>
          rw [show curF l pos none = [] from rfl, if_pos rfl]
          exact ih (pos + 1) none acc (by omega) (by omega) (fun a h => by cases h)
        | some a =>
          have ha := h3 a rfl
          have hne : curF l pos (some a) ≠ [] := by
            intro e
            have := congrArg List.length e
            simp [curF] at this
            omega
          rw [if_neg hne]
          simp only
          rw [ih (pos + 1) none _ (by omega) (by omega) (fun a h => by cases h)]
          simp [curF, cutB_eq]
      · rw [if_neg hs, if_neg hs]
        cases st with
        | none =>
          simp only
          rw [ih (pos + 1) (some pos) acc (by omega) (by omega) (fun a h => by injection h with h; omega)]
          have e : curF l (pos + 1) (some pos) = curF l pos none ++ [l[pos]'hp] := by
            show (l.drop pos).take (pos + 1 - pos) = [] ++ [l[pos]'hp]
            rw [cur_next l pos pos (Nat.le_refl _) hp]
            simp
          rw [e]
        | some a =>
          simp only
          rw [ih (pos + 1) (some a) acc (by omega) (by omega) (fun b h => by have := h3 b h; omega)]
          have e : curF l (pos + 1) (some a) = curF l pos (some a) ++ [l[pos]'hp] := cur_next l a pos (Nat.le_of_lt (h3 a rfl)) hp
          rw [e]
    · rw [Lib.spansFromP_end _ _ _ _ _ _ (by rw [hsz]; exact hp)]
      exact hend pos st acc (by omega) h3
theorem goFields_fld (l : List UInt8) (hl : ∀ b ∈ l, b.toNat < 128) : Lib.goFieldsP sepN (mkB l) = (fldL [] l).map mkB := by
  unfold Lib.goFieldsP Lib.spansOfP
  have hsz : (mkB l).size = l.length := by simp [mkB, ByteArray.size]
  rw [hsz, spans_fld l hl l.length 0 none [] (by omega) (by omega) (fun a h => by cases h)]
  rfl
/-- A word: not empty, no blank and no tab, no note, no line's end, of ASCII. -/
abbrev WdOk (w : List UInt8) : Prop := w ≠ [] ∧ ∀ c ∈ w, sepB c = false ∧ c ≠ 35 ∧ c ≠ 10 ∧ c.toNat < 128
theorem fld_go : ∀ (w cur l : List UInt8), (∀ c ∈ w, sepB c = false) → fldL cur (w ++ l) = fldL (cur ++ w) l
  | [], cur, l, _ => by simp
  | c :: w, cur, l, h => by
    rw [List.cons_append]
    show (if sepB c then _ else fldL (cur ++ [c]) (w ++ l)) = _
    rw [if_neg (by rw [h c (by simp)]; simp), fld_go w _ l (fun d hd => h d (by simp [hd]))]
    simp
theorem fld_end {w : List UInt8} (h : WdOk w) : fldL [] w = [w] := by
  have := fld_go w [] [] (fun c hc => (h.2 c hc).1)
  rw [List.append_nil] at this
  rw [this, List.nil_append]
  show (if w = [] then _ else _) = _
  rw [if_neg h.1]
theorem fld_word {w : List UInt8} (h : WdOk w) {c : UInt8} (hc : sepB c = true) (l : List UInt8) : fldL [] (w ++ c :: l) = w :: fldL [] l := by
  rw [fld_go w [] _ (fun c hc => (h.2 c hc).1), List.nil_append]
  show (if sepB c then (if w = [] then _ else _) else _) = _
  rw [if_pos hc, if_neg h.1]
theorem fld_skip {c : UInt8} (hc : sepB c = true) (l : List UInt8) : fldL [] (c :: l) = fldL [] l := by
  show (if sepB c then (if [] = [] then _ else _) else _) = _
  rw [if_pos hc, if_pos rfl]
theorem fld_nil : fldL [] [] = [] := rfl
/-- The words of a line: up to a note. -/
def wordsL (l : List UInt8) : List (List UInt8) := fldL [] (Lib.cut l [35]).1
theorem digit_ok (c : UInt8) (h : 48 ≤ c.toNat ∧ c.toNat ≤ 57) : sepB c = false ∧ c ≠ 35 ∧ c ≠ 10 ∧ c.toNat < 128 := by
  refine ⟨?_, fun e => ?_, fun e => ?_, by omega⟩
  · unfold sepB
    rw [Bool.or_eq_false_iff]
    constructor
    · exact beq_eq_false_iff_ne.2 (fun e => by subst e; simp at h)
    · exact beq_eq_false_iff_ne.2 (fun e => by subst e; simp at h)
  · subst e; simp at h
  · subst e; simp at h
end Go.Vx

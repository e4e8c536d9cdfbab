/- SpecReads, pure: the lines that are told, and their words (gen_tl.py). -/
import Derived.Test.YtgacifbpjdakaaaGreatDoorTD2
import Derived.Test.YtgacifbpjdakaaaGreatDoorRD0
namespace Go.Vx
open Go.Proofs.YtgacifbpjdakaaaGreatDoor (pickL)
set_option linter.unusedVariables false
set_option linter.unusedSimpArgs false
/-- The word of a kind. -/
def wordF (k : Nat) : List UInt8 := match k with
  | 1 => [117, 110, 116, 121, 112, 101, 100]
  | 2 => [102, 114, 97, 109, 101]
  | 3 => [116, 97, 98, 108, 101]
  | 4 => [114, 111, 111, 116]
  | 5 => [98, 111, 120]
  | 6 => [116, 104, 114, 101, 97, 100]
  | 7 => [101, 110, 100]
  | 8 => [98, 101, 108, 108]
  | 9 => [105, 114, 113]
  | _ => [112, 111, 114, 116]
/-- The number that an object gets. -/
def numO (k p s : Nat) : Nat := if k = 1 then p + s % 9 * 256 else if k = 9 ∨ k = 10 then p % 8 else p
def tailO (k s : Nat) : List UInt8 := if k = 1 then 32 :: Lib.decDigits (s % 9) else if k = 5 then 32 :: Lib.decDigits s else []
def lineO (k p s n : Nat) : List UInt8 := wordF k ++ 32 :: (nmF n ++ 32 :: (Lib.decDigits (numO k p s % 256) ++ tailO k s))
def obO (k p s : Nat) : Ob := ⟨(k : Int), (numO k p s : Nat), if k = 5 then (s : Int) else 0⟩
/-- A line's numbers. -/
structure Tl where
  k : Int
  a : Int
  b : Int
  c : Int
structure TlI (o : Tl) : Prop where
  k : -9223372036854775808 ≤ o.k ∧ o.k ≤ 9223372036854775807
  a : -9223372036854775808 ≤ o.a ∧ o.a ≤ 9223372036854775807
  b : -9223372036854775808 ≤ o.b ∧ o.b ≤ 9223372036854775807
  c : -9223372036854775808 ≤ o.c ∧ o.c ≤ 9223372036854775807
def p32 (n : Int) : Nat := pickL n 4294967296
def evB (n : Int) : Bool := decide (n.tmod 2 = 0)
def thB (n : Int) : Bool := decide (n.tmod 3 = 0)
def capI (T : Tx) (o : Tl) : Nat := pickL o.a T.nm.length
def capT (T : Tx) (o : Tl) : En := ⟨(9, (p32 o.b : Nat)), ⟨(T.ar.getD (capI T o) (0, 0)).1, (T.ar.getD (capI T o) (0, 0)).2, (pickL o.c 8 : Nat), if evB o.b then ((p32 o.c : Nat) : Int) else 0, if thB o.b then 7 else 0, if thB o.b then ((pickL o.a 40 : Nat) : Int) else 0, 0, 0⟩, if evB o.a then (11, 3) else (-1, -1)⟩
def frmL (o : Tl) : List UInt8 := if evB o.a then [32, 102, 114, 111, 109, 32, 116, 32, 51] else []
def bdgL (o : Tl) : List UInt8 := if evB o.b then [32, 98, 97, 100, 103, 101, 32] ++ Lib.decDigits (p32 o.c) else []
def grdL (o : Tl) : List UInt8 := if thB o.b then [32, 103, 117, 97, 114, 100, 32, 48, 120, 55, 32] ++ Lib.decDigits (pickL o.a 40) else []
def capL (T : Tx) (o : Tl) : List UInt8 := [99, 97, 112, 32, 98, 32] ++ (Lib.decDigits (p32 o.b) ++ 32 :: (T.nm.getD (capI T o) [] ++ 9 :: (letF (pickL o.c 8) ++ (frmL o ++ (bdgL o ++ grdL o)))))
def turL (o : Tl) : List UInt8 := [32, 116, 117, 114, 110, 32] ++ (Lib.decDigits (p32 o.a) ++ 32 :: Lib.decDigits (p32 o.b))
def rgN (o : Tl) : Nat := 1 + pickL o.c 31
def thT (o : Tl) : Th := ⟨11, (pickL o.b 20 : Nat), (pickL o.c 20 : Nat), evB o.b, fun j => if j = rgN o then ((p32 o.b : Nat) : Int) else 0, (p32 o.a : Nat)⟩
def rdyL (o : Tl) : List UInt8 := if evB o.b then [114, 101, 97, 100, 121] else [105, 100, 108, 101]
def regL (o : Tl) : List UInt8 := 120 :: Lib.decDigits (rgN o)
def staL (o : Tl) : List UInt8 := [115, 116, 97, 114, 116, 32, 116, 32] ++ (Lib.decDigits (pickL o.b 20) ++ 32 :: (Lib.decDigits (pickL o.c 20) ++ 32 :: (rdyL o ++ 32 :: (Lib.decDigits (p32 o.a) ++ 32 :: (regL o ++ 32 :: (Lib.decDigits (p32 o.a) ++ 32 :: (regL o ++ 32 :: Lib.decDigits (p32 o.b))))))))
def mpL (o : Tl) : List UInt8 := [109, 97, 112, 32, 98, 32] ++ (Lib.decDigits (pickL o.b 90) ++ [32, 114, 32] ++ (Lib.decDigits (p32 o.a) ++ 32 :: letF (pickL o.c 8)))
def binL (o : Tl) : List UInt8 := [98, 105, 110, 100, 32, 105, 32, 99, 32] ++ (Lib.decDigits (p32 o.a) ++ [32, 35, 32, 97, 32, 110, 111, 116, 101])
/-- One more line is told. -/
def obN (o : Tl) : Nat := 1 + pickL o.a 10
def putO (T : Tx) (k p s : Nat) : Tx := { T with nm := T.nm ++ [nmF T.nm.length], ar := T.ar ++ [((k : Int), ((numO k p s : Nat) : Int))], ob := if k < 9 then T.ob ++ [obO k p s] else T.ob }
def lineF (T : Tx) (o : Tl) : List UInt8 := match pickL o.k 7 with
  | 0 => lineO (obN o) (pickL o.b 256) (pickL o.c 100) T.nm.length
  | 1 => lineO (obN o) (pickL o.b 256) (pickL o.c 100) T.nm.length
  | 2 => capL T o
  | 3 => turL o
  | 4 => staL o
  | 5 => mpL o
  | _ => binL o
def putF' (T : Tx) (o : Tl) : Tx := match pickL o.k 7 with
  | 0 => putO T (obN o) (pickL o.b 256) (pickL o.c 100)
  | 1 => putO T (obN o) (pickL o.b 256) (pickL o.c 100)
  | 2 => { T with cp := T.cp ++ [capT T o] }
  | 3 => { T with tn := T.tn ++ [(((p32 o.a : Nat) : Int), ((p32 o.b : Nat) : Int))] }
  | 4 => { T with th := T.th ++ [thT o] }
  | 5 => { T with mp := T.mp ++ [⟨9, (pickL o.b 90 : Nat), 10, (p32 o.a : Nat), (pickL o.c 8 : Nat)⟩] }
  | _ => { T with ir := T.ir ++ [⟨5, 12, (p32 o.a : Nat)⟩] }
def tellF (T : Tx) (o : Tl) : Tx := { putF' T o with t := T.t ++ (lineF T o ++ [10]) }
theorem dig_all : ∀ (n : Nat), ∀ c ∈ Lib.decDigits n, 48 ≤ c.toNat ∧ c.toNat ≤ 57 := by
  intro n
  induction n using Nat.strongRecOn with
  | ind n ih =>
    intro c hc
    rw [Lib.decDigits] at hc
    split at hc
    · rw [List.mem_singleton] at hc
      subst hc
      rw [UInt8.toNat_ofNat', Nat.mod_eq_of_lt (by omega)]
      omega
    · rw [List.mem_append, List.mem_singleton] at hc
      rcases hc with hc | hc
      · exact ih (n / 10) (by omega) c hc
      · subst hc
        rw [UInt8.toNat_ofNat', Nat.mod_eq_of_lt (by omega)]
        omega
theorem dig_ne (n : Nat) : Lib.decDigits n ≠ [] := by
  rw [Lib.decDigits]
  split <;> simp
theorem dec_wd (n : Nat) : WdOk (Lib.decDigits n) := ⟨dig_ne n, fun c hc => digit_ok c (dig_all n c hc)⟩
theorem cons_wd {c : UInt8} {w : List UInt8} (hc : sepB c = false ∧ c ≠ 35 ∧ c ≠ 10 ∧ c.toNat < 128) (h : WdOk w) : WdOk (c :: w) := ⟨by simp, fun d hd => by
  rcases List.mem_cons.1 hd with rfl | hd
  · exact hc
  · exact h.2 d hd⟩
theorem nm_wd (k : Nat) : WdOk (nmF k) := cons_wd (by decide) (dec_wd k)
theorem reg_wd (o : Tl) : WdOk (regL o) := cons_wd (by decide) (dec_wd _)
theorem let_wd (n : Nat) : WdOk (letF n) := by
  unfold letF
  split <;> decide
theorem wordF_wd (k : Nat) : WdOk (wordF k) := by
  unfold wordF
  split <;> decide
theorem rdy_wd (o : Tl) : WdOk (rdyL o) := by
  unfold rdyL
  split <;> decide
theorem index_no : ∀ (l : List UInt8) (c : UInt8), c ∉ l → Lib.indexByte l c = -1
  | [], c, _ => rfl
  | b :: l, c, h => by
    have h1 : b ≠ c := fun e => h (by simp [e])
    have h2 := index_no l c (fun e => h (by simp [e]))
    unfold Lib.indexByte
    rw [h2]
    simp [h1]
theorem index_yes : ∀ (l r : List UInt8) (c : UInt8), c ∉ l → Lib.indexByte (l ++ c :: r) c = (l.length : Int)
  | [], r, c, _ => by unfold Lib.indexByte; simp
  | b :: l, r, c, h => by
    have h1 : b ≠ c := fun e => h (by simp [e])
    have h2 := index_yes l r c (fun e => h (by simp [e]))
    rw [List.cons_append]
    unfold Lib.indexByte
    rw [h2]
    simp only [beq_iff_eq, h1, if_false, List.length_cons]
    rw [if_neg (by omega)]
    omega
theorem words_plain {l : List UInt8} (h : (35 : UInt8) ∉ l) : wordsL l = fldL [] l := by
  unfold wordsL Lib.cut
  rw [Lib.index_one, index_no l 35 h]
  rfl
theorem words_note {l r : List UInt8} (h : (35 : UInt8) ∉ l) : wordsL (l ++ 35 :: r) = fldL [] l := by
  unfold wordsL Lib.cut
  rw [Lib.index_one, index_yes l r 35 h, if_pos (by omega)]
  simp
theorem WdOk.no35 {w : List UInt8} (h : WdOk w) : (35 : UInt8) ∉ w := fun hc => (h.2 35 hc).2.1 rfl
theorem WdOk.no10 {w : List UInt8} (h : WdOk w) : (10 : UInt8) ∉ w := fun hc => (h.2 10 hc).2.2.1 rfl
/-- The words of an object's line. -/
def wordsO (k p s n : Nat) : List (List UInt8) := [wordF k, nmF n, Lib.decDigits (numO k p s % 256)] ++ (if k = 1 then [Lib.decDigits (s % 9)] else if k = 5 then [Lib.decDigits s] else [])
theorem words_O (k p s n : Nat) : wordsL (lineO k p s n) = wordsO k p s n := by
  have h1 := wordF_wd k
  have h2 := nm_wd n
  have h3 := dec_wd (numO k p s % 256)
  unfold lineO wordsO tailO
  by_cases e1 : k = 1
  · have h4 := dec_wd (s % 9)
    rw [if_pos e1, if_pos e1, words_plain (by simp [h1.no35, h2.no35, h3.no35, h4.no35]), fld_word h1 (by decide), fld_word h2 (by decide), fld_word h3 (by decide), fld_end h4]
    rfl
  · rw [if_neg e1, if_neg e1]
    by_cases e5 : k = 5
    · have h4 := dec_wd s
      rw [if_pos e5, if_pos e5, words_plain (by simp [h1.no35, h2.no35, h3.no35, h4.no35]), fld_word h1 (by decide), fld_word h2 (by decide), fld_word h3 (by decide), fld_end h4]
      rfl
    · rw [if_neg e5, if_neg e5, List.append_nil, words_plain (by simp [h1.no35, h2.no35, h3.no35]), fld_word h1 (by decide), fld_word h2 (by decide), fld_end h3]
      rfl
def frmW (o : Tl) : List (List UInt8) := if evB o.a then [[102, 114, 111, 109], [116], [51]] else []
def bdgW (o : Tl) : List (List UInt8) := if evB o.b then [[98, 97, 100, 103, 101], Lib.decDigits (p32 o.c)] else []
def grdW (o : Tl) : List (List UInt8) := if thB o.b then [[103, 117, 97, 114, 100], [48, 120, 55], Lib.decDigits (pickL o.a 40)] else []
def wordsC (T : Tx) (o : Tl) : List (List UInt8) := [[99, 97, 112], [98], Lib.decDigits (p32 o.b), T.nm.getD (capI T o) [], letF (pickL o.c 8)] ++ (frmW o ++ (bdgW o ++ grdW o))
def wordsT (o : Tl) : List (List UInt8) := [[116, 117, 114, 110], Lib.decDigits (p32 o.a), Lib.decDigits (p32 o.b)]
def wordsS (o : Tl) : List (List UInt8) := [[115, 116, 97, 114, 116], [116], Lib.decDigits (pickL o.b 20), Lib.decDigits (pickL o.c 20), rdyL o, Lib.decDigits (p32 o.a), regL o, Lib.decDigits (p32 o.a), regL o, Lib.decDigits (p32 o.b)]
def wordsM (o : Tl) : List (List UInt8) := [[109, 97, 112], [98], Lib.decDigits (pickL o.b 90), [114], Lib.decDigits (p32 o.a), letF (pickL o.c 8)]
def wordsB (o : Tl) : List (List UInt8) := [[98, 105, 110, 100], [105], [99], Lib.decDigits (p32 o.a)]
theorem words_T (o : Tl) : wordsL (turL o) = wordsT o := by
  have h1 := dec_wd (p32 o.a)
  have h2 := dec_wd (p32 o.b)
  unfold turL wordsT
  rw [words_plain (by simp [h1.no35, h2.no35])]
  show fldL [] (32 :: ([116, 117, 114, 110] ++ 32 :: (_ ++ 32 :: _))) = _
  rw [fld_skip (by decide), fld_word (by decide) (by decide), fld_word h1 (by decide), fld_end h2]
theorem words_S (o : Tl) : wordsL (staL o) = wordsS o := by
  have h1 := dec_wd (pickL o.b 20)
  have h2 := dec_wd (pickL o.c 20)
  have h3 := rdy_wd o
  have h4 := dec_wd (p32 o.a)
  have h5 := reg_wd o
  have h6 := dec_wd (p32 o.b)
  unfold staL wordsS
  rw [words_plain (by simp [h1.no35, h2.no35, h3.no35, h4.no35, h5.no35, h6.no35])]
  show fldL [] ([115, 116, 97, 114, 116] ++ 32 :: ([116] ++ 32 :: (_ ++ 32 :: _))) = _
  rw [fld_word (by decide) (by decide), fld_word (by decide) (by decide), fld_word h1 (by decide), fld_word h2 (by decide), fld_word h3 (by decide), fld_word h4 (by decide), fld_word h5 (by decide), fld_word h4 (by decide), fld_word h5 (by decide), fld_end h6]
theorem words_M (o : Tl) : wordsL (mpL o) = wordsM o := by
  have h1 := dec_wd (pickL o.b 90)
  have h2 := dec_wd (p32 o.a)
  have h3 := let_wd (pickL o.c 8)
  unfold mpL wordsM
  rw [words_plain (by simp [h1.no35, h2.no35, h3.no35]), List.append_assoc]
  show fldL [] ([109, 97, 112] ++ 32 :: ([98] ++ 32 :: (_ ++ 32 :: ([114] ++ 32 :: (_ ++ 32 :: _))))) = _
  rw [fld_word (by decide) (by decide), fld_word (by decide) (by decide), fld_word h1 (by decide), fld_word (by decide) (by decide), fld_word h2 (by decide), fld_end h3]
theorem words_B (o : Tl) : wordsL (binL o) = wordsB o := by
  have h1 := dec_wd (p32 o.a)
  unfold binL wordsB
  have e : [98, 105, 110, 100, 32, 105, 32, 99, 32] ++ (Lib.decDigits (p32 o.a) ++ [32, 35, 32, 97, 32, 110, 111, 116, 101]) = ([98, 105, 110, 100] ++ 32 :: ([105] ++ 32 :: ([99] ++ 32 :: (Lib.decDigits (p32 o.a) ++ 32 :: [])))) ++ 35 :: [32, 97, 32, 110, 111, 116, 101] := by simp
  rw [e, words_note (by simp [h1.no35])]
  rw [fld_word (by decide) (by decide), fld_word (by decide) (by decide), fld_word (by decide) (by decide), fld_word h1 (by decide), fld_nil]
theorem words_C (T : Tx) (o : Tl) (hn : WdOk (T.nm.getD (capI T o) [])) : wordsL (capL T o) = wordsC T o := by
  have h1 := dec_wd (p32 o.b)
  have h3 := let_wd (pickL o.c 8)
  have h4 := dec_wd (p32 o.c)
  have h5 := dec_wd (pickL o.a 40)
  unfold capL wordsC frmL bdgL grdL frmW bdgW grdW
  generalize T.nm.getD (capI T o) [] = nn at hn ⊢
  cases evB o.a <;> cases evB o.b <;> cases thB o.b <;> simp only [if_true, if_false, Bool.false_eq_true, List.append_nil, List.nil_append] <;> rw [words_plain (by simp [h1.no35, h3.no35, h4.no35, h5.no35, hn.no35])]

  · show fldL [] ([99, 97, 112] ++ 32 :: ([98] ++ 32 :: (_ ++ 32 :: (_ ++ 9 :: (_))))) = _
    rw [fld_word (by decide) (by decide), fld_word (by decide) (by decide), fld_word h1 (by decide), fld_word hn (by decide), fld_end h3]
  · show fldL [] ([99, 97, 112] ++ 32 :: ([98] ++ 32 :: (_ ++ 32 :: (_ ++ 9 :: (_ ++ 32 :: ([103, 117, 97, 114, 100] ++ 32 :: ([48, 120, 55] ++ 32 :: (Lib.decDigits (pickL o.a 40))))))))) = _
    rw [fld_word (by decide) (by decide), fld_word (by decide) (by decide), fld_word h1 (by decide), fld_word hn (by decide), fld_word h3 (by decide), fld_word (by decide) (by decide), fld_word (by decide) (by decide), fld_end h5]
    rfl
  · show fldL [] ([99, 97, 112] ++ 32 :: ([98] ++ 32 :: (_ ++ 32 :: (_ ++ 9 :: (_ ++ 32 :: ([98, 97, 100, 103, 101] ++ 32 :: (Lib.decDigits (p32 o.c)))))))) = _
    rw [fld_word (by decide) (by decide), fld_word (by decide) (by decide), fld_word h1 (by decide), fld_word hn (by decide), fld_word h3 (by decide), fld_word (by decide) (by decide), fld_end h4]
    rfl
  · show fldL [] ([99, 97, 112] ++ 32 :: ([98] ++ 32 :: (_ ++ 32 :: (_ ++ 9 :: (_ ++ 32 :: ([98, 97, 100, 103, 101] ++ 32 :: (Lib.decDigits (p32 o.c) ++ 32 :: ([103, 117, 97, 114, 100] ++ 32 :: ([48, 120, 55] ++ 32 :: (Lib.decDigits (pickL o.a 40))))))))))) = _
    rw [fld_word (by decide) (by decide), fld_word (by decide) (by decide), fld_word h1 (by decide), fld_word hn (by decide), fld_word h3 (by decide), fld_word (by decide) (by decide), fld_word h4 (by decide), fld_word (by decide) (by decide), fld_word (by decide) (by decide), fld_end h5]
    rfl
  · show fldL [] ([99, 97, 112] ++ 32 :: ([98] ++ 32 :: (_ ++ 32 :: (_ ++ 9 :: (_ ++ 32 :: ([102, 114, 111, 109] ++ 32 :: ([116] ++ 32 :: ([51])))))))) = _
    rw [fld_word (by decide) (by decide), fld_word (by decide) (by decide), fld_word h1 (by decide), fld_word hn (by decide), fld_word h3 (by decide), fld_word (by decide) (by decide), fld_word (by decide) (by decide), fld_end (by decide)]
    rfl
  · show fldL [] ([99, 97, 112] ++ 32 :: ([98] ++ 32 :: (_ ++ 32 :: (_ ++ 9 :: (_ ++ 32 :: ([102, 114, 111, 109] ++ 32 :: ([116] ++ 32 :: ([51] ++ 32 :: ([103, 117, 97, 114, 100] ++ 32 :: ([48, 120, 55] ++ 32 :: (Lib.decDigits (pickL o.a 40)))))))))))) = _
    rw [fld_word (by decide) (by decide), fld_word (by decide) (by decide), fld_word h1 (by decide), fld_word hn (by decide), fld_word h3 (by decide), fld_word (by decide) (by decide), fld_word (by decide) (by decide), fld_word (by decide) (by decide), fld_word (by decide) (by decide), fld_word (by decide) (by decide), fld_end h5]
    rfl
  · show fldL [] ([99, 97, 112] ++ 32 :: ([98] ++ 32 :: (_ ++ 32 :: (_ ++ 9 :: (_ ++ 32 :: ([102, 114, 111, 109] ++ 32 :: ([116] ++ 32 :: ([51] ++ 32 :: ([98, 97, 100, 103, 101] ++ 32 :: (Lib.decDigits (p32 o.c))))))))))) = _
    rw [fld_word (by decide) (by decide), fld_word (by decide) (by decide), fld_word h1 (by decide), fld_word hn (by decide), fld_word h3 (by decide), fld_word (by decide) (by decide), fld_word (by decide) (by decide), fld_word (by decide) (by decide), fld_word (by decide) (by decide), fld_end h4]
    rfl
  · show fldL [] ([99, 97, 112] ++ 32 :: ([98] ++ 32 :: (_ ++ 32 :: (_ ++ 9 :: (_ ++ 32 :: ([102, 114, 111, 109] ++ 32 :: ([116] ++ 32 :: ([51] ++ 32 :: ([98, 97, 100, 103, 101] ++ 32 :: (Lib.decDigits (p32 o.c) ++ 32 :: ([103, 117, 97, 114, 100] ++ 32 :: ([48, 120, 55] ++ 32 :: (Lib.decDigits (pickL o.a 40)))))))))))))) = _
    rw [fld_word (by decide) (by decide), fld_word (by decide) (by decide), fld_word h1 (by decide), fld_word hn (by decide), fld_word h3 (by decide), fld_word (by decide) (by decide), fld_word (by decide) (by decide), fld_word (by decide) (by decide), fld_word (by decide) (by decide), fld_word h4 (by decide), fld_word (by decide) (by decide), fld_word (by decide) (by decide), fld_end h5]
    rfl
end Go.Vx

/- Joined: SQ2, TD6, SQ3 (join.py). -/
import Derived.Test.YtgacifbpjdakaaaGreatDoorSQ1
import Derived.Test.YtgacifbpjdakaaaGreatDoorTD5t
import Derived.Test.YtgacifbpjdakaaaGreatDoorTD5b
import Derived.Test.YtgacifbpjdakaaaGreatDoorTD5m
import Derived.Test.YtgacifbpjdakaaaGreatDoorTD5o0
import Derived.Test.YtgacifbpjdakaaaGreatDoorTD5o1
import Derived.Test.YtgacifbpjdakaaaGreatDoorTD5c
import Derived.Test.YtgacifbpjdakaaaGreatDoorTD5s
import Derived.Test.YtgacifbpjdakaaaGreatDoorSM1
import Derived.Deep.CutRange
/- SpecReads, pure: a whole telling's lines, and the reader's states (gen_sq2.py). -/
namespace Go.Proofs.YtgacifbpjdakaaaGreatDoor
open Go.ChangeShapes Go.WideShapes Go.ChangeAt Go.RowKit
open Go.Vx
set_option linter.unusedVariables false
set_option linter.unusedSimpArgs false
variable {T : Tx}

def headL : List (List UInt8) := [[98, 111, 120, 32, 98, 32, 57, 32, 54, 52], [114, 111, 111, 116, 32, 114, 32, 49, 48], [116, 104, 114, 101, 97, 100, 32, 116, 32, 49, 49], [98, 101, 108, 108, 32, 99, 32, 49, 50], [105, 114, 113, 32, 105, 32, 53]]
/-- Where the law begins. -/
def tx0 : Tx := ⟨flatL headL, [], [⟨5, 9, 64⟩, ⟨4, 10, 0⟩, ⟨6, 11, 0⟩, ⟨8, 12, 0⟩], [], [], [], [], [[98], [114], [116], [99]], [(5, 9), (4, 10), (6, 11), (8, 12)]⟩
theorem tw0 : Tw tx0 := ⟨rfl, by decide, rfl, rfl, fun i h1 h2 => by
  have : tx0.nm.length = 4 := rfl
  omega⟩
def telL (T : Tx) (l : List Tl) : Tx := l.foldl tellF T
def lnL : Tx → List Tl → List (List UInt8)
  | _, [] => []
  | T, o :: l => lineF T o :: lnL (tellF T o) l
theorem lnL_len : ∀ (l : List Tl) (T : Tx), (lnL T l).length = l.length
  | [], _ => rfl
  | o :: l, T => by show (lnL (tellF T o) l).length + 1 = _; rw [lnL_len l]; rfl
theorem tel_t : ∀ (l : List Tl) (T : Tx), (telL T l).t = T.t ++ flatL (lnL T l)
  | [], T => by show T.t = T.t ++ []; simp
  | o :: l, T => by
    show (telL (tellF T o) l).t = _
    rw [tel_t l (tellF T o)]
    show T.t ++ (lineF T o ++ [10]) ++ flatL (lnL (tellF T o) l) = T.t ++ (lineF T o ++ 10 :: flatL (lnL (tellF T o) l))
    simp
theorem lnL_at : ∀ (l : List Tl) (T : Tx) (k : Nat) (hk : k < l.length), (lnL T l)[k]'(by rw [lnL_len]; exact hk) = lineF (telL T (l.take k)) (l[k])
  | [], _, k, hk => absurd hk (Nat.not_lt_zero _)
  | o :: l, T, 0, _ => rfl
  | o :: l, T, k + 1, hk => by
    have h9 := lnL_at l (tellF T o) k (by simpa using hk)
    show (lnL (tellF T o) l)[k]'_ = _
    rw [h9]
    rfl
theorem tel_take (l : List Tl) (T : Tx) (k : Nat) (hk : k < l.length) : telL T (l.take (k + 1)) = tellF (telL T (l.take k)) (l[k]) := by
  unfold telL
  rw [List.take_succ_eq_append_getElem hk, List.foldl_append]
  rfl
theorem tel_tw (l : List Tl) : ∀ (T : Tx), Tw T → Tw (telL T l) := by
  induction l with
  | nil => intro T h; exact h
  | cons o l ih => intro T h; exact ih _ (h.tell o)
/-- Lists grow by one a line at most. -/
structure Cnt (n : Nat) (T : Tx) : Prop where
  tn : T.tn.length ≤ n
  ob : T.ob.length ≤ n
  cp : T.cp.length ≤ n
  mp : T.mp.length ≤ n
  th : T.th.length ≤ n
  ir : T.ir.length ≤ n
  nm : T.nm.length ≤ n
theorem Cnt.tell {n : Nat} (h : Cnt n T) (o : Tl) : Cnt (n + 1) (tellF T o) := by
  obtain ⟨h1, h2, h3, h4, h5, h6, h7⟩ := h
  unfold tellF putF' putO
  split <;> refine ⟨?_, ?_, ?_, ?_, ?_, ?_, ?_⟩ <;> (try split) <;> simp <;> omega
theorem tel_cnt (l : List Tl) : ∀ (T : Tx) (n : Nat), Cnt n T → Cnt (n + l.length) (telL T l) := by
  induction l with
  | nil => intro T n h; exact h
  | cons o l ih =>
    intro T n h
    have := ih _ _ (h.tell o)
    rw [show n + (o :: l).length = n + 1 + l.length by simp; omega]
    exact this
theorem cnt0 : Cnt 4 tx0 := by
  refine ⟨?_, ?_, ?_, ?_, ?_, ?_, ?_⟩ <;> decide
theorem Cnt.few {n : Nat} (h : Cnt n T) (hn : n ≤ 500) : Few T := ⟨Nat.le_trans h.tn hn, Nat.le_trans h.ob hn, Nat.le_trans h.cp hn, Nat.le_trans h.mp hn, Nat.le_trans h.th hn, Nat.le_trans h.ir hn, Nat.le_trans h.nm hn⟩
/-- A line that is told: its signs, its length. -/
theorem line_ok (h : Tw T) (hl : T.nm.length ≤ 500) (o : Tl) : LnOk (lineF T o) ∧ (lineF T o).length ≤ 100 := by
  have hci : capI T o < T.nm.length := pick_lt o.a T.nm.length (by have := h.n4; omega)
  have d1 := dec_ln (p32 o.a)
  have d2 := dec_ln (p32 o.b)
  have d3 := dec_ln (p32 o.c)
  have n1 := dec10 (p32 o.a) (p32_lt _)
  have n2 := dec10 (p32 o.b) (p32_lt _)
  have n3 := dec10 (p32 o.c) (p32_lt _)
  have q1 := let_len (pickL o.c 8)
  have hO : ∀ k p s n, n < 4294967296 → s < 100 → LnOk (lineO k p s n) ∧ (lineO k p s n).length ≤ 100 := fun k p s n hn hs => by
    have a1 := word_len k
    have a2 := dec10 n hn
    have a3 := dec10 (numO k p s % 256) (by omega)
    have a4 := dec10 (s % 9) (by omega)
    have a5 := dec10 s (by omega)
    unfold lineO
    refine ⟨(wordF_wd k).ln.app (LnOk.cons (by decide) ((nm_wd n).ln.app (LnOk.cons (by decide) ((dec_ln _).app ?_)))), ?_⟩
    · unfold tailO
      split
      · exact LnOk.cons (by decide) (dec_ln _)
      · split
        · exact LnOk.cons (by decide) (dec_ln _)
        · exact LnOk.nil
    · have a6 : (tailO k s).length ≤ 11 := by
        unfold tailO
        split
        · simp; omega
        · split
          · simp; omega
          · simp
      unfold nmF
      simp only [List.length_append, List.length_cons]
      omega
  unfold lineF
  split
  · exact hO _ _ _ _ (by omega) (pick_lt o.c 100 (by decide))
  · exact hO _ _ _ _ (by omega) (pick_lt o.c 100 (by decide))
  · have w1 := nm_wd' h _ hci
    have w2 := (nm_ok' h _ hci (by omega)).2.1
    have a4 := dec10 (pickL o.a 40) (by have := pick_lt o.a 40 (by decide); omega)
    have f1 : LnOk (frmL o) ∧ (frmL o).length ≤ 9 := by
      unfold frmL
      split
      · exact ⟨by decide, by decide⟩
      · exact ⟨LnOk.nil, by simp⟩
    have f2 : LnOk (bdgL o) ∧ (bdgL o).length ≤ 17 := by
      unfold bdgL
      split
      · exact ⟨LnOk.app (by decide) d3, by simp; omega⟩
      · exact ⟨LnOk.nil, by simp⟩
    have f3 : LnOk (grdL o) ∧ (grdL o).length ≤ 21 := by
      unfold grdL
      split
      · exact ⟨LnOk.app (by decide) (dec_ln _), by simp; omega⟩
      · exact ⟨LnOk.nil, by simp⟩
    unfold capL
    refine ⟨LnOk.app (by decide) (d2.app (LnOk.cons (by decide) (w1.ln.app (LnOk.cons (by decide) ((let_wd _).ln.app (f1.1.app (f2.1.app f3.1))))))), ?_⟩
    simp only [List.length_append, List.length_cons, List.length_nil]
    omega
  · unfold turL
    refine ⟨LnOk.app (by decide) (d1.app (LnOk.cons (by decide) d2)), ?_⟩
    simp only [List.length_append, List.length_cons, List.length_nil]
    omega
  · have a1 := dec10 (pickL o.b 20) (by have := pick_lt o.b 20 (by decide); omega)
    have a2 := dec10 (pickL o.c 20) (by have := pick_lt o.c 20 (by decide); omega)
    have a3 := dec10 (rgN o) (by have := pick_lt o.c 31 (by decide); unfold rgN; omega)
    have a4 : (rdyL o).length ≤ 5 := by unfold rdyL; split <;> decide
    unfold staL
    refine ⟨LnOk.app (by decide) ((dec_ln _).app (LnOk.cons (by decide) ((dec_ln _).app (LnOk.cons (by decide) ((rdy_wd o).ln.app (LnOk.cons (by decide) (d1.app (LnOk.cons (by decide) ((reg_wd o).ln.app (LnOk.cons (by decide) (d1.app (LnOk.cons (by decide) ((reg_wd o).ln.app (LnOk.cons (by decide) d2)))))))))))))), ?_⟩
    unfold regL
    simp only [List.length_append, List.length_cons, List.length_nil]
    omega
  · have a1 := dec10 (pickL o.b 90) (by have := pick_lt o.b 90 (by decide); omega)
    unfold mpL
    refine ⟨LnOk.app (by decide) (((dec_ln _).app (by decide)).app (d1.app (LnOk.cons (by decide) (let_wd _).ln))), ?_⟩
    simp only [List.length_append, List.length_cons, List.length_nil]
    omega
  · unfold binL
    refine ⟨LnOk.app (by decide) (d1.app (by decide)), ?_⟩
    simp only [List.length_append, List.length_cons, List.length_nil]
    omega
/-- All lines. -/
def allL (l : List Tl) : List (List UInt8) := headL ++ (lnL tx0 l ++ [[]])
def rd1 : Tx := { noTx with nm := [[98]], ar := [(5, 9)], ob := [⟨5, 9, 64⟩] }
def rd2 : Tx := { rd1 with nm := [[98], [114]], ar := [(5, 9), (4, 10)], ob := [⟨5, 9, 64⟩, ⟨4, 10, 0⟩] }
def rd3 : Tx := { rd2 with nm := [[98], [114], [116]], ar := [(5, 9), (4, 10), (6, 11)], ob := [⟨5, 9, 64⟩, ⟨4, 10, 0⟩, ⟨6, 11, 0⟩] }
def rd4 : Tx := { rd3 with nm := [[98], [114], [116], [99]], ar := [(5, 9), (4, 10), (6, 11), (8, 12)], ob := [⟨5, 9, 64⟩, ⟨4, 10, 0⟩, ⟨6, 11, 0⟩, ⟨8, 12, 0⟩] }
/-- The reader's states. -/
def stF (l : List Tl) (k : Nat) : Tx := match k with
  | 0 => noTx
  | 1 => rd1
  | 2 => rd2
  | 3 => rd3
  | 4 => rd4
  | k + 5 => rdT (telL tx0 (l.take k))
theorem text_all (l : List Tl) : joinB (allL l) = (telL tx0 l).t := by
  rw [tel_t]
  show joinB (headL ++ (lnL tx0 l ++ [[]])) = flatL headL ++ flatL (lnL tx0 l)
  rw [← flat_append, ← flat_join, List.append_assoc]
theorem all_len (l : List Tl) : (allL l).length = l.length + 6 := by
  unfold allL
  rw [List.length_append, List.length_append, lnL_len]
  show 5 + (l.length + 1) = _
  omega
theorem dec9 : Lib.decDigits 9 = [57] := by decide +kernel
theorem dec64 : Lib.decDigits 64 = [54, 52] := by decide +kernel
theorem dec10' : Lib.decDigits 10 = [49, 48] := by decide +kernel
theorem dec11 : Lib.decDigits 11 = [49, 49] := by decide +kernel
theorem dec12 : Lib.decDigits 12 = [49, 50] := by decide +kernel
theorem dec5 : Lib.decDigits 5 = [53] := by decide +kernel
theorem say_h0 : SayOk [98, 111, 120, 32, 98, 32, 57, 32, 54, 52] noTx rd1 := by
  have e : wordsL [98, 111, 120, 32, 98, 32, 57, 32, 54, 52] = [98, 111, 120] :: [[98], [57], [54, 52]] := by decide +kernel
  show SayW (wordsL [98, 111, 120, 32, 98, 32, 57, 32, 54, 52]) _ _
  rw [e, ← dec9, ← dec64]
  exact say_box (T := noTx) 9 64 (by decide) (by decide) (one_ok _ (by decide)) (by decide) (by decide) (by decide)
theorem say_h1 : SayOk [114, 111, 111, 116, 32, 114, 32, 49, 48] rd1 rd2 := by
  have e : wordsL [114, 111, 111, 116, 32, 114, 32, 49, 48] = [114, 111, 111, 116] :: [[114], [49, 48]] := by decide +kernel
  show SayW (wordsL [114, 111, 111, 116, 32, 114, 32, 49, 48]) _ _
  rw [e, ← dec10']
  exact say_page4 (T := rd1) 10 (by decide) (one_ok _ (by decide)) (by decide) (by decide) (by decide)
theorem say_h2 : SayOk [116, 104, 114, 101, 97, 100, 32, 116, 32, 49, 49] rd2 rd3 := by
  have e : wordsL [116, 104, 114, 101, 97, 100, 32, 116, 32, 49, 49] = [116, 104, 114, 101, 97, 100] :: [[116], [49, 49]] := by decide +kernel
  show SayW (wordsL [116, 104, 114, 101, 97, 100, 32, 116, 32, 49, 49]) _ _
  rw [e, ← dec11]
  exact say_page6 (T := rd2) 11 (by decide) (one_ok _ (by decide)) (by decide) (by decide) (by decide)
theorem say_h3 : SayOk [98, 101, 108, 108, 32, 99, 32, 49, 50] rd3 rd4 := by
  have e : wordsL [98, 101, 108, 108, 32, 99, 32, 49, 50] = [98, 101, 108, 108] :: [[99], [49, 50]] := by decide +kernel
  show SayW (wordsL [98, 101, 108, 108, 32, 99, 32, 49, 50]) _ _
  rw [e, ← dec12]
  exact say_page8 (T := rd3) 12 (by decide) (one_ok _ (by decide)) (by decide) (by decide) (by decide)
theorem say_h4 : SayOk [105, 114, 113, 32, 105, 32, 53] rd4 (rdT tx0) := by
  have e : wordsL [105, 114, 113, 32, 105, 32, 53] = [105, 114, 113] :: [[105], [53]] := by decide +kernel
  show SayW (wordsL [105, 114, 113, 32, 105, 32, 53]) _ _
  rw [e, ← dec5]
  exact say_name9 (T := rd4) 5 (by decide) (one_ok _ (by decide)) (by decide) (by decide)
theorem read_all (l : List Tl) (hl : l.length ≤ 120) : Read (allL l) (stF l) := by
  have hln : ∀ x ∈ lnL tx0 l, LnOk x ∧ x.length ≤ 100 := fun x hx => by
    obtain ⟨k, hk, e⟩ := List.mem_iff_getElem.1 hx
    rw [lnL_len] at hk
    rw [lnL_at l tx0 k hk] at e
    have h1 := tel_tw (l.take k) tx0 tw0
    have h2 := tel_cnt (l.take k) tx0 4 cnt0
    rw [List.length_take, Nat.min_eq_left (by omega)] at h2
    rw [← e]
    exact line_ok h1 (by have := h2.nm; omega) _
  have hhd : ∀ x ∈ headL, LnOk x ∧ x.length ≤ 100 := by decide
  have hal : ∀ x ∈ allL l, LnOk x ∧ x.length ≤ 100 := fun x hx => by
    unfold allL at hx
    rcases List.mem_append.1 hx with hx | hx
    · exact hhd x hx
    · rcases List.mem_append.1 hx with hx | hx
      · exact hln x hx
      · rw [List.mem_singleton] at hx; rw [hx]; exact ⟨LnOk.nil, by decide⟩
  refine ⟨?_, by rw [all_len]; omega, fun x hx h9 => ((hal x hx).1 10 h9).1 rfl, fun x hx b hb => ((hal x hx).1 b hb).2, ?_, fun x hx => by have := (hal x hx).2; omega, rfl, fun k hk => ?_⟩
  · intro e
    have := all_len l
    rw [e] at this
    cases this
  · have := join_len (allL l) 100 (fun x hx => (hal x hx).2)
    rw [all_len] at this
    omega
  · rw [all_len] at hk
    by_cases h5 : k < 5
    · rcases (show k = 0 ∨ k = 1 ∨ k = 2 ∨ k = 3 ∨ k = 4 by omega) with rfl | rfl | rfl | rfl | rfl
      · exact say_h0
      · exact say_h1
      · exact say_h2
      · exact say_h3
      · exact say_h4
    · obtain ⟨j, rfl⟩ : ∃ j, k = j + 5 := ⟨k - 5, by omega⟩
      show SayOk _ (rdT (telL tx0 (l.take j))) (rdT (telL tx0 (l.take (j + 1))))
      have e1 : (allL l)[j + 5]'(by rw [all_len]; omega) = (lnL tx0 l ++ [[]])[j]'(by rw [List.length_append, lnL_len]; simp; omega) := rfl
      rw [e1]
      by_cases hj : j < l.length
      · rw [List.getElem_append_left (by rw [lnL_len]; exact hj), lnL_at l tx0 j hj, tel_take l tx0 j hj]
        have h2 := tel_cnt (l.take j) tx0 4 cnt0
        rw [List.length_take, Nat.min_eq_left (by omega)] at h2
        exact say_lineF (tel_tw _ _ tw0) (h2.few (by omega)) _
      · rw [List.getElem_append_right (by rw [lnL_len]; omega)]
        have e2 : l.take j = l := List.take_of_length_le (by omega)
        have e3 : l.take (j + 1) = l := List.take_of_length_le (by omega)
        rw [e2, e3]
        have e4 : ∀ i (h : i < [([] : List UInt8)].length), [([] : List UInt8)][i] = [] := fun i h => by
          have : i = 0 := by simpa using h
          subst this
          rfl
        rw [e4]
        exact say_empty
end Go.Proofs.YtgacifbpjdakaaaGreatDoor
/- SpecReads' law: line, whatever it tells. -/
namespace Go.Proofs.YtgacifbpjdakaaaGreatDoor
open Go.ChangeShapes Go.WideShapes Go.ChangeAt Go.RowKit
open Go.Vx
set_option linter.unusedVariables false
variable {W w w2 : World} {xb ob : Nat} {vt vo vc vm vh vi vn va : Value} {T : Tx} {o : Tl}
theorem line_any (h : TxAt W w xb vt vo vc vm vh vi vn va T) (o : Tl) (i : TlI o) (hB : Bnd T) : Calls Tryz.prog 8 #[.pointer (some ⟨xb, 0, none⟩), .agg #[.int .i64 o.k, .int .i64 o.a, .int .i64 o.b, .int .i64 o.c]] w fun e w' => e = .returned (.tuple #[]) ∧ Hid (∃ vt' vo' vc' vm' vh' vi' vn' va', TxAt W w' xb vt' vo' vc' vm' vh' vi' vn' va' (tellF T o)) := by
  have hk := pick_lt o.k 7 (by decide)
  rcases (show pickL o.k 7 = 0 ∨ pickL o.k 7 = 1 ∨ pickL o.k 7 = 2 ∨ pickL o.k 7 = 3 ∨ pickL o.k 7 = 4 ∨ pickL o.k 7 = 5 ∨ pickL o.k 7 = 6 by omega) with e | e | e | e | e | e | e
  · exact line_object0 h o i e hB
  · exact line_object1 h o i e hB
  · exact line_cap h o i e hB
  · exact line_turn h o i e hB
  · exact line_start h o i e hB
  · exact line_map h o i e hB
  · exact line_bind h o i e hB
end Go.Proofs.YtgacifbpjdakaaaGreatDoor
/- SpecReads (gen_sq3.py). -/
namespace Go.Proofs.YtgacifbpjdakaaaGreatDoor
open Go.ChangeShapes Go.WideShapes Go.ChangeAt Go.RowKit
open Go.Vx
set_option linter.unusedVariables false
set_option linter.unusedSimpArgs false
/-- The head's objects, one by one. -/
def hdT (k : Nat) : Tx := { tx0 with ob := tx0.ob.take k, nm := tx0.nm.take k, ar := tx0.ar.take k }
theorem bnd_tel (L : List Tl) (k : Nat) (h1 : k ≤ 120) (h2 : k ≤ L.length) : Bnd (telL tx0 (L.take k)) := by
  have hc := tel_cnt (L.take k) tx0 4 cnt0
  have hw := tel_tw (L.take k) tx0 tw0
  have hl : (L.take k).length ≤ 120 := Nat.le_trans (List.length_take_le _ _) h1
  have hr := read_all (L.take k) hl
  have ht := hr.size
  rw [text_all] at ht
  have hn4 := hw.n4
  refine ⟨by have := hc.tn; omega, by have := hc.ob; omega, by have := hc.cp; omega, by have := hc.mp; omega, by have := hc.th; omega, by have := hc.ir; omega, by omega, by have := hc.nm; omega, hw.len, fun x hx => ?_, by omega⟩
  obtain ⟨i, hi, e⟩ := List.mem_iff_getElem.1 hx
  have h9 := (nm_ok' hw i hi (by have := hc.nm; omega)).2.1
  rw [List.getD_eq_getElem?_getD, List.getElem?_eq_getElem hi] at h9
  simp only [Option.getD_some] at h9
  rw [← e]
  omega
theorem look_f {R : Tx} {x : List UInt8} {o : Sl} {w : World} {mb : Nat} {D : DataW Value} (f : Fnd R x o) (h : NmAt w mb D R.nm R.ar) : (Instr.lookup 32 (.map (some mb)) (.string ⟨x.toArray⟩) false).run Tryz.prog w = .ok (.agg #[.int .i64 o.1, .int .i64 o.2]) w := by
  obtain ⟨i, hi, e1, e2⟩ := f.ix
  have h9 := h.look i hi false
  rw [e1, e2] at h9
  exact h9
theorem len_f {w : World} {mb : Nat} {D : DataW Value} {nm : List (List UInt8)} {ar : List Sl} (h : NmAt w mb D nm ar) (ty : TypeId) : (Builtin.len_ #[32] ty #[.map (some mb)]).run Tryz.prog w = .ok (.int .i64 (nm.length : Int)) w := by
  have h9 := h.own.len (t := 32) Tryz.underlying32 ty
  rw [h.sz] at h9
  exact h9
def hdE (k : Nat) : Ob := tx0.ob.getD k .df
def hdN (k : Nat) : List UInt8 := tx0.nm.getD k []
theorem hd_next (k : Nat) (h : k < 4) : hdT (k + 1) = { hdT k with ob := (hdT k).ob ++ [hdE k], nm := (hdT k).nm ++ [hdN k], ar := (hdT k).ar ++ [((hdE k).kd, (hdE k).num)] } := by
  rcases (show k = 0 ∨ k = 1 ∨ k = 2 ∨ k = 3 by omega) with rfl | rfl | rfl | rfl <;> rfl
theorem hd_four : hdT 4 = tx0 := rfl
theorem hd_len (k : Nat) : (hdT k).ob.length ≤ 4 ∧ (hdT k).nm.length ≤ 4 ∧ (hdT k).ar.length ≤ 4 := by
  have h1 : tx0.ob.length = 4 := rfl
  have h2 : tx0.nm.length = 4 := rfl
  have h3 : tx0.ar.length = 4 := rfl
  unfold hdT
  simp only [List.length_take]
  omega
/-- A telling, whatever its values. -/
def TxX (W w : World) (xb : Nat) (T : Tx) : Prop := ∃ vt vo vc vm vh vi vn va, TxAt W w xb vt vo vc vm vh vi vn va T
/-- An object's block beside a telling. -/
structure HoI (W w : World) (xb : Nat) (vt vo vc vm vh vi vn va : Value) (T : Tx) (ob : Nat) (e : Ob) : Prop where
  h : TxAt W w xb vt vo vc vm vh vi vn va T
  b : w.heap[ob]? = some (.cells #[.int .i64 e.kd, .int .i64 e.num, .int .i64 e.sz] 58 (0, 0))
  f : FreB xb ob vt vo vc vm vh vi vn va
  bw : W.heap.size ≤ ob
variable {W w w2 : World} {xb ob : Nat} {vt vo vc vm vh vi vn va : Value} {T : Tx} {e : Ob}
theorem HoI.quiet (h : HoI W w xb vt vo vc vm vh vi vn va T ob e) (ho : Only (fun _ => False) w w2) : HoI W w2 xb vt vo vc vm vh vi vn va T ob e := ⟨h.h.quiet ho, keepB ho h.b (fun h => h), h.f, h.bw⟩
theorem HoI.st_o (h : HoI W w xb vt vo vc vm vh vi vn va T ob e) (v' : Value) (w5 : World) (xs : List Ob) (hv : OwnL obL w5 W.heap.size 58 v' xs) (ho : Only (fun k => vo.ownBlock = some k) w w5) (hn : v'.ownBlock ≠ some ob) :
    (∃ p m c, v' = .slice p m c) ∧ (∃ x, w5.cell? ⟨xb, 4, none⟩ = some x) ∧ w5.frozen? ⟨xb, 4, none⟩ = false ∧ (∀ j, w5.cell? ⟨xb, j, none⟩ = w.cell? ⟨xb, j, none⟩) ∧ (w5.heap[ob]? = w.heap[ob]?) ∧ Hid (HoI W (w5.setCell ⟨xb, 4, none⟩ v') xb vt v' vc vm vh vi vn va { T with ob := xs } ob e) := by
  obtain ⟨h1, h2, h3, h4⟩ := h.h.st_o v' w5 xs hv ho
  have hx : w5.heap[xb]? = w.heap[xb]? := ho.block xb (lt_of_some h.h.row) (fun h9 => by obtain ⟨cur, h8⟩ := own_tag h.h.lo h9; exact tag_ne h8 h.h.row (by decide) rfl)
  obtain ⟨f0, ft, fo, fc, fm, fh, fi, fn, fa⟩ := h.f
  have ho2 : w5.heap[ob]? = w.heap[ob]? := ho.block ob (lt_of_some h.b) fo
  refine ⟨h1, h2, h3, fun j => World.cell?_of_block (w := w) hx, ho2, h4.out, keepB (only1 w5 xb 4 _) (ho2.trans h.b) f0, ⟨f0, ft, hn, fc, fm, fh, fi, fn, fa⟩, h.bw⟩
theorem HoI.st_n (h : HoI W w xb vt vo vc vm vh vi vn va T ob e) (v' : Value) (w5 : World) (xs : List (List UInt8)) (hv : OwnL stL w5 W.heap.size 9 v' xs) (ho : Only (fun k => vn.ownBlock = some k) w w5) (hn : v'.ownBlock ≠ some ob) :
    (∃ p m c, v' = .slice p m c) ∧ (∃ x, w5.cell? ⟨xb, 10, none⟩ = some x) ∧ w5.frozen? ⟨xb, 10, none⟩ = false ∧ (∀ j, w5.cell? ⟨xb, j, none⟩ = w.cell? ⟨xb, j, none⟩) ∧ (w5.heap[ob]? = w.heap[ob]?) ∧ Hid (HoI W (w5.setCell ⟨xb, 10, none⟩ v') xb vt vo vc vm vh vi v' va { T with nm := xs } ob e) := by
  obtain ⟨h1, h2, h3, h4⟩ := h.h.st_n v' w5 xs hv ho
  have hx : w5.heap[xb]? = w.heap[xb]? := ho.block xb (lt_of_some h.h.row) (fun h9 => by obtain ⟨cur, h8⟩ := own_tag h.h.ln h9; exact tag_ne h8 h.h.row (by decide) rfl)
  obtain ⟨f0, ft, fo, fc, fm, fh, fi, fn, fa⟩ := h.f
  have ho2 : w5.heap[ob]? = w.heap[ob]? := ho.block ob (lt_of_some h.b) fn
  refine ⟨h1, h2, h3, fun j => World.cell?_of_block (w := w) hx, ho2, h4.out, keepB (only1 w5 xb 10 _) (ho2.trans h.b) f0, ⟨f0, ft, fo, fc, fm, fh, fi, hn, fa⟩, h.bw⟩
theorem HoI.st_a (h : HoI W w xb vt vo vc vm vh vi vn va T ob e) (v' : Value) (w5 : World) (xs : List Sl) (hv : OwnL slL w5 W.heap.size 46 v' xs) (ho : Only (fun k => va.ownBlock = some k) w w5) (hn : v'.ownBlock ≠ some ob) :
    (∃ p m c, v' = .slice p m c) ∧ (∃ x, w5.cell? ⟨xb, 11, none⟩ = some x) ∧ w5.frozen? ⟨xb, 11, none⟩ = false ∧ (∀ j, w5.cell? ⟨xb, j, none⟩ = w.cell? ⟨xb, j, none⟩) ∧ (w5.heap[ob]? = w.heap[ob]?) ∧ Hid (HoI W (w5.setCell ⟨xb, 11, none⟩ v') xb vt vo vc vm vh vi vn v' { T with ar := xs } ob e) := by
  obtain ⟨h1, h2, h3, h4⟩ := h.h.st_a v' w5 xs hv ho
  have hx : w5.heap[xb]? = w.heap[xb]? := ho.block xb (lt_of_some h.h.row) (fun h9 => by obtain ⟨cur, h8⟩ := own_tag h.h.la h9; exact tag_ne h8 h.h.row (by decide) rfl)
  obtain ⟨f0, ft, fo, fc, fm, fh, fi, fn, fa⟩ := h.f
  have ho2 : w5.heap[ob]? = w.heap[ob]? := ho.block ob (lt_of_some h.b) fa
  refine ⟨h1, h2, h3, fun j => World.cell?_of_block (w := w) hx, ho2, h4.out, keepB (only1 w5 xb 11 _) (ho2.trans h.b) f0, ⟨f0, ft, fo, fc, fm, fh, fi, fn, hn⟩, h.bw⟩
set_option maxRecDepth 100000 in
set_option maxHeartbeats 8000000 in
theorem specReads_ok (L : List Tl) (hL : ∀ o ∈ L, TlI o) (pl : Option Addr) (cl : Nat) (hpl : ∀ (k : Nat) (hk : k < L.length), ∃ g o, pl = some ⟨g, o, none⟩ ∧ w.cell? ⟨g, o + k * 4, none⟩ = some (.int .i64 (L[k]).k) ∧ w.cell? ⟨g, o + k * 4 + 1, none⟩ = some (.int .i64 (L[k]).a) ∧ w.cell? ⟨g, o + k * 4 + 2, none⟩ = some (.int .i64 (L[k]).b) ∧ w.cell? ⟨g, o + k * 4 + 3, none⟩ = some (.int .i64 (L[k]).c))
    (mx : Int) (hm : w.cell? ⟨0, 0, none⟩ = some (.int .i64 mx)) :
    Calls Tryz.prog 4 #[.slice pl L.length cl] w fun e w' => e = .returned (.bool true) ∧ Below w.heap.size w w' := by
  have HPL : Hid ((∀ o ∈ L, TlI o) ∧ (∀ (k : Nat) (hk : k < L.length), ∃ g o, pl = some ⟨g, o, none⟩ ∧ w.cell? ⟨g, o + k * 4, none⟩ = some (.int .i64 (L[k]).k) ∧ w.cell? ⟨g, o + k * 4 + 1, none⟩ = some (.int .i64 (L[k]).a) ∧ w.cell? ⟨g, o + k * 4 + 2, none⟩ = some (.int .i64 (L[k]).b) ∧ w.cell? ⟨g, o + k * 4 + 3, none⟩ = some (.int .i64 (L[k]).c)) ∧ w.cell? ⟨0, 0, none⟩ = some (.int .i64 mx)) := ⟨hL, hpl, hm⟩
  clear hL hpl hm
  obtain ⟨xb, hxb⟩ : ∃ xb, xb = w.heap.size := ⟨_, rfl⟩
  obtain ⟨w1, hw1⟩ : ∃ w1, w1 = w.alloc (.cells #[.string ⟨(flatL headL).toArray⟩, .int .i64 0, .slice none 0 0, .int .u32 0, .slice none 0 0, .slice none 0 0, .slice none 0 0, .slice none 0 0, .slice none 0 0, .slice none 0 0, .slice none 0 0, .slice none 0 0] 55) := ⟨_, rfl⟩
  have HX1 : Hid (TxX w w1 xb (hdT 0)) := by
    refine ⟨_, _, _, _, _, _, _, _, ⟨?_, ?_, by omega, OwnL.nil _ _ _ _, OwnL.nil _ _ _ _, OwnL.nil _ _ _ _, OwnL.nil _ _ _ _, OwnL.nil _ _ _ _, OwnL.nil _ _ _ _, OwnL.nil _ _ _ _, OwnL.nil _ _ _ _⟩⟩
    · rw [hw1]; exact (Below.refl _ _).alloc (Nat.le_refl _) _
    · rw [hw1, hxb]; exact heap_alloc_last w _
  have hfl : (flatL headL).toArray = #[98, 111, 120, 32, 98, 32, 57, 32, 54, 52, 10, 114, 111, 111, 116, 32, 114, 32, 49, 48, 10, 116, 104, 114, 101, 97, 100, 32, 116, 32, 49, 49, 10, 98, 101, 108, 108, 32, 99, 32, 49, 50, 10, 105, 114, 113, 32, 105, 32, 53, 10] := by decide +kernel
  rw [hfl] at hw1
  clear hfl
  obtain ⟨N, hN⟩ : ∃ N, N = L.length := ⟨_, rfl⟩
  rw [← hN]
  have HN := Vx.hid hN
  clear hN
  go_enter Tryz.func4, Tryz.ntmps4
  go_upto_region 1 with fail
  go_cut [3] from 11 to 12 (fun c3 wx => c3 = .pointer (some ⟨xb, 0, none⟩) ∧ wx = w1)
  case first =>
    go_wp2_with fail
    rw [← hw1, ← hxb]
    go_meet
    exact ⟨rfl, rfl⟩
  case rest =>
  obtain ⟨rfl, hw9⟩ := hcut
  have hw8 := hw9.symm
  clear hw9
  subst hw8
  clear hw1 hxb
  go_wp2_with fail
  go_loopw [4] (fun d wr => ∃ k : Nat, d = .int .i64 (k : Int) ∧ k ≤ 4 ∧ Hid (TxX w wr xb (hdT k))) (fun d _ => 4 - (RowKit.intOf d).toNat)
  case atStart => exact ⟨0, rfl, by omega, HX1.out⟩
  case round =>
    clear HX1
    obtain ⟨k, rfl, hk, HXX⟩ := hrel
    by_cases hlt : k < 4
    · as_aux_lemma =>
      obtain ⟨vt, vo, vc, vm, vh, vi, vn, va, hx⟩ := HXX.out
      have HX := Vx.hid hx
      clear hx HXX
      have h1 : (k : Int) < 4 := by omega
      have hwk : IntKind.i64.wrap ((k : Int) + 1) = (k : Int) + 1 := by rw [IntKind.wrap_i64]; omega
      have hidx : 0 ≤ (k : Int) ∧ (k : Int) < 4 := by omega
      go_upto_region 5 with fail
      go_cut [5] from 17 to 24 (fun c5 wx => ∃ ob, c5 = .pointer (some ⟨ob, 0, none⟩) ∧ Hid (HoI w wx xb vt vo vc vm vh vi vn va (hdT k) ob { hdE k with sz := 0 }))
      case first =>
        clear hwk
        have hkc : (#[.int .i64 5, .int .i64 4, .int .i64 6, .int .i64 8] : Array Value)[k]? = some (.int .i64 (hdE k).kd) := by rcases (show k = 0 ∨ k = 1 ∨ k = 2 ∨ k = 3 by omega) with rfl | rfl | rfl | rfl <;> rfl
        have hkn : IntKind.i64.wrap (9 + (k : Int)) = (hdE k).num := by rcases (show k = 0 ∨ k = 1 ∨ k = 2 ∨ k = 3 by omega) with rfl | rfl | rfl | rfl <;> rfl
        have HB : Hid (HoI w ((wr.alloc (.cells #[.int .i64 5, .int .i64 4, .int .i64 6, .int .i64 8] 3)).alloc (.cells #[.int .i64 (hdE k).kd, .int .i64 (hdE k).num, .int .i64 0] 58)) xb vt vo vc vm vh vi vn va (hdT k) (wr.heap.size + 1) { hdE k with sz := 0 }) := by
          refine ⟨HX.out.quiet (((Only.refl _ _).alloc _).alloc _), ?_, HX.out.fre (by omega), by have := HX.out.be.size; omega⟩
          have h9 := heap_alloc_last (wr.alloc (.cells #[.int .i64 5, .int .i64 4, .int .i64 6, .int .i64 8] 3)) (.cells #[.int .i64 (hdE k).kd, .int .i64 (hdE k).num, .int .i64 0] 58)
          rw [show (wr.alloc (.cells #[.int .i64 5, .int .i64 4, .int .i64 6, .int .i64 8] 3)).heap.size = wr.heap.size + 1 by simp] at h9
          exact h9
        have hke : ([.int .i64 5, .int .i64 4, .int .i64 6, .int .i64 8] : List Value)[k]'(by simpa using hlt) = .int .i64 (hdE k).kd := by rcases (show k = 0 ∨ k = 1 ∨ k = 2 ∨ k = 3 by omega) with rfl | rfl | rfl | rfl <;> rfl
        generalize (hdE k).kd = e1 at hkc HB hke
        generalize (hdE k).num = e2 at hkn HB
        go_wp2_with fail
        go_meet
        exact ⟨_, rfl, HB.out⟩
      case rest =>
        obtain ⟨ob, rfl, HB0⟩ := hcut
        rename World => w2
        clear HX
        go_upto_if 26 with fail
        go_cut [27] from 25 to 26 (fun c27 wx => Hid (HoI w wx xb vt vo vc vm vh vi vn va (hdT k) ob (hdE k)))
        case first =>
          by_cases h0 : k = 0
          · subst h0
            have b2 : w2.cell? ⟨ob, 2, none⟩ = some (.int .i64 0) := (cell_of_row _ _ 2 _ _ (0, 0) HB0.out.b).trans rfl
            have f2 := froz HB0.out.b 2
            have HB1 : Hid (HoI w (w2.setCell ⟨ob, 2, none⟩ (.int .i64 64)) xb vt vo vc vm vh vi vn va (hdT 0) ob (hdE 0)) := by
              refine ⟨HB0.out.h.apart HB0.out.f (HB0.out.bw) (only1 _ _ _ _), ?_, HB0.out.f, HB0.out.bw⟩
              rw [heap_setCell_same _ _ 2 _ _ _ HB0.out.b]
              rfl
            go_wp2_with fail
            go_meet
            exact HB1.out
          · have hne : ((k : Int) == 0) = false := by rw [beq_eq_false_iff_ne]; omega
            have he : hdE k = { hdE k with sz := 0 } := by rcases (show k = 1 ∨ k = 2 ∨ k = 3 by omega) with rfl | rfl | rfl <;> rfl
            have HB1 : Hid (HoI w w2 xb vt vo vc vm vh vi vn va (hdT k) ob (hdE k)) := by rw [he]; exact HB0.out
            clear he
            go_wp2_with fail
            go_meet
            exact HB1.out
        case rest =>
          have HB := hcut
          clear hcut HB0
          rename World => w3
          obtain ⟨pto, cto, hvto, hzz⟩ := HB.out.h.lo.form
          clear hzz
          obtain ⟨nto, hnt⟩ : ∃ n, n = (hdT k).ob.length := ⟨_, rfl⟩
          rw [← hnt] at hvto
          clear hnt
          have HVTo := Vx.hid hvto
          clear hvto
          have HCEo : Hid (∀ wv, HoI w wv xb vt vo vc vm vh vi vn va (hdT k) ob (hdE k) → wv.cell? ⟨xb, 4, none⟩ = some (.slice pto nto cto) ∧ wv.cell? ⟨ob, 0, none⟩ = some (.int .i64 (hdE k).kd) ∧ wv.cell? ⟨ob, 1, none⟩ = some (.int .i64 (hdE k).num) ∧ wv.cell? ⟨ob, 2, none⟩ = some (.int .i64 (hdE k).sz)) := fun wv hv => by
            have h9 : wv.cell? ⟨xb, 4, none⟩ = some (.slice pto nto cto) := ((cell_of_row _ _ 4 _ _ (0, 0) hv.h.row).trans rfl).trans (congrArg some HVTo.out)
            exact ⟨h9, (cell_of_row _ _ 0 _ _ (0, 0) (hv.b)).trans rfl, (cell_of_row _ _ 1 _ _ (0, 0) (hv.b)).trans rfl, (cell_of_row _ _ 2 _ _ (0, 0) (hv.b)).trans rfl⟩
          have HS0o := Vx.hid (HCEo.out _ (HB.out.quiet ((Only.refl _ w3).drew)))
          obtain ⟨wAo, hwAo⟩ : ∃ wA, wA = (w3.alloc (.cells #[.int .i64 (hdE k).kd, .int .i64 (hdE k).num, .int .i64 (hdE k).sz] 58)).drew := ⟨_, rfl⟩
          have hoAo : Only (fun _ => False) w3 wAo := by rw [hwAo]; exact ((Only.refl _ _).alloc _).drew
          obtain ⟨nAo, hnAo⟩ : ∃ nA, nA = w3.heap.size := ⟨_, rfl⟩
          have HXAo := Vx.hid (HB.out.quiet hoAo)
          have HSAo := Vx.hid (HCEo.out _ HXAo.out)
          have HYDo : Hid (∀ j u, (obL.cf (hdE k))[j]? = some u → wAo.cell? ⟨nAo, j, none⟩ = some u) := fun j u hj => by
            have hl : wAo.heap[nAo]? = some (.cells #[.int .i64 (hdE k).kd, .int .i64 (hdE k).num, .int .i64 (hdE k).sz] 58 (0, 0)) := by rw [hwAo, hnAo]; exact heap_alloc_last _ _
            rw [cell_of_row _ _ j _ _ (0, 0) hl]
            simpa [obL, slC] using hj
          have HBWo : Hid (w.heap.size ≤ wAo.heap.size) := HXAo.out.h.be.size
          have HLNo : Hid ((hdT k).ob.length + 1 ≤ 10000000) := by have := hd_len k; show (hdT k).ob.length + 1 ≤ _; omega
          clear hoAo
          go_upto_region 8 with fail
          refine Vx.wp_region_last (S := (fun wv => wv.cell? ⟨xb, 4, none⟩ = some (.slice pto nto cto) ∧ wv.cell? ⟨ob, 0, none⟩ = some (.int .i64 (hdE k).kd) ∧ wv.cell? ⟨ob, 1, none⟩ = some (.int .i64 (hdE k).num) ∧ wv.cell? ⟨ob, 2, none⟩ = some (.int .i64 (hdE k).sz))) 12 (by kernel_rfl) (by simp only [List.getElem?_toArray, List.getElem?_cons_zero, List.getElem?_cons_succ]; rfl) (by kernel_rfl) ?_
          simp only [Vx.offA, Vx.offO, List.setIfInBounds_toArray, List.set_cons_zero, List.set_cons_succ, List.size_toArray, List.length_cons, List.length_nil, Nat.zero_add, Nat.reduceAdd]
          refine wpAnyH_take (i := 0) (v := ?v8_0) (by simp only [List.getElem?_toArray, List.getElem?_cons_zero, List.getElem?_cons_succ]; rfl) (by kernel_rfl) (by kernel_rfl) (by kernel_rfl) (by exact fun _ _ _ h => h) (Or.inl ⟨by rfl, ?hy8_0⟩) HS0o.out ?_
          case hy8_0 => (intro wq hSw; (try dsimp only at hSw); go_simp; try (with_reducible rfl))
          try simp only [Act.put, List.setIfInBounds_toArray, List.set_cons_zero, List.set_cons_succ]
          refine wpAnyH_take (i := 1) (v := ?v8_1) (by simp only [List.getElem?_toArray, List.getElem?_cons_zero, List.getElem?_cons_succ]; rfl) (by kernel_rfl) (by kernel_rfl) (by kernel_rfl) (by exact fun _ _ _ h => h) (Or.inl ⟨by rfl, ?hy8_1⟩) HS0o.out ?_
          case hy8_1 => (intro wq hSw; (try dsimp only at hSw); go_simp; try (with_reducible rfl))
          try simp only [Act.put, List.setIfInBounds_toArray, List.set_cons_zero, List.set_cons_succ]
          refine wpAnyH_take (i := 2) (v := ?v8_2) (by simp only [List.getElem?_toArray, List.getElem?_cons_zero, List.getElem?_cons_succ]; rfl) (by kernel_rfl) (by kernel_rfl) (by kernel_rfl) (by exact fun _ _ _ h => h) (Or.inl ⟨by rfl, ?hy8_2⟩) HS0o.out ?_
          case hy8_2 => (intro wq hSw; (try dsimp only at hSw); go_simp; try (with_reducible rfl))
          try simp only [Act.put, List.setIfInBounds_toArray, List.set_cons_zero, List.set_cons_succ]
          refine wpAnyH_take (i := 3) (v := ?v8_3) (by simp only [List.getElem?_toArray, List.getElem?_cons_zero, List.getElem?_cons_succ]; rfl) (by kernel_rfl) (by kernel_rfl) (by kernel_rfl) (by exact fun _ _ _ h => h) (Or.inl ⟨by rfl, ?hy8_3⟩) HS0o.out ?_
          case hy8_3 => (intro wq hSw; (try dsimp only at hSw); go_simp; try (with_reducible rfl))
          try simp only [Act.put, List.setIfInBounds_toArray, List.set_cons_zero, List.set_cons_succ]
          refine wpAnyH_take (i := 4) (v := ?v8_4) (by simp only [List.getElem?_toArray, List.getElem?_cons_zero, List.getElem?_cons_succ]; rfl) (by kernel_rfl) (by kernel_rfl) (by kernel_rfl) (by exact fun _ _ _ h => h) (Or.inl ⟨by rfl, ?hy8_4⟩) HS0o.out ?_
          case hy8_4 => (intro wq hSw; (try dsimp only at hSw); go_simp; try (with_reducible rfl))
          try simp only [Act.put, List.setIfInBounds_toArray, List.set_cons_zero, List.set_cons_succ]
          refine wpAnyH_take (i := 5) (v := ?v8_5) (by simp only [List.getElem?_toArray, List.getElem?_cons_zero, List.getElem?_cons_succ]; rfl) (by kernel_rfl) (by kernel_rfl) (by kernel_rfl) (by exact fun _ _ _ h => h) (Or.inl ⟨by rfl, ?hy8_5⟩) HS0o.out ?_
          case hy8_5 => (intro wq hSw; (try dsimp only at hSw); go_simp; try (with_reducible rfl))
          try simp only [Act.put, List.setIfInBounds_toArray, List.set_cons_zero, List.set_cons_succ]
          refine wpAnyH_take (i := 6) (v := ?v8_6) (by simp only [List.getElem?_toArray, List.getElem?_cons_zero, List.getElem?_cons_succ]; rfl) (by kernel_rfl) (by kernel_rfl) (by kernel_rfl) (by exact fun _ _ _ h => h) (Or.inl ⟨by rfl, ?hy8_6⟩) HS0o.out ?_
          case hy8_6 => (intro wq hSw; (try dsimp only at hSw); go_simp; try (with_reducible rfl))
          try simp only [Act.put, List.setIfInBounds_toArray, List.set_cons_zero, List.set_cons_succ]
          refine wpAnyH_ready (rs := [7]) (by kernel_rfl) (by simp) ?_
          refine AllReadyH.cons (by simp only [List.getElem?_toArray, List.getElem?_cons_zero, List.getElem?_cons_succ]; rfl) (fun K hK => ?_) AllReadyH.nil
          go_simp
          rw [← hwAo, ← hnAo]
          clear hwAo hnAo
          refine hK.out _ _ HSAo.out (fun _ => ?_)
          clear hK K
          try simp only [Act.put, List.setIfInBounds_toArray, List.set_cons_zero, List.set_cons_succ]
          refine wpAnyH_ready (rs := [8]) (by kernel_rfl) (by simp) ?_
          refine AllReadyH.cons (by simp only [List.getElem?_toArray, List.getElem?_cons_zero, List.getElem?_cons_succ]; rfl) (fun K hK => ?_) AllReadyH.nil
          refine Vx.step_append_one tKo rfl (.tmp 33) (.tmp 35) rfl w.heap.size (.slice pto nto cto) (hdT k).ob (by simp [Act.eval]) (by rw [← HVTo.out]; exact HXAo.out.h.lo) (hdE k) nAo 1 1 (by simp [Act.eval]) HYDo.out HLNo.out HBWo.out ?_
          intro vo w6o hv1 hv2 hv3
          rw [← HVTo.out] at hv2 hv3
          have hnn : vo.ownBlock ≠ some ob := fun h9 => by
            rcases hv3 with h3 | ⟨g9, h3, h4, _⟩
            · rw [h3] at h9; exact HXAo.out.f.2.2.1 h9
            · rw [h3] at h9; injection h9 with h9; have := lt_of_some HXAo.out.b; omega
          obtain ⟨⟨pqo, mqo, cqo, rfl⟩, ⟨qx, hq1o⟩, hq2o, hxc, hoc, HQo⟩ := HXAo.out.st_o vo w6o _ hv1 hv2 hnn
          have HS6o : Hid (w6o.cell? ⟨xb, 4, none⟩ = some (.slice pto nto cto) ∧ w6o.cell? ⟨ob, 0, none⟩ = some (.int .i64 (hdE k).kd) ∧ w6o.cell? ⟨ob, 1, none⟩ = some (.int .i64 (hdE k).num) ∧ w6o.cell? ⟨ob, 2, none⟩ = some (.int .i64 (hdE k).sz)) := ⟨(hxc 4).trans HSAo.out.1, (cell_of_row _ _ 0 _ _ (0, 0) (hoc.trans HXAo.out.b)).trans rfl, (cell_of_row _ _ 1 _ _ (0, 0) (hoc.trans HXAo.out.b)).trans rfl, (cell_of_row _ _ 2 _ _ (0, 0) (hoc.trans HXAo.out.b)).trans rfl⟩
          clear hxc hoc hv1 hv2 hv3 hnn
          refine hK.out _ _ HS6o.out (fun _ => ?_)
          clear hK K
          try simp only [Act.put, List.setIfInBounds_toArray, List.set_cons_zero, List.set_cons_succ]
          refine wpAnyH_take (i := 9) (v := ?v8_9) (by simp only [List.getElem?_toArray, List.getElem?_cons_zero, List.getElem?_cons_succ]; rfl) (by kernel_rfl) (by kernel_rfl) (by kernel_rfl) (by exact fun _ _ _ h => h) (Or.inl ⟨by rfl, ?hy8_9⟩) HS6o.out ?_
          case hy8_9 => (intro wq hSw; (try dsimp only at hSw); go_simp; try (with_reducible rfl))
          try simp only [Act.put, List.setIfInBounds_toArray, List.set_cons_zero, List.set_cons_succ]
          refine wpAnyH_take (i := 10) (v := ?v8_10) (by simp only [List.getElem?_toArray, List.getElem?_cons_zero, List.getElem?_cons_succ]; rfl) (by kernel_rfl) (by kernel_rfl) (by kernel_rfl) (by exact fun _ _ _ h => h) (Or.inl ⟨by rfl, ?hy8_10⟩) HS6o.out ?_
          case hy8_10 => (intro wq hSw; (try dsimp only at hSw); go_simp; try (with_reducible rfl))
          try simp only [Act.put, List.setIfInBounds_toArray, List.set_cons_zero, List.set_cons_succ]
          refine wpAnyH_take (i := 11) (v := ?v8_11) (by simp only [List.getElem?_toArray, List.getElem?_cons_zero, List.getElem?_cons_succ]; rfl) (by kernel_rfl) (by kernel_rfl) (by kernel_rfl) (by exact fun _ _ _ h => h) (Or.inl ⟨by rfl, ?hy8_11⟩) HS6o.out ?_
          case hy8_11 => (intro wq hSw; (try dsimp only at hSw); go_simp; try (with_reducible rfl))
          try simp only [Act.put, List.setIfInBounds_toArray, List.set_cons_zero, List.set_cons_succ]
          refine wpAnyH_take (i := 12) (v := undef) (by simp only [List.getElem?_toArray, List.getElem?_cons_zero, List.getElem?_cons_succ]; rfl) (by kernel_rfl) (by kernel_rfl) (by kernel_rfl) (by exact fun _ _ _ h => h) (Or.inr ⟨by rfl, rfl⟩) HS6o.out ?_
          refine wpAnyH_done (by kernel_rfl) ?_ _
          simp only [Vx.upTo]
          clear HYDo HBWo HXAo HS0o HSAo HS6o HCEo HLNo
          go_upto_region 9 with fail
          obtain ⟨w4, hw4⟩ : ∃ w9, w9 = w6o.setCell ⟨xb, 4, none⟩ (.slice pqo mqo cqo) := ⟨_, rfl⟩
          rw [← hw4] at HQo ⊢
          clear hw4 hq1o hq2o
          obtain ⟨ptn, ctn, hvtn, hzz⟩ := HQo.out.h.ln.form
          clear hzz
          obtain ⟨ntn, hnt⟩ : ∃ n, n = ({ hdT k with ob := (hdT k).ob ++ [hdE k] }).nm.length := ⟨_, rfl⟩
          rw [← hnt] at hvtn
          clear hnt
          have HVTn := Vx.hid hvtn
          clear hvtn
          have HCEn : Hid (∀ wv, HoI w wv xb vt (.slice pqo mqo cqo) vc vm vh vi vn va ({ hdT k with ob := (hdT k).ob ++ [hdE k] }) ob (hdE k) → wv.cell? ⟨xb, 10, none⟩ = some (.slice ptn ntn ctn)) := fun wv hv => by
            have h9 : wv.cell? ⟨xb, 10, none⟩ = some (.slice ptn ntn ctn) := ((cell_of_row _ _ 10 _ _ (0, 0) hv.h.row).trans rfl).trans (congrArg some HVTn.out)
            exact h9
          have HS0n := Vx.hid (HCEn.out _ (HQo.out.quiet ((Only.refl _ w4).drew)))
          obtain ⟨wRn, hwRn⟩ : ∃ wR, wR = (w4.alloc (.cells #[.string ⟨#[98]⟩, .string ⟨#[114]⟩, .string ⟨#[116]⟩, .string ⟨#[99]⟩] 9)).drew := ⟨_, rfl⟩
          obtain ⟨nRn, hnRn⟩ : ∃ nR, nR = w4.heap.size := ⟨_, rfl⟩
          have hoRn : Only (fun _ => False) w4 wRn := by rw [hwRn]; exact ((Only.refl _ _).alloc _).drew
          have HSRn := Vx.hid (HCEn.out _ (HQo.out.quiet hoRn))
          have hcRn : wRn.cell? ⟨nRn, k, none⟩ = some (.string ⟨(hdN k).toArray⟩) := by
            have hl : wRn.heap[nRn]? = some (.cells #[.string ⟨#[98]⟩, .string ⟨#[114]⟩, .string ⟨#[116]⟩, .string ⟨#[99]⟩] 9 (0, 0)) := by rw [hwRn, hnRn]; exact heap_alloc_last _ _
            rw [cell_of_row _ _ k _ _ (0, 0) hl]
            rcases (show k = 0 ∨ k = 1 ∨ k = 2 ∨ k = 3 by omega) with rfl | rfl | rfl | rfl <;> rfl
          obtain ⟨wAn, hwAn⟩ : ∃ wA, wA = wRn.alloc (.cells #[.string ⟨(hdN k).toArray⟩] 9) := ⟨_, rfl⟩
          have hoAn : Only (fun _ => False) w4 wAn := by rw [hwAn]; exact hoRn.alloc _
          obtain ⟨nAn, hnAn⟩ : ∃ nA, nA = wRn.heap.size := ⟨_, rfl⟩
          clear hoRn
          have HXAn := Vx.hid (HQo.out.quiet hoAn)
          have HSAn := Vx.hid (HCEn.out _ HXAn.out)
          have HYDn : Hid (∀ j u, (stL.cf (hdN k))[j]? = some u → wAn.cell? ⟨nAn, j, none⟩ = some u) := fun j u hj => by
            have hl : wAn.heap[nAn]? = some (.cells #[.string ⟨(hdN k).toArray⟩] 9 (0, 0)) := by rw [hwAn, hnAn]; exact heap_alloc_last _ _
            rw [cell_of_row _ _ j _ _ (0, 0) hl]
            simpa [stL, slC] using hj
          have HBWn : Hid (w.heap.size ≤ wAn.heap.size) := HXAn.out.h.be.size
          have HLNn : Hid (({ hdT k with ob := (hdT k).ob ++ [hdE k] }).nm.length + 1 ≤ 10000000) := by have := hd_len k; show (hdT k).nm.length + 1 ≤ _; omega
          clear hoAn
          go_upto_region 9 with fail
          refine Vx.wp_region_last (S := (fun wv => wv.cell? ⟨xb, 10, none⟩ = some (.slice ptn ntn ctn))) 13 (by kernel_rfl) (by simp only [List.getElem?_toArray, List.getElem?_cons_zero, List.getElem?_cons_succ]; rfl) (by kernel_rfl) ?_
          simp only [Vx.offA, Vx.offO, List.setIfInBounds_toArray, List.set_cons_zero, List.set_cons_succ, List.size_toArray, List.length_cons, List.length_nil, Nat.zero_add, Nat.reduceAdd]
          refine wpAnyH_take (i := 0) (v := ?v9_0) (by simp only [List.getElem?_toArray, List.getElem?_cons_zero, List.getElem?_cons_succ]; rfl) (by kernel_rfl) (by kernel_rfl) (by kernel_rfl) (by exact fun _ _ _ h => h) (Or.inl ⟨by rfl, ?hy9_0⟩) HS0n.out ?_
          case hy9_0 => (intro wq hSw; (try dsimp only at hSw); go_simp; try (with_reducible rfl))
          try simp only [Act.put, List.setIfInBounds_toArray, List.set_cons_zero, List.set_cons_succ]
          refine wpAnyH_take (i := 1) (v := ?v9_1) (by simp only [List.getElem?_toArray, List.getElem?_cons_zero, List.getElem?_cons_succ]; rfl) (by kernel_rfl) (by kernel_rfl) (by kernel_rfl) (by exact fun _ _ _ h => h) (Or.inl ⟨by rfl, ?hy9_1⟩) HS0n.out ?_
          case hy9_1 => (intro wq hSw; (try dsimp only at hSw); go_simp; try (with_reducible rfl))
          try simp only [Act.put, List.setIfInBounds_toArray, List.set_cons_zero, List.set_cons_succ]
          refine wpAnyH_take (i := 2) (v := ?v9_2) (by simp only [List.getElem?_toArray, List.getElem?_cons_zero, List.getElem?_cons_succ]; rfl) (by kernel_rfl) (by kernel_rfl) (by kernel_rfl) (by exact fun _ _ _ h => h) (Or.inl ⟨by rfl, ?hy9_2⟩) HS0n.out ?_
          case hy9_2 => (intro wq hSw; (try dsimp only at hSw); go_simp; try (with_reducible rfl))
          try simp only [Act.put, List.setIfInBounds_toArray, List.set_cons_zero, List.set_cons_succ]
          refine wpAnyH_take (i := 3) (v := ?v9_3) (by simp only [List.getElem?_toArray, List.getElem?_cons_zero, List.getElem?_cons_succ]; rfl) (by kernel_rfl) (by kernel_rfl) (by kernel_rfl) (by exact fun _ _ _ h => h) (Or.inl ⟨by rfl, ?hy9_3⟩) HS0n.out ?_
          case hy9_3 => (intro wq hSw; (try dsimp only at hSw); go_simp; try (with_reducible rfl))
          try simp only [Act.put, List.setIfInBounds_toArray, List.set_cons_zero, List.set_cons_succ]
          refine wpAnyH_take (i := 4) (v := ?v9_4) (by simp only [List.getElem?_toArray, List.getElem?_cons_zero, List.getElem?_cons_succ]; rfl) (by kernel_rfl) (by kernel_rfl) (by kernel_rfl) (by exact fun _ _ _ h => h) (Or.inl ⟨by rfl, ?hy9_4⟩) HS0n.out ?_
          case hy9_4 => (intro wq hSw; (try dsimp only at hSw); go_simp; try (with_reducible rfl))
          try simp only [Act.put, List.setIfInBounds_toArray, List.set_cons_zero, List.set_cons_succ]
          refine wpAnyH_take (i := 6) (v := ?v9_6) (by simp only [List.getElem?_toArray, List.getElem?_cons_zero, List.getElem?_cons_succ]; rfl) (by kernel_rfl) (by kernel_rfl) (by kernel_rfl) (by exact fun _ _ _ h => h) (Or.inl ⟨by rfl, ?hy9_6⟩) HS0n.out ?_
          case hy9_6 => (intro wq hSw; (try dsimp only at hSw); go_simp; try (with_reducible rfl))
          try simp only [Act.put, List.setIfInBounds_toArray, List.set_cons_zero, List.set_cons_succ]
          refine wpAnyH_ready (rs := [5]) (by kernel_rfl) (by simp) ?_
          refine AllReadyH.cons (by simp only [List.getElem?_toArray, List.getElem?_cons_zero, List.getElem?_cons_succ]; rfl) (fun K hK => ?_) AllReadyH.nil
          go_simp
          rw [← hwRn, ← hnRn]
          clear hwRn hnRn
          refine hK.out _ _ HSRn.out (fun _ => ?_)
          clear hK K
          try simp only [Act.put, List.setIfInBounds_toArray, List.set_cons_zero, List.set_cons_succ]
          refine wpAnyH_take (i := 7) (v := ?v9_7) (by simp only [List.getElem?_toArray, List.getElem?_cons_zero, List.getElem?_cons_succ]; rfl) (by kernel_rfl) (by kernel_rfl) (by kernel_rfl) (by exact fun _ _ _ h => h) (Or.inl ⟨by rfl, ?hy9_7⟩) HSRn.out ?_
          case hy9_7 => (intro wq hSw; (try dsimp only at hSw); go_simp; try (with_reducible rfl))
          try simp only [Act.put, List.setIfInBounds_toArray, List.set_cons_zero, List.set_cons_succ]
          refine wpAnyH_ready (rs := [8]) (by kernel_rfl) (by simp) ?_
          refine AllReadyH.cons (by simp only [List.getElem?_toArray, List.getElem?_cons_zero, List.getElem?_cons_succ]; rfl) (fun K hK => ?_) AllReadyH.nil
          go_simp
          refine hK.out _ _ HSRn.out (fun _ => ?_)
          clear hK K
          try simp only [Act.put, List.setIfInBounds_toArray, List.set_cons_zero, List.set_cons_succ]
          refine wpAnyH_ready (rs := [9]) (by kernel_rfl) (by simp) ?_
          refine AllReadyH.cons (by simp only [List.getElem?_toArray, List.getElem?_cons_zero, List.getElem?_cons_succ]; rfl) (fun K hK => ?_) AllReadyH.nil
          go_simp
          rw [← hwAn, ← hnAn]
          clear hwAn hnAn
          refine hK.out _ _ HSAn.out (fun _ => ?_)
          clear hK K
          try simp only [Act.put, List.setIfInBounds_toArray, List.set_cons_zero, List.set_cons_succ]
          refine wpAnyH_ready (rs := [10]) (by kernel_rfl) (by simp) ?_
          refine AllReadyH.cons (by simp only [List.getElem?_toArray, List.getElem?_cons_zero, List.getElem?_cons_succ]; rfl) (fun K hK => ?_) AllReadyH.nil
          refine Vx.step_append_one tKn rfl (.tmp 44) (.tmp 49) rfl w.heap.size (.slice ptn ntn ctn) ({ hdT k with ob := (hdT k).ob ++ [hdE k] }).nm (by simp [Act.eval]) (by rw [← HVTn.out]; exact HXAn.out.h.ln) (hdN k) nAn 1 1 (by simp [Act.eval]) HYDn.out HLNn.out HBWn.out ?_
          intro vn w6n hv1 hv2 hv3
          rw [← HVTn.out] at hv2 hv3
          have hnn : vn.ownBlock ≠ some ob := fun h9 => by
            rcases hv3 with h3 | ⟨g9, h3, h4, _⟩
            · rw [h3] at h9; exact HXAn.out.f.2.2.2.2.2.2.2.1 h9
            · rw [h3] at h9; injection h9 with h9; have := lt_of_some HXAn.out.b; omega
          obtain ⟨⟨pqn, mqn, cqn, rfl⟩, ⟨qx, hq1n⟩, hq2n, hxc, hoc, HQn⟩ := HXAn.out.st_n vn w6n _ hv1 hv2 hnn
          have HS6n : Hid (w6n.cell? ⟨xb, 10, none⟩ = some (.slice ptn ntn ctn)) := (hxc 10).trans HSAn.out
          clear hxc hoc hv1 hv2 hv3 hnn
          refine hK.out _ _ HS6n.out (fun _ => ?_)
          clear hK K
          try simp only [Act.put, List.setIfInBounds_toArray, List.set_cons_zero, List.set_cons_succ]
          refine wpAnyH_take (i := 11) (v := ?v9_11) (by simp only [List.getElem?_toArray, List.getElem?_cons_zero, List.getElem?_cons_succ]; rfl) (by kernel_rfl) (by kernel_rfl) (by kernel_rfl) (by exact fun _ _ _ h => h) (Or.inl ⟨by rfl, ?hy9_11⟩) HS6n.out ?_
          case hy9_11 => (intro wq hSw; (try dsimp only at hSw); go_simp; try (with_reducible rfl))
          try simp only [Act.put, List.setIfInBounds_toArray, List.set_cons_zero, List.set_cons_succ]
          refine wpAnyH_take (i := 12) (v := ?v9_12) (by simp only [List.getElem?_toArray, List.getElem?_cons_zero, List.getElem?_cons_succ]; rfl) (by kernel_rfl) (by kernel_rfl) (by kernel_rfl) (by exact fun _ _ _ h => h) (Or.inl ⟨by rfl, ?hy9_12⟩) HS6n.out ?_
          case hy9_12 => (intro wq hSw; (try dsimp only at hSw); go_simp; try (with_reducible rfl))
          try simp only [Act.put, List.setIfInBounds_toArray, List.set_cons_zero, List.set_cons_succ]
          refine wpAnyH_take (i := 13) (v := undef) (by simp only [List.getElem?_toArray, List.getElem?_cons_zero, List.getElem?_cons_succ]; rfl) (by kernel_rfl) (by kernel_rfl) (by kernel_rfl) (by exact fun _ _ _ h => h) (Or.inr ⟨by rfl, rfl⟩) HS6n.out ?_
          refine wpAnyH_done (by kernel_rfl) ?_ _
          simp only [Vx.upTo]
          clear HYDn HBWn HXAn HS0n HSAn HS6n HCEn HLNn HSRn hcRn
          go_upto_region 10 with fail
          obtain ⟨w5, hw5⟩ : ∃ w9, w9 = w6n.setCell ⟨xb, 10, none⟩ (.slice pqn mqn cqn) := ⟨_, rfl⟩
          rw [← hw5] at HQn ⊢
          clear hw5 hq1n hq2n
          obtain ⟨pta, cta, hvta, hzz⟩ := HQn.out.h.la.form
          clear hzz
          obtain ⟨nta, hnt⟩ : ∃ n, n = ({ hdT k with ob := (hdT k).ob ++ [hdE k], nm := (hdT k).nm ++ [hdN k] }).ar.length := ⟨_, rfl⟩
          rw [← hnt] at hvta
          clear hnt
          have HVTa := Vx.hid hvta
          clear hvta
          have HCEa : Hid (∀ wv, HoI w wv xb vt (.slice pqo mqo cqo) vc vm vh vi (.slice pqn mqn cqn) va ({ hdT k with ob := (hdT k).ob ++ [hdE k], nm := (hdT k).nm ++ [hdN k] }) ob (hdE k) → wv.cell? ⟨xb, 11, none⟩ = some (.slice pta nta cta) ∧ wv.cell? ⟨ob, 0, none⟩ = some (.int .i64 (hdE k).kd) ∧ wv.cell? ⟨ob, 1, none⟩ = some (.int .i64 (hdE k).num)) := fun wv hv => by
            have h9 : wv.cell? ⟨xb, 11, none⟩ = some (.slice pta nta cta) := ((cell_of_row _ _ 11 _ _ (0, 0) hv.h.row).trans rfl).trans (congrArg some HVTa.out)
            exact ⟨h9, (cell_of_row _ _ 0 _ _ (0, 0) (hv.b)).trans rfl, (cell_of_row _ _ 1 _ _ (0, 0) (hv.b)).trans rfl⟩
          have HS0a := Vx.hid (HCEa.out _ (HQn.out.quiet ((Only.refl _ w5).drew)))
          obtain ⟨wAa, hwAa⟩ : ∃ wA, wA = (w5.alloc (.cells #[.int .i64 (hdE k).kd, .int .i64 (hdE k).num] 46)).drew := ⟨_, rfl⟩
          have hoAa : Only (fun _ => False) w5 wAa := by rw [hwAa]; exact ((Only.refl _ _).alloc _).drew
          obtain ⟨nAa, hnAa⟩ : ∃ nA, nA = w5.heap.size := ⟨_, rfl⟩
          have HXAa := Vx.hid (HQn.out.quiet hoAa)
          have HSAa := Vx.hid (HCEa.out _ HXAa.out)
          have HYDa : Hid (∀ j u, (slL.cf ((hdE k).kd, (hdE k).num))[j]? = some u → wAa.cell? ⟨nAa, j, none⟩ = some u) := fun j u hj => by
            have hl : wAa.heap[nAa]? = some (.cells #[.int .i64 (hdE k).kd, .int .i64 (hdE k).num] 46 (0, 0)) := by rw [hwAa, hnAa]; exact heap_alloc_last _ _
            rw [cell_of_row _ _ j _ _ (0, 0) hl]
            simpa [slL, slC] using hj
          have HBWa : Hid (w.heap.size ≤ wAa.heap.size) := HXAa.out.h.be.size
          have HLNa : Hid (({ hdT k with ob := (hdT k).ob ++ [hdE k], nm := (hdT k).nm ++ [hdN k] }).ar.length + 1 ≤ 10000000) := by have := hd_len k; show (hdT k).ar.length + 1 ≤ _; omega
          clear hoAa
          go_upto_region 10 with fail
          refine Vx.wp_region_last (S := (fun wv => wv.cell? ⟨xb, 11, none⟩ = some (.slice pta nta cta) ∧ wv.cell? ⟨ob, 0, none⟩ = some (.int .i64 (hdE k).kd) ∧ wv.cell? ⟨ob, 1, none⟩ = some (.int .i64 (hdE k).num))) 11 (by kernel_rfl) (by simp only [List.getElem?_toArray, List.getElem?_cons_zero, List.getElem?_cons_succ]; rfl) (by kernel_rfl) ?_
          simp only [Vx.offA, Vx.offO, List.setIfInBounds_toArray, List.set_cons_zero, List.set_cons_succ, List.size_toArray, List.length_cons, List.length_nil, Nat.zero_add, Nat.reduceAdd]
          refine wpAnyH_take (i := 0) (v := ?v10_0) (by simp only [List.getElem?_toArray, List.getElem?_cons_zero, List.getElem?_cons_succ]; rfl) (by kernel_rfl) (by kernel_rfl) (by kernel_rfl) (by exact fun _ _ _ h => h) (Or.inl ⟨by rfl, ?hy10_0⟩) HS0a.out ?_
          case hy10_0 => (intro wq hSw; (try dsimp only at hSw); go_simp; try (with_reducible rfl))
          try simp only [Act.put, List.setIfInBounds_toArray, List.set_cons_zero, List.set_cons_succ]
          refine wpAnyH_take (i := 1) (v := ?v10_1) (by simp only [List.getElem?_toArray, List.getElem?_cons_zero, List.getElem?_cons_succ]; rfl) (by kernel_rfl) (by kernel_rfl) (by kernel_rfl) (by exact fun _ _ _ h => h) (Or.inl ⟨by rfl, ?hy10_1⟩) HS0a.out ?_
          case hy10_1 => (intro wq hSw; (try dsimp only at hSw); go_simp; try (with_reducible rfl))
          try simp only [Act.put, List.setIfInBounds_toArray, List.set_cons_zero, List.set_cons_succ]
          refine wpAnyH_take (i := 2) (v := ?v10_2) (by simp only [List.getElem?_toArray, List.getElem?_cons_zero, List.getElem?_cons_succ]; rfl) (by kernel_rfl) (by kernel_rfl) (by kernel_rfl) (by exact fun _ _ _ h => h) (Or.inl ⟨by rfl, ?hy10_2⟩) HS0a.out ?_
          case hy10_2 => (intro wq hSw; (try dsimp only at hSw); go_simp; try (with_reducible rfl))
          try simp only [Act.put, List.setIfInBounds_toArray, List.set_cons_zero, List.set_cons_succ]
          refine wpAnyH_take (i := 3) (v := ?v10_3) (by simp only [List.getElem?_toArray, List.getElem?_cons_zero, List.getElem?_cons_succ]; rfl) (by kernel_rfl) (by kernel_rfl) (by kernel_rfl) (by exact fun _ _ _ h => h) (Or.inl ⟨by rfl, ?hy10_3⟩) HS0a.out ?_
          case hy10_3 => (intro wq hSw; (try dsimp only at hSw); go_simp; try (with_reducible rfl))
          try simp only [Act.put, List.setIfInBounds_toArray, List.set_cons_zero, List.set_cons_succ]
          refine wpAnyH_take (i := 4) (v := ?v10_4) (by simp only [List.getElem?_toArray, List.getElem?_cons_zero, List.getElem?_cons_succ]; rfl) (by kernel_rfl) (by kernel_rfl) (by kernel_rfl) (by exact fun _ _ _ h => h) (Or.inl ⟨by rfl, ?hy10_4⟩) HS0a.out ?_
          case hy10_4 => (intro wq hSw; (try dsimp only at hSw); go_simp; try (with_reducible rfl))
          try simp only [Act.put, List.setIfInBounds_toArray, List.set_cons_zero, List.set_cons_succ]
          refine wpAnyH_take (i := 5) (v := ?v10_5) (by simp only [List.getElem?_toArray, List.getElem?_cons_zero, List.getElem?_cons_succ]; rfl) (by kernel_rfl) (by kernel_rfl) (by kernel_rfl) (by exact fun _ _ _ h => h) (Or.inl ⟨by rfl, ?hy10_5⟩) HS0a.out ?_
          case hy10_5 => (intro wq hSw; (try dsimp only at hSw); go_simp; try (with_reducible rfl))
          try simp only [Act.put, List.setIfInBounds_toArray, List.set_cons_zero, List.set_cons_succ]
          refine wpAnyH_take (i := 6) (v := ?v10_6) (by simp only [List.getElem?_toArray, List.getElem?_cons_zero, List.getElem?_cons_succ]; rfl) (by kernel_rfl) (by kernel_rfl) (by kernel_rfl) (by exact fun _ _ _ h => h) (Or.inl ⟨by rfl, ?hy10_6⟩) HS0a.out ?_
          case hy10_6 => (intro wq hSw; (try dsimp only at hSw); go_simp; try (with_reducible rfl))
          try simp only [Act.put, List.setIfInBounds_toArray, List.set_cons_zero, List.set_cons_succ]
          refine wpAnyH_ready (rs := [7]) (by kernel_rfl) (by simp) ?_
          refine AllReadyH.cons (by simp only [List.getElem?_toArray, List.getElem?_cons_zero, List.getElem?_cons_succ]; rfl) (fun K hK => ?_) AllReadyH.nil
          go_simp
          rw [← hwAa, ← hnAa]
          clear hwAa hnAa
          refine hK.out _ _ HSAa.out (fun _ => ?_)
          clear hK K
          try simp only [Act.put, List.setIfInBounds_toArray, List.set_cons_zero, List.set_cons_succ]
          refine wpAnyH_ready (rs := [8]) (by kernel_rfl) (by simp) ?_
          refine AllReadyH.cons (by simp only [List.getElem?_toArray, List.getElem?_cons_zero, List.getElem?_cons_succ]; rfl) (fun K hK => ?_) AllReadyH.nil
          refine Vx.step_append_one tKa rfl (.tmp 57) (.tmp 60) rfl w.heap.size (.slice pta nta cta) ({ hdT k with ob := (hdT k).ob ++ [hdE k], nm := (hdT k).nm ++ [hdN k] }).ar (by simp [Act.eval]) (by rw [← HVTa.out]; exact HXAa.out.h.la) ((hdE k).kd, (hdE k).num) nAa 1 1 (by simp [Act.eval]) HYDa.out HLNa.out HBWa.out ?_
          intro va w6a hv1 hv2 hv3
          rw [← HVTa.out] at hv2 hv3
          have hnn : va.ownBlock ≠ some ob := fun h9 => by
            rcases hv3 with h3 | ⟨g9, h3, h4, _⟩
            · rw [h3] at h9; exact HXAa.out.f.2.2.2.2.2.2.2.2 h9
            · rw [h3] at h9; injection h9 with h9; have := lt_of_some HXAa.out.b; omega
          obtain ⟨⟨pqa, mqa, cqa, rfl⟩, ⟨qx, hq1a⟩, hq2a, hxc, hoc, HQa⟩ := HXAa.out.st_a va w6a _ hv1 hv2 hnn
          have HS6a : Hid (w6a.cell? ⟨xb, 11, none⟩ = some (.slice pta nta cta) ∧ w6a.cell? ⟨ob, 0, none⟩ = some (.int .i64 (hdE k).kd) ∧ w6a.cell? ⟨ob, 1, none⟩ = some (.int .i64 (hdE k).num)) := ⟨(hxc 11).trans HSAa.out.1, (cell_of_row _ _ 0 _ _ (0, 0) (hoc.trans HXAa.out.b)).trans rfl, (cell_of_row _ _ 1 _ _ (0, 0) (hoc.trans HXAa.out.b)).trans rfl⟩
          clear hxc hoc hv1 hv2 hv3 hnn
          refine hK.out _ _ HS6a.out (fun _ => ?_)
          clear hK K
          try simp only [Act.put, List.setIfInBounds_toArray, List.set_cons_zero, List.set_cons_succ]
          refine wpAnyH_take (i := 9) (v := ?v10_9) (by simp only [List.getElem?_toArray, List.getElem?_cons_zero, List.getElem?_cons_succ]; rfl) (by kernel_rfl) (by kernel_rfl) (by kernel_rfl) (by exact fun _ _ _ h => h) (Or.inl ⟨by rfl, ?hy10_9⟩) HS6a.out ?_
          case hy10_9 => (intro wq hSw; (try dsimp only at hSw); go_simp; try (with_reducible rfl))
          try simp only [Act.put, List.setIfInBounds_toArray, List.set_cons_zero, List.set_cons_succ]
          refine wpAnyH_take (i := 10) (v := ?v10_10) (by simp only [List.getElem?_toArray, List.getElem?_cons_zero, List.getElem?_cons_succ]; rfl) (by kernel_rfl) (by kernel_rfl) (by kernel_rfl) (by exact fun _ _ _ h => h) (Or.inl ⟨by rfl, ?hy10_10⟩) HS6a.out ?_
          case hy10_10 => (intro wq hSw; (try dsimp only at hSw); go_simp; try (with_reducible rfl))
          try simp only [Act.put, List.setIfInBounds_toArray, List.set_cons_zero, List.set_cons_succ]
          refine wpAnyH_take (i := 11) (v := undef) (by simp only [List.getElem?_toArray, List.getElem?_cons_zero, List.getElem?_cons_succ]; rfl) (by kernel_rfl) (by kernel_rfl) (by kernel_rfl) (by exact fun _ _ _ h => h) (Or.inr ⟨by rfl, rfl⟩) HS6a.out ?_
          refine wpAnyH_done (by kernel_rfl) ?_ _
          simp only [Vx.upTo]
          clear HYDa HBWa HXAa HS0a HSAa HS6a HCEa HLNa
          go_wp2_with fail
          go_roundw
          case rel => exact ⟨k + 1, by go_num, by omega, by rw [hd_next k hlt]; exact ⟨_, _, _, _, _, _, _, _, HQa.out.h⟩⟩
          case measure => simp only [RowKit.intOf]; omega
    · have hk4 : k = 4 := by omega
      subst hk4
      have HX0 : Hid (TxX w wr xb tx0) := HXX.out
      clear HXX hk hlt
      rw [show ((4 : Nat) : Int) = 4 from rfl]
      go_wp2_with fail
      go_loopw [6] (fun d wr => ∃ k : Nat, d = .int .i64 (k : Int) ∧ k ≤ N ∧ k ≤ 120 ∧ Hid (TxX w wr xb (telL tx0 (L.take k)))) (fun d _ => 120 - (RowKit.intOf d).toNat)
      case atStart => exact ⟨0, rfl, by omega, by omega, HX0.out⟩
      case round =>
        clear HX0
        obtain ⟨k, rfl, hkN, hk120, HXX⟩ := hrel
        by_cases hlt : k < N ∧ k < 120
        · as_aux_lemma =>
          obtain ⟨hl1, hl2⟩ := hlt
          have hkl : k < L.length := by rw [← HN.out]; exact hl1
          obtain ⟨g, o, hpl, d0, d1, d2, d3⟩ := HPL.out.2.1 k hkl
          subst hpl
          obtain ⟨vt, vo, vc, vm, vh, vi, vn, va, hx⟩ := HXX.out
          have hgw : g < w.heap.size := World.block_lt_of_cell? _ _ d0
          have c0 := (hx.be.cell (p := ⟨g, o + k * 4, none⟩) hgw).trans d0
          have c1 := (hx.be.cell (p := ⟨g, o + k * 4 + 1, none⟩) hgw).trans d1
          have c2 := (hx.be.cell (p := ⟨g, o + k * 4 + 2, none⟩) hgw).trans d2
          have c3 := (hx.be.cell (p := ⟨g, o + k * 4 + 3, none⟩) hgw).trans d3
          have hB : Bnd (telL tx0 (L.take k)) := bnd_tel L k (by omega) (by omega)
          have HLA := Vx.hid (line_any hx (L[k]) (HPL.out.1 _ (List.getElem_mem hkl)) hB)
          have HTK := Vx.hid (tel_take L tx0 k hkl)
          have h1 : (k : Int) < (N : Int) := by omega
          have h2 : (k : Int) < 120 := by omega
          have hidx : 0 ≤ (k : Int) ∧ (k : Int) < (N : Int) := by omega
          have hwk : IntKind.i64.wrap ((k : Int) + 1) = (k : Int) + 1 := by rw [IntKind.wrap_i64]; omega
          generalize L[k] = el at c0 c1 c2 c3 HLA HTK
          clear d0 d1 d2 d3 hx hB hgw HXX
          go_wp2_with fail
          refine HLA.out.mono ?_
          rintro e w2 ⟨rfl, H2⟩
          clear HLA c0 c1 c2 c3
          go_wp2_with fail
          go_roundw
          case rel => exact ⟨k + 1, by go_num, by omega, by omega, by rw [HTK.out]; exact H2.out⟩
          case measure => simp only [RowKit.intOf]; omega
        · have hT : telL tx0 (L.take k) = telL tx0 (L.take 120) := by
            have hN := HN.out
            by_cases h9 : k = 120
            · rw [h9]
            · rw [List.take_of_length_le (show L.length ≤ k by omega), List.take_of_length_le (show L.length ≤ 120 by omega)]
          have HX0 : Hid (TxX w wr xb (telL tx0 (L.take 120))) := by show TxX _ _ _ _; rw [← hT]; exact HXX.out
          clear HXX hT
          obtain ⟨M, hM⟩ : ∃ M, M = L.take 120 := ⟨_, rfl⟩
          rw [← hM] at HX0
          have HM : Hid (M.length ≤ 120) := by show _ ≤ _; rw [hM]; exact List.length_take_le _ _
          clear hM
          have HPA : Hid (∀ wv, Below w.heap.size w wv → Calls Tryz.prog 5 #[.string ⟨((telL tx0 M).t).toArray⟩] wv fun e w' => ∃ B vt vo vc vm vh vi mb D, e = .returned (.tuple #[.agg #[.int .i64 0, vt, .int .u32 1073741822, vo, .slice none 0 0, vc, vm, vh, vi, .map (some mb)], .int .i64 0, .int .i64 0]) ∧ Hid (PaQ wv w' (rdT (telL tx0 M)) B vt vo vc vm vh vi mb D)) := fun wv hb => by
            have h9 := parse_ok (allL M) (stF M) (read_all M HM.out) mx wv ((hb.cell (p := ⟨0, 0, none⟩) (World.block_lt_of_cell? _ _ HPL.out.2.2)).trans HPL.out.2.2)
            have e9 : stF M (allL M).length = rdT (telL tx0 M) := by
              rw [all_len]
              show rdT (telL tx0 (M.take (M.length + 1))) = _
              rw [List.take_of_length_le (by omega)]
            rw [text_all, e9] at h9
            exact h9
          have HTW := Vx.hid (tel_tw M tx0 tw0)
          have HCN := Vx.hid (tel_cnt M tx0 4 cnt0)
          by_cases h9 : k < N
          · as_aux_lemma =>
            have hn : ¬ (k : Int) < 120 := by
              have : ¬ k < 120 := fun h8 => hlt ⟨h9, h8⟩
              omega
            have h1 : (k : Int) < (N : Int) := by omega
            clear hlt h9 hkN hk120
            obtain ⟨vt, vo, vc, vm, vh, vi, vn, va, hx⟩ := HX0.out
            have HX := Vx.hid hx
            have x0 : wr.cell? ⟨xb, 0, none⟩ = some (.string ⟨((telL tx0 M).t).toArray⟩) := (cell_of_row _ _ 0 _ _ (0, 0) hx.row).trans rfl
            clear hx HX0
            go_upto_region 15 with fail
            go_wp2_with fail
            refine (HPA.out _ HX.out.be).mono ?_
            rintro e w5 ⟨B, pt, po, pc, pm, ph, pi, mb, D, rfl, HQ⟩
            clear HPA x0
            obtain ⟨p1, c1, hp1, hz1⟩ := HQ.out.lt.form
            obtain ⟨p2, c2, hp2, hz2⟩ := HQ.out.lo.form
            obtain ⟨p3, c3, hp3, hz3⟩ := HQ.out.lc.form
            obtain ⟨p4, c4, hp4, hz4⟩ := HQ.out.lm.form
            obtain ⟨p5, c5, hp5, hz5⟩ := HQ.out.lh.form
            obtain ⟨p6, c6, hp6, hz6⟩ := HQ.out.li.form
            clear hz1 hz2 hz3 hz4 hz5 hz6
            obtain ⟨n1, hn1⟩ : ∃ n, n = (rdT (telL tx0 M)).tn.length := ⟨_, rfl⟩
            obtain ⟨n2, hn2⟩ : ∃ n, n = (rdT (telL tx0 M)).ob.length := ⟨_, rfl⟩
            obtain ⟨n3, hn3⟩ : ∃ n, n = (rdT (telL tx0 M)).cp.length := ⟨_, rfl⟩
            obtain ⟨n4, hn4⟩ : ∃ n, n = (rdT (telL tx0 M)).mp.length := ⟨_, rfl⟩
            obtain ⟨n5, hn5⟩ : ∃ n, n = (rdT (telL tx0 M)).th.length := ⟨_, rfl⟩
            obtain ⟨n6, hn6⟩ : ∃ n, n = (rdT (telL tx0 M)).ir.length := ⟨_, rfl⟩
            rw [← hn1] at hp1
            rw [← hn2] at hp2
            rw [← hn3] at hp3
            rw [← hn4] at hp4
            rw [← hn5] at hp5
            rw [← hn6] at hp6
            clear hn1 hn2 hn3 hn4 hn5 hn6
            subst hp1 hp2 hp3 hp4 hp5 hp6
            obtain ⟨w6, hw6⟩ : ∃ w6, w6 = w5.alloc (.cells #[.int .i64 0, .slice p1 n1 c1, .int .u32 1073741822, .slice p2 n2 c2, .slice none 0 0, .slice p3 n3 c3, .slice p4 n4 c4, .slice p5 n5 c5, .slice p6 n6 c6, .map (some mb)] 34) := ⟨_, rfl⟩
            obtain ⟨qb, hqb⟩ : ∃ qb, qb = w5.heap.size := ⟨_, rfl⟩
            have ho56 : Only (fun _ => False) w5 w6 := by rw [hw6]; exact (Only.refl _ _).alloc _
            have hq6 : w6.heap[qb]? = some (.cells #[.int .i64 0, .slice p1 n1 c1, .int .u32 1073741822, .slice p2 n2 c2, .slice none 0 0, .slice p3 n3 c3, .slice p4 n4 c4, .slice p5 n5 c5, .slice p6 n6 c6, .map (some mb)] 34 (0, 0)) := by rw [hw6, hqb]; exact heap_alloc_last _ _
            have hx6 := HX.out.quiet (HQ.out.on.trans ho56)
            have hnm6 := HQ.out.nm.keep ho56 (fun h => h)
            have HSM : Hid (SmI w6 qb xb B w.heap.size (.slice p1 n1 c1) (.slice p2 n2 c2) (.slice p3 n3 c3) (.slice p4 n4 c4) (.slice p5 n5 c5) (.slice p6 n6 c6) vt vo vc vm vh vi (telL tx0 M)) := by
              have hc := HCN.out
              have hm := HM.out
              exact ⟨lt_of_some hq6, lt_of_some hx6.row, (cell_of_row _ _ 1 _ _ (0, 0) hq6).trans rfl, (cell_of_row _ _ 2 _ _ (0, 0) hx6.row).trans rfl, HQ.out.lt.kept ho56 (fun _ _ h => h), hx6.lt, by have := hc.tn; omega,
                (cell_of_row _ _ 3 _ _ (0, 0) hq6).trans rfl, (cell_of_row _ _ 4 _ _ (0, 0) hx6.row).trans rfl, HQ.out.lo.kept ho56 (fun _ _ h => h), hx6.lo, by have := hc.ob; omega,
                (cell_of_row _ _ 5 _ _ (0, 0) hq6).trans rfl, (cell_of_row _ _ 6 _ _ (0, 0) hx6.row).trans rfl, HQ.out.lc.kept ho56 (fun _ _ h => h), hx6.lc, by have := hc.cp; omega,
                (cell_of_row _ _ 6 _ _ (0, 0) hq6).trans rfl, (cell_of_row _ _ 7 _ _ (0, 0) hx6.row).trans rfl, HQ.out.lm.kept ho56 (fun _ _ h => h), hx6.lm, by have := hc.mp; omega,
                (cell_of_row _ _ 7 _ _ (0, 0) hq6).trans rfl, (cell_of_row _ _ 8 _ _ (0, 0) hx6.row).trans rfl, HQ.out.lh.kept ho56 (fun _ _ h => h), hx6.lh, by have := hc.th; omega,
                (cell_of_row _ _ 8 _ _ (0, 0) hq6).trans rfl, (cell_of_row _ _ 9 _ _ (0, 0) hx6.row).trans rfl, HQ.out.li.kept ho56 (fun _ _ h => h), hx6.li, by have := hc.ir; omega⟩
            obtain ⟨n9, hn9⟩ : ∃ n, n = (telL tx0 M).nm.length := ⟨_, rfl⟩
            obtain ⟨pn, cn, hvn, hz9⟩ := hx6.ln.form
            clear hz9
            rw [← hn9] at hvn
            subst hvn
            have HN9 : Hid (n9 = (telL tx0 M).nm.length ∧ n9 ≤ 500) := ⟨hn9, by have := HCN.out.nm; have := HM.out; omega⟩
            have hlm : ∀ ty, (Builtin.len_ #[32] ty #[.map (some mb)]).run Tryz.prog w6 = .ok (.int .i64 ((n9 : Int) + 1)) w6 := fun ty => by
              have h9 := len_f hnm6 ty
              rw [rd_len HTW.out, ← hn9] at h9
              exact h9
            have HLD : Hid (∀ ty, (Builtin.len_ #[32] ty #[.map (some mb)]).run Tryz.prog w6.drew = .ok (.int .i64 ((n9 : Int) + 1)) w6.drew) := fun ty => by
              have h9 := len_f (hnm6.keep (Only.drew (Only.refl (fun _ => False) w6)) (fun h => h)) ty
              rw [rd_len HTW.out, ← hn9] at h9
              exact h9
            have HX6 := Vx.hid hx6
            have HNM6 := Vx.hid hnm6
            have HQ6 := Vx.hid hq6
            have HBE : Hid (Below w.heap.size w w6) := hx6.be
            have q0 : w6.cell? ⟨qb, 0, none⟩ = some (.int .i64 0) := (cell_of_row _ _ 0 _ _ (0, 0) hq6).trans rfl
            have q2 : w6.cell? ⟨qb, 2, none⟩ = some (.int .u32 1073741822) := (cell_of_row _ _ 2 _ _ (0, 0) hq6).trans rfl
            have q4 : w6.cell? ⟨qb, 4, none⟩ = some (.slice none 0 0) := (cell_of_row _ _ 4 _ _ (0, 0) hq6).trans rfl
            have q9 : w6.cell? ⟨qb, 9, none⟩ = some (.map (some mb)) := (cell_of_row _ _ 9 _ _ (0, 0) hq6).trans rfl
            have x10 : w6.cell? ⟨xb, 10, none⟩ = some (.slice pn n9 cn) := (cell_of_row _ _ 10 _ _ (0, 0) hx6.row).trans rfl
            have hwn : IntKind.i64.wrap ((n9 : Int) + 1) = (n9 : Int) + 1 := by have := HN9.out.2; rw [IntKind.wrap_i64]; omega
            clear hx6 hnm6 hq6 hn9 ho56 HX HQ
            go_upto_region 16 with fail
            rw [← hw6, ← hqb]
            clear hw6 hqb
            have HS16 : Hid (w6.drew.cell? ⟨qb, 0, none⟩ = some (.int .i64 0) ∧ w6.drew.cell? ⟨qb, 2, none⟩ = some (.int .u32 1073741822) ∧ w6.drew.cell? ⟨qb, 4, none⟩ = some (.slice none 0 0) ∧ w6.drew.cell? ⟨qb, 9, none⟩ = some (.map (some mb)) ∧ w6.drew.cell? ⟨xb, 10, none⟩ = some (.slice pn n9 cn) ∧ ∀ ty, (Builtin.len_ #[32] ty #[.map (some mb)]).run Tryz.prog w6.drew = .ok (.int .i64 ((n9 : Int) + 1)) w6.drew) := ⟨q0, q2, q4, q9, x10, HLD.out⟩
            clear q0 q2 q4 q9 x10 hlm HLD
            refine Vx.wp_region_free (S := (fun wv => wv.cell? ⟨qb, 0, none⟩ = some (.int .i64 0) ∧ wv.cell? ⟨qb, 2, none⟩ = some (.int .u32 1073741822) ∧ wv.cell? ⟨qb, 4, none⟩ = some (.slice none 0 0) ∧ wv.cell? ⟨qb, 9, none⟩ = some (.map (some mb)) ∧ wv.cell? ⟨xb, 10, none⟩ = some (.slice pn n9 cn) ∧ ∀ ty, (Builtin.len_ #[32] ty #[.map (some mb)]).run Tryz.prog wv = .ok (.int .i64 ((n9 : Int) + 1)) wv)) (by kernel_rfl) ?_
            simp only [List.size_toArray, List.length_cons, List.length_nil, Nat.zero_add, Nat.reduceAdd]
            refine wpAnyH_take (i := 0) (v := ?v16_0_1) (by simp only [List.getElem?_toArray, List.getElem?_cons_zero, List.getElem?_cons_succ]; rfl) (by kernel_rfl) (by kernel_rfl) (by kernel_rfl) (by exact fun _ _ _ h => h) (Or.inl ⟨by rfl, ?hy16_0_1⟩) HS16.out ?_
            case hy16_0_1 => (intro wq hSw; (try dsimp only at hSw); go_simp; try (with_reducible rfl))
            try simp only [Act.put, List.setIfInBounds_toArray, List.set_cons_zero, List.set_cons_succ]
            refine wpAnyH_take (i := 1) (v := ?v16_1_2) (by simp only [List.getElem?_toArray, List.getElem?_cons_zero, List.getElem?_cons_succ]; rfl) (by kernel_rfl) (by kernel_rfl) (by kernel_rfl) (by exact fun _ _ _ h => h) (Or.inl ⟨by rfl, ?hy16_1_2⟩) HS16.out ?_
            case hy16_1_2 => (intro wq hSw; (try dsimp only at hSw); go_simp; try (with_reducible rfl))
            try simp only [Act.put, List.setIfInBounds_toArray, List.set_cons_zero, List.set_cons_succ]
            refine wpAnyH_take (i := 2) (v := ?v16_2_3) (by simp only [List.getElem?_toArray, List.getElem?_cons_zero, List.getElem?_cons_succ]; rfl) (by kernel_rfl) (by kernel_rfl) (by kernel_rfl) (by exact fun _ _ _ h => h) (Or.inl ⟨by rfl, ?hy16_2_3⟩) HS16.out ?_
            case hy16_2_3 => (intro wq hSw; (try dsimp only at hSw); go_simp; try (with_reducible rfl))
            try simp only [Act.put, List.setIfInBounds_toArray, List.set_cons_zero, List.set_cons_succ]
            refine wpAnyH_take (i := 3) (v := ?v16_3_4) (by simp only [List.getElem?_toArray, List.getElem?_cons_zero, List.getElem?_cons_succ]; rfl) (by kernel_rfl) (by kernel_rfl) (by kernel_rfl) (by exact fun _ _ _ h => h) (Or.inl ⟨by rfl, ?hy16_3_4⟩) HS16.out ?_
            case hy16_3_4 => (intro wq hSw; (try dsimp only at hSw); go_simp; try (with_reducible rfl))
            try simp only [Act.put, List.setIfInBounds_toArray, List.set_cons_zero, List.set_cons_succ]
            refine wpAnyH_take (i := 4) (v := ?v16_4_5) (by simp only [List.getElem?_toArray, List.getElem?_cons_zero, List.getElem?_cons_succ]; rfl) (by kernel_rfl) (by kernel_rfl) (by kernel_rfl) (by exact fun _ _ _ h => h) (Or.inl ⟨by rfl, ?hy16_4_5⟩) HS16.out ?_
            case hy16_4_5 => (intro wq hSw; (try dsimp only at hSw); go_simp; try (with_reducible rfl))
            try simp only [Act.put, List.setIfInBounds_toArray, List.set_cons_zero, List.set_cons_succ]
            refine wpAnyH_take (i := 5) (v := ?v16_5_6) (by simp only [List.getElem?_toArray, List.getElem?_cons_zero, List.getElem?_cons_succ]; rfl) (by kernel_rfl) (by kernel_rfl) (by kernel_rfl) (by exact fun _ _ _ h => h) (Or.inl ⟨by rfl, ?hy16_5_6⟩) HS16.out ?_
            case hy16_5_6 => (intro wq hSw; (try dsimp only at hSw); go_simp; try (with_reducible rfl))
            try simp only [Act.put, List.setIfInBounds_toArray, List.set_cons_zero, List.set_cons_succ]
            refine wpAnyH_take (i := 6) (v := ?v16_6_7) (by simp only [List.getElem?_toArray, List.getElem?_cons_zero, List.getElem?_cons_succ]; rfl) (by kernel_rfl) (by kernel_rfl) (by kernel_rfl) (by exact fun _ _ _ h => h) (Or.inl ⟨by rfl, ?hy16_6_7⟩) HS16.out ?_
            case hy16_6_7 => (intro wq hSw; (try dsimp only at hSw); go_simp; try (with_reducible rfl))
            try simp only [Act.put, List.setIfInBounds_toArray, List.set_cons_zero, List.set_cons_succ]
            refine wpAnyH_take (i := 7) (v := ?v16_7_8) (by simp only [List.getElem?_toArray, List.getElem?_cons_zero, List.getElem?_cons_succ]; rfl) (by kernel_rfl) (by kernel_rfl) (by kernel_rfl) (by exact fun _ _ _ h => h) (Or.inl ⟨by rfl, ?hy16_7_8⟩) HS16.out ?_
            case hy16_7_8 => (intro wq hSw; (try dsimp only at hSw); go_simp; try (with_reducible rfl))
            try simp only [Act.put, List.setIfInBounds_toArray, List.set_cons_zero, List.set_cons_succ]
            refine wpAnyH_take (i := 8) (v := ?v16_8_9) (by simp only [List.getElem?_toArray, List.getElem?_cons_zero, List.getElem?_cons_succ]; rfl) (by kernel_rfl) (by kernel_rfl) (by kernel_rfl) (by exact fun _ _ _ h => h) (Or.inl ⟨by rfl, ?hy16_8_9⟩) HS16.out ?_
            case hy16_8_9 => (intro wq hSw; (try dsimp only at hSw); go_simp; try (with_reducible rfl))
            try simp only [Act.put, List.setIfInBounds_toArray, List.set_cons_zero, List.set_cons_succ]
            refine wpAnyH_take (i := 9) (v := ?v16_9_10) (by simp only [List.getElem?_toArray, List.getElem?_cons_zero, List.getElem?_cons_succ]; rfl) (by kernel_rfl) (by kernel_rfl) (by kernel_rfl) (by exact fun _ _ _ h => h) (Or.inl ⟨by rfl, ?hy16_9_10⟩) HS16.out ?_
            case hy16_9_10 => (intro wq hSw; (try dsimp only at hSw); go_simp; try (with_reducible rfl))
            try simp only [Act.put, List.setIfInBounds_toArray, List.set_cons_zero, List.set_cons_succ]
            refine wpAnyH_take (i := 10) (v := ?v16_10_11) (by simp only [List.getElem?_toArray, List.getElem?_cons_zero, List.getElem?_cons_succ]; rfl) (by kernel_rfl) (by kernel_rfl) (by kernel_rfl) (by exact fun _ _ _ h => h) (Or.inl ⟨by rfl, ?hy16_10_11⟩) HS16.out ?_
            case hy16_10_11 => (intro wq hSw; (try dsimp only at hSw); go_simp; try (with_reducible rfl))
            try simp only [Act.put, List.setIfInBounds_toArray, List.set_cons_zero, List.set_cons_succ]
            refine wpAnyH_take (i := 11) (v := ?v16_11_12) (by simp only [List.getElem?_toArray, List.getElem?_cons_zero, List.getElem?_cons_succ]; rfl) (by kernel_rfl) (by kernel_rfl) (by kernel_rfl) (by exact fun _ _ _ h => h) (Or.inl ⟨by rfl, ?hy16_11_12⟩) HS16.out ?_
            case hy16_11_12 => (intro wq hSw; (try dsimp only at hSw); go_simp; try (with_reducible rfl))
            try simp only [Act.put, List.setIfInBounds_toArray, List.set_cons_zero, List.set_cons_succ]
            refine wpAnyH_take (i := 12) (v := ?v16_12_13) (by simp only [List.getElem?_toArray, List.getElem?_cons_zero, List.getElem?_cons_succ]; rfl) (by kernel_rfl) (by kernel_rfl) (by kernel_rfl) (by exact fun _ _ _ h => h) (Or.inl ⟨by rfl, ?hy16_12_13⟩) HS16.out ?_
            case hy16_12_13 => (intro wq hSw; (try dsimp only at hSw); go_simp; try (with_reducible rfl))
            try simp only [Act.put, List.setIfInBounds_toArray, List.set_cons_zero, List.set_cons_succ]
            refine wpAnyH_take (i := 13) (v := ?v16_13_14) (by simp only [List.getElem?_toArray, List.getElem?_cons_zero, List.getElem?_cons_succ]; rfl) (by kernel_rfl) (by kernel_rfl) (by kernel_rfl) (by exact fun _ _ _ h => h) (Or.inl ⟨by rfl, ?hy16_13_14⟩) HS16.out ?_
            case hy16_13_14 => (intro wq hSw; (try dsimp only at hSw); go_simp; try (with_reducible rfl))
            try simp only [Act.put, List.setIfInBounds_toArray, List.set_cons_zero, List.set_cons_succ]
            refine wpAnyH_take (i := 14) (v := ?v16_14_15) (by simp only [List.getElem?_toArray, List.getElem?_cons_zero, List.getElem?_cons_succ]; rfl) (by kernel_rfl) (by kernel_rfl) (by kernel_rfl) (by exact fun _ _ _ h => h) (Or.inl ⟨by rfl, ?hy16_14_15⟩) HS16.out ?_
            case hy16_14_15 => (intro wq hSw; (try dsimp only at hSw); go_simp; try (with_reducible rfl))
            try simp only [Act.put, List.setIfInBounds_toArray, List.set_cons_zero, List.set_cons_succ]
            refine wpAnyH_take (i := 15) (v := ?v16_15_16) (by simp only [List.getElem?_toArray, List.getElem?_cons_zero, List.getElem?_cons_succ]; rfl) (by kernel_rfl) (by kernel_rfl) (by kernel_rfl) (by exact fun _ _ _ h => h) (Or.inl ⟨by rfl, ?hy16_15_16⟩) HS16.out ?_
            case hy16_15_16 => (intro wq hSw; (try dsimp only at hSw); go_simp; try (with_reducible rfl))
            try simp only [Act.put, List.setIfInBounds_toArray, List.set_cons_zero, List.set_cons_succ]
            refine wpAnyH_take (i := 16) (v := ?v16_16_17) (by simp only [List.getElem?_toArray, List.getElem?_cons_zero, List.getElem?_cons_succ]; rfl) (by kernel_rfl) (by kernel_rfl) (by kernel_rfl) (by exact fun _ _ _ h => h) (Or.inl ⟨by rfl, ?hy16_16_17⟩) HS16.out ?_
            case hy16_16_17 => (intro wq hSw; (try dsimp only at hSw); go_simp; try (with_reducible rfl))
            try simp only [Act.put, List.setIfInBounds_toArray, List.set_cons_zero, List.set_cons_succ]
            refine wpAnyH_take (i := 17) (v := ?v16_17_18) (by simp only [List.getElem?_toArray, List.getElem?_cons_zero, List.getElem?_cons_succ]; rfl) (by kernel_rfl) (by kernel_rfl) (by kernel_rfl) (by exact fun _ _ _ h => h) (Or.inl ⟨by rfl, ?hy16_17_18⟩) HS16.out ?_
            case hy16_17_18 => (intro wq hSw; (try dsimp only at hSw); go_simp; try (with_reducible rfl))
            try simp only [Act.put, List.setIfInBounds_toArray, List.set_cons_zero, List.set_cons_succ]
            refine wpAnyH_take (i := 18) (v := ?v16_18_19) (by simp only [List.getElem?_toArray, List.getElem?_cons_zero, List.getElem?_cons_succ]; rfl) (by kernel_rfl) (by kernel_rfl) (by kernel_rfl) (by exact fun _ _ _ h => h) (Or.inl ⟨by rfl, ?hy16_18_19⟩) HS16.out ?_
            case hy16_18_19 => (intro wq hSw; (try dsimp only at hSw); go_simp; try (with_reducible rfl))
            try simp only [Act.put, List.setIfInBounds_toArray, List.set_cons_zero, List.set_cons_succ]
            refine wpAnyH_take (i := 19) (v := ?v16_19_20) (by simp only [List.getElem?_toArray, List.getElem?_cons_zero, List.getElem?_cons_succ]; rfl) (by kernel_rfl) (by kernel_rfl) (by kernel_rfl) (by exact fun _ _ _ h => h) (Or.inl ⟨by rfl, ?hy16_19_20⟩) HS16.out ?_
            case hy16_19_20 => (intro wq hSw; (try dsimp only at hSw); go_simp; try (with_reducible rfl))
            try simp only [Act.put, List.setIfInBounds_toArray, List.set_cons_zero, List.set_cons_succ]
            refine wpAnyH_take (i := 20) (v := ?v16_20_21) (by simp only [List.getElem?_toArray, List.getElem?_cons_zero, List.getElem?_cons_succ]; rfl) (by kernel_rfl) (by kernel_rfl) (by kernel_rfl) (by exact fun _ _ _ h => h) (Or.inl ⟨by rfl, ?hy16_20_21⟩) HS16.out ?_
            case hy16_20_21 => (intro wq hSw; (try dsimp only at hSw); go_simp; try (with_reducible rfl))
            try simp only [Act.put, List.setIfInBounds_toArray, List.set_cons_zero, List.set_cons_succ]
            refine wpAnyH_take (i := 21) (v := ?v16_21_22) (by simp only [List.getElem?_toArray, List.getElem?_cons_zero, List.getElem?_cons_succ]; rfl) (by kernel_rfl) (by kernel_rfl) (by kernel_rfl) (by exact fun _ _ _ h => h) (Or.inl ⟨by rfl, ?hy16_21_22⟩) HS16.out ?_
            case hy16_21_22 => (intro wq hSw; (try dsimp only at hSw); go_simp; try (with_reducible rfl))
            try simp only [Act.put, List.setIfInBounds_toArray, List.set_cons_zero, List.set_cons_succ]
            refine wpAnyH_take (i := 22) (v := ?v16_22_23) (by simp only [List.getElem?_toArray, List.getElem?_cons_zero, List.getElem?_cons_succ]; rfl) (by kernel_rfl) (by kernel_rfl) (by kernel_rfl) (by exact fun _ _ _ h => h) (Or.inl ⟨by rfl, ?hy16_22_23⟩) HS16.out ?_
            case hy16_22_23 => (intro wq hSw; (try dsimp only at hSw); go_simp; try (with_reducible rfl))
            try simp only [Act.put, List.setIfInBounds_toArray, List.set_cons_zero, List.set_cons_succ]
            refine wpAnyH_take (i := 23) (v := ?v16_23_24) (by simp only [List.getElem?_toArray, List.getElem?_cons_zero, List.getElem?_cons_succ]; rfl) (by kernel_rfl) (by kernel_rfl) (by kernel_rfl) (by exact fun _ _ _ h => h) (Or.inl ⟨by rfl, ?hy16_23_24⟩) HS16.out ?_
            case hy16_23_24 => (intro wq hSw; (try dsimp only at hSw); go_simp; try (with_reducible rfl))
            try simp only [Act.put, List.setIfInBounds_toArray, List.set_cons_zero, List.set_cons_succ]
            refine wpAnyH_take (i := 24) (v := ?v16_24_25) (by simp only [List.getElem?_toArray, List.getElem?_cons_zero, List.getElem?_cons_succ]; rfl) (by kernel_rfl) (by kernel_rfl) (by kernel_rfl) (by exact fun _ _ _ h => h) (Or.inl ⟨by rfl, ?hy16_24_25⟩) HS16.out ?_
            case hy16_24_25 => (intro wq hSw; (try dsimp only at hSw); go_simp; try (with_reducible rfl))
            try simp only [Act.put, List.setIfInBounds_toArray, List.set_cons_zero, List.set_cons_succ]
            refine wpAnyH_take (i := 25) (v := ?v16_25_26) (by simp only [List.getElem?_toArray, List.getElem?_cons_zero, List.getElem?_cons_succ]; rfl) (by kernel_rfl) (by kernel_rfl) (by kernel_rfl) (by exact fun _ _ _ h => h) (Or.inl ⟨by rfl, ?hy16_25_26⟩) HS16.out ?_
            case hy16_25_26 => (intro wq hSw; (try dsimp only at hSw); go_simp; try (with_reducible rfl))
            try simp only [Act.put, List.setIfInBounds_toArray, List.set_cons_zero, List.set_cons_succ]
            refine wpAnyH_take (i := 26) (v := ?v16_26_27) (by simp only [List.getElem?_toArray, List.getElem?_cons_zero, List.getElem?_cons_succ]; rfl) (by kernel_rfl) (by kernel_rfl) (by kernel_rfl) (by exact fun _ _ _ h => h) (Or.inl ⟨by rfl, ?hy16_26_27⟩) HS16.out ?_
            case hy16_26_27 => (intro wq hSw; (try dsimp only at hSw); go_simp; try (with_reducible rfl))
            try simp only [Act.put, List.setIfInBounds_toArray, List.set_cons_zero, List.set_cons_succ]
            refine wpAnyH_take (i := 27) (v := ?v16_27_28) (by simp only [List.getElem?_toArray, List.getElem?_cons_zero, List.getElem?_cons_succ]; rfl) (by kernel_rfl) (by kernel_rfl) (by kernel_rfl) (by exact fun _ _ _ h => h) (Or.inl ⟨by rfl, ?hy16_27_28⟩) HS16.out ?_
            case hy16_27_28 => (intro wq hSw; (try dsimp only at hSw); go_simp; try (with_reducible rfl))
            try simp only [Act.put, List.setIfInBounds_toArray, List.set_cons_zero, List.set_cons_succ]
            refine wpAnyH_take (i := 28) (v := ?v16_28_29) (by simp only [List.getElem?_toArray, List.getElem?_cons_zero, List.getElem?_cons_succ]; rfl) (by kernel_rfl) (by kernel_rfl) (by kernel_rfl) (by exact fun _ _ _ h => h) (Or.inl ⟨by rfl, ?hy16_28_29⟩) HS16.out ?_
            case hy16_28_29 => (intro wq hSw; (try dsimp only at hSw); go_simp; try (with_reducible rfl))
            try simp only [Act.put, List.setIfInBounds_toArray, List.set_cons_zero, List.set_cons_succ]
            refine wpAnyH_take (i := 29) (v := ?v16_29_30) (by simp only [List.getElem?_toArray, List.getElem?_cons_zero, List.getElem?_cons_succ]; rfl) (by kernel_rfl) (by kernel_rfl) (by kernel_rfl) (by exact fun _ _ _ h => h) (Or.inl ⟨by rfl, ?hy16_29_30⟩) HS16.out ?_
            case hy16_29_30 => (intro wq hSw; (try dsimp only at hSw); go_simp; try (with_reducible rfl))
            try simp only [Act.put, List.setIfInBounds_toArray, List.set_cons_zero, List.set_cons_succ]
            refine wpAnyH_take (i := 30) (v := ?v16_30_31) (by simp only [List.getElem?_toArray, List.getElem?_cons_zero, List.getElem?_cons_succ]; rfl) (by kernel_rfl) (by kernel_rfl) (by kernel_rfl) (by exact fun _ _ _ h => h) (Or.inl ⟨by rfl, ?hy16_30_31⟩) HS16.out ?_
            case hy16_30_31 => (intro wq hSw; (try dsimp only at hSw); go_simp; try (with_reducible rfl))
            try simp only [Act.put, List.setIfInBounds_toArray, List.set_cons_zero, List.set_cons_succ]
            refine wpAnyH_take (i := 31) (v := ?v16_31_32) (by simp only [List.getElem?_toArray, List.getElem?_cons_zero, List.getElem?_cons_succ]; rfl) (by kernel_rfl) (by kernel_rfl) (by kernel_rfl) (by exact fun _ _ _ h => h) (Or.inl ⟨by rfl, ?hy16_31_32⟩) HS16.out ?_
            case hy16_31_32 => (intro wq hSw; (try dsimp only at hSw); go_simp; try (with_reducible rfl))
            try simp only [Act.put, List.setIfInBounds_toArray, List.set_cons_zero, List.set_cons_succ]
            refine wpAnyH_take (i := 32) (v := ?v16_32_33) (by simp only [List.getElem?_toArray, List.getElem?_cons_zero, List.getElem?_cons_succ]; rfl) (by kernel_rfl) (by kernel_rfl) (by kernel_rfl) (by exact fun _ _ _ h => h) (Or.inl ⟨by rfl, ?hy16_32_33⟩) HS16.out ?_
            case hy16_32_33 => (intro wq hSw; (try dsimp only at hSw); go_simp; try (with_reducible rfl))
            try simp only [Act.put, List.setIfInBounds_toArray, List.set_cons_zero, List.set_cons_succ]
            refine wpAnyH_take (i := 33) (v := ?v16_33_34) (by simp only [List.getElem?_toArray, List.getElem?_cons_zero, List.getElem?_cons_succ]; rfl) (by kernel_rfl) (by kernel_rfl) (by kernel_rfl) (by exact fun _ _ _ h => h) (Or.inl ⟨by rfl, ?hy16_33_34⟩) HS16.out ?_
            case hy16_33_34 => (intro wq hSw; (try dsimp only at hSw); go_simp; try (with_reducible rfl))
            try simp only [Act.put, List.setIfInBounds_toArray, List.set_cons_zero, List.set_cons_succ]
            refine wpAnyH_take (i := 34) (v := ?v16_34_35) (by simp only [List.getElem?_toArray, List.getElem?_cons_zero, List.getElem?_cons_succ]; rfl) (by kernel_rfl) (by kernel_rfl) (by kernel_rfl) (by exact fun _ _ _ h => h) (Or.inl ⟨by rfl, ?hy16_34_35⟩) HS16.out ?_
            case hy16_34_35 => (intro wq hSw; (try dsimp only at hSw); go_simp; try (with_reducible rfl))
            try simp only [Act.put, List.setIfInBounds_toArray, List.set_cons_zero, List.set_cons_succ]
            refine wpAnyH_take (i := 35) (v := ?v16_35_36) (by simp only [List.getElem?_toArray, List.getElem?_cons_zero, List.getElem?_cons_succ]; rfl) (by kernel_rfl) (by kernel_rfl) (by kernel_rfl) (by exact fun _ _ _ h => h) (Or.inl ⟨by rfl, ?hy16_35_36⟩) HS16.out ?_
            case hy16_35_36 => (intro wq hSw; (try dsimp only at hSw); go_simp; try (with_reducible rfl))
            try simp only [Act.put, List.setIfInBounds_toArray, List.set_cons_zero, List.set_cons_succ]
            refine wpAnyH_take (i := 36) (v := ?v16_36_37) (by simp only [List.getElem?_toArray, List.getElem?_cons_zero, List.getElem?_cons_succ]; rfl) (by kernel_rfl) (by kernel_rfl) (by kernel_rfl) (by exact fun _ _ _ h => h) (Or.inl ⟨by rfl, ?hy16_36_37⟩) HS16.out ?_
            case hy16_36_37 => (intro wq hSw; (try dsimp only at hSw); go_simp; try (with_reducible rfl))
            try simp only [Act.put, List.setIfInBounds_toArray, List.set_cons_zero, List.set_cons_succ]
            refine wpAnyH_done (by kernel_rfl) ?_ _
            clear HS16
            go_wp2_with fail
            go_loopw [10] (fun d wr => ∃ j : Nat, d = .int .i64 (j : Int) ∧ j ≤ n9 ∧ Hid (Only (fun _ => False) w6 wr)) (fun d _ => n9 - (RowKit.intOf d).toNat)
            case atStart => exact ⟨0, rfl, Nat.zero_le _, (Only.refl _ w6).drew⟩
            case round =>
              obtain ⟨j, rfl, hj, HO⟩ := hrel
              have hx7 := HX6.out.quiet HO.out
              have hnm7 := HNM6.out.keep HO.out (fun h => h)
              have hq7 := keepB HO.out HQ6.out (fun h => h)
              have hwj : IntKind.i64.wrap ((j : Int) + 1) = (j : Int) + 1 := by have := HN9.out.2; rw [IntKind.wrap_i64]; omega
              by_cases hlt : j < n9
              · as_aux_lemma =>
                have hjl : j < (telL tx0 M).nm.length := by rw [← HN9.out.1]; exact hlt
                have hja : j < (telL tx0 M).ar.length := by rw [HTW.out.len]; exact hjl
                obtain ⟨g, c9, hvg, hg, hrg⟩ := own_el hx7.ln j hjl
                obtain ⟨g2, c92, hvg2, hg2, hrg2⟩ := own_el hx7.la j hja
                have hva := hvg2
                rw [HTW.out.len, ← HN9.out.1] at hva
                subst hva
                rw [← HN9.out.1] at hvg
                have hvq := (Value.slice.inj hvg).1
                clear hvg hvg2
                subst hvq
                have hfn := fnd_n HTW.out (by have := HN9.out; omega) j hjl
                have hnj : (telL tx0 M).nm.getD j [] = (telL tx0 M).nm[j] := by rw [List.getD_eq_getElem?_getD, List.getElem?_eq_getElem hjl]; rfl
                have haj : (telL tx0 M).ar.getD j (0, 0) = (telL tx0 M).ar[j] := by rw [List.getD_eq_getElem?_getD, List.getElem?_eq_getElem hja]; rfl
                rw [hnj, haj] at hfn
                have hlk := look_f hfn (hnm7.keep (Only.drew (Only.refl (fun _ => False) wr)) (fun h => h))
                have hsz1 : stL.sz = 1 := rfl
                have hsz2 : slL.sz = 2 := rfl
                rw [hsz1, Nat.mul_one] at hrg
                rw [hsz2] at hrg2
                have e1 : wr.cell? ⟨g, j, none⟩ = some (.string ⟨((telL tx0 M).nm[j]).toArray⟩) := hrg 0 _ rfl
                have e2 : wr.cell? ⟨g2, j * 2, none⟩ = some (.int .i64 ((telL tx0 M).ar[j]).1) := hrg2 0 _ rfl
                have e3 : wr.cell? ⟨g2, j * 2 + 1, none⟩ = some (.int .i64 ((telL tx0 M).ar[j]).2) := hrg2 1 _ rfl
                generalize (telL tx0 M).nm[j] = nj at hlk e1
                generalize (telL tx0 M).ar[j] = aj at hlk e2 e3
                obtain ⟨a1, a2⟩ := aj
                dsimp only at hlk e2 e3
                have q9 : wr.cell? ⟨qb, 9, none⟩ = some (.map (some mb)) := (cell_of_row _ _ 9 _ _ (0, 0) hq7).trans rfl
                have x10 : wr.cell? ⟨xb, 10, none⟩ = some (.slice (some ⟨g, 0, none⟩) n9 cn) := (cell_of_row _ _ 10 _ _ (0, 0) hx7.row).trans rfl
                have x11 : wr.cell? ⟨xb, 11, none⟩ = some (.slice (some ⟨g2, 0, none⟩) n9 c92) := (cell_of_row _ _ 11 _ _ (0, 0) hx7.row).trans rfl
                have HS21 : Hid (wr.drew.cell? ⟨qb, 9, none⟩ = some (.map (some mb)) ∧ wr.drew.cell? ⟨xb, 10, none⟩ = some (.slice (some ⟨g, 0, none⟩) n9 cn) ∧ wr.drew.cell? ⟨xb, 11, none⟩ = some (.slice (some ⟨g2, 0, none⟩) n9 c92) ∧ wr.drew.cell? ⟨g, j, none⟩ = some (.string ⟨nj.toArray⟩) ∧ wr.drew.cell? ⟨g2, j * 2, none⟩ = some (.int .i64 a1) ∧ wr.drew.cell? ⟨g2, j * 2 + 1, none⟩ = some (.int .i64 a2) ∧ (Instr.lookup 32 (.map (some mb)) (.string ⟨nj.toArray⟩) false).run Tryz.prog wr.drew = .ok (.agg #[.int .i64 a1, .int .i64 a2]) wr.drew) := ⟨q9, x10, x11, e1, e2, e3, hlk⟩
                have h1 : (j : Int) < (n9 : Int) := by omega
                have hidx : 0 ≤ (j : Int) ∧ (j : Int) < (n9 : Int) := by omega
                have HOD := Vx.hid HO.out.drew
                clear hlk e1 e2 e3 hrg hrg2 hfn hnj haj hsz1 hsz2 hx7 hnm7 hq7 hg hg2 hjl hja q9 x11
                go_upto_region 21 with fail
                clear x10
                refine Vx.wp_region_free (S := (fun wv => wv.cell? ⟨qb, 9, none⟩ = some (.map (some mb)) ∧ wv.cell? ⟨xb, 10, none⟩ = some (.slice (some ⟨g, 0, none⟩) n9 cn) ∧ wv.cell? ⟨xb, 11, none⟩ = some (.slice (some ⟨g2, 0, none⟩) n9 c92) ∧ wv.cell? ⟨g, j, none⟩ = some (.string ⟨nj.toArray⟩) ∧ wv.cell? ⟨g2, j * 2, none⟩ = some (.int .i64 a1) ∧ wv.cell? ⟨g2, j * 2 + 1, none⟩ = some (.int .i64 a2) ∧ (Instr.lookup 32 (.map (some mb)) (.string ⟨nj.toArray⟩) false).run Tryz.prog wv = .ok (.agg #[.int .i64 a1, .int .i64 a2]) wv)) (by kernel_rfl) ?_
                simp only [List.size_toArray, List.length_cons, List.length_nil, Nat.zero_add, Nat.reduceAdd]
                refine wpAnyH_take (i := 0) (v := ?v21_0_1) (by simp only [List.getElem?_toArray, List.getElem?_cons_zero, List.getElem?_cons_succ]; rfl) (by kernel_rfl) (by kernel_rfl) (by kernel_rfl) (by exact fun _ _ _ h => h) (Or.inl ⟨by rfl, ?hy21_0_1⟩) HS21.out ?_
                case hy21_0_1 => (intro wq hSw; (try dsimp only at hSw); go_simp; try (with_reducible rfl))
                try simp only [Act.put, List.setIfInBounds_toArray, List.set_cons_zero, List.set_cons_succ]
                refine wpAnyH_take (i := 1) (v := ?v21_1_2) (by simp only [List.getElem?_toArray, List.getElem?_cons_zero, List.getElem?_cons_succ]; rfl) (by kernel_rfl) (by kernel_rfl) (by kernel_rfl) (by exact fun _ _ _ h => h) (Or.inl ⟨by rfl, ?hy21_1_2⟩) HS21.out ?_
                case hy21_1_2 => (intro wq hSw; (try dsimp only at hSw); go_simp; try (with_reducible rfl))
                try simp only [Act.put, List.setIfInBounds_toArray, List.set_cons_zero, List.set_cons_succ]
                refine wpAnyH_take (i := 2) (v := ?v21_2_3) (by simp only [List.getElem?_toArray, List.getElem?_cons_zero, List.getElem?_cons_succ]; rfl) (by kernel_rfl) (by kernel_rfl) (by kernel_rfl) (by exact fun _ _ _ h => h) (Or.inl ⟨by rfl, ?hy21_2_3⟩) HS21.out ?_
                case hy21_2_3 => (intro wq hSw; (try dsimp only at hSw); go_simp; try (with_reducible rfl))
                try simp only [Act.put, List.setIfInBounds_toArray, List.set_cons_zero, List.set_cons_succ]
                refine wpAnyH_take (i := 3) (v := ?v21_3_4) (by simp only [List.getElem?_toArray, List.getElem?_cons_zero, List.getElem?_cons_succ]; rfl) (by kernel_rfl) (by kernel_rfl) (by kernel_rfl) (by exact fun _ _ _ h => h) (Or.inl ⟨by rfl, ?hy21_3_4⟩) HS21.out ?_
                case hy21_3_4 => (intro wq hSw; (try dsimp only at hSw); go_simp; try (with_reducible rfl))
                try simp only [Act.put, List.setIfInBounds_toArray, List.set_cons_zero, List.set_cons_succ]
                refine wpAnyH_take (i := 4) (v := ?v21_4_5) (by simp only [List.getElem?_toArray, List.getElem?_cons_zero, List.getElem?_cons_succ]; rfl) (by kernel_rfl) (by kernel_rfl) (by kernel_rfl) (by exact fun _ _ _ h => h) (Or.inl ⟨by rfl, ?hy21_4_5⟩) HS21.out ?_
                case hy21_4_5 => (intro wq hSw; (try dsimp only at hSw); go_simp; try (with_reducible rfl))
                try simp only [Act.put, List.setIfInBounds_toArray, List.set_cons_zero, List.set_cons_succ]
                refine wpAnyH_take (i := 5) (v := ?v21_5_6) (by simp only [List.getElem?_toArray, List.getElem?_cons_zero, List.getElem?_cons_succ]; rfl) (by kernel_rfl) (by kernel_rfl) (by kernel_rfl) (by exact fun _ _ _ h => h) (Or.inl ⟨by rfl, ?hy21_5_6⟩) HS21.out ?_
                case hy21_5_6 => (intro wq hSw; (try dsimp only at hSw); go_simp; try (with_reducible rfl))
                try simp only [Act.put, List.setIfInBounds_toArray, List.set_cons_zero, List.set_cons_succ]
                refine wpAnyH_take (i := 6) (v := ?v21_6_7) (by simp only [List.getElem?_toArray, List.getElem?_cons_zero, List.getElem?_cons_succ]; rfl) (by kernel_rfl) (by kernel_rfl) (by kernel_rfl) (by exact fun _ _ _ h => h) (Or.inl ⟨by rfl, ?hy21_6_7⟩) HS21.out ?_
                case hy21_6_7 => (intro wq hSw; (try dsimp only at hSw); go_simp; try (with_reducible rfl))
                try simp only [Act.put, List.setIfInBounds_toArray, List.set_cons_zero, List.set_cons_succ]
                refine wpAnyH_take (i := 7) (v := ?v21_7_8) (by simp only [List.getElem?_toArray, List.getElem?_cons_zero, List.getElem?_cons_succ]; rfl) (by kernel_rfl) (by kernel_rfl) (by kernel_rfl) (by exact fun _ _ _ h => h) (Or.inl ⟨by rfl, ?hy21_7_8⟩) HS21.out ?_
                case hy21_7_8 => (intro wq hSw; (try dsimp only at hSw); go_simp; try (with_reducible rfl))
                try simp only [Act.put, List.setIfInBounds_toArray, List.set_cons_zero, List.set_cons_succ]
                refine wpAnyH_take (i := 8) (v := ?v21_8_9) (by simp only [List.getElem?_toArray, List.getElem?_cons_zero, List.getElem?_cons_succ]; rfl) (by kernel_rfl) (by kernel_rfl) (by kernel_rfl) (by exact fun _ _ _ h => h) (Or.inl ⟨by rfl, ?hy21_8_9⟩) HS21.out ?_
                case hy21_8_9 => (intro wq hSw; (try dsimp only at hSw); go_simp; try (with_reducible rfl))
                try simp only [Act.put, List.setIfInBounds_toArray, List.set_cons_zero, List.set_cons_succ]
                refine wpAnyH_take (i := 9) (v := ?v21_9_10) (by simp only [List.getElem?_toArray, List.getElem?_cons_zero, List.getElem?_cons_succ]; rfl) (by kernel_rfl) (by kernel_rfl) (by kernel_rfl) (by exact fun _ _ _ h => h) (Or.inl ⟨by rfl, ?hy21_9_10⟩) HS21.out ?_
                case hy21_9_10 => (intro wq hSw; (try dsimp only at hSw); go_simp; try (with_reducible rfl))
                try simp only [Act.put, List.setIfInBounds_toArray, List.set_cons_zero, List.set_cons_succ]
                refine wpAnyH_take (i := 10) (v := ?v21_10_11) (by simp only [List.getElem?_toArray, List.getElem?_cons_zero, List.getElem?_cons_succ]; rfl) (by kernel_rfl) (by kernel_rfl) (by kernel_rfl) (by exact fun _ _ _ h => h) (Or.inl ⟨by rfl, ?hy21_10_11⟩) HS21.out ?_
                case hy21_10_11 => (intro wq hSw; (try dsimp only at hSw); go_simp; try (with_reducible rfl))
                try simp only [Act.put, List.setIfInBounds_toArray, List.set_cons_zero, List.set_cons_succ]
                refine wpAnyH_take (i := 11) (v := ?v21_11_12) (by simp only [List.getElem?_toArray, List.getElem?_cons_zero, List.getElem?_cons_succ]; rfl) (by kernel_rfl) (by kernel_rfl) (by kernel_rfl) (by exact fun _ _ _ h => h) (Or.inl ⟨by rfl, ?hy21_11_12⟩) HS21.out ?_
                case hy21_11_12 => (intro wq hSw; (try dsimp only at hSw); go_simp; try (with_reducible rfl))
                try simp only [Act.put, List.setIfInBounds_toArray, List.set_cons_zero, List.set_cons_succ]
                refine wpAnyH_take (i := 12) (v := ?v21_12_13) (by simp only [List.getElem?_toArray, List.getElem?_cons_zero, List.getElem?_cons_succ]; rfl) (by kernel_rfl) (by kernel_rfl) (by kernel_rfl) (by exact fun _ _ _ h => h) (Or.inl ⟨by rfl, ?hy21_12_13⟩) HS21.out ?_
                case hy21_12_13 => (intro wq hSw; (try dsimp only at hSw); go_simp; try (with_reducible rfl))
                try simp only [Act.put, List.setIfInBounds_toArray, List.set_cons_zero, List.set_cons_succ]
                refine wpAnyH_take (i := 13) (v := ?v21_13_14) (by simp only [List.getElem?_toArray, List.getElem?_cons_zero, List.getElem?_cons_succ]; rfl) (by kernel_rfl) (by kernel_rfl) (by kernel_rfl) (by exact fun _ _ _ h => h) (Or.inl ⟨by rfl, ?hy21_13_14⟩) HS21.out ?_
                case hy21_13_14 => (intro wq hSw; (try dsimp only at hSw); go_simp; try (with_reducible rfl))
                try simp only [Act.put, List.setIfInBounds_toArray, List.set_cons_zero, List.set_cons_succ]
                refine wpAnyH_take (i := 14) (v := ?v21_14_15) (by simp only [List.getElem?_toArray, List.getElem?_cons_zero, List.getElem?_cons_succ]; rfl) (by kernel_rfl) (by kernel_rfl) (by kernel_rfl) (by exact fun _ _ _ h => h) (Or.inl ⟨by rfl, ?hy21_14_15⟩) HS21.out ?_
                case hy21_14_15 => (intro wq hSw; (try dsimp only at hSw); go_simp; try (with_reducible rfl))
                try simp only [Act.put, List.setIfInBounds_toArray, List.set_cons_zero, List.set_cons_succ]
                refine wpAnyH_take (i := 15) (v := ?v21_15_16) (by simp only [List.getElem?_toArray, List.getElem?_cons_zero, List.getElem?_cons_succ]; rfl) (by kernel_rfl) (by kernel_rfl) (by kernel_rfl) (by exact fun _ _ _ h => h) (Or.inl ⟨by rfl, ?hy21_15_16⟩) HS21.out ?_
                case hy21_15_16 => (intro wq hSw; (try dsimp only at hSw); go_simp; try (with_reducible rfl))
                try simp only [Act.put, List.setIfInBounds_toArray, List.set_cons_zero, List.set_cons_succ]
                refine wpAnyH_take (i := 16) (v := ?v21_16_17) (by simp only [List.getElem?_toArray, List.getElem?_cons_zero, List.getElem?_cons_succ]; rfl) (by kernel_rfl) (by kernel_rfl) (by kernel_rfl) (by exact fun _ _ _ h => h) (Or.inl ⟨by rfl, ?hy21_16_17⟩) HS21.out ?_
                case hy21_16_17 => (intro wq hSw; (try dsimp only at hSw); go_simp; try (with_reducible rfl))
                try simp only [Act.put, List.setIfInBounds_toArray, List.set_cons_zero, List.set_cons_succ]
                refine wpAnyH_take (i := 17) (v := ?v21_17_18) (by simp only [List.getElem?_toArray, List.getElem?_cons_zero, List.getElem?_cons_succ]; rfl) (by kernel_rfl) (by kernel_rfl) (by kernel_rfl) (by exact fun _ _ _ h => h) (Or.inl ⟨by rfl, ?hy21_17_18⟩) HS21.out ?_
                case hy21_17_18 => (intro wq hSw; (try dsimp only at hSw); go_simp; try (with_reducible rfl))
                try simp only [Act.put, List.setIfInBounds_toArray, List.set_cons_zero, List.set_cons_succ]
                refine wpAnyH_done (by kernel_rfl) ?_ _
                go_wp2_with fail
                go_roundw
                case rel => exact ⟨j + 1, by go_num, by omega, HOD.out⟩
                case measure => simp only [RowKit.intOf]; omega
              · have h1 : ¬ (j : Int) < (n9 : Int) := by omega
                have x10 : wr.cell? ⟨xb, 10, none⟩ = some (.slice pn n9 cn) := (cell_of_row _ _ 10 _ _ (0, 0) hx7.row).trans rfl
                have q9 : wr.cell? ⟨qb, 9, none⟩ = some (.map (some mb)) := (cell_of_row _ _ 9 _ _ (0, 0) hq7).trans rfl
                have hlk := look_f (fnd_i HTW.out) hnm7
                have HSO := Vx.hid (same_ok (HSM.out.quiet HO.out))
                have HBF : Hid (∀ wf, Only (fun _ => False) wr wf → Below w.heap.size w wf) := fun wf ho => hx7.be.trans (ho.below hx7.be.size (fun _ _ h => h))
                clear hx7 hnm7 hq7 hlt hj
                go_wp2_with fail
                refine HSO.out.mono ?_
                rintro e w8 ⟨rfl, H8⟩
                clear HSO x10 q9 hlk
                go_wp2_with fail
                go_ret
                exact ⟨rfl, HBF.out _ H8.out⟩
          · as_aux_lemma =>
            have h1 : ¬ (k : Int) < (N : Int) := by omega
            clear hlt h9 hkN hk120
            obtain ⟨vt, vo, vc, vm, vh, vi, vn, va, hx⟩ := HX0.out
            have HX := Vx.hid hx
            have x0 : wr.cell? ⟨xb, 0, none⟩ = some (.string ⟨((telL tx0 M).t).toArray⟩) := (cell_of_row _ _ 0 _ _ (0, 0) hx.row).trans rfl
            clear hx HX0
            go_upto_region 15 with fail
            go_wp2_with fail
            refine (HPA.out _ HX.out.be).mono ?_
            rintro e w5 ⟨B, pt, po, pc, pm, ph, pi, mb, D, rfl, HQ⟩
            clear HPA x0
            obtain ⟨p1, c1, hp1, hz1⟩ := HQ.out.lt.form
            obtain ⟨p2, c2, hp2, hz2⟩ := HQ.out.lo.form
            obtain ⟨p3, c3, hp3, hz3⟩ := HQ.out.lc.form
            obtain ⟨p4, c4, hp4, hz4⟩ := HQ.out.lm.form
            obtain ⟨p5, c5, hp5, hz5⟩ := HQ.out.lh.form
            obtain ⟨p6, c6, hp6, hz6⟩ := HQ.out.li.form
            clear hz1 hz2 hz3 hz4 hz5 hz6
            obtain ⟨n1, hn1⟩ : ∃ n, n = (rdT (telL tx0 M)).tn.length := ⟨_, rfl⟩
            obtain ⟨n2, hn2⟩ : ∃ n, n = (rdT (telL tx0 M)).ob.length := ⟨_, rfl⟩
            obtain ⟨n3, hn3⟩ : ∃ n, n = (rdT (telL tx0 M)).cp.length := ⟨_, rfl⟩
            obtain ⟨n4, hn4⟩ : ∃ n, n = (rdT (telL tx0 M)).mp.length := ⟨_, rfl⟩
            obtain ⟨n5, hn5⟩ : ∃ n, n = (rdT (telL tx0 M)).th.length := ⟨_, rfl⟩
            obtain ⟨n6, hn6⟩ : ∃ n, n = (rdT (telL tx0 M)).ir.length := ⟨_, rfl⟩
            rw [← hn1] at hp1
            rw [← hn2] at hp2
            rw [← hn3] at hp3
            rw [← hn4] at hp4
            rw [← hn5] at hp5
            rw [← hn6] at hp6
            clear hn1 hn2 hn3 hn4 hn5 hn6
            subst hp1 hp2 hp3 hp4 hp5 hp6
            obtain ⟨w6, hw6⟩ : ∃ w6, w6 = w5.alloc (.cells #[.int .i64 0, .slice p1 n1 c1, .int .u32 1073741822, .slice p2 n2 c2, .slice none 0 0, .slice p3 n3 c3, .slice p4 n4 c4, .slice p5 n5 c5, .slice p6 n6 c6, .map (some mb)] 34) := ⟨_, rfl⟩
            obtain ⟨qb, hqb⟩ : ∃ qb, qb = w5.heap.size := ⟨_, rfl⟩
            have ho56 : Only (fun _ => False) w5 w6 := by rw [hw6]; exact (Only.refl _ _).alloc _
            have hq6 : w6.heap[qb]? = some (.cells #[.int .i64 0, .slice p1 n1 c1, .int .u32 1073741822, .slice p2 n2 c2, .slice none 0 0, .slice p3 n3 c3, .slice p4 n4 c4, .slice p5 n5 c5, .slice p6 n6 c6, .map (some mb)] 34 (0, 0)) := by rw [hw6, hqb]; exact heap_alloc_last _ _
            have hx6 := HX.out.quiet (HQ.out.on.trans ho56)
            have hnm6 := HQ.out.nm.keep ho56 (fun h => h)
            have HSM : Hid (SmI w6 qb xb B w.heap.size (.slice p1 n1 c1) (.slice p2 n2 c2) (.slice p3 n3 c3) (.slice p4 n4 c4) (.slice p5 n5 c5) (.slice p6 n6 c6) vt vo vc vm vh vi (telL tx0 M)) := by
              have hc := HCN.out
              have hm := HM.out
              exact ⟨lt_of_some hq6, lt_of_some hx6.row, (cell_of_row _ _ 1 _ _ (0, 0) hq6).trans rfl, (cell_of_row _ _ 2 _ _ (0, 0) hx6.row).trans rfl, HQ.out.lt.kept ho56 (fun _ _ h => h), hx6.lt, by have := hc.tn; omega,
                (cell_of_row _ _ 3 _ _ (0, 0) hq6).trans rfl, (cell_of_row _ _ 4 _ _ (0, 0) hx6.row).trans rfl, HQ.out.lo.kept ho56 (fun _ _ h => h), hx6.lo, by have := hc.ob; omega,
                (cell_of_row _ _ 5 _ _ (0, 0) hq6).trans rfl, (cell_of_row _ _ 6 _ _ (0, 0) hx6.row).trans rfl, HQ.out.lc.kept ho56 (fun _ _ h => h), hx6.lc, by have := hc.cp; omega,
                (cell_of_row _ _ 6 _ _ (0, 0) hq6).trans rfl, (cell_of_row _ _ 7 _ _ (0, 0) hx6.row).trans rfl, HQ.out.lm.kept ho56 (fun _ _ h => h), hx6.lm, by have := hc.mp; omega,
                (cell_of_row _ _ 7 _ _ (0, 0) hq6).trans rfl, (cell_of_row _ _ 8 _ _ (0, 0) hx6.row).trans rfl, HQ.out.lh.kept ho56 (fun _ _ h => h), hx6.lh, by have := hc.th; omega,
                (cell_of_row _ _ 8 _ _ (0, 0) hq6).trans rfl, (cell_of_row _ _ 9 _ _ (0, 0) hx6.row).trans rfl, HQ.out.li.kept ho56 (fun _ _ h => h), hx6.li, by have := hc.ir; omega⟩
            obtain ⟨n9, hn9⟩ : ∃ n, n = (telL tx0 M).nm.length := ⟨_, rfl⟩
            obtain ⟨pn, cn, hvn, hz9⟩ := hx6.ln.form
            clear hz9
            rw [← hn9] at hvn
            subst hvn
            have HN9 : Hid (n9 = (telL tx0 M).nm.length ∧ n9 ≤ 500) := ⟨hn9, by have := HCN.out.nm; have := HM.out; omega⟩
            have hlm : ∀ ty, (Builtin.len_ #[32] ty #[.map (some mb)]).run Tryz.prog w6 = .ok (.int .i64 ((n9 : Int) + 1)) w6 := fun ty => by
              have h9 := len_f hnm6 ty
              rw [rd_len HTW.out, ← hn9] at h9
              exact h9
            have HLD : Hid (∀ ty, (Builtin.len_ #[32] ty #[.map (some mb)]).run Tryz.prog w6.drew = .ok (.int .i64 ((n9 : Int) + 1)) w6.drew) := fun ty => by
              have h9 := len_f (hnm6.keep (Only.drew (Only.refl (fun _ => False) w6)) (fun h => h)) ty
              rw [rd_len HTW.out, ← hn9] at h9
              exact h9
            have HX6 := Vx.hid hx6
            have HNM6 := Vx.hid hnm6
            have HQ6 := Vx.hid hq6
            have HBE : Hid (Below w.heap.size w w6) := hx6.be
            have q0 : w6.cell? ⟨qb, 0, none⟩ = some (.int .i64 0) := (cell_of_row _ _ 0 _ _ (0, 0) hq6).trans rfl
            have q2 : w6.cell? ⟨qb, 2, none⟩ = some (.int .u32 1073741822) := (cell_of_row _ _ 2 _ _ (0, 0) hq6).trans rfl
            have q4 : w6.cell? ⟨qb, 4, none⟩ = some (.slice none 0 0) := (cell_of_row _ _ 4 _ _ (0, 0) hq6).trans rfl
            have q9 : w6.cell? ⟨qb, 9, none⟩ = some (.map (some mb)) := (cell_of_row _ _ 9 _ _ (0, 0) hq6).trans rfl
            have x10 : w6.cell? ⟨xb, 10, none⟩ = some (.slice pn n9 cn) := (cell_of_row _ _ 10 _ _ (0, 0) hx6.row).trans rfl
            have hwn : IntKind.i64.wrap ((n9 : Int) + 1) = (n9 : Int) + 1 := by have := HN9.out.2; rw [IntKind.wrap_i64]; omega
            clear hx6 hnm6 hq6 hn9 ho56 HX HQ
            go_upto_region 16 with fail
            rw [← hw6, ← hqb]
            clear hw6 hqb
            have HS16 : Hid (w6.drew.cell? ⟨qb, 0, none⟩ = some (.int .i64 0) ∧ w6.drew.cell? ⟨qb, 2, none⟩ = some (.int .u32 1073741822) ∧ w6.drew.cell? ⟨qb, 4, none⟩ = some (.slice none 0 0) ∧ w6.drew.cell? ⟨qb, 9, none⟩ = some (.map (some mb)) ∧ w6.drew.cell? ⟨xb, 10, none⟩ = some (.slice pn n9 cn) ∧ ∀ ty, (Builtin.len_ #[32] ty #[.map (some mb)]).run Tryz.prog w6.drew = .ok (.int .i64 ((n9 : Int) + 1)) w6.drew) := ⟨q0, q2, q4, q9, x10, HLD.out⟩
            clear q0 q2 q4 q9 x10 hlm HLD
            refine Vx.wp_region_free (S := (fun wv => wv.cell? ⟨qb, 0, none⟩ = some (.int .i64 0) ∧ wv.cell? ⟨qb, 2, none⟩ = some (.int .u32 1073741822) ∧ wv.cell? ⟨qb, 4, none⟩ = some (.slice none 0 0) ∧ wv.cell? ⟨qb, 9, none⟩ = some (.map (some mb)) ∧ wv.cell? ⟨xb, 10, none⟩ = some (.slice pn n9 cn) ∧ ∀ ty, (Builtin.len_ #[32] ty #[.map (some mb)]).run Tryz.prog wv = .ok (.int .i64 ((n9 : Int) + 1)) wv)) (by kernel_rfl) ?_
            simp only [List.size_toArray, List.length_cons, List.length_nil, Nat.zero_add, Nat.reduceAdd]
            refine wpAnyH_take (i := 0) (v := ?vb16_0_1) (by simp only [List.getElem?_toArray, List.getElem?_cons_zero, List.getElem?_cons_succ]; rfl) (by kernel_rfl) (by kernel_rfl) (by kernel_rfl) (by exact fun _ _ _ h => h) (Or.inl ⟨by rfl, ?hyb16_0_1⟩) HS16.out ?_
            case hyb16_0_1 => (intro wq hSw; (try dsimp only at hSw); go_simp; try (with_reducible rfl))
            try simp only [Act.put, List.setIfInBounds_toArray, List.set_cons_zero, List.set_cons_succ]
            refine wpAnyH_take (i := 1) (v := ?vb16_1_2) (by simp only [List.getElem?_toArray, List.getElem?_cons_zero, List.getElem?_cons_succ]; rfl) (by kernel_rfl) (by kernel_rfl) (by kernel_rfl) (by exact fun _ _ _ h => h) (Or.inl ⟨by rfl, ?hyb16_1_2⟩) HS16.out ?_
            case hyb16_1_2 => (intro wq hSw; (try dsimp only at hSw); go_simp; try (with_reducible rfl))
            try simp only [Act.put, List.setIfInBounds_toArray, List.set_cons_zero, List.set_cons_succ]
            refine wpAnyH_take (i := 2) (v := ?vb16_2_3) (by simp only [List.getElem?_toArray, List.getElem?_cons_zero, List.getElem?_cons_succ]; rfl) (by kernel_rfl) (by kernel_rfl) (by kernel_rfl) (by exact fun _ _ _ h => h) (Or.inl ⟨by rfl, ?hyb16_2_3⟩) HS16.out ?_
            case hyb16_2_3 => (intro wq hSw; (try dsimp only at hSw); go_simp; try (with_reducible rfl))
            try simp only [Act.put, List.setIfInBounds_toArray, List.set_cons_zero, List.set_cons_succ]
            refine wpAnyH_take (i := 3) (v := ?vb16_3_4) (by simp only [List.getElem?_toArray, List.getElem?_cons_zero, List.getElem?_cons_succ]; rfl) (by kernel_rfl) (by kernel_rfl) (by kernel_rfl) (by exact fun _ _ _ h => h) (Or.inl ⟨by rfl, ?hyb16_3_4⟩) HS16.out ?_
            case hyb16_3_4 => (intro wq hSw; (try dsimp only at hSw); go_simp; try (with_reducible rfl))
            try simp only [Act.put, List.setIfInBounds_toArray, List.set_cons_zero, List.set_cons_succ]
            refine wpAnyH_take (i := 4) (v := ?vb16_4_5) (by simp only [List.getElem?_toArray, List.getElem?_cons_zero, List.getElem?_cons_succ]; rfl) (by kernel_rfl) (by kernel_rfl) (by kernel_rfl) (by exact fun _ _ _ h => h) (Or.inl ⟨by rfl, ?hyb16_4_5⟩) HS16.out ?_
            case hyb16_4_5 => (intro wq hSw; (try dsimp only at hSw); go_simp; try (with_reducible rfl))
            try simp only [Act.put, List.setIfInBounds_toArray, List.set_cons_zero, List.set_cons_succ]
            refine wpAnyH_take (i := 5) (v := ?vb16_5_6) (by simp only [List.getElem?_toArray, List.getElem?_cons_zero, List.getElem?_cons_succ]; rfl) (by kernel_rfl) (by kernel_rfl) (by kernel_rfl) (by exact fun _ _ _ h => h) (Or.inl ⟨by rfl, ?hyb16_5_6⟩) HS16.out ?_
            case hyb16_5_6 => (intro wq hSw; (try dsimp only at hSw); go_simp; try (with_reducible rfl))
            try simp only [Act.put, List.setIfInBounds_toArray, List.set_cons_zero, List.set_cons_succ]
            refine wpAnyH_take (i := 6) (v := ?vb16_6_7) (by simp only [List.getElem?_toArray, List.getElem?_cons_zero, List.getElem?_cons_succ]; rfl) (by kernel_rfl) (by kernel_rfl) (by kernel_rfl) (by exact fun _ _ _ h => h) (Or.inl ⟨by rfl, ?hyb16_6_7⟩) HS16.out ?_
            case hyb16_6_7 => (intro wq hSw; (try dsimp only at hSw); go_simp; try (with_reducible rfl))
            try simp only [Act.put, List.setIfInBounds_toArray, List.set_cons_zero, List.set_cons_succ]
            refine wpAnyH_take (i := 7) (v := ?vb16_7_8) (by simp only [List.getElem?_toArray, List.getElem?_cons_zero, List.getElem?_cons_succ]; rfl) (by kernel_rfl) (by kernel_rfl) (by kernel_rfl) (by exact fun _ _ _ h => h) (Or.inl ⟨by rfl, ?hyb16_7_8⟩) HS16.out ?_
            case hyb16_7_8 => (intro wq hSw; (try dsimp only at hSw); go_simp; try (with_reducible rfl))
            try simp only [Act.put, List.setIfInBounds_toArray, List.set_cons_zero, List.set_cons_succ]
            refine wpAnyH_take (i := 8) (v := ?vb16_8_9) (by simp only [List.getElem?_toArray, List.getElem?_cons_zero, List.getElem?_cons_succ]; rfl) (by kernel_rfl) (by kernel_rfl) (by kernel_rfl) (by exact fun _ _ _ h => h) (Or.inl ⟨by rfl, ?hyb16_8_9⟩) HS16.out ?_
            case hyb16_8_9 => (intro wq hSw; (try dsimp only at hSw); go_simp; try (with_reducible rfl))
            try simp only [Act.put, List.setIfInBounds_toArray, List.set_cons_zero, List.set_cons_succ]
            refine wpAnyH_take (i := 9) (v := ?vb16_9_10) (by simp only [List.getElem?_toArray, List.getElem?_cons_zero, List.getElem?_cons_succ]; rfl) (by kernel_rfl) (by kernel_rfl) (by kernel_rfl) (by exact fun _ _ _ h => h) (Or.inl ⟨by rfl, ?hyb16_9_10⟩) HS16.out ?_
            case hyb16_9_10 => (intro wq hSw; (try dsimp only at hSw); go_simp; try (with_reducible rfl))
            try simp only [Act.put, List.setIfInBounds_toArray, List.set_cons_zero, List.set_cons_succ]
            refine wpAnyH_take (i := 10) (v := ?vb16_10_11) (by simp only [List.getElem?_toArray, List.getElem?_cons_zero, List.getElem?_cons_succ]; rfl) (by kernel_rfl) (by kernel_rfl) (by kernel_rfl) (by exact fun _ _ _ h => h) (Or.inl ⟨by rfl, ?hyb16_10_11⟩) HS16.out ?_
            case hyb16_10_11 => (intro wq hSw; (try dsimp only at hSw); go_simp; try (with_reducible rfl))
            try simp only [Act.put, List.setIfInBounds_toArray, List.set_cons_zero, List.set_cons_succ]
            refine wpAnyH_take (i := 11) (v := ?vb16_11_12) (by simp only [List.getElem?_toArray, List.getElem?_cons_zero, List.getElem?_cons_succ]; rfl) (by kernel_rfl) (by kernel_rfl) (by kernel_rfl) (by exact fun _ _ _ h => h) (Or.inl ⟨by rfl, ?hyb16_11_12⟩) HS16.out ?_
            case hyb16_11_12 => (intro wq hSw; (try dsimp only at hSw); go_simp; try (with_reducible rfl))
            try simp only [Act.put, List.setIfInBounds_toArray, List.set_cons_zero, List.set_cons_succ]
            refine wpAnyH_take (i := 12) (v := ?vb16_12_13) (by simp only [List.getElem?_toArray, List.getElem?_cons_zero, List.getElem?_cons_succ]; rfl) (by kernel_rfl) (by kernel_rfl) (by kernel_rfl) (by exact fun _ _ _ h => h) (Or.inl ⟨by rfl, ?hyb16_12_13⟩) HS16.out ?_
            case hyb16_12_13 => (intro wq hSw; (try dsimp only at hSw); go_simp; try (with_reducible rfl))
            try simp only [Act.put, List.setIfInBounds_toArray, List.set_cons_zero, List.set_cons_succ]
            refine wpAnyH_take (i := 13) (v := ?vb16_13_14) (by simp only [List.getElem?_toArray, List.getElem?_cons_zero, List.getElem?_cons_succ]; rfl) (by kernel_rfl) (by kernel_rfl) (by kernel_rfl) (by exact fun _ _ _ h => h) (Or.inl ⟨by rfl, ?hyb16_13_14⟩) HS16.out ?_
            case hyb16_13_14 => (intro wq hSw; (try dsimp only at hSw); go_simp; try (with_reducible rfl))
            try simp only [Act.put, List.setIfInBounds_toArray, List.set_cons_zero, List.set_cons_succ]
            refine wpAnyH_take (i := 14) (v := ?vb16_14_15) (by simp only [List.getElem?_toArray, List.getElem?_cons_zero, List.getElem?_cons_succ]; rfl) (by kernel_rfl) (by kernel_rfl) (by kernel_rfl) (by exact fun _ _ _ h => h) (Or.inl ⟨by rfl, ?hyb16_14_15⟩) HS16.out ?_
            case hyb16_14_15 => (intro wq hSw; (try dsimp only at hSw); go_simp; try (with_reducible rfl))
            try simp only [Act.put, List.setIfInBounds_toArray, List.set_cons_zero, List.set_cons_succ]
            refine wpAnyH_take (i := 15) (v := ?vb16_15_16) (by simp only [List.getElem?_toArray, List.getElem?_cons_zero, List.getElem?_cons_succ]; rfl) (by kernel_rfl) (by kernel_rfl) (by kernel_rfl) (by exact fun _ _ _ h => h) (Or.inl ⟨by rfl, ?hyb16_15_16⟩) HS16.out ?_
            case hyb16_15_16 => (intro wq hSw; (try dsimp only at hSw); go_simp; try (with_reducible rfl))
            try simp only [Act.put, List.setIfInBounds_toArray, List.set_cons_zero, List.set_cons_succ]
            refine wpAnyH_take (i := 16) (v := ?vb16_16_17) (by simp only [List.getElem?_toArray, List.getElem?_cons_zero, List.getElem?_cons_succ]; rfl) (by kernel_rfl) (by kernel_rfl) (by kernel_rfl) (by exact fun _ _ _ h => h) (Or.inl ⟨by rfl, ?hyb16_16_17⟩) HS16.out ?_
            case hyb16_16_17 => (intro wq hSw; (try dsimp only at hSw); go_simp; try (with_reducible rfl))
            try simp only [Act.put, List.setIfInBounds_toArray, List.set_cons_zero, List.set_cons_succ]
            refine wpAnyH_take (i := 17) (v := ?vb16_17_18) (by simp only [List.getElem?_toArray, List.getElem?_cons_zero, List.getElem?_cons_succ]; rfl) (by kernel_rfl) (by kernel_rfl) (by kernel_rfl) (by exact fun _ _ _ h => h) (Or.inl ⟨by rfl, ?hyb16_17_18⟩) HS16.out ?_
            case hyb16_17_18 => (intro wq hSw; (try dsimp only at hSw); go_simp; try (with_reducible rfl))
            try simp only [Act.put, List.setIfInBounds_toArray, List.set_cons_zero, List.set_cons_succ]
            refine wpAnyH_take (i := 18) (v := ?vb16_18_19) (by simp only [List.getElem?_toArray, List.getElem?_cons_zero, List.getElem?_cons_succ]; rfl) (by kernel_rfl) (by kernel_rfl) (by kernel_rfl) (by exact fun _ _ _ h => h) (Or.inl ⟨by rfl, ?hyb16_18_19⟩) HS16.out ?_
            case hyb16_18_19 => (intro wq hSw; (try dsimp only at hSw); go_simp; try (with_reducible rfl))
            try simp only [Act.put, List.setIfInBounds_toArray, List.set_cons_zero, List.set_cons_succ]
            refine wpAnyH_take (i := 19) (v := ?vb16_19_20) (by simp only [List.getElem?_toArray, List.getElem?_cons_zero, List.getElem?_cons_succ]; rfl) (by kernel_rfl) (by kernel_rfl) (by kernel_rfl) (by exact fun _ _ _ h => h) (Or.inl ⟨by rfl, ?hyb16_19_20⟩) HS16.out ?_
            case hyb16_19_20 => (intro wq hSw; (try dsimp only at hSw); go_simp; try (with_reducible rfl))
            try simp only [Act.put, List.setIfInBounds_toArray, List.set_cons_zero, List.set_cons_succ]
            refine wpAnyH_take (i := 20) (v := ?vb16_20_21) (by simp only [List.getElem?_toArray, List.getElem?_cons_zero, List.getElem?_cons_succ]; rfl) (by kernel_rfl) (by kernel_rfl) (by kernel_rfl) (by exact fun _ _ _ h => h) (Or.inl ⟨by rfl, ?hyb16_20_21⟩) HS16.out ?_
            case hyb16_20_21 => (intro wq hSw; (try dsimp only at hSw); go_simp; try (with_reducible rfl))
            try simp only [Act.put, List.setIfInBounds_toArray, List.set_cons_zero, List.set_cons_succ]
            refine wpAnyH_take (i := 21) (v := ?vb16_21_22) (by simp only [List.getElem?_toArray, List.getElem?_cons_zero, List.getElem?_cons_succ]; rfl) (by kernel_rfl) (by kernel_rfl) (by kernel_rfl) (by exact fun _ _ _ h => h) (Or.inl ⟨by rfl, ?hyb16_21_22⟩) HS16.out ?_
            case hyb16_21_22 => (intro wq hSw; (try dsimp only at hSw); go_simp; try (with_reducible rfl))
            try simp only [Act.put, List.setIfInBounds_toArray, List.set_cons_zero, List.set_cons_succ]
            refine wpAnyH_take (i := 22) (v := ?vb16_22_23) (by simp only [List.getElem?_toArray, List.getElem?_cons_zero, List.getElem?_cons_succ]; rfl) (by kernel_rfl) (by kernel_rfl) (by kernel_rfl) (by exact fun _ _ _ h => h) (Or.inl ⟨by rfl, ?hyb16_22_23⟩) HS16.out ?_
            case hyb16_22_23 => (intro wq hSw; (try dsimp only at hSw); go_simp; try (with_reducible rfl))
            try simp only [Act.put, List.setIfInBounds_toArray, List.set_cons_zero, List.set_cons_succ]
            refine wpAnyH_take (i := 23) (v := ?vb16_23_24) (by simp only [List.getElem?_toArray, List.getElem?_cons_zero, List.getElem?_cons_succ]; rfl) (by kernel_rfl) (by kernel_rfl) (by kernel_rfl) (by exact fun _ _ _ h => h) (Or.inl ⟨by rfl, ?hyb16_23_24⟩) HS16.out ?_
            case hyb16_23_24 => (intro wq hSw; (try dsimp only at hSw); go_simp; try (with_reducible rfl))
            try simp only [Act.put, List.setIfInBounds_toArray, List.set_cons_zero, List.set_cons_succ]
            refine wpAnyH_take (i := 24) (v := ?vb16_24_25) (by simp only [List.getElem?_toArray, List.getElem?_cons_zero, List.getElem?_cons_succ]; rfl) (by kernel_rfl) (by kernel_rfl) (by kernel_rfl) (by exact fun _ _ _ h => h) (Or.inl ⟨by rfl, ?hyb16_24_25⟩) HS16.out ?_
            case hyb16_24_25 => (intro wq hSw; (try dsimp only at hSw); go_simp; try (with_reducible rfl))
            try simp only [Act.put, List.setIfInBounds_toArray, List.set_cons_zero, List.set_cons_succ]
            refine wpAnyH_take (i := 25) (v := ?vb16_25_26) (by simp only [List.getElem?_toArray, List.getElem?_cons_zero, List.getElem?_cons_succ]; rfl) (by kernel_rfl) (by kernel_rfl) (by kernel_rfl) (by exact fun _ _ _ h => h) (Or.inl ⟨by rfl, ?hyb16_25_26⟩) HS16.out ?_
            case hyb16_25_26 => (intro wq hSw; (try dsimp only at hSw); go_simp; try (with_reducible rfl))
            try simp only [Act.put, List.setIfInBounds_toArray, List.set_cons_zero, List.set_cons_succ]
            refine wpAnyH_take (i := 26) (v := ?vb16_26_27) (by simp only [List.getElem?_toArray, List.getElem?_cons_zero, List.getElem?_cons_succ]; rfl) (by kernel_rfl) (by kernel_rfl) (by kernel_rfl) (by exact fun _ _ _ h => h) (Or.inl ⟨by rfl, ?hyb16_26_27⟩) HS16.out ?_
            case hyb16_26_27 => (intro wq hSw; (try dsimp only at hSw); go_simp; try (with_reducible rfl))
            try simp only [Act.put, List.setIfInBounds_toArray, List.set_cons_zero, List.set_cons_succ]
            refine wpAnyH_take (i := 27) (v := ?vb16_27_28) (by simp only [List.getElem?_toArray, List.getElem?_cons_zero, List.getElem?_cons_succ]; rfl) (by kernel_rfl) (by kernel_rfl) (by kernel_rfl) (by exact fun _ _ _ h => h) (Or.inl ⟨by rfl, ?hyb16_27_28⟩) HS16.out ?_
            case hyb16_27_28 => (intro wq hSw; (try dsimp only at hSw); go_simp; try (with_reducible rfl))
            try simp only [Act.put, List.setIfInBounds_toArray, List.set_cons_zero, List.set_cons_succ]
            refine wpAnyH_take (i := 28) (v := ?vb16_28_29) (by simp only [List.getElem?_toArray, List.getElem?_cons_zero, List.getElem?_cons_succ]; rfl) (by kernel_rfl) (by kernel_rfl) (by kernel_rfl) (by exact fun _ _ _ h => h) (Or.inl ⟨by rfl, ?hyb16_28_29⟩) HS16.out ?_
            case hyb16_28_29 => (intro wq hSw; (try dsimp only at hSw); go_simp; try (with_reducible rfl))
            try simp only [Act.put, List.setIfInBounds_toArray, List.set_cons_zero, List.set_cons_succ]
            refine wpAnyH_take (i := 29) (v := ?vb16_29_30) (by simp only [List.getElem?_toArray, List.getElem?_cons_zero, List.getElem?_cons_succ]; rfl) (by kernel_rfl) (by kernel_rfl) (by kernel_rfl) (by exact fun _ _ _ h => h) (Or.inl ⟨by rfl, ?hyb16_29_30⟩) HS16.out ?_
            case hyb16_29_30 => (intro wq hSw; (try dsimp only at hSw); go_simp; try (with_reducible rfl))
            try simp only [Act.put, List.setIfInBounds_toArray, List.set_cons_zero, List.set_cons_succ]
            refine wpAnyH_take (i := 30) (v := ?vb16_30_31) (by simp only [List.getElem?_toArray, List.getElem?_cons_zero, List.getElem?_cons_succ]; rfl) (by kernel_rfl) (by kernel_rfl) (by kernel_rfl) (by exact fun _ _ _ h => h) (Or.inl ⟨by rfl, ?hyb16_30_31⟩) HS16.out ?_
            case hyb16_30_31 => (intro wq hSw; (try dsimp only at hSw); go_simp; try (with_reducible rfl))
            try simp only [Act.put, List.setIfInBounds_toArray, List.set_cons_zero, List.set_cons_succ]
            refine wpAnyH_take (i := 31) (v := ?vb16_31_32) (by simp only [List.getElem?_toArray, List.getElem?_cons_zero, List.getElem?_cons_succ]; rfl) (by kernel_rfl) (by kernel_rfl) (by kernel_rfl) (by exact fun _ _ _ h => h) (Or.inl ⟨by rfl, ?hyb16_31_32⟩) HS16.out ?_
            case hyb16_31_32 => (intro wq hSw; (try dsimp only at hSw); go_simp; try (with_reducible rfl))
            try simp only [Act.put, List.setIfInBounds_toArray, List.set_cons_zero, List.set_cons_succ]
            refine wpAnyH_take (i := 32) (v := ?vb16_32_33) (by simp only [List.getElem?_toArray, List.getElem?_cons_zero, List.getElem?_cons_succ]; rfl) (by kernel_rfl) (by kernel_rfl) (by kernel_rfl) (by exact fun _ _ _ h => h) (Or.inl ⟨by rfl, ?hyb16_32_33⟩) HS16.out ?_
            case hyb16_32_33 => (intro wq hSw; (try dsimp only at hSw); go_simp; try (with_reducible rfl))
            try simp only [Act.put, List.setIfInBounds_toArray, List.set_cons_zero, List.set_cons_succ]
            refine wpAnyH_take (i := 33) (v := ?vb16_33_34) (by simp only [List.getElem?_toArray, List.getElem?_cons_zero, List.getElem?_cons_succ]; rfl) (by kernel_rfl) (by kernel_rfl) (by kernel_rfl) (by exact fun _ _ _ h => h) (Or.inl ⟨by rfl, ?hyb16_33_34⟩) HS16.out ?_
            case hyb16_33_34 => (intro wq hSw; (try dsimp only at hSw); go_simp; try (with_reducible rfl))
            try simp only [Act.put, List.setIfInBounds_toArray, List.set_cons_zero, List.set_cons_succ]
            refine wpAnyH_take (i := 34) (v := ?vb16_34_35) (by simp only [List.getElem?_toArray, List.getElem?_cons_zero, List.getElem?_cons_succ]; rfl) (by kernel_rfl) (by kernel_rfl) (by kernel_rfl) (by exact fun _ _ _ h => h) (Or.inl ⟨by rfl, ?hyb16_34_35⟩) HS16.out ?_
            case hyb16_34_35 => (intro wq hSw; (try dsimp only at hSw); go_simp; try (with_reducible rfl))
            try simp only [Act.put, List.setIfInBounds_toArray, List.set_cons_zero, List.set_cons_succ]
            refine wpAnyH_take (i := 35) (v := ?vb16_35_36) (by simp only [List.getElem?_toArray, List.getElem?_cons_zero, List.getElem?_cons_succ]; rfl) (by kernel_rfl) (by kernel_rfl) (by kernel_rfl) (by exact fun _ _ _ h => h) (Or.inl ⟨by rfl, ?hyb16_35_36⟩) HS16.out ?_
            case hyb16_35_36 => (intro wq hSw; (try dsimp only at hSw); go_simp; try (with_reducible rfl))
            try simp only [Act.put, List.setIfInBounds_toArray, List.set_cons_zero, List.set_cons_succ]
            refine wpAnyH_take (i := 36) (v := ?vb16_36_37) (by simp only [List.getElem?_toArray, List.getElem?_cons_zero, List.getElem?_cons_succ]; rfl) (by kernel_rfl) (by kernel_rfl) (by kernel_rfl) (by exact fun _ _ _ h => h) (Or.inl ⟨by rfl, ?hyb16_36_37⟩) HS16.out ?_
            case hyb16_36_37 => (intro wq hSw; (try dsimp only at hSw); go_simp; try (with_reducible rfl))
            try simp only [Act.put, List.setIfInBounds_toArray, List.set_cons_zero, List.set_cons_succ]
            refine wpAnyH_done (by kernel_rfl) ?_ _
            clear HS16
            go_wp2_with fail
            go_loopw [10] (fun d wr => ∃ j : Nat, d = .int .i64 (j : Int) ∧ j ≤ n9 ∧ Hid (Only (fun _ => False) w6 wr)) (fun d _ => n9 - (RowKit.intOf d).toNat)
            case atStart => exact ⟨0, rfl, Nat.zero_le _, (Only.refl _ w6).drew⟩
            case round =>
              obtain ⟨j, rfl, hj, HO⟩ := hrel
              have hx7 := HX6.out.quiet HO.out
              have hnm7 := HNM6.out.keep HO.out (fun h => h)
              have hq7 := keepB HO.out HQ6.out (fun h => h)
              have hwj : IntKind.i64.wrap ((j : Int) + 1) = (j : Int) + 1 := by have := HN9.out.2; rw [IntKind.wrap_i64]; omega
              by_cases hlt : j < n9
              · as_aux_lemma =>
                have hjl : j < (telL tx0 M).nm.length := by rw [← HN9.out.1]; exact hlt
                have hja : j < (telL tx0 M).ar.length := by rw [HTW.out.len]; exact hjl
                obtain ⟨g, c9, hvg, hg, hrg⟩ := own_el hx7.ln j hjl
                obtain ⟨g2, c92, hvg2, hg2, hrg2⟩ := own_el hx7.la j hja
                have hva := hvg2
                rw [HTW.out.len, ← HN9.out.1] at hva
                subst hva
                rw [← HN9.out.1] at hvg
                have hvq := (Value.slice.inj hvg).1
                clear hvg hvg2
                subst hvq
                have hfn := fnd_n HTW.out (by have := HN9.out; omega) j hjl
                have hnj : (telL tx0 M).nm.getD j [] = (telL tx0 M).nm[j] := by rw [List.getD_eq_getElem?_getD, List.getElem?_eq_getElem hjl]; rfl
                have haj : (telL tx0 M).ar.getD j (0, 0) = (telL tx0 M).ar[j] := by rw [List.getD_eq_getElem?_getD, List.getElem?_eq_getElem hja]; rfl
                rw [hnj, haj] at hfn
                have hlk := look_f hfn (hnm7.keep (Only.drew (Only.refl (fun _ => False) wr)) (fun h => h))
                have hsz1 : stL.sz = 1 := rfl
                have hsz2 : slL.sz = 2 := rfl
                rw [hsz1, Nat.mul_one] at hrg
                rw [hsz2] at hrg2
                have e1 : wr.cell? ⟨g, j, none⟩ = some (.string ⟨((telL tx0 M).nm[j]).toArray⟩) := hrg 0 _ rfl
                have e2 : wr.cell? ⟨g2, j * 2, none⟩ = some (.int .i64 ((telL tx0 M).ar[j]).1) := hrg2 0 _ rfl
                have e3 : wr.cell? ⟨g2, j * 2 + 1, none⟩ = some (.int .i64 ((telL tx0 M).ar[j]).2) := hrg2 1 _ rfl
                generalize (telL tx0 M).nm[j] = nj at hlk e1
                generalize (telL tx0 M).ar[j] = aj at hlk e2 e3
                obtain ⟨a1, a2⟩ := aj
                dsimp only at hlk e2 e3
                have q9 : wr.cell? ⟨qb, 9, none⟩ = some (.map (some mb)) := (cell_of_row _ _ 9 _ _ (0, 0) hq7).trans rfl
                have x10 : wr.cell? ⟨xb, 10, none⟩ = some (.slice (some ⟨g, 0, none⟩) n9 cn) := (cell_of_row _ _ 10 _ _ (0, 0) hx7.row).trans rfl
                have x11 : wr.cell? ⟨xb, 11, none⟩ = some (.slice (some ⟨g2, 0, none⟩) n9 c92) := (cell_of_row _ _ 11 _ _ (0, 0) hx7.row).trans rfl
                have HS21 : Hid (wr.drew.cell? ⟨qb, 9, none⟩ = some (.map (some mb)) ∧ wr.drew.cell? ⟨xb, 10, none⟩ = some (.slice (some ⟨g, 0, none⟩) n9 cn) ∧ wr.drew.cell? ⟨xb, 11, none⟩ = some (.slice (some ⟨g2, 0, none⟩) n9 c92) ∧ wr.drew.cell? ⟨g, j, none⟩ = some (.string ⟨nj.toArray⟩) ∧ wr.drew.cell? ⟨g2, j * 2, none⟩ = some (.int .i64 a1) ∧ wr.drew.cell? ⟨g2, j * 2 + 1, none⟩ = some (.int .i64 a2) ∧ (Instr.lookup 32 (.map (some mb)) (.string ⟨nj.toArray⟩) false).run Tryz.prog wr.drew = .ok (.agg #[.int .i64 a1, .int .i64 a2]) wr.drew) := ⟨q9, x10, x11, e1, e2, e3, hlk⟩
                have h1 : (j : Int) < (n9 : Int) := by omega
                have hidx : 0 ≤ (j : Int) ∧ (j : Int) < (n9 : Int) := by omega
                have HOD := Vx.hid HO.out.drew
                clear hlk e1 e2 e3 hrg hrg2 hfn hnj haj hsz1 hsz2 hx7 hnm7 hq7 hg hg2 hjl hja q9 x11
                go_upto_region 21 with fail
                clear x10
                refine Vx.wp_region_free (S := (fun wv => wv.cell? ⟨qb, 9, none⟩ = some (.map (some mb)) ∧ wv.cell? ⟨xb, 10, none⟩ = some (.slice (some ⟨g, 0, none⟩) n9 cn) ∧ wv.cell? ⟨xb, 11, none⟩ = some (.slice (some ⟨g2, 0, none⟩) n9 c92) ∧ wv.cell? ⟨g, j, none⟩ = some (.string ⟨nj.toArray⟩) ∧ wv.cell? ⟨g2, j * 2, none⟩ = some (.int .i64 a1) ∧ wv.cell? ⟨g2, j * 2 + 1, none⟩ = some (.int .i64 a2) ∧ (Instr.lookup 32 (.map (some mb)) (.string ⟨nj.toArray⟩) false).run Tryz.prog wv = .ok (.agg #[.int .i64 a1, .int .i64 a2]) wv)) (by kernel_rfl) ?_
                simp only [List.size_toArray, List.length_cons, List.length_nil, Nat.zero_add, Nat.reduceAdd]
                refine wpAnyH_take (i := 0) (v := ?vb21_0_1) (by simp only [List.getElem?_toArray, List.getElem?_cons_zero, List.getElem?_cons_succ]; rfl) (by kernel_rfl) (by kernel_rfl) (by kernel_rfl) (by exact fun _ _ _ h => h) (Or.inl ⟨by rfl, ?hyb21_0_1⟩) HS21.out ?_
                case hyb21_0_1 => (intro wq hSw; (try dsimp only at hSw); go_simp; try (with_reducible rfl))
                try simp only [Act.put, List.setIfInBounds_toArray, List.set_cons_zero, List.set_cons_succ]
                refine wpAnyH_take (i := 1) (v := ?vb21_1_2) (by simp only [List.getElem?_toArray, List.getElem?_cons_zero, List.getElem?_cons_succ]; rfl) (by kernel_rfl) (by kernel_rfl) (by kernel_rfl) (by exact fun _ _ _ h => h) (Or.inl ⟨by rfl, ?hyb21_1_2⟩) HS21.out ?_
                case hyb21_1_2 => (intro wq hSw; (try dsimp only at hSw); go_simp; try (with_reducible rfl))
                try simp only [Act.put, List.setIfInBounds_toArray, List.set_cons_zero, List.set_cons_succ]
                refine wpAnyH_take (i := 2) (v := ?vb21_2_3) (by simp only [List.getElem?_toArray, List.getElem?_cons_zero, List.getElem?_cons_succ]; rfl) (by kernel_rfl) (by kernel_rfl) (by kernel_rfl) (by exact fun _ _ _ h => h) (Or.inl ⟨by rfl, ?hyb21_2_3⟩) HS21.out ?_
                case hyb21_2_3 => (intro wq hSw; (try dsimp only at hSw); go_simp; try (with_reducible rfl))
                try simp only [Act.put, List.setIfInBounds_toArray, List.set_cons_zero, List.set_cons_succ]
                refine wpAnyH_take (i := 3) (v := ?vb21_3_4) (by simp only [List.getElem?_toArray, List.getElem?_cons_zero, List.getElem?_cons_succ]; rfl) (by kernel_rfl) (by kernel_rfl) (by kernel_rfl) (by exact fun _ _ _ h => h) (Or.inl ⟨by rfl, ?hyb21_3_4⟩) HS21.out ?_
                case hyb21_3_4 => (intro wq hSw; (try dsimp only at hSw); go_simp; try (with_reducible rfl))
                try simp only [Act.put, List.setIfInBounds_toArray, List.set_cons_zero, List.set_cons_succ]
                refine wpAnyH_take (i := 4) (v := ?vb21_4_5) (by simp only [List.getElem?_toArray, List.getElem?_cons_zero, List.getElem?_cons_succ]; rfl) (by kernel_rfl) (by kernel_rfl) (by kernel_rfl) (by exact fun _ _ _ h => h) (Or.inl ⟨by rfl, ?hyb21_4_5⟩) HS21.out ?_
                case hyb21_4_5 => (intro wq hSw; (try dsimp only at hSw); go_simp; try (with_reducible rfl))
                try simp only [Act.put, List.setIfInBounds_toArray, List.set_cons_zero, List.set_cons_succ]
                refine wpAnyH_take (i := 5) (v := ?vb21_5_6) (by simp only [List.getElem?_toArray, List.getElem?_cons_zero, List.getElem?_cons_succ]; rfl) (by kernel_rfl) (by kernel_rfl) (by kernel_rfl) (by exact fun _ _ _ h => h) (Or.inl ⟨by rfl, ?hyb21_5_6⟩) HS21.out ?_
                case hyb21_5_6 => (intro wq hSw; (try dsimp only at hSw); go_simp; try (with_reducible rfl))
                try simp only [Act.put, List.setIfInBounds_toArray, List.set_cons_zero, List.set_cons_succ]
                refine wpAnyH_take (i := 6) (v := ?vb21_6_7) (by simp only [List.getElem?_toArray, List.getElem?_cons_zero, List.getElem?_cons_succ]; rfl) (by kernel_rfl) (by kernel_rfl) (by kernel_rfl) (by exact fun _ _ _ h => h) (Or.inl ⟨by rfl, ?hyb21_6_7⟩) HS21.out ?_
                case hyb21_6_7 => (intro wq hSw; (try dsimp only at hSw); go_simp; try (with_reducible rfl))
                try simp only [Act.put, List.setIfInBounds_toArray, List.set_cons_zero, List.set_cons_succ]
                refine wpAnyH_take (i := 7) (v := ?vb21_7_8) (by simp only [List.getElem?_toArray, List.getElem?_cons_zero, List.getElem?_cons_succ]; rfl) (by kernel_rfl) (by kernel_rfl) (by kernel_rfl) (by exact fun _ _ _ h => h) (Or.inl ⟨by rfl, ?hyb21_7_8⟩) HS21.out ?_
                case hyb21_7_8 => (intro wq hSw; (try dsimp only at hSw); go_simp; try (with_reducible rfl))
                try simp only [Act.put, List.setIfInBounds_toArray, List.set_cons_zero, List.set_cons_succ]
                refine wpAnyH_take (i := 8) (v := ?vb21_8_9) (by simp only [List.getElem?_toArray, List.getElem?_cons_zero, List.getElem?_cons_succ]; rfl) (by kernel_rfl) (by kernel_rfl) (by kernel_rfl) (by exact fun _ _ _ h => h) (Or.inl ⟨by rfl, ?hyb21_8_9⟩) HS21.out ?_
                case hyb21_8_9 => (intro wq hSw; (try dsimp only at hSw); go_simp; try (with_reducible rfl))
                try simp only [Act.put, List.setIfInBounds_toArray, List.set_cons_zero, List.set_cons_succ]
                refine wpAnyH_take (i := 9) (v := ?vb21_9_10) (by simp only [List.getElem?_toArray, List.getElem?_cons_zero, List.getElem?_cons_succ]; rfl) (by kernel_rfl) (by kernel_rfl) (by kernel_rfl) (by exact fun _ _ _ h => h) (Or.inl ⟨by rfl, ?hyb21_9_10⟩) HS21.out ?_
                case hyb21_9_10 => (intro wq hSw; (try dsimp only at hSw); go_simp; try (with_reducible rfl))
                try simp only [Act.put, List.setIfInBounds_toArray, List.set_cons_zero, List.set_cons_succ]
                refine wpAnyH_take (i := 10) (v := ?vb21_10_11) (by simp only [List.getElem?_toArray, List.getElem?_cons_zero, List.getElem?_cons_succ]; rfl) (by kernel_rfl) (by kernel_rfl) (by kernel_rfl) (by exact fun _ _ _ h => h) (Or.inl ⟨by rfl, ?hyb21_10_11⟩) HS21.out ?_
                case hyb21_10_11 => (intro wq hSw; (try dsimp only at hSw); go_simp; try (with_reducible rfl))
                try simp only [Act.put, List.setIfInBounds_toArray, List.set_cons_zero, List.set_cons_succ]
                refine wpAnyH_take (i := 11) (v := ?vb21_11_12) (by simp only [List.getElem?_toArray, List.getElem?_cons_zero, List.getElem?_cons_succ]; rfl) (by kernel_rfl) (by kernel_rfl) (by kernel_rfl) (by exact fun _ _ _ h => h) (Or.inl ⟨by rfl, ?hyb21_11_12⟩) HS21.out ?_
                case hyb21_11_12 => (intro wq hSw; (try dsimp only at hSw); go_simp; try (with_reducible rfl))
                try simp only [Act.put, List.setIfInBounds_toArray, List.set_cons_zero, List.set_cons_succ]
                refine wpAnyH_take (i := 12) (v := ?vb21_12_13) (by simp only [List.getElem?_toArray, List.getElem?_cons_zero, List.getElem?_cons_succ]; rfl) (by kernel_rfl) (by kernel_rfl) (by kernel_rfl) (by exact fun _ _ _ h => h) (Or.inl ⟨by rfl, ?hyb21_12_13⟩) HS21.out ?_
                case hyb21_12_13 => (intro wq hSw; (try dsimp only at hSw); go_simp; try (with_reducible rfl))
                try simp only [Act.put, List.setIfInBounds_toArray, List.set_cons_zero, List.set_cons_succ]
                refine wpAnyH_take (i := 13) (v := ?vb21_13_14) (by simp only [List.getElem?_toArray, List.getElem?_cons_zero, List.getElem?_cons_succ]; rfl) (by kernel_rfl) (by kernel_rfl) (by kernel_rfl) (by exact fun _ _ _ h => h) (Or.inl ⟨by rfl, ?hyb21_13_14⟩) HS21.out ?_
                case hyb21_13_14 => (intro wq hSw; (try dsimp only at hSw); go_simp; try (with_reducible rfl))
                try simp only [Act.put, List.setIfInBounds_toArray, List.set_cons_zero, List.set_cons_succ]
                refine wpAnyH_take (i := 14) (v := ?vb21_14_15) (by simp only [List.getElem?_toArray, List.getElem?_cons_zero, List.getElem?_cons_succ]; rfl) (by kernel_rfl) (by kernel_rfl) (by kernel_rfl) (by exact fun _ _ _ h => h) (Or.inl ⟨by rfl, ?hyb21_14_15⟩) HS21.out ?_
                case hyb21_14_15 => (intro wq hSw; (try dsimp only at hSw); go_simp; try (with_reducible rfl))
                try simp only [Act.put, List.setIfInBounds_toArray, List.set_cons_zero, List.set_cons_succ]
                refine wpAnyH_take (i := 15) (v := ?vb21_15_16) (by simp only [List.getElem?_toArray, List.getElem?_cons_zero, List.getElem?_cons_succ]; rfl) (by kernel_rfl) (by kernel_rfl) (by kernel_rfl) (by exact fun _ _ _ h => h) (Or.inl ⟨by rfl, ?hyb21_15_16⟩) HS21.out ?_
                case hyb21_15_16 => (intro wq hSw; (try dsimp only at hSw); go_simp; try (with_reducible rfl))
                try simp only [Act.put, List.setIfInBounds_toArray, List.set_cons_zero, List.set_cons_succ]
                refine wpAnyH_take (i := 16) (v := ?vb21_16_17) (by simp only [List.getElem?_toArray, List.getElem?_cons_zero, List.getElem?_cons_succ]; rfl) (by kernel_rfl) (by kernel_rfl) (by kernel_rfl) (by exact fun _ _ _ h => h) (Or.inl ⟨by rfl, ?hyb21_16_17⟩) HS21.out ?_
                case hyb21_16_17 => (intro wq hSw; (try dsimp only at hSw); go_simp; try (with_reducible rfl))
                try simp only [Act.put, List.setIfInBounds_toArray, List.set_cons_zero, List.set_cons_succ]
                refine wpAnyH_take (i := 17) (v := ?vb21_17_18) (by simp only [List.getElem?_toArray, List.getElem?_cons_zero, List.getElem?_cons_succ]; rfl) (by kernel_rfl) (by kernel_rfl) (by kernel_rfl) (by exact fun _ _ _ h => h) (Or.inl ⟨by rfl, ?hyb21_17_18⟩) HS21.out ?_
                case hyb21_17_18 => (intro wq hSw; (try dsimp only at hSw); go_simp; try (with_reducible rfl))
                try simp only [Act.put, List.setIfInBounds_toArray, List.set_cons_zero, List.set_cons_succ]
                refine wpAnyH_done (by kernel_rfl) ?_ _
                go_wp2_with fail
                go_roundw
                case rel => exact ⟨j + 1, by go_num, by omega, HOD.out⟩
                case measure => simp only [RowKit.intOf]; omega
              · have h1 : ¬ (j : Int) < (n9 : Int) := by omega
                have x10 : wr.cell? ⟨xb, 10, none⟩ = some (.slice pn n9 cn) := (cell_of_row _ _ 10 _ _ (0, 0) hx7.row).trans rfl
                have q9 : wr.cell? ⟨qb, 9, none⟩ = some (.map (some mb)) := (cell_of_row _ _ 9 _ _ (0, 0) hq7).trans rfl
                have hlk := look_f (fnd_i HTW.out) hnm7
                have HSO := Vx.hid (same_ok (HSM.out.quiet HO.out))
                have HBF : Hid (∀ wf, Only (fun _ => False) wr wf → Below w.heap.size w wf) := fun wf ho => hx7.be.trans (ho.below hx7.be.size (fun _ _ h => h))
                clear hx7 hnm7 hq7 hlt hj
                go_wp2_with fail
                refine HSO.out.mono ?_
                rintro e w8 ⟨rfl, H8⟩
                clear HSO x10 q9 hlk
                go_wp2_with fail
                go_ret
                exact ⟨rfl, HBF.out _ H8.out⟩
end Go.Proofs.YtgacifbpjdakaaaGreatDoor

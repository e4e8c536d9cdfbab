/- SpecReads, pure: a line that is told is read. -/
import Derived.Test.YtgacifbpjdakaaaGreatDoorSQ0
import Derived.Test.YtgacifbpjdakaaaGreatDoorTD5
namespace Go.Proofs.YtgacifbpjdakaaaGreatDoor
open Go.ChangeShapes Go.WideShapes Go.ChangeAt Go.RowKit
open Go.Vx
set_option linter.unusedVariables false
set_option linter.unusedSimpArgs false
variable {T : Tx}

theorem fnd_b (h : Tw T) : Fnd (rdT T) [98] (5, 9) := ⟨one_ok _ (by decide), 0, by rw [rd_nm h]; simp, by simp [rd_nm h], by simp [rd_ar h]⟩
theorem fnd_r (h : Tw T) : Fnd (rdT T) [114] (4, 10) := ⟨one_ok _ (by decide), 1, by rw [rd_nm h]; simp, by simp [rd_nm h], by simp [rd_ar h]⟩
theorem fnd_t (h : Tw T) : Fnd (rdT T) [116] (6, 11) := ⟨one_ok _ (by decide), 2, by rw [rd_nm h]; simp, by simp [rd_nm h], by simp [rd_ar h]⟩
theorem fnd_c (h : Tw T) : Fnd (rdT T) [99] (8, 12) := ⟨one_ok _ (by decide), 3, by rw [rd_nm h]; simp, by simp [rd_nm h], by simp [rd_ar h]⟩
theorem fnd_i (h : Tw T) : Fnd (rdT T) [105] (9, 5) := ⟨one_ok _ (by decide), 4, by rw [rd_nm h]; simp, by simp [rd_nm h], by simp [rd_ar h]⟩
theorem fnd_n (h : Tw T) (hl : T.nm.length ≤ 1000) (i : Nat) (hi : i < T.nm.length) : Fnd (rdT T) (T.nm.getD i []) (T.ar.getD i (0, 0)) := by
  refine ⟨nm_ok' h i hi hl, ?_⟩
  have hal := h.len
  by_cases h4 : i < 4
  · refine ⟨i, by rw [rd_len h]; omega, ?_, ?_⟩
    · have e : (rdT T).nm[i]? = T.nm[i]? := by
        show (T.nm.take 4 ++ [105] :: T.nm.drop 4)[i]? = _
        rw [List.getElem?_append_left (by simp; omega), List.getElem?_take, if_pos h4]
      rw [List.getD_eq_getElem?_getD, ← e, List.getElem?_eq_getElem (by rw [rd_len h]; omega)]
      rfl
    · show (T.ar.take 4 ++ (9, 5) :: T.ar.drop 4).getD i (0, 0) = _
      rw [List.getD_eq_getElem?_getD, List.getD_eq_getElem?_getD, List.getElem?_append_left (by simp; omega), List.getElem?_take, if_pos h4]
  · refine ⟨i + 1, by rw [rd_len h]; omega, ?_, ?_⟩
    · have e : (rdT T).nm[i + 1]? = T.nm[i]? := by
        show (T.nm.take 4 ++ [105] :: T.nm.drop 4)[i + 1]? = _
        rw [List.getElem?_append_right (by simp; omega)]
        have e2 : i + 1 - (T.nm.take 4).length = (i - 4) + 1 := by rw [List.length_take]; omega
        rw [e2, List.getElem?_cons_succ, List.getElem?_drop]
        congr 1
        omega
      rw [List.getD_eq_getElem?_getD, ← e, List.getElem?_eq_getElem (by rw [rd_len h]; omega)]
      rfl
    · show (T.ar.take 4 ++ (9, 5) :: T.ar.drop 4).getD (i + 1) (0, 0) = _
      rw [List.getD_eq_getElem?_getD, List.getD_eq_getElem?_getD, List.getElem?_append_right (by simp; omega)]
      have e2 : i + 1 - (T.ar.take 4).length = (i - 4) + 1 := by rw [List.length_take]; omega
      rw [e2, List.getElem?_cons_succ, List.getElem?_drop]
      congr 2
      omega
theorem p32_lt (n : Int) : p32 n < 4294967296 := pick_lt n 4294967296 (by decide)
/-- What the lists keep to, for the reader. -/
structure Few (T : Tx) : Prop where
  tn : T.tn.length ≤ 500
  ob : T.ob.length ≤ 500
  cp : T.cp.length ≤ 500
  mp : T.mp.length ≤ 500
  th : T.th.length ≤ 500
  ir : T.ir.length ≤ 500
  nm : T.nm.length ≤ 500
theorem say_object (h : Tw T) (hf : Few T) (k p s : Nat) (hk1 : 1 ≤ k) (hk2 : k ≤ 10) (hp : p < 256) (hs : s < 100) : SayW (wordsO k p s T.nm.length) (rdT T) (rdT (putO T k p s)) := by
  have hx : NmOk (nmF T.nm.length) := nm_ok _ (by have := hf.nm; omega)
  have hno := new_nm h (by have := hf.nm; omega)
  have hn : (rdT T).nm.length ≤ 1000 := by rw [rd_len h]; have := hf.nm; omega
  have hob : (rdT T).ob.length ≤ 1000 := by have := hf.ob; show T.ob.length ≤ 1000; omega
  have e : ∀ o ob, rdT { T with nm := T.nm ++ [nmF T.nm.length], ar := T.ar ++ [o], ob := ob } = { rdT T with nm := (rdT T).nm ++ [nmF T.nm.length], ar := (rdT T).ar ++ [o], ob := ob } := fun o ob => rd_putO h _ o ob
  unfold putO wordsO obO
  rw [e]
  rcases (show k = 1 ∨ k = 2 ∨ k = 3 ∨ k = 4 ∨ k = 5 ∨ k = 6 ∨ k = 7 ∨ k = 8 ∨ k = 9 ∨ k = 10 by omega) with rfl | rfl | rfl | rfl | rfl | rfl | rfl | rfl | rfl | rfl
  · have e1 : numO 1 p s % 256 = p := by unfold numO; rw [if_pos rfl]; omega
    have e2 : ((numO 1 p s : Nat) : Int) = (p : Int) + 256 * ((s % 9 : Nat) : Int) := by unfold numO; rw [if_pos rfl]; omega
    rw [e1, e2]
    exact say_untyped p (s % 9) hp (by omega) hx hno hn hob
  · have e1 : numO 2 p s = p := by unfold numO; simp
    rw [e1, Nat.mod_eq_of_lt hp]
    exact say_page2 p hp hx hno hn hob
  · have e1 : numO 3 p s = p := by unfold numO; simp
    rw [e1, Nat.mod_eq_of_lt hp]
    exact say_page3 p hp hx hno hn hob
  · have e1 : numO 4 p s = p := by unfold numO; simp
    rw [e1, Nat.mod_eq_of_lt hp]
    exact say_page4 p hp hx hno hn hob
  · have e1 : numO 5 p s = p := by unfold numO; simp
    rw [e1, Nat.mod_eq_of_lt hp]
    exact say_box p s hp (by omega) hx hno hn hob
  · have e1 : numO 6 p s = p := by unfold numO; simp
    rw [e1, Nat.mod_eq_of_lt hp]
    exact say_page6 p hp hx hno hn hob
  · have e1 : numO 7 p s = p := by unfold numO; simp
    rw [e1, Nat.mod_eq_of_lt hp]
    exact say_page7 p hp hx hno hn hob
  · have e1 : numO 8 p s = p := by unfold numO; simp
    rw [e1, Nat.mod_eq_of_lt hp]
    exact say_page8 p hp hx hno hn hob
  · have e1 : numO 9 p s = p % 8 := by unfold numO; simp
    rw [e1, Nat.mod_eq_of_lt (show p % 8 < 256 by omega)]
    exact say_name9 (p % 8) (by omega) hx hno hn
  · have e1 : numO 10 p s = p % 8 := by unfold numO; simp
    rw [e1, Nat.mod_eq_of_lt (show p % 8 < 256 by omega)]
    exact say_name10 (p % 8) (by omega) hx hno hn
/-- A capability's parts. -/
def frP : Pc := ⟨[102, 114, 111, 109], [[116], [51]], fun e => { e with from' := (11, 3) }⟩
def baP (n : Nat) : Pc := ⟨[98, 97, 100, 103, 101], [Lib.decDigits n], fun e => { e with cap := { e.cap with badge := (n : Int) } }⟩
def guP (n : Nat) : Pc := ⟨[103, 117, 97, 114, 100], [[48, 120, 55], Lib.decDigits n], fun e => { e with cap := { e.cap with guard := 7, gbits := (n : Int) } }⟩
def capP (o : Tl) : List Pc := (if evB o.a then [frP] else []) ++ ((if evB o.b then [baP (p32 o.c)] else []) ++ (if thB o.b then [guP (pickL o.a 40)] else []))
theorem fr_ok (h : Tw T) (W : World) (rb : Nat) (V : Rv) : PtOk W rb V (rdT T) frP := fun w ws cb e hl hs => by
  have e3 : Lib.decDigits 3 = [51] := by decide +kernel
  have hs' : StC W w rb V ([102, 114, 111, 109] :: [116] :: Lib.decDigits 3 :: ws) (rdT T) cb e := by rw [e3]; exact hs
  exact part_from 6 11 (fnd_t h) (Or.inr rfl) 3 (by omega) hs' (by omega)
theorem ba_ok (n : Nat) (hn : n < 4294967296) (W : World) (rb : Nat) (V : Rv) : PtOk W rb V T (baP n) := fun w ws cb e hl hs => part_badge n hn hs (by omega)
theorem gu_ok (n : Nat) (hn : n < 4294967296) (W : World) (rb : Nat) (V : Rv) : PtOk W rb V T (guP n) := fun w ws cb e hl hs => part_guard n hn hs (by omega)
theorem say_capL (h : Tw T) (hf : Few T) (o : Tl) : SayW (wordsC T o) (rdT T) (rdT { T with cp := T.cp ++ [capT T o] }) := by
  have hci : capI T o < T.nm.length := pick_lt o.a T.nm.length (by have := h.n4; omega)
  have hz := fnd_n h (by have := hf.nm; omega) (capI T o) hci
  have h40 : pickL o.a 40 < 4294967296 := by have := pick_lt o.a 40 (by decide); omega
  have hps : ∀ W rb V, ∀ p ∈ capP o, PtOk W rb V (rdT T) p := fun W rb V p hp => by
    unfold capP at hp
    rcases List.mem_append.1 hp with hp | hp
    · split at hp
      · rw [List.mem_singleton] at hp; rw [hp]; exact fr_ok h W rb V
      · cases hp
    · rcases List.mem_append.1 hp with hp | hp
      · split at hp
        · rw [List.mem_singleton] at hp; rw [hp]; exact ba_ok _ (p32_lt _) W rb V
        · cases hp
      · split at hp
        · rw [List.mem_singleton] at hp; rw [hp]; exact gu_ok _ h40 W rb V
        · cases hp
  have hnd : ((capP o).map (·.nm)).Nodup := by
    unfold capP frP baP guP
    cases evB o.a <;> cases evB o.b <;> cases thB o.b <;> simp
  have hpl : (capP o).length ≤ 3 ∧ (ptW (capP o)).length ≤ 100 := by
    unfold capP frP baP guP
    cases evB o.a <;> cases evB o.b <;> cases thB o.b <;> simp [ptW]
  have h9 := say_cap (T := rdT T) 5 9 (T.ar.getD (capI T o) (0, 0)).1 (T.ar.getD (capI T o) (0, 0)).2 (fnd_b h) (Or.inl rfl) hz (p32 o.b) (pickL o.c 8) (p32_lt _) (pick_lt o.c 8 (by decide)) (capP o) hps hnd hpl (by have := hf.cp; show T.cp.length ≤ 1000; omega)
  have ew : wordsC T o = [99, 97, 112] :: ([98] :: Lib.decDigits (p32 o.b) :: T.nm.getD (capI T o) [] :: letF (pickL o.c 8) :: ptW (capP o)) := by
    unfold wordsC frmW bdgW grdW capP frP baP guP
    cases evB o.a <;> cases evB o.b <;> cases thB o.b <;> rfl
  have ee : efF (capP o) ⟨(9, ((p32 o.b : Nat) : Int)), ⟨(T.ar.getD (capI T o) (0, 0)).1, (T.ar.getD (capI T o) (0, 0)).2, ((pickL o.c 8 : Nat) : Int), 0, 0, 0, 0, 0⟩, (-1, -1)⟩ = capT T o := by
    unfold capT capP frP baP guP
    cases evB o.a <;> cases evB o.b <;> cases thB o.b <;> rfl
  rw [ew]
  rw [ee] at h9
  exact h9
theorem say_lineF (h : Tw T) (hf : Few T) (o : Tl) : SayOk (lineF T o) (rdT T) (rdT (tellF T o)) := by
  show SayW (wordsL (lineF T o)) (rdT T) (rdT (putF' T o))
  have hk := pick_lt o.k 7 (by decide)
  have h1000 : ∀ {n : Nat}, n ≤ 500 → n ≤ 1000 := fun h => by omega
  unfold lineF putF'
  rcases (show pickL o.k 7 = 0 ∨ pickL o.k 7 = 1 ∨ pickL o.k 7 = 2 ∨ pickL o.k 7 = 3 ∨ pickL o.k 7 = 4 ∨ pickL o.k 7 = 5 ∨ pickL o.k 7 = 6 by omega) with e | e | e | e | e | e | e
  · rw [e]
    show SayW (wordsL (lineO _ _ _ _)) _ _
    rw [words_O]
    exact say_object h hf _ _ _ (by unfold obN; omega) (by have := pick_lt o.a 10 (by decide); unfold obN; omega) (pick_lt o.b 256 (by decide)) (pick_lt o.c 100 (by decide))
  · rw [e]
    show SayW (wordsL (lineO _ _ _ _)) _ _
    rw [words_O]
    exact say_object h hf _ _ _ (by unfold obN; omega) (by have := pick_lt o.a 10 (by decide); unfold obN; omega) (pick_lt o.b 256 (by decide)) (pick_lt o.c 100 (by decide))
  · rw [e]
    show SayW (wordsL (capL T o)) _ _
    rw [words_C T o (nm_wd' h _ (pick_lt o.a T.nm.length (by have := h.n4; omega)))]
    exact say_capL h hf o
  · rw [e]
    show SayW (wordsL (turL o)) _ _
    rw [words_T]
    exact say_turn (T := rdT T) _ _ (p32_lt _) (p32_lt _) (h1000 hf.tn)
  · rw [e]
    show SayW (wordsL (staL o)) _ _
    rw [words_S]
    have hr := pick_lt o.c 31 (by decide)
    exact say_start (T := rdT T) 11 (fnd_t h) _ _ _ _ (rgN o) (evB o.b) (by have := pick_lt o.b 20 (by decide); omega) (by have := pick_lt o.c 20 (by decide); omega) (p32_lt _) (p32_lt _) (by unfold rgN; omega) (by unfold rgN; omega) (h1000 hf.th)
  · rw [e]
    show SayW (wordsL (mpL o)) _ _
    rw [words_M]
    exact say_map (T := rdT T) 5 9 10 (fnd_b h) (Or.inl rfl) (fnd_r h) _ _ _ (by have := pick_lt o.b 90 (by decide); omega) (p32_lt _) (pick_lt o.c 8 (by decide)) (h1000 hf.mp)
  · rw [e]
    show SayW (wordsL (binL o)) _ _
    rw [words_B]
    exact say_bind (T := rdT T) 5 12 (fnd_i h) (fnd_c h) _ (p32_lt _) (h1000 hf.ir)
end Go.Proofs.YtgacifbpjdakaaaGreatDoor

/- Chapter 9, SchedTurns: whose turn it is; the law's two rows; the calls. -/
import Derived.Test.YtgncabcnefhkiaaST0
import Derived.Test.YtgncabcnefhkiaaSX15
import Derived.Test.YtgncabcnefhkiaaPKP
namespace Go.Proofs.Ytgncabcnefhkiaa
open Go.ChangeShapes Go.WideShapes Go.ChangeAt Go.RowKit
open Go.Vx
set_option linter.unusedVariables false
variable {U V S : Nat → Prop} {w w2 w3 : World} {xb : Nat}

def domI (A B m : Nat) : Int := if m % (A + B) < A then 1 else 0
set_option maxRecDepth 100000 in
set_option maxHeartbeats 2000000 in
theorem domainAt_ok (w : World) (tb A B m : Nat) (hA : 1 ≤ A ∧ A ≤ 9) (hB : 1 ≤ B ∧ B ≤ 9) (hm : m ≤ 1000000) (c0 : w.cell? ⟨tb, 0, none⟩ = some (.int .i64 1)) (c1 : w.cell? ⟨tb, 1, none⟩ = some (.int .i64 (A : Int))) (c2 : w.cell? ⟨tb, 2, none⟩ = some (.int .i64 0)) (c3 : w.cell? ⟨tb, 3, none⟩ = some (.int .i64 (B : Int))) :
    Calls Try.prog 19 #[.slice (some ⟨tb, 0, none⟩) 2 2, .int .i64 (m : Int)] w fun e w' => e = .returned (.int .i64 (domI A B m)) ∧ w' = w := by
  obtain ⟨Sm, hS⟩ : ∃ Sm, Sm = A + B := ⟨_, rfl⟩
  obtain ⟨n, hn⟩ : ∃ n, n = m % Sm := ⟨_, rfl⟩
  have hnS : n < Sm := by rw [hn]; exact Nat.mod_lt _ (by omega)
  have wA : IntKind.i64.wrap (A : Int) = (A : Int) := by rw [IntKind.wrap_i64]; omega
  have e1 : (A : Int) + (B : Int) = (Sm : Int) := by omega
  have wS : IntKind.i64.wrap (Sm : Int) = (Sm : Int) := by rw [IntKind.wrap_i64]; omega
  have hS0 : ((Sm : Int) == 0) = false := by rw [beq_eq_false_iff_ne]; omega
  have hS0' : ¬ (Sm : Int) = 0 := by omega
  have hS1 : ((Sm : Int) == -1) = false := by rw [beq_eq_false_iff_ne]; omega
  have hmod : (m : Int).tmod (Sm : Int) = (n : Int) := by rw [Int.tmod_eq_emod_of_nonneg (by omega), hn, Int.natCast_emod]
  have wn : IntKind.i64.wrap (n : Int) = (n : Int) := by rw [IntKind.wrap_i64]; omega
  have HD : Hid (domI A B m = if n < A then 1 else 0) := by
    show _ = _
    unfold domI
    rw [← hS, ← hn]
  have HSS := Vx.hid hS
  clear hn hm hS
  go_enter Try.func19, Try.ntmps19
  go_wp2_with fail
  go_loopw [5, 6] (fun s i wr => ((i = .int .i64 0 ∧ s = .int .i64 0) ∨ (i = .int .i64 1 ∧ s = .int .i64 (A : Int)) ∨ (i = .int .i64 2 ∧ s = .int .i64 (Sm : Int))) ∧ wr = w) (fun _ i _ => 2 - (RowKit.intOf i).toNat)
  case atStart => exact ⟨Or.inl ⟨rfl, rfl⟩, rfl⟩
  case round =>
    obtain ⟨hcc, hwr⟩ := hrel
    have h3 := hwr.symm; clear hwr; subst h3
    obtain ⟨rfl, rfl⟩ | ⟨rfl, rfl⟩ | ⟨rfl, rfl⟩ := hcc
    · go_wp2_with fail
      go_roundw
      case rel => exact ⟨Or.inr (Or.inl ⟨rfl, rfl⟩), trivial⟩
      case measure => simp only [RowKit.intOf]; omega
    · go_wp2_with fail
      go_roundw
      case rel => exact ⟨Or.inr (Or.inr ⟨rfl, rfl⟩), trivial⟩
      case measure => simp only [RowKit.intOf]; omega
    · go_wp2_with fail
      go_loopw [1, 7] (fun s i wr => ((i = .int .i64 0 ∧ s = .int .i64 (n : Int)) ∨ (i = .int .i64 1 ∧ s = .int .i64 ((n : Int) - (A : Int)) ∧ A ≤ n)) ∧ wr = w) (fun _ i _ => 2 - (RowKit.intOf i).toNat)
      case atStart => exact ⟨Or.inl ⟨rfl, rfl⟩, rfl⟩
      case round =>
        obtain ⟨hcc, hwr⟩ := hrel
        have h3 := hwr.symm; clear hwr; subst h3
        obtain ⟨rfl, rfl⟩ | ⟨rfl, rfl, hAn⟩ := hcc
        · by_cases hlt : n < A
          · have h1 : (n : Int) < (A : Int) := by omega
            have HD2 : Hid (domI A B m = 1) := by show _ = _; rw [HD.out, if_pos hlt]
            clear hlt
            go_wp2_with fail
            all_goals
              go_ret
              exact ⟨by rw [HD2.out]; rfl, rfl⟩
          · have h1 : ¬ (n : Int) < (A : Int) := by omega
            have wd : IntKind.i64.wrap ((n : Int) - (A : Int)) = (n : Int) - (A : Int) := by rw [IntKind.wrap_i64]; omega
            go_wp2_with fail
            go_roundw
            case rel => exact ⟨Or.inr ⟨rfl, rfl, by omega⟩, trivial⟩
            case measure => simp only [RowKit.intOf]; omega
        · have h1 : (n : Int) - (A : Int) < (B : Int) := by have := HSS.out; omega
          have HD2 : Hid (domI A B m = 0) := by show _ = _; rw [HD.out, if_neg (by omega)]
          go_wp2_with fail
          all_goals
            go_ret
            exact ⟨by rw [HD2.out]; rfl, rfl⟩
def rdC (R : Nat → Bool) : Array Value := ((List.range 6).map fun k => Value.bool (R k)).toArray
def prC (P : Nat → Int) : Array Value := ((List.range 6).map fun k => Value.int .i64 (P k)).toArray
theorem rd_at (R : Nat → Bool) {k : Nat} (hk : k < 6) : (rdC R)[k]? = some (.bool (R k)) := by
  unfold rdC
  rw [List.getElem?_toArray, List.getElem?_map, List.getElem?_range hk]
  rfl
theorem pr_at (P : Nat → Int) {k : Nat} (hk : k < 6) : (prC P)[k]? = some (.int .i64 (P k)) := by
  unfold prC
  rw [List.getElem?_toArray, List.getElem?_map, List.getElem?_range hk]
  rfl
theorem rd_set (R : Nat → Bool) (k : Nat) (b : Bool) : (rdC R).setIfInBounds k (.bool b) = rdC (upB R k b) := by
  unfold rdC
  rw [List.setIfInBounds_toArray]
  congr 1
  apply List.ext_getElem
  · simp
  · intro j h1 h2
    have hj : j < 6 := by simpa using h2
    rw [List.getElem_set, List.getElem_map, List.getElem_map, List.getElem_range]
    unfold upB
    by_cases e : k = j
    · subst e; rw [if_pos rfl, if_pos rfl]
    · rw [if_neg e, if_neg (fun h => e h.symm)]
theorem pr_set (P : Nat → Int) (k : Nat) (b : Int) : (prC P).setIfInBounds k (.int .i64 b) = prC (upI P k b) := by
  unfold prC
  rw [List.setIfInBounds_toArray]
  congr 1
  apply List.ext_getElem
  · simp
  · intro j h1 h2
    have hj : j < 6 := by simpa using h2
    rw [List.getElem_set, List.getElem_map, List.getElem_map, List.getElem_range]
    unfold upI
    by_cases e : k = j
    · subst e; rw [if_pos rfl, if_pos rfl]
    · rw [if_neg e, if_neg (fun h => e h.symm)]
/-- The law between its steps; w1: the world ahead of New; tb: where the turns lie. -/
structure TrP (w0 w1 : World) (xb rb pb tb A B m : Nat) (es : List Et) (R : Nat → Bool) (P : Nat → Int) (w : World) : Prop where
  x : ∃ t lf ck, XcAt (fun k => k < w1.heap.size ∨ k = rb ∨ k = pb) w xb (tts A B) t lf es ck ∧ TkR A B m t lf
  six : Six es
  r : w.heap[rb]? = some (.cells (rdC R) 54 (0, 0))
  p : w.heap[pb]? = some (.cells (prC P) 55 (0, 0))
  t : w.heap[tb]? = some (.cells #[.int .i64 1, .int .i64 (A : Int), .int .i64 0, .int .i64 (B : Int)] 34 (0, 0))
  o : Only (fun _ => False) w0 w
  h1 : w0.heap.size ≤ w1.heap.size
  tl : tb < w1.heap.size
  rl : w0.heap.size ≤ rb
  pl : w0.heap.size ≤ pb
variable {w0 w1 : World} {rb pb tb A B m : Nat} {es : List Et} {R : Nat → Bool} {P : Nat → Int}
theorem TrP.rc (h : TrP w0 w1 xb rb pb tb A B m es R P w) {k : Nat} (hk : k < 6) : w.cell? ⟨rb, k, none⟩ = some (.bool (R k)) := (cell_of_row _ _ k _ _ (0, 0) h.r).trans (rd_at R hk)
theorem TrP.pc (h : TrP w0 w1 xb rb pb tb A B m es R P w) {k : Nat} (hk : k < 6) : w.cell? ⟨pb, k, none⟩ = some (.int .i64 (P k)) := (cell_of_row _ _ k _ _ (0, 0) h.p).trans (pr_at P hk)
theorem TrP.rf (h : TrP w0 w1 xb rb pb tb A B m es R P w) (k : Nat) : w.frozen? ⟨rb, k, none⟩ = false := by have := h.r; simp [World.frozen?, this]
theorem TrP.pf (h : TrP w0 w1 xb rb pb tb A B m es R P w) (k : Nat) : w.frozen? ⟨pb, k, none⟩ = false := by have := h.p; simp [World.frozen?, this]
theorem TrP.setR (h : TrP w0 w1 xb rb pb tb A B m es R P w) (k : Nat) (b : Bool) : TrP w0 w1 xb rb pb tb A B m es (upB R k b) P (w.setCell ⟨rb, k, none⟩ (.bool b)) := by
  have ho : Only (fun j => j = rb) w (w.setCell ⟨rb, k, none⟩ (.bool b)) := Only.setCell (S := fun j => j = rb) (Only.refl _ w) (Or.inl rfl) _
  obtain ⟨t, lf, ck, hx, ht⟩ := h.x
  have hpr := tag_ne h.p h.r (by decide)
  have htr := tag_ne h.t h.r (by decide)
  exact ⟨⟨t, lf, ck, hx.step ho (fun j _ e => Or.inr (Or.inl e)) (fun _ h => Or.inl h), ht⟩, h.six, by rw [heap_setCell_same _ _ k _ _ (.bool b) h.r, rd_set], Only.keep ho h.p hpr, Only.keep ho h.t htr, h.o.beyond ho (fun j e => by rw [e]; exact h.rl), h.h1, h.tl, h.rl, h.pl⟩
theorem TrP.setP (h : TrP w0 w1 xb rb pb tb A B m es R P w) (k : Nat) (b : Int) : TrP w0 w1 xb rb pb tb A B m es R (upI P k b) (w.setCell ⟨pb, k, none⟩ (.int .i64 b)) := by
  have ho : Only (fun j => j = pb) w (w.setCell ⟨pb, k, none⟩ (.int .i64 b)) := Only.setCell (S := fun j => j = pb) (Only.refl _ w) (Or.inl rfl) _
  obtain ⟨t, lf, ck, hx, ht⟩ := h.x
  have hpr := tag_ne h.r h.p (by decide)
  have htr := tag_ne h.t h.p (by decide)
  exact ⟨⟨t, lf, ck, hx.step ho (fun j _ e => Or.inr (Or.inr e)) (fun _ h => Or.inl h), ht⟩, h.six, Only.keep ho h.r hpr, by rw [heap_setCell_same _ _ k _ _ (.int .i64 b) h.p, pr_set], Only.keep ho h.t htr, h.o.beyond ho (fun j e => by rw [e]; exact h.pl), h.h1, h.tl, h.rl, h.pl⟩
/-- Behind a call of the scheduler. -/
theorem TrP.call (h : TrP w0 w1 xb rb pb tb A B m es R P w) {m2 : Nat} {es2 : List Et} (ho : Only (fun k => ¬ (k < w1.heap.size ∨ k = rb ∨ k = pb)) w w2) (hx : ∃ t lf ck, XcAt (fun k => k < w1.heap.size ∨ k = rb ∨ k = pb) w2 xb (tts A B) t lf es2 ck ∧ TkR A B m2 t lf) (h6 : Six es2) : TrP w0 w1 xb rb pb tb A B m2 es2 R P w2 :=
  ⟨hx, h6, Only.keep ho h.r (fun e => e (Or.inr (Or.inl rfl))), Only.keep ho h.p (fun e => e (Or.inr (Or.inr rfl))), Only.keep ho h.t (fun e => e (Or.inl h.tl)), h.o.beyond ho (fun k e => by have := h.h1; omega), h.h1, h.tl, h.rl, h.pl⟩
theorem i64_six {k : Nat} (hk : k < 6) : I64 (k : Int) := by unfold I64; omega
theorem TrP.ready (h : TrP w0 w1 xb rb pb tb A B m es R P w) (hl : Lk es R P) {k : Nat} (hk : k < 6) : Calls Try.prog 11 #[.pointer (some ⟨xb, 0, none⟩), .int .i64 (k : Int)] w fun e w' => e = .returned (.int .i64 (if R k then 16 else 0)) ∧ ∃ es2, TrP w0 w1 xb rb pb tb A B m es2 R P w' ∧ Lk es2 (upB R k true) P := by
  obtain ⟨t, lf, ck, ⟨G, hx⟩, ht⟩ := h.x
  have hf := h.six.fn hx.1 hk
  have hkl : k < es.length := by rw [h.six.1]; exact hk
  have hko := hx.1.ok _ (List.getElem_mem hkl)
  have hR := (hl k hk).1
  have hP := (hl k hk).2
  obtain ⟨n1, n2⟩ := h.six.2 k hk
  rw [getD_et hkl] at hR hP n1 n2
  refine (xready_ok hx _ (i64_six hk)).mono ?_
  rintro e w' ⟨rfl, h1, h2⟩
  have eE : readyE es (k : Int) = if 0 < es[k].came then 16 else 0 := by unfold readyE; rw [hf]; dsimp only; rw [getD_et hkl]
  have eL : lastL es ck (k : Int) = es.set k (lastE ck es[k]) := by unfold lastL; rw [hf]; dsimp only; rw [getD_et hkl]
  rw [eE] at h1 ⊢
  by_cases hc : 0 < es[k].came
  · have hRt : R k = true := by rw [hR]; exact decide_eq_true (by omega)
    rw [if_pos hc] at h1 ⊢
    rw [if_neg (by decide), if_neg (by decide)] at h1
    rw [hRt]
    refine ⟨rfl, es, h.call h2 ⟨t, lf, ck, ⟨G, h1⟩, ht⟩ h.six, ?_⟩
    have : upB R k true = R := by rw [← hRt]; exact upB_self R k
    rw [this]
    exact hl
  · have hRf : R k = false := by rw [hR]; exact decide_eq_false (by omega)
    rw [if_neg hc] at h1 ⊢
    rw [if_pos rfl, if_pos rfl, eL] at h1
    rw [hRf]
    have h6 := h.six.set hk (lastE ck es[k]) n1 n2
    refine ⟨rfl, es.set k (lastE ck es[k]), h.call h2 ⟨t, lf, ck + 1, ⟨G, h1⟩, ht⟩ h6, ?_⟩
    have := hl.set h.six.1 hk (lastE ck es[k])
    have e1 : decide ((lastE ck es[k]).came ≠ 0) = true := decide_eq_true (by show (ck : Int) + 1 ≠ 0; omega)
    have e2 : upI P k (lastE ck es[k]).prio = P := by
      have : (lastE ck es[k]).prio = P k := hP.symm
      rw [this]; exact upI_self P k
    rw [e1, e2] at this
    exact this
theorem TrP.yield (h : TrP w0 w1 xb rb pb tb A B m es R P w) (hl : Lk es R P) {k : Nat} (hk : k < 6) : Calls Try.prog 17 #[.pointer (some ⟨xb, 0, none⟩), .int .i64 (k : Int)] w fun e w' => e = .returned (.int .i64 (if R k then 0 else 16)) ∧ ∃ es2, TrP w0 w1 xb rb pb tb A B m es2 R P w' ∧ Lk es2 R P := by
  obtain ⟨t, lf, ck, ⟨G, hx⟩, ht⟩ := h.x
  have hf := h.six.fn hx.1 hk
  have hkl : k < es.length := by rw [h.six.1]; exact hk
  have hko := hx.1.ok _ (List.getElem_mem hkl)
  have hR := (hl k hk).1
  have hP := (hl k hk).2
  obtain ⟨n1, n2⟩ := h.six.2 k hk
  rw [getD_et hkl] at hR hP n1 n2
  refine (xyield_ok hx _ (i64_six hk)).mono ?_
  rintro e w' ⟨rfl, h1, h2⟩
  have eE : yieldE es (k : Int) = if es[k].came = 0 then 16 else 0 := by unfold yieldE; rw [hf]; dsimp only; rw [getD_et hkl]
  have eL : lastL es ck (k : Int) = es.set k (lastE ck es[k]) := by unfold lastL; rw [hf]; dsimp only; rw [getD_et hkl]
  rw [eE] at h1 ⊢
  by_cases hc : es[k].came = 0
  · have hRt : R k = false := by rw [hR]; exact decide_eq_false (by omega)
    rw [if_pos hc] at h1 ⊢
    rw [if_neg (by decide), if_neg (by decide)] at h1
    rw [hRt]
    exact ⟨rfl, es, h.call h2 ⟨t, lf, ck, ⟨G, h1⟩, ht⟩ h.six, hl⟩
  · have hRf : R k = true := by rw [hR]; exact decide_eq_true (by omega)
    rw [if_neg hc] at h1 ⊢
    rw [if_pos rfl, if_pos rfl, eL] at h1
    have h6 := h.six.set hk (lastE ck es[k]) n1 n2
    rw [show (if R k then (0 : Int) else 16) = 0 by rw [hRf]; rfl]
    refine ⟨rfl, es.set k (lastE ck es[k]), h.call h2 ⟨t, lf, ck + 1, ⟨G, h1⟩, ht⟩ h6, ?_⟩
    have := hl.set h.six.1 hk (lastE ck es[k])
    have e1 : decide ((lastE ck es[k]).came ≠ 0) = R k := by rw [hRf]; exact decide_eq_true (by show (ck : Int) + 1 ≠ 0; omega)
    have e2 : upI P k (lastE ck es[k]).prio = P := by
      have : (lastE ck es[k]).prio = P k := hP.symm
      rw [this]; exact upI_self P k
    rw [e1, e2, upB_self] at this
    exact this
theorem TrP.block (h : TrP w0 w1 xb rb pb tb A B m es R P w) (hl : Lk es R P) {k : Nat} (hk : k < 6) : Calls Try.prog 16 #[.pointer (some ⟨xb, 0, none⟩), .int .i64 (k : Int)] w fun e w' => e = .returned (.int .i64 (if R k then 0 else 16)) ∧ ∃ es2, TrP w0 w1 xb rb pb tb A B m es2 R P w' ∧ Lk es2 (upB R k false) P := by
  obtain ⟨t, lf, ck, ⟨G, hx⟩, ht⟩ := h.x
  have hf := h.six.fn hx.1 hk
  have hkl : k < es.length := by rw [h.six.1]; exact hk
  have hko := hx.1.ok _ (List.getElem_mem hkl)
  have hR := (hl k hk).1
  have hP := (hl k hk).2
  obtain ⟨n1, n2⟩ := h.six.2 k hk
  rw [getD_et hkl] at hR hP n1 n2
  refine (xblock_ok hx _ (i64_six hk)).mono ?_
  rintro e w' ⟨rfl, h1, h2⟩
  have eE : yieldE es (k : Int) = if es[k].came = 0 then 16 else 0 := by unfold yieldE; rw [hf]; dsimp only; rw [getD_et hkl]
  have eL : blockL es (k : Int) = es.set k (offE es[k]) := by unfold blockL; rw [hf]; dsimp only; rw [getD_et hkl]; rfl
  rw [eE] at h1 ⊢
  by_cases hc : es[k].came = 0
  · have hRt : R k = false := by rw [hR]; exact decide_eq_false (by omega)
    rw [if_pos hc] at h1 ⊢
    rw [if_neg (by decide)] at h1
    have : upB R k false = R := by rw [← hRt]; exact upB_self R k
    rw [this, hRt]
    exact ⟨rfl, es, h.call h2 ⟨t, lf, ck, ⟨G, h1⟩, ht⟩ h.six, hl⟩
  · have hRf : R k = true := by rw [hR]; exact decide_eq_true (by omega)
    rw [if_neg hc] at h1 ⊢
    rw [if_pos rfl, eL] at h1
    have h6 := h.six.set hk (offE es[k]) n1 n2
    rw [show (if R k then (0 : Int) else 16) = 0 by rw [hRf]; rfl]
    refine ⟨rfl, es.set k (offE es[k]), h.call h2 ⟨t, lf, ck, ⟨G, h1⟩, ht⟩ h6, ?_⟩
    have := hl.set h.six.1 hk (offE es[k])
    have e1 : decide ((offE es[k]).came ≠ 0) = false := rfl
    have e2 : upI P k (offE es[k]).prio = P := by
      have : (offE es[k]).prio = P k := hP.symm
      rw [this]; exact upI_self P k
    rw [e1, e2] at this
    exact this
theorem TrP.prio (h : TrP w0 w1 xb rb pb tb A B m es R P w) {P2 : Nat → Int} (hl : Lk es R P2) {k : Nat} (hk : k < 6) (q : Int) (hq : 0 ≤ q ∧ q ≤ 7) : Calls Try.prog 18 #[.pointer (some ⟨xb, 0, none⟩), .int .i64 (k : Int), .int .i64 q] w fun e w' => e = .returned (.int .i64 0) ∧ ∃ es2, TrP w0 w1 xb rb pb tb A B m es2 R P w' ∧ Lk es2 R (upI P2 k q) := by
  obtain ⟨t, lf, ck, ⟨G, hx⟩, ht⟩ := h.x
  have hf := h.six.fn hx.1 hk
  have hkl : k < es.length := by rw [h.six.1]; exact hk
  have hko := hx.1.ok _ (List.getElem_mem hkl)
  have hR := (hl k hk).1
  obtain ⟨n1, n2⟩ := h.six.2 k hk
  rw [getD_et hkl] at hR n1 n2
  refine (xprio_ok hx _ q (i64_six hk)).mono ?_
  rintro e w' ⟨rfl, h1, h2⟩
  have eE : prioE es (k : Int) q = 0 := by unfold prioE; rw [hf]; dsimp only; exact if_neg (by omega)
  rw [eE, if_pos rfl, if_pos rfl] at h1
  rw [eE]
  obtain ⟨y, hy, y1, y2, y3, y4⟩ : ∃ y, prioL es ck (k : Int) q = es.set k y ∧ y.num = es[k].num ∧ y.dom = es[k].dom ∧ y.prio = q ∧ (y.came ≠ 0 ↔ es[k].came ≠ 0) := by
    unfold prioL
    rw [hf]
    dsimp only
    rw [getD_et hkl]
    by_cases hc : 0 < es[k].came
    · rw [if_pos hc]
      exact ⟨_, rfl, rfl, rfl, rfl, ⟨fun _ => by omega, fun _ => by show (ck : Int) + 1 ≠ 0; omega⟩⟩
    · rw [if_neg hc]
      exact ⟨_, rfl, rfl, rfl, rfl, Iff.rfl⟩
  rw [hy] at h1
  have h6 := h.six.set hk y (y1.trans n1) (y2.trans n2)
  refine ⟨rfl, es.set k y, h.call h2 ⟨t, lf, _, ⟨G, h1⟩, ht⟩ h6, ?_⟩
  have := hl.set h.six.1 hk y
  have e1 : decide (y.came ≠ 0) = R k := by rw [hR]; exact decide_eq_decide.2 y4
  rw [e1, y3, upB_self] at this
  exact this
theorem TrP.next (h : TrP w0 w1 xb rb pb tb A B m es R P w) (hl : Lk es R P) (hA : 1 ≤ A) (hB : 1 ≤ B) : Calls Try.prog 14 #[.pointer (some ⟨xb, 0, none⟩)] w fun e w' => ∃ r es2, e = .returned (.int .i64 r) ∧ TrP w0 w1 xb rb pb tb A B (m + 1) es2 R P w' ∧ Lk es2 R P ∧ ((bstI R P (domI A B m) 6 < 0 ∧ r = -1) ∨ (0 ≤ bstI R P (domI A B m) 6 ∧ ∃ j : Nat, j < 6 ∧ r = (j : Int) ∧ ((j % 2 : Nat) : Int) = domI A B m ∧ R j = true ∧ P j = bstI R P (domI A B m) 6)) := by
  obtain ⟨t, lf, ck, ⟨G, hx⟩, ht⟩ := h.x
  obtain ⟨t1, t2⟩ := ht.next hA hB
  have hd : turnD (tts A B) t lf = domI A B m := t2
  refine (xnext_ok hx).mono ?_
  rintro e w' ⟨rfl, h1, h2⟩
  obtain ⟨n1, n2⟩ := next_hi hx.1 (turnD (tts A B) t lf)
  rw [hd] at h1 n1 n2 ⊢
  exact ⟨_, _, rfl, h.call h2 ⟨_, _, _, ⟨G, h1⟩, t1⟩ (h.six.alk n2), hl.alk h.six.1 n2, hi_test hx.1 h.six hl n1⟩
end Go.Proofs.Ytgncabcnefhkiaa

/- IpcOrder: pure: the law's lists and the bus; the law between its steps. -/
import Derived.Test.YtdpgdjpphnbfnaaIX11
import Derived.Test.YtdpgdjpphnbfnaaIX13
import Derived.Test.YtdpgdjpphnbfnaaIX16
import Derived.Test.YtdpgdjpphnbfnaaPKP
import Derived.Test.YtdpgdjpphnbfnaaEQ0
namespace Go.Vx
set_option linter.unusedVariables false
/-- What the law notes of one who waits. -/
def labF (x : Wt) : Int := if x.how = 4 then -1 else x.m.lab
/-- The bus of the law, behind i steps. -/
structure OrS (s : Bs) (i : Nat) : Prop where
  ps : s.ps = [⟨5, false, 0⟩]
  at' : ∀ x ∈ s.ws, x.at' = 5
  al : (∀ x ∈ s.ws, x.how = 2 ∧ 0 ≤ x.m.lab ∧ x.m.lab < 2000) ∨ (∀ x ∈ s.ws, x.how = 4)
  ln : s.ws.length ≤ i
variable {s : Bs} {i : Nat}
theorem OrS.nil : OrS ⟨[⟨5, false, 0⟩], []⟩ 0 := ⟨rfl, fun x hx => (by cases hx), Or.inl (fun x hx => (by cases hx)), Nat.le_refl _⟩
theorem OrS.succ (h : OrS s i) : OrS s (i + 1) := ⟨h.ps, h.at', h.al, Nat.le_succ_of_le h.ln⟩
theorem OrS.pF (h : OrS s i) : Vx.pF s.ps 5 = some 0 := by rw [h.ps]; rfl
theorem OrS.pAt (h : OrS s i) : Vx.pAt s 0 = ⟨5, false, 0⟩ := by unfold Vx.pAt; rw [h.ps]; rfl
theorem OrS.may (h : OrS s i) (t : Int) : mayE s 5 false t = if (tF s.ws t).isSome = true then 16 else 0 := by
  unfold mayE
  rw [h.pF]
  dsimp only
  rw [h.pAt]
  rfl
theorem OrS.line (h : OrS s i) : lineL s 5 = s.ws.map (·.thr) := by
  unfold lineL
  congr 1
  rw [List.filter_eq_self]
  intro x hx
  exact decide_eq_true (h.at' x hx)
theorem OrS.lineR (h : OrS s i) : Vx.lineR s 5 = s.ws.map (·.thr) := by unfold Vx.lineR; rw [h.pF]; exact h.line
theorem OrS.lineE (h : OrS s i) : Vx.lineE s 5 = 0 := by unfold Vx.lineE; rw [h.pF]
theorem OrS.aF_nil (h : OrS s i) (hw : s.ws = []) : aF s.ws 5 = none := by rw [hw]; rfl
theorem OrS.aF_cons (h : OrS s i) {x : Wt} {r : List Wt} (hw : s.ws = x :: r) : aF s.ws 5 = some 0 := by
  have := h.at' x (by rw [hw]; exact List.mem_cons_self)
  rw [hw]
  unfold aF idxF
  rw [if_pos (decide_eq_true this)]
theorem wAt_cons {x : Wt} {r : List Wt} (hw : s.ws = x :: r) : wAt s 0 = x := by unfold wAt; rw [hw]; rfl
theorem cuI_cons {α : Type} (x : α) (r : List α) : cuI (x :: r) 0 = r := rfl
theorem cuI_map {α β : Type} (f : α → β) (l : List α) (i : Nat) : (cuI l i).map f = cuI (l.map f) i := by
  unfold cuI
  rw [List.map_append, List.map_take, List.map_drop]
/-- One goes. -/
theorem OrS.cut (h : OrS s i) (j : Nat) : OrS ⟨s.ps, cuI s.ws j⟩ i := by
  have hsub : (cuI s.ws j).Sublist s.ws := by
    unfold cuI
    rw [← List.eraseIdx_eq_take_drop_succ]
    exact List.eraseIdx_sublist _ _
  exact ⟨h.ps, fun x hx => h.at' x (hsub.mem hx), h.al.imp (fun h1 x hx => h1 x (hsub.mem hx)) (fun h1 x hx => h1 x (hsub.mem hx)), Nat.le_trans hsub.length_le h.ln⟩
/-- One comes, that sends. -/
theorem OrS.sent (h : OrS s i) (hi : i < 2000) (t : Int) (m : Ms) (hm : m.lab = (i : Int)) (ha : ∀ x ∈ s.ws, x.how ≠ 4) : OrS ⟨s.ps, s.ws ++ [⟨5, t, 2, m⟩]⟩ (i + 1) := by
  have h2 : ∀ x ∈ s.ws, x.how = 2 ∧ 0 ≤ x.m.lab ∧ x.m.lab < 2000 := by
    rcases h.al with h1 | h1
    · exact h1
    · exact fun x hx => absurd (h1 x hx) (ha x hx)
  refine ⟨h.ps, fun x hx => ?_, Or.inl (fun x hx => ?_), by show (s.ws ++ [_]).length ≤ _; rw [List.length_append, List.length_singleton]; have := h.ln; omega⟩
  · rcases List.mem_append.1 hx with hx | hx
    · exact h.at' x hx
    · rw [List.mem_singleton] at hx; rw [hx]
  · rcases List.mem_append.1 hx with hx | hx
    · exact h2 x hx
    · rw [List.mem_singleton] at hx; rw [hx]; exact ⟨rfl, by show 0 ≤ m.lab; omega, by show m.lab < 2000; omega⟩
theorem OrS.got (h : OrS s i) (t : Int) (m : Ms) (ha : ∀ x ∈ s.ws, x.how = 4) : OrS ⟨s.ps, s.ws ++ [⟨5, t, 4, m⟩]⟩ (i + 1) := by
  refine ⟨h.ps, fun x hx => ?_, Or.inr (fun x hx => ?_), by show (s.ws ++ [_]).length ≤ _; rw [List.length_append, List.length_singleton]; have := h.ln; omega⟩
  · rcases List.mem_append.1 hx with hx | hx
    · exact h.at' x hx
    · rw [List.mem_singleton] at hx; rw [hx]
  · rcases List.mem_append.1 hx with hx | hx
    · exact ha x hx
    · rw [List.mem_singleton] at hx; rw [hx]
/-- Of the first one, all. -/
theorem OrS.first (h : OrS s i) {x : Wt} {r : List Wt} (hw : s.ws = x :: r) : (x.how = 4 ∧ ∀ y ∈ s.ws, y.how = 4) ∨ (x.how = 2 ∧ 0 ≤ x.m.lab ∧ x.m.lab < 2000 ∧ ∀ y ∈ s.ws, y.how ≠ 4) := by
  have hx : x ∈ s.ws := by rw [hw]; exact List.mem_cons_self
  rcases h.al with h1 | h1
  · have := h1 x hx
    exact Or.inr ⟨this.1, this.2.1, this.2.2, fun y hy e => by have := (h1 y hy).1; omega⟩
  · exact Or.inl ⟨h1 x hx, h1⟩
theorem send16 (h : OrS s i) {t : Int} (ht : (tF s.ws t).isSome = true) (m : Ms) : sendR s 5 t 2 m = oErr 16 ∧ sendS s 5 t 2 m = s := by
  have hm := h.may t
  rw [if_pos ht] at hm
  constructor
  · unfold sendR
    rw [if_neg (show ¬ hwB 2 = false by decide), hm, if_pos (by decide)]
  · unfold sendS
    rw [if_neg (show ¬ hwB 2 = false by decide), hm, if_pos (by decide)]
theorem get16 (h : OrS s i) {t : Int} (ht : (tF s.ws t).isSome = true) (b : Bool) : getR s 5 t b = oErr 16 ∧ getS s 5 t b = s := by
  have hm := h.may t
  rw [if_pos ht] at hm
  constructor
  · unfold getR
    rw [hm, if_pos (by decide)]
  · unfold getS
    rw [hm, if_pos (by decide)]
theorem may0 (h : OrS s i) {t : Int} (ht : tF s.ws t = none) : mayE s 5 false t = 0 := by
  rw [h.may t, ht]
  rfl
theorem send_meet (h : OrS s i) {t : Int} (ht : tF s.ws t = none) {x : Wt} {r : List Wt} (hw : s.ws = x :: r) (hh : x.how = 4) (m : Ms) : sendR s 5 t 2 m = oMet x.thr 2 m ∧ sendS s 5 t 2 m = ⟨s.ps, cuI s.ws 0⟩ := by
  have hg : getsF s 5 = some 0 := by unfold getsF; rw [h.aF_cons hw]; dsimp only; rw [wAt_cons hw, if_pos hh]
  constructor
  · unfold sendR
    rw [if_neg (show ¬ hwB 2 = false by decide), may0 h ht, if_neg (by decide), hg]
    dsimp only
    rw [wAt_cons hw]
  · unfold sendS
    rw [if_neg (show ¬ hwB 2 = false by decide), may0 h ht, if_neg (by decide), hg]
theorem send_wait (h : OrS s i) {t : Int} (ht : tF s.ws t = none) (ha : ∀ x ∈ s.ws, x.how ≠ 4) (m : Ms) : sendR s 5 t 2 m = oWt ∧ sendS s 5 t 2 m = ⟨s.ps, s.ws ++ [⟨5, t, 2, m⟩]⟩ := by
  have hg : getsF s 5 = none := by
    unfold getsF
    cases hw : s.ws with
    | nil => rw [← hw, h.aF_nil hw]
    | cons x r => rw [← hw, h.aF_cons hw]; dsimp only; rw [wAt_cons hw, if_neg (ha x (by rw [hw]; exact List.mem_cons_self))]
  constructor
  · unfold sendR
    rw [if_neg (show ¬ hwB 2 = false by decide), may0 h ht, if_neg (by decide), hg]
    rfl
  · unfold sendS
    rw [if_neg (show ¬ hwB 2 = false by decide), may0 h ht, if_neg (by decide), hg]
    rfl
theorem get_meet (h : OrS s i) {t : Int} (ht : tF s.ws t = none) {x : Wt} {r : List Wt} (hw : s.ws = x :: r) (hh : x.how ≠ 4) : getR s 5 t true = oMet x.thr x.how x.m ∧ getS s 5 t true = ⟨s.ps, cuI s.ws 0⟩ := by
  have hg : sendsF s 5 = some 0 := by unfold sendsF; rw [h.aF_cons hw]; dsimp only; rw [wAt_cons hw, if_neg hh]
  constructor
  · unfold getR
    rw [may0 h ht, if_neg (by decide), hg]
    dsimp only
    rw [wAt_cons hw]
  · unfold getS
    rw [may0 h ht, if_neg (by decide), hg]
theorem get_wait (h : OrS s i) {t : Int} (ht : tF s.ws t = none) (ha : ∀ x ∈ s.ws, x.how = 4) : getR s 5 t true = oWt ∧ getS s 5 t true = ⟨s.ps, s.ws ++ [⟨5, t, 4, ms0⟩]⟩ := by
  have hg : sendsF s 5 = none := by
    unfold sendsF
    cases hw : s.ws with
    | nil => rw [← hw, h.aF_nil hw]
    | cons x r => rw [← hw, h.aF_cons hw]; dsimp only; rw [wAt_cons hw, if_pos (ha x (by rw [hw]; exact List.mem_cons_self))]
  constructor
  · unfold getR
    rw [may0 h ht, if_neg (by decide), hg]
    rfl
  · unfold getS
    rw [may0 h ht, if_neg (by decide), hg]
    rfl
/-- Where one stands, of the first k. -/
def AtK (ws : List Wt) (t : Int) (k : Nat) (a : Int) : Prop := (a = -1 ∧ ∀ (q : Nat) (hq : q < ws.length), q < k → ws[q].thr ≠ t) ∨ (∃ (q : Nat) (hq : q < ws.length), a = (q : Int) ∧ q < k ∧ ws[q].thr = t)
theorem AtK.zero (ws : List Wt) (t : Int) : AtK ws t 0 (-1) := Or.inl ⟨rfl, fun q _ h => by omega⟩
theorem AtK.yes {ws : List Wt} {t : Int} {k : Nat} (hk : k < ws.length) (h : ws[k].thr = t) : AtK ws t (k + 1) (k : Int) := Or.inr ⟨k, hk, rfl, by omega, h⟩
theorem AtK.no {ws : List Wt} {t : Int} {k : Nat} {a : Int} (h0 : AtK ws t k a) (hk : k < ws.length) (h : ws[k].thr ≠ t) : AtK ws t (k + 1) a := by
  rcases h0 with ⟨h1, h2⟩ | ⟨q, hq, h1, h2, h3⟩
  · refine Or.inl ⟨h1, fun q hq h4 => ?_⟩
    by_cases e : q = k
    · subst e; exact h
    · exact h2 q hq (by omega)
  · exact Or.inr ⟨q, hq, h1, by omega, h3⟩
theorem AtK.end' {ws : List Wt} {t a : Int} (h : AtK ws t ws.length a) (hn : (ws.map (·.thr)).Nodup) : (a = -1 ∧ tF ws t = none) ∨ (∃ q : Nat, q < ws.length ∧ a = (q : Int) ∧ tF ws t = some q) := by
  rcases h with ⟨h1, h2⟩ | ⟨q, hq, h1, h2, h3⟩
  · refine Or.inl ⟨h1, ?_⟩
    cases ht : tF ws t with
    | none => rfl
    | some j =>
      obtain ⟨hl, hp⟩ := idxF_get ht
      have e : j - 0 = j := Nat.sub_zero j
      simp only [e] at hl hp
      exact absurd (of_decide_eq_true hp) (h2 j hl hl)
  · refine Or.inr ⟨q, hq, h1, ?_⟩
    rw [← h3]
    exact tF_at_idx hn hq
end Go.Vx
namespace Go.Proofs.Ytdpgdjpphnbfnaa
open Go.ChangeShapes Go.WideShapes Go.ChangeAt Go.RowKit
open Go.Vx
set_option linter.unusedVariables false
variable {W w w2 w3 : World} {xb : Nat} {vl vw v' : Value} {ll mm ll' : List Int} {s s2 : Bs}

def OrU (W : World) (vl vw : Value) : Nat → Prop := fun k => k < W.heap.size ∨ vl.ownBlock = some k ∨ vw.ownBlock = some k
/-- The law under way: the bus, its two lists. -/
structure OrI (W : World) (xb : Nat) (vl vw : Value) (ll mm : List Int) (s : Bs) (w : World) : Prop where
  x : XbX (OrU W vl vw) w xb s
  l : OwnL inL w W.heap.size 3 vl ll
  m : OwnL inL w W.heap.size 3 vw mm
  ne : ∀ k, vl.ownBlock = some k → vw.ownBlock ≠ some k
  be : Below W.heap.size W w
theorem OrI.quiet (h : OrI W xb vl vw ll mm s w) (ho : Only (fun _ => False) w w2) : OrI W xb vl vw ll mm s w2 :=
  ⟨h.x.quiet ho, h.l.kept ho (fun _ _ h => h), h.m.kept ho (fun _ _ h => h), h.ne, h.be.trans (ho.below h.be.size (fun _ _ h => h))⟩
theorem OrI.bus (h : OrI W xb vl vw ll mm s w) (hx : XbX (OrU W vl vw) w2 xb s2) (ho : Only (fun k => ¬ OrU W vl vw k) w w2) : OrI W xb vl vw ll mm s2 w2 :=
  ⟨hx, h.l.kept ho (fun k hk h9 => h9 (Or.inr (Or.inl hk))), h.m.kept ho (fun k hk h9 => h9 (Or.inr (Or.inr hk))), h.ne, h.be.trans (ho.below h.be.size (fun k hk h9 => h9 (Or.inl hk)))⟩
theorem OrI.putL (h : OrI W xb vl vw ll mm s w) (hv : OwnL inL w2 W.heap.size 3 v' ll') (ho : Only (fun k => vl.ownBlock = some k) w w2) (hl : ∀ k, v'.ownBlock = some k → vl.ownBlock = some k ∨ w.heap.size ≤ k) : OrI W xb v' vw ll' mm s w2 := by
  refine ⟨h.x.step ho (fun k _ hk => Or.inr (Or.inl hk)) (fun k hk => ?_), hv, h.m.kept ho (fun k hk h9 => h.ne k h9 hk), fun k hk h9 => ?_, h.be.trans (ho.below h.be.size (fun k hk h9 => by have := (own_lt h.l h9).1; omega))⟩
  · rcases hk with hk | hk | hk
    · exact Or.inl (Or.inl hk)
    · rcases hl k hk with h1 | h1
      · exact Or.inl (Or.inr (Or.inl h1))
      · exact Or.inr ⟨h1, (own_lt hv hk).2⟩
    · exact Or.inl (Or.inr (Or.inr hk))
  · rcases hl k hk with h1 | h1
    · exact h.ne k h1 h9
    · have := (own_lt h.m h9).2
      omega
theorem OrI.putM (h : OrI W xb vl vw ll mm s w) (hv : OwnL inL w2 W.heap.size 3 v' ll') (ho : Only (fun k => vw.ownBlock = some k) w w2) (hl : ∀ k, v'.ownBlock = some k → vw.ownBlock = some k ∨ w.heap.size ≤ k) : OrI W xb vl v' ll ll' s w2 := by
  refine ⟨h.x.step ho (fun k _ hk => Or.inr (Or.inr hk)) (fun k hk => ?_), h.l.kept ho (fun k hk h9 => h.ne k hk h9), hv, fun k hk h9 => ?_, h.be.trans (ho.below h.be.size (fun k hk h9 => by have := (own_lt h.m h9).1; omega))⟩
  · rcases hk with hk | hk | hk
    · exact Or.inl (Or.inl hk)
    · exact Or.inl (Or.inr (Or.inl hk))
    · rcases hl k hk with h1 | h1
      · exact Or.inl (Or.inr (Or.inr h1))
      · exact Or.inr ⟨h1, (own_lt hv hk).2⟩
  · rcases hl k h9 with h1 | h1
    · exact h.ne k hk h1
    · have := (own_lt h.l hk).2
      omega
/-- A call of the bus, with a block for what comes of it. -/
theorem OrI.call {f : FuncId} {args : Array Value} {v : Value} (h : OrI W xb vl vw ll mm s w) (hc : ∀ U w1, XbX U w1 xb s → Calls Try.prog f args w1 fun e w' => e = .returned v ∧ XbX U w' xb s2 ∧ Only (fun k => ¬ U k) w1 w') {w1 : World} {ob : Nat} (hw1 : w1 = w.alloc (.cells oc0A 37)) (hob : ob = w.heap.size) :
    Calls Try.prog f args w1 fun e w' => e = .returned v ∧ (Z11 w' ob ∧ w'.heap[ob]? = some (.cells oc0A 37 (0, 0))) ∧ Hid (∀ w7, Only (fun k => k = ob) w' w7 → OrI W xb vl vw ll mm s2 w7) := by
  have ho1 : Only (fun _ => False) w w1 := by rw [hw1]; exact (Only.refl _ w).alloc _
  have hz1 : w1.heap[ob]? = some (.cells oc0A 37 (0, 0)) := by rw [hw1, hob]; exact heap_alloc_last w _
  have hh := lt_of_some hz1
  refine (hc _ w1 (up_in (xb_steps xb s) h.x ho1)).mono ?_
  rintro e w' ⟨rfl, hx, ho⟩
  refine ⟨rfl, ⟨z11_of (up_keep ho hz1 (by omega)), up_keep ho hz1 (by omega)⟩, fun w7 h7 => ?_⟩
  obtain ⟨a, b⟩ := up_out (xb_steps xb s2) hx ho1 ho (by omega) hh h7
  exact h.bus a b
theorem OrI.callP {f : FuncId} {args : Array Value} {v : Value} (h : OrI W xb vl vw ll mm s w) (hc : ∀ U w1, XbX U w1 xb s → Calls Try.prog f args w1 fun e w' => e = .returned v ∧ XbX U w' xb s2 ∧ Only (fun k => ¬ U k) w1 w') :
    Calls Try.prog f args w fun e w' => e = .returned v ∧ Hid (OrI W xb vl vw ll mm s2 w') := by
  refine (hc _ w h.x).mono ?_
  rintro e w' ⟨rfl, hx, ho⟩
  exact ⟨rfl, h.bus hx ho⟩
theorem own_lower {α : Type} {L : Lay α} {base base2 : Nat} {e : TypeId} {v : Value} {xs : List α} (h : OwnL L w base e v xs) (hb : base2 ≤ base) : OwnL L w base2 e v xs :=
  ⟨h.1, h.2.imp (fun h => h) (fun ⟨g, cap, cur, a, b, c⟩ => ⟨g, cap, cur, a, Nat.le_trans hb b, c⟩)⟩
theorem in_from (g M cb i : Nat) (hi : i < M) (hc : M ≤ cb) : ∃ q : Option Addr, (∀ wv, (Instr.slice 51 (.slice (some ⟨g, 0, none⟩) M cb) (some (.int .i64 ((i : Int) + 1))) none none).run Try.prog wv = .ok (.slice q (M - (i + 1)) (cb - (i + 1))) wv) ∧ (i + 1 < M → q = some ⟨g, i + 1, none⟩) := by
  have ht : Try.prog.underlying 51 = some (.slice (Try.prog.elem 51)) := by kernel_rfl
  have hsz : ∀ wv, (sizeOf (Try.prog.elem 51)).run Try.prog wv = .ok 1 wv := by
    have he : Try.prog.elem 51 = 3 := by kernel_rfl
    rw [he]
    obtain ⟨k, z, h1, _, h2, _⟩ := inKi.hi
    intro wv
    have h3 : k.size = 1 := h2
    simp [sizeOf, typeInfo, h1, h3]
  by_cases hq : cb = i + 1
  · refine ⟨some ⟨g, 0, none⟩, fun wv => ?_, fun h => by omega⟩
    rw [run_slice_l wv 51 (some ⟨g, 0, none⟩) M cb ht .i64 ((i : Int) + 1) (by omega) (by omega), hsz]
    have e : ((i : Int) + 1).toNat = i + 1 := by omega
    rw [e, hq]
    simp [sliced, Result.andThen]
  · refine ⟨some ⟨g, i + 1, none⟩, fun wv => ?_, fun h => rfl⟩
    rw [run_slice_l wv 51 (some ⟨g, 0, none⟩) M cb ht .i64 ((i : Int) + 1) (by omega) (by omega), hsz]
    have e : ((i : Int) + 1).toNat = i + 1 := by omega
    rw [e]
    simp [sliced, Result.andThen, hq, addr_add]
set_option maxRecDepth 100000 in
set_option maxHeartbeats 2000000 in
theorem cutk_ok {base : Nat} (h : OwnL inL w base 3 vl ll) (i : Nat) (hil : i < ll.length) (hn : ll.length ≤ 1000000) : Calls Try.prog 14 #[vl, .int .i64 (i : Int)] w fun e w' => ∃ v, e = .returned v ∧ OwnL inL w' w.heap.size 3 v (cuI ll i) ∧ Only (fun _ => False) w w' := by
  obtain ⟨pb0, cb, hvb, hcb, _, hbg⟩ := h.form
  obtain ⟨g, rfl, _⟩ := hbg (by omega)
  subst hvb
  have HH := Vx.hid h
  obtain ⟨M, hM⟩ : ∃ M, M = ll.length := ⟨_, rfl⟩
  have HM := Vx.hid hM
  rw [← hM] at hcb hil hn ⊢
  have hs1 : 0 ≤ (i : Int) ∧ (i : Int) ≤ (cb : Int) := by omega
  have hwi : IntKind.i64.wrap ((i : Int) + 1) = (i : Int) + 1 := by rw [IntKind.wrap_i64]; omega
  obtain ⟨q2, hsl, hq2⟩ := in_from g M cb i hil hcb
  have HQ2 := Vx.hid hq2
  have hT1 : i = (ll.take i).length := by rw [List.length_take]; have := HM.out; omega
  have hT2 : M - (i + 1) = (ll.drop (i + 1)).length := by rw [List.length_drop, HM.out]
  have HT1 := Vx.hid hT1
  have HT2 := Vx.hid hT2
  have hS1 : 0 < (ll.take i).length → ∃ ad, (some ⟨g, 0, none⟩ : Option Addr) = some ad ∧ ∀ j u, (fl inL (ll.take i))[j]? = some u → w.cell? (ad.add j) = some u := fun _ => ⟨_, rfl, fun j u hj => by
    have := HH.out.part 0 i j u (by rw [List.drop_zero]; exact hj)
    rw [Nat.zero_mul] at this
    exact this⟩
  have HS1 := Vx.hid hS1
  have hSl : ([] : List Int).length + (ll.take i).length ≤ 10000000 := by rw [← hT1]; simp; omega
  have HSL := Vx.hid hSl
  clear hq2 hT1 hT2 hS1 hSl h hbg hM
  go_enter Try.func14, Try.ntmps14
  go_upto_region 3 with (at_builtin; refine wpList_append_many inKi _ rfl _ _ rfl w.heap.size (.slice none 0 0) [] rfl (OwnL.nil _ _ _ _) (some ⟨g, 0, none⟩) cb i (ll.take i) rfl HT1.out HS1.out HSL.out (Nat.le_refl _) ?_; intro v1 w4 hv1 hv2 hv3; obtain ⟨p1, c1', hv', _⟩ := hv1.form; obtain ⟨n1, hn1⟩ : ∃ m, m = (([] : List Int) ++ ll.take i).length := ⟨_, rfl⟩; rw [← hn1] at hv'; subst hv'; clear hn1)
  have hon : Only (fun _ => False) w w4 := hv2.mono (fun k _ h => by cases h)
  have h1' := HH.out.kept hon (fun _ _ h => h)
  have hS2 : 0 < (ll.drop (i + 1)).length → ∃ ad, q2 = some ad ∧ ∀ j u, (fl inL (ll.drop (i + 1)))[j]? = some u → w4.cell? (ad.add j) = some u := fun h0 => ⟨_, HQ2.out (by have := HT2.out; omega), fun j u hj => by
    have := h1'.part (i + 1) (ll.drop (i + 1)).length j u (by rw [List.take_length]; exact hj)
    have e : inL.sz = 1 := rfl
    rw [e, Nat.mul_one] at this
    exact this⟩
  have hSl2 : (([] : List Int) ++ ll.take i).length + (ll.drop (i + 1)).length ≤ 10000000 := by
    rw [List.nil_append, ← HT1.out, ← HT2.out]; omega
  have HS2 := Vx.hid hS2
  have HSL2 := Vx.hid hSl2
  have HV1 := Vx.hid (⟨hv1, hon⟩ : _ ∧ _)
  have HBS : Hid (w.heap.size ≤ w4.heap.size) := hon.size
  clear hv1 hv2 hv3 hon h1' hS2 hSl2 HS1 HSL
  go_wp2_with (at_builtin; refine wpList_append_many inKi _ rfl _ _ rfl w.heap.size (.slice p1 n1 c1') _ rfl HV1.out.1 q2 (cb - (i + 1)) (M - (i + 1)) (ll.drop (i + 1)) rfl HT2.out HS2.out HSL2.out HBS.out ?_; intro v2 w5 hv1 hv2 hv3; have HF := Vx.hid (⟨hv1, OwnL.push HV1.out.1 HV1.out.2 hv1 hv2⟩ : _ ∧ _); obtain ⟨p2, c2', hv', _⟩ := hv1.form; obtain ⟨n2, hn2⟩ : ∃ m, m = ((([] : List Int) ++ ll.take i) ++ ll.drop (i + 1)).length := ⟨_, rfl⟩; rw [← hn2] at hv'; subst hv'; clear hn2 hv1 hv2 hv3)
  all_goals
    go_ret
    exact ⟨_, rfl, HF.out.1, HF.out.2⟩
end Go.Proofs.Ytdpgdjpphnbfnaa

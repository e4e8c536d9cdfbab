import Derived.Test.YtgncabcnefhkiaaCs41
import Derived.Test.YtgncabcnefhkiaaCs42
import Derived.Test.YtgncabcnefhkiaaCs43
/- SchedScripts: the calls of both schedulers, told by states; between the steps. -/
namespace Go.Proofs.Ytgncabcnefhkiaa
open Go.ChangeShapes Go.WideShapes Go.ChangeAt Go.RowKit
open Go.Vx
set_option linter.unusedVariables false
variable {U : Nat → Prop} {w w' : World} {xb sb : Nat} {ts : List (Int × Int)} {s : SS}

def sReady (s : SS) (N : Int) : SS := ⟨s.t, s.lf, if readyE s.es N = 0 then lastL s.es s.ck N else s.es, if readyE s.es N = 0 then s.ck + 1 else s.ck⟩
def sYield (s : SS) (N : Int) : SS := ⟨s.t, s.lf, if yieldE s.es N = 0 then lastL s.es s.ck N else s.es, if yieldE s.es N = 0 then s.ck + 1 else s.ck⟩
def sBlock (s : SS) (N : Int) : SS := ⟨s.t, s.lf, if yieldE s.es N = 0 then blockL s.es N else s.es, s.ck⟩
def sPrio (s : SS) (N p : Int) : SS := ⟨s.t, s.lf, if prioE s.es N p = 0 then prioL s.es s.ck N p else s.es, if prioE s.es N p = 0 then prioC s.es s.ck N else s.ck⟩
def sAdd (s : SS) (n d p : Int) : SS := ⟨s.t, s.lf, addSL s.es n d p, s.ck⟩
def sRem (s : SS) (n : Int) : SS := ⟨s.t, s.lf, remSL s.es n, s.ck⟩
def sNext (ts : List (Int × Int)) (s : SS) : SS := ⟨turnT ts s.t s.lf, turnL ts s.t s.lf, (nextI s.es s.ck (turnD ts s.t s.lf)).1, (nextI s.es s.ck (turnD ts s.t s.lf)).2.1⟩
def rNext (ts : List (Int × Int)) (s : SS) : Int := (nextI s.es s.ck (turnD ts s.t s.lf)).2.2
/-- No longer by more than one. -/
def Sm (a b : SS) : Prop := b.es.length ≤ a.es.length + 1 ∧ b.ck ≤ a.ck + 1
theorem lastL_len (es : List Et) (ck : Nat) (N : Int) : (lastL es ck N).length = es.length := by unfold lastL; split <;> simp
theorem blockL_len (es : List Et) (N : Int) : (blockL es N).length = es.length := by unfold blockL; split <;> simp
theorem prioL_len (es : List Et) (ck : Nat) (N p : Int) : (prioL es ck N p).length = es.length := by unfold prioL; split <;> simp
theorem sm_ready (s : SS) (N : Int) : Sm s (sReady s N) := by
  unfold Sm sReady
  constructor
  · show (if _ then _ else _ : List Et).length ≤ _
    split
    · rw [lastL_len]; omega
    · omega
  · show (if _ then _ else _) ≤ _
    split
    · exact Nat.le_refl _
    · exact Nat.le_succ _
theorem sm_yield (s : SS) (N : Int) : Sm s (sYield s N) := by
  unfold Sm sYield
  constructor
  · show (if _ then _ else _ : List Et).length ≤ _
    split
    · rw [lastL_len]; omega
    · omega
  · show (if _ then _ else _) ≤ _
    split
    · exact Nat.le_refl _
    · exact Nat.le_succ _
theorem sm_block (s : SS) (N : Int) : Sm s (sBlock s N) := by
  unfold Sm sBlock
  constructor
  · show (if _ then _ else _ : List Et).length ≤ _
    split
    · rw [blockL_len]; omega
    · omega
  · show s.ck ≤ _
    omega
theorem sm_prio (s : SS) (N p : Int) : Sm s (sPrio s N p) := by
  unfold Sm sPrio
  constructor
  · show (if _ then _ else _ : List Et).length ≤ _
    split
    · rw [prioL_len]; omega
    · omega
  · show (if _ then _ else _) ≤ _
    split
    · unfold prioC
      split
      · exact Nat.le_succ _
      · split
        · exact Nat.le_refl _
        · exact Nat.le_succ _
    · exact Nat.le_succ _
theorem sm_add (s : SS) (n d p : Int) : Sm s (sAdd s n d p) := by
  unfold Sm sAdd addSL
  constructor
  · show (if _ then _ else _ : List Et).length ≤ _
    split
    · rw [List.length_append, List.length_singleton]; omega
    · omega
  · show s.ck ≤ _
    omega
theorem sm_rem (s : SS) (n : Int) : Sm s (sRem s n) := by
  unfold Sm sRem
  have h : (remSL s.es n).length ≤ s.es.length := by
    unfold remSL
    split
    · exact Nat.le_refl _
    · rw [List.length_append, List.length_take, List.length_drop]; omega
  exact ⟨Nat.le_succ_of_le h, Nat.le_succ _⟩
theorem next_ck (es : List Et) (ck : Nat) (d : Int) : (nextI es ck d).2.1 ≤ ck + 1 := by
  unfold nextI
  split
  · show ck ≤ _; omega
  · split
    · split <;> exact Nat.le_refl _
    · show ck ≤ _; omega
theorem sm_next (ts : List (Int × Int)) (h : SWf s.es s.ck) : Sm s (sNext ts s) ∧ (sNext ts s).es.length = s.es.length := by
  have h1 := (next_hi h (turnD ts s.t s.lf)).2.1
  exact ⟨⟨by show (nextI s.es s.ck _).1.length ≤ _; rw [h1]; omega, next_ck _ _ _⟩, h1⟩
theorem XcS.wf (h : XcS U w xb ts s) : SWf s.es s.ck ∧ TsOk ts s.t s.lf := ⟨XcAt.wf h, XcAt.tsOk h⟩
theorem cReady (h : XcS U w xb ts s) (N : Int) (iN : I64 N) : Calls Try.prog 11 #[.pointer (some ⟨xb, 0, none⟩), .int .i64 N] w fun e w' => e = .returned (.int .i64 (readyE s.es N)) ∧ XcS U w' xb ts (sReady s N) ∧ Only (fun k => ¬ U k) w w' := by
  obtain ⟨G, h⟩ := h
  exact (xready_ok h N iN).mono (fun _ _ h => ⟨h.1, ⟨G, h.2.1⟩, h.2.2⟩)
theorem cYield (h : XcS U w xb ts s) (N : Int) (iN : I64 N) : Calls Try.prog 17 #[.pointer (some ⟨xb, 0, none⟩), .int .i64 N] w fun e w' => e = .returned (.int .i64 (yieldE s.es N)) ∧ XcS U w' xb ts (sYield s N) ∧ Only (fun k => ¬ U k) w w' := by
  obtain ⟨G, h⟩ := h
  exact (xyield_ok h N iN).mono (fun _ _ h => ⟨h.1, ⟨G, h.2.1⟩, h.2.2⟩)
theorem cBlock (h : XcS U w xb ts s) (N : Int) (iN : I64 N) : Calls Try.prog 16 #[.pointer (some ⟨xb, 0, none⟩), .int .i64 N] w fun e w' => e = .returned (.int .i64 (yieldE s.es N)) ∧ XcS U w' xb ts (sBlock s N) ∧ Only (fun k => ¬ U k) w w' := by
  obtain ⟨G, h⟩ := h
  exact (xblock_ok h N iN).mono (fun _ _ h => ⟨h.1, ⟨G, h.2.1⟩, h.2.2⟩)
theorem cPrio (h : XcS U w xb ts s) (N p : Int) (iN : I64 N) : Calls Try.prog 18 #[.pointer (some ⟨xb, 0, none⟩), .int .i64 N, .int .i64 p] w fun e w' => e = .returned (.int .i64 (prioE s.es N p)) ∧ XcS U w' xb ts (sPrio s N p) ∧ Only (fun k => ¬ U k) w w' := by
  obtain ⟨G, h⟩ := h
  exact (xprio_ok h N p iN).mono (fun _ _ h => ⟨h.1, ⟨G, h.2.1⟩, h.2.2⟩)
theorem cAdd (h : XcS U w xb ts s) (hl : s.es.length < 1000000) (N d p : Int) (iN : I64 N) : Calls Try.prog 10 #[.pointer (some ⟨xb, 0, none⟩), .int .i64 N, .int .i64 d, .int .i64 p] w fun e w' => e = .returned (.int .i64 (addSE s.es N d p)) ∧ XcS U w' xb ts (sAdd s N d p) ∧ Only (fun k => ¬ U k) w w' := by
  obtain ⟨G, h⟩ := h
  exact xadd_ok h hl N d p iN
theorem cRem (h : XcS U w xb ts s) (N : Int) (iN : I64 N) : Calls Try.prog 29 #[.pointer (some ⟨xb, 0, none⟩), .int .i64 N] w fun e w' => e = .returned (.int .i64 (remSE s.es N)) ∧ XcS U w' xb ts (sRem s N) ∧ Only (fun k => ¬ U k) w w' := by
  obtain ⟨G, h⟩ := h
  exact (xrem_ok h N iN).mono (fun _ _ h => ⟨h.1, ⟨G, h.2.1⟩, h.2.2⟩)
theorem cNext (h : XcS U w xb ts s) : Calls Try.prog 14 #[.pointer (some ⟨xb, 0, none⟩)] w fun e w' => e = .returned (.int .i64 (rNext ts s)) ∧ XcS U w' xb ts (sNext ts s) ∧ Only (fun k => ¬ U k) w w' := by
  obtain ⟨G, h⟩ := h
  exact (xnext_ok h).mono (fun _ _ h => ⟨h.1, ⟨G, h.2.1⟩, h.2.2⟩)
theorem cTurn (h : XcS U w xb ts s) : Calls Try.prog 37 #[.pointer (some ⟨xb, 0, none⟩)] w fun e w' => e = .returned (.tuple #[.int .i64 (s.t : Int), .int .i64 s.lf]) ∧ Only (fun _ => False) w w' := by
  obtain ⟨G, _, _, mb, D, vt, vq, Q, _, hx⟩ := h
  exact xturn_ok hx
theorem cLook (h : XcS U w xb ts s) (N : Int) (iN : I64 N) : Calls Try.prog 43 #[.pointer (some ⟨xb, 0, none⟩), .int .i64 N] w fun e w' => e = .returned (.tuple #[.int .i64 (lookQ s.es N).1, .int .i64 (lookQ s.es N).2.1, .int .i64 (lookQ s.es N).2.2.1, .int .i64 (lookQ s.es N).2.2.2]) ∧ Only (fun _ => False) w w' := by
  obtain ⟨G, _, _, mb, D, vt, vq, Q, _, hx⟩ := h
  exact xlook_ok hx N iN
/-- What a queue is told to be. -/
def QuL (es : List Et) (d p : Int) (l : List Int) : Prop := (quE d p = 0 ∧ NQ es d p l) ∨ (quE d p = 1 ∧ l = [])
theorem QuL.uniq {es : List Et} {ck : Nat} {d p : Int} {l m : List Int} (h : SWf es ck) (h1 : QuL es d p l) (h2 : QuL es d p m) : l = m := by
  rcases h1 with ⟨a, b⟩ | ⟨a, b⟩ <;> rcases h2 with ⟨c, e⟩ | ⟨c, e⟩
  · exact NQ.uniq h b e
  · rw [a] at c; cases c
  · rw [a] at c; cases c
  · rw [b, e]
theorem QuL.len {es : List Et} {d p : Int} {l : List Int} (h : QuL es d p l) : l.length ≤ es.length := by
  rcases h with ⟨_, b⟩ | ⟨_, b⟩
  · exact b.len
  · rw [b]; exact Nat.zero_le _
theorem cQueue (h : XcS U w xb ts s) (d p : Int) : Calls Try.prog 39 #[.pointer (some ⟨xb, 0, none⟩), .int .i64 d, .int .i64 p] w fun e w' => ∃ v, e = .returned (.tuple #[v, .int .i64 (quE d p)]) ∧ ∃ l, OwnL inL w' w.heap.size 3 v l ∧ QuL s.es d p l ∧ Only (fun _ => False) w w' := by
  obtain ⟨G, h⟩ := h
  refine (xqueue_ok h d p).mono ?_
  rintro e w' ⟨⟨a, rfl⟩ | ⟨a, v, l, rfl, b, c⟩, ho⟩
  · exact ⟨.slice none 0 0, by rw [a], [], OwnL.nil _ _ _ _, Or.inr ⟨a, rfl⟩, ho⟩
  · exact ⟨v, by rw [a], l, b, Or.inl ⟨a, c⟩, ho⟩
theorem dReady (h : SdS U w sb ts s) (hc : s.ck < 1000000000000) (N : Int) : Calls Try.prog 31 #[.pointer (some ⟨sb, 0, none⟩), .int .i64 N] w fun e w' => e = .returned (.int .i64 (readyE s.es N)) ∧ SdS U w' sb ts (sReady s N) ∧ Only (fun k => ¬ U k) w w' := by
  obtain ⟨vt, vl, h⟩ := h
  exact sready_ok h hc N
theorem dYield (h : SdS U w sb ts s) (hc : s.ck < 1000000000000) (N : Int) : Calls Try.prog 33 #[.pointer (some ⟨sb, 0, none⟩), .int .i64 N] w fun e w' => e = .returned (.int .i64 (yieldE s.es N)) ∧ SdS U w' sb ts (sYield s N) ∧ Only (fun k => ¬ U k) w w' := by
  obtain ⟨vt, vl, h⟩ := h
  exact syield_ok h hc N
theorem dBlock (h : SdS U w sb ts s) (N : Int) : Calls Try.prog 32 #[.pointer (some ⟨sb, 0, none⟩), .int .i64 N] w fun e w' => e = .returned (.int .i64 (yieldE s.es N)) ∧ SdS U w' sb ts (sBlock s N) ∧ Only (fun k => ¬ U k) w w' := by
  obtain ⟨vt, vl, h⟩ := h
  exact sblock_ok h N
theorem dPrio (h : SdS U w sb ts s) (hc : s.ck < 1000000000000) (N p : Int) : Calls Try.prog 34 #[.pointer (some ⟨sb, 0, none⟩), .int .i64 N, .int .i64 p] w fun e w' => e = .returned (.int .i64 (prioE s.es N p)) ∧ SdS U w' sb ts (sPrio s N p) ∧ Only (fun k => ¬ U k) w w' := by
  obtain ⟨vt, vl, h⟩ := h
  exact sprio_ok h hc N p
theorem dAdd (h : SdS U w sb ts s) (hl : s.es.length < 1000000) (N d p : Int) : Calls Try.prog 28 #[.pointer (some ⟨sb, 0, none⟩), .int .i64 N, .int .i64 d, .int .i64 p] w fun e w' => e = .returned (.int .i64 (addSE s.es N d p)) ∧ SdS U w' sb ts (sAdd s N d p) ∧ Only (fun k => ¬ U k) w w' := by
  obtain ⟨vt, vl, h⟩ := h
  exact sadd_ok h hl N d p
theorem dRem (h : SdS U w sb ts s) (N : Int) : Calls Try.prog 30 #[.pointer (some ⟨sb, 0, none⟩), .int .i64 N] w fun e w' => e = .returned (.int .i64 (remSE s.es N)) ∧ SdS U w' sb ts (sRem s N) ∧ Only (fun k => ¬ U k) w w' := by
  obtain ⟨vt, vl, h⟩ := h
  exact srem_ok h N
theorem dNext (h : SdS U w sb ts s) (hc : s.ck < 1000000000000) (hw : SWf s.es s.ck ∧ TsOk ts s.t s.lf) : Calls Try.prog 36 #[.pointer (some ⟨sb, 0, none⟩)] w fun e w' => e = .returned (.int .i64 (rNext ts s)) ∧ SdS U w' sb ts (sNext ts s) ∧ Only (fun k => ¬ U k) w w' := by
  obtain ⟨vt, vl, h⟩ := h
  exact snext_ok h hc ⟨hw.2.n1, hw.2.n2⟩ hw.2.tl ⟨hw.2.l0, hw.2.l1⟩ (fun x hx => by have := of_decide_eq_true (hw.2.ok x hx); exact ⟨this.2.2.1, this.2.2.2⟩) (fun e he => by have := hw.1.ok e he; omega)
theorem dTurn (h : SdS U w sb ts s) : Calls Try.prog 38 #[.pointer (some ⟨sb, 0, none⟩)] w fun e w' => e = .returned (.tuple #[.int .i64 (s.t : Int), .int .i64 s.lf]) ∧ Only (fun _ => False) w w' := by
  obtain ⟨vt, vl, h⟩ := h
  exact sturn_ok h
theorem dLook (h : SdS U w sb ts s) (N : Int) : Calls Try.prog 44 #[.pointer (some ⟨sb, 0, none⟩), .int .i64 N] w fun e w' => e = .returned (.tuple #[.int .i64 (lookQ s.es N).1, .int .i64 (lookQ s.es N).2.1, .int .i64 (lookQ s.es N).2.2.1, .int .i64 (lookQ s.es N).2.2.2]) ∧ Only (fun _ => False) w w' := by
  obtain ⟨vt, vl, h⟩ := h
  exact slook_ok h N
theorem dQueue (h : SdS U w sb ts s) (d p : Int) : Calls Try.prog 40 #[.pointer (some ⟨sb, 0, none⟩), .int .i64 d, .int .i64 p] w fun e w' => ∃ v, e = .returned (.tuple #[v, .int .i64 (quE d p)]) ∧ ∃ l, OwnL inL w' w.heap.size 3 v l ∧ QuL s.es d p l ∧ Only (fun _ => False) w w' := by
  obtain ⟨vt, vl, h⟩ := h
  refine (squeue_ok h d p).mono ?_
  rintro e w' ⟨⟨a, rfl⟩ | ⟨a, v, xs, rfl, b, c⟩, ho⟩
  · exact ⟨.slice none 0 0, by rw [a], [], OwnL.nil _ _ _ _, Or.inr ⟨a, rfl⟩, ho⟩
  · exact ⟨v, by rw [a], _, b, Or.inl ⟨a, xs, c, rfl⟩, ho⟩
variable {W : World} {rb zb bb : Nat} {sz sx sr : SS} {X R Z Bk : Nat → Prop} {cs : Array Value} {V : Nat → Value} {L : Nat → List Sh} {wr wv w2 : World} {F : List (Nat × Obj)}
/-- Between the steps: each book has at most so many lists. -/
def SlR (W : World) (xb rb zb bb : Nat) (ts : List (Int × Int)) (sz : SS) (n : Nat) (w' : World) : Prop := ∃ X R Z B s cs V L, SlC W xb rb zb bb ts sz X R Z B s s cs V L w' ∧ (∀ j, j < 6 → (L j).length ≤ 2 * n) ∧ s.es.length ≤ n ∧ s.ck ≤ 12 * n
theorem SlI.fin {n : Nat} (h : SlI W xb rb zb bb ts sz Z Bk cs V L F s s w2) (hL : ∀ j, j < 6 → (L j).length ≤ 2 * n) (h1 : s.es.length ≤ n) (h2 : s.ck ≤ 12 * n) : SlR W xb rb zb bb ts sz n w2 := by
  obtain ⟨X, R, h, _⟩ := h
  exact ⟨X, R, Z, Bk, s, cs, V, L, h, hL, h1, h2⟩
theorem SlI.wf (h : SlI W xb rb zb bb ts sz Z Bk cs V L F sx sr w2) : SWf sx.es sx.ck ∧ TsOk ts sx.t sx.lf := by
  obtain ⟨X, R, h, _⟩ := h
  exact h.x.wf
theorem SlI.xread {f : FuncId} {args : Array Value} {v : Value} (h : SlI W xb rb zb bb ts sz Z Bk cs V L F sx sr wv) (hc : ∀ U, XcS U wv xb ts sx → Calls Try.prog f args wv fun e w' => e = .returned v ∧ Only (fun _ => False) wv w') :
    Calls Try.prog f args wv fun e w' => e = .returned v ∧ Hid (SlI W xb rb zb bb ts sz Z Bk cs V L F sx sr w') := by
  have h0 := h
  obtain ⟨X, R, h, _⟩ := h
  refine (hc _ h.x).mono ?_
  rintro e w' ⟨rfl, ho⟩
  exact ⟨rfl, h0.quiet ho⟩
theorem SlI.rread {f : FuncId} {args : Array Value} {v : Value} (h : SlI W xb rb zb bb ts sz Z Bk cs V L F sx sr wv) (hc : ∀ U, SdS U wv rb ts sr → Calls Try.prog f args wv fun e w' => e = .returned v ∧ Only (fun _ => False) wv w') :
    Calls Try.prog f args wv fun e w' => e = .returned v ∧ Hid (SlI W xb rb zb bb ts sz Z Bk cs V L F sx sr w') := by
  have h0 := h
  obtain ⟨X, R, h, _⟩ := h
  refine (hc _ h.r).mono ?_
  rintro e w' ⟨rfl, ho⟩
  exact ⟨rfl, h0.quiet ho⟩
theorem own_same {α : Type} {La : Lay α} {w w' : World} {base : Nat} {e : TypeId} {v : Value} {xs : List α} (h : OwnL La w base e v xs) (hk : ∀ k, v.ownBlock = some k → w'.heap[k]? = w.heap[k]?) : OwnL La w' base e v xs := by
  refine ⟨h.1, h.2.imp (fun h => h) (fun ⟨g, cap, cur, a, b, c, d⟩ => ⟨g, cap, cur, a, b, ?_, d⟩)⟩
  rw [hk g (by rw [a]; rfl)]
  exact c
/-- A list that was made since: its block among the step's own. -/
theorem SlI.fresh {α : Type} {La : Lay α} {e : TypeId} {l : Value} {xs : List α} (h : SlI W xb rb zb bb ts sz Z Bk cs V L F sx sr wv) (ho : Only (fun _ => False) wv w2) (hl : OwnL La w2 wv.heap.size e l xs) : ∃ G, SlI W xb rb zb bb ts sz Z Bk cs V L (G ++ F) sx sr w2 ∧ ∀ k, l.ownBlock = some k → ∃ o, (k, o) ∈ G := by
  cases hv : l.ownBlock with
  | none => exact ⟨[], h.quiet ho, fun k hk => by cases hk⟩
  | some g =>
    obtain ⟨hg1, ⟨cur, hg2⟩, _⟩ := hl.blk hv
    exact ⟨[(g, .cells cur e (0, 0))], (h.quiet ho).more hg2 ⟨wv, h, ho, hg1⟩, fun k hk => by injection hk with hk; subst hk; exact ⟨_, List.mem_cons_self⟩⟩
/-- A list of numbers goes into the books. -/
theorem SlI.ownN {base n : Nat} {l : Value} {ms : List Int} (h : SlI W xb rb zb bb ts sz Z Bk cs V L F s s wv) (hl : OwnL inL wv base 3 l ms) (hb0 : base ≤ wv.heap.size) (hF : ∀ k, l.ownBlock = some k → ∃ o, (k, o) ∈ F) (hm : ms.length ≤ 2000000) (hL : ∀ j, j < 6 → (L j).length ≤ 2 * n) (hn : n ≤ 300000) (h1 : s.es.length ≤ n) (h2 : s.ck ≤ 12 * n) :
    Calls Try.prog 42 #[.pointer (some ⟨bb, 0, none⟩), l] wv fun e w' => e = .returned (.tuple #[]) ∧ SlR W xb rb zb bb ts sz (n + 1) w' := by
  obtain ⟨X, R, h, hFF⟩ := h
  have ap : ∀ k, l.ownBlock = some k → k < wv.heap.size ∧ ¬ X k ∧ ¬ R k ∧ ¬ Z k ∧ ¬ Bk k ∧ k ≠ bb ∧ W.heap.size ≤ k := fun k hk => by
    obtain ⟨o, ho⟩ := hF k hk
    obtain ⟨a1, a2⟩ := hFF _ ho
    exact ⟨lt_of_some a1, a2⟩
  refine (ownInts_okQ h.b (by have := hL 0 (by decide); omega) hl hb0 hm (fun k hk => ⟨(ap k hk).2.2.2.2.1, (ap k hk).2.2.2.2.2.1⟩)).mono ?_
  rintro e w' ⟨rfl, cs2, v2, s1, s2, hB, _, hO⟩
  refine ⟨rfl, X, R, Z, _, s, cs2, _, _, h.book hB hO (fun k hk => ?_), fun j hj => ?_, by omega, by omega⟩
  · have := ap k hk
    exact ⟨this.2.2.2.2.2.2, this.1, this.2.1, this.2.2.1, this.2.2.2.1, this.2.2.2.2.2.1⟩
  · by_cases hj0 : j = 0
    · subst hj0
      rw [upd_at]
      have := hL 0 hj
      simp
      omega
    · rw [upd_ne _ _ hj0]
      have := hL j hj
      omega
end Go.Proofs.Ytgncabcnefhkiaa

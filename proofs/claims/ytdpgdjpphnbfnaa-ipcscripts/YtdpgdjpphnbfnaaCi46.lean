import Derived.Test.YtdpgdjpphnbfnaaCi26
import Derived.Test.YtdpgdjpphnbfnaaCi30
import Derived.Test.YtdpgdjpphnbfnaaCi32
import Derived.Test.YtdpgdjpphnbfnaaCi34
import Derived.Test.YtdpgdjpphnbfnaaCi35
import Derived.Test.YtdpgdjpphnbfnaaCi40
import Derived.Test.YtdpgdjpphnbfnaaCi42
import Derived.Test.YtdpgdjpphnbfnaaCi43
import Derived.Test.YtdpgdjpphnbfnaaCi44
import Derived.Test.YtdpgdjpphnbfnaaCi45
/- IpcScripts: sizes; between the steps; messages. -/
namespace Go.Vx
set_option linter.unusedVariables false
/-- No place has the number that the law opens at its end. -/
def Ok7 (s : Bs) : Prop := ∀ p ∈ s.ps, p.num ≠ 777
/-- No longer by more than one. -/
def Sz (s s2 : Bs) : Prop := s2.ps.length ≤ s.ps.length + 1 ∧ s2.ws.length ≤ s.ws.length + 1 ∧ (Ok7 s → Ok7 s2)
theorem Sz.refl (s : Bs) : Sz s s := ⟨Nat.le_succ _, Nat.le_succ _, fun h => h⟩
theorem sz_cut (s : Bs) (i : Nat) : Sz s ⟨s.ps, cuI s.ws i⟩ := ⟨Nat.le_succ _, Nat.le_succ_of_le (by unfold cuI; rw [List.length_append, List.length_take, List.length_drop]; omega), fun h => h⟩
theorem sz_add (s : Bs) (x : Wt) : Sz s ⟨s.ps, s.ws ++ [x]⟩ := ⟨Nat.le_succ _, by rw [List.length_append, List.length_singleton]; exact Nat.le_refl _, fun h => h⟩
theorem sz_setW (s : Bs) (k : Nat) (x : Int) : Sz s (setW s k x) := by
  refine ⟨by unfold setW; rw [List.length_set]; exact Nat.le_succ _, Nat.le_succ _, fun h p hp => ?_⟩
  unfold setW at hp
  obtain ⟨j, hj, rfl⟩ := List.getElem_of_mem hp
  rw [List.length_set] at hj
  rw [List.getElem_set]
  by_cases e : k = j
  · rw [if_pos e]
    show (pAt s k).num ≠ 777
    rw [show pAt s k = s.ps[k]'(by omega) from getD_d (by omega)]
    exact h _ (List.getElem_mem _)
  · rw [if_neg e]
    exact h _ (List.getElem_mem _)
theorem sz_open (s : Bs) (n : Int) (b : Bool) (hn : n ≠ 777) : Sz s (openS s n b) := by
  unfold openS
  split
  · refine ⟨by rw [List.length_append, List.length_singleton]; exact Nat.le_refl _, Nat.le_succ _, fun h p hp => ?_⟩
    rcases List.mem_append.1 hp with hp | hp
    · exact h p hp
    · rw [List.mem_singleton] at hp; rw [hp]; exact hn
  · exact Sz.refl s
theorem sz_send (s : Bs) (n t h : Int) (m : Ms) : Sz s (sendS s n t h m) := by
  unfold sendS
  split
  · exact Sz.refl s
  · split
    · exact Sz.refl s
    · split
      · exact sz_cut s _
      · split
        · exact Sz.refl s
        · exact sz_add s _
theorem sz_get (s : Bs) (n t : Int) (b : Bool) : Sz s (getS s n t b) := by
  unfold getS
  split
  · exact Sz.refl s
  · split
    · exact sz_cut s _
    · split
      · exact Sz.refl s
      · exact sz_add s _
theorem sz_ring (s : Bs) (n b : Int) : Sz s (ringS s n b) := by
  unfold ringS
  split
  · exact Sz.refl s
  · split
    · exact sz_cut s _
    · exact sz_setW s _ _
theorem sz_hear (s : Bs) (n t : Int) (b : Bool) : Sz s (hearS s n t b) := by
  unfold hearS
  split
  · exact Sz.refl s
  · split
    · exact Sz.refl s
    · split
      · exact sz_setW s _ _
      · split
        · exact Sz.refl s
        · exact sz_add s _
theorem sz_canc (s : Bs) (t : Int) : Sz s (cancS s t) := by
  unfold cancS
  split
  · exact Sz.refl s
  · exact sz_cut s _
theorem sz_close (s : Bs) (n : Int) : Sz s (closeS s n) := by
  unfold closeS
  split
  · exact Sz.refl s
  · rename_i i _
    refine ⟨Nat.le_succ_of_le (by unfold cuI; rw [List.length_append, List.length_take, List.length_drop]; omega), Nat.le_succ_of_le (List.length_filter_le _ _), fun h p hp => ?_⟩
    refine h p ?_
    have hp : p ∈ cuI s.ps i := hp
    unfold cuI at hp
    rcases List.mem_append.1 hp with hp | hp
    · exact List.mem_of_mem_take hp
    · exact List.mem_of_mem_drop hp
theorem lineR_len (s : Bs) (n : Int) : (lineR s n).length ≤ s.ws.length := by
  unfold lineR
  split
  · exact Nat.zero_le _
  · unfold lineL
    rw [List.length_map]
    exact List.length_filter_le _ _
end Go.Vx
namespace Go.Proofs.Ytdpgdjpphnbfnaa
open Go.ChangeShapes Go.WideShapes Go.ChangeAt Go.RowKit
open Go.Vx
set_option linter.unusedVariables false
variable {U : Nat → Prop} {w w' : World} {xb sb : Nat} {s : Bs}

theorem near_777 (c : Int) : nearF c 5 ≠ 777 := by
  unfold nearF
  split
  · rename_i h
    intro e
    rw [e] at h
    exact absurd h (by decide)
  · have : pickL c (5 + 2) < 5 + 2 := Nat.mod_lt _ (by decide)
    omega
def msgF (D : Int) : Ms := ⟨D % 4294967296, (D + 1) % 4294967296, D % 4294967296 * 3 % 4294967296, bits .xor .u32 (D % 4294967296) 7, D % 4294967296 / 8, D % 4294967296 % 5⟩
set_option maxHeartbeats 1000000 in
theorem message_ok (D : Int) (w : World) : Calls Try.prog 25 #[.int .i64 D] w fun e w' => e = .returned (msV (msgF D)) ∧ Only (fun _ => False) w w' := by
  go_enter Try.func25, Try.ntmps25
  go_wp2_with fail
  refine bodyPost_ret (v := msV (msgF D)) ?_ rfl ⟨rfl, (Only.refl _ _).alloc _⟩
  simp [results, Try.results25, go_sem, msV, msgF]
variable {W : World} {rb zb bb : Nat} {sz sx sr sx2 : Bs} {X R Z Bk : Nat → Prop} {cs : Array Value} {V : Nat → Value} {L : Nat → List Sh} {wr wv w2 : World} {F : List (Nat × Obj)}
/-- Between the steps: each book has at most so many lists. -/
def IlR (W : World) (xb rb zb bb : Nat) (sz : Bs) (n : Nat) (w' : World) : Prop := ∃ X R Z B s cs V L, IlC W xb rb zb bb sz X R Z B s s cs V L w' ∧ (∀ j, j < 6 → (L j).length ≤ 2 * n) ∧ s.ps.length ≤ n ∧ s.ws.length ≤ n ∧ Ok7 s
theorem IlI.fin {n : Nat} (h : IlI W xb rb zb bb sz Z Bk cs V L F s s w2) (hL : ∀ j, j < 6 → (L j).length ≤ 2 * n) (h1 : s.ps.length ≤ n) (h2 : s.ws.length ≤ n) (h3 : Ok7 s) : IlR W xb rb zb bb sz n w2 := by
  obtain ⟨X, R, h, _⟩ := h
  exact ⟨X, R, Z, Bk, s, cs, V, L, h, hL, h1, h2, h3⟩
theorem IlI.wf (h : IlI W xb rb zb bb sz Z Bk cs V L F sx sr w2) : BWf sx := by
  obtain ⟨X, R, h, _⟩ := h
  exact h.x.1
theorem IlI.xread {f : FuncId} {args : Array Value} {v : Value} (h : IlI W xb rb zb bb sz Z Bk cs V L F sx sr wv) (hc : ∀ U, XbX U wv xb sx → Calls Try.prog f args wv fun e w' => e = .returned v ∧ Only (fun _ => False) wv w') :
    Calls Try.prog f args wv fun e w' => e = .returned v ∧ Hid (IlI W xb rb zb bb sz Z Bk cs V L F sx sr w') := by
  have h0 := h
  obtain ⟨X, R, h, _⟩ := h
  refine (hc _ h.x).mono ?_
  rintro e w' ⟨rfl, ho⟩
  exact ⟨rfl, h0.quiet ho⟩
theorem IlI.rread {f : FuncId} {args : Array Value} {v : Value} (h : IlI W xb rb zb bb sz Z Bk cs V L F sx sr wv) (hc : ∀ U, RbX U wv rb sr → Calls Try.prog f args wv fun e w' => e = .returned v ∧ Only (fun _ => False) wv w') :
    Calls Try.prog f args wv fun e w' => e = .returned v ∧ Hid (IlI W xb rb zb bb sz Z Bk cs V L F sx sr w') := by
  have h0 := h
  obtain ⟨X, R, h, _⟩ := h
  refine (hc _ h.r).mono ?_
  rintro e w' ⟨rfl, ho⟩
  exact ⟨rfl, h0.quiet ho⟩
theorem own_same {α : Type} {La : Lay α} {w w' : World} {base : Nat} {e : TypeId} {v : Value} {xs : List α} (h : OwnL La w base e v xs) (hk : ∀ k, v.ownBlock = some k → w'.heap[k]? = w.heap[k]?) : OwnL La w' base e v xs := by
  refine ⟨h.1, h.2.imp (fun h => h) (fun ⟨g, cap, cur, a, b, c, d⟩ => ⟨g, cap, cur, a, b, ?_, d⟩)⟩
  rw [hk g (by rw [a]; rfl)]
  exact c
/-- A list that was made since: its block among the step's own. -/
theorem IlI.fresh {α : Type} {La : Lay α} {e : TypeId} {l : Value} {xs : List α} (h : IlI W xb rb zb bb sz Z Bk cs V L F sx sr wv) (ho : Only (fun _ => False) wv w2) (hl : OwnL La w2 wv.heap.size e l xs) : ∃ G, IlI W xb rb zb bb sz Z Bk cs V L (G ++ F) sx sr w2 ∧ ∀ k, l.ownBlock = some k → ∃ o, (k, o) ∈ G := by
  cases hv : l.ownBlock with
  | none => exact ⟨[], h.quiet ho, fun k hk => by cases hk⟩
  | some g =>
    obtain ⟨hg1, ⟨cur, hg2⟩, _⟩ := hl.blk hv
    exact ⟨[(g, .cells cur e (0, 0))], (h.quiet ho).more hg2 ⟨wv, h, ho, hg1⟩, fun k hk => by injection hk with hk; subst hk; exact ⟨_, List.mem_cons_self⟩⟩
/-- A list of numbers goes into the books. -/
theorem IlI.ownN {base n : Nat} {l : Value} {ms : List Int} (h : IlI W xb rb zb bb sz Z Bk cs V L F s s wv) (hl : OwnL inL wv base 3 l ms) (hb0 : base ≤ wv.heap.size) (hF : ∀ k, l.ownBlock = some k → ∃ o, (k, o) ∈ F) (hm : ms.length ≤ 2000000) (hL : ∀ j, j < 6 → (L j).length ≤ 2 * n) (hn : n ≤ 300000) (h1 : s.ps.length ≤ n + 1) (h2 : s.ws.length ≤ n + 1) (h3 : Ok7 s) :
    Calls Try.prog 53 #[.pointer (some ⟨bb, 0, none⟩), l] wv fun e w' => e = .returned (.tuple #[]) ∧ IlR W xb rb zb bb sz (n + 1) w' := by
  obtain ⟨X, R, h, hFF⟩ := h
  have ap : ∀ k, l.ownBlock = some k → k < wv.heap.size ∧ ¬ X k ∧ ¬ R k ∧ ¬ Z k ∧ ¬ Bk k ∧ k ≠ bb ∧ W.heap.size ≤ k := fun k hk => by
    obtain ⟨o, ho⟩ := hF k hk
    obtain ⟨a1, a2⟩ := hFF _ ho
    exact ⟨lt_of_some a1, a2⟩
  refine (ownInts_okQ h.b (by have := hL 0 (by decide); omega) hl hb0 hm (fun k hk => ⟨(ap k hk).2.2.2.2.1, (ap k hk).2.2.2.2.2.1⟩)).mono ?_
  rintro e w' ⟨rfl, cs2, v2, s1, s2, hB, _, hO⟩
  refine ⟨rfl, X, R, Z, _, s, cs2, _, _, h.book hB hO (fun k hk => ?_), fun j hj => ?_, h1, h2, h3⟩
  · have := ap k hk
    exact ⟨this.2.2.2.2.2.2, this.1, this.2.1, this.2.2.1, this.2.2.2.1, this.2.2.2.2.2.1⟩
  · by_cases hj0 : j = 0
    · subst hj0
      rw [upd_at]
      have := hL 0 hj
      simp
      omega
    · rw [upd_ne _ _ hj0]
      have := hL j hj
      omega
/-- A call of the program's bus that tells a list of its own. -/
theorem IlC.xcallL {sr : Bs} {l : Value} (h : IlC W xb rb zb bb sz X R Z Bk sx sr cs V L wr) (hx : XbX (fun k => (k < wr.heap.size ∧ ¬ X k) ∨ l.ownBlock = some k) w2 xb sx2) (ho0 : Only (fun k => ¬ (k < wr.heap.size ∧ ¬ X k)) wr w2) :
    IlC W xb rb zb bb sz (fun k => X k ∨ (wr.heap.size ≤ k ∧ k < w2.heap.size ∧ l.ownBlock ≠ some k)) R Z Bk sx2 sr cs V L w2 := by
  have hs := ho0.size
  have hbl := lt_of_some h.b.bl
  have ho : Only X wr w2 := ⟨ho0.os, ho0.tape, ho0.output, ho0.size, fun k hk hn => ho0.block k hk (fun h2 => h2 ⟨hk, hn⟩)⟩
  refine ⟨hx.step (Only.refl (fun _ => False) _) (fun _ _ h => h.elim) (fun k hk => Or.inl ?_), h.r.step ho (fun k hk h1 => ⟨hk, (h.dX k h1).2.2.1⟩) (fun k hk => ?_), h.z.step ho (fun k hk h1 => ⟨hk, (h.dX k h1).2.2.2.1⟩) (fun k hk => ?_), h.b.only ho (fun k hk h1 => (h.dX k h1).2.2.2.2.1 hk) (fun h1 => (h.dX bb h1).2.2.2.2.2 rfl), fun k hk => ?_, fun k hk => ?_, fun k hk => ?_, fun k hk => ?_, h.wb, h.be.trans (ho.below h.be.size (fun k hk h1 => by have := (h.dX k h1).1; omega))⟩
  · by_cases h1 : k < wr.heap.size
    · exact Or.inl ⟨h1, fun h2 => hk.2 (Or.inl h2)⟩
    · right
      exact Classical.byContradiction (fun h2 => hk.2 (Or.inr ⟨by omega, hk.1, h2⟩))
  · by_cases h1 : k < wr.heap.size
    · exact Or.inl ⟨h1, hk.2⟩
    · exact Or.inr ⟨by omega, hk.1⟩
  · by_cases h1 : k < wr.heap.size
    · exact Or.inl ⟨h1, hk.2⟩
    · exact Or.inr ⟨by omega, hk.1⟩
  · rcases hk with hk | hk
    · have := h.dX k hk; exact ⟨this.1, by omega, this.2.2⟩
    · have h1 := h.be.size
      refine ⟨by omega, hk.2.1, fun h2 => ?_, fun h2 => ?_, fun h2 => ?_, fun h2 => ?_⟩
      · have := (h.dR k h2).2.1; omega
      · have := (h.dZ k h2).2.1; omega
      · have := (h.dB k h2).2.1; omega
      · omega
  · have := h.dR k hk; exact ⟨this.1, by omega, this.2.2⟩
  · have := h.dZ k hk; exact ⟨this.1, by omega, this.2.2⟩
  · have := h.dB k hk; exact ⟨this.1, by omega, this.2.2⟩
/-- The list's block is among the step's own. -/
theorem IlI.closeX (h : IlI W xb rb zb bb sz Z Bk cs V L F sx sr wv) (n : Int) (hn : I64 n) :
    Calls Try.prog 49 #[.pointer (some ⟨xb, 0, none⟩), .int .i64 n] wv fun e w' => ∃ v, e = .returned (.tuple #[v, .int .i64 (lineE sx n)]) ∧ ∃ G, Hid (OwnL inL w' wv.heap.size 3 v (lineR sx n) ∧ IlI W xb rb zb bb sz Z Bk cs V L (G ++ F) (closeS sx n) sr w' ∧ ∀ k, v.ownBlock = some k → ∃ o, (k, o) ∈ G) := by
  obtain ⟨X, R, h, hF⟩ := h
  refine (xclose_ok h.x n hn).mono ?_
  rintro e w' ⟨v, rfl, hl, hx, ho⟩
  have hc := h.xcallL hx ho
  refine ⟨v, rfl, ?_⟩
  have key : ∀ p ∈ F, w'.heap[p.1]? = some p.2 ∧ ¬ (X p.1 ∨ (wv.heap.size ≤ p.1 ∧ p.1 < w'.heap.size ∧ v.ownBlock ≠ some p.1)) ∧ ¬ R p.1 ∧ ¬ Z p.1 ∧ ¬ Bk p.1 ∧ p.1 ≠ bb ∧ W.heap.size ≤ p.1 := fun p hp => by
    obtain ⟨a1, a2, a3, a4⟩ := hF p hp
    have hl2 := lt_of_some a1
    exact ⟨Only.keep ho a1 (fun h5 => h5 ⟨hl2, a2⟩), fun h5 => h5.elim a2 (fun h6 => by omega), a3, a4⟩
  cases hv : v.ownBlock with
  | none => exact ⟨[], hl, ⟨_, R, hc, key⟩, fun k hk => by cases hk⟩
  | some g =>
    obtain ⟨hg1, ⟨cur, hg2⟩, _⟩ := hl.blk hv
    have hb := lt_of_some h.b.bl
    have hw := h.be.size
    refine ⟨[(g, .cells cur 3 (0, 0))], hl, ⟨_, R, hc, fun p hp => ?_⟩, fun k hk => by injection hk with hk; subst hk; exact ⟨_, List.mem_cons_self⟩⟩
    rcases List.mem_append.1 hp with hp | hp
    · rw [List.mem_singleton] at hp
      subst hp
      refine ⟨hg2, ?_, fun h1 => ?_, fun h1 => ?_, fun h1 => ?_, ?_, ?_⟩
      · rintro (h1 | h1)
        · have := (h.dX _ h1).2.1; simp only at this; omega
        · exact h1.2.2 hv
      · have := (h.dR _ h1).2.1; simp only at this; omega
      · have := (h.dZ _ h1).2.1; simp only at this; omega
      · have := (h.dB _ h1).2.1; simp only at this; omega
      · show g ≠ bb; omega
      · show W.heap.size ≤ g; omega
    · exact key p hp
/-- The document's, with a list. -/
theorem IlI.closeR (h : IlI W xb rb zb bb sz Z Bk cs V L F sx sr wv) (hnt : (sr.ws.map (·.thr)).Nodup) (n : Int) :
    Calls Try.prog 50 #[.pointer (some ⟨rb, 0, none⟩), .int .i64 n] wv fun e w' => ∃ v, e = .returned (.tuple #[v, .int .i64 (lineE sr n)]) ∧ Hid (OwnL inL w' wv.heap.size 3 v (lineR sr n) ∧ IlI W xb rb zb bb sz Z Bk cs V L F sx (closeS sr n) w') := by
  obtain ⟨X, R, h, hF⟩ := h
  obtain ⟨vp, vw, hr⟩ := h.r
  refine (rclose_ok hr hnt n).mono ?_
  rintro e w' ⟨v, rfl, hl, hr2, ho⟩
  refine ⟨v, rfl, hl, X, _, h.rcall hr2 ho, fun p hp => ?_⟩
  obtain ⟨h1, h2, h3, h4⟩ := hF p hp
  have hl2 := lt_of_some h1
  refine ⟨Only.keep ho h1 (fun h5 => h5 ⟨hl2, h3⟩), h2, fun h5 => ?_, h4⟩
  rcases h5 with h5 | h5
  · exact h3 h5
  · omega
end Go.Proofs.Ytdpgdjpphnbfnaa

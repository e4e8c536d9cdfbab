import Derived.Test.YtgncabcnefhkiaaCs30
import Derived.RangeFuncNested
import Derived.RangeFuncBound
import Derived.RangeFuncCalls
import Derived.RangeFuncLeaves
import Derived.Shelf.Abstract
import Derived.Shelf.RegionOpen
import Derived.WalkKit
import Derived.OwnWalkIn
import Derived.TacticsInMore
import Derived.LoopNIn
import Derived.LoopIn
import Derived.Test.YtgncabcnefhkiaaCs18
import Derived.Test.YtgncabcnefhkiaaCs15
/- Chapter 9, the program's queues: All, gone through. -/
namespace Go.Proofs.Ytgncabcnefhkiaa
open Go.ChangeShapes Go.WideShapes Go.ChangeAt Go.RowKit Go.Shelf
open Go.Vx
set_option linter.unusedVariables false
attribute [local go_sem] Oper.semAt_some

def alV (x : Nat) : Array Value := #[.pointer (some ⟨x, 0, none⟩)]
/-- Some blocks lie as they lay. -/
def Kq (A : Nat → Prop) (W W2 : World) : Prop := ∀ b, A b → W2.heap[b]? = W.heap[b]?
theorem Kq.trans {A : Nat → Prop} {a b c : World} (h : Kq A a b) (k : Kq A b c) : Kq A a c := fun x hx => (k x hx).trans (h x hx)
set_option maxRecDepth 100000 in
set_option maxHeartbeats 2000000 in
theorem all1_in (F : Fence) (n : Nat) (hF : F.fn 59) (hro : F.round = none) (hn : 1 ≤ n) (l Bs qb c g cap : Nat) {α : Type} (G : α → Nat) (xs : List α) (hN : xs.length ≤ 1000000) (p : Option Addr) (hp : 0 < xs.length → p = some ⟨g, 0, none⟩) (A : Nat → Prop) (hA1 : A Bs) (hA2 : A qb) (hA3 : 0 < xs.length → A g) (J Jx : List α → World → Prop)
    (hY : ∀ pre x W, J pre W → pre.length < xs.length → YieldAt F (n - 1) Try.prog l (alV (G x)) W fun e W' => (e = .returned (.bool true) ∧ J (pre ++ [x]) W' ∧ Kq A W W') ∨ (e = .returned (.bool false) ∧ Jx (pre ++ [x]) W'))
    (W : World) (hBs : W.cell? ⟨Bs, 0, none⟩ = some (.pointer (some ⟨qb, c, none⟩))) (hq : W.cell? ⟨qb, c, none⟩ = some (.slice p xs.length cap)) (hc : ∀ (k : Nat) (hk : k < xs.length), W.cell? ⟨g, k, none⟩ = some (.pointer (some ⟨G xs[k], 0, none⟩))) (h0 : J [] W) :
    CallsIn F n Try.prog 59 #[.func (.yield l) #[] #[], .pointer (some ⟨Bs, 0, none⟩)] W fun e W' => (∃ v, e = .returned v) ∧ ((∃ ys, ys = xs ∧ J ys W') ∨ (∃ pre, True ∧ Jx pre W')) := by
  obtain ⟨N, hNN⟩ : ∃ N, N = xs.length := ⟨_, rfl⟩
  have HN := Vx.hid hNN
  rw [← hNN] at hq hN
  have HC := Vx.hid hc
  have HPP := Vx.hid hp
  have HY := Vx.hid hY
  have HA := Vx.hid hA3
  clear hc hp hY hA3 hNN
  refine callsIn_of_wp Try.func59 rfl hF ?_ hro
  simp only [Try.ntmps59, List.size_toArray, List.length_cons, List.length_nil, Nat.reduceAdd, Nat.reduceSub, Array.replicate_succ, Array.replicate_zero, List.push_toArray, List.append_toArray, List.nil_append, List.cons_append]
  gi_wp2
  gi_loopw [4, 10] (fun _ i wr => ∃ k : Nat, k ≤ N ∧ i = .int .i64 (k : Int) ∧ Hid (J (xs.take k) wr) ∧ Hid (Kq A W wr)) (fun _ i _ => N - (RowKit.intOf i).toNat)
  case atStart => exact ⟨0, Nat.zero_le _, rfl, (show J (xs.take 0) W from by rw [List.take_zero]; exact h0), fun _ _ => rfl⟩
  case round =>
    obtain ⟨k, hk, rfl, HJ, HK⟩ := hrel
    by_cases hlt : k < N
    · have hkl : k < xs.length := by have := HN.out; omega
      have h1 : (k : Int) < (N : Int) := by omega
      have hidx : 0 ≤ (k : Int) ∧ (k : Int) < (N : Int) := by omega
      have hwk : IntKind.i64.wrap ((k : Int) + 1) = (k : Int) + 1 := by rw [IntKind.wrap_i64]; omega
      obtain rfl := HPP.out (by omega)
      have b0 : wr.cell? ⟨g, k, none⟩ = some (.pointer (some ⟨G xs[k], 0, none⟩)) := (World.cell?_of_block (w := W) (HK.out g (HA.out (by omega)))).trans (HC.out k hkl)
      have HDR : Hid (xs.take (k + 1) = xs.take k ++ [xs[k]]) := by
        show _ = _
        rw [List.take_succ_eq_append_getElem hkl]
      have HLN : Hid ((xs.take k).length < xs.length) := by
        show _ < _
        rw [List.length_take]
        omega
      generalize xs[k] = x at b0 HDR
      obtain ⟨fn, tmps, assign, body, hy, hR⟩ := HY.out _ x wr HJ.out HLN.out
      unfold alV at hy
      have HRR := Vx.hid hR
      clear hR
      gi_wp2
      refine HRR.out.mono ?_
      rintro e W3 (⟨rfl, hJ3, hk3⟩ | ⟨rfl, hJx3⟩)
      · have HJ3 := Vx.hid hJ3
        have HK3 := Vx.hid (HK.out.trans hk3)
        clear hJ3 hk3
        gi_wp2
        go_roundw
        case rel => exact ⟨k + 1, by omega, by go_num, (show J (xs.take (k + 1)) W3 from by rw [HDR.out]; exact HJ3.out), HK3⟩
        case measure => simp only [RowKit.intOf]; omega
      · gi_wp2
        refine bodyPost_ret (results_none rfl _ _ _) rfl ?_
        exact ⟨⟨_, rfl⟩, .inr ⟨_, by first | exact hJx3 | exact ⟨trivial, hJx3⟩⟩⟩
    · obtain rfl : k = N := by omega
      have h1 : ¬ (k : Int) < (k : Int) := by omega
      gi_wp2
      go_end0
      exact ⟨⟨_, rfl⟩, .inl (by have := HJ.out; rw [HN.out, List.take_length] at this; first | exact this | exact ⟨_, rfl, this⟩)⟩
theorem all_in (F : Fence) (n : Nat) (hF : F.fn 56) (hro : F.round = none) (qb c : Nat) (w : World) : CallsIn F n Try.prog 56 #[.pointer (some ⟨qb, c, none⟩)] w fun e w' => e = .returned (.func (.func 59) #[] #[.pointer (some ⟨w.heap.size, 0, none⟩)]) ∧ w' = w.alloc (.cells #[.pointer (some ⟨qb, c, none⟩)] 100) := by
  refine callsIn_of_wp Try.func56 rfl hF ?_ hro
  simp only [Try.ntmps56, List.size_toArray, List.length_cons, List.length_nil, Nat.reduceAdd, Nat.reduceSub, Array.replicate_succ, Array.replicate_zero, List.push_toArray, List.append_toArray, List.nil_append, List.cons_append]
  gi_wp2
  go_ret
  exact ⟨rfl, rfl⟩
theorem all_stops (F : Fence) (n : Nat) (hF : F.fn 59) (hro : F.round = none) (hn : 1 ≤ n) (Bs qb c g cap : Nat) {α : Type} (G : α → Nat) (xs : List α) (hN : xs.length ≤ 1000000) (p : Option Addr) (hp : 0 < xs.length → p = some ⟨g, 0, none⟩) (A : Nat → Prop) (hA1 : A Bs) (hA2 : A qb) (hA3 : 0 < xs.length → A g) (w : World)
    (hBl : Bs < w.heap.size) (hql : qb < w.heap.size) (hgl : 0 < xs.length → g < w.heap.size) (hBs : w.cell? ⟨Bs, 0, none⟩ = some (.pointer (some ⟨qb, c, none⟩))) (hq : w.cell? ⟨qb, c, none⟩ = some (.slice p xs.length cap)) (hc : ∀ (k : Nat) (hk : k < xs.length), w.cell? ⟨g, k, none⟩ = some (.pointer (some ⟨G xs[k], 0, none⟩))) :
    SeqStopsK F n Try.prog 59 #[.pointer (some ⟨Bs, 0, none⟩)] (fun x => alV (G x)) (Kq A) (fun ys => ys = xs) (fun _ => True) xs.length w := fun l J Jx W hW _ _ hY h0 =>
  all1_in F n hF hro hn l Bs qb c g cap G xs hN p hp A hA1 hA2 hA3 J Jx hY W ((hW.cell (p := ⟨Bs, 0, none⟩) hBl).trans hBs) ((hW.cell (p := ⟨qb, c, none⟩) hql).trans hq) (fun k hk => (hW.cell (p := ⟨g, k, none⟩) (hgl (by omega))).trans (hc k hk)) h0
end Go.Proofs.Ytgncabcnefhkiaa

/- Chapter 9, the document's scheduler: threads in a list of their own, put in order. -/
namespace Go.Proofs.Ytgncabcnefhkiaa
open Go.ChangeShapes Go.WideShapes Go.ChangeAt Go.RowKit
open Go.Vx
set_option linter.unusedVariables false
variable {U V S : Nat → Prop} {w w2 w3 wr : World} {sb : Nat} {vt vl v : Value} {ts : List (Int × Int)} {t : Nat} {lf : Int} {es xs : List Et} {ck : Nat}

/-- A thread laid whole at a place. -/
def put5 (w : World) (g k : Nat) (e : Et) : World := ((((w.setCell ⟨g, k * 5, none⟩ (.int .i64 e.num)).setCell ⟨g, k * 5 + 1, none⟩ (.int .i64 e.dom)).setCell ⟨g, k * 5 + 2, none⟩ (.int .i64 e.prio)).setCell ⟨g, k * 5 + 3, none⟩ (.int .i64 e.left)).setCell ⟨g, k * 5 + 4, none⟩ (.int .i64 e.came)
theorem own_five {base g m c : Nat} {T : TypeId} (h : OwnL etL w base T (.slice (some ⟨g, 0, none⟩) m c) xs) (hm : m = xs.length) (k : Nat) (hk : k < xs.length) (e : Et) :
    OwnL etL (put5 w g k e) base T (.slice (some ⟨g, 0, none⟩) m c) (xs.set k e) ∧ Only (fun b => b = g) w (put5 w g k e) := by
  unfold put5
  obtain ⟨a0, o0⟩ := own_et h hm k hk 0 (by decide) e.num { xs[k] with num := e.num } rfl
  obtain ⟨a1, o1⟩ := own_et a0 (by simpa using hm) k (by simpa using hk) 1 (by decide) e.dom { xs[k] with num := e.num, dom := e.dom } (by rw [List.getElem_set_self]; rfl)
  rw [List.set_set] at a1
  obtain ⟨a2, o2⟩ := own_et a1 (by simpa using hm) k (by simpa using hk) 2 (by decide) e.prio { xs[k] with num := e.num, dom := e.dom, prio := e.prio } (by rw [List.getElem_set_self]; rfl)
  rw [List.set_set] at a2
  obtain ⟨a3, o3⟩ := own_et a2 (by simpa using hm) k (by simpa using hk) 3 (by decide) e.left { xs[k] with num := e.num, dom := e.dom, prio := e.prio, left := e.left } (by rw [List.getElem_set_self]; rfl)
  rw [List.set_set] at a3
  obtain ⟨a4, o4⟩ := own_et a3 (by simpa using hm) k (by simpa using hk) 4 (by decide) e.came e (by rw [List.getElem_set_self]; rfl)
  rw [List.set_set] at a4
  exact ⟨a4, (((o0.trans o1).trans o2).trans o3).trans o4⟩
structure MkE (w1 : World) (v : Value) (ls : List Et) (wr : World) : Prop where
  on : Only (fun _ => False) w1 wr
  own : OwnL etL wr w1.heap.size 104 v ls
theorem MkE.quiet {w1 wx : World} {ls : List Et} (h : MkE w1 v ls wr) (ho : Only (fun _ => False) wr wx) : MkE w1 v ls wx := ⟨h.on.trans ho, h.own.kept ho (fun _ _ h => h)⟩
theorem MkE.push {w1 wx : World} {v' : Value} {ls ls' : List Et} (h : MkE w1 v ls wr) (ho : OwnL etL wx w1.heap.size 104 v' ls') (hon : Only (fun k => v.ownBlock = some k) wr wx) : MkE w1 v' ls' wx :=
  ⟨h.on.beyond hon (fun k hk => (own_lt h.own hk).1), ho⟩
theorem MkE.nil (w1 : World) : MkE w1 (.slice none 0 0) [] w1 := ⟨Only.refl _ _, OwnL.nil _ _ _ _⟩
theorem MkE.swap {g m c q : Nat} (h : MkE w (.slice (some ⟨g, 0, none⟩) m c) xs wr) (hq : q + 1 < xs.length) :
    MkE w (.slice (some ⟨g, 0, none⟩) m c) (swE xs q) (put5 (put5 wr g (q + 1) (xs.getD q .df)) g q (xs.getD (q + 1) .df)) := by
  have hm : m = xs.length := by
    obtain ⟨p', c', hv, _⟩ := h.own.form
    injection hv
  obtain ⟨a1, a2⟩ := own_five h.own hm (q + 1) hq (xs.getD q .df)
  obtain ⟨b1, b2⟩ := own_five a1 (by rw [List.length_set]; exact hm) q (by rw [List.length_set]; omega) (xs.getD (q + 1) .df)
  have hg : w.heap.size ≤ g := (own_lt h.own (k := g) rfl).1
  exact ⟨h.on.beyond (a2.trans b2) (fun k hk => by subst hk; exact hg), b1⟩
/-- Ahead of a round: of the first k threads. -/
def QuS (w : World) (v : Value) (es : List Et) (d p : Int) (k : Nat) (wr : World) : Prop := ∃ xs, MkE w v xs wr ∧ xs.Perm ((es.take k).filter (inQ d p)) ∧ SrQ xs xs.length
/-- While one is brought to its place. -/
def QuK (w : World) (v : Value) (es : List Et) (d p : Int) (k j : Nat) (wr : World) : Prop := ∃ xs, MkE w v xs wr ∧ xs.Perm ((es.take k).filter (inQ d p)) ∧ SrQ xs j ∧ j < xs.length
theorem QuS.quiet {d p : Int} {k : Nat} (h : QuS w v es d p k wr) (ho : Only (fun _ => False) wr w2) : QuS w v es d p k w2 := by
  obtain ⟨xs, h1, h2⟩ := h
  exact ⟨xs, h1.quiet ho, h2⟩
theorem QuK.quiet {d p : Int} {k j : Nat} (h : QuK w v es d p k j wr) (ho : Only (fun _ => False) wr w2) : QuK w v es d p k j w2 := by
  obtain ⟨xs, h1, h2⟩ := h
  exact ⟨xs, h1.quiet ho, h2⟩
theorem QuS.skip {d p : Int} {k : Nat} (h : QuS w v es d p k wr) (hk : k < es.length) (hn : inQ d p es[k] = false) : QuS w v es d p (k + 1) wr := by
  obtain ⟨xs, h1, h2, h3⟩ := h
  refine ⟨xs, h1, ?_, h3⟩
  rw [filt_step hk, hn]
  simpa using h2
theorem quS_nil (d p : Int) : QuS w (.slice none 0 0) es d p 0 w := ⟨[], MkE.nil w, by rw [List.take_zero]; exact List.Perm.refl _, fun a b _ hb => by cases hb⟩
theorem quK_push {d p : Int} {k : Nat} {wx : World} {v' : Value} (h1 : MkE w v xs wr) (h2 : xs.Perm ((es.take k).filter (inQ d p))) (h3 : SrQ xs xs.length) (hk : k < es.length) (hn : inQ d p es[k] = true)
    (ho : OwnL etL wx w.heap.size 104 v' (xs ++ [es[k]])) (hon : Only (fun k => v.ownBlock = some k) wr wx) : QuK w v' es d p (k + 1) xs.length wx := by
  refine ⟨xs ++ [es[k]], h1.push ho hon, ?_, h3.app _, by simp⟩
  rw [filt_step hk, if_pos hn]
  exact h2.append_right _
/-- The numbers told, while they are copied. -/
structure QuN (w : World) (vl vo : Value) (xs : List Et) (k : Nat) (wr : World) : Prop where
  l : MkE w vl xs wr
  o : OwnL inL wr w.heap.size 3 vo ((xs.take k).map (·.num))
theorem QuN.quiet {vo : Value} {k : Nat} (h : QuN w v vo xs k wr) (ho : Only (fun _ => False) wr w2) : QuN w v vo xs k w2 := ⟨h.l.quiet ho, h.o.kept ho (fun _ _ h => h)⟩
theorem QuN.push {vo vo' : Value} {k : Nat} {wx : World} (h : QuN w v vo xs k wr) (hk : k < xs.length) (ho : OwnL inL wx w.heap.size 3 vo' ((xs.take k).map (·.num) ++ [xs[k].num])) (hon : Only (fun k => vo.ownBlock = some k) wr wx) : QuN w v vo' xs (k + 1) wx := by
  refine ⟨⟨h.l.on.beyond hon (fun k hk => (own_lt h.o hk).1), h.l.own.kept hon (fun j hj e => ?_)⟩, ?_⟩
  · obtain ⟨c1, hc1⟩ := own_tag h.l.own hj
    obtain ⟨c2, hc2⟩ := own_tag h.o e
    exact tag_ne hc1 hc2 (by decide) rfl
  · rw [List.take_succ_eq_append_getElem hk, List.map_append]
    exact ho
end Go.Proofs.Ytgncabcnefhkiaa

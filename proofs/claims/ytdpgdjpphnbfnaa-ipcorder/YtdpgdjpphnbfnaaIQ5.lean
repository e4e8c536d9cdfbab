/- Chapter 10, the program's lines: All, gone through. -/
import Derived.Test.YtdpgdjpphnbfnaaIQ4
import Derived.Test.YtdpgdjpphnbfnaaQH
import Derived.RangeFuncNested
import Derived.RangeFuncBound
import Derived.RangeFuncCalls
import Derived.RangeFuncLeaves
import Derived.Shelf.Abstract
import Derived.Shelf.RegionOpen
import Derived.WalkKit
import Derived.OwnWalkIn
import Derived.TacticsInMore
import Derived.LoopNIn
import Derived.LoopIn
namespace Go.Proofs.Ytdpgdjpphnbfnaa
open Go.ChangeShapes Go.WideShapes Go.ChangeAt Go.RowKit Go.Shelf
open Go.Vx
set_option linter.unusedVariables false
attribute [local go_sem] Oper.semAt_some

set_option maxRecDepth 100000 in
set_option maxHeartbeats 2000000 in
theorem iall1_in (F : Fence) (n : Nat) (hF : F.fn 54) (hro : F.round = none) (hn : 1 ≤ n) (l Bs qb c g cap : Nat) {α : Type} (G : α → Nat) (xs : List α) (hN : xs.length ≤ 1000000) (p : Option Addr) (hp : 0 < xs.length → p = some ⟨g, 0, none⟩) (A : Nat → Prop) (hA1 : A Bs) (hA2 : A qb) (hA3 : 0 < xs.length → A g) (J Jx : List α → World → Prop)
    (hY : ∀ pre x W, J pre W → pre.length < xs.length → YieldAt F (n - 1) Try.prog l (alV (G x)) W fun e W' => (e = .returned (.bool true) ∧ J (pre ++ [x]) W' ∧ Kq A W W') ∨ (e = .returned (.bool false) ∧ Jx (pre ++ [x]) W'))
    (W : World) (hBs : W.cell? ⟨Bs, 0, none⟩ = some (.pointer (some ⟨qb, c, none⟩))) (hq : W.cell? ⟨qb, c, none⟩ = some (.slice p xs.length cap)) (hc : ∀ (k : Nat) (hk : k < xs.length), W.cell? ⟨g, k, none⟩ = some (.pointer (some ⟨G xs[k], 0, none⟩))) (h0 : J [] W) :
    CallsIn F n Try.prog 54 #[.func (.yield l) #[] #[], .pointer (some ⟨Bs, 0, none⟩)] W fun e W' => (∃ v, e = .returned v) ∧ ((∃ ys, ys = xs ∧ J ys W') ∨ (∃ pre, True ∧ Jx pre W')) := by
  obtain ⟨N, hNN⟩ : ∃ N, N = xs.length := ⟨_, rfl⟩
  have HN := Vx.hid hNN
  rw [← hNN] at hq hN
  have HC := Vx.hid hc
  have HPP := Vx.hid hp
  have HY := Vx.hid hY
  have HA := Vx.hid hA3
  clear hc hp hY hA3 hNN
  refine callsIn_of_wp Try.func54 rfl hF ?_ hro
  simp only [Try.ntmps54, List.size_toArray, List.length_cons, List.length_nil, Nat.reduceAdd, Nat.reduceSub, Array.replicate_succ, Array.replicate_zero, List.push_toArray, List.append_toArray, List.nil_append, List.cons_append]
  gi_wp2
  gi_loopw [4, 10] (fun _ i wr => ∃ k : Nat, k ≤ N ∧ i = .int .i64 (k : Int) ∧ Hid (J (xs.take k) wr) ∧ Hid (Kq A W wr)) (fun _ i _ => N - (RowKit.intOf i).toNat)
  case atStart => exact ⟨0, Nat.zero_le _, rfl, (show J (xs.take 0) W from by rw [List.take_zero]; exact h0), fun _ _ => rfl⟩
  case round =>
    obtain ⟨k, hk, rfl, HJ, HK⟩ := hrel
    by_cases hlt : k < N
    · have hkl : k < xs.length := by have := HN.out; omega
      have h1 : (k : Int) < (N : Int) := by omega
      have hidx : 0 ≤ (k : Int) ∧ (k : Int) < (N : Int) := by omega
      have hwk : IntKind.i64.wrap ((k : Int) + 1) = (k : Int) + 1 := by rw [IntKind.wrap_i64]; omega
      obtain rfl := HPP.out (by omega)
      have b0 : wr.cell? ⟨g, k, none⟩ = some (.pointer (some ⟨G xs[k], 0, none⟩)) := (World.cell?_of_block (w := W) (HK.out g (HA.out (by omega)))).trans (HC.out k hkl)
      have HDR : Hid (xs.take (k + 1) = xs.take k ++ [xs[k]]) := by
        show _ = _
        rw [List.take_succ_eq_append_getElem hkl]
      have HLN : Hid ((xs.take k).length < xs.length) := by
        show _ < _
        rw [List.length_take]
        omega
      generalize xs[k] = x at b0 HDR
      obtain ⟨fn, tmps, assign, body, hy, hR⟩ := HY.out _ x wr HJ.out HLN.out
      unfold alV at hy
      have HRR := Vx.hid hR
      clear hR
      gi_wp2
      refine HRR.out.mono ?_
      rintro e W3 (⟨rfl, hJ3, hk3⟩ | ⟨rfl, hJx3⟩)
      · have HJ3 := Vx.hid hJ3
        have HK3 := Vx.hid (HK.out.trans hk3)
        clear hJ3 hk3
        gi_wp2
        go_roundw
        case rel => exact ⟨k + 1, by omega, by go_num, (show J (xs.take (k + 1)) W3 from by rw [HDR.out]; exact HJ3.out), HK3⟩
        case measure => simp only [RowKit.intOf]; omega
      · gi_wp2
        refine bodyPost_ret (results_none rfl _ _ _) rfl ?_
        exact ⟨⟨_, rfl⟩, .inr ⟨_, by first | exact hJx3 | exact ⟨trivial, hJx3⟩⟩⟩
    · obtain rfl : k = N := by omega
      have h1 : ¬ (k : Int) < (k : Int) := by omega
      gi_wp2
      go_end0
      exact ⟨⟨_, rfl⟩, .inl (by have := HJ.out; rw [HN.out, List.take_length] at this; first | exact this | exact ⟨_, rfl, this⟩)⟩
theorem iall_in (F : Fence) (n : Nat) (hF : F.fn 36) (hro : F.round = none) (qb c : Nat) (w : World) : CallsIn F n Try.prog 36 #[.pointer (some ⟨qb, c, none⟩)] w fun e w' => e = .returned (.func (.func 54) #[] #[.pointer (some ⟨w.heap.size, 0, none⟩)]) ∧ w' = w.alloc (.cells #[.pointer (some ⟨qb, c, none⟩)] 103) := by
  refine callsIn_of_wp Try.func36 rfl hF ?_ hro
  simp only [Try.ntmps36, List.size_toArray, List.length_cons, List.length_nil, Nat.reduceAdd, Nat.reduceSub, Array.replicate_succ, Array.replicate_zero, List.push_toArray, List.append_toArray, List.nil_append, List.cons_append]
  gi_wp2
  go_ret
  exact ⟨rfl, rfl⟩
theorem iall_stops (F : Fence) (n : Nat) (hF : F.fn 54) (hro : F.round = none) (hn : 1 ≤ n) (Bs qb c g cap : Nat) {α : Type} (G : α → Nat) (xs : List α) (hN : xs.length ≤ 1000000) (p : Option Addr) (hp : 0 < xs.length → p = some ⟨g, 0, none⟩) (A : Nat → Prop) (hA1 : A Bs) (hA2 : A qb) (hA3 : 0 < xs.length → A g) (w : World)
    (hBl : Bs < w.heap.size) (hql : qb < w.heap.size) (hgl : 0 < xs.length → g < w.heap.size) (hBs : w.cell? ⟨Bs, 0, none⟩ = some (.pointer (some ⟨qb, c, none⟩))) (hq : w.cell? ⟨qb, c, none⟩ = some (.slice p xs.length cap)) (hc : ∀ (k : Nat) (hk : k < xs.length), w.cell? ⟨g, k, none⟩ = some (.pointer (some ⟨G xs[k], 0, none⟩))) :
    SeqStopsK F n Try.prog 54 #[.pointer (some ⟨Bs, 0, none⟩)] (fun x => alV (G x)) (Kq A) (fun ys => ys = xs) (fun _ => True) xs.length w := fun l J Jx W hW _ _ hY h0 =>
  iall1_in F n hF hro hn l Bs qb c g cap G xs hN p hp A hA1 hA2 hA3 J Jx hY W ((hW.cell (p := ⟨Bs, 0, none⟩) hBl).trans hBs) ((hW.cell (p := ⟨qb, c, none⟩) hql).trans hq) (fun k hk => (hW.cell (p := ⟨g, k, none⟩) (hgl (by omega))).trans (hc k hk)) h0
end Go.Proofs.Ytdpgdjpphnbfnaa

import Derived.Test.YtfgdlbclmihghaaDoorCk40
import Derived.RangeFuncNested
import Derived.RangeFuncBound
import Derived.RangeFuncCalls
import Derived.RangeFuncLeaves
import Derived.Shelf.Abstract
import Derived.Shelf.RegionOpen
import Derived.WalkKit
import Derived.OwnWalkIn
import Derived.TacticsInMore
import Derived.LoopNIn
import Derived.LoopIn
/- Chapter 7, the program's comers: slices.Backward. -/
namespace Go.Proofs.YtfgdlbclmihghaaDoor
open Go.ChangeShapes Go.WideShapes Go.ChangeAt Go.RowKit Go.Shelf
open Go.Vx
set_option linter.unusedVariables false
attribute [local go_sem] Oper.semAt_some

/-- What a round is handed: a place in the list, and what stands there. -/
abbrev BkE := Int × { e : En // SlI e.from' }
def bkV (x : BkE) : Array Value := #[.int .i64 x.1, .agg #[.int .i64 x.2.1.at'.1, .int .i64 x.2.1.at'.2, .int .i64 x.2.1.cap.kind, .int .i64 x.2.1.cap.num, .int .i64 x.2.1.cap.rights, .int .u32 x.2.1.cap.badge, .int .u32 x.2.1.cap.guard, .int .i64 x.2.1.cap.gbits, .int .i64 x.2.1.cap.root, .int .u32 x.2.1.cap.va, .int .i64 x.2.1.from'.1, .int .i64 x.2.1.from'.2]]
/-- Some blocks lie as they lay. -/
def Kq (A : Nat → Prop) (W W2 : World) : Prop := ∀ b, A b → W2.heap[b]? = W.heap[b]?
theorem Kq.trans {A : Nat → Prop} {a b c : World} (h : Kq A a b) (k : Kq A b c) : Kq A a c := fun x hx => (k x hx).trans (h x hx)
theorem E12.block {w w2 : World} {g k : Nat} {e : En} (h : E12 w g k e) (hb : w2.heap[g]? = w.heap[g]?) : E12 w2 g k e := by
  have hc : ∀ o, w2.cell? ⟨g, o, none⟩ = w.cell? ⟨g, o, none⟩ := fun o => World.cell?_of_block (w := w) hb
  obtain ⟨c0, c1, c2, c3, c4, c5, c6, c7, c8, c9, c10, c11⟩ := h
  exact ⟨(hc _).trans c0, (hc _).trans c1, (hc _).trans c2, (hc _).trans c3, (hc _).trans c4, (hc _).trans c5, (hc _).trans c6, (hc _).trans c7, (hc _).trans c8, (hc _).trans c9, (hc _).trans c10, (hc _).trans c11⟩
set_option maxRecDepth 100000 in
set_option maxHeartbeats 2000000 in
theorem back1_in (F : Fence) (n : Nat) (hF : F.fn 82) (hro : F.round = none) (hn : 1 ≤ n) (l Bs g c : Nat) (xs : List BkE) (hx : ∀ (k : Nat) (hk : k < xs.length), xs[k].1 = (k : Int)) (hN : xs.length ≤ 1000000) (p : Option Addr) (hp : 0 < xs.length → p = some ⟨g, 0, none⟩) (A : Nat → Prop) (hA1 : A Bs) (hA2 : 0 < xs.length → A g) (J Jx : List BkE → World → Prop)
    (hY : ∀ pre x W, J pre W → pre.length < xs.length → YieldAt F (n - 1) Tryd.prog l (bkV x) W fun e W' => (e = .returned (.bool true) ∧ J (pre ++ [x]) W' ∧ Kq A W W') ∨ (e = .returned (.bool false) ∧ Jx (pre ++ [x]) W'))
    (W : World) (hBs : W.cell? ⟨Bs, 0, none⟩ = some (.slice p xs.length c)) (hc : ∀ (k : Nat) (hk : k < xs.length), E12 W g k xs[k].2.1) (h0 : J [] W) :
    CallsIn F n Tryd.prog 82 #[.func (.yield l) #[] #[], .pointer (some ⟨Bs, 0, none⟩)] W fun e W' => (∃ v, e = .returned v) ∧ ((∃ ys, ys = xs.reverse ∧ J ys W') ∨ (∃ pre, True ∧ Jx pre W')) := by
  obtain ⟨N, hNN⟩ : ∃ N, N = xs.length := ⟨_, rfl⟩
  have HN := Vx.hid hNN
  rw [← hNN] at hBs hN
  have hw1 : IntKind.i64.wrap ((N : Int) - 1) = (N : Int) - 1 := by rw [IntKind.wrap_i64]; omega
  have HX := Vx.hid hx
  have HC := Vx.hid hc
  have HPP := Vx.hid hp
  have HY := Vx.hid hY
  have HA := Vx.hid (⟨hA1, hA2⟩ : _ ∧ _)
  clear hx hc hp hY hA1 hA2 hNN
  have HB0 := Vx.hid hBs
  refine callsIn_of_wp Tryd.func82 rfl hF ?_ hro
  simp only [Tryd.ntmps82, List.size_toArray, List.length_cons, List.length_nil, Nat.reduceAdd, Nat.reduceSub, Array.replicate_succ, Array.replicate_zero, List.push_toArray, List.append_toArray, List.nil_append, List.cons_append]
  gi_wp2
  gi_loopw [3] (fun i wr => ∃ k : Nat, k ≤ N ∧ i = .int .i64 ((k : Int) - 1) ∧ Hid (J ((xs.drop k).reverse) wr) ∧ Hid (Kq A W wr)) (fun i _ => (RowKit.intOf i + 1).toNat)
  case atStart => exact ⟨N, Nat.le_refl _, rfl, (show J ((xs.drop N).reverse) W from by rw [HN.out, List.drop_length]; exact h0), fun _ _ => rfl⟩
  case round =>
    obtain ⟨k, hk, rfl, HJ, HK⟩ := hrel
    have hBs2 : wr.cell? ⟨Bs, 0, none⟩ = some (.slice p N c) := (World.cell?_of_block (w := W) (HK.out Bs HA.out.1)).trans HB0.out
    cases k with
    | zero =>
      have h1 : ¬ (0 : Int) ≤ ((0 : Nat) : Int) - 1 := by omega
      gi_wp2
      go_end0
      exact ⟨⟨_, rfl⟩, .inl (by have := HJ.out; rw [List.drop_zero] at this; first | exact this | exact ⟨_, rfl, this⟩)⟩
    | succ m =>
      have hml : m < xs.length := by have := HN.out; omega
      have e1 : ((m + 1 : Nat) : Int) - 1 = (m : Int) := by omega
      rw [e1]
      have h1 : (0 : Int) ≤ (m : Int) := by omega
      have hidx : 0 ≤ (m : Int) ∧ (m : Int) < (N : Int) := by omega
      have hwm : IntKind.i64.wrap ((m : Int) - 1) = (m : Int) - 1 := by rw [IntKind.wrap_i64]; omega
      obtain rfl := HPP.out (by omega)
      have hE := (HC.out m hml).block (HK.out g (HA.out.2 (by omega)))
      have hxm := HX.out m hml
      have HDR : Hid ((xs.drop m).reverse = (xs.drop (m + 1)).reverse ++ [xs[m]]) := by
        show (xs.drop m).reverse = _
        rw [List.drop_eq_getElem_cons hml, List.reverse_cons]
      have HLN : Hid ((xs.drop (m + 1)).reverse.length < xs.length) := by
        show (xs.drop (m + 1)).reverse.length < xs.length
        rw [List.length_reverse, List.length_drop]
        omega
      generalize xs[m] = x at hE hxm HDR
      obtain ⟨fn, tmps, assign, body, hy, hR⟩ := HY.out _ x wr HJ.out HLN.out
      obtain ⟨xi, ⟨⟨⟨a1, a2⟩, ⟨d0, d1, d2, d3, d4, d5, d6, d7⟩, ⟨f1, f2⟩⟩, hf⟩⟩ := x
      dsimp only at hxm
      subst hxm
      obtain ⟨c0, c1, c2, c3, c4, c5, c6, c7, c8, c9, c10, c11⟩ := hE
      dsimp only at c0 c1 c2 c3 c4 c5 c6 c7 c8 c9 c10 c11
      unfold bkV at hy
      dsimp only at hy
      have HRR := Vx.hid hR
      clear hR
      gi_wp2
      refine HRR.out.mono ?_
      rintro e W3 (⟨rfl, hJ3, hk3⟩ | ⟨rfl, hJx3⟩)
      · have HJ3 := Vx.hid hJ3
        have HK3 := Vx.hid (HK.out.trans hk3)
        clear hJ3 hk3
        gi_wp2
        go_roundw
        case rel => exact ⟨m, by omega, rfl, (show J ((xs.drop m).reverse) W3 from by rw [HDR.out]; exact HJ3.out), HK3⟩
        case measure => simp only [RowKit.intOf]; omega
      · gi_wp2
        refine bodyPost_ret (results_none rfl _ _ _) rfl ?_
        exact ⟨⟨_, rfl⟩, .inr ⟨_, by first | exact hJx3 | exact ⟨trivial, hJx3⟩⟩⟩
theorem back_in (F : Fence) (n : Nat) (hF : F.fn 75) (hro : F.round = none) (p : Option Addr) (len cap : Nat) (w : World) : CallsIn F n Tryd.prog 75 #[.slice p len cap] w fun e w' => e = .returned (.func (.func 82) #[] #[.pointer (some ⟨w.heap.size, 0, none⟩)]) ∧ w' = w.alloc (.cells #[.slice p len cap] 28) := by
  refine callsIn_of_wp Tryd.func75 rfl hF ?_ hro
  simp only [Tryd.ntmps75, List.size_toArray, List.length_cons, List.length_nil, Nat.reduceAdd, Nat.reduceSub, Array.replicate_succ, Array.replicate_zero, List.push_toArray, List.append_toArray, List.nil_append, List.cons_append]
  gi_wp2
  go_ret
  exact ⟨rfl, rfl⟩
theorem back_stops (F : Fence) (n : Nat) (hF : F.fn 82) (hro : F.round = none) (hn : 1 ≤ n) (Bs g c : Nat) (xs : List BkE) (hx : ∀ (k : Nat) (hk : k < xs.length), xs[k].1 = (k : Int)) (hN : xs.length ≤ 1000000) (p : Option Addr) (hp : 0 < xs.length → p = some ⟨g, 0, none⟩) (A : Nat → Prop) (hA1 : A Bs) (hA2 : 0 < xs.length → A g) (w : World)
    (hBl : Bs < w.heap.size) (hgl : 0 < xs.length → g < w.heap.size) (hBs : w.cell? ⟨Bs, 0, none⟩ = some (.slice p xs.length c)) (hc : ∀ (k : Nat) (hk : k < xs.length), E12 w g k xs[k].2.1) :
    SeqStopsK F n Tryd.prog 82 #[.pointer (some ⟨Bs, 0, none⟩)] bkV (Kq A) (fun ys => ys = xs.reverse) (fun _ => True) xs.length w := fun l J Jx W hW _ _ hY h0 =>
  back1_in F n hF hro hn l Bs g c xs hx hN p hp A hA1 hA2 J Jx hY W ((hW.cell (p := ⟨Bs, 0, none⟩) hBl).trans hBs) (fun k hk => (hc k hk).block (hW.block g (hgl (by omega)))) h0
end Go.Proofs.YtfgdlbclmihghaaDoor

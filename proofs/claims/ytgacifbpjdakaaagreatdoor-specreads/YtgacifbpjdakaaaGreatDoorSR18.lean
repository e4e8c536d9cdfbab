/- Package spec: Parse (gen_sr18.py). -/
import Derived.Test.YtgacifbpjdakaaaGreatDoorSR16
import Derived.Test.YtgacifbpjdakaaaGreatDoorSR17
namespace Go.Proofs.YtgacifbpjdakaaaGreatDoor
open Go.ChangeShapes Go.WideShapes Go.ChangeAt Go.RowKit
open Go.Vx
set_option linter.unusedVariables false
set_option linter.unusedSimpArgs false
variable {W w w2 : World} {rb : Nat} {V : Rv} {vw : Value} {ws : List (List UInt8)} {T : Tx} {x : List UInt8}

/-- Which line it is at. -/
def lnN (w : World) (rb : Nat) : Nat := match w.cell? ⟨rb, 1, none⟩ with | some (.int _ z) => z.toNat | _ => 0
theorem RdAt.lnN (h : RdAt W w rb V vw ws T) : Go.Proofs.YtgacifbpjdakaaaGreatDoor.lnN w rb = V.ln.toNat := by
  have c1 : w.cell? ⟨rb, 1, none⟩ = some (.int .i64 V.ln) := (cell_of_row _ _ 1 _ _ (0, 0) h.row).trans rfl
  unfold Go.Proofs.YtgacifbpjdakaaaGreatDoor.lnN
  rw [c1]
/-- What Parse tells. -/
structure PaQ (w w' : World) (T : Tx) (B : Nat) (vt vo vc vm vh vi : Value) (mb : Nat) (D : DataW Value) : Prop where
  lt : OwnL slL w' B 76 vt T.tn
  lo : OwnL obL w' B 58 vo T.ob
  lc : OwnL enL w' B 84 vc T.cp
  lm : OwnL mqL w' B 86 vm T.mp
  lh : OwnL thL w' B 91 vh T.th
  li : OwnL irL w' B 93 vi T.ir
  nm : NmAt w' mb D T.nm T.ar
  on : Only (fun _ => False) w w'
  b : w.heap.size ≤ B
  m : w.heap.size ≤ mb
theorem PaQ.set {B : Nat} {vt vo vc vm vh vi : Value} {mb qb : Nat} {D : DataW Value} {w' : World} (h : PaQ w w2 T B vt vo vc vm vh vi mb D) (hq : qb < B ∧ qb < mb ∧ w.heap.size ≤ qb) (ho : Only (fun k => k = qb) w2 w') : PaQ w w' T B vt vo vc vm vh vi mb D :=
  have hne : ∀ {α : Type} {L : Lay α} {e : TypeId} {v : Value} {xs : List α}, OwnL L w2 B e v xs → ∀ k, v.ownBlock = some k → ¬ k = qb := fun hl k hk h9 => by have := (own_lt hl hk).1; omega
  ⟨h.lt.kept ho (hne h.lt), h.lo.kept ho (hne h.lo), h.lc.kept ho (hne h.lc), h.lm.kept ho (hne h.lm), h.lh.kept ho (hne h.lh), h.li.kept ho (hne h.li), h.nm.keep ho (fun h9 => by omega), h.on.newer ho hq.2.2, h.b, h.m⟩
def noTx : Tx := ⟨[], [], [], [], [], [], [], [], []⟩
/-- A line is read. -/
def SayOk (l : List UInt8) (T T' : Tx) : Prop := ∀ (W w : World) (rb : Nat) (V : Rv) (vw : Value), RdAt W w rb V vw (wordsL l) T → V.gb ≤ w.heap.size → Calls Tryz.prog 14 #[.pointer (some ⟨rb, 0, none⟩)] w fun e w' => e = .returned (.tuple #[]) ∧ Hid (RdX W rb V [] T' w')
structure Read (ls : List (List UInt8)) (TF : Nat → Tx) : Prop where
  ne : ls ≠ []
  few : ls.length ≤ 2000
  nl : ∀ l ∈ ls, (10 : UInt8) ∉ l
  asc : ∀ l ∈ ls, ∀ b ∈ l, b.toNat < 128
  size : (joinB ls).length ≤ 20000
  one : ∀ l ∈ ls, l.length ≤ 20000
  t0 : TF 0 = noTx
  say : ∀ k (hk : k < ls.length), SayOk (ls[k]) (TF k) (TF (k + 1))
/-- Between the lines. -/
structure PrI (W wr : World) (rb : Nat) (ls : List (List UInt8)) (TF : Nat → Tx) (k : Nat) (V : Rv) (vw : Value) (ws : List (List UInt8)) : Prop where
  x : RdAt W wr rb V vw ws (TF k)
  ln : V.ln = (k : Int)
  es : V.ls = ls
  le : k ≤ V.ls.length
set_option maxRecDepth 100000 in
set_option maxHeartbeats 4000000 in
theorem parse_ok (ls : List (List UInt8)) (TF : Nat → Tx) (hA : Read ls TF) (mx : Int) (w : World) (hm : w.cell? ⟨0, 0, none⟩ = some (.int .i64 mx)) :
    Calls Tryz.prog 5 #[.string ⟨(joinB ls).toArray⟩] w fun e w' => ∃ B vt vo vc vm vh vi mb D, e = .returned (.tuple #[.agg #[.int .i64 0, vt, .int .u32 1073741822, vo, .slice none 0 0, vc, vm, vh, vi, .map (some mb)], .int .i64 0, .int .i64 0]) ∧ Hid (PaQ w w' (TF ls.length) B vt vo vc vm vh vi mb D) := by
  have hgw : 0 < w.heap.size := World.block_lt_of_cell? _ _ hm
  obtain ⟨W, hW⟩ : ∃ W, W = w.alloc (.cells #[.int .i64 0, .slice none 0 0, .int .u32 0, .slice none 0 0, .slice none 0 0, .slice none 0 0, .slice none 0 0, .slice none 0 0, .slice none 0 0, .map none] 34) := ⟨_, rfl⟩
  obtain ⟨qb, hqb⟩ : ∃ qb, qb = w.heap.size := ⟨_, rfl⟩
  have hoW : Only (fun _ => False) w W := by rw [hW]; exact (Only.refl _ _).alloc _
  have hqW : W.heap[qb]? = some (.cells #[.int .i64 0, .slice none 0 0, .int .u32 0, .slice none 0 0, .slice none 0 0, .slice none 0 0, .slice none 0 0, .slice none 0 0, .slice none 0 0, .map none] 34 (0, 0)) := by rw [hW, hqb]; exact heap_alloc_last w _
  have HMW : Hid (W.cell? ⟨0, 0, none⟩ = some (.int .i64 mx)) := (hoW.cell (p := ⟨0, 0, none⟩) hgw (fun h => h)).trans hm
  have HQW : Hid (W.heap[qb]? = some (.cells #[.int .i64 0, .slice none 0 0, .int .u32 0, .slice none 0 0, .slice none 0 0, .slice none 0 0, .slice none 0 0, .slice none 0 0, .slice none 0 0, .map none] 34 (0, 0)) ∧ Only (fun _ => False) w W ∧ w.heap.size ≤ qb) := ⟨hqW, hoW, by omega⟩
  have HA := Vx.hid hA
  obtain ⟨t, ht⟩ : ∃ t, joinB ls = t := ⟨_, rfl⟩
  have hts : (ByteArray.mk t.toArray).size = t.length := by simp [ByteArray.size]
  have htl : t.length ≤ 20000 := by rw [← ht]; exact hA.size
  obtain ⟨hcb, hsb⟩ := Vx.split_join ls hA.ne hA.nl
  rw [ht] at hcb hsb
  have hl0 : 0 < ls.length := List.length_pos_iff.2 hA.ne
  have hfw := hA.few
  have HCO : Hid (Lib.countByte t 10 = ls.length - 1) := by
    show t.count 10 = _
    rw [← ht]; exact Vx.count_join ls hA.ne hA.nl
  rw [ht]
  obtain ⟨N, hN⟩ : ∃ N, ls.length = N := ⟨_, rfl⟩
  have hN1 : N - 1 + 1 = N := by omega
  have HSP : Hid (∀ wv : World, wv.cell? ⟨0, 0, none⟩ = some (.int .i64 mx) → Calls Tryz.prog 11 #[.string ⟨t.toArray⟩, .string ⟨#[10]⟩] wv fun e w' => e = .returned (.slice (some ⟨wv.heap.size, 0, none⟩) N N) ∧ w' = wv.alloc (.cells ((ls.map (fun l => (⟨l.toArray⟩ : ByteArray))).map Value.string).toArray 9)) := by
    intro wv hv
    have h := Tryz.strings_Split ⟨t.toArray⟩ ⟨#[10]⟩ mx wv (by rw [hts]; omega) hv (by decide)
    rw [hcb, hsb, hN, hN1] at h
    exact h
  have hge : ¬ (2000 : Int) ≤ ((N - 1 : Nat) : Int) := by omega
  have hmm := @run_makeMap Tryz.prog
  have hlt9 : ¬ (20000 : Int) < (t.length : Int) := by omega
  have hlt8 : ¬ 20000 < t.length := by omega
  have HNN : Hid (ls.length = N ∧ 0 < N ∧ N ≤ 2000) := ⟨hN, by omega, by omega⟩
  clear hm hA ht hcb hsb hoW hqW htl hgw hl0 hfw
  go_enter Tryz.func5, Tryz.ntmps5
  go_upto_region 1 with fail
  rw [← hW, ← hqb]
  clear hW hqb
  go_wp2_with fail
  refine (Tryz.strings_Count_one ⟨t.toArray⟩ 10 _).mono ?_
  rintro e w1 ⟨rfl, hw9⟩
  have hw8 := hw9.symm
  clear hw9
  subst hw8
  have e1 : Lib.countByte (ByteArray.mk t.toArray).data.toList 10 = N - 1 := by rw [← hN]; exact HCO.out
  rw [e1]
  clear e1 HCO hN hN1
  go_wp2_with fail
  refine (HSP.out _ HMW.out).mono ?_
  rintro e w2 ⟨rfl, hw2⟩
  clear HSP
  obtain ⟨lb, hlb⟩ : ∃ lb, lb = W.heap.size := ⟨_, rfl⟩
  have ho2 : Only (fun _ => False) W w2 := by rw [hw2]; exact (Only.refl _ _).alloc _
  have hl2 : w2.heap[lb]? = some (.cells ((ls.map (fun l => (⟨l.toArray⟩ : ByteArray))).map Value.string).toArray 9 (0, 0)) := by rw [hw2, hlb]; exact heap_alloc_last _ _
  have HW2 : Hid (WdAt w2 (.slice (some ⟨lb, 0, none⟩) N N) ls ∧ lb < w2.heap.size ∧ Only (fun _ => False) W w2) := by
    refine ⟨⟨_, _, _, rfl, HNN.out.1.symm, Nat.le_refl _, Or.inr ⟨lb, 0, _, rfl, hl2, fun j hj => ?_⟩⟩, lt_of_some hl2, ho2⟩
    rw [cell_of_row _ _ (0 + j) _ _ (0, 0) hl2]
    simp [hj]
  rw [← hlb]
  clear hlb hw2 ho2 hl2
  go_wp2_with fail
  refine (sayings_ok _).mono ?_
  rintro e w3 ⟨vs, rfl, H3⟩
  obtain ⟨sb, scs, hvs, _⟩ := H3.out.1
  subst hvs
  obtain ⟨w4, hw4⟩ : ∃ w4, w4 = w3.alloc (.cells #[.slice (some ⟨lb, 0, none⟩) N N, .int .i64 0, .slice none 0 0, .slice (some ⟨sb, 0, none⟩) 19 19, .int .i64 0, .int .i64 0, .int .i64 0, .slice none 0 0, .int .u32 1073741822, .slice none 0 0, .slice none 0 0, .slice none 0 0, .slice none 0 0, .slice none 0 0, .slice none 0 0, .map (some (w3.heap.size + 1))] 68) := ⟨_, rfl⟩
  obtain ⟨w5, hw5⟩ : ∃ w5, w5 = w4.alloc (.map #[] 0) := ⟨_, rfl⟩
  have ho4 : Only (fun _ => False) w3 w4 := by rw [hw4]; exact (Only.refl _ _).alloc _
  have ho5 : Only (fun _ => False) w4 w5 := by rw [hw5]; exact (Only.refl _ _).alloc _
  have hr4 : w4.heap[w3.heap.size]? = some (.cells #[.slice (some ⟨lb, 0, none⟩) N N, .int .i64 0, .slice none 0 0, .slice (some ⟨sb, 0, none⟩) 19 19, .int .i64 0, .int .i64 0, .int .i64 0, .slice none 0 0, .int .u32 1073741822, .slice none 0 0, .slice none 0 0, .slice none 0 0, .slice none 0 0, .slice none 0 0, .slice none 0 0, .map (some (w3.heap.size + 1))] 68 (0, 0)) := by rw [hw4]; exact heap_alloc_last _ _
  have hs4 : w4.heap.size = w3.heap.size + 1 := by rw [hw4]; simp
  have hnm : NmAt w5 (w3.heap.size + 1) (.map []) [] [] := by rw [hw5, ← hs4]; exact NmAt.made w4
  have HI5 : Hid (∃ V vw ws, PrI W w5 w3.heap.size ls TF 0 V vw ws) := by
    have hW3 := HW2.out.2.2.trans H3.out.2
    have ho := hW3.trans (ho4.trans ho5)
    refine ⟨⟨.slice (some ⟨lb, 0, none⟩) N N, ls, 0, .slice (some ⟨sb, 0, none⟩) 19 19, .slice none 0 0, .slice none 0 0, .slice none 0 0, .slice none 0 0, .slice none 0 0, .slice none 0 0, w3.heap.size + 1, .map [], w5.heap.size⟩, .slice none 0 0, [], ?_, rfl, rfl, Nat.zero_le _⟩
    rw [HA.out.t0]
    refine ⟨ho.below (Nat.le_refl _) (fun _ _ h => h), keepB ho5 hr4 (fun h => h), hW3.size, OwnL.nil _ _ _ _, OwnL.nil _ _ _ _, OwnL.nil _ _ _ _, OwnL.nil _ _ _ _, OwnL.nil _ _ _ _, OwnL.nil _ _ _ _, hnm, Nat.le_trans hW3.size (Nat.le_succ _), WdAt.nil _ _ _, (HW2.out.1.kept (H3.out.2.trans (ho4.trans ho5)) (fun _ _ _ h => h)), H3.out.1.kept (ho4.trans ho5) (fun _ _ _ h => h) (fun _ _ _ h => h), fun g o n c e => (by cases e), fun g o n c e => ?_⟩
    injection e with e _ _
    injection e with e
    injection e with e _ _
    have h1 := HW2.out.2.1
    have h2 := (H3.out.2.trans (ho4.trans ho5)).size
    show g < w5.heap.size
    omega
  clear ho4 ho5 hr4 hs4 hnm
  go_wp2_with fail
  rw [← hw4, ← hw5]
  clear hw4 hw5
  generalize w3.heap.size = rb at HI5
  clear H3 HW2
  go_loopw [25] (fun c25 wr => ∃ k V vw ws, Hid (PrI W wr rb ls TF k V vw ws)) (fun c25 wr => N + 1 - lnN wr rb)
  case atStart =>
    obtain ⟨V, vw, ws, h⟩ := HI5.out
    exact ⟨0, V, vw, ws, h⟩
  case round =>
    clear HI5
    obtain ⟨k, V, vw, ws, HP⟩ := hrel
    have hx := HP.out.x
    have hln := HP.out.ln
    have hes := HP.out.es
    have hle := HP.out.le
    have HLN := Vx.hid hx.lnN
    by_cases hlt : k < V.ls.length
    · have hmem : V.ls[k] ∈ ls := by rw [← hes]; exact List.getElem_mem hlt
      have HNX := Vx.hid (next_ok hx k hln hlt (by rw [hes]; have := HA.out.few; omega) (HA.out.asc _ hmem) (HA.out.one _ hmem) mx HMW.out)
      have hkl : k < ls.length := by rw [← hes]; exact hlt
      have HSY : Hid (SayOk (V.ls.getD k []) (TF k) (TF (k + 1))) := by
        have h9 := HA.out.say k hkl
        have e : V.ls.getD k [] = ls[k] := by rw [hes, List.getD_eq_getElem?_getD, List.getElem?_eq_getElem hkl]; rfl
        rw [e]; exact h9
      have HK : Hid (k < ls.length ∧ V.ls = ls ∧ V.ln = (k : Int) ∧ ls.length = N) := ⟨hkl, hes, hln, HNN.out.1⟩
      clear hx hln hes hle hlt hmem hkl HP
      go_wp2_with fail
      refine HNX.out.mono ?_
      rintro e w6 ⟨rfl, H6⟩
      clear HNX
      obtain ⟨V6, vw6, hx6, e1, e2, e3, e4, e5⟩ := H6.out
      have HSC := Vx.hid (HSY.out _ _ _ _ _ hx6 e5)
      have HE : Hid (V6.ls = ls ∧ V6.ln = ((k + 1 : Nat) : Int)) := ⟨e2.trans HK.out.2.1, e3⟩
      clear hx6 e1 e2 e3 e4 e5 H6 HSY
      go_wp2_with fail
      refine HSC.out.mono ?_
      rintro e w7 ⟨rfl, H7⟩
      clear HSC
      obtain ⟨V7, vw7, hx7, e1, e2, e3, e4⟩ := H7.out
      have c4 : w7.cell? ⟨rb, 4, none⟩ = some (.int .i64 0) := (cell_of_row _ _ 4 _ _ (0, 0) hx7.row).trans rfl
      have HP7 : Hid (PrI W w7 rb ls TF (k + 1) V7 vw7 []) := ⟨hx7, e3.trans HE.out.2, e2.trans HE.out.1, by rw [e2, HE.out.1]; exact HK.out.1⟩
      clear hx7 e1 e2 e3 e4 H7 HE
      go_wp2_with fail
      go_roundw
      case rel => exact ⟨k + 1, V7, vw7, [], HP7⟩
      case measure =>
        have h1 := HP7.out.x.lnN
        rw [HP7.out.ln] at h1
        have h2 := HLN.out
        rw [HK.out.2.2.1] at h2
        have h3 := HK.out.1
        have h4 := HK.out.2.2.2
        simp only [Int.toNat_natCast] at h1 h2
        omega
    · have hk : k = ls.length := by rw [← hes]; omega
      have HNX := Vx.hid (next_end hx (by rw [hln, hk, hes]))
      have hT : TF k = TF ls.length := by rw [hk]
      have HX := Vx.hid (hT ▸ hx)
      clear hx hln hes hle hlt HP hk hT HLN
      go_wp2_with fail
      refine HNX.out.mono ?_
      rintro e w6 ⟨rfl, H6⟩
      clear HNX
      have hx6 := HX.out.quiet H6.out
      have hq6 : w6.heap[qb]? = some (.cells #[.int .i64 0, .slice none 0 0, .int .u32 0, .slice none 0 0, .slice none 0 0, .slice none 0 0, .slice none 0 0, .slice none 0 0, .slice none 0 0, .map none] 34 (0, 0)) := (hx6.be.block qb (lt_of_some HQW.out.1)).trans HQW.out.1
      have HQ : Hid (PaQ w w6 (TF ls.length) W.heap.size V.vt V.vo V.vc V.vm V.vh V.vi V.mb V.D) := ⟨hx6.lt, hx6.lo, hx6.lc, hx6.lm, hx6.lh, hx6.li, hx6.nm, HQW.out.2.1.trans (Only.of_below hx6.be (fun k hk h9 => by omega)), HQW.out.2.1.size, Nat.le_trans HQW.out.2.1.size hx6.hm⟩
      have HQ6 := Vx.hid hq6
      have HMB : Hid (W.heap.size ≤ V.mb) := hx6.hm
      have r0 : w6.cell? ⟨rb, 6, none⟩ = some (.int .i64 0) := (cell_of_row _ _ 6 _ _ (0, 0) hx6.row).trans rfl
      have r1 : w6.cell? ⟨rb, 7, none⟩ = some (V.vt) := (cell_of_row _ _ 7 _ _ (0, 0) hx6.row).trans rfl
      have r2 : w6.cell? ⟨rb, 8, none⟩ = some (.int .u32 1073741822) := (cell_of_row _ _ 8 _ _ (0, 0) hx6.row).trans rfl
      have r3 : w6.cell? ⟨rb, 9, none⟩ = some (V.vo) := (cell_of_row _ _ 9 _ _ (0, 0) hx6.row).trans rfl
      have r4 : w6.cell? ⟨rb, 10, none⟩ = some (.slice none 0 0) := (cell_of_row _ _ 10 _ _ (0, 0) hx6.row).trans rfl
      have r5 : w6.cell? ⟨rb, 11, none⟩ = some (V.vc) := (cell_of_row _ _ 11 _ _ (0, 0) hx6.row).trans rfl
      have r6 : w6.cell? ⟨rb, 12, none⟩ = some (V.vm) := (cell_of_row _ _ 12 _ _ (0, 0) hx6.row).trans rfl
      have r7 : w6.cell? ⟨rb, 13, none⟩ = some (V.vh) := (cell_of_row _ _ 13 _ _ (0, 0) hx6.row).trans rfl
      have r8 : w6.cell? ⟨rb, 14, none⟩ = some (V.vi) := (cell_of_row _ _ 14 _ _ (0, 0) hx6.row).trans rfl
      have r9 : w6.cell? ⟨rb, 15, none⟩ = some (.map (some V.mb)) := (cell_of_row _ _ 15 _ _ (0, 0) hx6.row).trans rfl
      have q0 := (cell_of_row _ _ 0 _ _ (0, 0) hq6).trans rfl
      have f0 := froz hq6 0
      have q1 := (cell_of_row _ _ 1 _ _ (0, 0) hq6).trans rfl
      have f1 := froz hq6 1
      have q2 := (cell_of_row _ _ 2 _ _ (0, 0) hq6).trans rfl
      have f2 := froz hq6 2
      have q3 := (cell_of_row _ _ 3 _ _ (0, 0) hq6).trans rfl
      have f3 := froz hq6 3
      have q4 := (cell_of_row _ _ 4 _ _ (0, 0) hq6).trans rfl
      have f4 := froz hq6 4
      have q5 := (cell_of_row _ _ 5 _ _ (0, 0) hq6).trans rfl
      have f5 := froz hq6 5
      have q6 := (cell_of_row _ _ 6 _ _ (0, 0) hq6).trans rfl
      have f6 := froz hq6 6
      have q7 := (cell_of_row _ _ 7 _ _ (0, 0) hq6).trans rfl
      have f7 := froz hq6 7
      have q8 := (cell_of_row _ _ 8 _ _ (0, 0) hq6).trans rfl
      have f8 := froz hq6 8
      have q9 := (cell_of_row _ _ 9 _ _ (0, 0) hq6).trans rfl
      have f9 := froz hq6 9
      obtain ⟨pt, ct, hvt, _⟩ := hx6.lt.form
      obtain ⟨po, co, hvo, _⟩ := hx6.lo.form
      obtain ⟨pc, cc, hvc, _⟩ := hx6.lc.form
      obtain ⟨pm, cm, hvm, _⟩ := hx6.lm.form
      obtain ⟨ph, ch, hvh, _⟩ := hx6.lh.form
      obtain ⟨pi, ci, hvi, _⟩ := hx6.li.form
      clear hx6 hq6 HX H6
      go_wp2_with fail
      refine bodyPost_ret (v := .tuple #[.agg #[.int .i64 0, .slice pt (TF ls.length).tn.length ct, .int .u32 1073741822, .slice po (TF ls.length).ob.length co, .slice none 0 0, .slice pc (TF ls.length).cp.length cc, .slice pm (TF ls.length).mp.length cm, .slice ph (TF ls.length).th.length ch, .slice pi (TF ls.length).ir.length ci, .map (some V.mb)], .int .i64 0, .int .i64 0]) ?_ rfl ⟨W.heap.size, _, _, _, _, _, _, _, V.D, rfl, ?_⟩
      · simp [results, Tryz.results5, go_sem, q0, q1, q2, q3, q4, q5, q6, q7, q8, q9]
      · have hq := HQ.out
        rw [hvt, hvo, hvc, hvm, hvh, hvi] at hq
        refine hq.set (qb := qb) ⟨lt_of_some HQW.out.1, Nat.lt_of_lt_of_le (lt_of_some HQW.out.1) HMB.out, HQW.out.2.2⟩ ?_
        exact (((((((((only1' _ _ _ _).trans (only1' _ _ _ _)).trans (only1' _ _ _ _)).trans (only1' _ _ _ _)).trans (only1' _ _ _ _)).trans (only1' _ _ _ _)).trans (only1' _ _ _ _)).trans (only1' _ _ _ _)).trans (only1' _ _ _ _)).trans (only1' _ _ _ _)
end Go.Proofs.YtgacifbpjdakaaaGreatDoor

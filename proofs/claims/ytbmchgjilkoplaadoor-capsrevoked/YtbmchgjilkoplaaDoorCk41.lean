import Derived.Test.YtbmchgjilkoplaaDoorCk40
import Derived.Test.YtbmchgjilkoplaaDoorCk31
import Derived.WideKeyEntry
import Derived.DeepKeys5
import Derived.Maps.RangeWalk
import Derived.RangeFuncNested
import Derived.RangeFuncBound
import Derived.RangeFuncCalls
import Derived.RangeFuncLeaves
import Derived.Shelf.Abstract
import Derived.Shelf.RegionOpen
import Derived.WalkKit
import Derived.OwnWalkIn
import Derived.TacticsInMore
import Derived.LoopNIn
import Derived.LoopIn
/- Chapter 7, the program's map by slots. -/
namespace Go.Proofs.YtbmchgjilkoplaaDoor
open Go.ChangeShapes Go.WideShapes Go.ChangeAt Go.RowKit
open Go.Vx
set_option linter.unusedVariables false

theorem slRow : (62 : TypeId) < Tryd.prog.types.size := of_decide_eq_true (by kernel_rfl)
theorem slWide : (match Tryd.prog.underlying 62 with | some (.array _ _) | some (.struct _) => true | _ => false) = true := by kernel_rfl
theorem slKT : Tryd.prog.keyType 62 = true := by kernel_rfl
set_option maxRecDepth 100000 in
theorem slLaw : WideMaps.KeyLaw Tryd.prog 62 := deep_law_laid laidOut (m := 2) (by omega) slRow (by kernel_rfl) slWide
theorem keyedS : Maps.Keyed Tryd.prog 62 := Maps.Keyed.of_law slLaw
theorem cells3 : Tryd.prog.cellsOf 3 = 1 := by kernel_rfl
theorem cells62 : Tryd.prog.cellsOf 62 = 2 := by kernel_rfl
theorem typesN : 2 ≤ Tryd.prog.types.size := of_decide_eq_true (by kernel_rfl)
/-- A slot as a key. -/
def klS (s : Sl) : Lit := .string (keyBytes [.int .i64 s.1, .int .i64 s.2])
def SlI (s : Sl) : Prop := I64 s.1 ∧ I64 s.2
theorem lits3 (d : Nat) (x : Int) (h : I64 x) : Tryd.prog.keyLits (d + 1) 3 [.int .i64 x] = some [.int .i64 x] := by
  unfold Program.keyLits
  rw [Tryd.underlying3]
  simp [wf_i64 h]
theorem keyS {s : Sl} (h : SlI s) : keyOf Tryd.prog 62 (.agg #[.int .i64 s.1, .int .i64 s.2]) = some (klS s) := by
  have hf : (Value.agg #[.int .i64 s.1, .int .i64 s.2]).formed Tryd.prog 62 = true := by
    unfold Value.formed
    rw [Tryd.underlying62, cells62]
    rfl
  have hl : Tryd.prog.keyLits (Tryd.prog.types.size + 1) 62 [.int .i64 s.1, .int .i64 s.2] = some [.int .i64 s.1, .int .i64 s.2] := by
    obtain ⟨d, hd⟩ : ∃ d, Tryd.prog.types.size = d + 1 := ⟨Tryd.prog.types.size - 1, by have := typesN; omega⟩
    rw [hd]
    unfold Program.keyLits
    rw [Tryd.underlying62]
    simp [cells62, cells3, lits3 d s.1 h.1, lits3 d s.2 h.2]
  unfold keyOf
  rw [Tryd.underlying62]
  simp only [slKT, hf, Bool.and_self, if_true]
  show Option.map _ (Tryd.prog.keyLits (Tryd.prog.types.size + 1) 62 [.int .i64 s.1, .int .i64 s.2]) = _
  rw [hl]
  rfl
theorem klS_inj {s t : Sl} (hs : SlI s) (ht : SlI t) (h : klS s = klS t) : s = t := by
  have h1 := keyS hs
  have h2 := keyS ht
  rw [h] at h1
  have := keyedS.inj h1 h2
  simp only [Value.agg.injEq, Array.mk.injEq, List.cons.injEq, Value.int.injEq, true_and, and_true] at this
  exact Prod.ext this.1 this.2
theorem zeroSls (w : World) : (zeroValue 57).run Tryd.prog w = .ok (.slice none 0 0) w := by kernel_rfl
end Go.Proofs.YtbmchgjilkoplaaDoor

/- Chapter 7, the program's comers: one entry more. -/
namespace Go.Proofs.YtbmchgjilkoplaaDoor
open Go.ChangeShapes Go.WideShapes Go.ChangeAt Go.RowKit Go.MapKept Go.ChangeMaps
open Go.Vx
set_option linter.unusedVariables false

/-- What comes from a slot, as the entries come. -/
def comF (pre : List En) (s : Sl) : List Sl := (pre.filter (fun e => decide (e.from' = s))).map (·.at')
theorem comF_push (pre : List En) (x : En) (s : Sl) : comF (pre ++ [x]) s = comF pre s ++ (if x.from' = s then [x.at'] else []) := by
  unfold comF
  rw [List.filter_append, List.map_append]
  congr 1
  by_cases h : x.from' = s
  · rw [if_pos h, List.filter_cons_of_pos (by simpa using h)]; rfl
  · rw [if_neg h, List.filter_cons_of_neg (by simpa using h)]; rfl
theorem comF_len (pre : List En) (s : Sl) : (comF pre s).length ≤ pre.length := by
  unfold comF
  rw [List.length_map]
  exact List.length_filter_le _ _
theorem only_setBlock {w : World} {b : Nat} {ea : Array MapEntry} {clock : Nat} (h : w.heap[b]? = some (.map ea clock)) (o2 : Obj) : Only (fun k => k = b) w (setBlock w b o2) :=
  ⟨rfl, rfl, rfl, by simp [setBlock], fun k _ hk => heap_setBlock_other h o2 hk⟩
structure CoR (w0 : World) (mx cb n : Nat) (Dc : DataW Value) (V : Sl → Value) (pre : List En) (W : World) : Prop where
  on : Only (fun _ => False) w0 W
  bx : W.heap[mx]? = some (.cells #[.map (some cb)] 109 (0, 0))
  m : W.ownsMap Tryd.prog 62 RH cb n Dc
  at' : ∀ s, SlI s → Dc.atKey (klS s) (.held (.slice none 0 0)) = .held (V s)
  ow : ∀ s, OwnL slL W w0.heap.size 62 (V s) (comF pre s)
  dj : ∀ s t k, (V s).ownBlock = some k → (V t).ownBlock = some k → s = t
  ge : w0.heap.size ≤ mx ∧ w0.heap.size ≤ cb
  le : n ≤ pre.length
theorem map_neS {w : World} {j k : Nat} {c : Array Value} {t : TypeId} {fr : Nat × Nat} {n : Nat} {E : DataW Value} (h : w.heap[j]? = some (.cells c t fr)) (h2 : w.ownsMap Tryd.prog 62 RH k n E) : j ≠ k := by
  obtain ⟨es, clock, hb, _⟩ := h2
  rintro rfl
  rw [h] at hb
  cases hb
theorem ownsS_only {S : Nat → Prop} {w w2 : World} {k n : Nat} {E : DataW Value} (h : w.ownsMap Tryd.prog 62 RH k n E) (ho : Only S w w2) (hS : ¬ S k) : w2.ownsMap Tryd.prog 62 RH k n E := by
  have hl := h.lt
  obtain ⟨es, clock, hb, r⟩ := h
  exact ⟨es, clock, (ho.block k hl hS).trans hb, r⟩
set_option maxRecDepth 100000 in
set_option maxHeartbeats 1000000 in
theorem CoR.step {w0 : World} {mx cb n : Nat} {Dc : DataW Value} {V : Sl → Value} {pre : List En} {W : World} (h : CoR w0 mx cb n Dc V pre W) (x : En) (hf : SlI x.from') (hlen : pre.length < 1000000) :
    ∃ (v0 : Value) (st : Nat) (W3 : World) (v1 : Value) (W4 W5 : World) (Dd : DataW Value) (V2 : Sl → Value),
      (∃ p l c, v0 = .slice p l c) ∧ (∃ p l c, v1 = .slice p l c) ∧
      (Instr.mapEntry 109 (.map (some cb)) (.agg #[.int .i64 x.from'.1, .int .i64 x.from'.2])).run Tryd.prog (W.alloc (.cells #[.int .i64 x.at'.1, .int .i64 x.at'.2] 62)) = .ok (.tuple #[v0, .int .i64 (st : Int)]) W3 ∧
      (Builtin.append_ #[57, 57] 57 #[v0, .slice (some ⟨W.heap.size, 0, none⟩) 1 1]).run Tryd.prog W3 = .ok v1 W4 ∧
      (Instr.entryStore 109 (.map (some cb)) (.int .i64 (st : Int)) v1).run Tryd.prog W4 = .ok () W5 ∧
      CoR w0 mx cb (n + 1) Dd V2 (pre ++ [x]) W5 ∧ Only (fun k => k = cb ∨ (V x.from').ownBlock = some k) W W5 := by
  obtain ⟨W2, hW2⟩ : ∃ W2, W2 = W.alloc (.cells #[.int .i64 x.at'.1, .int .i64 x.at'.2] 62) := ⟨_, rfl⟩
  rw [← hW2]
  have o2 : Only (fun _ => False) W W2 := by rw [hW2]; exact (Only.refl _ W).alloc _
  have hnew : W2.heap[W.heap.size]? = some (.cells #[.int .i64 x.at'.1, .int .i64 x.at'.2] 62 (0, 0)) := by rw [hW2]; exact heap_alloc_last W _
  have hm2 := ownsS_only h.m o2 (fun h => h)
  have hkey := keyS hf
  have ht := Tryd.underlying109
  obtain ⟨ea, clock, hb, F, hs, hD⟩ := hm2
  obtain ⟨v0, st, es1, clock1, hrun1, hcase, hst⟩ := WideElems.entry_then_store (P := Tryd.prog) (w := W2) (t := 109) (e := 57) slLaw ht zeroSls hb F hkey
  have hat := h.at' x.from' hf
  have hv0 : v0 = V x.from' := by
    have hst2 := (stamped_iff ea clock).1 F.stamped
    rcases Maps.fit_look (w := W2) false keyedS ht (zeroSls W2) hb F hkey with ⟨_, hno, hat2⟩ | ⟨e1, y, hm1, hk1, _, hR, hat2, _⟩
    · rcases hcase with ⟨e0, he0, hk0, _⟩ | ⟨_, rfl⟩
      · exact absurd hk0 (hno e0 he0)
      · rw [hD, hat2] at hat
        injection hat
    · rcases hcase with ⟨e0, he0, hk0, rfl⟩ | ⟨hno, _⟩
      · have he : e0 = e1 := entry_eq_of_key hst2.2.2 he0 hm1 (by rw [hk0, hk1])
        subst he
        obtain ⟨p, l, c, e3, e4⟩ := RH_inv hR
        rw [hD, hat2, e4] at hat
        injection hat with hat
        rw [e3]; exact hat
      · exact absurd hk1 (hno e1 hm1)
  subst hv0
  obtain ⟨W3, hW3⟩ : ∃ W3, W3 = setBlock W2 cb (.map es1 clock1) := ⟨_, rfl⟩
  have o3 : Only (fun k => k = cb) W2 W3 := by rw [hW3]; exact only_setBlock hb _
  have hb3 : W3.heap[cb]? = some (.map es1 clock1) := by rw [hW3]; exact heap_setBlock_same hb _
  have hrow : ∀ s k, (V s).ownBlock = some k → k ≠ cb ∧ k < W.heap.size := fun s k hk => by
    obtain ⟨cur, hc⟩ := own_tag (h.ow s) hk
    exact ⟨map_neS hc h.m, lt_of_some hc⟩
  have ow3 : ∀ s, OwnL slL W3 w0.heap.size 62 (V s) (comF pre s) := fun s => ((h.ow s).kept o2 (fun _ _ h => h)).kept o3 (fun k hk => (hrow s k hk).1)
  have hsz3 : W.heap.size + 1 ≤ W3.heap.size := by
    have h1 := o3.size
    have h2 : W2.heap.size = W.heap.size + 1 := by rw [hW2]; simp
    omega
  have hw0 : w0.heap.size ≤ W.heap.size := h.on.size
  have hcbl : cb < W.heap.size := h.m.lt
  have hnew3 : W3.heap[W.heap.size]? = some (.cells #[.int .i64 x.at'.1, .int .i64 x.at'.2] 62 (0, 0)) := by
    rw [o3.block _ (lt_of_some hnew) (fun e => by omega)]
    exact hnew
  obtain ⟨v1, W4, hrun2, ow4, o4, lies⟩ := run_append_many slK W3 57 w0.heap.size (V x.from') (comF pre x.from') (ow3 x.from') (some ⟨W.heap.size, 0, none⟩) 1 [x.at'] (fun _ => ⟨_, rfl, fun j u hj => by
    rw [fl_one] at hj
    rw [addr_add, Nat.zero_add, cell_of_row _ _ j _ _ (0, 0) hnew3, List.getElem?_toArray]
    exact hj⟩) (by have := comF_len pre x.from'; simp only [List.length_cons, List.length_nil]; omega) (by omega)
  have hb4 : W4.heap[cb]? = some (.map es1 clock1) := by
    rw [o4.block cb (lt_of_some hb3) (fun e => (hrow _ _ e).1 rfl)]
    exact hb3
  obtain ⟨es5, clock5, hrun3, hupd⟩ := hst W4 v1 hb4
  obtain ⟨p1, c1, hv1, _⟩ := ow4.form
  have hRH : RH v1 = some (.held v1, []) := by rw [hv1]; rfl
  obtain ⟨w6, hrun6, hm6, _⟩ := World.ownsMap.update (w := W2) (P := Tryd.prog) (R := RH) (t := 109) (e := 57) ⟨ea, clock, hb, F, hs, hD⟩ keyedS ht (by have := h.le; unfold maxLen; omega) hkey hRH
  rw [hupd] at hrun6
  injection hrun6 with _ hw6
  subst hw6
  obtain ⟨ea2, clock2, hbb, F2, hs2, hD2⟩ := hm6
  rw [heap_setBlock_same hb] at hbb
  injection hbb with hbb
  injection hbb with hbe hbc
  subst hbe
  subst hbc
  have o5 := only_setBlock hb4 (.map es5 clock5)
  have hm5 : (setBlock W4 cb (.map es5 clock5)).ownsMap Tryd.prog 62 RH cb (n + 1) (Dc.put (klS x.from') (.held v1)) := ⟨es5, clock5, heap_setBlock_same hb4 _, F2, hs2, hD2⟩
  obtain ⟨pv, cv, hvf, _⟩ := (h.ow x.from').form
  have hon5 : Only (fun k => k = cb ∨ (V x.from').ownBlock = some k) W (setBlock W4 cb (.map es5 clock5)) :=
    (((o2.mono (fun _ _ h => h.elim)).trans (o3.mono (fun k _ hk => Or.inl hk))).trans (o4.mono (fun k _ hk => Or.inr hk))).trans (o5.mono (fun k _ hk => Or.inl hk))
  have hnt : ∀ k, v1.ownBlock = some k → (V x.from').ownBlock = some k ∨ W3.heap.size ≤ k := lies_of lies
  have hne1 : ∀ k, v1.ownBlock = some k → k ≠ cb := fun k hk => by
    rcases hnt k hk with h1 | h1
    · exact (hrow _ _ h1).1
    · omega
  refine ⟨V x.from', st, W3, v1, W4, setBlock W4 cb (.map es5 clock5), Dc.put (klS x.from') (.held v1), fun s => if s = x.from' then v1 else V s, ⟨_, _, _, hvf⟩, ⟨_, _, _, hv1⟩, by rw [hW3]; exact hrun1, hrun2, hrun3, ⟨?_, ?_, hm5, fun s hs => ?_, fun s => ?_, fun s t k hk1 hk2 => ?_, h.ge, by rw [List.length_append]; have := h.le; simp; omega⟩, hon5⟩
  · exact Only.beyond h.on hon5 (fun k hk => by
      rcases hk with rfl | hk
      · exact h.ge.2
      · exact (own_lt (h.ow _) hk).1)
  · rw [hon5.block mx (lt_of_some h.bx) (fun e => by
      rcases e with e | e
      · exact map_neS h.bx h.m e
      · obtain ⟨cur, hc⟩ := own_tag (h.ow _) e
        exact tag_ne h.bx hc (by decide) rfl)]
    exact h.bx
  · have hmd : Maps.IsMap Dc := h.m.isMap
    by_cases hsx : s = x.from'
    · rw [if_pos hsx, hsx]
      exact Maps.atKey_put_same hmd (keyedS.key hkey) _ _
    · rw [if_neg hsx, Maps.atKey_put_other (fun e => hsx (klS_inj hs hf e))]
      exact h.at' s hs
  · by_cases hsx : s = x.from'
    · rw [if_pos hsx, comF_push, if_pos hsx.symm, hsx]
      exact ow4.kept o5 hne1
    · rw [if_neg hsx, comF_push, if_neg (fun e => hsx e.symm), List.append_nil]
      refine ((ow3 s).kept o4 (fun k hk e => hsx (h.dj s x.from' k hk e))).kept o5 (fun k hk => (hrow s k hk).1)
  · try dsimp only at hk1 hk2
    by_cases h1 : s = x.from'
    · by_cases h2 : t = x.from'
      · rw [h1, h2]
      · rw [if_pos h1] at hk1
        rw [if_neg h2] at hk2
        rcases hnt k hk1 with h3 | h3
        · exact absurd (h.dj t x.from' k hk2 h3) h2
        · have := (hrow t k hk2).2; omega
    · by_cases h2 : t = x.from'
      · rw [if_neg h1] at hk1
        rw [if_pos h2] at hk2
        rcases hnt k hk2 with h3 | h3
        · exact absurd (h.dj s x.from' k hk1 h3) h1
        · have := (hrow s k hk1).2; omega
      · rw [if_neg h1] at hk1
        rw [if_neg h2] at hk2
        exact h.dj s t k hk1 hk2
end Go.Proofs.YtbmchgjilkoplaaDoor

/- Chapter 7, the program's comers: slices.Backward. -/
namespace Go.Proofs.YtbmchgjilkoplaaDoor
open Go.ChangeShapes Go.WideShapes Go.ChangeAt Go.RowKit Go.Shelf
open Go.Vx
set_option linter.unusedVariables false
attribute [local go_sem] Oper.semAt_some

/-- What a round is handed: a place in the list, and what stands there. -/
abbrev BkE := Int × { e : En // SlI e.from' }
def bkV (x : BkE) : Array Value := #[.int .i64 x.1, .agg #[.int .i64 x.2.1.at'.1, .int .i64 x.2.1.at'.2, .int .i64 x.2.1.cap.kind, .int .i64 x.2.1.cap.num, .int .i64 x.2.1.cap.rights, .int .u32 x.2.1.cap.badge, .int .u32 x.2.1.cap.guard, .int .i64 x.2.1.cap.gbits, .int .i64 x.2.1.cap.root, .int .u32 x.2.1.cap.va, .int .i64 x.2.1.from'.1, .int .i64 x.2.1.from'.2]]
/-- Some blocks lie as they lay. -/
def Kq (A : Nat → Prop) (W W2 : World) : Prop := ∀ b, A b → W2.heap[b]? = W.heap[b]?
theorem Kq.trans {A : Nat → Prop} {a b c : World} (h : Kq A a b) (k : Kq A b c) : Kq A a c := fun x hx => (k x hx).trans (h x hx)
theorem E12.block {w w2 : World} {g k : Nat} {e : En} (h : E12 w g k e) (hb : w2.heap[g]? = w.heap[g]?) : E12 w2 g k e := by
  have hc : ∀ o, w2.cell? ⟨g, o, none⟩ = w.cell? ⟨g, o, none⟩ := fun o => World.cell?_of_block (w := w) hb
  obtain ⟨c0, c1, c2, c3, c4, c5, c6, c7, c8, c9, c10, c11⟩ := h
  exact ⟨(hc _).trans c0, (hc _).trans c1, (hc _).trans c2, (hc _).trans c3, (hc _).trans c4, (hc _).trans c5, (hc _).trans c6, (hc _).trans c7, (hc _).trans c8, (hc _).trans c9, (hc _).trans c10, (hc _).trans c11⟩
set_option maxRecDepth 100000 in
set_option maxHeartbeats 2000000 in
theorem back1_in (F : Fence) (n : Nat) (hF : F.fn 81) (hro : F.round = none) (hn : 1 ≤ n) (l Bs g c : Nat) (xs : List BkE) (hx : ∀ (k : Nat) (hk : k < xs.length), xs[k].1 = (k : Int)) (hN : xs.length ≤ 1000000) (p : Option Addr) (hp : 0 < xs.length → p = some ⟨g, 0, none⟩) (A : Nat → Prop) (hA1 : A Bs) (hA2 : 0 < xs.length → A g) (J Jx : List BkE → World → Prop)
    (hY : ∀ pre x W, J pre W → pre.length < xs.length → YieldAt F (n - 1) Tryd.prog l (bkV x) W fun e W' => (e = .returned (.bool true) ∧ J (pre ++ [x]) W' ∧ Kq A W W') ∨ (e = .returned (.bool false) ∧ Jx (pre ++ [x]) W'))
    (W : World) (hBs : W.cell? ⟨Bs, 0, none⟩ = some (.slice p xs.length c)) (hc : ∀ (k : Nat) (hk : k < xs.length), E12 W g k xs[k].2.1) (h0 : J [] W) :
    CallsIn F n Tryd.prog 81 #[.func (.yield l) #[] #[], .pointer (some ⟨Bs, 0, none⟩)] W fun e W' => (∃ v, e = .returned v) ∧ ((∃ ys, ys = xs.reverse ∧ J ys W') ∨ (∃ pre, True ∧ Jx pre W')) := by
  obtain ⟨N, hNN⟩ : ∃ N, N = xs.length := ⟨_, rfl⟩
  have HN := Vx.hid hNN
  rw [← hNN] at hBs hN
  have hw1 : IntKind.i64.wrap ((N : Int) - 1) = (N : Int) - 1 := by rw [IntKind.wrap_i64]; omega
  have HX := Vx.hid hx
  have HC := Vx.hid hc
  have HPP := Vx.hid hp
  have HY := Vx.hid hY
  have HA := Vx.hid (⟨hA1, hA2⟩ : _ ∧ _)
  clear hx hc hp hY hA1 hA2 hNN
  have HB0 := Vx.hid hBs
  refine callsIn_of_wp Tryd.func81 rfl hF ?_ hro
  simp only [Tryd.ntmps81, List.size_toArray, List.length_cons, List.length_nil, Nat.reduceAdd, Nat.reduceSub, Array.replicate_succ, Array.replicate_zero, List.push_toArray, List.append_toArray, List.nil_append, List.cons_append]
  gi_wp2
  gi_loopw [3] (fun i wr => ∃ k : Nat, k ≤ N ∧ i = .int .i64 ((k : Int) - 1) ∧ Hid (J ((xs.drop k).reverse) wr) ∧ Hid (Kq A W wr)) (fun i _ => (RowKit.intOf i + 1).toNat)
  case atStart => exact ⟨N, Nat.le_refl _, rfl, (show J ((xs.drop N).reverse) W from by rw [HN.out, List.drop_length]; exact h0), fun _ _ => rfl⟩
  case round =>
    obtain ⟨k, hk, rfl, HJ, HK⟩ := hrel
    have hBs2 : wr.cell? ⟨Bs, 0, none⟩ = some (.slice p N c) := (World.cell?_of_block (w := W) (HK.out Bs HA.out.1)).trans HB0.out
    cases k with
    | zero =>
      have h1 : ¬ (0 : Int) ≤ ((0 : Nat) : Int) - 1 := by omega
      gi_wp2
      go_end0
      exact ⟨⟨_, rfl⟩, .inl (by have := HJ.out; rw [List.drop_zero] at this; first | exact this | exact ⟨_, rfl, this⟩)⟩
    | succ m =>
      have hml : m < xs.length := by have := HN.out; omega
      have e1 : ((m + 1 : Nat) : Int) - 1 = (m : Int) := by omega
      rw [e1]
      have h1 : (0 : Int) ≤ (m : Int) := by omega
      have hidx : 0 ≤ (m : Int) ∧ (m : Int) < (N : Int) := by omega
      have hwm : IntKind.i64.wrap ((m : Int) - 1) = (m : Int) - 1 := by rw [IntKind.wrap_i64]; omega
      obtain rfl := HPP.out (by omega)
      have hE := (HC.out m hml).block (HK.out g (HA.out.2 (by omega)))
      have hxm := HX.out m hml
      have HDR : Hid ((xs.drop m).reverse = (xs.drop (m + 1)).reverse ++ [xs[m]]) := by
        show (xs.drop m).reverse = _
        rw [List.drop_eq_getElem_cons hml, List.reverse_cons]
      have HLN : Hid ((xs.drop (m + 1)).reverse.length < xs.length) := by
        show (xs.drop (m + 1)).reverse.length < xs.length
        rw [List.length_reverse, List.length_drop]
        omega
      generalize xs[m] = x at hE hxm HDR
      obtain ⟨fn, tmps, assign, body, hy, hR⟩ := HY.out _ x wr HJ.out HLN.out
      obtain ⟨xi, ⟨⟨⟨a1, a2⟩, ⟨d0, d1, d2, d3, d4, d5, d6, d7⟩, ⟨f1, f2⟩⟩, hf⟩⟩ := x
      dsimp only at hxm
      subst hxm
      obtain ⟨c0, c1, c2, c3, c4, c5, c6, c7, c8, c9, c10, c11⟩ := hE
      dsimp only at c0 c1 c2 c3 c4 c5 c6 c7 c8 c9 c10 c11
      unfold bkV at hy
      dsimp only at hy
      have HRR := Vx.hid hR
      clear hR
      gi_wp2
      refine HRR.out.mono ?_
      rintro e W3 (⟨rfl, hJ3, hk3⟩ | ⟨rfl, hJx3⟩)
      · have HJ3 := Vx.hid hJ3
        have HK3 := Vx.hid (HK.out.trans hk3)
        clear hJ3 hk3
        gi_wp2
        go_roundw
        case rel => exact ⟨m, by omega, rfl, (show J ((xs.drop m).reverse) W3 from by rw [HDR.out]; exact HJ3.out), HK3⟩
        case measure => simp only [RowKit.intOf]; omega
      · gi_wp2
        refine bodyPost_ret (results_none rfl _ _ _) rfl ?_
        exact ⟨⟨_, rfl⟩, .inr ⟨_, by first | exact hJx3 | exact ⟨trivial, hJx3⟩⟩⟩
theorem back_in (F : Fence) (n : Nat) (hF : F.fn 73) (hro : F.round = none) (p : Option Addr) (len cap : Nat) (w : World) : CallsIn F n Tryd.prog 73 #[.slice p len cap] w fun e w' => e = .returned (.func (.func 81) #[] #[.pointer (some ⟨w.heap.size, 0, none⟩)]) ∧ w' = w.alloc (.cells #[.slice p len cap] 28) := by
  refine callsIn_of_wp Tryd.func73 rfl hF ?_ hro
  simp only [Tryd.ntmps73, List.size_toArray, List.length_cons, List.length_nil, Nat.reduceAdd, Nat.reduceSub, Array.replicate_succ, Array.replicate_zero, List.push_toArray, List.append_toArray, List.nil_append, List.cons_append]
  gi_wp2
  go_ret
  exact ⟨rfl, rfl⟩
theorem back_stops (F : Fence) (n : Nat) (hF : F.fn 81) (hro : F.round = none) (hn : 1 ≤ n) (Bs g c : Nat) (xs : List BkE) (hx : ∀ (k : Nat) (hk : k < xs.length), xs[k].1 = (k : Int)) (hN : xs.length ≤ 1000000) (p : Option Addr) (hp : 0 < xs.length → p = some ⟨g, 0, none⟩) (A : Nat → Prop) (hA1 : A Bs) (hA2 : 0 < xs.length → A g) (w : World)
    (hBl : Bs < w.heap.size) (hgl : 0 < xs.length → g < w.heap.size) (hBs : w.cell? ⟨Bs, 0, none⟩ = some (.slice p xs.length c)) (hc : ∀ (k : Nat) (hk : k < xs.length), E12 w g k xs[k].2.1) :
    SeqStopsK F n Tryd.prog 81 #[.pointer (some ⟨Bs, 0, none⟩)] bkV (Kq A) (fun ys => ys = xs.reverse) (fun _ => True) xs.length w := fun l J Jx W hW _ _ hY h0 =>
  back1_in F n hF hro hn l Bs g c xs hx hN p hp A hA1 hA2 J Jx hY W ((hW.cell (p := ⟨Bs, 0, none⟩) hBl).trans hBs) (fun k hk => (hc k hk).block (hW.block g (hgl (by omega)))) h0
end Go.Proofs.YtbmchgjilkoplaaDoor

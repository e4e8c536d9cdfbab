import Derived.Test.YtbmchgjilkoplaaDoorCk30
import Derived.Carry
import Derived.Shelf.Abstract
import Derived.Test.YtbmchgjilkoplaaDoorCk1
import Derived.Deep.SlicePairs
import Derived.ChangeMaps5
import Derived.Test.YtbmchgjilkoplaaDoorCards
import Derived.Test.YtbmchgjilkoplaaDoorTie
import Derived.ProofKit
import Derived.LaidMore
import Derived.OpenShut
import Derived.Stop.Joined
import Derived.SevenTiedAt
import Derived.Deep.Strs
import Derived.HandedShaped
/- Chapter 7, the program's store: New, Drop. -/
namespace Go.Proofs.YtbmchgjilkoplaaDoor
open Go.ChangeShapes Go.WideShapes Go.ChangeAt Go.RowKit
open Go.Vx
set_option linter.unusedVariables false
variable {U : Nat → Prop} {w : World} {xb mb : Nat} {D : DataW Value} {G : Int → Nat} {bs : List (Int × Int)} {es : List En} {Q : Sl → Pl}

/-- Where the program's noSlot lies. -/
def NsAt (w : World) : Prop := w.heap[0]? = some (.cells #[.int .i64 (-1), .int .i64 (-1)] 62 (0, 0))
theorem NsAt.quiet {w w2 : World} (h : NsAt w) (ho : Only (fun _ => False) w w2) : NsAt w2 := by unfold NsAt; rw [ho.block _ (lt_of_some h) (fun h => h)]; exact h
theorem sizeF_nil (k : Int) : sizeF [] k = none := rfl
theorem wf_nil : Wf [] [] := ⟨by simp, by simp, List.Pairwise.nil, by simp, ⟨fun _ => 0, by simp⟩, by simp⟩
theorem wx_nil : Wx [] [] := ⟨by simp, by simp, by simp, by simp, by simp⟩
theorem xnew_ok (h : NsAt w) : Calls Tryd.prog 6 #[] w fun e w' => ∃ xb, e = .returned (.pointer (some ⟨xb, 0, none⟩)) ∧ w.heap.size ≤ xb ∧ XcAt (fun k => k < w.heap.size ∧ k ≠ 0) w' xb [] [] ∧ Only (fun _ => False) w w' := by
  have hmm := @run_makeMap Tryd.prog
  have HO : Hid (∀ o p, Only (fun _ => False) w ((w.alloc o).alloc p)) := fun o p => ((Only.refl _ w).alloc _).alloc _
  have HN := Vx.hid h
  clear h
  go_enter Tryd.func6, Tryd.ntmps6
  go_wp2_with fail
  go_ret
  have ho := HO.out (.map #[] 0) (.cells #[.map (some w.heap.size)] 79)
  have hx : ((w.alloc (.map #[] 0)).alloc (.cells #[.map (some w.heap.size)] 79)).heap[w.heap.size + 1]? = some (.cells #[.map (some w.heap.size)] 79 (0, 0)) := by
    have := heap_alloc_last (w.alloc (.map #[] 0)) (.cells #[.map (some w.heap.size)] 79)
    simpa using this
  have hm := (World.ownsMap_made w Tryd.prog 3 RH).alloc (.cells #[.map (some w.heap.size)] 79)
  have hns := lt_of_some HN.out
  refine ⟨w.heap.size + 1, rfl, by omega, ⟨w.heap.size, .map [], fun _ => 0, ⟨HN.out.quiet ho, hx, hm, fun k hk => rfl, (fun k n z hk => by rw [sizeF_nil] at hk; cases hk), (fun k n hk => by rw [sizeF_nil] at hk; cases hk), (fun j k hj => by rw [sizeF_nil] at hj; cases hj), (fun h => h.2 rfl), (fun h => by omega), (fun h => by omega), (fun k hk => by rw [sizeF_nil] at hk; cases hk), (fun k hk => by simp; omega), (fun k n hk => by rw [sizeF_nil] at hk; cases hk), by simp, by simp, by simp⟩, wf_nil, wx_nil, by simp⟩, ho⟩
set_option maxHeartbeats 1000000 in
theorem index_ok (h : XsAt U w xb mb D G bs Q) (b n : Int) (hn : sizeF bs b = some n) : Calls Tryd.prog 74 #[.slice (some ⟨G b, 0, none⟩) n.toNat n.toNat, .func (.func 51) #[] #[]] w fun e w' => ∃ r : Int, e = .returned (.int .i64 r) ∧ (0 ≤ r ↔ ∃ k : Nat, (k : Int) < n ∧ (Q (b, (k : Int))).1.kind ≠ 0) ∧ Only (fun _ => False) w w' := by
  have hbn := h.bn b n hn
  obtain ⟨N, hN⟩ : ∃ N : Nat, n = (N : Int) := ⟨n.toNat, by omega⟩
  subst hN
  have HX := Vx.hid h
  have HNN := Vx.hid hn
  rw [Int.toNat_natCast]
  clear h hn
  have hN64 : N ≤ 64 := by omega
  clear hbn
  go_enter Tryd.func74, Tryd.ntmps74
  go_wp2_with fail
  go_loopw [5, 8] (fun _ d wr => ∃ k : Nat, d = .int .i64 (k : Int) ∧ k ≤ N ∧ Hid (∀ j : Nat, j < k → (Q (b, (j : Int))).1.kind = 0) ∧ Hid (Only (fun _ => False) w wr)) (fun _ d _ => N - (RowKit.intOf d).toNat)
  case atStart => exact ⟨0, rfl, by omega, fun j hj => absurd hj (Nat.not_lt_zero _), Only.refl _ _⟩
  case round =>
    obtain ⟨k, rfl, hk, HQ, HW⟩ := hrel
    by_cases hlt : k < N
    · have h1 : (k : Int) < (N : Int) := by omega
      have hidx : 0 ≤ (k : Int) ∧ (k : Int) < (N : Int) := by omega
      have hwk : IntKind.i64.wrap ((k : Int) + 1) = (k : Int) + 1 := by rw [IntKind.wrap_i64]; omega
      obtain ⟨c0, c1, c2, c3, c4, c5, c6, c7, c8, c9⟩ := (HX.out.quiet HW.out).p10 HNN.out k h1
      have HF := Vx.hid (isFull_ok (Q (b, (k : Int))))
      generalize hp : Q (b, (k : Int)) = p at c0 c1 c2 c3 c4 c5 c6 c7 c8 c9 HF
      obtain ⟨⟨d0, d1, d2, d3, d4, d5, d6, d7⟩, ⟨f0, f1⟩⟩ := p
      dsimp only at c0 c1 c2 c3 c4 c5 c6 c7 c8 c9 HF
      have HP := Vx.hid hp
      clear hp
      by_cases hz : d0 = 0
      · subst hz
        go_wp2_with fail
        refine (HF.out _).mono ?_
        rintro e w3 ⟨rfl, h3⟩
        have H3 := Vx.hid (HW.out.trans h3)
        clear h3 c0 c1 c2 c3 c4 c5 c6 c7 c8 c9
        go_wp2_with fail
        go_roundw
        case rel =>
          refine ⟨k + 1, by go_num, by omega, (show ∀ j : Nat, j < k + 1 → (Q (b, (j : Int))).1.kind = 0 from fun j hj => ?_), H3⟩
          by_cases e : j = k
          · subst e; rw [HP.out]
          · exact HQ.out j (by omega)
        case measure => simp only [RowKit.intOf]; omega
      · have hz2 : (d0 != 0) = true := by simp [hz]
        rw [hz2] at HF
        go_wp2_with fail
        refine (HF.out _).mono ?_
        rintro e w3 ⟨rfl, h3⟩
        have H3 := Vx.hid (HW.out.trans h3)
        clear h3 c0 c1 c2 c3 c4 c5 c6 c7 c8 c9
        go_wp2_with fail
        go_ret
        exact ⟨(k : Int), rfl, ⟨fun _ => ⟨k, h1, by rw [HP.out]; exact hz⟩, fun _ => by omega⟩, H3.out⟩
    · obtain rfl : k = N := by omega
      have h1 : ¬ (k : Int) < (k : Int) := by omega
      go_wp2_with fail
      go_ret
      refine ⟨-1, rfl, ⟨fun h => by omega, fun ⟨j, hj, hq⟩ => absurd (HQ.out j (by omega)) hq⟩, HW.out⟩
theorem contains_ok (h : XsAt U w xb mb D G bs Q) (b n : Int) (hn : sizeF bs b = some n) : Calls Tryd.prog 59 #[.slice (some ⟨G b, 0, none⟩) n.toNat n.toNat, .func (.func 51) #[] #[]] w fun e w' => ∃ r : Bool, e = .returned (.bool r) ∧ (r = true ↔ ∃ k : Nat, (k : Int) < n ∧ (Q (b, (k : Int))).1.kind ≠ 0) ∧ Only (fun _ => False) w w' := by
  have HI := Vx.hid (index_ok h b n hn)
  clear h hn
  go_enter Tryd.func59, Tryd.ntmps59
  go_wp2_with fail
  refine HI.out.mono ?_
  rintro e w2 ⟨r, rfl, h1, h2⟩
  have H1 := Vx.hid h1
  have H2 := Vx.hid h2
  clear h1 h2
  by_cases hr : 0 ≤ r
  · go_wp2_with fail
    go_ret
    exact ⟨true, by first | rfl | simp [hr], ⟨fun _ => H1.out.1 hr, fun _ => rfl⟩, H2.out⟩
  · go_wp2_with fail
    go_ret
    exact ⟨false, by first | rfl | simp [hr], ⟨fun h => (by cases h), fun h => absurd (H1.out.2 h) (by omega)⟩, H2.out⟩
end Go.Proofs.YtbmchgjilkoplaaDoor

/- Small facts of the program and of values. -/
namespace Go.Proofs.YtbmchgjilkoplaaDoor
open Go.ChangeShapes Go.WideShapes Go.ChangeAt Go.RowKit Go.Deep
open Go.Vx

theorem own : ownKnob Tryd.prog.godebug = none := by kernel_rfl
theorem laidOut : laidOutB Tryd.prog = true := by kernel_rfl
theorem cInt : Tryd.prog.cellsOf 3 = 1 := by kernel_rfl
theorem cStr : Tryd.prog.cellsOf 9 = 1 := by kernel_rfl
def numOf : Value → Int
  | .int _ n => n
  | _ => 0
def strOf : Value → List UInt8
  | .string s => s.data.toList
  | _ => []
end Go.Proofs.YtbmchgjilkoplaaDoor

/- From the listed variable and the world's shape to what the walks ask. -/
namespace Go.Vx
variable {H : Type} {enc : TypeId × Value → H}
theorem handed_shaped_and {a : Assume} {C : Checked} {os : Os} {f : FuncId} {fn : Func} {s : ChangeSpec} {conds : List PathCond} {apart fresh handsOn again : Bool} {X : World → Array Value → Prop}
    (hX : ∀ (w w' : World) (args : Array Value), w.heap = w'.heap → X w args → X w' args)
    (own : ownKnob C.prog.godebug = none) (started : os.Started) (noInit : C.prog.inits.idxOf? f = none) (hfn : C.prog.funcs[f]? = some fn)
    (witness : ∃ (w : World) (tape : Tape) (i : Input), w.os = os ∧ (w.forCall tape i).Shaped C.prog ∧ i.vars = [] ∧ Input.okWide C.prog (w.forCall tape i) .any w.heap.size f i ∧
      ((s.pre enc C.prog fn conds apart (w.forCall tape i).memory i.args ∧ X (w.forCall tape i).memory i.args) ∧ sizedMet enc C.prog fn (OpenSpec.ofChange s) apart (w.forCall tape i).memory i.args) ∧ a.holds C.prog (lone (Frame.enter C.prog f i.args .normal) [] (w.forCall tape i)))
    (contract : ∀ (W : World) (base : Nat) (args : Array Value) (ds gs : List (DataW H)) (before : List MemPlace),
      (∀ (j : Nat) t v, fn.params[j]? = some t → args[j]? = some v → Value.okWide C.prog W .any base t v) →
      DataW.Whole enc C.prog fn.params.toList s.vars apart W args.toList ds gs before → X W args → W.ShapedOpen C.prog →
      Calls C.prog f args W fun e W' => ∃ v, e = .returned v ∧ s.post enc C.prog fn apart fresh handsOn again W args v W') :
    ReturnsInHanded a C os f .any (fun w args => (s.pre enc C.prog fn conds apart w args ∧ X w args) ∧ sizedMet enc C.prog fn (OpenSpec.ofChange s) apart w args) (s.post enc C.prog fn apart fresh handsOn again) := by
  refine returnsInHanded_of_calls own started noInit witness ?_
  intro w tape i _ hsh _ hok hpre _
  obtain ⟨_, _, _, fn', hfn', _, _, _, _, hval⟩ := hok
  have e : fn' = fn := Option.some.inj (hfn'.symm.trans hfn)
  subst e
  obtain ⟨⟨⟨ds, gs, before, hw, _⟩, hx⟩, _⟩ := hpre
  have hw' := DataW.Whole.of_heap (w' := w.forCall tape i) (by rfl) hw
  refine (contract (w.forCall tape i) w.heap.size i.args ds gs before hval hw' (hX _ _ _ (by rfl) hx) hsh).mono fun e W' ⟨v, he, hp⟩ => ?_
  subst he
  exact ChangeSpec.post_blind hp
end Go.Vx
namespace Go.Proofs.YtbmchgjilkoplaaDoor
open Go.ChangeShapes Go.WideShapes Go.ChangeAt Go.RowKit Go.Deep
open Go.Vx

abbrev laid1 : List (String × DataW Unit) := [("vault/caps.noSlot", Rows.laid_vault_caps_noSlot)]
theorem gNs : Tryd.prog.globalNamed "vault/caps.noSlot" = some 0 := by kernel_rfl
theorem tNs : (Tryd.prog.globals[0]?).map (·.type) = some 62 := by kernel_rfl
theorem two_of {α : Type} : ∀ (l : List α), l.length = 2 → ∃ a b, l = [a, b]
  | [a, b], _ => ⟨a, b, rfl⟩
  | [], h => by simp at h
  | [_], h => by simp at h
  | _ :: _ :: _ :: _, h => by simp at h
theorem ns_cells {W : World} {fuel : Nat} {sp : Nat → Bool} {enc : TypeId × Value → Unit} {base : Nat} {held : Bool} {v0 v1 : Value} {q : List MemPlace}
    (h : DataW.trod enc Tryd.prog W base sp held fuel 62 [v0, v1] = some (Rows.laid_vault_caps_noSlot, q)) : v0 = .int .i64 (-1) ∧ v1 = .int .i64 (-1) := by
  obtain ⟨xs, k, hk, hxy, _, hxl, hfld⟩ := DataW.trod_struct Tryd.underlying62 h
  obtain ⟨y0, y1, rfl⟩ := two_of xs hxl
  have g0 := hfld 0 _ rfl
  have g1 := hfld 1 _ rfl
  simp [cInt] at g0 g1
  obtain ⟨n0, q0, d0, b0⟩ := DataW.trod_int Tryd.underlying3 g0
  obtain ⟨n1, q1, d1, b1⟩ := DataW.trod_int Tryd.underlying3 g1
  simp only [List.cons.injEq, and_true] at q0 q1
  subst q0 q1
  simp only [Prod.mk.injEq, Rows.laid_vault_caps_noSlot, List.map_cons, List.map_nil, DataW.agg.injEq, List.cons.injEq, and_true] at hxy
  obtain ⟨⟨h0, h1⟩, _⟩ := hxy
  rw [d0] at h0
  rw [d1] at h1
  simp only [DataW.lit.injEq, Lit.int.injEq, true_and] at h0 h1
  rw [← h0, ← h1]
  exact ⟨rfl, rfl⟩
theorem nsAt_of {W : World} (h : laidMetH Tryd.prog laid1 W) (hs : W.ShapedOpen Tryd.prog) : NsAt W := by
  rw [MakeChecks.laidMetH_plain _ _ _ (by kernel_rfl)] at h
  obtain ⟨ps, ⟨g0, t0, cs0, f0, p0, q0, hg0, ht0, hv0, hd0, _⟩, _⟩ := h
  obtain rfl := Option.some.inj (gNs.symm.trans hg0)
  obtain rfl := Option.some.inj (tNs.symm.trans ht0)
  obtain ⟨cs, hb, hsz, _⟩ := hs.1 0 #[.int .i64 0, .int .i64 0] 62 (by decide) (by kernel_rfl)
  have hv : W.var? Tryd.prog "vault/caps.noSlot" = some cs := by
    simp only [World.var?, gNs, Option.bind_some, hb]
  rw [hv] at hv0
  injection hv0 with hv0
  subst hv0
  have hl : cs.toList.length = 2 := by simpa using hsz
  obtain ⟨v0, v1, hvv⟩ := two_of _ hl
  rw [hvv] at hd0
  obtain ⟨rfl, rfl⟩ := ns_cells hd0
  have hcs : cs = #[.int .i64 (-1), .int .i64 (-1)] := by
    apply Array.toList_inj.1
    rw [hvv]
  unfold NsAt
  rw [hb, hcs]
/-- The door's own heap meets the condition. -/
theorem laid1_met (os : Os) (args : Array Value) : laidMetH Tryd.prog laid1 ((World.doorLaid Tryd.prog 400 os).forCall (fun _ _ => 0) ⟨#[], args, []⟩).memory :=
  laidMetH_of_parts3 (fuel := 8) (laidMet_of_run' 8 (by kernel_rfl) (by kernel_rfl)) (by kernel_rfl) (by kernel_rfl)
end Go.Proofs.YtbmchgjilkoplaaDoor

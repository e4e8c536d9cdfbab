/- SpecReads' law: letters, name. -/
import Derived.Test.YtgacifbpjdakaaaGreatDoorTD1
import Derived.Test.YtgacifbpjdakaaaGreatDoorPKP
import Derived.Test.YtgacifbpjdakaaaGreatDoorCG2
import Derived.Deep.RegionHeld3
import Derived.Deep.CutBlock
namespace Go.Vx
/-- Rights as they are written. -/
def letF (n : Nat) : List UInt8 := match n with
  | 0 => [45]
  | 1 => [114]
  | 2 => [119]
  | 3 => [119, 114]
  | 4 => [103]
  | 5 => [120, 114]
  | 6 => [103, 119]
  | _ => [114, 119, 120]
/-- The name of an object more. -/
def nmF (k : Nat) : List UInt8 := 110 :: Lib.decDigits k
end Go.Vx
namespace Go.Proofs.YtgacifbpjdakaaaGreatDoor
open Go.ChangeShapes Go.WideShapes Go.ChangeAt Go.RowKit
open Go.Vx
set_option linter.unusedVariables false

set_option maxHeartbeats 1000000 in
theorem letters_ok (n : Int) (h0 : -9223372036854775808 ≤ n) (h1 : n ≤ 9223372036854775807) (w : World) : Calls Tryz.prog 23 #[.int .i64 n] w fun e w' => e = .returned (.string ⟨(letF (pickL n 8)).toArray⟩) ∧ Only (fun _ => False) w w' := by
  have HP := Vx.hid (fun wv => pickK_any 8 (by decide) (by decide) n h0 h1 wv)
  have hlt : pickL n 8 < 8 := Nat.mod_lt _ (by decide)
  generalize pickL n 8 = k at HP hlt
  have HO : Hid (∀ o, Only (fun _ => False) w (w.alloc o)) := fun o => (Only.refl _ w).alloc o
  clear h0 h1
  go_enter Tryz.func23, Tryz.ntmps23
  rcases (show k = 0 ∨ k = 1 ∨ k = 2 ∨ k = 3 ∨ k = 4 ∨ k = 5 ∨ k = 6 ∨ k = 7 by omega) with rfl | rfl | rfl | rfl | rfl | rfl | rfl | rfl
  all_goals
    clear hlt
    go_wp2_with fail
    refine (HP.out _).mono ?_
    rintro e w2 ⟨rfl, rfl⟩
    go_wp2_with fail
    go_ret
    exact ⟨rfl, HO.out _⟩
theorem _root_.Go.Vx.Only.later {S T : Nat → Prop} {b c : World} {n : Nat} (h : Only S b c) (hn : n ≤ b.heap.size) (hs : ∀ k, S k → T k) : Only T b c := h.mono (fun k _ h9 => hs k h9)
variable {W w w2 : World} {xb : Nat} {vt vo vc vm vh vi vn va : Value} {T : Tx}
set_option maxHeartbeats 1000000 in
theorem name_ok (h : TxAt W w xb vt vo vc vm vh vi vn va T) (o : Sl) (hl : T.nm.length ≤ 1000) (hl2 : T.ar.length ≤ 1000) : Calls Tryz.prog 60 #[.pointer (some ⟨xb, 0, none⟩), .agg #[.int .i64 o.1, .int .i64 o.2]] w fun e w' => e = .returned (.string ⟨(nmF T.nm.length).toArray⟩) ∧ Hid (Only (fun k => k = xb ∨ vn.ownBlock = some k ∨ va.ownBlock = some k) w w') ∧
    Hid (∃ vn' va', TxAt W w' xb vt vo vc vm vh vi vn' va' { T with nm := T.nm ++ [nmF T.nm.length], ar := T.ar ++ [o] }) := by
  obtain ⟨o1, o2⟩ := o
  obtain ⟨pn, cn, rfl, _⟩ := h.ln.form
  obtain ⟨w1, hw1⟩ : ∃ w1, w1 = w.alloc (.cells #[.int .i64 o1, .int .i64 o2] 46) := ⟨_, rfl⟩
  obtain ⟨ob, hob⟩ : ∃ ob, ob = w.heap.size := ⟨_, rfl⟩
  have hoh : w1.heap[ob]? = some (.cells #[.int .i64 o1, .int .i64 o2] 46 (0, 0)) := by rw [hw1, hob]; exact heap_alloc_last w _
  have HH := Vx.hid (h.quiet (w2 := w1) (by rw [hw1]; exact (Only.refl _ w).alloc _))
  have HW1 : Hid (Only (fun _ => False) w w1) := by rw [hw1]; exact (Only.refl _ w).alloc _
  have HOB : Hid (w1.heap[ob]? = some (.cells #[.int .i64 o1, .int .i64 o2] 46 (0, 0)) ∧ w.heap.size ≤ ob) := ⟨hoh, by omega⟩
  have c10 := cell_of_row _ _ 10 _ _ (0, 0) HH.out.row
  simp only [List.getElem?_toArray, List.getElem?_cons_zero, List.getElem?_cons_succ] at c10
  have hnl : T.nm.length < 9223372036854775808 := by omega
  have HLN : Hid (T.nm.length + 1 ≤ 10000000 ∧ T.ar.length + 1 ≤ 10000000) := ⟨by omega, by omega⟩
  have HDL : Hid ((Lib.decDigits T.nm.length).length ≤ 20) := by show _ ≤ _; rw [Lib.decDigits_length]; exact nDig_le _ (by omega)
  have HDC := Vx.hid (fun wv => decimal_ok T.nm.length hnl wv)
  have HNF : Hid (nmF T.nm.length = 110 :: Lib.decDigits T.nm.length) := rfl
  generalize nmF T.nm.length = nf at HNF ⊢
  clear h hoh hl hl2 hnl
  dsimp only
  go_enter Tryz.func60, Tryz.ntmps60
  go_upto_region 1 with fail
  rw [← hw1, ← hob]
  clear hw1 hob
  go_wp2_with fail
  refine (HDC.out _).mono ?_
  rintro e w3 ⟨rfl, hb3⟩
  have ho3 : Only (fun _ => False) w1 w3 := Only.of_below hb3 (fun k hk h9 => by omega)
  have HW3 := Vx.hid (HW1.out.trans ho3)
  have HH3 := Vx.hid (HH.out.quiet ho3)
  have HO3 : Hid (w3.heap[ob]? = some (.cells #[.int .i64 o1, .int .i64 o2] 46 (0, 0))) := (ho3.block ob (lt_of_some HOB.out.1) (fun h => h)).trans HOB.out.1
  have HB3 : Hid (W.heap.size ≤ w3.heap.size) := HH3.out.be.size
  have hdl := HDL.out
  have HCT : Hid ((⟨#[110]⟩ : ByteArray) ++ ⟨(Lib.decDigits T.nm.length).toArray⟩ = ⟨nf.toArray⟩) := by
    show _ = _
    rw [HNF.out]
    exact catB [110] _
  replace c10 := cell_of_row _ _ 10 _ _ (0, 0) HH3.out.row
  simp only [List.getElem?_toArray, List.getElem?_cons_zero, List.getElem?_cons_succ] at c10
  clear hb3 ho3 HH HOB HDC
  go_upto_region 2 with fail
  clear hdl
  rw [HCT.out]
  clear HCT HNF HDL
  go_upto_region 3 with (at_builtin; refine wpList_append_one tKn _ rfl _ _ rfl W.heap.size (.slice pn T.nm.length cn) _ rfl HH3.out.ln nf _ _ rfl rfl rfl HLN.out.1 HB3.out ?_; intro v4 w4 hv1 hv2 hv3; obtain ⟨pA, cA, hvA, _⟩ := hv1.form; obtain ⟨nA, hnA⟩ : ∃ nA, nA = (T.nm ++ [nf]).length := ⟨_, rfl⟩; rw [← hnA] at hvA; subst hvA; clear hnA; have HV4 := Vx.hid hv2; have HP4 := Vx.hid (HH3.out.put_n hv1 hv2); have HO4 := Vx.hid ((hv2.block ob (lt_of_some HO3.out) (fun h9 => by obtain ⟨cur, h8⟩ := own_tag HH3.out.ln h9; exact tag_ne h8 HO3.out (by decide) rfl)).trans HO3.out); have c10 := cell_of_row _ _ 10 _ _ (0, 0) HP4.out.1; have f10 := froz HP4.out.1 10; simp only [List.getElem?_toArray, List.getElem?_cons_zero, List.getElem?_cons_succ] at c10; clear hv1 hv2 hv3)
  obtain ⟨w5, hw5⟩ : ∃ w5, w5 = w4.setCell ⟨xb, 10, none⟩ (.slice pA nA cA) := ⟨_, rfl⟩
  have HH5 := Vx.hid HP4.out.2
  have HO5 : Hid (w5.heap[ob]? = some (.cells #[.int .i64 o1, .int .i64 o2] 46 (0, 0))) := by
    show _ = _
    rw [hw5, RowKit.Below.heap_setCell _ _ _ _ (fun e => tag_ne HO4.out HP4.out.1 (by decide) e)]
    exact HO4.out
  have HW5 : Hid (Only (fun k => k = xb ∨ (Value.slice pn T.nm.length cn).ownBlock = some k ∨ va.ownBlock = some k) w w5) := by
    show Only _ _ _
    rw [hw5]
    exact Only.setCell (S := fun k => k = xb ∨ (Value.slice pn T.nm.length cn).ownBlock = some k ∨ va.ownBlock = some k) (p := ⟨xb, 10, none⟩) ((HW3.out.mono (fun _ _ h => h.elim)).trans (HV4.out.later HW3.out.size (fun k h9 => Or.inr (Or.inl h9)))) (Or.inl (Or.inl rfl)) _
  rw [← hw5] at HH5 ⊢
  obtain ⟨pa, ca, hva, _⟩ := HH5.out.la.form
  obtain ⟨na, hna⟩ : ∃ na, na = T.ar.length := ⟨_, rfl⟩
  dsimp only at hva
  rw [← hna] at hva
  subst hva
  have HB5 : Hid (W.heap.size ≤ w5.heap.size) := HH5.out.be.size
  have c11 := cell_of_row _ _ 11 _ _ (0, 0) HH5.out.row
  simp only [List.getElem?_toArray, List.getElem?_cons_zero, List.getElem?_cons_succ] at c11
  have e0 := (cell_of_row _ _ 0 _ _ (0, 0) HO5.out).trans rfl
  have e1 := (cell_of_row _ _ 1 _ _ (0, 0) HO5.out).trans rfl
  clear hna hw5 HP4 HO4 f10 HH3 HO3 HB3
  have hxl : xb < w5.heap.size := lt_of_some HH5.out.row
  have hol : ob < w5.heap.size := lt_of_some HO5.out
  obtain ⟨wd, hwd⟩ : ∃ wd, wd = (w5.alloc (.cells #[.int .i64 o1, .int .i64 o2] 46)).drew := ⟨_, rfl⟩
  have hond : Only (fun _ => False) w5 wd := by rw [hwd]; exact ((Only.refl _ w5).alloc _).drew
  have HYD : Hid (∀ j u, (slL.cf (o1, o2))[j]? = some u → wd.cell? ⟨w5.heap.size, j, none⟩ = some u) := fun j u hj => by
    have hl : wd.heap[w5.heap.size]? = some (.cells #[.int .i64 o1, .int .i64 o2] 46 (0, 0)) := by rw [hwd]; exact heap_alloc_last w5 _
    rw [cell_of_row _ _ j _ _ (0, 0) hl]
    simpa [slL, slC] using hj
  have HWD := Vx.hid (HW5.out.trans (hond.later HW5.out.size (fun k h9 => h9.elim)))
  have HHD := Vx.hid (HH5.out.quiet hond)
  have HBD : Hid (W.heap.size ≤ wd.heap.size) := HHD.out.be.size
  clear hond
  go_region_law (refine Vx.step_append_one tKa rfl (.tmp 27) (.tmp 29) rfl W.heap.size (.slice pa na ca) T.ar (by simp [Act.eval]) (by rw [← hwd]; exact HHD.out.la) (o1, o2) w5.heap.size 1 1 (by simp [Act.eval]) (by rw [← hwd]; exact HYD.out) HLN.out.2 (by rw [← hwd]; exact HBD.out) ?_; intro v' w6 hv1 hv2 hv3; rw [← hwd] at hv2 hv3; have HV6 := Vx.hid hv2; obtain ⟨⟨pq, mq, cq, rfl⟩, ⟨qx, hq1⟩, hq2, HQ5⟩ := HHD.out.st_a v' w6 _ hv1 hv2; clear hv1 hv2 hv3)
  all_goals
    go_wp2_with fail
    go_ret
    exact ⟨rfl, Only.setCell (p := ⟨xb, 11, none⟩) (HWD.out.trans (HV6.out.later HWD.out.size (fun k h9 => Or.inr (Or.inr h9)))) (Or.inl (Or.inl rfl)) _, _, _, HQ5.out⟩
end Go.Proofs.YtgacifbpjdakaaaGreatDoor

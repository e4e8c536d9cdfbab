import Derived.Test.YtbmchgjilkoplaaDoorCk10
import Derived.Deep.CutRange
/- Chapter 7, the document's store: cut. -/
namespace Go.Proofs.YtbmchgjilkoplaaDoor
open Go.ChangeShapes Go.WideShapes Go.ChangeAt Go.RowKit
open Go.Vx
set_option linter.unusedVariables false

/-- What came from a slot comes from another. -/
def cutY (a tt : Sl) (y : En) : En := if y.from' = a then ⟨y.at', y.cap, tt⟩ else y
def cutL (es : List En) (i : Nat) (tt : Sl) : List En := (es.eraseIdx i).map (cutY (es.getD i .df).at' tt)
def cutK (es : List En) (i : Nat) (a tt : Sl) (k : Nat) : List En := ((es.take k).eraseIdx i).map (cutY a tt)
theorem cutK_zero (es : List En) (i : Nat) (a tt : Sl) : cutK es i a tt 0 = [] := by simp [cutK]
theorem cutK_all (es : List En) (i : Nat) (a tt : Sl) : cutK es i a tt es.length = (es.eraseIdx i).map (cutY a tt) := by simp [cutK]
theorem cutK_skip (es : List En) (i : Nat) (a tt : Sl) (hi : i < es.length) : cutK es i a tt (i + 1) = cutK es i a tt i := by
  unfold cutK
  congr 1
  have h0 : (es.take i).length = i := by rw [List.length_take]; omega
  have h1 : (es.take i).eraseIdx i = es.take i := List.eraseIdx_of_length_le (by omega)
  rw [List.take_succ_eq_append_getElem hi, List.eraseIdx_append_of_length_le (by omega), h0, h1, Nat.sub_self]
  simp
theorem cutK_step (es : List En) (i : Nat) (a tt : Sl) (k : Nat) (hk : k < es.length) (hki : k ≠ i) : cutK es i a tt (k + 1) = cutK es i a tt k ++ [cutY a tt es[k]] := by
  unfold cutK
  rw [List.take_succ_eq_append_getElem hk]
  by_cases h : k < i
  · rw [List.eraseIdx_append_of_length_le (by rw [List.length_take]; omega), List.eraseIdx_of_length_le (l := es.take k) (by rw [List.length_take]; omega)]
    have : ([es[k]] : List En).eraseIdx (i - (es.take k).length) = [es[k]] := List.eraseIdx_of_length_le (by rw [List.length_take]; simp; omega)
    rw [this, List.map_append]
    rfl
  · rw [List.eraseIdx_append_of_lt_length (by rw [List.length_take]; omega), List.map_append]
    rfl
theorem cutK_len (es : List En) (i : Nat) (a tt : Sl) (k : Nat) : (cutK es i a tt k).length ≤ es.length := by
  unfold cutK
  rw [List.length_map]
  exact Nat.le_trans (List.length_eraseIdx_le _ _) (by rw [List.length_take]; omega)
def zeroEnA : Array Value := #[.int .i64 0, .int .i64 0, .int .i64 0, .int .i64 0, .int .i64 0, .int .u32 0, .int .u32 0, .int .i64 0, .int .i64 0, .int .u32 0, .int .i64 0, .int .i64 0]
/-- What stands between the rounds of cut. -/
structure CuR (U : Nat → Prop) (w : World) (rb : Nat) (vb ve : Value) (bs : List (Int × Int)) (es : List En) (B tb zb xb : Nat) (x : En) (tt : Sl) (v : Value) (ls : List En) (wr : World) : Prop where
  r0 : RsAt U w rb vb ve bs es
  on : Only (fun _ => False) w wr
  t : wr.heap[tb]? = some (.cells #[.int .i64 tt.1, .int .i64 tt.2] 62 (0, 0))
  z : wr.heap[zb]? = some (.cells zeroEnA 72 (0, 0))
  x : wr.heap[xb]? = some (.cells (enC x).toArray 72 (0, 0))
  own : OwnL enL wr B 72 v ls
  lt : tb < B ∧ zb < B ∧ xb < B ∧ w.heap.size ≤ tb ∧ w.heap.size ≤ zb ∧ w.heap.size ≤ xb ∧ B ≤ wr.heap.size ∧ w.heap.size ≤ B
theorem CuR.quiet {U : Nat → Prop} {w : World} {rb : Nat} {vb ve : Value} {bs : List (Int × Int)} {es : List En} {B tb zb xb : Nat} {x : En} {tt : Sl} {v : Value} {ls : List En} {wr wx : World} (h : CuR U w rb vb ve bs es B tb zb xb x tt v ls wr) (ho : Only (fun _ => False) wr wx) : CuR U w rb vb ve bs es B tb zb xb x tt v ls wx := by
  obtain ⟨l1, l2, l3, l4, l5, l6, l7, l8⟩ := h.lt
  exact ⟨h.r0, h.on.trans ho, by rw [ho.block tb (lt_of_some h.t) (fun h => h)]; exact h.t, by rw [ho.block zb (lt_of_some h.z) (fun h => h)]; exact h.z, by rw [ho.block xb (lt_of_some h.x) (fun h => h)]; exact h.x, h.own.kept ho (fun _ _ h => h), ⟨l1, l2, l3, l4, l5, l6, Nat.le_trans l7 ho.size, l8⟩⟩
/-- One more in the list. -/
theorem CuR.push {U : Nat → Prop} {w : World} {rb : Nat} {vb ve : Value} {bs : List (Int × Int)} {es : List En} {B tb zb xb : Nat} {x : En} {tt : Sl} {v v' : Value} {ls ls' : List En} {wr wx : World} (h : CuR U w rb vb ve bs es B tb zb xb x tt v ls wr) (ho : OwnL enL wx B 72 v' ls') (hon : Only (fun k => v.ownBlock = some k) wr wx) : CuR U w rb vb ve bs es B tb zb xb x tt v' ls' wx := by
  obtain ⟨l1, l2, l3, l4, l5, l6, l7, l8⟩ := h.lt
  have hv : ∀ k, v.ownBlock = some k → B ≤ k := fun k hk => (World.ownsRow.lt h.own k hk).1
  have hon2 : Only (fun _ => False) w wx := h.on.beyond hon (fun k hk => Nat.le_trans l8 (hv k hk))
  have hb : ∀ j, j < B → j < wr.heap.size → wx.heap[j]? = wr.heap[j]? := fun j hj hl => hon.block j hl (fun e => by have := hv j e; omega)
  exact ⟨h.r0, hon2, (hb tb l1 (lt_of_some h.t)).trans h.t, (hb zb l2 (lt_of_some h.z)).trans h.z, (hb xb l3 (lt_of_some h.x)).trans h.x, ho, ⟨l1, l2, l3, l4, l5, l6, Nat.le_trans l7 hon.size, l8⟩⟩
set_option maxRecDepth 100000 in
set_option maxHeartbeats 4000000 in
theorem cut_ok {U : Nat → Prop} {w : World} {rb : Nat} {vb ve : Value} {bs : List (Int × Int)} {es : List En} (h : RsAt U w rb vb ve bs es) (i : Nat) (hi : i < es.length) (tt : Sl) : Calls Tryd.prog 65 #[.pointer (some ⟨rb, 0, none⟩), .int .i64 (i : Int), .agg #[.int .i64 tt.1, .int .i64 tt.2]] w fun e w' => e = .returned (.agg (enC es[i]).toArray) ∧ RcAt U w' rb bs (cutL es i tt) ∧ Only (fun k => ¬ U k) w w' := by
  obtain ⟨t1, t2⟩ := tt
  have HCL : Hid (cutL es i (t1, t2) = cutK es i es[i].at' (t1, t2) es.length) := by show cutL es i (t1, t2) = _; rw [cutK_all]; unfold cutL; rw [show es.getD i .df = es[i] by simp [hi]]
  obtain ⟨w1, hw1⟩ : ∃ w1, w1 = (w.alloc (.cells #[.int .i64 t1, .int .i64 t2] 62)).alloc (.cells zeroEnA 72) := ⟨_, rfl⟩
  have hon : Only (fun _ => False) w w1 := by rw [hw1]; exact ((Only.refl _ w).alloc _).alloc _
  have hT : w1.heap[w.heap.size]? = some (.cells #[.int .i64 t1, .int .i64 t2] 62 (0, 0)) := by
    rw [hw1, Below.heap_alloc _ _ _ (by simp)]
    exact heap_alloc_last w _
  have hZ : w1.heap[w.heap.size + 1]? = some (.cells zeroEnA 72 (0, 0)) := by rw [hw1]; exact new_second (Only.refl _ _)
  have hs1 : w1.heap.size = w.heap.size + 2 := by rw [hw1]; simp
  have h1 := h.quiet hon
  obtain ⟨g, c, hve, hE⟩ := h1.e12 i hi
  have c1 := h1.c1
  have HH := Vx.hid h
  have HVE := Vx.hid hve
  rw [hve] at c1
  have hne := h.ne
  have hen := h.en
  obtain ⟨x, hx⟩ : ∃ x, x = es[i] := ⟨_, rfl⟩
  rw [← hx] at hE HCL ⊢
  obtain ⟨a0, a1, a2, a3, a4, a5, a6, a7, a8, a9, a10, a11⟩ := hE
  obtain ⟨N, hN⟩ : ∃ N, N = es.length := ⟨_, rfl⟩
  have HN := Vx.hid hN
  have HI := Vx.hid hi
  rw [← hN] at c1 hne hi
  have hidx : 0 ≤ (i : Int) ∧ (i : Int) < (N : Int) := by omega
  obtain ⟨⟨xa1, xa2⟩, ⟨xc0, xc1, xc2, xc3, xc4, xc5, xc6, xc7⟩, ⟨xf1, xf2⟩⟩ := x
  dsimp only at a0 a1 a2 a3 a4 a5 a6 a7 a8 a9 a10 a11 HCL
  have HX := Vx.hid hx
  have HW1 := Vx.hid (⟨hon, hT, hZ, hs1⟩ : _ ∧ _ ∧ _ ∧ _)
  clear h hve hN hx h1 hen hon hT hZ hs1
  unfold zeroEnA at hw1
  dsimp only
  go_enter Tryd.func65, Tryd.ntmps65
  go_upto_region 1 with fail
  rw [← hw1]
  clear hw1
  go_wp2_with fail
  obtain ⟨w2, hw2⟩ : ∃ w2, w2 = w1.alloc (.cells #[.int .i64 xa1, .int .i64 xa2, .int .i64 xc0, .int .i64 xc1, .int .i64 xc2, .int .u32 xc3, .int .u32 xc4, .int .i64 xc5, .int .i64 xc6, .int .u32 xc7, .int .i64 xf1, .int .i64 xf2] 72) := ⟨_, rfl⟩
  rw [← hw2]
  obtain ⟨xb, hxb⟩ : ∃ xb, xb = w1.heap.size := ⟨_, rfl⟩
  obtain ⟨tb, htb⟩ : ∃ tb, tb = w.heap.size := ⟨_, rfl⟩
  obtain ⟨zb, hzb⟩ : ∃ zb, zb = w.heap.size + 1 := ⟨_, rfl⟩
  obtain ⟨B, hB⟩ : ∃ B, B = w1.heap.size + 1 := ⟨_, rfl⟩
  have H0 : Hid (CuR U w rb vb ve bs es B tb zb xb ⟨(xa1, xa2), ⟨xc0, xc1, xc2, xc3, xc4, xc5, xc6, xc7⟩, (xf1, xf2)⟩ (t1, t2) (.slice none 0 0) (cutK es i (xa1, xa2) (t1, t2) 0) w2) := by
    obtain ⟨q1, q2, q3, q4⟩ := HW1.out
    have hon : Only (fun _ => False) w1 w2 := by rw [hw2]; exact (Only.refl _ w1).alloc _
    have hs2 : w2.heap.size = w1.heap.size + 1 := by rw [hw2]; simp
    refine ⟨HH.out, q1.trans hon, ?_, ?_, ?_, ?_, ?_⟩
    · rw [htb, hon.block _ (lt_of_some q2) (fun h => h)]; exact q2
    · rw [hzb, hon.block _ (lt_of_some q3) (fun h => h)]; exact q3
    · rw [hxb, hw2]; exact heap_alloc_last w1 _
    · rw [cutK_zero]; exact OwnL.nil _ _ _ _
    · refine ⟨?_, ?_, ?_, ?_, ?_, ?_, ?_, ?_⟩ <;> omega
  rw [← hzb, ← htb, ← hxb]
  have HOL := Vx.hid (⟨htb, hzb, hxb⟩ : _ ∧ _ ∧ _)
  clear hw2 hxb htb hzb hB HW1 a0 a1 a2 a3 a4 a5 a6 a7 a8 a9 a10 a11 c1
  go_loopw [8, 9] (fun v d wr => ∃ k : Nat, d = .int .i64 (k : Int) ∧ k ≤ N ∧ Hid (CuR U w rb vb ve bs es B tb zb xb ⟨(xa1, xa2), ⟨xc0, xc1, xc2, xc3, xc4, xc5, xc6, xc7⟩, (xf1, xf2)⟩ (t1, t2) v (cutK es i (xa1, xa2) (t1, t2) k) wr)) (fun _ d _ => N - (intOf d).toNat)
  case atStart => exact ⟨0, rfl, by omega, H0⟩
  case round =>
    clear H0
    obtain ⟨k, rfl, hk, HR⟩ := hrel
    obtain ⟨pv, cv, hvf, _⟩ := HR.out.own.form
    obtain ⟨m, hm⟩ : ∃ m, m = (cutK es i (xa1, xa2) (t1, t2) k).length := ⟨_, rfl⟩
    rw [← hm] at hvf
    subst hvf
    have hrs := HR.out.r0.quiet HR.out.on
    have c1 := hrs.c1
    rw [HVE.out, ← HN.out] at c1
    by_cases hlt : k < N
    · have hkl : k < es.length := by have := HN.out; omega
      have h1 : (k : Int) < (N : Int) := by omega
      have hidk : 0 ≤ (k : Int) ∧ (k : Int) < (N : Int) := by omega
      have hwk : IntKind.i64.wrap ((k : Int) + 1) = (k : Int) + 1 := by rw [IntKind.wrap_i64]; omega
      obtain ⟨g', c', hve', hE⟩ := hrs.e12 k hkl
      obtain rfl : g = g' := by have := HVE.out.symm.trans hve'; simp at this; exact this.1
      obtain ⟨y, hy⟩ : ∃ y, y = es[k] := ⟨_, rfl⟩
      rw [← hy] at hE
      obtain ⟨a0, a1, a2, a3, a4, a5, a6, a7, a8, a9, a10, a11⟩ := hE
      obtain ⟨⟨ya1, ya2⟩, ⟨yc0, yc1, yc2, yc3, yc4, yc5, yc6, yc7⟩, ⟨yf1, yf2⟩⟩ := y
      dsimp only at a0 a1 a2 a3 a4 a5 a6 a7 a8 a9 a10 a11
      have HY := Vx.hid hy
      have x0 : wr.cell? ⟨xb, 0, none⟩ = some (.int .i64 xa1) := (cell_of_row _ _ 0 _ _ (0, 0) HR.out.x).trans rfl
      have x1 : wr.cell? ⟨xb, 1, none⟩ = some (.int .i64 xa2) := (cell_of_row _ _ 1 _ _ (0, 0) HR.out.x).trans rfl
      have tc0 : wr.cell? ⟨tb, 0, none⟩ = some (.int .i64 t1) := (cell_of_row _ _ 0 _ _ (0, 0) HR.out.t).trans rfl
      have tc1 : wr.cell? ⟨tb, 1, none⟩ = some (.int .i64 t2) := (cell_of_row _ _ 1 _ _ (0, 0) HR.out.t).trans rfl
      have nx : xb < wr.heap.size := lt_of_some HR.out.x
      have nt : tb < wr.heap.size := lt_of_some HR.out.t
      have HLE : Hid ((cutK es i (xa1, xa2) (t1, t2) k).length + 1 ≤ 10000000) := by
        have h3 := cutK_len es i (xa1, xa2) (t1, t2) k
        have h4 := HN.out
        show _ + 1 ≤ 10000000
        omega
      have HBL : Hid (∀ o, B ≤ (wr.alloc o).heap.size) := fun o => by
        have h3 := HR.out.lt.2.2.2.2.2.2.1
        show B ≤ (wr.alloc o).heap.size
        simp
        omega
      have HSZ : Hid (∀ o, wr.heap.size + 1 = (wr.alloc o).heap.size) := fun o => by simp
      have HQA := Vx.hid (fun o => HR.out.quiet ((Only.refl _ wr).alloc o))
      have HOW := Vx.hid (fun o => (HR.out.quiet ((Only.refl _ wr).alloc o)).own)
      have HSK : k = i → Hid (cutK es i (xa1, xa2) (t1, t2) (k + 1) = cutK es i (xa1, xa2) (t1, t2) k) := fun h => by subst h; exact cutK_skip es k _ _ hkl
      have HST : k ≠ i → Hid (cutK es i (xa1, xa2) (t1, t2) (k + 1) = cutK es i (xa1, xa2) (t1, t2) k ++ [cutY (xa1, xa2) (t1, t2) es[k]]) := fun h => cutK_step es i _ _ k hkl h
      clear hve' hy hrs hlt hm
      by_cases hki : k = i
      · subst hki
        replace HSK := HSK rfl
        clear HST
        by_cases e1 : yf1 = xa1
        · subst e1
          by_cases e2 : yf2 = xa2
          · subst e2
            go_wp2_with fail
            go_roundw
            case rel => exact ⟨k + 1, by go_num, by omega, by rw [HSK.out]; exact HR.out.quiet (by repeat' (first | refine Only.alloc ?_ _ | exact Only.refl _ _))⟩
            case measure => simp only [intOf]; omega
          · have he : (yf2 == xa2) = false := beq_eq_false_iff_ne.2 e2
            go_wp2_with fail
            go_roundw
            case rel => exact ⟨k + 1, by go_num, by omega, by rw [HSK.out]; exact HR.out.quiet (by repeat' (first | refine Only.alloc ?_ _ | exact Only.refl _ _))⟩
            case measure => simp only [intOf]; omega
        · have he : (yf1 == xa1) = false := beq_eq_false_iff_ne.2 e1
          go_wp2_with fail
          go_roundw
          case rel => exact ⟨k + 1, by go_num, by omega, by rw [HSK.out]; exact HR.out.quiet (by repeat' (first | refine Only.alloc ?_ _ | exact Only.refl _ _))⟩
          case measure => simp only [intOf]; omega
      · replace HST := HST hki
        clear HSK
        have hkn : ((k : Int) == (i : Int)) = false := beq_eq_false_iff_ne.2 (by omega)
        have hkn2 : ((k : Int) != (i : Int)) = true := by simp; omega
        by_cases e1 : yf1 = xa1
        · subst e1
          by_cases e2 : yf2 = xa2
          · subst e2
            have HCY : Hid (cutY (yf1, yf2) (t1, t2) es[k] = ⟨(ya1, ya2), ⟨yc0, yc1, yc2, yc3, yc4, yc5, yc6, yc7⟩, (t1, t2)⟩) := by show cutY _ _ es[k] = _; rw [← HY.out]; exact if_pos rfl
            go_wp2_with (at_builtin; go_loud (refine wpList_append_one enK _ rfl _ _ rfl B (.slice pv m cv) _ rfl (HOW.out _) ⟨(ya1, ya2), ⟨yc0, yc1, yc2, yc3, yc4, yc5, yc6, yc7⟩, (t1, t2)⟩ _ _ rfl (HSZ.out _) rfl HLE.out (HBL.out _) ?_); intro v' w5 hv1 hv2 hv3; have HNX := Vx.hid ((HQA.out _).push hv1 hv2); obtain ⟨p', c', hv', _⟩ := hv1.form; clear hv1 hv2 hv3 hv')
            go_roundw
            case rel => exact ⟨k + 1, by go_num, by omega, by rw [HST.out, HCY.out]; exact HNX⟩
            case measure => simp only [intOf]; omega
          · have he : (yf2 == xa2) = false := beq_eq_false_iff_ne.2 e2
            have hdf : ¬ ((yf1, yf2) : Sl) = (yf1, xa2) := fun h => e2 (by simpa using h)
            have HCY : Hid (cutY (yf1, xa2) (t1, t2) es[k] = ⟨(ya1, ya2), ⟨yc0, yc1, yc2, yc3, yc4, yc5, yc6, yc7⟩, (yf1, yf2)⟩) := by show cutY _ _ es[k] = _; rw [← HY.out]; exact if_neg hdf
            go_wp2_with (at_builtin; go_loud (refine wpList_append_one enK _ rfl _ _ rfl B (.slice pv m cv) _ rfl (HOW.out _) ⟨(ya1, ya2), ⟨yc0, yc1, yc2, yc3, yc4, yc5, yc6, yc7⟩, (yf1, yf2)⟩ _ _ rfl (HSZ.out _) rfl HLE.out (HBL.out _) ?_); intro v' w5 hv1 hv2 hv3; have HNX := Vx.hid ((HQA.out _).push hv1 hv2); obtain ⟨p', c', hv', _⟩ := hv1.form; clear hv1 hv2 hv3 hv')
            go_roundw
            case rel => exact ⟨k + 1, by go_num, by omega, by rw [HST.out, HCY.out]; exact HNX⟩
            case measure => simp only [intOf]; omega
        · have he : (yf1 == xa1) = false := beq_eq_false_iff_ne.2 e1
          have hdf : ¬ ((yf1, yf2) : Sl) = (xa1, xa2) := fun h => e1 (by simpa using congrArg Prod.fst h)
          have HCY : Hid (cutY (xa1, xa2) (t1, t2) es[k] = ⟨(ya1, ya2), ⟨yc0, yc1, yc2, yc3, yc4, yc5, yc6, yc7⟩, (yf1, yf2)⟩) := by show cutY _ _ es[k] = _; rw [← HY.out]; exact if_neg hdf
          go_wp2_with (at_builtin; go_loud (refine wpList_append_one enK _ rfl _ _ rfl B (.slice pv m cv) _ rfl (HOW.out _) ⟨(ya1, ya2), ⟨yc0, yc1, yc2, yc3, yc4, yc5, yc6, yc7⟩, (yf1, yf2)⟩ _ _ rfl (HSZ.out _) rfl HLE.out (HBL.out _) ?_); intro v' w5 hv1 hv2 hv3; have HNX := Vx.hid ((HQA.out _).push hv1 hv2); obtain ⟨p', c', hv', _⟩ := hv1.form; clear hv1 hv2 hv3 hv')
          go_roundw
          case rel => exact ⟨k + 1, by go_num, by omega, by rw [HST.out, HCY.out]; exact HNX⟩
          case measure => simp only [intOf]; omega
    · obtain rfl : k = N := by omega
      have h1 : ¬ (k : Int) < (k : Int) := by omega
      have hvl : ∀ k, (Value.slice pv m cv).ownBlock = some k → B ≤ k := fun k hk => (own_lt HR.out.own hk).1
      obtain ⟨l1, l2, l3, l4, l5, l6, l7, l8⟩ := HR.out.lt
      have hln : (cutK es i (xa1, xa2) (t1, t2) k).length ≤ 1000000 := Nat.le_trans (cutK_len es i _ _ k) HH.out.ne
      obtain ⟨⟨q0, hq0⟩, hf0, hR9, hO9⟩ := HH.out.setE (own_zero HR.out.own) (HR.out.on.mono (fun _ _ h => h.elim)) (fun j hj => Or.inr (Nat.le_trans l8 (hvl j hj))) hln
      have hrl := lt_of_some HH.out.r
      clear hlt hrs hm
      go_upto_region 12 with fail
      obtain ⟨w9, hw9⟩ : ∃ w9, w9 = wr.setCell ⟨rb, 1, none⟩ (.slice pv m cv) := ⟨_, rfl⟩
      rw [← hw9] at hR9 hO9 ⊢
      have hon9 : Only (fun b => b = rb) wr w9 := by rw [hw9]; exact Only.setCell (S := fun b => b = rb) (Only.refl _ wr) (Or.inl rfl) _
      have hx9 := (hon9.block xb (lt_of_some HR.out.x) (by omega)).trans HR.out.x
      have hz9 := (hon9.block zb (lt_of_some HR.out.z) (by omega)).trans HR.out.z
      unfold zeroEnA at hz9
      have x0 : w9.cell? ⟨xb, 0, none⟩ = some (.int .i64 xa1) := (cell_of_row _ _ 0 _ _ (0, 0) hx9).trans rfl
      have x1 : w9.cell? ⟨xb, 1, none⟩ = some (.int .i64 xa2) := (cell_of_row _ _ 1 _ _ (0, 0) hx9).trans rfl
      have x2 : w9.cell? ⟨xb, 2, none⟩ = some (.int .i64 xc0) := (cell_of_row _ _ 2 _ _ (0, 0) hx9).trans rfl
      have x3 : w9.cell? ⟨xb, 3, none⟩ = some (.int .i64 xc1) := (cell_of_row _ _ 3 _ _ (0, 0) hx9).trans rfl
      have x4 : w9.cell? ⟨xb, 4, none⟩ = some (.int .i64 xc2) := (cell_of_row _ _ 4 _ _ (0, 0) hx9).trans rfl
      have x5 : w9.cell? ⟨xb, 5, none⟩ = some (.int .u32 xc3) := (cell_of_row _ _ 5 _ _ (0, 0) hx9).trans rfl
      have x6 : w9.cell? ⟨xb, 6, none⟩ = some (.int .u32 xc4) := (cell_of_row _ _ 6 _ _ (0, 0) hx9).trans rfl
      have x7 : w9.cell? ⟨xb, 7, none⟩ = some (.int .i64 xc5) := (cell_of_row _ _ 7 _ _ (0, 0) hx9).trans rfl
      have x8 : w9.cell? ⟨xb, 8, none⟩ = some (.int .i64 xc6) := (cell_of_row _ _ 8 _ _ (0, 0) hx9).trans rfl
      have x9 : w9.cell? ⟨xb, 9, none⟩ = some (.int .u32 xc7) := (cell_of_row _ _ 9 _ _ (0, 0) hx9).trans rfl
      have x10 : w9.cell? ⟨xb, 10, none⟩ = some (.int .i64 xf1) := (cell_of_row _ _ 10 _ _ (0, 0) hx9).trans rfl
      have x11 : w9.cell? ⟨xb, 11, none⟩ = some (.int .i64 xf2) := (cell_of_row _ _ 11 _ _ (0, 0) hx9).trans rfl
      have z0 : w9.cell? ⟨zb, 0, none⟩ = some (.int .i64 0) := (cell_of_row _ _ 0 _ _ (0, 0) hz9).trans rfl
      have z1 : w9.cell? ⟨zb, 1, none⟩ = some (.int .i64 0) := (cell_of_row _ _ 1 _ _ (0, 0) hz9).trans rfl
      have z2 : w9.cell? ⟨zb, 2, none⟩ = some (.int .i64 0) := (cell_of_row _ _ 2 _ _ (0, 0) hz9).trans rfl
      have z3 : w9.cell? ⟨zb, 3, none⟩ = some (.int .i64 0) := (cell_of_row _ _ 3 _ _ (0, 0) hz9).trans rfl
      have z4 : w9.cell? ⟨zb, 4, none⟩ = some (.int .i64 0) := (cell_of_row _ _ 4 _ _ (0, 0) hz9).trans rfl
      have z5 : w9.cell? ⟨zb, 5, none⟩ = some (.int .u32 0) := (cell_of_row _ _ 5 _ _ (0, 0) hz9).trans rfl
      have z6 : w9.cell? ⟨zb, 6, none⟩ = some (.int .u32 0) := (cell_of_row _ _ 6 _ _ (0, 0) hz9).trans rfl
      have z7 : w9.cell? ⟨zb, 7, none⟩ = some (.int .i64 0) := (cell_of_row _ _ 7 _ _ (0, 0) hz9).trans rfl
      have z8 : w9.cell? ⟨zb, 8, none⟩ = some (.int .i64 0) := (cell_of_row _ _ 8 _ _ (0, 0) hz9).trans rfl
      have z9 : w9.cell? ⟨zb, 9, none⟩ = some (.int .u32 0) := (cell_of_row _ _ 9 _ _ (0, 0) hz9).trans rfl
      have z10 : w9.cell? ⟨zb, 10, none⟩ = some (.int .i64 0) := (cell_of_row _ _ 10 _ _ (0, 0) hz9).trans rfl
      have z11 : w9.cell? ⟨zb, 11, none⟩ = some (.int .i64 0) := (cell_of_row _ _ 11 _ _ (0, 0) hz9).trans rfl
      have zf : ∀ j, w9.frozen? ⟨zb, j, none⟩ = false := fun j => by simp [World.frozen?, hz9]
      have n1 : ¬ rb = zb := by omega
      have n2 : ∀ j, vb.ownBlock = some j → ¬ j = zb := fun j hj => by have := (own_lt HH.out.b hj).2; omega
      have n3 : ∀ j, (Value.slice pv m cv).ownBlock = some j → ¬ j = zb := fun j hj => by have := hvl j hj; omega
      have HF := Vx.hid (⟨hR9, hO9, n1, n2, n3, l5⟩ : _ ∧ _ ∧ _ ∧ _ ∧ _ ∧ _)
      rw [← HN.out] at HCL
      clear hw9 hon9 hx9 hz9 hR9 hO9 n1 n2 n3 hvl l1 l2 l3 l4 l5 l6 l7 l8 hln hq0 hf0 hrl c1 HR
      go_wp2_with fail
      refine bodyPost_ret (v := .agg #[.int .i64 xa1, .int .i64 xa2, .int .i64 xc0, .int .i64 xc1, .int .i64 xc2, .int .u32 xc3, .int .u32 xc4, .int .i64 xc5, .int .i64 xc6, .int .u32 xc7, .int .i64 xf1, .int .i64 xf2]) ?_ rfl ⟨rfl, ?_, ?_⟩
      · simp [results, Tryd.results65, go_sem, z0, z1, z2, z3, z4, z5, z6, z7, z8, z9, z10, z11]
      · rw [HCL.out]
        exact ⟨_, _, RsAt.aside (S := fun b => b = zb) HF.out.1 (only_set12 _ _ _ _ _ _ _ _ _ _ _ _ _ _) HF.out.2.2.1 HF.out.2.2.2.1 HF.out.2.2.2.2.1⟩
      · exact HF.out.2.1.newer (only_set12 _ _ _ _ _ _ _ _ _ _ _ _ _ _) HF.out.2.2.2.2.2
end Go.Proofs.YtbmchgjilkoplaaDoor

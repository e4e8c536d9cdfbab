import Derived.Test.YtfgdlbclmihghaaDoorCq33
/- Chapter 7, the program's store: Holders. -/
namespace Go.Proofs.YtfgdlbclmihghaaDoor
open Go.ChangeShapes Go.WideShapes Go.ChangeAt Go.RowKit
open Go.Vx
set_option linter.unusedVariables false
variable {U : Nat → Prop} {w : World} {xb mb : Nat} {D : DataW Value} {G : Int → Nat} {bs : List (Int × Int)} {es : List En} {Q : Sl → Pl}

theorem XcAt.quiet {w2 : World} (h : XcAt U w xb bs es) (ho : Only (fun _ => False) w w2) : XcAt U w2 xb bs es := by
  obtain ⟨mb, D, G, h, hf, hx, hl⟩ := h
  exact ⟨mb, D, G, h.quiet ho, hf, hx, hl⟩
theorem entry_cells {w : World} {b : Nat} {x0 x1 x2 x3 x4 x5 x6 x7 x8 x9 x10 x11 : Value} (h : w.heap[b]? = some (.cells #[x0, x1, x2, x3, x4, x5, x6, x7, x8, x9, x10, x11] 72 (0, 0))) : (w.cell? ⟨b, 0, none⟩ = some x0 ∧ w.cell? ⟨b, 1, none⟩ = some x1 ∧ w.cell? ⟨b, 2, none⟩ = some x2 ∧ w.cell? ⟨b, 3, none⟩ = some x3 ∧ w.cell? ⟨b, 4, none⟩ = some x4 ∧ w.cell? ⟨b, 5, none⟩ = some x5 ∧ w.cell? ⟨b, 6, none⟩ = some x6 ∧ w.cell? ⟨b, 7, none⟩ = some x7 ∧ w.cell? ⟨b, 8, none⟩ = some x8 ∧ w.cell? ⟨b, 9, none⟩ = some x9 ∧ w.cell? ⟨b, 10, none⟩ = some x10 ∧ w.cell? ⟨b, 11, none⟩ = some x11) ∧ ∀ j, w.frozen? ⟨b, j, none⟩ = false :=
  ⟨⟨(cell_of_row _ _ 0 _ _ (0, 0) h).trans rfl, (cell_of_row _ _ 1 _ _ (0, 0) h).trans rfl, (cell_of_row _ _ 2 _ _ (0, 0) h).trans rfl, (cell_of_row _ _ 3 _ _ (0, 0) h).trans rfl, (cell_of_row _ _ 4 _ _ (0, 0) h).trans rfl, (cell_of_row _ _ 5 _ _ (0, 0) h).trans rfl, (cell_of_row _ _ 6 _ _ (0, 0) h).trans rfl, (cell_of_row _ _ 7 _ _ (0, 0) h).trans rfl, (cell_of_row _ _ 8 _ _ (0, 0) h).trans rfl, (cell_of_row _ _ 9 _ _ (0, 0) h).trans rfl, (cell_of_row _ _ 10 _ _ (0, 0) h).trans rfl, (cell_of_row _ _ 11 _ _ (0, 0) h).trans rfl⟩, fun j => by simp [World.frozen?, h]⟩
/-- What stands between the rounds of Holders. -/
structure HoR (w : World) (ob : Nat) (o : Sl) (ev : Value) (es : List En) (v : Value) (ls : List Sl) (wr : World) : Prop where
  on : Only (fun _ => False) w wr
  o0 : wr.heap[ob]? = some (.cells #[.int .i64 o.1, .int .i64 o.2] 60 (0, 0))
  nu : OwnL enL wr w.heap.size 72 ev es
  ow : OwnL slL wr w.heap.size 62 v ls
theorem HoR.quiet {w : World} {ob : Nat} {o : Sl} {ev : Value} {v : Value} {ls : List Sl} {wr wx : World} (h : HoR w ob o ev es v ls wr) (ho : Only (fun _ => False) wr wx) : HoR w ob o ev es v ls wx :=
  ⟨h.on.trans ho, by rw [ho.block ob (lt_of_some h.o0) (fun h => h)]; exact h.o0, h.nu.kept ho (fun _ _ h => h), h.ow.kept ho (fun _ _ h => h)⟩
theorem HoR.push {w : World} {ob : Nat} {o : Sl} {ev : Value} {v v2 : Value} {ls ls2 : List Sl} {wr wx : World} (h : HoR w ob o ev es v ls wr) (ho : OwnL slL wx w.heap.size 62 v2 ls2) (hon : Only (fun k => v.ownBlock = some k) wr wx) : HoR w ob o ev es v2 ls2 wx :=
  ⟨h.on.beyond hon (fun k hk => (own_lt h.ow hk).1), by
    rw [hon.block ob (lt_of_some h.o0) (fun e => by
      obtain ⟨c2, h2⟩ := own_tag h.ow e
      exact tag_ne h.o0 h2 (by decide) rfl)]
    exact h.o0, h.nu.kept hon (fun k hk e => by
    obtain ⟨c1, h1⟩ := own_tag h.nu hk
    obtain ⟨c2, h2⟩ := own_tag h.ow e
    exact tag_ne h1 h2 (by decide) rfl), ho⟩
set_option maxRecDepth 100000 in
set_option maxHeartbeats 4000000 in
theorem xholders_ok (hc : XcAt U w xb bs es) (o : Sl) : Calls Tryd.prog 16 #[.pointer (some ⟨xb, 0, none⟩), .agg #[.int .i64 o.1, .int .i64 o.2]] w fun e w' => ∃ v, e = .returned v ∧ OwnL slL w' w.heap.size 62 v (holdF es o) ∧ Only (fun _ => False) w w' := by
  obtain ⟨o1, o2⟩ := o
  obtain ⟨w1, hw1⟩ : ∃ w1, w1 = w.alloc (.cells #[.int .i64 o1, .int .i64 o2] 60) := ⟨_, rfl⟩
  have hon : Only (fun _ => False) w w1 := by rw [hw1]; exact (Only.refl _ w).alloc _
  have hob : w1.heap[w.heap.size]? = some (.cells #[.int .i64 o1, .int .i64 o2] 60 (0, 0)) := by rw [hw1]; exact heap_alloc_last w _
  have HEN := Vx.hid (xentries_ok (hc.quiet hon))
  have hl : es.length ≤ 1000000 := by obtain ⟨_, _, _, _, _, _, h⟩ := hc; exact h
  have HON := Vx.hid (⟨hon, hob⟩ : _ ∧ _)
  have HSZ : Hid (w.heap.size ≤ w1.heap.size) := hon.size
  clear hc hon hob
  dsimp only
  go_enter Tryd.func16, Tryd.ntmps16
  go_upto_region 2 with fail
  rw [← hw1]
  obtain ⟨ob, hob2⟩ : ∃ ob, ob = w.heap.size := ⟨_, rfl⟩
  rw [← hob2] at HON ⊢
  have HOB := Vx.hid hob2
  clear hw1 hob2
  go_wp2_with fail
  refine HEN.out.mono ?_
  rintro e w2 ⟨ev, rfl, hev, hon2⟩
  have H0 : Hid (HoR w ob (o1, o2) ev es (.slice none 0 0) (holdF (es.take 0) (o1, o2)) w2) := ⟨HON.out.1.trans hon2, by rw [hon2.block ob (lt_of_some HON.out.2) (fun h => h)]; exact HON.out.2, own_base hev HSZ.out, OwnL.nil _ _ _ _⟩
  obtain ⟨ep, ec, hevf, _, _, heg⟩ := hev.form
  obtain ⟨N, hN⟩ : ∃ N, N = es.length := ⟨_, rfl⟩
  have HN := Vx.hid hN
  rw [← hN] at hevf hl
  subst hevf
  have HG : Hid (0 < N → ∃ g, ep = some ⟨g, 0, none⟩) := fun h => by
    obtain ⟨g, h1, _⟩ := heg (by omega)
    exact ⟨g, h1⟩
  clear hev hon2 heg hN HEN HON HSZ HOB
  go_wp2_with fail
  go_loopw [5, 7, 11] (fun v _ d wr => ∃ k : Nat, d = .int .i64 (k : Int) ∧ k ≤ N ∧ Hid (HoR w ob (o1, o2) (.slice ep N ec) es v (holdF (es.take k) (o1, o2)) wr)) (fun _ _ d _ => N - (RowKit.intOf d).toNat)
  case atStart => exact ⟨0, rfl, by omega, H0⟩
  case round =>
    clear H0
    obtain ⟨k, rfl, hk, HR⟩ := hrel
    obtain ⟨pv, cv, hvf, _⟩ := HR.out.ow.form
    obtain ⟨m, hm⟩ : ∃ m, m = (holdF (es.take k) (o1, o2)).length := ⟨_, rfl⟩
    rw [← hm] at hvf
    subst hvf
    by_cases hlt : k < N
    · have hkl : k < es.length := by have := HN.out; omega
      have h1 : (k : Int) < (N : Int) := by omega
      have hidk : 0 ≤ (k : Int) ∧ (k : Int) < (N : Int) := by omega
      have hwk : IntKind.i64.wrap ((k : Int) + 1) = (k : Int) + 1 := by rw [IntKind.wrap_i64]; omega
      obtain ⟨g, rfl⟩ := HG.out (by omega)
      have hE := own_e12 HR.out.nu k hkl
      have hst := holdF_step es (o1, o2) k hkl
      generalize es[k] = y at hE hst
      obtain ⟨⟨ya1, ya2⟩, ⟨yc0, yc1, yc2, yc3, yc4, yc5, yc6, yc7⟩, ⟨yf1, yf2⟩⟩ := y
      obtain ⟨a0, a1, a2, a3, a4, a5, a6, a7, a8, a9, a10, a11⟩ := hE
      dsimp only at a0 a1 a2 a3 a4 a5 a6 a7 a8 a9 a10 a11 hst
      obtain ⟨q0, q1⟩ : wr.cell? ⟨ob, 0, none⟩ = some (.int .i64 o1) ∧ wr.cell? ⟨ob, 1, none⟩ = some (.int .i64 o2) := ⟨(cell_of_row _ _ 0 _ _ (0, 0) HR.out.o0).trans rfl, (cell_of_row _ _ 1 _ _ (0, 0) HR.out.o0).trans rfl⟩
      have hol : ob < wr.heap.size := lt_of_some HR.out.o0
      have HLE : Hid ((holdF (es.take k) (o1, o2)).length + 1 ≤ 10000000) := by
        have h3 := holdF_len (es.take k) (o1, o2)
        rw [List.length_take] at h3
        have h4 := HN.out
        show _ + 1 ≤ 10000000
        omega
      clear hlt hm
      by_cases e1 : yc0 = o1
      · subst e1
        by_cases e2 : yc1 = o2
        · subst e2
          have HST : Hid (holdF (es.take (k + 1)) (yc0, yc1) = holdF (es.take k) (yc0, yc1) ++ [(ya1, ya2)]) := by
            show holdF (es.take (k + 1)) (yc0, yc1) = _
            rw [hst, if_pos (show holdB (yc0, yc1) ⟨(ya1, ya2), ⟨yc0, yc1, yc2, yc3, yc4, yc5, yc6, yc7⟩, (yf1, yf2)⟩ = true from decide_eq_true ⟨rfl, rfl⟩)]
          clear hst
          go_upto_region 6 with fail
          obtain ⟨w4, hw4⟩ : ∃ w4, w4 = wr.alloc (.cells #[.int .i64 ya1, .int .i64 ya2, .int .i64 yc0, .int .i64 yc1, .int .i64 yc2, .int .u32 yc3, .int .u32 yc4, .int .i64 yc5, .int .i64 yc6, .int .u32 yc7, .int .i64 yf1, .int .i64 yf2] 72) := ⟨_, rfl⟩
          rw [← hw4]
          have hon4 : Only (fun _ => False) wr w4 := by rw [hw4]; exact (Only.refl _ wr).alloc _
          have hnb : w4.heap[wr.heap.size]? = some (.cells #[.int .i64 ya1, .int .i64 ya2, .int .i64 yc0, .int .i64 yc1, .int .i64 yc2, .int .u32 yc3, .int .u32 yc4, .int .i64 yc5, .int .i64 yc6, .int .u32 yc7, .int .i64 yf1, .int .i64 yf2] 72 (0, 0)) := by rw [hw4]; exact heap_alloc_last wr _
          obtain ⟨⟨n0, n1, _⟩, nf⟩ := entry_cells hnb
          have HR4 := Vx.hid (HR.out.quiet hon4)
          have HBL : Hid (w.heap.size ≤ w4.heap.size) := HR4.out.on.size
          obtain ⟨nb, hnb2⟩ : ∃ nb, nb = wr.heap.size := ⟨_, rfl⟩
          rw [← hnb2] at n0 n1 ⊢
          clear hw4 hon4 hnb hnb2 nf a0 a1 a2 a3 a4 a5 a6 a7 a8 a9 a10 a11 q0 q1 hol HR
          go_wp2_with (at_builtin; refine wpList_append_one slK _ rfl _ _ rfl w.heap.size (.slice pv m cv) _ rfl HR4.out.ow (ya1, ya2) _ _ rfl rfl rfl HLE.out HBL.out ?_; intro v' w5 hv1 hv2 hv3; have HNX := Vx.hid (HR4.out.push hv1 hv2); clear hv1 hv2 hv3)
          go_roundw
          case rel => exact ⟨k + 1, by go_num, by omega, by rw [HST.out]; exact HNX⟩
          case measure => simp only [RowKit.intOf]; omega
        · have HST : Hid (holdF (es.take (k + 1)) (yc0, o2) = holdF (es.take k) (yc0, o2)) := by
            show holdF (es.take (k + 1)) (yc0, o2) = _
            rw [hst, if_neg (show ¬ holdB (yc0, o2) ⟨(ya1, ya2), ⟨yc0, yc1, yc2, yc3, yc4, yc5, yc6, yc7⟩, (yf1, yf2)⟩ = true from fun h => e2 (of_decide_eq_true h).2), List.append_nil]
          have he : (yc1 == o2) = false := beq_eq_false_iff_ne.2 e2
          clear hst
          go_wp2_with fail
          go_roundw
          case rel => exact ⟨k + 1, by go_num, by omega, by rw [HST.out]; exact HR.out.quiet ((Only.refl _ _).alloc _)⟩
          case measure => simp only [RowKit.intOf]; omega
      · have HST : Hid (holdF (es.take (k + 1)) (o1, o2) = holdF (es.take k) (o1, o2)) := by
          show holdF (es.take (k + 1)) (o1, o2) = _
          rw [hst, if_neg (show ¬ holdB (o1, o2) ⟨(ya1, ya2), ⟨yc0, yc1, yc2, yc3, yc4, yc5, yc6, yc7⟩, (yf1, yf2)⟩ = true from fun h => e1 (of_decide_eq_true h).1), List.append_nil]
        have he : (yc0 == o1) = false := beq_eq_false_iff_ne.2 e1
        clear hst
        go_wp2_with fail
        go_roundw
        case rel => exact ⟨k + 1, by go_num, by omega, by rw [HST.out]; exact HR.out.quiet ((Only.refl _ _).alloc _)⟩
        case measure => simp only [RowKit.intOf]; omega
    · obtain rfl : k = N := by omega
      have h1 : ¬ (k : Int) < (k : Int) := by omega
      have HFIN : Hid (HoR w ob (o1, o2) (.slice ep k ec) es (.slice pv m cv) (holdF es (o1, o2)) wr) := by
        have := HR.out
        rw [HN.out, List.take_length, ← HN.out] at this
        exact this
      clear HR hm
      go_wp2_with fail
      go_ret
      exact ⟨_, rfl, HFIN.out.ow, HFIN.out.on⟩
end Go.Proofs.YtfgdlbclmihghaaDoor

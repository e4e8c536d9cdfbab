import Derived.Test.YtbmchgjilkoplaaDoorCk39
/- Chapter 7, the program's store: Holders. -/
namespace Go.Proofs.YtbmchgjilkoplaaDoor
open Go.ChangeShapes Go.WideShapes Go.ChangeAt Go.RowKit
open Go.Vx
set_option linter.unusedVariables false
variable {U : Nat → Prop} {w : World} {xb mb : Nat} {D : DataW Value} {G : Int → Nat} {bs : List (Int × Int)} {es : List En} {Q : Sl → Pl}

theorem XcAt.quiet {w2 : World} (h : XcAt U w xb bs es) (ho : Only (fun _ => False) w w2) : XcAt U w2 xb bs es := by
  obtain ⟨mb, D, G, h, hf, hx, hl⟩ := h
  exact ⟨mb, D, G, h.quiet ho, hf, hx, hl⟩
theorem entry_cells {w : World} {b : Nat} {x0 x1 x2 x3 x4 x5 x6 x7 x8 x9 x10 x11 : Value} (h : w.heap[b]? = some (.cells #[x0, x1, x2, x3, x4, x5, x6, x7, x8, x9, x10, x11] 72 (0, 0))) : (w.cell? ⟨b, 0, none⟩ = some x0 ∧ w.cell? ⟨b, 1, none⟩ = some x1 ∧ w.cell? ⟨b, 2, none⟩ = some x2 ∧ w.cell? ⟨b, 3, none⟩ = some x3 ∧ w.cell? ⟨b, 4, none⟩ = some x4 ∧ w.cell? ⟨b, 5, none⟩ = some x5 ∧ w.cell? ⟨b, 6, none⟩ = some x6 ∧ w.cell? ⟨b, 7, none⟩ = some x7 ∧ w.cell? ⟨b, 8, none⟩ = some x8 ∧ w.cell? ⟨b, 9, none⟩ = some x9 ∧ w.cell? ⟨b, 10, none⟩ = some x10 ∧ w.cell? ⟨b, 11, none⟩ = some x11) ∧ ∀ j, w.frozen? ⟨b, j, none⟩ = false :=
  ⟨⟨(cell_of_row _ _ 0 _ _ (0, 0) h).trans rfl, (cell_of_row _ _ 1 _ _ (0, 0) h).trans rfl, (cell_of_row _ _ 2 _ _ (0, 0) h).trans rfl, (cell_of_row _ _ 3 _ _ (0, 0) h).trans rfl, (cell_of_row _ _ 4 _ _ (0, 0) h).trans rfl, (cell_of_row _ _ 5 _ _ (0, 0) h).trans rfl, (cell_of_row _ _ 6 _ _ (0, 0) h).trans rfl, (cell_of_row _ _ 7 _ _ (0, 0) h).trans rfl, (cell_of_row _ _ 8 _ _ (0, 0) h).trans rfl, (cell_of_row _ _ 9 _ _ (0, 0) h).trans rfl, (cell_of_row _ _ 10 _ _ (0, 0) h).trans rfl, (cell_of_row _ _ 11 _ _ (0, 0) h).trans rfl⟩, fun j => by simp [World.frozen?, h]⟩
/-- What stands between the rounds of Holders. -/
structure HoR (w : World) (ob : Nat) (o : Sl) (nv : Value) (nums : List Int) (v : Value) (ls : List Sl) (wr : World) : Prop where
  on : Only (fun _ => False) w wr
  o0 : wr.heap[ob]? = some (.cells #[.int .i64 o.1, .int .i64 o.2] 60 (0, 0))
  nu : OwnL inL wr w.heap.size 3 nv nums
  ow : OwnL slL wr w.heap.size 62 v ls
theorem HoR.quiet {w : World} {ob : Nat} {o : Sl} {nv : Value} {nums : List Int} {v : Value} {ls : List Sl} {wr wx : World} (h : HoR w ob o nv nums v ls wr) (ho : Only (fun _ => False) wr wx) : HoR w ob o nv nums v ls wx :=
  ⟨h.on.trans ho, by rw [ho.block ob (lt_of_some h.o0) (fun h => h)]; exact h.o0, h.nu.kept ho (fun _ _ h => h), h.ow.kept ho (fun _ _ h => h)⟩
theorem HoR.push {w : World} {ob : Nat} {o : Sl} {nv : Value} {nums : List Int} {v v2 : Value} {ls ls2 : List Sl} {wr wx : World} (h : HoR w ob o nv nums v ls wr) (ho : OwnL slL wx w.heap.size 62 v2 ls2) (hon : Only (fun k => v.ownBlock = some k) wr wx) : HoR w ob o nv nums v2 ls2 wx :=
  ⟨h.on.beyond hon (fun k hk => (own_lt h.ow hk).1), by
    rw [hon.block ob (lt_of_some h.o0) (fun e => by
      obtain ⟨c2, h2⟩ := own_tag h.ow e
      exact tag_ne h.o0 h2 (by decide) rfl)]
    exact h.o0, h.nu.kept hon (fun k hk e => by
    obtain ⟨c1, h1⟩ := own_tag h.nu hk
    obtain ⟨c2, h2⟩ := own_tag h.ow e
    exact tag_ne h1 h2 (by decide) rfl), ho⟩
theorem holdF_app (a b : List En) (o : Sl) : holdF (a ++ b) o = holdF a o ++ holdF b o := by
  unfold holdF
  rw [List.filter_append, List.map_append]
set_option maxRecDepth 100000 in
set_option maxHeartbeats 4000000 in
theorem xholders_ok (hc : XcAt U w xb bs es) (o : Sl) : Calls Tryd.prog 16 #[.pointer (some ⟨xb, 0, none⟩), .agg #[.int .i64 o.1, .int .i64 o.2]] w fun e w' => ∃ v, e = .returned v ∧ OwnL slL w' w.heap.size 62 v (holdF es o) ∧ Only (fun _ => False) w w' := by
  obtain ⟨o1, o2⟩ := o
  obtain ⟨w1, hw1⟩ : ∃ w1, w1 = w.alloc (.cells #[.int .i64 o1, .int .i64 o2] 60) := ⟨_, rfl⟩
  have hon : Only (fun _ => False) w w1 := by rw [hw1]; exact (Only.refl _ w).alloc _
  have hob : w1.heap[w.heap.size]? = some (.cells #[.int .i64 o1, .int .i64 o2] 60 (0, 0)) := by rw [hw1]; exact heap_alloc_last w _
  obtain ⟨mb, D, G, h, hf, hx, hl⟩ := hc
  have HES := Vx.hid (ents_es hf hx)
  have HX := Vx.hid h
  have HSC := Vx.hid (xorder_ok (h.quiet hon))
  have hnl := nums_len bs
  have hnb := h.nb
  have HLN := Vx.hid hl
  have HMEM : Hid (∀ x ∈ numsF bs, I64 x ∧ ∃ n, sizeF bs x = some n ∧ sizeN bs x = n.toNat ∧ 1 ≤ n ∧ n ≤ 64) := fun x hxm => by
    obtain ⟨b, hb, rfl⟩ := (nums_mem bs x).1 hxm
    have h1 := (mem_size hx.nd hb).1
    exact ⟨hx.ib b hb, b.2, h1, by unfold sizeN; rw [h1]; rfl, h.bn _ _ h1⟩
  have HON := Vx.hid (⟨hon, hob⟩ : _ ∧ _)
  have HSZ : Hid (w.heap.size ≤ w1.heap.size) := hon.size
  obtain ⟨nums, hnums⟩ : ∃ l, l = numsF bs := ⟨_, rfl⟩
  rw [← hnums] at HES HSC hnl HMEM
  clear h hf hx hl hnums hon hob
  dsimp only
  go_enter Tryd.func16, Tryd.ntmps16
  go_upto_region 2 with fail
  rw [← hw1]
  obtain ⟨ob, hob2⟩ : ∃ ob, ob = w.heap.size := ⟨_, rfl⟩
  rw [← hob2] at HON ⊢
  have HOB := Vx.hid hob2
  clear hw1 hob2
  go_wp2_with fail
  refine HSC.out.mono ?_
  rintro e w2 ⟨nv, rfl, hnu0, hon2⟩
  have hnu := own_base hnu0 HSZ.out
  have HE0 : Hid (HoR w ob (o1, o2) nv nums (.slice none 0 0) (holdF (entsF (plF es) bs (nums.take 0)) (o1, o2)) w2) := ⟨HON.out.1.trans hon2, by rw [hon2.block ob (lt_of_some HON.out.2) (fun h => h)]; exact HON.out.2, hnu, OwnL.nil _ _ _ _⟩
  obtain ⟨np, nc, hnv, _, _, hng⟩ := hnu.form
  obtain ⟨M, hM⟩ : ∃ M, M = nums.length := ⟨_, rfl⟩
  have HM := Vx.hid hM
  rw [← hM] at hnv
  have hMb : M ≤ 1000000 := by omega
  subst hnv
  have HNG : Hid (0 < M → ∃ g, np = some ⟨g, 0, none⟩) := fun h => by
    obtain ⟨g, h1, _⟩ := hng (by omega)
    exact ⟨g, h1⟩
  clear hnu hnu0 hon2 hM HSC hnb hnl hng HON HSZ HOB
  go_wp2_with fail
  go_loopw [5, 7, 8, 9, 13] (fun v _ _ _ d wr => ∃ j : Nat, d = .int .i64 (j : Int) ∧ j ≤ M ∧ Hid (HoR w ob (o1, o2) (.slice np M nc) nums v (holdF (entsF (plF es) bs (nums.take j)) (o1, o2)) wr)) (fun _ _ _ _ d _ => M - (RowKit.intOf d).toNat)
  case atStart => exact ⟨0, rfl, by omega, HE0⟩
  case round =>
    clear HE0
    obtain ⟨j, rfl, hj, HR⟩ := hrel
    by_cases hlt : j < M
    · have hjl : j < nums.length := by have := HM.out; omega
      have h1 : (j : Int) < (M : Int) := by omega
      have hidx : 0 ≤ (j : Int) ∧ (j : Int) < (M : Int) := by omega
      have hwj : IntKind.i64.wrap ((j : Int) + 1) = (j : Int) + 1 := by rw [IntKind.wrap_i64]; omega
      obtain ⟨g, rfl⟩ := HNG.out (by omega)
      have hnc : wr.cell? ⟨g, j, none⟩ = some (.int .i64 nums[j]) := by
        have := HR.out.nu.cell j 0 hjl (by decide)
        have e : j * inL.sz + 0 = j := by show j * 1 + 0 = j; omega
        rw [e] at this
        exact this
      obtain ⟨hni, n, hns, hnN, hn1, hn2⟩ := HMEM.out _ (List.getElem_mem hjl)
      have HPL := Vx.hid (part_len (plF es) bs nums j hjl)
      have hstep := entsF_step (plF es) bs nums j hjl
      generalize nums[j] = num at hnc hni hns hnN HPL hstep
      obtain ⟨N, hN⟩ : ∃ N : Nat, n = (N : Int) := ⟨n.toNat, by omega⟩
      subst hN
      rw [Int.toNat_natCast] at hnN
      rw [hnN] at HPL hstep
      have hXr := HX.out.quiet HR.out.on
      have c0 := hXr.c0
      have hlk := (hXr.look num hni).1
      rw [lookV_some hns, Int.toNat_natCast] at hlk
      have HNS := Vx.hid hns
      have HST := Vx.hid hstep
      have HR0 : Hid (HoR w ob (o1, o2) (.slice (some ⟨g, 0, none⟩) M nc) nums u5 (holdF (entsF (plF es) bs (nums.take j) ++ rowE (plF es) num 0) (o1, o2)) wr) := by
        have e : rowE (plF es) num 0 = [] := by simp [rowE]
        rw [e, List.append_nil]
        exact HR.out
      have hN64 : N ≤ 64 := by omega
      clear hns hstep hXr HR hn1 hn2 hnN hni
      go_wp2_with fail
      go_loopw [5, 8, 9, 24] (fun v _ _ d wx => ∃ k : Nat, d = .int .i64 (k : Int) ∧ k ≤ N ∧ Hid (HoR w ob (o1, o2) (.slice (some ⟨g, 0, none⟩) M nc) nums v (holdF (entsF (plF es) bs (nums.take j) ++ rowE (plF es) num k) (o1, o2)) wx)) (fun _ _ _ d _ => N - (RowKit.intOf d).toNat)
      case atStart => exact ⟨0, rfl, by omega, HR0⟩
      case round =>
        clear HR0 c0 hlk hnc
        obtain ⟨k, rfl, hk, HRK⟩ := hrel
        by_cases hltk : k < N
        · have h2 : (k : Int) < (N : Int) := by omega
          have hidk : 0 ≤ (k : Int) ∧ (k : Int) < (N : Int) := by omega
          have hwk : IntKind.i64.wrap ((k : Int) + 1) = (k : Int) + 1 := by rw [IntKind.wrap_i64]; omega
          obtain ⟨c0, c1, c2, c3, c4, c5, c6, c7, c8, c9⟩ := (HX.out.quiet HRK.out.on).p10 HNS.out k h2
          have HF := Vx.hid (isFull_ok (plF es (num, (k : Int))))
          have hrs := rowE_step (plF es) num k
          have HLE : Hid ((holdF (entsF (plF es) bs (nums.take j) ++ rowE (plF es) num k) (o1, o2)).length + 1 ≤ 10000000) := by
            have h3 := HPL.out k hk
            rw [HES.out] at h3
            have h4 := HLN.out
            have h5 := holdF_len (entsF (plF es) bs (nums.take j) ++ rowE (plF es) num k) (o1, o2)
            show _ + 1 ≤ 10000000
            omega
          unfold enQ at hrs
          generalize hp : plF es (num, (k : Int)) = p at c0 c1 c2 c3 c4 c5 c6 c7 c8 c9 HF hrs
          obtain ⟨⟨d0, d1, d2, d3, d4, d5, d6, d7⟩, ⟨f0, f1⟩⟩ := p
          dsimp only at c0 c1 c2 c3 c4 c5 c6 c7 c8 c9 HF hrs
          have HRS := Vx.hid hrs
          have HAL : Hid (∀ o, Only (fun _ => False) wr (wr.alloc o)) := fun o => (Only.refl _ wr).alloc o
          obtain ⟨pv, cv, hvf, _⟩ := HRK.out.ow.form
          obtain ⟨m, hm⟩ : ∃ m, m = (holdF (entsF (plF es) bs (nums.take j) ++ rowE (plF es) num k) (o1, o2)).length := ⟨_, rfl⟩
          rw [← hm] at hvf
          subst hvf
          clear hp hrs hltk hm
          by_cases hz : d0 = 0
          · subst hz
            go_wp2_with fail
            refine (HF.out _).mono ?_
            rintro e w4 ⟨rfl, h4⟩
            have H4 := Vx.hid ((HAL.out (.cells #[.int .i64 0, .int .i64 d1, .int .i64 d2, .int .u32 d3, .int .u32 d4, .int .i64 d5, .int .i64 d6, .int .u32 d7, .int .i64 f0, .int .i64 f1] 105)).trans h4)
            clear h4 c0 c1 c2 c3 c4 c5 c6 c7 c8 c9 HAL HF
            go_wp2_with fail
            go_roundw
            case rel =>
              refine ⟨k + 1, by go_num, by omega, ?_⟩
              have := HRK.out.quiet H4.out
              rw [HRS.out]
              first | rw [if_pos rfl, List.append_nil] | rw [if_pos trivial, List.append_nil]
              exact this
            case measure => simp only [RowKit.intOf]; omega
          · have hz2 : (d0 != 0) = true := by simp [hz]
            rw [hz2] at HF
            have HZ := Vx.hid hz
            go_wp2_with fail
            refine (HF.out _).mono ?_
            rintro e w4 ⟨rfl, h4⟩
            have hO4 := (HAL.out (.cells #[.int .i64 d0, .int .i64 d1, .int .i64 d2, .int .u32 d3, .int .u32 d4, .int .i64 d5, .int .i64 d6, .int .u32 d7, .int .i64 f0, .int .i64 f1] 105)).trans h4
            have hnb : w4.heap[wr.heap.size]? = some (.cells #[.int .i64 d0, .int .i64 d1, .int .i64 d2, .int .u32 d3, .int .u32 d4, .int .i64 d5, .int .i64 d6, .int .u32 d7, .int .i64 f0, .int .i64 f1] 105 (0, 0)) := by
              have h9 := heap_alloc_last wr (.cells #[.int .i64 d0, .int .i64 d1, .int .i64 d2, .int .u32 d3, .int .u32 d4, .int .i64 d5, .int .i64 d6, .int .u32 d7, .int .i64 f0, .int .i64 f1] 105)
              rw [h4.block _ (lt_of_some h9) (fun h => h)]
              exact h9
            obtain ⟨⟨n0, n1, n2, n3, n4, n5, n6, n7, n8, n9⟩, nf⟩ := place_cells hnb
            have HR4 := Vx.hid (HRK.out.quiet hO4)
            have HBL : Hid (w.heap.size ≤ w4.heap.size) := HR4.out.on.size
            obtain ⟨q0, q1⟩ : w4.cell? ⟨ob, 0, none⟩ = some (.int .i64 o1) ∧ w4.cell? ⟨ob, 1, none⟩ = some (.int .i64 o2) := ⟨(cell_of_row _ _ 0 _ _ (0, 0) HR4.out.o0).trans rfl, (cell_of_row _ _ 1 _ _ (0, 0) HR4.out.o0).trans rfl⟩
            clear h4 c0 c1 c2 c3 c4 c5 c6 c7 c8 c9 HAL HF hnb hO4 nf
            obtain ⟨nb, hnb2⟩ : ∃ nb, nb = wr.heap.size := ⟨_, rfl⟩
            rw [← hnb2] at n0 n1 n2 n3 n4 n5 n6 n7 n8 n9 ⊢
            clear hnb2
            have HH := Vx.hid (holdF_app (entsF (plF es) bs (nums.take j) ++ rowE (plF es) num k) [⟨(num, (k : Int)), ⟨d0, d1, d2, d3, d4, d5, d6, d7⟩, (f0, f1)⟩] (o1, o2))
            by_cases e1 : d0 = o1
            · subst e1
              by_cases e2 : d1 = o2
              · subst e2
                have HST2 : Hid (holdF [⟨(num, (k : Int)), ⟨d0, d1, d2, d3, d4, d5, d6, d7⟩, (f0, f1)⟩] (d0, d1) = [(num, (k : Int))]) := by
                  show (List.map _ (List.filter (holdB (d0, d1)) _)) = _
                  rw [List.filter_cons_of_pos (show holdB (d0, d1) ⟨(num, (k : Int)), ⟨d0, d1, d2, d3, d4, d5, d6, d7⟩, (f0, f1)⟩ = true from decide_eq_true ⟨rfl, rfl⟩)]
                  rfl
                go_wp2_with (at_builtin; refine wpList_append_one slK _ rfl _ _ rfl w.heap.size (.slice pv m cv) _ rfl HR4.out.ow (num, (k : Int)) _ _ rfl rfl rfl HLE.out HBL.out ?_; intro v' w5 hv1 hv2 hv3; have HNX := Vx.hid (HR4.out.push hv1 hv2); clear hv1 hv2 hv3)
                go_roundw
                case rel =>
                  refine ⟨k + 1, by go_num, by omega, ?_⟩
                  have := HNX.out
                  rw [HRS.out, if_neg HZ.out, ← List.append_assoc, HH.out, HST2.out]
                  exact this
                case measure => simp only [RowKit.intOf]; omega
              · have HST2 : Hid (holdF [⟨(num, (k : Int)), ⟨d0, d1, d2, d3, d4, d5, d6, d7⟩, (f0, f1)⟩] (d0, o2) = []) := by
                  show (List.map _ (List.filter (holdB (d0, o2)) _)) = _
                  rw [List.filter_cons_of_neg (show ¬ holdB (d0, o2) ⟨(num, (k : Int)), ⟨d0, d1, d2, d3, d4, d5, d6, d7⟩, (f0, f1)⟩ = true from fun h => e2 (of_decide_eq_true h).2)]
                  rfl
                have he : (d1 == o2) = false := beq_eq_false_iff_ne.2 e2
                go_wp2_with fail
                go_roundw
                case rel =>
                  refine ⟨k + 1, by go_num, by omega, ?_⟩
                  have := HR4.out
                  rw [HRS.out, if_neg HZ.out, ← List.append_assoc, HH.out, HST2.out, List.append_nil]
                  exact this
                case measure => simp only [RowKit.intOf]; omega
            · have HST2 : Hid (holdF [⟨(num, (k : Int)), ⟨d0, d1, d2, d3, d4, d5, d6, d7⟩, (f0, f1)⟩] (o1, o2) = []) := by
                show (List.map _ (List.filter (holdB (o1, o2)) _)) = _
                rw [List.filter_cons_of_neg (show ¬ holdB (o1, o2) ⟨(num, (k : Int)), ⟨d0, d1, d2, d3, d4, d5, d6, d7⟩, (f0, f1)⟩ = true from fun h => e1 (of_decide_eq_true h).1)]
                rfl
              have he : (d0 == o1) = false := beq_eq_false_iff_ne.2 e1
              go_wp2_with fail
              go_roundw
              case rel =>
                refine ⟨k + 1, by go_num, by omega, ?_⟩
                have := HR4.out
                rw [HRS.out, if_neg HZ.out, ← List.append_assoc, HH.out, HST2.out, List.append_nil]
                exact this
              case measure => simp only [RowKit.intOf]; omega
        · obtain rfl : k = N := by omega
          have h2 : ¬ (k : Int) < (k : Int) := by omega
          have HNX : Hid (HoR w ob (o1, o2) (.slice (some ⟨g, 0, none⟩) M nc) nums u5 (holdF (entsF (plF es) bs (nums.take (j + 1))) (o1, o2)) wr) := by
            have := HRK.out
            rw [← HST.out] at this
            exact this
          clear HRK
          go_wp2_with fail
          go_roundw
          case rel => exact ⟨j + 1, by go_num, by omega, HNX⟩
          case measure => simp only [RowKit.intOf]; omega
    · obtain rfl : j = M := by omega
      have h1 : ¬ (j : Int) < (j : Int) := by omega
      have HFIN : Hid (HoR w ob (o1, o2) (.slice np j nc) nums u5 (holdF es (o1, o2)) wr) := by
        have := HR.out
        rw [HM.out, List.take_length, HES.out, ← HM.out] at this
        exact this
      clear HR
      obtain ⟨pv, cv, hvf, _⟩ := HFIN.out.ow.form
      generalize (holdF es (o1, o2)).length = L at hvf
      subst hvf
      go_wp2_with fail
      go_ret
      exact ⟨_, rfl, HFIN.out.ow, HFIN.out.on⟩
end Go.Proofs.YtbmchgjilkoplaaDoor

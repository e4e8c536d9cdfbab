import Derived.Test.YtbmchgjilkoplaaDoorCk38
/- Chapter 7, the program's store: Entries. -/
namespace Go.Proofs.YtbmchgjilkoplaaDoor
open Go.ChangeShapes Go.WideShapes Go.ChangeAt Go.RowKit
open Go.Vx
set_option linter.unusedVariables false
variable {U : Nat → Prop} {w : World} {xb mb : Nat} {D : DataW Value} {G : Int → Nat} {bs : List (Int × Int)} {es : List En} {Q : Sl → Pl}

theorem rowE_prefix (Q : Sl → Pl) (num : Int) (k n : Nat) (h : k ≤ n) : (rowE Q num k).length ≤ (rowE Q num n).length := by
  induction n with
  | zero => have : k = 0 := by omega
            subst this; exact Nat.le_refl _
  | succ n ih =>
    by_cases hk : k = n + 1
    · subst hk; exact Nat.le_refl _
    · rw [rowE_step, List.length_append]
      have := ih (by omega)
      omega
theorem part_len (Q : Sl → Pl) (bs : List (Int × Int)) (l : List Int) (j : Nat) (hj : j < l.length) (k : Nat) (hk : k ≤ sizeN bs l[j]) : (entsF Q bs (l.take j) ++ rowE Q l[j] k).length ≤ (entsF Q bs l).length := by
  have h1 := entsF_step Q bs l j hj
  have h2 : entsF Q bs l = entsF Q bs (l.take (j + 1)) ++ entsF Q bs (l.drop (j + 1)) := by
    unfold entsF
    rw [← List.flatMap_append, List.take_append_drop]
  rw [h2, h1]
  have := rowE_prefix Q l[j] k _ hk
  simp only [List.length_append]
  omega
/-- What stands between the rounds where the entries are told. -/
structure EtR (w : World) (nv : Value) (nums : List Int) (v : Value) (ls : List En) (wr : World) : Prop where
  on : Only (fun _ => False) w wr
  nu : OwnL inL wr w.heap.size 3 nv nums
  ow : OwnL enL wr w.heap.size 72 v ls
theorem EtR.quiet {w : World} {nv : Value} {nums : List Int} {v : Value} {ls : List En} {wr wx : World} (h : EtR w nv nums v ls wr) (ho : Only (fun _ => False) wr wx) : EtR w nv nums v ls wx :=
  ⟨h.on.trans ho, h.nu.kept ho (fun _ _ h => h), h.ow.kept ho (fun _ _ h => h)⟩
theorem EtR.push {w : World} {nv : Value} {nums : List Int} {v v2 : Value} {ls ls2 : List En} {wr wx : World} (h : EtR w nv nums v ls wr) (ho : OwnL enL wx w.heap.size 72 v2 ls2) (hon : Only (fun k => v.ownBlock = some k) wr wx) : EtR w nv nums v2 ls2 wx :=
  ⟨h.on.beyond hon (fun k hk => (own_lt h.ow hk).1), h.nu.kept hon (fun k hk e => by
    obtain ⟨c1, h1⟩ := own_tag h.nu hk
    obtain ⟨c2, h2⟩ := own_tag h.ow e
    exact tag_ne h1 h2 (by decide) rfl), ho⟩
set_option maxRecDepth 100000 in
theorem xorder_ok (h : XsAt U w xb mb D G bs Q) : Calls Tryd.prog 50 #[.pointer (some ⟨xb, 0, none⟩)] w fun e w' => ∃ v, e = .returned v ∧ OwnL inL w' w.heap.size 3 v (numsF bs) ∧ Only (fun _ => False) w w' := by
  have c0 := h.c0
  have HKC := Vx.hid (keys_call mb w)
  have HSC := Vx.hid (sorted_call h)
  clear h
  go_enter Tryd.func50, Tryd.ntmps50
  go_wp2_with fail
  refine HKC.out.mono ?_
  rintro e w1 ⟨rfl, rfl⟩
  go_wp2_with fail
  refine HSC.out.mono ?_
  rintro e w2 ⟨nv, rfl, hnu, hon⟩
  have HR := Vx.hid (⟨hnu, hon⟩ : _ ∧ _)
  obtain ⟨np, nc, hnv, _⟩ := hnu.form
  generalize (numsF bs).length = M at hnv
  subst hnv
  clear hnu hon HKC HSC c0
  go_wp2_with fail
  all_goals
    go_ret
    exact ⟨_, rfl, HR.out.1, HR.out.2⟩
set_option maxRecDepth 100000 in
set_option maxHeartbeats 4000000 in
theorem xentries_ok (hc : XcAt U w xb bs es) : Calls Tryd.prog 15 #[.pointer (some ⟨xb, 0, none⟩)] w fun e w' => ∃ v, e = .returned v ∧ OwnL enL w' w.heap.size 72 v es ∧ Only (fun _ => False) w w' := by
  obtain ⟨mb, D, G, h, hf, hx, hl⟩ := hc
  have HES := Vx.hid (ents_es hf hx)
  have HX := Vx.hid h
  have c0 := h.c0
  have HSC := Vx.hid (xorder_ok h)
  have hnl := nums_len bs
  have hnb := h.nb
  have HLN := Vx.hid hl
  have HMEM : Hid (∀ x ∈ numsF bs, I64 x ∧ ∃ n, sizeF bs x = some n ∧ sizeN bs x = n.toNat ∧ 1 ≤ n ∧ n ≤ 64) := fun x hxm => by
    obtain ⟨b, hb, rfl⟩ := (nums_mem bs x).1 hxm
    have h1 := (mem_size hx.nd hb).1
    exact ⟨hx.ib b hb, b.2, h1, by unfold sizeN; rw [h1]; rfl, h.bn _ _ h1⟩
  obtain ⟨nums, hnums⟩ : ∃ l, l = numsF bs := ⟨_, rfl⟩
  rw [← hnums] at HES HSC hnl HMEM
  clear h hf hx hl hnums
  go_enter Tryd.func15, Tryd.ntmps15
  go_wp2_with fail
  refine HSC.out.mono ?_
  rintro e w2 ⟨nv, rfl, hnu, hon⟩
  obtain ⟨np, nc, hnv, _, _, hng⟩ := hnu.form
  obtain ⟨M, hM⟩ : ∃ M, M = nums.length := ⟨_, rfl⟩
  have HM := Vx.hid hM
  rw [← hM] at hnv
  have hMb : M ≤ 1000000 := by omega
  have HE0 : Hid (EtR w nv nums (.slice none 0 0) (entsF (plF es) bs (nums.take 0)) w2) := ⟨hon, hnu, OwnL.nil _ _ _ _⟩
  subst hnv
  have HNG := Vx.hid hng
  clear hnu hon hM HSC c0 hnb hnl hng
  go_wp2_with fail
  go_loopw [3, 5, 6, 7, 11] (fun v _ _ _ d wr => ∃ j : Nat, d = .int .i64 (j : Int) ∧ j ≤ M ∧ Hid (EtR w (.slice np M nc) nums v (entsF (plF es) bs (nums.take j)) wr)) (fun _ _ _ _ d _ => M - (RowKit.intOf d).toNat)
  case atStart => exact ⟨0, rfl, by omega, HE0⟩
  case round =>
    clear HE0
    obtain ⟨j, rfl, hj, HR⟩ := hrel
    by_cases hlt : j < M
    · have hjl : j < nums.length := by have := HM.out; omega
      have h1 : (j : Int) < (M : Int) := by omega
      have hidx : 0 ≤ (j : Int) ∧ (j : Int) < (M : Int) := by omega
      have hwj : IntKind.i64.wrap ((j : Int) + 1) = (j : Int) + 1 := by rw [IntKind.wrap_i64]; omega
      obtain ⟨g, rfl, _⟩ := HNG.out (by omega)
      have hnc : wr.cell? ⟨g, j, none⟩ = some (.int .i64 nums[j]) := by
        have := HR.out.nu.cell j 0 hjl (by decide)
        have e : j * inL.sz + 0 = j := by show j * 1 + 0 = j; omega
        rw [e] at this
        exact this
      obtain ⟨hni, n, hns, hnN, hn1, hn2⟩ := HMEM.out _ (List.getElem_mem hjl)
      have HPL := Vx.hid (part_len (plF es) bs nums j hjl)
      have hstep := entsF_step (plF es) bs nums j hjl
      generalize nums[j] = num at hnc hni hns hnN HPL hstep
      obtain ⟨N, hN⟩ : ∃ N : Nat, n = (N : Int) := ⟨n.toNat, by omega⟩
      subst hN
      rw [Int.toNat_natCast] at hnN
      rw [hnN] at HPL hstep
      have hXr := HX.out.quiet HR.out.on
      have c0 := hXr.c0
      have hlk := (hXr.look num hni).1
      rw [lookV_some hns, Int.toNat_natCast] at hlk
      have HNS := Vx.hid hns
      have HST := Vx.hid hstep
      have HR0 : Hid (EtR w (.slice (some ⟨g, 0, none⟩) M nc) nums u3 (entsF (plF es) bs (nums.take j) ++ rowE (plF es) num 0) wr) := by
        have e : rowE (plF es) num 0 = [] := by simp [rowE]
        rw [e, List.append_nil]
        exact HR.out
      have hN64 : N ≤ 64 := by omega
      clear hns hstep hXr HR hn1 hn2 hnN hni
      go_wp2_with fail
      go_loopw [3, 6, 7, 22] (fun v _ _ d wx => ∃ k : Nat, d = .int .i64 (k : Int) ∧ k ≤ N ∧ Hid (EtR w (.slice (some ⟨g, 0, none⟩) M nc) nums v (entsF (plF es) bs (nums.take j) ++ rowE (plF es) num k) wx)) (fun _ _ _ d _ => N - (RowKit.intOf d).toNat)
      case atStart => exact ⟨0, rfl, by omega, HR0⟩
      case round =>
        clear HR0 c0 hlk hnc
        obtain ⟨k, rfl, hk, HRK⟩ := hrel
        by_cases hltk : k < N
        · have h2 : (k : Int) < (N : Int) := by omega
          have hidk : 0 ≤ (k : Int) ∧ (k : Int) < (N : Int) := by omega
          have hwk : IntKind.i64.wrap ((k : Int) + 1) = (k : Int) + 1 := by rw [IntKind.wrap_i64]; omega
          obtain ⟨c0, c1, c2, c3, c4, c5, c6, c7, c8, c9⟩ := (HX.out.quiet HRK.out.on).p10 HNS.out k h2
          have HF := Vx.hid (isFull_ok (plF es (num, (k : Int))))
          have hrs := rowE_step (plF es) num k
          have HLE : Hid ((entsF (plF es) bs (nums.take j) ++ rowE (plF es) num k).length + 1 ≤ 10000000) := by
            have h3 := HPL.out k hk
            rw [HES.out] at h3
            have h4 := HLN.out
            show _ + 1 ≤ 10000000
            omega
          unfold enQ at hrs
          generalize hp : plF es (num, (k : Int)) = p at c0 c1 c2 c3 c4 c5 c6 c7 c8 c9 HF hrs
          obtain ⟨⟨d0, d1, d2, d3, d4, d5, d6, d7⟩, ⟨f0, f1⟩⟩ := p
          dsimp only at c0 c1 c2 c3 c4 c5 c6 c7 c8 c9 HF hrs
          have HRS := Vx.hid hrs
          have HAL : Hid (∀ o, Only (fun _ => False) wr (wr.alloc o)) := fun o => (Only.refl _ wr).alloc o
          obtain ⟨pv, cv, hvf, _⟩ := HRK.out.ow.form
          obtain ⟨m, hm⟩ : ∃ m, m = (entsF (plF es) bs (nums.take j) ++ rowE (plF es) num k).length := ⟨_, rfl⟩
          rw [← hm] at hvf
          subst hvf
          clear hp hrs hltk hm
          by_cases hz : d0 = 0
          · subst hz
            go_wp2_with fail
            refine (HF.out _).mono ?_
            rintro e w4 ⟨rfl, h4⟩
            have H4 := Vx.hid ((HAL.out (.cells #[.int .i64 0, .int .i64 d1, .int .i64 d2, .int .u32 d3, .int .u32 d4, .int .i64 d5, .int .i64 d6, .int .u32 d7, .int .i64 f0, .int .i64 f1] 105)).trans h4)
            clear h4 c0 c1 c2 c3 c4 c5 c6 c7 c8 c9 HAL HF
            go_wp2_with fail
            go_roundw
            case rel =>
              refine ⟨k + 1, by go_num, by omega, ?_⟩
              have := HRK.out.quiet H4.out
              rw [HRS.out]
              first | rw [if_pos rfl, List.append_nil] | rw [if_pos trivial, List.append_nil]
              exact this
            case measure => simp only [RowKit.intOf]; omega
          · have hz2 : (d0 != 0) = true := by simp [hz]
            rw [hz2] at HF
            have HZ := Vx.hid hz
            go_wp2_with fail
            refine (HF.out _).mono ?_
            rintro e w4 ⟨rfl, h4⟩
            have hO4 := (HAL.out (.cells #[.int .i64 d0, .int .i64 d1, .int .i64 d2, .int .u32 d3, .int .u32 d4, .int .i64 d5, .int .i64 d6, .int .u32 d7, .int .i64 f0, .int .i64 f1] 105)).trans h4
            have hnb : w4.heap[wr.heap.size]? = some (.cells #[.int .i64 d0, .int .i64 d1, .int .i64 d2, .int .u32 d3, .int .u32 d4, .int .i64 d5, .int .i64 d6, .int .u32 d7, .int .i64 f0, .int .i64 f1] 105 (0, 0)) := by
              have h9 := heap_alloc_last wr (.cells #[.int .i64 d0, .int .i64 d1, .int .i64 d2, .int .u32 d3, .int .u32 d4, .int .i64 d5, .int .i64 d6, .int .u32 d7, .int .i64 f0, .int .i64 f1] 105)
              rw [h4.block _ (lt_of_some h9) (fun h => h)]
              exact h9
            obtain ⟨⟨n0, n1, n2, n3, n4, n5, n6, n7, n8, n9⟩, nf⟩ := place_cells hnb
            have HR4 := Vx.hid (HRK.out.quiet hO4)
            have HBL : Hid (w.heap.size ≤ w4.heap.size) := HR4.out.on.size
            clear h4 c0 c1 c2 c3 c4 c5 c6 c7 c8 c9 HAL HF hnb hO4 nf
            obtain ⟨nb, hnb2⟩ : ∃ nb, nb = wr.heap.size := ⟨_, rfl⟩
            rw [← hnb2] at n0 n1 n2 n3 n4 n5 n6 n7 n8 n9 ⊢
            clear hnb2
            go_wp2_with (at_builtin; refine wpList_append_one enK _ rfl _ _ rfl w.heap.size (.slice pv m cv) _ rfl HR4.out.ow ⟨(num, (k : Int)), ⟨d0, d1, d2, d3, d4, d5, d6, d7⟩, (f0, f1)⟩ _ _ rfl rfl rfl HLE.out HBL.out ?_; intro v' w5 hv1 hv2 hv3; have HNX := Vx.hid (HR4.out.push hv1 hv2); clear hv1 hv2 hv3)
            go_roundw
            case rel =>
              refine ⟨k + 1, by go_num, by omega, ?_⟩
              have := HNX.out
              rw [HRS.out, if_neg HZ.out, ← List.append_assoc]
              exact this
            case measure => simp only [RowKit.intOf]; omega
        · obtain rfl : k = N := by omega
          have h2 : ¬ (k : Int) < (k : Int) := by omega
          have HNX : Hid (EtR w (.slice (some ⟨g, 0, none⟩) M nc) nums u3 (entsF (plF es) bs (nums.take (j + 1))) wr) := by
            have := HRK.out
            rw [← HST.out] at this
            exact this
          clear HRK
          go_wp2_with fail
          go_roundw
          case rel => exact ⟨j + 1, by go_num, by omega, HNX⟩
          case measure => simp only [RowKit.intOf]; omega
    · obtain rfl : j = M := by omega
      have h1 : ¬ (j : Int) < (j : Int) := by omega
      have HFIN : Hid (EtR w (.slice np j nc) nums u3 es wr) := by
        have := HR.out
        rw [HM.out, List.take_length, HES.out, ← HM.out] at this
        exact this
      clear HR
      obtain ⟨pv, cv, hvf, _⟩ := HFIN.out.ow.form
      generalize es.length = L at hvf
      subst hvf
      go_wp2_with fail
      go_ret
      exact ⟨_, rfl, HFIN.out.ow, HFIN.out.on⟩
end Go.Proofs.YtbmchgjilkoplaaDoor

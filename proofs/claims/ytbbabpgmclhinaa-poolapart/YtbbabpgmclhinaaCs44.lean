import Derived.Test.YtbbabpgmclhinaaCs43
/- Chapter 8, the program's pool: Objects: its walk; with it every call of the program's pool is told. -/
namespace Go.Proofs.Ytbbabpgmclhinaa
open Go.ChangeShapes Go.WideShapes Go.ChangeAt Go.RowKit
open Go.Vx
set_option linter.unusedVariables false
variable {U V S : Nat → Prop} {w w1 w2 w3 wr wx : World} {xb pb mb gb r N cnt cnt2 B L c : Nat} {P a n : Int} {D D2 : DataW Value} {os rs os2 rs2 : List (Int × Int)} {left left2 : Lit → Bool}

set_option maxRecDepth 100000 in
set_option maxHeartbeats 4000000 in
theorem xpobjects_ok (h : XpAt U w xb P os rs) : Calls Try.prog 14 #[.pointer (some ⟨xb, 0, none⟩)] w fun e w' => ∃ v, e = .returned v ∧ ∃ ls, OwnL slL w' w.heap.size 33 v ls ∧ ls.Perm (allL os rs) ∧ ls.Pairwise leO ∧ Only (fun _ => False) w w' := by
  obtain ⟨hw, mb, gb, D, N, rfl, hx⟩ := h
  have hN : N ≤ 256 := by have := hw.p; omega
  have HLR := Vx.hid hw.lr
  have HRN := Vx.hid hw.rn
  have HRI := Vx.hid hw.ri
  have HRP := Vx.hid (row_perm hw)
  have HLT : Hid (xb < w.heap.size ∧ mb < w.heap.size ∧ gb < w.heap.size ∧ ∀ k, U k → k < w.heap.size) := ⟨lt_of_some hx.x, hx.m.lt, hx.gl, hx.low⟩
  have HX := Vx.hid hx
  have c0 := hx.c0
  have HNL : Hid (∀ l : List Int, (∀ x ∈ l, x ∈ rs.map (·.1)) → l.Nodup → l.length ≤ 2304) := fun l h1 h2 => by
    have := nodup_le l (rs.map (·.1)) h2 h1
    rw [List.length_map] at this
    have := HLR.out
    omega
  have HS : Hid (∀ w2, w2.ranges Try.prog 3 RI mb w.heap.size rs.length D (Maps.has D) (Maps.size D) → w.grownBy w2 none → ObR U w xb mb gb w.heap.size D N os rs (.slice none 0 0) [] (Maps.has D) (Maps.size D) w2) := fun w2 hr hg => by
    have ho := mi_none hg
    refine ⟨hr, hx.quiet ho, Nat.le_refl _, ⟨ho, OwnL.nil _ _ _ _⟩, List.nodup_nil, fun x => ?_⟩
    constructor
    · intro h9; cases h9
    · rintro ⟨h1, h2⟩
      obtain ⟨r, hr2, rfl⟩ := List.mem_map.1 h1
      rw [(hx.hk _ (HRI.out r hr2)).2 h1] at h2
      cases h2
  clear hx hw
  go_enter Try.func14, Try.ntmps14
  go_wp2_with (at_range; refine wpList_range_own _ rfl _ 65 rfl 3 3 mi_keyed Try.underlying65 RI mb rs.length D rfl HX.out.m ?_; intro w2 hrg hgr hsz; have HR0 := Vx.hid (HS.out w2 hrg hgr); clear hrg hgr hsz)
  obtain ⟨r, hr⟩ : ∃ r, r = w.heap.size := ⟨_, rfl⟩
  rw [← hr] at HR0 ⊢
  clear hr c0 HS
  go_frame
  go_loopw [3, 4, 12] (fun v3 _ _ wr => ∃ left cnt l, Hid (ObR U w xb mb gb r D N os rs v3 l left cnt wr)) (fun _ _ _ wr => wr.rangeLeft mb r)
  case atStart => exact ⟨_, _, _, HR0⟩
  case round =>
    clear HR0
    obtain ⟨left, cnt, l, HR⟩ := hrel
    obtain ⟨pv, cv, hvv, _⟩ := HR.out.ml.own.form
    obtain ⟨m, hm⟩ : ∃ m, m = (l.map (fun x => ((1 : Int), x))).length := ⟨_, rfl⟩
    rw [← hm] at hvv
    subst hvv
    have HMM := Vx.hid hm
    have hml : m ≤ 2304 := by rw [hm, List.length_map]; exact HNL.out l (fun x hx => ((HR.out.mem x).1 hx).1) HR.out.nd
    clear hm
    go_wp2_with (at_next; refine wpList_next_ranges _ rfl _ rfl 3 mi_keyed RI (Value.int .i64) (Value.int .i64) ki_inv ri_inv' mb r rs.length D left cnt rfl HR.out.rg ?_ ?_)
    · intro hc0 hl0
      have HPK := Vx.hid (HR.out.all HRN.out hl0)
      have HM0 : Hid (XqAt U wr xb mb gb D N os rs ∧ MkL 33 w (.slice pv m cv) (l.map (fun x => ((1 : Int), x)) ++ ((rowP N os).take 0).filter (fun o => decide (o.1 ≠ 0))) wr) := ⟨HR.out.xq, by rw [List.take_zero, List.filter_nil, List.append_nil]; exact HR.out.ml⟩
      have c1 := HM0.out.1.c1
      clear hc0 hl0 HR HMM hml
      go_wp2_with fail
      clear c1
      go_loopw [3, 6, 26] (fun v3 _ d wr => ∃ k : Nat, d = .int .i64 (k : Int) ∧ k ≤ N ∧ Hid (XqAt U wr xb mb gb D N os rs ∧ MkL 33 w v3 (l.map (fun x => ((1 : Int), x)) ++ ((rowP N os).take k).filter (fun o => decide (o.1 ≠ 0))) wr)) (fun _ _ d _ => N - (RowKit.intOf d).toNat)
      case atStart => exact ⟨0, rfl, by omega, HM0⟩
      case round =>
        clear HM0
        obtain ⟨k, rfl, hk, HM⟩ := hrel
        obtain ⟨pv2, cv2, hv2, _⟩ := HM.out.2.own.form
        obtain ⟨m2, hm2⟩ : ∃ m2, m2 = (l.map (fun x => ((1 : Int), x)) ++ ((rowP N os).take k).filter (fun o => decide (o.1 ≠ 0))).length := ⟨_, rfl⟩
        have HM2 : Hid (m2 = (l.map (fun x => ((1 : Int), x)) ++ ((rowP N os).take k).filter (fun o => decide (o.1 ≠ 0))).length ∧ m2 ≤ 5000) := by
          refine ⟨hm2, ?_⟩
          have h1 := HPK.out.length_eq
          rw [List.length_map] at h1
          have h2 := HLR.out
          have h3 : (((rowP N os).take k).filter (fun o => decide (o.1 ≠ 0))).length ≤ k := Nat.le_trans (List.length_filter_le _ _) (by rw [List.length_take]; omega)
          rw [hm2, List.length_append, List.length_map]
          omega
        rw [← hm2] at hv2
        subst hv2
        clear hm2
        by_cases hlt : k < N
        · have h1 : (k : Int) < (N : Int) := by omega
          have hidx : 0 ≤ (k : Int) ∧ (k : Int) < (N : Int) := by omega
          have hwk : IntKind.i64.wrap ((k : Int) + 1) = (k : Int) + 1 := by rw [IntKind.wrap_i64]; omega
          have HST := Vx.hid (filt_step os k hlt)
          obtain ⟨b0, b1⟩ := HM.out.1.page k hlt
          generalize pgF os (k : Int) = x at b0 b1 HST
          obtain ⟨x0, x1⟩ := x
          dsimp only at b0 b1
          obtain ⟨w5, hw5, ho5, hc5⟩ := new_cells wr (.int .i64 x0) (.int .i64 x1) 33
          have HM5 : Hid (XqAt U w5 xb mb gb D N os rs ∧ MkL 33 w (.slice pv2 m2 cv2) (l.map (fun x => ((1 : Int), x)) ++ ((rowP N os).take k).filter (fun o => decide (o.1 ≠ 0))) w5) := ⟨HM.out.1.quiet ho5, HM.out.2.quiet ho5⟩
          obtain ⟨E, hE⟩ : ∃ E, E = wr.heap.size := ⟨_, rfl⟩
          rw [← hE] at hc5
          obtain ⟨p0, p1⟩ := hc5 _ (Only.refl _ _)
          have HK1 : Hid (k + 1 ≤ N) := hlt
          clear ho5 hc5 hlt
          go_upto_region 9 with fail
          rw [← hw5, ← hE]
          clear hw5 hE b0 b1 HM
          by_cases hz : x0 = 0
          · subst hz
            rw [if_pos rfl, List.append_nil] at HST
            go_wp2_with fail
            go_roundw
            case rel => exact ⟨k + 1, by go_num, HK1.out, by rw [HST.out]; exact HM5⟩
            case measure => have := HK1.out; simp only [RowKit.intOf]; omega
          · have hz2 : (x0 == 0) = false := beq_eq_false_iff_ne.2 hz
            rw [if_neg hz] at HST
            have HBL : Hid (w.heap.size ≤ w5.heap.size) := HM5.out.2.on.size
            have HLN : Hid ((l.map (fun x => ((1 : Int), x)) ++ ((rowP N os).take k).filter (fun o => decide (o.1 ≠ 0))).length + 1 ≤ 10000000) := by show _ ≤ _; rw [← HM2.out.1]; have := HM2.out.2; omega
            go_wp2_with (at_builtin; refine wpList_append_one obK _ rfl _ _ rfl w.heap.size (.slice pv2 m2 cv2) _ rfl HM5.out.2.own (x0, x1) _ _ rfl rfl rfl HLN.out HBL.out ?_; intro v' w8 hv1 hv2 hv3; have HNX := Vx.hid (⟨HM5.out.1.beside HLT.out.2.2.1 HLT.out.1 HLT.out.2.1 HLT.out.2.2.2 HM5.out.2.own hv2, HM5.out.2.push hv1 hv2⟩ : _ ∧ _); clear hv1 hv2 hv3)
            go_roundw
            case rel => exact ⟨k + 1, by go_num, HK1.out, by rw [HST.out, ← List.append_assoc]; exact HNX⟩
            case measure => have := HK1.out; simp only [RowKit.intOf]; omega
        · obtain rfl : k = N := by omega
          have h1 : ¬ (k : Int) < (k : Int) := by omega
          have hmf := HM.out.2
          have htk : (rowP k os).take k = rowP k os := by
            have := List.take_length (l := rowP k os)
            rw [rowP_len] at this
            exact this
          rw [htk] at hmf
          have HMF := Vx.hid hmf
          have hlen : (l.map (fun x => ((1 : Int), x)) ++ (rowP k os).filter (fun o => decide (o.1 ≠ 0))).length ≤ 10000 := by
            have h2 := HM2.out
            rw [htk] at h2
            omega
          have HSO := Vx.hid (sort_ok hmf.own hlen)
          have HPE : Hid ((l.map (fun x => ((1 : Int), x)) ++ (rowP k os).filter (fun o => decide (o.1 ≠ 0))).Perm (allL os rs)) := by
            have h2 : (l.map (fun x => ((1 : Int), x))).Perm (rs.map (fun r => ((1 : Int), r.1))) := by
              have := HPK.out.map (fun x => ((1 : Int), x))
              rw [List.map_map] at this
              exact this
            exact (h2.append HRP.out).trans List.perm_append_comm
          clear hlt hmf htk hlen HM
          go_wp2_with fail
          refine HSO.out.mono ?_
          rintro e w9 ⟨rfl, xs', o1, o2, o3, o4⟩
          have HF := Vx.hid (⟨o1, o2.trans HPE.out, o3, Only.beyond HMF.out.on o4 (fun k hk => (own_lt HMF.out.own hk).1)⟩ : _ ∧ _ ∧ _ ∧ _)
          clear o1 o2 o3 o4
          go_wp2_with fail
          all_goals
            go_ret
            exact ⟨_, rfl, xs', HF.out.1, HF.out.2.1, HF.out.2.2.1, HF.out.2.2.2⟩
    · intro x c kl y yp w6 cnt3 hkey hlk hv hat hrg3 hlt hgr hsz hen
      obtain ⟨hxi, rfl, hxm⟩ := RnR.key (⟨HR.out.rg, HR.out.xq, HR.out.hr, HR.out.ml.on⟩ : RnR U w xb mb gb r D N os rs left cnt wr) hkey hat
      have HXM := Vx.hid (⟨hxm, hlk⟩ : _ ∧ _)
      have HLL : Hid (wr.rangeLeft mb r = cnt ∧ cnt3 < cnt) := ⟨HR.out.rg.left_eq, hlt⟩
      have H3 := Vx.hid (HR.out.next (x := x) hrg3 hgr)
      have HBL : Hid (w.heap.size ≤ w6.heap.size) := H3.out.2.2.on.size
      have HLN : Hid ((l.map (fun x => ((1 : Int), x))).length + 1 ≤ 10000000) := by show _ ≤ _; rw [← HMM.out]; omega
      clear hkey hlk hv hat hrg3 hlt hgr hsz hxi hxm
      go_wp2_with (at_builtin; refine wpList_append_one obK _ rfl _ _ rfl w.heap.size (.slice pv m cv) _ rfl H3.out.2.2.own ((1 : Int), x) _ _ rfl rfl rfl HLN.out HBL.out ?_; intro v' w8 hv1 hv2 hv3; have HNX := Vx.hid (HR.out.push HLT.out HXM.out.1 HXM.out.2 H3.out.1 H3.out.2.1 H3.out.2.2 hv1 hv2); clear hv1 hv2 hv3)
      go_roundw
      case rel => exact ⟨_, cnt3, _, HNX⟩
      case measure => rw [HLL.out.1, HNX.out.rg.left_eq]; exact HLL.out.2
end Go.Proofs.Ytbbabpgmclhinaa

import Derived.Test.YtflmobffeeocdaaDoorCa32
import Derived.Deep.RegionHeld3
import Derived.Laws.NewBlocks
/- Walks of VspaceWalks: laid. -/
namespace Go.Vx
/-- A store whose outcome is known, as one step of a region that draws. -/
theorem step_store {P : Program} {ops : Array Oper} {o : Oper} {a : Act} {w : World} {K : Act → World → Prop} {Q : Exit → Act → World → Prop} {E : Prop} (hg : o.guard = none) (t : TypeId) (x y : Operand) (hop : o.op = .store t x y) (hd : o.dst = none) (ad : Addr) (hx : a.eval x = .pointer (some ad)) (v : Value) (hy : a.eval y = v) (w' : World)
    (hrun : (Instr.storeAt t (.pointer (some ad)) v).run P w = .ok () w') (h : K a w') : if Region.wanted o (yielded ops a.tmps) = true then Oper.wp P o a w K Q else E := by
  have hw : Region.wanted o (yielded ops a.tmps) = true := by simp [Region.wanted, hg]
  rw [if_pos hw]
  unfold Oper.wp
  simp [execOp, hop, hx, hy, hrun, Result.andThen]
  rw [Oper.upon_skip, hd]
  exact h
/-- Three results, the second of them an array in a block. -/
theorem results_tct {P : Program} {fn : Func} {p q u : Tmp} {ty : TypeId} (h : fn.results = #[.tmp p, .cell q ty, .tmp u]) (tmps : Array Value) (w : World) (g : Nat) (t : TypeId) (cs : Array Value) (fr : Nat × Nat) (d : TypeDesc)
    (hp : tmps.getD q undef = .pointer (some ⟨g, 0, none⟩)) (hg : w.heap[g]? = some (.cells cs t fr))
    (hu : P.underlying ty = some d) (hd : (match d with | .struct _ | .array _ _ => true | _ => false) = true) (hi : (P.info? ty).map (·.size) = some cs.size) :
    (results fn tmps).run P w = .ok (.tuple #[tmps.getD p undef, .agg cs, tmps.getD u undef]) w := by
  have hp' : tmps[q]?.getD undef = .pointer (some ⟨g, 0, none⟩) := by simpa using hp
  simp [results, h, hp', asAddr, run_loadVar_row w g t ty cs fr d hg hu hd hi]
end Go.Vx
namespace Go.Proofs.YtflmobffeeocdaaDoor
open Go.ChangeShapes Go.WideShapes Go.ChangeAt Go.RowKit
open Go.Vx

theorem infoLay : (Tryd.prog.info? 30).map (·.size) = some 36 := by kernel_rfl
theorem load_hv {w : World} {hb : Nat} {H : Nat → Nat × Nat} (h : HvAt w hb H) : (Instr.loadAt 30 (.pointer (some ⟨hb, 0, none⟩))).run Tryd.prog w = .ok (.agg (hvL H).toArray) w := by
  have hu : Tryd.prog.underlying 30 = some (.array 12 29) := by kernel_rfl
  simp only [Instr.loadAt, Instr.sureAddr, Sem.run_bind, Sem.run_pure, Result.andThen]
  exact run_loadVar_row w hb 30 30 _ (0, 0) _ h.b hu rfl (by rw [infoLay, List.size_toArray, length_hvL])
theorem store_hv {w : World} {hb : Nat} {H G : Nat → Nat × Nat} (h : HvAt w hb H) : (Instr.storeAt 30 (.pointer (some ⟨hb, 0, none⟩)) (.agg (hvL G).toArray)).run Tryd.prog w = .ok () (w.setRow hb (hvL G).toArray) := by
  simp only [Instr.storeAt, Instr.sureAddr, Sem.run_bind, Sem.run_pure, Result.andThen]
  exact run_storeVar_row w hb 30 30 _ _ h.b (by rw [infoLay, List.size_toArray, length_hvL]) (by rw [List.size_toArray, List.size_toArray, length_hvL, length_hvL]) (by simpa using oneCell_hv G)
theorem HvAt.row {w : World} {hb : Nat} {H : Nat → Nat × Nat} (h : HvAt w hb H) (G : Nat → Nat × Nat) : HvAt (w.setRow hb (hvL G).toArray) hb G := ⟨by
  have h1 := h.b
  obtain ⟨hl, hv⟩ := Array.getElem?_eq_some_iff.1 h1
  simp only [World.setRow, Array.getElem?_modify, h1]
  simp⟩

theorem may_mod (r : Nat) (h1 : 1 ≤ r) (h2 : r ≤ 7) : mayB (r : Int) = !(decide (r % 4 = 2)) := by
  have hc : r = 1 ∨ r = 2 ∨ r = 3 ∨ r = 4 ∨ r = 5 ∨ r = 6 ∨ r = 7 := by omega
  rcases hc with rfl | rfl | rfl | rfl | rfl | rfl | rfl <;> decide
theorem and_three (r : Nat) (h2 : r ≤ 7) : bits .and .i64 (r : Int) 3 = ((r % 4 : Nat) : Int) := by
  have hc : r = 0 ∨ r = 1 ∨ r = 2 ∨ r = 3 ∨ r = 4 ∨ r = 5 ∨ r = 6 ∨ r = 7 := by omega
  rcases hc with rfl | rfl | rfl | rfl | rfl | rfl | rfl | rfl <;> decide
theorem LdR.start {W w1 w2 : World} {bm : Nat} {f : Nat → UInt8} (Z : Obj) (hZ : Z = .cells (hvL (fun _ => (0, 0))).toArray 30 (0, 0)) (ho : Only (fun _ => False) ((W.alloc Z).alloc Z) w1)
    (hm : MemAt (fun k => k < W.heap.size + 2) w2 bm 12 f) (ho2 : Only (fun k => ¬ k < W.heap.size + 2) w1 w2) (hf : f = laidF (fun _ => (0, 0))) : LdR W bm (W.heap.size + 1) (fun _ => (0, 0)) w2 := by
  have hs : ((W.alloc Z).alloc Z).heap.size = W.heap.size + 2 := by simp
  have hoo : Only (fun k => ¬ k < W.heap.size + 2) ((W.alloc Z).alloc Z) w2 := (ho.mono (fun _ _ h => h.elim)).trans ho2
  have hb0 : Below W.heap.size W ((W.alloc Z).alloc Z) := (((Only.refl (fun _ => False) W).alloc Z).alloc Z).below (Nat.le_refl _) (fun _ _ h => h)
  subst hf
  refine ⟨hm, ⟨?_⟩, ⟨?_⟩, fun _ _ => Or.inl rfl, hb0.trans (hoo.below (by rw [hs]; omega) (fun k hk h => h (by omega))), by rw [← hs]; exact hoo.size, rfl⟩
  · rw [hoo.block _ (by rw [hs]; omega) (fun h => h (by omega))]
    have := heap_alloc_last (W.alloc Z) Z
    rw [show (W.alloc Z).heap.size = W.heap.size + 1 by simp] at this
    rw [this, hZ]
  · rw [hoo.block _ (by rw [hs]; omega) (fun h => h (by omega)), RowKit.Below.heap_alloc _ _ _ (by simp), heap_alloc_last W Z, hZ]
theorem LdR.quiet {W : World} {bm hb : Nat} {H : Nat → Nat × Nat} {wr wx : World} (h : LdR W bm hb H wr) (ho : Only (fun _ => False) wr wx) : LdR W bm hb H wx :=
  ⟨h.m.quiet ho, h.h.only ho (fun h => h), h.z.only ho (fun h => h), h.ok, h.be.trans (ho.below h.be.size (fun _ _ h => h)), Nat.le_trans h.sz ho.size, h.eb⟩
/-- What a lay makes of the frames. -/
def layS (H : Nat → Nat × Nat) (z : Int × Int × Int) : Nat → Nat × Nat := if mayB ((1 + pickN z.2.2 7 : Nat) : Int) = false then H else if (H (pickN z.1 12)).2 ≠ 0 then H else updH H (pickN z.1 12) (4 + pickN z.2.1 8, 1 + pickN z.2.2 7)
def layH (zs : List (Int × Int × Int)) : Nat → Nat × Nat := zs.foldl layS (fun _ => (0, 0))
theorem layH_snoc (zs : List (Int × Int × Int)) (k : Nat) (h : k < zs.length) : layH (zs.take (k + 1)) = layS (layH (zs.take k)) zs[k] := by
  unfold layH
  rw [List.take_succ_eq_append_getElem h, List.foldl_append]
  rfl
set_option maxRecDepth 100000 in
set_option maxHeartbeats 4000000 in
theorem laid_at (W : World) (pa : Option Addr) (len cap : Nat) (zs : List (Int × Int × Int)) (hlen : zs.length = len) (hlc : len ≤ cap) (hcm : cap ≤ maxLen) (hp : LaAt W pa zs) (hz : ∀ z ∈ zs, in64 z.1 ∧ in64 z.2.1 ∧ in64 z.2.2) :
    Calls Tryd.prog 5 #[.slice pa len cap] W fun e w' => ∃ bm H, e = .returned (.tuple #[.pointer (some ⟨bm, 0, none⟩), .agg (hvL H).toArray, .bool true]) ∧ MemAt (fun k => k < W.heap.size) w' bm 12 (laidF H) ∧ (∀ v, v < 12 → okE (H v)) ∧ Below W.heap.size W w' ∧ H = layH (zs.take 40) := by
  have HP := Vx.hid hp
  have HZ := Vx.hid hz
  have HL := Vx.hid hlen
  have HNW := Vx.hid (fun wv => new_ok 12 (by decide) (by decide) wv)
  have hlm : (len : Int) ≤ 9223372036854775807 := by simp [maxLen] at hcm; omega
  obtain ⟨Z, hZ⟩ : ∃ Z : Obj, Z = .cells #[.int .i64 0, .int .i64 0, .int .i64 0, .int .i64 0, .int .i64 0, .int .i64 0, .int .i64 0, .int .i64 0, .int .i64 0, .int .i64 0, .int .i64 0, .int .i64 0, .int .i64 0, .int .i64 0, .int .i64 0, .int .i64 0, .int .i64 0, .int .i64 0, .int .i64 0, .int .i64 0, .int .i64 0, .int .i64 0, .int .i64 0, .int .i64 0, .int .i64 0, .int .i64 0, .int .i64 0, .int .i64 0, .int .i64 0, .int .i64 0, .int .i64 0, .int .i64 0, .int .i64 0, .int .i64 0, .int .i64 0, .int .i64 0] 30 (0, 0) := ⟨_, rfl⟩
  have HZZ : Hid (Z = .cells (hvL (fun _ => (0, 0))).toArray 30 (0, 0)) := by show _ = _; rw [hvL_zero]; exact hZ
  clear hp hz hlen hlc hcm
  go_enter Tryd.func5, Tryd.ntmps5
  go_wp2_with fail
  rw [← hZ]
  refine (HNW.out _).mono ?_
  rintro e w1 ⟨bm, rfl, hb1, hb2, ho1, hm1⟩
  have HO1 := Vx.hid ho1
  have HM1 := Vx.hid (hm1 (fun k => k < W.heap.size + 2) (fun k hk => by simpa using hk))
  have HTB : Hid (Calls Tryd.prog 12 #[.pointer (some ⟨bm, 0, none⟩), .int .i64 1, .int .u32 0, .int .i64 2] w1 fun e w' => e = .returned (.int .i64 0) ∧ Hid (LdR W bm (W.heap.size + 1) (fun _ => (0, 0)) w')) := by
    refine (putTable_any HM1.out 1 0 (by decide) 2).mono ?_
    rintro e w' ⟨rfl, hm, ho⟩
    rw [tableR_laid] at hm ⊢
    exact ⟨rfl, LdR.start Z HZZ.out HO1.out hm ho rfl⟩
  clear hm1 ho1 hb1 hb2 HM1 HO1 HZZ hZ
  go_wp2_with fail
  refine HTB.out.mono ?_
  rintro e w2 ⟨rfl, H0⟩
  clear HTB HNW
  obtain ⟨hb, hhb⟩ : ∃ hb, hb = W.heap.size + 1 := ⟨_, rfl⟩
  rw [← hhb] at H0 ⊢
  clear hhb
  go_wp2_with fail
  go_loopw [9] (fun d wr => ∃ (k : Nat) (H : Nat → Nat × Nat), d = .int .i64 (k : Int) ∧ k ≤ len ∧ k ≤ 40 ∧ Hid (LdR W bm hb H wr) ∧ Hid (H = layH (zs.take k))) (fun d _ => len - (intOf d).toNat)
  case atStart => exact ⟨0, _, rfl, by omega, by omega, H0, rfl⟩
  case round =>
    obtain ⟨k, H, rfl, hk, hk2, HR, HQ⟩ := hrel
    by_cases hlt : k < len ∧ k < 40
    · have h1 : (k : Int) < (len : Int) := by omega
      have h2 : (k : Int) < 40 := by omega
      have hidx : 0 ≤ (k : Int) ∧ (k : Int) < (len : Int) := by omega
      have hkz : k < zs.length := by have := HL.out; omega
      obtain ⟨ab, ao, rfl, hcz⟩ : ∃ ab ao, pa = some ⟨ab, ao, none⟩ ∧ ∀ (j : Nat) (h : j < zs.length), W.cell? ⟨ab, ao + j * 3, none⟩ = some (.int .i64 (zs[j]).1) ∧ W.cell? ⟨ab, ao + j * 3 + 1, none⟩ = some (.int .i64 (zs[j]).2.1) ∧ W.cell? ⟨ab, ao + j * 3 + 2, none⟩ = some (.int .i64 (zs[j]).2.2) := by
        rcases HP.out with h | h
        · rw [h] at hkz; simp at hkz
        · exact h
      obtain ⟨hc0, hc1, hc2⟩ := hcz k hkz
      have hab : ab < W.heap.size := World.block_lt_of_cell? W _ hc0
      have hcc : ∀ o, wr.cell? ⟨ab, o, none⟩ = W.cell? ⟨ab, o, none⟩ := fun o => HR.out.be.cell (p := ⟨ab, o, none⟩) hab
      obtain ⟨z0, z1, z2⟩ := HZ.out zs[k] (List.getElem_mem _)
      rw [← hcc] at hc0 hc1 hc2
      have HST : Hid (layH (zs.take (k + 1)) = layS H zs[k]) := by show _ = _; rw [layH_snoc zs k hkz, ← HQ.out]
      generalize zs[k] = z at hc0 hc1 hc2 z0 z1 z2 HST
      obtain ⟨x0, x1, x2⟩ := z
      simp only at hc0 hc1 hc2 z0 z1 z2
      have HST2 : Hid (layH (zs.take (k + 1)) = if mayB ((1 + pickN x2 7 : Nat) : Int) = false then H else if (H (pickN x0 12)).2 ≠ 0 then H else updH H (pickN x0 12) (4 + pickN x1 8, 1 + pickN x2 7)) := HST.out
      clear HST
      have HP0 := Vx.hid (pick_any 12 (by decide) (by decide) x0 z0.1 z0.2 wr)
      have HP1 := Vx.hid (pick_any 8 (by decide) (by decide) x1 z1.1 z1.2 wr)
      have HP2 := Vx.hid (pick_any 7 (by decide) (by decide) x2 z2.1 z2.2 wr)
      have l0 : pickN x0 12 < 12 := Nat.mod_lt _ (by decide)
      have l1 : pickN x1 8 < 8 := Nat.mod_lt _ (by decide)
      have l2 : pickN x2 7 < 7 := Nat.mod_lt _ (by decide)
      generalize pickN x0 12 = v at HP0 l0 HST2
      generalize pickN x1 8 = p1 at HP1 l1 HST2
      generalize pickN x2 7 = r1 at HP2 l2 HST2
      obtain ⟨p, hpp⟩ : ∃ p, p = 4 + p1 := ⟨_, rfl⟩
      obtain ⟨r, hrr⟩ : ∃ r, r = 1 + r1 := ⟨_, rfl⟩
      rw [← hpp, ← hrr] at HST2
      have e1 : (4 : Int) + (p1 : Int) = (p : Int) := by omega
      have e2 : (1 : Int) + (r1 : Int) = (r : Int) := by omega
      have e3 : (v : Int) * 4096 = ((4096 * v : Nat) : Int) := by omega
      have w1' : IntKind.i64.wrap (p : Int) = (p : Int) := by rw [IntKind.wrap_i64]; omega
      have w2' : IntKind.i64.wrap (r : Int) = (r : Int) := by rw [IntKind.wrap_i64]; omega
      have w3' : IntKind.i64.wrap ((4096 * v : Nat) : Int) = ((4096 * v : Nat) : Int) := by rw [IntKind.wrap_i64]; omega
      have w4' : IntKind.u32.wrap ((4096 * v : Nat) : Int) = ((4096 * v : Nat) : Int) := by rw [IntKind.wrap_u32]; omega
      have HMP := Vx.hid (HR.out.map v p r l0 (by omega) (by omega) (by omega))
      have ha3 := and_three r (by omega)
      have HMM := Vx.hid (may_mod r (by omega) (by omega))
      have hw9 : IntKind.i64.wrap ((k : Int) + 1) = (k : Int) + 1 := by rw [IntKind.wrap_i64]; omega
      have hiv : 0 ≤ (v : Int) ∧ (v : Int) < 12 := by omega
      obtain ⟨V4, hV4⟩ : ∃ V4 : Nat, V4 = 4096 * v := ⟨_, rfl⟩
      rw [← hV4] at e3 w3' w4' HMP
      obtain ⟨r4, hr4⟩ : ∃ r4 : Nat, r4 = r % 4 := ⟨_, rfl⟩
      rw [← hr4] at ha3 HMM
      clear hpp hrr hcz hcc hlt hab l1 l2 hV4 hr4
      go_wp2_with fail
      refine HP0.out.mono ?_
      rintro e w' ⟨rfl, h⟩
      have h3 := h.symm; clear h; subst h3
      go_wp2_with fail
      refine HP1.out.mono ?_
      rintro e w' ⟨rfl, h⟩
      have h3 := h.symm; clear h; subst h3
      go_wp2_with fail
      refine HP2.out.mono ?_
      rintro e w' ⟨rfl, h⟩
      have h3 := h.symm; clear h; subst h3
      go_wp2_with fail
      refine HMP.out.mono ?_
      rintro e w3 ⟨hA, hB, hC⟩
      have HL0 := Vx.hid l0
      clear l0
      by_cases hm : r4 = 2
      · obtain ⟨rfl, hR⟩ := hA (by rw [HMM.out, hm]; rfl)
        have HR2 := Vx.hid hR
        have HQ2 : Hid (H = layH (zs.take (k + 1))) := by show _ = _; rw [HST2.out, if_pos (by rw [HMM.out, hm]; rfl)]
        have d1 : (r4 : Int) = 2 := by omega
        clear hA hB hC hR hm
        go_wp2_with fail
        go_roundw
        case rel => exact ⟨k + 1, H, by go_num, by omega, by omega, HR2, HQ2⟩
        case measure => simp only [intOf]; omega
      · have d1 : ¬ (r4 : Int) = 2 := by omega
        have d2 : ((r4 : Int) == 2) = false := by simpa using d1
        have hmt : mayB (r : Int) = true := by rw [HMM.out]; simp [hm]
        by_cases h0 : (H v).2 = 0
        · obtain ⟨rfl, ⟨y0, c0⟩, ⟨y1, c1⟩, c2, hfz, hR⟩ := hC hmt h0
          have f0 := hfz (v * 3)
          have f1 := hfz (v * 3 + 1)
          have f2 := hfz (v * 3 + 2)
          have HR2 := Vx.hid hR
          have HQ2 : Hid (updH H v (p, r) = layH (zs.take (k + 1))) := by show _ = _; rw [HST2.out, if_neg (by rw [hmt]; simp), if_neg (by simp [h0])]
          clear hA hB hC hR hm h0 hfz
          go_wp2_with fail
          go_roundw
          case rel => exact ⟨k + 1, _, by go_num, by omega, by omega, HR2, HQ2⟩
          case measure => simp only [intOf]; omega
        · obtain ⟨rfl, hR⟩ := hB hmt h0
          have HR2 := Vx.hid hR
          have HQ2 : Hid (H = layH (zs.take (k + 1))) := by show _ = _; rw [HST2.out, if_neg (by rw [hmt]; simp), if_pos h0]
          obtain ⟨_, _, c2⟩ := hR.h.cells v HL0.out
          have hgt : 0 < (((H v).2 : Nat) : Int) := by omega
          generalize (H v).2 = rv at c2 hgt
          clear hA hB hC hR hm h0
          go_wp2_with fail
          go_roundw
          case rel => exact ⟨k + 1, H, by go_num, by omega, by omega, HR2, HQ2⟩
          case measure => simp only [intOf]; omega
    · have hgo : (¬ (k : Int) < (len : Int)) ∨ ((k : Int) < (len : Int) ∧ ¬ (k : Int) < 40) := by omega
      have HQF : Hid (H = layH (zs.take 40)) := by
        show _ = _
        have hzl := HL.out
        rcases (by omega : k = 40 ∨ k = zs.length) with h | h
        · rw [HQ.out, h]
        · rw [HQ.out, List.take_of_length_le (by omega), List.take_of_length_le (by omega)]
      have HRD : Hid (LdR W bm hb H wr.drew) := HR.out.quiet ((Only.refl _ _).drew)
      clear hlt
      rcases hgo with h1 | ⟨h1, h2⟩
      all_goals
        have HLD := Vx.hid (load_hv HRD.out.h)
        have HSD := Vx.hid (store_hv (G := H) HRD.out.z)
        go_wp2_with fail
        refine wp_region_any (by kernel_rfl) ?_
        try (change wpAny _ _ _ _ _ _ _ (World.drew _))
        refine wpAny_take (i := 0) (v := ?_) rfl (by kernel_rfl) (by kernel_rfl) (by kernel_rfl) (fun _ _ _ h => h) (Or.inl ⟨by rfl, ?_⟩) ?_
        rotate_left
        · intro w; go_simp
          try with_reducible rfl
        rotate_left
        refine wpAny_take (i := 2) (v := ?_) rfl (by kernel_rfl) (by kernel_rfl) (by kernel_rfl) (fun _ _ _ h => h) (Or.inl ⟨by rfl, ?_⟩) ?_
        rotate_left
        · intro w; go_simp
          try with_reducible rfl
        rotate_left
        refine wpAny_ready (rs := [1]) (by kernel_rfl) (by simp) ?_
        refine (AllReady.cons rfl (fun K hK => ?_) AllReady.nil)
        refine Vx.step_load rfl 30 (.tmp 5) rfl ⟨hb, 0, none⟩ (by first | (simp [Act.eval]; done) | simp [Act.eval, Act.put]) (.agg (hvL H).toArray) HLD.out ?_
        try go_simp
        refine hK _ _ ?_
        clear hK K
        refine wpAny_ready (rs := [3]) (by kernel_rfl) (by simp) ?_
        refine (AllReady.cons rfl (fun K hK => ?_) AllReady.nil)
        refine Vx.step_store rfl 30 (.tmp 3) (.tmp 89) rfl rfl ⟨W.heap.size, 0, none⟩ (by first | (simp [Act.eval]; done) | simp [Act.eval, Act.put]) (.agg (hvL H).toArray) (by first | (simp [Act.eval]; done) | simp [Act.eval, Act.put]) _ HSD.out ?_
        try go_simp
        refine hK _ _ ?_
        clear hK K
        refine wpAny_take (i := 4) (v := ?_) rfl (by kernel_rfl) (by kernel_rfl) (by kernel_rfl) (fun _ _ _ h => h) (Or.inl ⟨by rfl, ?_⟩) ?_
        rotate_left
        · intro w; go_simp
          try with_reducible rfl
        rotate_left
        refine wpAny_done (by kernel_rfl) ?_ _
        go_wp2_with fail
        have hu : Tryd.prog.underlying 30 = some (.array 12 29) := by kernel_rfl
        have hz := HRD.out.z.row H
        have ho : Only (fun k => k = W.heap.size) wr.drew (wr.drew.setRow W.heap.size (hvL H).toArray) := only_row _ _ _
        have hbe : Below W.heap.size W (wr.drew.setRow W.heap.size (hvL H).toArray) := HRD.out.be.trans (ho.below HRD.out.be.size (fun k hk hs => by omega))
        refine bodyPost_ret_by (results_tct rfl _ _ W.heap.size 30 (hvL H).toArray (0, 0) _ rfl hz.b hu rfl (by rw [infoLay, List.size_toArray, length_hvL])) rfl ?_
        exact ⟨bm, H, rfl, (HRD.out.m.only ho (fun k hk _ => by show k < _; omega)).weaken (fun k hk => by show k < _; have : k < W.heap.size := hk; omega), HRD.out.ok, hbe, HQF.out⟩
theorem laid_ok (W : World) (pa : Option Addr) (len cap : Nat) (zs : List (Int × Int × Int)) (hlen : zs.length = len) (hlc : len ≤ cap) (hcm : cap ≤ maxLen) (hp : LaAt W pa zs) (hz : ∀ z ∈ zs, in64 z.1 ∧ in64 z.2.1 ∧ in64 z.2.2) :
    Calls Tryd.prog 5 #[.slice pa len cap] W fun e w' => ∃ bm H, e = .returned (.tuple #[.pointer (some ⟨bm, 0, none⟩), .agg (hvL H).toArray, .bool true]) ∧ MemAt (fun k => k < W.heap.size) w' bm 12 (laidF H) ∧ (∀ v, v < 12 → okE (H v)) ∧ Below W.heap.size W w' := by
  refine (laid_at W pa len cap zs hlen hlc hcm hp hz).mono ?_
  rintro e w' ⟨bm, H, h1, h2, h3, h4, _⟩
  exact ⟨bm, H, h1, h2, h3, h4⟩
end Go.Proofs.YtflmobffeeocdaaDoor

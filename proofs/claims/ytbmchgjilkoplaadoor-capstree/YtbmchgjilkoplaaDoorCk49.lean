import Derived.Test.YtbmchgjilkoplaaDoorCk48
/- CapsTree, CapsRevoked: grown. -/
namespace Go.Proofs.YtbmchgjilkoplaaDoor
open Go.ChangeShapes Go.WideShapes Go.ChangeAt Go.RowKit
open Go.Vx
set_option linter.unusedVariables false

theorem upL_zero : (upL (fun _ => 0)).toArray = #[.int .i64 0, .int .i64 0, .int .i64 0, .int .i64 0, .int .i64 0, .int .i64 0, .int .i64 0, .int .i64 0, .int .i64 0, .int .i64 0, .int .i64 0, .int .i64 0, .int .i64 0, .int .i64 0, .int .i64 0, .int .i64 0, .int .i64 0, .int .i64 0, .int .i64 0, .int .i64 0, .int .i64 0, .int .i64 0, .int .i64 0, .int .i64 0, .int .i64 0, .int .i64 0, .int .i64 0, .int .i64 0, .int .i64 0, .int .i64 0, .int .i64 0, .int .i64 0] := rfl
/-- Grafts where they lie. -/
def GrAt (w : World) (pa : Option Addr) (zs : List (Int × Int × Int)) : Prop :=
  zs = [] ∨ ∃ ab ao, pa = some ⟨ab, ao, none⟩ ∧ ∀ (j : Nat) (h : j < zs.length), w.cell? ⟨ab, ao + j * 3, none⟩ = some (.int .i64 (zs[j]).1) ∧ w.cell? ⟨ab, ao + j * 3 + 1, none⟩ = some (.int .i64 (zs[j]).2.1) ∧ w.cell? ⟨ab, ao + j * 3 + 2, none⟩ = some (.int .i64 (zs[j]).2.2)
def filF (k j : Nat) : Int := if j = 0 then 0 else if j < k then -2 else 0
def es1 : List En := [⟨(1, 0), cp7, (-1, -1)⟩]
theorem putE1 : putE two16 [] (1, 0) cp7 (-1, 0) = 0 := by decide
theorem putL1 : putL two16 [] (1, 0) cp7 (-1, 0) = es1 := by kernel_rfl
theorem uF1 (j : Nat) (hj : j < 32) : (if j = 0 then (-1 : Int) else filF 32 j) = uF es1 j := by
  unfold uF
  by_cases h : j = 0
  · subst h; rfl
  · rw [if_neg h, plF_none]
    · unfold filF
      rw [if_neg h, if_pos hj]
      rfl
    · intro e he hE
      simp only [es1, List.mem_cons, List.not_mem_nil, or_false] at he
      subst he
      exact h (plcN_inj (m := j) (n := 0) hE.symm)
theorem makeE1 : makeE [] 1 16 = 0 := by decide
theorem makeL1 : makeL [] 1 16 = [(1, 16)] := by decide
theorem makeE2 : makeE [(1, 16)] 2 16 = 0 := by decide
theorem makeL2 : makeL [(1, 16)] 2 16 = two16 := by decide
theorem K7_1 : K7 es1 := fun e he => by
  simp only [es1, List.mem_cons, List.not_mem_nil, or_false] at he
  subst he
  exact ⟨rfl, rfl⟩
theorem GwX.start {W w1 : World} {xb : Nat} (Z : Obj) (hZ : Z = .cells (upL (fun _ => 0)).toArray 52 (0, 0)) (hn : NsAt W) (hs : XcAt (fun k => k < ((W.alloc Z).alloc Z).heap.size ∧ k ≠ 0) w1 xb [] []) (ho : Only (fun _ => False) ((W.alloc Z).alloc Z) w1) :
    GwX (fun k => k < W.heap.size + 2 ∧ k ≠ 0) W xb [] [] (filF 1) w1 := by
  have hsz : ((W.alloc Z).alloc Z).heap.size = W.heap.size + 2 := by simp
  have hl := lt_of_some hn
  rw [hsz] at hs
  refine ⟨hs, ⟨?_⟩, ⟨?_⟩, ⟨by omega, by omega⟩, ⟨by omega, by omega⟩, fun k hk h => ⟨by omega, h⟩, ((((Only.refl (fun _ => False) W).alloc Z).alloc Z).trans ho).below (Nat.le_refl _) (fun _ _ h => h)⟩
  · rw [ho.block _ (by rw [hsz]; omega) (fun h => h)]
    have := heap_alloc_last (W.alloc Z) Z
    rw [show (W.alloc Z).heap.size = W.heap.size + 1 by simp] at this
    rw [this, hZ]
    have h0 : upL (filF 1) = upL (fun _ => 0) := upL_same (fun j _ => by unfold filF; split; rfl; split; omega; rfl)
    rw [h0]
  · rw [ho.block _ (by rw [hsz]; omega) (fun h => h), RowKit.Below.heap_alloc _ _ _ (by simp), heap_alloc_last W Z, hZ]
set_option maxRecDepth 100000 in
set_option maxHeartbeats 8000000 in
theorem grown_ok (W : World) (hns : NsAt W) (pa : Option Addr) (len cap : Nat) (zs : List (Int × Int × Int)) (hlen : zs.length = len) (hlc : len ≤ cap) (hcm : cap ≤ maxLen) (hp : GrAt W pa zs) (hz : ∀ z ∈ zs, I64 z.1 ∧ I64 z.2.1 ∧ I64 z.2.2) :
    Calls Tryd.prog 13 #[.slice pa len cap] W fun e w' => ∃ xb es, e = .returned (.tuple #[.pointer (some ⟨xb, 0, none⟩), .agg (upL (uF es)).toArray, .bool true]) ∧ XcAt (fun k => k < W.heap.size ∧ k ≠ 0) w' xb two16 es ∧ K7 es ∧ es.length ≤ 1000 ∧ Below W.heap.size W w' := by
  have HP := Vx.hid hp
  have HZ := Vx.hid hz
  have HL := Vx.hid hlen
  have HNS := Vx.hid hns
  have HNW := Vx.hid (fun wv (hv : NsAt wv) => xnew_ok (w := wv) hv)
  have hlm : (len : Int) ≤ 9223372036854775807 := by simp [maxLen] at hcm; omega
  obtain ⟨Z, hZ⟩ : ∃ Z : Obj, Z = .cells #[.int .i64 0, .int .i64 0, .int .i64 0, .int .i64 0, .int .i64 0, .int .i64 0, .int .i64 0, .int .i64 0, .int .i64 0, .int .i64 0, .int .i64 0, .int .i64 0, .int .i64 0, .int .i64 0, .int .i64 0, .int .i64 0, .int .i64 0, .int .i64 0, .int .i64 0, .int .i64 0, .int .i64 0, .int .i64 0, .int .i64 0, .int .i64 0, .int .i64 0, .int .i64 0, .int .i64 0, .int .i64 0, .int .i64 0, .int .i64 0, .int .i64 0, .int .i64 0] 52 (0, 0) := ⟨_, rfl⟩
  have HZZ : Hid (Z = .cells (upL (fun _ => 0)).toArray 52 (0, 0)) := by show _ = _; rw [upL_zero]; exact hZ
  clear hp hz hlen hlc hcm hns
  go_enter Tryd.func13, Tryd.ntmps13
  go_wp2_with fail
  rw [← hZ]
  refine (HNW.out _ (HNS.out.quiet (((Only.refl _ W).alloc _).alloc _))).mono ?_
  rintro e w1 ⟨xb, rfl, _, hs1, ho1⟩
  have H1 : Hid (GwX (fun k => k < W.heap.size + 2 ∧ k ≠ 0) W xb [] [] (filF 1) w1) := GwX.start Z HZZ.out HNS.out hs1 ho1
  clear hs1 ho1 HNW HZZ hZ
  obtain ⟨zb, hzb⟩ : ∃ zb, zb = W.heap.size := ⟨_, rfl⟩
  obtain ⟨ub, hub⟩ : ∃ ub, ub = W.heap.size + 1 := ⟨_, rfl⟩
  have HZB := Vx.hid hzb
  have HUB := Vx.hid hub
  rw [← hub]
  rw [← hzb]
  clear hzb hub
  go_wp2_with fail
  go_loopw [7] (fun d wr => ∃ k : Nat, d = .int .i64 (k : Int) ∧ 1 ≤ k ∧ k ≤ 32 ∧ Hid (GwX (fun k => k < W.heap.size + 2 ∧ k ≠ 0) W xb [] [] (filF k) wr)) (fun d _ => 32 - (intOf d).toNat)
  case atStart => exact ⟨1, rfl, by omega, by omega, H1⟩
  case round =>
    clear H1
    obtain ⟨k, rfl, hk1, hk, HR⟩ := hrel
    by_cases hlt : k < 32
    · have h1 : (k : Int) < 32 := by omega
      have hidk : 0 ≤ (k : Int) ∧ (k : Int) < 32 := by omega
      have hwk : IntKind.i64.wrap ((k : Int) + 1) = (k : Int) + 1 := by rw [IntKind.wrap_i64]; omega
      have c1 := HR.out.u.cell k hlt
      have f1 := HR.out.u.fz k
      rw [← HUB.out] at c1 f1
      have HR2 : Hid (GwX (fun k => k < W.heap.size + 2 ∧ k ≠ 0) W xb [] [] (filF (k + 1)) (wr.setCell ⟨ub, k, none⟩ (.int .i64 (-2)))) := by
        rw [HUB.out]
        refine (HR.out.set k (-2)).same (fun j hj => ?_)
        unfold filF
        by_cases h3 : j = k
        · subst h3
          rw [if_pos rfl, if_neg (by omega), if_pos (by omega)]
        · rw [if_neg h3]
          by_cases h4 : j = 0
          · rw [if_pos h4, if_pos h4]
          · rw [if_neg h4, if_neg h4]
            by_cases h5 : j < k
            · rw [if_pos h5, if_pos (by omega)]
            · rw [if_neg h5, if_neg (by omega)]
      generalize filF k k = x at c1
      clear hlt
      go_wp2_with fail
      go_roundw
      case rel => exact ⟨k + 1, by go_num, by omega, by omega, HR2⟩
      case measure => simp only [intOf]; omega
    · obtain rfl : k = 32 := by omega
      have c1 := HR.out.u.cell 0 (by decide)
      have f1 := HR.out.u.fz 0
      rw [← HUB.out] at c1 f1
      have HR2 : Hid (GwX (fun k => k < W.heap.size + 2 ∧ k ≠ 0) W xb [] [] (fun j => if j = 0 then -1 else filF 32 j) (wr.setCell ⟨ub, 0, none⟩ (.int .i64 (-1)))) := by
        rw [HUB.out]
        exact HR.out.set 0 (-1)
      generalize filF 32 0 = x at c1
      clear hlt HR
      go_upto_region 10 with fail
      obtain ⟨w3, hw3⟩ : ∃ w3, w3 = wr.setCell ⟨ub, 0, none⟩ (.int .i64 (-1)) := ⟨_, rfl⟩
      rw [← hw3] at HR2 ⊢
      clear hw3 c1 f1
      have HM1 : Hid (Calls Tryd.prog 7 #[.pointer (some ⟨xb, 0, none⟩), .int .i64 1, .int .i64 16] w3 fun e w' => e = .returned (.int .i64 0) ∧ Hid (GwX (fun k => k < W.heap.size + 2 ∧ k ≠ 0) W xb [(1, 16)] [] (fun j => if j = 0 then -1 else filF 32 j) w')) := by
        refine (xmake_ok HR2.out.s 1 16 (by unfold I64; decide) (by decide)).mono ?_
        rintro e w' ⟨rfl, hs, ho⟩
        rw [makeL1] at hs
        rw [makeE1]
        exact ⟨rfl, HR2.out.call hs ho⟩
      clear HR2
      go_wp2_with fail
      refine HM1.out.mono ?_
      rintro e w4 ⟨rfl, HR2⟩
      clear HM1
      have HM1 : Hid (Calls Tryd.prog 7 #[.pointer (some ⟨xb, 0, none⟩), .int .i64 2, .int .i64 16] w4 fun e w' => e = .returned (.int .i64 0) ∧ Hid (GwX (fun k => k < W.heap.size + 2 ∧ k ≠ 0) W xb two16 [] (fun j => if j = 0 then -1 else filF 32 j) w')) := by
        refine (xmake_ok HR2.out.s 2 16 (by unfold I64; decide) (by decide)).mono ?_
        rintro e w' ⟨rfl, hs, ho⟩
        rw [makeL2] at hs
        rw [makeE2]
        exact ⟨rfl, HR2.out.call hs ho⟩
      clear HR2
      go_wp2_with fail
      refine HM1.out.mono ?_
      rintro e w5 ⟨rfl, HR2⟩
      clear HM1
      go_upto_region 15 with fail
      have HV : Hid (∃ V : Nat → Prop, V w5.heap.size ∧ GwX V W xb two16 [] (fun j => if j = 0 then -1 else filF 32 j) (w5.alloc (.cells #[.int .i64 7, .int .i64 9] 60 (0, 0))) ∧ (∀ k, k < W.heap.size → k ≠ 0 → V k)) := ⟨_, Or.inr rfl, HR2.out.obj _, fun k hk hn => Or.inl ⟨by omega, hn⟩⟩
      obtain ⟨V, hV, hGX, hVB⟩ := HV.out
      have HGX := Vx.hid hGX
      have HVO := Vx.hid hV
      have HVB := Vx.hid hVB
      have HOB := Vx.hid (heap_alloc_last w5 (.cells #[.int .i64 7, .int .i64 9] 60 (0, 0)))
      have HNE : Hid (w5.heap.size ≠ W.heap.size + 1) := fun h1 => by
        have := lt_of_some HR2.out.u.b
        omega
      clear hV hGX HV HR2 hVB
      obtain ⟨ob, hob⟩ : ∃ ob, ob = w5.heap.size := ⟨_, rfl⟩
      rw [← hob] at HVO HOB HNE ⊢
      obtain ⟨w6, hw6⟩ : ∃ w6, w6 = w5.alloc (.cells #[.int .i64 7, .int .i64 9] 60 (0, 0)) := ⟨_, rfl⟩
      rw [← hw6] at HGX HOB ⊢
      clear hw6 hob
      have o0 : w6.cell? ⟨ob, 0, none⟩ = some (.int .i64 7) := (cell_of_row _ _ 0 _ _ (0, 0) HOB.out).trans rfl
      have o1 : w6.cell? ⟨ob, 1, none⟩ = some (.int .i64 9) := (cell_of_row _ _ 1 _ _ (0, 0) HOB.out).trans rfl
      have HPT : Hid (Calls Tryd.prog 28 #[.pointer (some ⟨xb, 0, none⟩), .agg #[.int .i64 1, .int .i64 0], .agg #[.int .i64 7, .int .i64 9, .int .i64 7, .int .u32 0, .int .u32 0, .int .i64 0, .int .i64 0, .int .u32 0], .agg #[.int .i64 (-1), .int .i64 0]] w6 fun e w' => e = .returned (.int .i64 0) ∧ Hid (GwO V W xb ob es1 (uF es1) 0 w')) := by
        refine (xput_ok HGX.out.s (1, 0) cp7 (-1, 0) (by unfold I64; decide) (by unfold I64; decide) (by unfold I64 cp7; decide) gu7 (by decide)).mono ?_
        rintro e w' ⟨rfl, hs, ho⟩
        rw [putL1] at hs
        rw [putE1]
        exact ⟨rfl, ⟨(HGX.out.call hs ho).same uF1, HVO.out, HNE.out, Only.keep ho HOB.out (fun h1 => h1 HVO.out), K7_1, by decide⟩⟩
      clear HGX HVO HOB HNE
      go_wp2_with fail
      refine HPT.out.mono ?_
      rintro e w7 ⟨rfl, HG0⟩
      clear HPT o0 o1
      go_wp2_with fail
      go_loopw [12] (fun d wr => ∃ (k : Nat) (es : List En), d = .int .i64 (k : Int) ∧ k ≤ len ∧ k ≤ 200 ∧ Hid (GwO V W xb ob es (uF es) k wr)) (fun d _ => len - (intOf d).toNat)
      case atStart => exact ⟨0, _, rfl, by omega, by omega, HG0⟩
      case round =>
        clear HG0
        obtain ⟨k, es, rfl, hk, hk2, HR⟩ := hrel
        by_cases hlt : k < len ∧ k < 200
        · have h1 : (k : Int) < (len : Int) := by omega
          have h2 : (k : Int) < 200 := by omega
          have hidx : 0 ≤ (k : Int) ∧ (k : Int) < (len : Int) := by omega
          have hwk : IntKind.i64.wrap ((k : Int) + 1) = (k : Int) + 1 := by rw [IntKind.wrap_i64]; omega
          have hkz : k < zs.length := by have := HL.out; omega
          obtain ⟨ab, ao, rfl, hcz⟩ : ∃ ab ao, pa = some ⟨ab, ao, none⟩ ∧ ∀ (j : Nat) (h : j < zs.length), W.cell? ⟨ab, ao + j * 3, none⟩ = some (.int .i64 (zs[j]).1) ∧ W.cell? ⟨ab, ao + j * 3 + 1, none⟩ = some (.int .i64 (zs[j]).2.1) ∧ W.cell? ⟨ab, ao + j * 3 + 2, none⟩ = some (.int .i64 (zs[j]).2.2) := by
            rcases HP.out with h | h
            · rw [h] at hkz; simp at hkz
            · exact h
          obtain ⟨hc0, hc1, hc2⟩ := hcz k hkz
          have hab : ab < W.heap.size := World.block_lt_of_cell? W _ hc0
          obtain ⟨i0, i1, i2⟩ := HZ.out zs[k] (List.getElem_mem _)
          generalize zs[k] = z at hc0 hc1 hc2 i0 i1 i2
          obtain ⟨x0, x1, x2⟩ := z
          simp only at hc0 hc1 hc2 i0 i1 i2
          have HCC : Hid (∀ wv, Only (fun _ => False) wr wv → wv.cell? ⟨ab, ao + k * 3, none⟩ = some (.int .i64 x0) ∧ wv.cell? ⟨ab, ao + k * 3 + 1, none⟩ = some (.int .i64 x1) ∧ wv.cell? ⟨ab, ao + k * 3 + 2, none⟩ = some (.int .i64 x2)) := fun wv hv => by
            have hb := (HR.out.quiet hv).g.be
            exact ⟨(hb.cell (p := ⟨ab, ao + k * 3, none⟩) hab).trans hc0, (hb.cell (p := ⟨ab, ao + k * 3 + 1, none⟩) hab).trans hc1, (hb.cell (p := ⟨ab, ao + k * 3 + 2, none⟩) hab).trans hc2⟩
          have HPK := Vx.hid (fun wv => pickK_any 32 (by decide) (by decide) x2 i2.1 i2.2 wv)
          have HPN := Vx.hid (fun wv => pickK_any 32 (by decide) (by decide) x1 i1.1 i1.2 wv)
          have HPD := Vx.hid (fun wv => pickK_any 5 (by decide) (by decide) x0 i0.1 i0.2 wv)
          have HPT := Vx.hid (fun wv => place_ok x1 i1 wv)
          have HPF := Vx.hid (fun wv => place_ok x2 i2 wv)
          have lk := pickL_lt x2 32 (by decide)
          have ln := pickL_lt x1 32 (by decide)
          have ld := pickL_lt x0 5 (by decide)
          generalize pickL x2 32 = q at HPK HPF lk
          generalize pickL x1 32 = n at HPN HPT ln
          generalize pickL x0 5 = d at HPD ld
          have HGT : Hid (∀ wv, Only (fun _ => False) wr wv → Calls Tryd.prog 18 #[.pointer (some ⟨xb, 0, none⟩), .agg #[.int .i64 (plcN n).1, .int .i64 (plcN n).2]] wv fun e w' => e = .returned (.tuple #[cpV (getF two16 es (plcN n)).1, .int .i64 (fullE (fullF two16 es (plcN n)))]) ∧ Only (fun _ => False) wv w') := fun wv hv => by rw [← getF_e]; exact xget_ok (HR.out.quiet hv).g.s (plcN n) (plc_i64 n ln).1
          have HGF : Hid (∀ wv, Only (fun _ => False) wr wv → Calls Tryd.prog 18 #[.pointer (some ⟨xb, 0, none⟩), .agg #[.int .i64 (plcN q).1, .int .i64 (plcN q).2]] wv fun e w' => e = .returned (.tuple #[cpV (getF two16 es (plcN q)).1, .int .i64 (fullE (fullF two16 es (plcN q)))]) ∧ Only (fun _ => False) wv w') := fun wv hv => by rw [← getF_e]; exact xget_ok (HR.out.quiet hv).g.s (plcN q) (plc_i64 q lk).1
          have HPU : Hid (∀ wv, Only (fun _ => False) wr wv → _) := fun wv hv => (HR.out.quiet hv).put (by omega) n q ln lk
          have HMV : Hid (∀ wv, Only (fun _ => False) wr wv → _) := fun wv hv => (HR.out.quiet hv).move n q ln lk
          have HTK : Hid (∀ wv, Only (fun _ => False) wr wv → _) := fun wv hv => (HR.out.quiet hv).take q lk
          have HOB : Hid (∀ wv, Only (fun _ => False) wr wv → wv.cell? ⟨ob, 0, none⟩ = some (.int .i64 7) ∧ wv.cell? ⟨ob, 1, none⟩ = some (.int .i64 9)) := fun wv hv => by
            have ho := (HR.out.quiet hv).o
            exact ⟨(cell_of_row _ _ 0 _ _ (0, 0) ho).trans rfl, (cell_of_row _ _ 1 _ _ (0, 0) ho).trans rfl⟩
          have HU32 : Hid (∀ j, -2 ≤ uF es j ∧ uF es j < 32) := fun j => uF_i64 HR.out.g.s.wf.1 HR.out.g.s.wf.2 j
          generalize (getF two16 es (plcN n)).1 = cn at HGT
          generalize (getF two16 es (plcN q)).1 = cq at HGF
          obtain ⟨r0, r1, r2, r3, r4, r5, r6, r7⟩ := cn
          obtain ⟨s0, s1, s2, s3, s4, s5, s6, s7⟩ := cq
          have HXN := Vx.hid (full16 es n ln)
          have HXQ := Vx.hid (full16 es q lk)
          have HID : Hid ((0 ≤ (n : Int) ∧ (n : Int) < 32) ∧ (0 ≤ (q : Int) ∧ (q : Int) < 32)) := ⟨⟨by omega, by omega⟩, ⟨by omega, by omega⟩⟩
          obtain ⟨y0, y1, y2⟩ := HCC.out wr (Only.refl _ _)
          clear hcz hc0 hc1 hc2 hlt hkz hab i0 i1 i2
          simp only [cpV] at HGT HGF
          go_wp2_with fail
          refine (HPK.out _).mono ?_
          rintro e w' ⟨rfl, hh⟩
          have h3 := hh.symm; clear hh; subst h3
          go_wp2_with fail
          refine (HPN.out _).mono ?_
          rintro e w' ⟨rfl, hh⟩
          have h3 := hh.symm; clear hh; subst h3
          go_wp2_with fail
          refine (HPT.out _).mono ?_
          rintro e w8 ⟨rfl, ho8⟩
          unfold slV
          have HO8 := Vx.hid ho8
          clear y0 y1 y2 ho8
          generalize hT1 : (plcN n).1 = t1 at HGT HPU HMV ⊢
          generalize hT2 : (plcN n).2 = t2 at HGT HPU HMV ⊢
          clear hT1 hT2
          go_upto_region 24 with fail
          obtain ⟨w9, hw9⟩ : ∃ w9, w9 = w8.alloc (.cells #[.int .i64 t1, .int .i64 t2] 62 (0, 0)) := ⟨_, rfl⟩
          rw [← hw9]
          have HO9 : Hid (Only (fun _ => False) wr w9) := by rw [hw9]; exact HO8.out.alloc _
          have HT9 : Hid (w9.heap[w8.heap.size]? = some (.cells #[.int .i64 t1, .int .i64 t2] 62 (0, 0))) := by rw [hw9]; exact heap_alloc_last w8 _
          obtain ⟨tb, htb⟩ : ∃ tb, tb = w8.heap.size := ⟨_, rfl⟩
          rw [← htb] at HT9 ⊢
          clear hw9 htb HO8
          obtain ⟨y0, y1, y2⟩ := HCC.out _ HO9.out
          go_wp2_with fail
          refine (HPF.out _).mono ?_
          rintro e w10 ⟨rfl, ho10⟩
          unfold slV
          have HO10 : Hid (Only (fun _ => False) wr w10) := HO9.out.trans ho10
          have HT10 : Hid (w10.heap[tb]? = some (.cells #[.int .i64 t1, .int .i64 t2] 62 (0, 0))) := Only.keep ho10 HT9.out (fun h => h)
          clear y0 y1 y2 ho10 HO9 HT9
          generalize hQ1 : (plcN q).1 = f1 at HGF HPU HMV HTK ⊢
          generalize hQ2 : (plcN q).2 = f2 at HGF HPU HMV HTK ⊢
          clear hQ1 hQ2
          go_upto_region 25 with fail
          obtain ⟨w11, hw11⟩ : ∃ w11, w11 = w10.alloc (.cells #[.int .i64 f1, .int .i64 f2] 62 (0, 0)) := ⟨_, rfl⟩
          rw [← hw11]
          have hq11 : Only (fun _ => False) w10 w11 := by rw [hw11]; exact (Only.refl _ _).alloc _
          have HO11 : Hid (Only (fun _ => False) wr w11) := HO10.out.trans hq11
          have HT11 : Hid (w11.heap[tb]? = some (.cells #[.int .i64 t1, .int .i64 t2] 62 (0, 0))) := Only.keep hq11 HT10.out (fun h => h)
          have HF11 : Hid (w11.heap[w10.heap.size]? = some (.cells #[.int .i64 f1, .int .i64 f2] 62 (0, 0))) := by rw [hw11]; exact heap_alloc_last w10 _
          obtain ⟨fb, hfb⟩ : ∃ fb, fb = w10.heap.size := ⟨_, rfl⟩
          rw [← hfb] at HF11 ⊢
          clear hw11 hfb hq11 HO10 HT10
          obtain ⟨⟨y0, y1⟩, _⟩ := slot_cells HT11.out
          go_wp2_with fail
          refine (HGT.out _ HO11.out).mono ?_
          rintro e w12 ⟨rfl, ho12⟩
          have HO12 : Hid (Only (fun _ => False) wr w12) := HO11.out.trans ho12
          have HT12 : Hid (w12.heap[tb]? = some (.cells #[.int .i64 t1, .int .i64 t2] 62 (0, 0))) := Only.keep ho12 HT11.out (fun h => h)
          have HF12 : Hid (w12.heap[fb]? = some (.cells #[.int .i64 f1, .int .i64 f2] 62 (0, 0))) := Only.keep ho12 HF11.out (fun h => h)
          clear y0 y1 ho12 HO11 HT11 HF11
          go_upto_region 26 with fail
          obtain ⟨w13, hw13⟩ : ∃ w13, w13 = w12.alloc (.cells #[.int .i64 r0, .int .i64 r1, .int .i64 r2, .int .u32 r3, .int .u32 r4, .int .i64 r5, .int .i64 r6, .int .u32 r7] 66 (0, 0)) := ⟨_, rfl⟩
          rw [← hw13]
          have hq13 : Only (fun _ => False) w12 w13 := by rw [hw13]; exact (Only.refl _ _).alloc _
          have HO13 : Hid (Only (fun _ => False) wr w13) := HO12.out.trans hq13
          have HT13 : Hid (w13.heap[tb]? = some (.cells #[.int .i64 t1, .int .i64 t2] 62 (0, 0))) := Only.keep hq13 HT12.out (fun h => h)
          have HF13 : Hid (w13.heap[fb]? = some (.cells #[.int .i64 f1, .int .i64 f2] 62 (0, 0))) := Only.keep hq13 HF12.out (fun h => h)
          clear hw13 hq13 HO12 HT12 HF12
          obtain ⟨⟨y0, y1⟩, _⟩ := slot_cells HF13.out
          go_wp2_with fail
          refine (HGF.out _ HO13.out).mono ?_
          rintro e w14 ⟨rfl, ho14⟩
          have HO14 : Hid (Only (fun _ => False) wr w14) := HO13.out.trans ho14
          have HT14 : Hid (w14.heap[tb]? = some (.cells #[.int .i64 t1, .int .i64 t2] 62 (0, 0))) := Only.keep ho14 HT13.out (fun h => h)
          have HF14 : Hid (w14.heap[fb]? = some (.cells #[.int .i64 f1, .int .i64 f2] 62 (0, 0))) := Only.keep ho14 HF13.out (fun h => h)
          clear y0 y1 ho14 HO13 HT13 HF13
          go_upto_region 27 with fail
          obtain ⟨w15, hw15⟩ : ∃ w15, w15 = w14.alloc (.cells #[.int .i64 s0, .int .i64 s1, .int .i64 s2, .int .u32 s3, .int .u32 s4, .int .i64 s5, .int .i64 s6, .int .u32 s7] 66 (0, 0)) := ⟨_, rfl⟩
          rw [← hw15]
          have hq15 : Only (fun _ => False) w14 w15 := by rw [hw15]; exact (Only.refl _ _).alloc _
          have HO15 : Hid (Only (fun _ => False) wr w15) := HO14.out.trans hq15
          obtain ⟨⟨a0, a1⟩, _⟩ := slot_cells (Only.keep hq15 HT14.out (fun h => h))
          obtain ⟨⟨b0, b1⟩, _⟩ := slot_cells (Only.keep hq15 HF14.out (fun h => h))
          obtain ⟨o0, o1⟩ := HOB.out _ HO15.out
          obtain ⟨y0, y1, y2⟩ := HCC.out _ HO15.out
          have HRW : Hid (GwO V W xb ob es (uF es) k w15) := HR.out.quiet HO15.out
          have HPU2 := Vx.hid (HPU.out _ HO15.out)
          have HMV2 := Vx.hid (HMV.out _ HO15.out)
          have HTK2 := Vx.hid (HTK.out _ HO15.out)
          clear hw15 hq15 HO14 HT14 HF14 HPU HMV HTK HOB HCC HR HGT HGF HPK HPN HPT HPF
          go_wp2_with fail
          refine (HPD.out _).mono ?_
          rintro e w' ⟨rfl, hh⟩
          have h3 := hh.symm; clear hh; subst h3
          have hd : d = 0 ∨ d = 1 ∨ d = 2 ∨ d = 3 ∨ d = 4 := by omega
          clear HPD ld y0 y1 y2
          rcases hd with rfl | rfl | rfl | rfl | rfl
          · have hE1 : fullE (fullF two16 es (plcN n)) = 0 ∨ fullE (fullF two16 es (plcN n)) = 11 := by
              rcases HXN.out with ⟨i, hi⟩ | hi
              · rw [hi]; exact Or.inl rfl
              · rw [hi]; exact Or.inr rfl
            clear HMV2 HTK2 HRW
            rcases HXN.out with ⟨i, hi⟩ | hi
            · have e1 : fullE (fullF two16 es (plcN n)) = 0 := by rw [hi]; rfl
              rw [put16_full _ hi] at HPU2
              rw [e1]
              clear hE1 hi e1
              go_wp2_with fail
              refine HPU2.out.mono ?_
              rintro e w16 ⟨rfl, hA, _, _⟩
              have HR2 := Vx.hid (hA (by decide))
              clear hA HPU2 HO15 a0 a1 b0 b1 o0 o1
              go_wp2_with fail
              go_roundw
              case rel => exact ⟨k + 1, es, by go_num, by omega, by omega, HR2⟩
              case measure => simp only [intOf]; omega
            · have e1 : fullE (fullF two16 es (plcN n)) = 11 := by rw [hi]; rfl
              rw [put16_from lk hi] at HPU2
              rw [e1]
              rcases HXQ.out with ⟨j, hj⟩ | hj
              · have e2 : fullE (fullF two16 es (plcN q)) = 0 := by rw [hj]; rfl
                rw [e2] at HPU2 ⊢
                clear hE1 hi e1 hj e2
                go_wp2_with fail
                refine HPU2.out.mono ?_
                rintro e w16 ⟨rfl, _, hA, hU⟩
                obtain ⟨es2, hG⟩ := hA (by first | trivial | rfl)
                have c1 := hU.cell n ln
                have f1 := hU.fz n
                rw [← HUB.out] at c1 f1 hG
                have HR2 := Vx.hid hG
                obtain ⟨hidn, hidq⟩ := HID.out
                generalize uF es n = ux at c1
                clear hA hU hG HPU2 HO15 a0 a1 b0 b1 o0 o1
                go_wp2_with fail
                go_roundw
                case rel => exact ⟨k + 1, es2, by go_num, by omega, by omega, HR2⟩
                case measure => simp only [intOf]; omega
              · have e2 : fullE (fullF two16 es (plcN q)) = 11 := by rw [hj]; rfl
                rw [e2] at HPU2 ⊢
                clear hE1 hi e1 hj e2
                go_wp2_with fail
                refine HPU2.out.mono ?_
                rintro e w16 ⟨rfl, hA, _, _⟩
                have HR2 := Vx.hid (hA (by decide))
                clear hA HPU2 HO15 a0 a1 b0 b1 o0 o1
                go_wp2_with fail
                go_roundw
                case rel => exact ⟨k + 1, es, by go_num, by omega, by omega, HR2⟩
                case measure => simp only [intOf]; omega
          · have hE1 : fullE (fullF two16 es (plcN n)) = 0 ∨ fullE (fullF two16 es (plcN n)) = 11 := by
              rcases HXN.out with ⟨i, hi⟩ | hi
              · rw [hi]; exact Or.inl rfl
              · rw [hi]; exact Or.inr rfl
            clear HMV2 HTK2 HRW
            rcases HXN.out with ⟨i, hi⟩ | hi
            · have e1 : fullE (fullF two16 es (plcN n)) = 0 := by rw [hi]; rfl
              rw [put16_full _ hi] at HPU2
              rw [e1]
              clear hE1 hi e1
              go_wp2_with fail
              refine HPU2.out.mono ?_
              rintro e w16 ⟨rfl, hA, _, _⟩
              have HR2 := Vx.hid (hA (by decide))
              clear hA HPU2 HO15 a0 a1 b0 b1 o0 o1
              go_wp2_with fail
              go_roundw
              case rel => exact ⟨k + 1, es, by go_num, by omega, by omega, HR2⟩
              case measure => simp only [intOf]; omega
            · have e1 : fullE (fullF two16 es (plcN n)) = 11 := by rw [hi]; rfl
              rw [put16_from lk hi] at HPU2
              rw [e1]
              rcases HXQ.out with ⟨j, hj⟩ | hj
              · have e2 : fullE (fullF two16 es (plcN q)) = 0 := by rw [hj]; rfl
                rw [e2] at HPU2 ⊢
                clear hE1 hi e1 hj e2
                go_wp2_with fail
                refine HPU2.out.mono ?_
                rintro e w16 ⟨rfl, _, hA, hU⟩
                obtain ⟨es2, hG⟩ := hA (by first | trivial | rfl)
                have c1 := hU.cell n ln
                have f1 := hU.fz n
                rw [← HUB.out] at c1 f1 hG
                have HR2 := Vx.hid hG
                obtain ⟨hidn, hidq⟩ := HID.out
                generalize uF es n = ux at c1
                clear hA hU hG HPU2 HO15 a0 a1 b0 b1 o0 o1
                go_wp2_with fail
                go_roundw
                case rel => exact ⟨k + 1, es2, by go_num, by omega, by omega, HR2⟩
                case measure => simp only [intOf]; omega
              · have e2 : fullE (fullF two16 es (plcN q)) = 11 := by rw [hj]; rfl
                rw [e2] at HPU2 ⊢
                clear hE1 hi e1 hj e2
                go_wp2_with fail
                refine HPU2.out.mono ?_
                rintro e w16 ⟨rfl, hA, _, _⟩
                have HR2 := Vx.hid (hA (by decide))
                clear hA HPU2 HO15 a0 a1 b0 b1 o0 o1
                go_wp2_with fail
                go_roundw
                case rel => exact ⟨k + 1, es, by go_num, by omega, by omega, HR2⟩
                case measure => simp only [intOf]; omega
          · have hE1 : fullE (fullF two16 es (plcN n)) = 0 ∨ fullE (fullF two16 es (plcN n)) = 11 := by
              rcases HXN.out with ⟨i, hi⟩ | hi
              · rw [hi]; exact Or.inl rfl
              · rw [hi]; exact Or.inr rfl
            clear HMV2 HTK2 HRW
            rcases HXN.out with ⟨i, hi⟩ | hi
            · have e1 : fullE (fullF two16 es (plcN n)) = 0 := by rw [hi]; rfl
              rw [put16_full _ hi] at HPU2
              rw [e1]
              clear hE1 hi e1
              go_wp2_with fail
              refine HPU2.out.mono ?_
              rintro e w16 ⟨rfl, hA, _, _⟩
              have HR2 := Vx.hid (hA (by decide))
              clear hA HPU2 HO15 a0 a1 b0 b1 o0 o1
              go_wp2_with fail
              go_roundw
              case rel => exact ⟨k + 1, es, by go_num, by omega, by omega, HR2⟩
              case measure => simp only [intOf]; omega
            · have e1 : fullE (fullF two16 es (plcN n)) = 11 := by rw [hi]; rfl
              rw [put16_from lk hi] at HPU2
              rw [e1]
              rcases HXQ.out with ⟨j, hj⟩ | hj
              · have e2 : fullE (fullF two16 es (plcN q)) = 0 := by rw [hj]; rfl
                rw [e2] at HPU2 ⊢
                clear hE1 hi e1 hj e2
                go_wp2_with fail
                refine HPU2.out.mono ?_
                rintro e w16 ⟨rfl, _, hA, hU⟩
                obtain ⟨es2, hG⟩ := hA (by first | trivial | rfl)
                have c1 := hU.cell n ln
                have f1 := hU.fz n
                rw [← HUB.out] at c1 f1 hG
                have HR2 := Vx.hid hG
                obtain ⟨hidn, hidq⟩ := HID.out
                generalize uF es n = ux at c1
                clear hA hU hG HPU2 HO15 a0 a1 b0 b1 o0 o1
                go_wp2_with fail
                go_roundw
                case rel => exact ⟨k + 1, es2, by go_num, by omega, by omega, HR2⟩
                case measure => simp only [intOf]; omega
              · have e2 : fullE (fullF two16 es (plcN q)) = 11 := by rw [hj]; rfl
                rw [e2] at HPU2 ⊢
                clear hE1 hi e1 hj e2
                go_wp2_with fail
                refine HPU2.out.mono ?_
                rintro e w16 ⟨rfl, hA, _, _⟩
                have HR2 := Vx.hid (hA (by decide))
                clear hA HPU2 HO15 a0 a1 b0 b1 o0 o1
                go_wp2_with fail
                go_roundw
                case rel => exact ⟨k + 1, es, by go_num, by omega, by omega, HR2⟩
                case measure => simp only [intOf]; omega
          · clear HPU2 HTK2 HRW
            rcases HXQ.out with ⟨j, hj⟩ | hj
            · have e2 : fullE (fullF two16 es (plcN q)) = 0 := by rw [hj]; rfl
              rw [e2]
              rcases HXN.out with ⟨i, hi⟩ | hi
              · have e1 : fullE (fullF two16 es (plcN n)) = 0 := by rw [hi]; rfl
                rw [move16_full hj hi] at HMV2
                rw [e1]
                clear hi e1 hj e2
                go_wp2_with fail
                refine HMV2.out.mono ?_
                rintro e w16 ⟨rfl, hA, _⟩
                have HR2 := Vx.hid (hA (by decide))
                clear hA HMV2 HO15 a0 a1 b0 b1 o0 o1
                go_wp2_with fail
                go_roundw
                case rel => exact ⟨k + 1, es, by go_num, by omega, by omega, HR2⟩
                case measure => simp only [intOf]; omega
              · have e1 : fullE (fullF two16 es (plcN n)) = 11 := by rw [hi]; rfl
                rw [move16_free hj hi] at HMV2
                rw [e1]
                clear hi e1 hj e2
                go_wp2_with fail
                refine HMV2.out.mono ?_
                rintro e w16 ⟨rfl, _, hA⟩
                obtain ⟨hU, hG⟩ := hA (by first | trivial | rfl)
                have c1 := hU.cell q lk
                have HMO := Vx.hid (moved_ok hU q lk (n : Int))
                have HG := Vx.hid hG
                obtain ⟨hidn, hidq⟩ := HID.out
                rw [← HUB.out] at c1 HMO
                obtain ⟨uq, huq⟩ : ∃ uq, uq = uF es q := ⟨_, rfl⟩
                rw [← huq] at c1 HG
                clear hA hU hG HMV2 HO15 a0 a1 b0 b1 o0 o1 huq
                go_wp2_with fail
                refine HMO.out.mono ?_
                rintro e w17 ⟨rfl, hU, hO⟩
                rw [HUB.out] at hU hO
                obtain ⟨hU2, es2, hG⟩ := HG.out w17 hU hO
                have c2 := hU.cell n ln
                have f2 := hU.fz n
                rw [← HUB.out] at c2 f2 hG
                have HR2 := Vx.hid hG
                generalize movF (uF es) q (n : Int) n = ux at c2
                clear hU hO hU2 hG HMO HG c1
                go_wp2_with fail
                go_roundw
                case rel => exact ⟨k + 1, es2, by go_num, by omega, by omega, HR2⟩
                case measure => simp only [intOf]; omega
            · have e2 : fullE (fullF two16 es (plcN q)) = 11 := by rw [hj]; rfl
              rw [move16_none _ hj] at HMV2
              rw [e2]
              generalize fullE (fullF two16 es (plcN n)) = xx
              clear hj e2
              go_wp2_with fail
              refine HMV2.out.mono ?_
              rintro e w16 ⟨rfl, hA, _⟩
              have HR2 := Vx.hid (hA (by decide))
              clear hA HMV2 HO15 a0 a1 b0 b1 o0 o1
              go_wp2_with fail
              go_roundw
              case rel => exact ⟨k + 1, es, by go_num, by omega, by omega, HR2⟩
              case measure => simp only [intOf]; omega
          · clear HPU2 HMV2 HRW
            rcases HXQ.out with ⟨j, hj⟩ | hj
            · have e2 : fullE (fullF two16 es (plcN q)) = 0 := by rw [hj]; rfl
              rw [e2] at HTK2 ⊢
              have HJ := Vx.hid hj
              generalize fullE (fullF two16 es (plcN n)) = xx
              clear hj e2
              go_wp2_with fail
              refine HTK2.out.mono ?_
              rintro e w16 ⟨cc, rfl, _, hA⟩
              obtain ⟨hU, hG⟩ := hA j HJ.out
              have c1 := hU.cell q lk
              have HMO := Vx.hid (moved_ok hU q lk (uF es q))
              have HG := Vx.hid hG
              obtain ⟨hidn, hidq⟩ := HID.out
              rw [← HUB.out] at c1 HMO
              obtain ⟨uq, huq⟩ : ∃ uq, uq = uF es q := ⟨_, rfl⟩
              rw [← huq] at c1 HG HMO
              clear hA hU hG HTK2 HO15 a0 a1 b0 b1 o0 o1 huq
              go_wp2_with fail
              refine HMO.out.mono ?_
              rintro e w17 ⟨rfl, hU, hO⟩
              rw [HUB.out] at hU hO
              obtain ⟨es2, hG⟩ := HG.out w17 hU hO
              have HR2 := Vx.hid hG
              clear hU hO hG HMO HG c1
              go_wp2_with fail
              go_roundw
              case rel => exact ⟨k + 1, es2, by go_num, by omega, by omega, HR2⟩
              case measure => simp only [intOf]; omega
            · have e2 : fullE (fullF two16 es (plcN q)) = 11 := by rw [hj]; rfl
              rw [e2] at HTK2 ⊢
              have HJ := Vx.hid hj
              generalize fullE (fullF two16 es (plcN n)) = xx
              clear hj e2
              go_wp2_with fail
              refine HTK2.out.mono ?_
              rintro e w16 ⟨cc, rfl, hA, _⟩
              have HR2 := Vx.hid (hA HJ.out)
              clear hA HTK2 HO15 a0 a1 b0 b1 o0 o1
              go_wp2_with fail
              go_roundw
              case rel => exact ⟨k + 1, es, by go_num, by omega, by omega, HR2⟩
              case measure => simp only [intOf]; omega
        · have hgo : (¬ (k : Int) < (len : Int)) ∨ ((k : Int) < (len : Int) ∧ ¬ (k : Int) < 200) := by omega
          have HRD : Hid (GwO V W xb ob es (uF es) k wr.drew) := HR.out.quiet ((Only.refl _ _).drew)
          have HK := Vx.hid hk2
          have HLD := Vx.hid (load_up HRD.out.g.u)
          have HSD := Vx.hid (store_up (g := uF es) HRD.out.g.z)
          rw [← HUB.out] at HLD
          rw [← HZB.out] at HSD
          clear hlt
          rcases hgo with h1 | ⟨h1, h2⟩
          all_goals
            go_wp2_with fail
            refine wp_region_any (by kernel_rfl) ?_
            try (change wpAny _ _ _ _ _ _ _ (World.drew _))
            refine wpAny_take (i := 0) (v := ?_) rfl (by kernel_rfl) (by kernel_rfl) (by kernel_rfl) (fun _ _ _ h => h) (Or.inl ⟨by rfl, ?_⟩) ?_
            rotate_left
            · intro w; go_simp
              try with_reducible rfl
            rotate_left
            refine wpAny_take (i := 2) (v := ?_) rfl (by kernel_rfl) (by kernel_rfl) (by kernel_rfl) (fun _ _ _ h => h) (Or.inl ⟨by rfl, ?_⟩) ?_
            rotate_left
            · intro w; go_simp
              try with_reducible rfl
            rotate_left
            refine wpAny_ready (rs := [1]) (by kernel_rfl) (by simp) ?_
            refine (AllReady.cons rfl (fun K hK => ?_) AllReady.nil)
            refine Vx.step_load rfl 52 (.tmp 5) rfl ⟨ub, 0, none⟩ (by first | (simp [Act.eval]; done) | simp [Act.eval, Act.put]) (.agg (upL (uF es)).toArray) HLD.out ?_
            try go_simp
            refine hK _ _ ?_
            clear hK K
            refine wpAny_ready (rs := [3]) (by kernel_rfl) (by simp) ?_
            refine (AllReady.cons rfl (fun K hK => ?_) AllReady.nil)
            refine Vx.step_store rfl 52 (.tmp 3) (.tmp 166) rfl rfl ⟨zb, 0, none⟩ (by first | (simp [Act.eval]; done) | simp [Act.eval, Act.put]) (.agg (upL (uF es)).toArray) (by first | (simp [Act.eval]; done) | simp [Act.eval, Act.put]) _ HSD.out ?_
            try go_simp
            refine hK _ _ ?_
            clear hK K
            refine wpAny_take (i := 4) (v := ?_) rfl (by kernel_rfl) (by kernel_rfl) (by kernel_rfl) (fun _ _ _ h => h) (Or.inl ⟨by rfl, ?_⟩) ?_
            rotate_left
            · intro w; go_simp
              try with_reducible rfl
            rotate_left
            refine wpAny_done (by kernel_rfl) ?_ _
            go_wp2_with fail
            have hzr := HRD.out.g.z.row (uF es)
            rw [← HZB.out] at hzr
            have ho : Only (fun k => k = zb) wr.drew (wr.drew.setRow zb (upL (uF es)).toArray) := only_row _ _ _
            have hbe : Below W.heap.size W (wr.drew.setRow zb (upL (uF es)).toArray) := HRD.out.g.be.trans (ho.below HRD.out.g.be.size (fun k hk hs => by have := HZB.out; omega))
            refine bodyPost_ret_by (results_tct rfl _ _ zb 52 (upL (uF es)).toArray (0, 0) _ rfl hzr.b undUp rfl (by rw [infoUp, List.size_toArray, length_upL])) rfl ?_
            refine ⟨xb, es, rfl, (HRD.out.g.s.only ho (fun j _ hj => by rw [hj, HZB.out]; exact HRD.out.g.vz)).less (fun k hk => HRD.out.g.vb k hk.1 hk.2), HRD.out.k7, by have := HRD.out.ln; have := HK.out; omega, hbe⟩
end Go.Proofs.YtbmchgjilkoplaaDoor

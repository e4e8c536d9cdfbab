import Derived.Test.YtbmchgjilkoplaaDoorCk49
import Derived.Test.YtbmchgjilkoplaaDoorCk50
import Derived.Deep.RegionHeld3
/- CapsTree's walk. -/
namespace Go.Proofs.YtbmchgjilkoplaaDoor
open Go.ChangeShapes Go.WideShapes Go.ChangeAt Go.RowKit
open Go.Vx
set_option linter.unusedVariables false

theorem store_new_up (w : World) (f : Nat → Int) : (storeCells ⟨w.heap.size, 0, none⟩ (upL f) 0).run Tryd.prog (w.alloc (.cells #[.int .i64 0, .int .i64 0, .int .i64 0, .int .i64 0, .int .i64 0, .int .i64 0, .int .i64 0, .int .i64 0, .int .i64 0, .int .i64 0, .int .i64 0, .int .i64 0, .int .i64 0, .int .i64 0, .int .i64 0, .int .i64 0, .int .i64 0, .int .i64 0, .int .i64 0, .int .i64 0, .int .i64 0, .int .i64 0, .int .i64 0, .int .i64 0, .int .i64 0, .int .i64 0, .int .i64 0, .int .i64 0, .int .i64 0, .int .i64 0, .int .i64 0, .int .i64 0] 52)) = .ok () (w.alloc (.cells (upL f).toArray 52)) := by
  rw [← upL_zero]
  exact run_storeCells_new (P := Tryd.prog) w 52 (upL (fun _ => 0)).toArray (upL f).toArray (by rw [infoUp, List.size_toArray, length_upL]) (by rw [List.size_toArray, List.size_toArray, length_upL, length_upL]) (by simpa using oneCell_up f)
theorem cell_keep {w w2 : World} {p : Addr} {v : Value} (h : w.cell? p = some v) (ho : Only (fun _ => False) w w2) : w2.cell? p = some v := by rw [ho.cell (World.block_lt_of_cell? w p h) (fun h => h)]; exact h
/-- The tree, as the law asks for it. -/
structure TreeP (es : List En) (s : Sl) (B : List Sl) : Prop where
  en : ∀ (k : Nat) (hk : k < es.length), es[k].at' ∈ B ↔ (es[k].from' = s ∨ es[k].from' ∈ B)
  fr : ∀ (k : Nat) (hk : k < B.length), ∃ f : Sl, fromF two16 es B[k] = (f, 0) ∧ (f = s ∨ f ∈ B.take k) ∧ B[k] ≠ s ∧ I64 (B[k]).1
  ct : cntF es B es.length = B.length
theorem tree_ok {es : List En} (hf : Wf two16 es) (hx : Wx two16 es) {r : Sl → Nat} {D : Nat} (hr : ∀ e ∈ es, r e.from' < r e.at') (hD : ∀ e ∈ es, r e.at' ≤ D) (s : Sl) : TreeP es s (belN es (D + 1) s) := by
  have ho := hf.once
  have hn := hf.so.nodup
  refine ⟨fun k hk => bel_entry ho hr hD s (List.getElem_mem hk), fun k hk => ?_, cnt_all hn (belN_nodup es ho hn r hr _ s) (belN_mem es _ s)⟩
  have hm := List.getElem_mem hk
  obtain ⟨e, he, hE⟩ := List.mem_map.1 (belN_mem es _ s _ hm)
  refine ⟨e.from', ?_, (belN_ord ho _ s).at k hk he hE, fun h => ?_, ?_⟩
  · rw [← hE]; exact from_mem hf hx he
  · have := (belN_bel es _ s _ hm).rank hr
    rw [h] at this
    omega
  · rw [← hE]; exact (at_sli hf hx he).1
set_option maxRecDepth 100000 in
set_option maxHeartbeats 8000000 in
theorem capsTree_call (W : World) (hns : NsAt W) (pa : Option Addr) (len cap : Nat) (zs : List (Int × Int × Int)) (hlen : zs.length = len) (hlc : len ≤ cap) (hcm : cap ≤ maxLen) (hp : GrAt W pa zs) (hz : ∀ z ∈ zs, I64 z.1 ∧ I64 z.2.1 ∧ I64 z.2.2) (at0 : Int) (hat : I64 at0) :
    Calls Tryd.prog 4 #[.slice pa len cap, .int .i64 at0] W fun e w' => e = .returned (.bool true) ∧ Below W.heap.size W w' := by
  have HG := Vx.hid (grown_ok W hns pa len cap zs hlen hlc hcm hp hz)
  have HPL := Vx.hid (fun wv => place_ok at0 hat wv)
  have hq := pickL_lt at0 32 (by decide)
  generalize pickL at0 32 = q at HPL hq
  clear hns hlen hlc hcm hp hz hat
  go_enter Tryd.func4, Tryd.ntmps4
  go_wp2_with fail
  refine HG.out.mono ?_
  rintro e w1 ⟨xb, es, rfl, hc, h7, hl, hb⟩
  have hsc := store_new_up w1 (uF es)
  have HC := Vx.hid hc
  have H7 := Vx.hid h7
  have HL := Vx.hid hl
  have HB := Vx.hid hb
  have hsz : (upL (uF es)).length = 32 := length_upL _
  clear hc h7 hl hb HG
  go_upto_region 4 with fail
  clear hsc hsz
  obtain ⟨w2, hw2⟩ : ∃ w2, w2 = w1.alloc (.cells (upL (uF es)).toArray 52) := ⟨_, rfl⟩
  rw [← hw2]
  have HO2 : Hid (Only (fun _ => False) w1 w2) := by rw [hw2]; exact (Only.refl _ _).alloc _
  have HU2 : Hid (UpAt w2 w1.heap.size (uF es)) := ⟨by rw [hw2]; exact heap_alloc_last _ _⟩
  obtain ⟨ub, hub⟩ : ∃ ub, ub = w1.heap.size := ⟨_, rfl⟩
  rw [← hub] at HU2 ⊢
  clear hw2 hub
  have HCO := Vx.hid (come_ok (HC.out.quiet HO2.out) HU2.out)
  go_wp2_with fail
  refine HCO.out.mono ?_
  rintro e w3 ⟨rfl, ho3⟩
  have HO3 : Hid (Only (fun _ => False) w1 w3) := HO2.out.trans ho3
  clear ho3 HCO HU2 HO2
  have HEN := Vx.hid (xentries_ok (HC.out.quiet HO3.out))
  go_wp2_with fail
  refine HEN.out.mono ?_
  rintro e w4 ⟨av, rfl, hav, ho4⟩
  have HAV := Vx.hid (own_lie hav (by have := HL.out; omega))
  have HO4 : Hid (Only (fun _ => False) w1 w4) := HO3.out.trans ho4
  clear hav ho4 HO3 HEN
  have HHO := Vx.hid (xholders_ok (HC.out.quiet HO4.out) (7, 9))
  dsimp only at HHO
  rw [hold7 H7.out] at HHO
  go_wp2_with fail
  refine HHO.out.mono ?_
  rintro e w5 ⟨hv, rfl, hhv, ho5⟩
  have HHV := Vx.hid (own_lie hhv (by rw [List.length_map]; have := HL.out; omega))
  have HAV5 := Vx.hid (HAV.out.enq ho5)
  have HO5 : Hid (Only (fun _ => False) w1 w5) := HO4.out.trans ho5
  clear hhv ho5 HO4 HHO HAV
  go_wp2_with fail
  refine (HPL.out _).mono ?_
  rintro e w6 ⟨rfl, ho6⟩
  have HAV6 := Vx.hid (HAV5.out.enq ho6)
  have HHV6 := Vx.hid (HHV.out.slq ho6)
  have HO6 : Hid (Only (fun _ => False) w1 w6) := HO5.out.trans ho6
  clear ho6 HAV5 HHV HO5 HPL
  unfold slV
  go_upto_region 10 with fail
  obtain ⟨w7, hw7⟩ : ∃ w7, w7 = w6.alloc (.cells #[.int .i64 (plcN q).1, .int .i64 (plcN q).2] 62 (0, 0)) := ⟨_, rfl⟩
  rw [← hw7]
  have ho7 : Only (fun _ => False) w6 w7 := by rw [hw7]; exact (Only.refl _ _).alloc _
  have HR7 : Hid (w7.heap[w6.heap.size]? = some (.cells #[.int .i64 (plcN q).1, .int .i64 (plcN q).2] 62 (0, 0))) := by rw [hw7]; exact heap_alloc_last _ _
  have HAV7 := Vx.hid (HAV6.out.enq ho7)
  have HHV7 := Vx.hid (HHV6.out.slq ho7)
  have HO7 : Hid (Only (fun _ => False) w1 w7) := HO6.out.trans ho7
  obtain ⟨rb, hrb⟩ : ∃ rb, rb = w6.heap.size := ⟨_, rfl⟩
  rw [← hrb] at HR7 ⊢
  clear hw7 hrb ho7 HAV6 HHV6 HO6
  obtain ⟨⟨y0, y1⟩, _⟩ := slot_cells HR7.out
  have HGT := Vx.hid (xget_ok (HC.out.quiet HO7.out) (plcN q) (plc_i64 q hq).1)
  rw [getF_e] at HGT
  generalize (getF two16 es (plcN q)).1 = cq at HGT
  obtain ⟨s0, s1, s2, s3, s4, s5, s6, s7⟩ := cq
  simp only [cpV] at HGT
  go_wp2_with fail
  refine HGT.out.mono ?_
  rintro e w8 ⟨rfl, ho8⟩
  clear y0 y1 HGT
  go_upto_region 11 with fail
  obtain ⟨w9, hw9⟩ : ∃ w9, w9 = w8.alloc (.cells #[.int .i64 s0, .int .i64 s1, .int .i64 s2, .int .u32 s3, .int .u32 s4, .int .i64 s5, .int .i64 s6, .int .u32 s7] 66 (0, 0)) := ⟨_, rfl⟩
  rw [← hw9]
  have ho9 : Only (fun _ => False) w7 w9 := by rw [hw9]; exact ho8.alloc _
  have HR9 := Vx.hid (Only.keep ho9 HR7.out (fun h => h))
  have HAV9 := Vx.hid (HAV7.out.enq ho9)
  have HHV9 := Vx.hid (HHV7.out.slq ho9)
  have HO9 : Hid (Only (fun _ => False) w1 w9) := HO7.out.trans ho9
  clear hw9 ho9 ho8 HR7 HAV7 HHV7 HO7
  have HWF := Vx.hid HC.out.wf
  obtain ⟨r, D, hr, hD, hLB⟩ := HWF.out.1.deep (by have := HL.out; omega)
  have HBE := Vx.hid (xbelow_ok (HC.out.quiet HO9.out) r D hr hD hLB (plcN q) (plc_i64 q hq).1)
  have HTR := Vx.hid (tree_ok HWF.out.1 HWF.out.2 hr hD (plcN q))
  have HLB := Vx.hid (hLB (D + 1) (plcN q))
  clear hr hD hLB
  obtain ⟨⟨y0, y1⟩, _⟩ := slot_cells HR9.out
  go_wp2_with fail
  refine HBE.out.mono ?_
  rintro e wA ⟨bv, rfl, hbv, hoA⟩
  have HRA := Vx.hid (Only.keep hoA HR9.out (fun h => h))
  have HAVA := Vx.hid (HAV9.out.enq hoA)
  have HHVA := Vx.hid (HHV9.out.slq hoA)
  have HOA : Hid (Only (fun _ => False) w1 wA) := HO9.out.trans hoA
  have HBA : Hid (∀ wv, Only (fun _ => False) wA wv → Below W.heap.size W wv) := fun wv hv => HB.out.trans ((HOA.out.trans hv).below HB.out.size (fun _ _ h => h))
  have HCA := Vx.hid (HC.out.quiet HOA.out)
  clear hoA HR9 HAV9 HHV9 HO9 HBE y0 y1 HB HOA HC
  obtain ⟨pA, cA, rfl, hnA, qA⟩ := HAVA.out
  obtain ⟨pH, cH, rfl, hnH, qH⟩ := HHVA.out
  rw [List.length_map]
  rcases full16 es q hq with ⟨i, hi⟩ | hi
  · have hbl : BelowL two16 es D (plcN q) = belN es (D + 1) (plcN q) := by unfold BelowL; rw [hi]
    have hE : fullE (fullF two16 es (plcN q)) = 0 := by rw [hi]; rfl
    rw [hbl] at hbv
    rw [hE]
    obtain ⟨pB, cB, rfl, hcB, _⟩ := hbv.form
    have HBV := Vx.hid (own_lie hbv (by have := HLB.out; omega))
    clear hbl hE hbv hi
    generalize belN es (D + 1) (plcN q) = B at HTR HBV HLB hcB
    clear qA qH hnA hnH HWF H7 HLB
    have HCT := Vx.hid HTR.out.ct
    have hN1 : es.length ≤ 1000 := HL.out
    obtain ⟨N, hN⟩ : ∃ N, N = es.length := ⟨_, rfl⟩
    have HN := Vx.hid hN
    rw [← hN] at hN1 HCT ⊢
    clear hN
    obtain ⟨M, hM⟩ : ∃ M, M = B.length := ⟨_, rfl⟩
    have HM := Vx.hid hM
    have hM1 : M ≤ N := by
      rw [hM, ← HCT.out]
      exact cnt_le B N
    rw [← hM] at HCT hcB ⊢
    clear hM
    have HLB2 : Hid (∀ wv, Only (fun _ => False) wA wv → LieL slL wv (.slice pB M cB) B) := fun wv hv => by
      have := HBV.out.slq hv
      rw [← HM.out] at this
      exact this
    obtain ⟨⟨rr0, rr1⟩, _⟩ := slot_cells HRA.out
    have HRC : Hid (∀ wv, Only (fun _ => False) wA wv → wv.cell? ⟨rb, 0, none⟩ = some (.int .i64 (plcN q).1) ∧ wv.cell? ⟨rb, 1, none⟩ = some (.int .i64 (plcN q).2)) := fun wv hv => ⟨cell_keep rr0 hv, cell_keep rr1 hv⟩
    have HCB := Vx.hid hcB
    have HQB : Hid (∀ (j : Nat) (hj : j < B.length), ∃ g, pB = some ⟨g, 0, none⟩ ∧ wA.cell? ⟨g, j * 2, none⟩ = some (.int .i64 (B[j]).1) ∧ wA.cell? ⟨g, j * 2 + 1, none⟩ = some (.int .i64 (B[j]).2)) := fun j hj => by
      obtain ⟨p0, c0, hpe, _, hq0⟩ := HLB2.out wA (Only.refl _ _)
      injection hpe with hp1 hp2 hp3
      obtain ⟨g, hg, hcj⟩ := hq0 j hj
      exact ⟨g, by rw [hp1]; exact hg, hcj 0 (by decide), hcj 1 (by decide)⟩
    clear hcB
    have HQE : Hid (∀ (k : Nat) (hk : k < es.length), ∃ gA gH, pA = some ⟨gA, 0, none⟩ ∧ pH = some ⟨gH, 0, none⟩ ∧ ∀ wv, Only (fun _ => False) wA wv → wv.cell? ⟨gA, k * 12, none⟩ = some (.int .i64 es[k].at'.1) ∧ wv.cell? ⟨gA, k * 12 + 1, none⟩ = some (.int .i64 es[k].at'.2) ∧ wv.cell? ⟨gA, k * 12 + 10, none⟩ = some (.int .i64 es[k].from'.1) ∧ wv.cell? ⟨gA, k * 12 + 11, none⟩ = some (.int .i64 es[k].from'.2) ∧ wv.cell? ⟨gH, k * 2, none⟩ = some (.int .i64 es[k].at'.1) ∧ wv.cell? ⟨gH, k * 2 + 1, none⟩ = some (.int .i64 es[k].at'.2)) := fun k hk => by
      obtain ⟨p1, c1, h1, _, q1⟩ := HAVA.out
      injection h1 with h1 _ _
      subst h1
      obtain ⟨p2, c2, h2, _, q2⟩ := HHVA.out
      injection h2 with h2 _ _
      subst h2
      obtain ⟨gA, hgA, ca⟩ := q1 k hk
      obtain ⟨gH, hgH, ch⟩ := q2 k (by rw [List.length_map]; exact hk)
      rw [List.getElem_map] at ch
      refine ⟨gA, gH, hgA, hgH, fun wv hv => ⟨cell_keep (ca 0 (by decide)) hv, cell_keep (ca 1 (by decide)) hv, cell_keep (ca 10 (by decide)) hv, cell_keep (ca 11 (by decide)) hv, cell_keep (ch 0 (by decide)) hv, cell_keep (ch 1 (by decide)) hv⟩⟩
    clear rr0 rr1 HAVA HHVA HRA HBV
    obtain ⟨s1, s2, hSP⟩ : ∃ s1 s2, plcN q = (s1, s2) := ⟨_, _, rfl⟩
    rw [hSP] at HRC HTR ⊢
    dsimp only at HRC ⊢
    go_wp2_with fail
    go_loopw [16, 17] (fun n d wr => ∃ k : Nat, n = .int .i64 ((cntF es B k : Nat) : Int) ∧ d = .int .i64 (k : Int) ∧ k ≤ N ∧ Hid (Only (fun _ => False) wA wr)) (fun _ d _ => N - (intOf d).toNat)
    case atStart => exact ⟨0, by rw [cnt_zero]; rfl, rfl, by omega, Only.refl _ _⟩
    case round =>
      obtain ⟨k, rfl, rfl, hk, HO⟩ := hrel
      by_cases hlt : k < N
      · have hkl : k < es.length := by have := HN.out; omega
        have h1 : (k : Int) < (N : Int) := by omega
        have hidk : 0 ≤ (k : Int) ∧ (k : Int) < (N : Int) := by omega
        have hwk : IntKind.i64.wrap ((k : Int) + 1) = (k : Int) + 1 := by rw [IntKind.wrap_i64]; omega
        obtain ⟨gA, gH, rfl, rfl, hcl⟩ := HQE.out k hkl
        have HEN := Vx.hid (HTR.out.en k hkl)
        have HST := Vx.hid (cnt_step B k hkl)
        have hcn := cnt_le (es := es) B k
        generalize cntF es B (k + 1) = n2 at HST
        generalize hn0 : cntF es B k = n0 at HST hcn ⊢
        have hwn : IntKind.i64.wrap ((n0 : Int) + 1) = (n0 : Int) + 1 := by rw [IntKind.wrap_i64]; omega
        have HNX : Hid (n2 = cntF es B (k + 1)) := by show n2 = _; rw [cnt_step B k hkl, hn0, HST.out]
        generalize es[k] = z at hcl HEN HST
        obtain ⟨⟨t1, t2⟩, zc, ⟨f1, f2⟩⟩ := z
        dsimp only at hcl HEN HST
        have HCL := Vx.hid hcl
        have HH1 : Hid (∀ wv, Only (fun _ => False) wA wv → Calls Tryd.prog 20 #[.slice pB M cB, .agg #[.int .i64 t1, .int .i64 t2]] wv fun e w' => e = .returned (.bool (decide ((t1, t2) ∈ B))) ∧ Only (fun _ => False) wv w') := fun wv hv => has_ok (HLB2.out wv hv) (t1, t2)
        have HH2 : Hid (∀ wv, Only (fun _ => False) wA wv → Calls Tryd.prog 20 #[.slice pB M cB, .agg #[.int .i64 f1, .int .i64 f2]] wv fun e w' => e = .returned (.bool (decide ((f1, f2) ∈ B))) ∧ Only (fun _ => False) wv w') := fun wv hv => has_ok (HLB2.out wv hv) (f1, f2)
        obtain ⟨y0, y1, y2, y3, y4, y5⟩ := HCL.out _ HO.out
        clear hcl hlt hkl hn0
        go_wp2_with fail
        go_quiet (fail)
        clear y0 y1 y2 y3 y4 y5
        obtain ⟨wq, hwq⟩ : ∃ wq, wq = wr.drewN nq := ⟨_, rfl⟩
        rw [← hwq]
        have HOq : Hid (Only (fun _ => False) wA wq) := by rw [hwq]; exact HO.out.drewN _
        clear hwq HO
        obtain ⟨y0, y1, y2, y3, y4, y5⟩ := HCL.out _ HOq.out
        go_wp2_with fail
        refine (HH1.out _ HOq.out).mono ?_
        rintro e w11 ⟨rfl, ho11⟩
        have HO1 : Hid (Only (fun _ => False) wA w11) := HOq.out.trans ho11
        clear ho11 HOq y0 y1 y2 y3 y4 y5 HH1
        have HS : Hid (∀ wv, Only (fun _ => False) wA wv → wv.cell? ⟨gA, k * 12 + 10, none⟩ = some (.int .i64 f1) ∧ wv.cell? ⟨gA, k * 12 + 11, none⟩ = some (.int .i64 f2) ∧ wv.cell? ⟨rb, 0, none⟩ = some (.int .i64 s1) ∧ wv.cell? ⟨rb, 1, none⟩ = some (.int .i64 s2)) := fun wv hv => by
          obtain ⟨_, _, a2, a3, _, _⟩ := HCL.out wv hv
          obtain ⟨a4, a5⟩ := HRC.out wv hv
          exact ⟨a2, a3, a4, a5⟩
        clear HCL
        by_cases e1 : f1 = s1
        · by_cases e2 : f2 = s2
          · subst e1 e2
            have hin : (t1, t2) ∈ B := HEN.out.2 (Or.inl rfl)
            have HNE : Hid ((n0 : Int) + 1 = (n2 : Int)) := by
              have := HST.out
              rw [if_pos hin] at this
              show (n0 : Int) + 1 = (n2 : Int)
              omega
            rw [decide_eq_true hin]
            obtain ⟨y2, y3, y6, y7⟩ := HS.out _ HO1.out
            clear hin HST HEN HS HH2
            go_wp2_with fail
            go_quiet (fail)
            go_wp2_with fail
            go_roundw
            case rel => exact ⟨k + 1, by rw [← HNX.out, ← HNE.out], by go_num, by omega, HO1.out.drewN _⟩
            case measure => simp only [intOf]; omega
          · have e3 : (f2 == s2) = false := beq_eq_false_iff_ne.2 e2
            have HNS : Hid (¬ (f1, f2) = (s1, s2)) := fun h => e2 (congrArg Prod.snd h)
            subst e1
            clear e2
            have HIN : Hid (decide ((f1, f2) ∈ B) = decide ((t1, t2) ∈ B)) := by
              show decide ((f1, f2) ∈ B) = decide ((t1, t2) ∈ B)
              exact decide_eq_decide.2 ⟨fun h => HEN.out.2 (Or.inr h), fun h => (HEN.out.1 h).resolve_left HNS.out⟩
            rw [HIN.out] at HH2
            clear HIN HNS HEN
            by_cases hin : (t1, t2) ∈ B
            · rw [decide_eq_true hin] at HH2 ⊢
              have HNE : Hid ((n0 : Int) + 1 = (n2 : Int)) := by
                have := HST.out
                rw [if_pos hin] at this
                show (n0 : Int) + 1 = (n2 : Int)
                omega
              clear hin HST
              go_wp2_with fail
              have HK : Hid (Hid (Only (fun _ => False) wA w11.drew)) := HO1.out.drew
              go_region_held3 (fun wv => Hid (Only (fun _ => False) wA wv) ∧ wv.cell? ⟨gA, k * 12 + 10, none⟩ = some (.int .i64 f1) ∧ wv.cell? ⟨gA, k * 12 + 11, none⟩ = some (.int .i64 f2) ∧ wv.cell? ⟨rb, 0, none⟩ = some (.int .i64 f1) ∧ wv.cell? ⟨rb, 1, none⟩ = some (.int .i64 s2)) (first | exact ⟨HK.out, HS.out _ HK.out.out⟩ | exact ⟨h6, HS.out _ h6.out⟩) (first | (go_at_call 20; refine (HH2.out _ HK.out.out).mono ?_; rintro e w12 ⟨rfl, h5⟩; have h6 := Vx.hid (HK.out.out.trans h5)))
              clear HK HS HH2
              go_wp2_with fail
              go_roundw
              case rel => exact ⟨k + 1, by rw [← HNX.out, ← HNE.out], by go_num, by omega, h6⟩
              case measure => simp only [intOf]; omega
            · rw [decide_eq_false hin] at HH2 ⊢
              have HNE : Hid ((n0 : Int) = (n2 : Int)) := by
                have := HST.out
                rw [if_neg hin] at this
                show (n0 : Int) = (n2 : Int)
                omega
              clear hin HST
              go_wp2_with fail
              have HK : Hid (Hid (Only (fun _ => False) wA w11.drew)) := HO1.out.drew
              go_region_held3 (fun wv => Hid (Only (fun _ => False) wA wv) ∧ wv.cell? ⟨gA, k * 12 + 10, none⟩ = some (.int .i64 f1) ∧ wv.cell? ⟨gA, k * 12 + 11, none⟩ = some (.int .i64 f2) ∧ wv.cell? ⟨rb, 0, none⟩ = some (.int .i64 f1) ∧ wv.cell? ⟨rb, 1, none⟩ = some (.int .i64 s2)) (first | exact ⟨HK.out, HS.out _ HK.out.out⟩ | exact ⟨h6, HS.out _ h6.out⟩) (first | (go_at_call 20; refine (HH2.out _ HK.out.out).mono ?_; rintro e w12 ⟨rfl, h5⟩; have h6 := Vx.hid (HK.out.out.trans h5)))
              clear HK HS HH2
              go_wp2_with fail
              go_roundw
              case rel => exact ⟨k + 1, by rw [← HNX.out, ← HNE.out], by go_num, by omega, h6⟩
              case measure => simp only [intOf]; omega
        · have e3 : (f1 == s1) = false := beq_eq_false_iff_ne.2 e1
          have HNS : Hid (¬ (f1, f2) = (s1, s2)) := fun h => e1 (congrArg Prod.fst h)
          clear e1
          have HIN : Hid (decide ((f1, f2) ∈ B) = decide ((t1, t2) ∈ B)) := by
            show decide ((f1, f2) ∈ B) = decide ((t1, t2) ∈ B)
            exact decide_eq_decide.2 ⟨fun h => HEN.out.2 (Or.inr h), fun h => (HEN.out.1 h).resolve_left HNS.out⟩
          rw [HIN.out] at HH2
          clear HIN HNS HEN
          by_cases hin : (t1, t2) ∈ B
          · rw [decide_eq_true hin] at HH2 ⊢
            have HNE : Hid ((n0 : Int) + 1 = (n2 : Int)) := by
              have := HST.out
              rw [if_pos hin] at this
              show (n0 : Int) + 1 = (n2 : Int)
              omega
            clear hin HST
            go_wp2_with fail
            have HK : Hid (Hid (Only (fun _ => False) wA w11.drew)) := HO1.out.drew
            go_region_held3 (fun wv => Hid (Only (fun _ => False) wA wv) ∧ wv.cell? ⟨gA, k * 12 + 10, none⟩ = some (.int .i64 f1) ∧ wv.cell? ⟨gA, k * 12 + 11, none⟩ = some (.int .i64 f2) ∧ wv.cell? ⟨rb, 0, none⟩ = some (.int .i64 s1) ∧ wv.cell? ⟨rb, 1, none⟩ = some (.int .i64 s2)) (first | exact ⟨HK.out, HS.out _ HK.out.out⟩ | exact ⟨h6, HS.out _ h6.out⟩) (first | (go_at_call 20; refine (HH2.out _ HK.out.out).mono ?_; rintro e w12 ⟨rfl, h5⟩; have h6 := Vx.hid (HK.out.out.trans h5)))
            clear HK HS HH2
            go_wp2_with fail
            go_roundw
            case rel => exact ⟨k + 1, by rw [← HNX.out, ← HNE.out], by go_num, by omega, h6⟩
            case measure => simp only [intOf]; omega
          · rw [decide_eq_false hin] at HH2 ⊢
            have HNE : Hid ((n0 : Int) = (n2 : Int)) := by
              have := HST.out
              rw [if_neg hin] at this
              show (n0 : Int) = (n2 : Int)
              omega
            clear hin HST
            go_wp2_with fail
            have HK : Hid (Hid (Only (fun _ => False) wA w11.drew)) := HO1.out.drew
            go_region_held3 (fun wv => Hid (Only (fun _ => False) wA wv) ∧ wv.cell? ⟨gA, k * 12 + 10, none⟩ = some (.int .i64 f1) ∧ wv.cell? ⟨gA, k * 12 + 11, none⟩ = some (.int .i64 f2) ∧ wv.cell? ⟨rb, 0, none⟩ = some (.int .i64 s1) ∧ wv.cell? ⟨rb, 1, none⟩ = some (.int .i64 s2)) (first | exact ⟨HK.out, HS.out _ HK.out.out⟩ | exact ⟨h6, HS.out _ h6.out⟩) (first | (go_at_call 20; refine (HH2.out _ HK.out.out).mono ?_; rintro e w12 ⟨rfl, h5⟩; have h6 := Vx.hid (HK.out.out.trans h5)))
            clear HK HS HH2
            go_wp2_with fail
            go_roundw
            case rel => exact ⟨k + 1, by rw [← HNX.out, ← HNE.out], by go_num, by omega, h6⟩
            case measure => simp only [intOf]; omega
      · obtain rfl : k = N := by omega
        have h1 : ¬ (k : Int) < (k : Int) := by omega
        have HCN := HCT
        rw [HCT.out]
        clear hlt HQE HCT
        go_wp2_with fail
        go_loopw [20] (fun d wx => ∃ j : Nat, d = .int .i64 (j : Int) ∧ j ≤ M ∧ Hid (Only (fun _ => False) wA wx)) (fun d _ => M - (intOf d).toNat)
        case atStart => exact ⟨0, rfl, by omega, HO⟩
        case round =>
          clear HO
          obtain ⟨j, rfl, hj, HO⟩ := hrel
          by_cases hlt : j < M
          · have hjl : j < B.length := by have := HM.out; omega
            have h1 : (j : Int) < (M : Int) := by omega
            have hidj : 0 ≤ (j : Int) ∧ (j : Int) < (M : Int) := by omega
            have hwj : IntKind.i64.wrap ((j : Int) + 1) = (j : Int) + 1 := by rw [IntKind.wrap_i64]; omega
            obtain ⟨⟨f1, f2⟩, hfr, hah, hne, hi64⟩ := HTR.out.fr j hjl
            obtain ⟨g, rfl, hz0, hz1⟩ := HQB.out j hjl
            have hsl := slice_to g M cB j (by have := HCB.out; omega)
            have HHP : Hid (∀ wv, Only (fun _ => False) wA wv → Calls Tryd.prog 20 #[.slice (some ⟨g, 0, none⟩) j cB, .agg #[.int .i64 f1, .int .i64 f2]] wv fun e w' => e = .returned (.bool (decide ((f1, f2) ∈ B.take j))) ∧ Only (fun _ => False) wv w') := fun wv hv => has_ok ((HLB2.out wv hv).take j (by omega)) (f1, f2)
            have HFM : Hid (∀ wv, Only (fun _ => False) wA wv → Calls Tryd.prog 21 #[.pointer (some ⟨xb, 0, none⟩), .agg #[.int .i64 (B[j]).1, .int .i64 (B[j]).2]] wv fun e w' => e = .returned (.tuple #[slV (fromF two16 es B[j]).1, .int .i64 (fromF two16 es B[j]).2]) ∧ Only (fun _ => False) wv w') := fun wv hv => xfrom_ok (HCA.out.quiet hv) B[j] hi64
            rw [hfr] at HFM
            generalize B[j] = z at hne hz0 hz1 HFM
            obtain ⟨z1, z2⟩ := z
            replace hz0 : wA.cell? ⟨g, j * 2, none⟩ = some (.int .i64 z1) := hz0
            replace hz1 : wA.cell? ⟨g, j * 2 + 1, none⟩ = some (.int .i64 z2) := hz1
            have HCZ : Hid (∀ wv, Only (fun _ => False) wA wv → wv.cell? ⟨g, j * 2, none⟩ = some (.int .i64 z1) ∧ wv.cell? ⟨g, j * 2 + 1, none⟩ = some (.int .i64 z2) ∧ wv.cell? ⟨rb, 0, none⟩ = some (.int .i64 s1) ∧ wv.cell? ⟨rb, 1, none⟩ = some (.int .i64 s2)) := fun wv hv => ⟨cell_keep hz0 hv, cell_keep hz1 hv, HRC.out wv hv⟩
            have HZ : Hid ((z1 == s1) = false ∨ (z1 = s1 ∧ (z2 == s2) = false)) := by
              show (z1 == s1) = false ∨ (z1 = s1 ∧ (z2 == s2) = false)
              by_cases h3 : z1 = s1
              · exact Or.inr ⟨h3, beq_eq_false_iff_ne.2 (fun h4 => hne (by rw [h3, h4]))⟩
              · exact Or.inl (beq_eq_false_iff_ne.2 h3)
            have HAH := Vx.hid hah
            obtain ⟨x0, x1, _, _⟩ := HCZ.out _ HO.out
            dsimp only [slV] at HFM
            clear hfr hah hne hi64 hz0 hz1 hlt hjl
            go_wp2_with fail
            refine (HFM.out _ HO.out).mono ?_
            rintro e w13 ⟨rfl, ho13⟩
            have HO13 : Hid (Only (fun _ => False) wA w13) := HO.out.trans ho13
            clear x0 x1 HFM HO ho13
            go_upto_region 32 with fail
            obtain ⟨w14, hw14⟩ : ∃ w14, w14 = w13.alloc (.cells #[.int .i64 f1, .int .i64 f2] 62 (0, 0)) := ⟨_, rfl⟩
            rw [← hw14]
            have HO14 : Hid (Only (fun _ => False) wA w14) := by rw [hw14]; exact HO13.out.alloc _
            have hub : w14.heap[w13.heap.size]? = some (.cells #[.int .i64 f1, .int .i64 f2] 62 (0, 0)) := by rw [hw14]; exact heap_alloc_last _ _
            obtain ⟨up, hup⟩ : ∃ up, up = w13.heap.size := ⟨_, rfl⟩
            rw [← hup] at hub ⊢
            obtain ⟨⟨u0, u1⟩, _⟩ := slot_cells hub
            have HS : Hid (∀ wv, Only (fun _ => False) w14 wv → Only (fun _ => False) wA wv → wv.cell? ⟨up, 0, none⟩ = some (.int .i64 f1) ∧ wv.cell? ⟨up, 1, none⟩ = some (.int .i64 f2) ∧ wv.cell? ⟨rb, 0, none⟩ = some (.int .i64 s1) ∧ wv.cell? ⟨rb, 1, none⟩ = some (.int .i64 s2)) := fun wv hv hv2 => ⟨cell_keep u0 hv, cell_keep u1 hv, HRC.out wv hv2⟩
            clear hw14 hup hub u0 u1 HO13
            by_cases e1 : f1 = s1
            · by_cases e2 : f2 = s2
              · subst e1 e2
                obtain ⟨u0, u1, u2, u3⟩ := HS.out _ (Only.refl _ _) HO14.out
                clear HHP HS HAH
                go_quiet (fail)
                clear u0 u1 u2 u3
                rcases HZ.out with e5 | ⟨e5, e6⟩
                · obtain ⟨x0, x1, x2, x3⟩ := HCZ.out _ HO14.out
                  go_wp2_with fail
                  go_quiet (fail)
                  go_wp2_with fail
                  go_roundw
                  case rel => exact ⟨j + 1, by go_num, by omega, (by have := HO14.out; repeat' (first | exact this | refine Only.drewN ?_ _ | refine Only.drew ?_))⟩
                  case measure => simp only [intOf]; omega
                · obtain ⟨x0, x1, x2, x3⟩ := HCZ.out _ HO14.out
                  subst e5
                  go_wp2_with fail
                  go_quiet (fail)
                  go_wp2_with fail
                  go_roundw
                  case rel => exact ⟨j + 1, by go_num, by omega, (by have := HO14.out; repeat' (first | exact this | refine Only.drewN ?_ _ | refine Only.drew ?_))⟩
                  case measure => simp only [intOf]; omega
              · have e3 : (f2 == s2) = false := beq_eq_false_iff_ne.2 e2
                have hin : decide ((f1, f2) ∈ B.take j) = true := decide_eq_true (HAH.out.resolve_left (fun h => e2 (congrArg Prod.snd h)))
                subst e1
                rw [hin] at HHP
                clear e2 hin HAH
                have HK : Hid (Hid (Only (fun _ => False) wA w14.drew)) := HO14.out.drew
                go_region_held3 (fun wv => Hid (Only (fun _ => False) wA wv) ∧ wv.cell? ⟨up, 0, none⟩ = some (.int .i64 f1) ∧ wv.cell? ⟨up, 1, none⟩ = some (.int .i64 f2) ∧ wv.cell? ⟨rb, 0, none⟩ = some (.int .i64 f1) ∧ wv.cell? ⟨rb, 1, none⟩ = some (.int .i64 s2)) (first | exact ⟨HK.out, HS.out _ ((Only.refl _ _).drew) HK.out.out⟩ | exact ⟨h6, HS.out _ h7.out h6.out⟩) (first | (go_at_call 20; refine (HHP.out _ HK.out.out).mono ?_; rintro e w15 ⟨rfl, h5⟩; have h6 := Vx.hid (HK.out.out.trans h5); have h7 := Vx.hid (((Only.refl (fun _ => False) w14).drew).trans h5)))
                clear HK HS HHP
                rcases HZ.out with e5 | ⟨e5, e6⟩
                · obtain ⟨x0, x1, x2, x3⟩ := HCZ.out _ h6.out
                  go_wp2_with fail
                  go_quiet (fail)
                  go_wp2_with fail
                  go_roundw
                  case rel => exact ⟨j + 1, by go_num, by omega, (by have := h6.out; repeat' (first | exact this | refine Only.drewN ?_ _ | refine Only.drew ?_))⟩
                  case measure => simp only [intOf]; omega
                · obtain ⟨x0, x1, x2, x3⟩ := HCZ.out _ h6.out
                  subst e5
                  go_wp2_with fail
                  go_quiet (fail)
                  go_wp2_with fail
                  go_roundw
                  case rel => exact ⟨j + 1, by go_num, by omega, (by have := h6.out; repeat' (first | exact this | refine Only.drewN ?_ _ | refine Only.drew ?_))⟩
                  case measure => simp only [intOf]; omega
            · have e3 : (f1 == s1) = false := beq_eq_false_iff_ne.2 e1
              have hin : decide ((f1, f2) ∈ B.take j) = true := decide_eq_true (HAH.out.resolve_left (fun h => e1 (congrArg Prod.fst h)))
              rw [hin] at HHP
              clear e1 hin HAH
              have HK : Hid (Hid (Only (fun _ => False) wA w14.drew)) := HO14.out.drew
              go_region_held3 (fun wv => Hid (Only (fun _ => False) wA wv) ∧ wv.cell? ⟨up, 0, none⟩ = some (.int .i64 f1) ∧ wv.cell? ⟨up, 1, none⟩ = some (.int .i64 f2) ∧ wv.cell? ⟨rb, 0, none⟩ = some (.int .i64 s1) ∧ wv.cell? ⟨rb, 1, none⟩ = some (.int .i64 s2)) (first | exact ⟨HK.out, HS.out _ ((Only.refl _ _).drew) HK.out.out⟩ | exact ⟨h6, HS.out _ h7.out h6.out⟩) (first | (go_at_call 20; refine (HHP.out _ HK.out.out).mono ?_; rintro e w15 ⟨rfl, h5⟩; have h6 := Vx.hid (HK.out.out.trans h5); have h7 := Vx.hid (((Only.refl (fun _ => False) w14).drew).trans h5)))
              clear HK HS HHP
              rcases HZ.out with e5 | ⟨e5, e6⟩
              · obtain ⟨x0, x1, x2, x3⟩ := HCZ.out _ h6.out
                go_wp2_with fail
                go_quiet (fail)
                go_wp2_with fail
                go_roundw
                case rel => exact ⟨j + 1, by go_num, by omega, (by have := h6.out; repeat' (first | exact this | refine Only.drewN ?_ _ | refine Only.drew ?_))⟩
                case measure => simp only [intOf]; omega
              · obtain ⟨x0, x1, x2, x3⟩ := HCZ.out _ h6.out
                subst e5
                go_wp2_with fail
                go_quiet (fail)
                go_wp2_with fail
                go_roundw
                case rel => exact ⟨j + 1, by go_num, by omega, (by have := h6.out; repeat' (first | exact this | refine Only.drewN ?_ _ | refine Only.drew ?_))⟩
                case measure => simp only [intOf]; omega
          · obtain rfl : j = M := by omega
            have h1 : ¬ (j : Int) < (j : Int) := by omega
            clear hlt
            go_wp2_with fail
            all_goals
              go_ret
              exact ⟨rfl, HBA.out _ HO.out⟩
  · have hbl : BelowL two16 es D (plcN q) = [] := by unfold BelowL; rw [hi]
    have hE : fullE (fullF two16 es (plcN q)) = 11 := by rw [hi]; rfl
    rw [hbl] at hbv
    rw [hE]
    obtain ⟨pB, cB, rfl, _⟩ := hbv.form
    have HFI := Vx.hid (HBA.out wA (Only.refl _ _))
    clear hbl hE hbv hi qA qH HAVA HHVA HTR HLB HRA HBA HCA H7 HWF
    generalize es.length = N
    go_wp2_with fail
    try (go_quiet (fail); go_wp2_with fail)
    all_goals
      go_ret
      exact ⟨rfl, HFI.out⟩
end Go.Proofs.YtbmchgjilkoplaaDoor

/- Package spec's reader: capability (gen_sr13.py). -/
import Derived.Test.YtgacifbpjdakaaaGreatDoorSR13
import Derived.Lib.SlicesS
namespace Go.Proofs.YtgacifbpjdakaaaGreatDoor
open Go.ChangeShapes Go.WideShapes Go.ChangeAt Go.RowKit
open Go.Vx
set_option linter.unusedVariables false
set_option linter.unusedSimpArgs false
variable {W w w2 : World} {rb cb : Nat} {V : Rv} {vw : Value} {ws : List (List UInt8)} {T : Tx} {x : List UInt8} {e : En}

/-- A part of a capability: its word, the words behind it, what it makes of the capability. -/
structure Pc where
  nm : List UInt8
  ar : List (List UInt8)
  ef : En → En
def ptW : List Pc → List (List UInt8)
  | [] => []
  | p :: l => p.nm :: (p.ar ++ ptW l)
def efF : List Pc → En → En
  | [], e => e
  | p :: l, e => efF l (p.ef e)
theorem efF_snoc : ∀ (l : List Pc) (p : Pc) (e : En), efF (l ++ [p]) e = p.ef (efF l e)
  | [], p, e => rfl
  | q :: l, p, e => efF_snoc l p (q.ef e)
/-- What a part must do. -/
def PtOk (W : World) (rb : Nat) (V : Rv) (T : Tx) (p : Pc) : Prop := ∀ (w : World) (ws : List (List UInt8)) (cb : Nat) (e : En), ws.length ≤ 1000 → StC W w rb V (p.nm :: (p.ar ++ ws)) T cb e → Calls Tryz.prog 79 #[.pointer (some ⟨rb, 0, none⟩), .pointer (some ⟨cb, 0, none⟩)] w fun x w' => x = .returned (.string ⟨p.nm.toArray⟩) ∧ Hid (PtP W w rb V ws T cb (p.ef e) w')
theorem fl_str : ∀ (xs : List (List UInt8)), fl stL xs = xs.map (fun a => Value.string ⟨a.toArray⟩)
  | [] => rfl
  | a :: l => by rw [fl_cons, fl_str l]; rfl
/-- A word that was not told yet. -/
theorem told_no {B : Nat} {v : Value} {xs : List (List UInt8)} (h : OwnL stL w B 9 v xs) (hx : x ∉ xs) (hl : xs.length ≤ 1000) : Calls Tryz.prog 80 #[v, .string ⟨x.toArray⟩] w fun e w' => e = .returned (.bool false) ∧ w' = w := by
  obtain ⟨p, c, rfl, _, _, hg⟩ := h.form
  by_cases h0 : xs.length = 0
  · rw [h0]
    exact Tryz.slices_Contains_string_empty p c ⟨x.toArray⟩ w
  · obtain ⟨g, rfl, _⟩ := hg (by omega)
    have hfl : ∀ j, j < xs.length → (fl stL xs)[j]? = some (.string ⟨(xs.getD j []).toArray⟩) := fun j hj => by
      rw [fl_str, List.getElem?_map, List.getElem?_eq_getElem hj]
      simp [List.getD_eq_getElem?_getD, hj]
    refine (Tryz.slices_Contains_string g 0 xs.length c (xs.map (fun a => (⟨a.toArray⟩ : ByteArray))) ⟨x.toArray⟩ w (by simp) (by omega) (fun j hj => ?_)).mono ?_
    · have hj' : j < xs.length := by simpa using hj
      have h1 := World.ownsRow.cellAt h j (by show j < xs.length * 1; omega)
      rw [hfl j hj'] at h1
      rw [Nat.zero_add, h1]
      simp [List.getD_eq_getElem?_getD, hj']
    · rintro e w' ⟨rfl, rfl⟩
      refine ⟨?_, rfl⟩
      have hne : Lib.containsS ((xs.map (fun a => (⟨a.toArray⟩ : ByteArray))).take xs.length) ⟨x.toArray⟩ = false := by
        cases hh : Lib.containsS ((xs.map (fun a => (⟨a.toArray⟩ : ByteArray))).take xs.length) ⟨x.toArray⟩ with
        | false => rfl
        | true =>
          rw [Lib.containsS_iff] at hh
          rw [List.take_of_length_le (by simp)] at hh
          obtain ⟨a, ha, hax⟩ := List.mem_map.1 hh
          injection hax with hax
          have : a = x := by simpa using hax
          exact absurd (this ▸ ha) hx
      rw [hne]
/-- Between the parts. -/
structure TolI (W wr : World) (rb : Nat) (V : Rv) (T : Tx) (cb B : Nat) (e0 : En) (ps dn td : List Pc) (v : Value) : Prop where
  ps : ps = dn ++ td
  st : StC W wr rb V (ptW td) T cb (efF dn e0)
  ow : OwnL stL wr B 9 v (dn.map (·.nm))
set_option maxRecDepth 100000 in
set_option maxHeartbeats 4000000 in
theorem cap_ok {y z : List UInt8} (k b o1 o2 : Int) (fy : Fnd T y (k, b)) (hk : k = 5 ∨ k = 6) (fz : Fnd T z (o1, o2)) (i r : Nat) (hi : i < 4294967296) (hr : r < 8) (ps : List Pc) (hps : ∀ p ∈ ps, PtOk W rb V T p) (hnd : (ps.map (·.nm)).Nodup) (hpl : ps.length ≤ 3 ∧ (ptW ps).length ≤ 100)
    (h : RdAt W w rb V vw (y :: Lib.decDigits i :: z :: letF r :: ptW ps) T) (hl : T.cp.length ≤ 1000) (hgb : V.gb ≤ w.heap.size) :
    Calls Tryz.prog 37 #[.pointer (some ⟨rb, 0, none⟩)] w fun e w' => e = .returned (.tuple #[]) ∧ Hid (RdX W rb V [] { T with cp := T.cp ++ [efF ps ⟨(b, (i : Int)), ⟨o1, o2, (r : Int), 0, 0, 0, 0, 0⟩, (-1, -1)⟩] } w') := by
  obtain ⟨ev, hev⟩ : ∃ ev, ev = efF ps ⟨(b, (i : Int)), ⟨o1, o2, (r : Int), 0, 0, 0, 0, 0⟩, (-1, -1)⟩ := ⟨_, rfl⟩
  rw [← hev]
  have HEV := Vx.hid hev
  clear hev
  obtain ⟨w1, hw1⟩ : ∃ w1, w1 = w.alloc (.cells #[.int .i64 0, .int .i64 0, .int .i64 0, .int .i64 0, .int .i64 0, .int .u32 0, .int .u32 0, .int .i64 0, .int .i64 0, .int .u32 0, .int .i64 (-1), .int .i64 (-1)] 84) := ⟨_, rfl⟩
  obtain ⟨cb, hcb⟩ : ∃ cb, cb = w.heap.size := ⟨_, rfl⟩
  have ho1 : Only (fun _ => False) w w1 := by rw [hw1]; exact (Only.refl _ _).alloc _
  have ht1 : CsAt w1 cb ⟨(0, 0), ⟨0, 0, 0, 0, 0, 0, 0, 0⟩, (-1, -1)⟩ := by
    unfold CsAt
    rw [hw1, hcb]
    exact heap_alloc_last w _
  have HI1 : Hid (StC W w1 rb V (y :: Lib.decDigits i :: z :: letF r :: ptW ps) T cb ⟨(0, 0), ⟨0, 0, 0, 0, 0, 0, 0, 0⟩, (-1, -1)⟩) := ⟨⟨_, h.quiet ho1⟩, ht1, h.fre (by omega), by have := h.be.size; omega⟩
  have HFY : Hid (Fnd T y (k, b) ∧ ((k, b).1 = 5 ∨ (k, b).1 = 6) ∧ i < 4294967296) := ⟨fy, hk, hi⟩
  have HFZ := Vx.hid fz
  have HR := Vx.hid hr
  have HPS : Hid ((∀ p ∈ ps, PtOk W rb V T p) ∧ (ps.map (·.nm)).Nodup ∧ ps.length ≤ 3 ∧ (ptW ps).length ≤ 100) := ⟨hps, hnd, hpl⟩
  have HLN : Hid (T.cp.length + 1 ≤ 10000000) := by show _ ≤ _; omega
  obtain ⟨B, hB⟩ : ∃ B, B = w1.heap.size := ⟨_, rfl⟩
  have HB : Hid (V.gb ≤ B ∧ W.heap.size ≤ B ∧ B = w1.heap.size) := ⟨by have := ho1.size; omega, by have := h.be.size; have := ho1.size; omega, hB⟩
  clear h ho1 ht1 fy hk fz hi hr hps hnd hpl hl hgb hB
  go_enter Tryz.func37, Tryz.ntmps37
  obtain ⟨vw1, hx1⟩ := HI1.out.x
  go_wp2_with fail
  rw [← hw1, ← hcb]
  clear hw1 hcb
  refine (slot_f HFY.out.1 HFY.out.2.1 i HFY.out.2.2 hx1 (by have := HPS.out.2.2.2; simp; omega)).mono ?_
  rintro e9 w2 ⟨rfl, H2⟩
  have HI2 := Vx.hid (HI1.out.call H2.out)
  have HZ2 : Hid (w1.heap.size ≤ w2.heap.size) := H2.out.1.size
  clear H2 hx1
  obtain ⟨q2_0, c2_0⟩ := HI2.out.t.cell 0 (by decide)
  have f2_0 := froz HI2.out.t 0
  obtain ⟨q2_1, c2_1⟩ := HI2.out.t.cell 1 (by decide)
  have f2_1 := froz HI2.out.t 1
  obtain ⟨w3, hw3⟩ : ∃ w9, w9 = ((w2.setCell ⟨cb, 0, none⟩ (.int .i64 b)).setCell ⟨cb, 1, none⟩ (.int .i64 (i : Int))) := ⟨_, rfl⟩
  have HI3 := Vx.hid (show StC W ((w2.setCell ⟨cb, 0, none⟩ (.int .i64 b)).setCell ⟨cb, 1, none⟩ (.int .i64 (i : Int))) rb V _ T cb ⟨(b, (i : Int)), ⟨0, 0, 0, 0, 0, 0, 0, 0⟩, (-1, -1)⟩ from HI2.out.set2 (e2 := ⟨(b, 0), ⟨0, 0, 0, 0, 0, 0, 0, 0⟩, (-1, -1)⟩) 0 1 _ _ rfl rfl)
  rw [← hw3] at HI3
  have HZ3 : Hid (w1.heap.size ≤ w3.heap.size) := by show _ ≤ _; rw [hw3]; simpa using HZ2.out
  obtain ⟨vw3, hx3⟩ := HI3.out.x
  go_wp2_with fail
  clear c2_0 f2_0 c2_1 f2_1
  rw [← hw3]
  clear hw3
  refine (obj_any HFZ.out hx3 (by have := HPS.out.2.2.2; first | omega | (simp; omega))).mono ?_
  rintro e9 w4 ⟨rfl, H4⟩
  have HI4 := Vx.hid (HI3.out.call H4.out)
  have HZ4 : Hid (w1.heap.size ≤ w4.heap.size) := Nat.le_trans HZ3.out H4.out.1.size
  clear H4 hx3
  obtain ⟨q4_2, c4_2⟩ := HI4.out.t.cell 2 (by decide)
  have f4_2 := froz HI4.out.t 2
  obtain ⟨q4_3, c4_3⟩ := HI4.out.t.cell 3 (by decide)
  have f4_3 := froz HI4.out.t 3
  obtain ⟨w5, hw5⟩ : ∃ w9, w9 = ((w4.setCell ⟨cb, 2, none⟩ (.int .i64 o1)).setCell ⟨cb, 3, none⟩ (.int .i64 o2)) := ⟨_, rfl⟩
  have HI5 := Vx.hid (show StC W ((w4.setCell ⟨cb, 2, none⟩ (.int .i64 o1)).setCell ⟨cb, 3, none⟩ (.int .i64 o2)) rb V _ T cb ⟨(b, (i : Int)), ⟨o1, o2, 0, 0, 0, 0, 0, 0⟩, (-1, -1)⟩ from HI4.out.set2 (e2 := ⟨(b, (i : Int)), ⟨o1, 0, 0, 0, 0, 0, 0, 0⟩, (-1, -1)⟩) 2 3 _ _ rfl rfl)
  rw [← hw5] at HI5
  have HZ5 : Hid (w1.heap.size ≤ w5.heap.size) := by show _ ≤ _; rw [hw5]; simpa using HZ4.out
  obtain ⟨vw5, hx5⟩ := HI5.out.x
  go_wp2_with fail
  clear c4_2 f4_2 c4_3 f4_3
  rw [← hw5]
  clear hw5
  refine (rights_ok r HR.out hx5 (by have := HPS.out.2.2.2; first | omega | (simp; omega))).mono ?_
  rintro e9 w6 ⟨rfl, H6⟩
  have HI6 := Vx.hid (HI5.out.call H6.out)
  have HZ6 : Hid (w1.heap.size ≤ w6.heap.size) := Nat.le_trans HZ5.out H6.out.1.size
  clear H6 hx5
  obtain ⟨q6_4, c6_4⟩ := HI6.out.t.cell 4 (by decide)
  have f6_4 := froz HI6.out.t 4
  obtain ⟨w7, hw7⟩ : ∃ w9, w9 = w6.setCell ⟨cb, 4, none⟩ (.int .i64 (r : Int)) := ⟨_, rfl⟩
  have HI7 := Vx.hid (show StC W (w6.setCell ⟨cb, 4, none⟩ (.int .i64 (r : Int))) rb V _ T cb ⟨(b, (i : Int)), ⟨o1, o2, (r : Int), 0, 0, 0, 0, 0⟩, (-1, -1)⟩ from HI6.out.set1 4 _ rfl)
  rw [← hw7] at HI7
  have HZ7 : Hid (w1.heap.size ≤ w7.heap.size) := by show _ ≤ _; rw [hw7]; simpa using HZ6.out
  go_wp2_with fail
  clear c6_4 f6_4
  rw [← hw7]
  clear hw7 HI1 HI2 HI3 HI4 HI5 HI6 HZ2 HZ3 HZ4 HZ5 HZ6
  go_loopw [3] (fun c3 wr => ∃ dn td, Hid (TolI W wr rb V T cb B ⟨(b, (i : Int)), ⟨o1, o2, (r : Int), 0, 0, 0, 0, 0⟩, (-1, -1)⟩ ps dn td c3) ∧ Hid (w1.heap.size ≤ wr.heap.size)) (fun c3 wr => wdN wr rb)
  case atStart => exact ⟨[], ps, ⟨rfl, HI7.out, OwnL.nil _ _ _ _⟩, HZ7.out⟩
  case round =>
    clear HI7 HZ7
    obtain ⟨dn, td, HT, HZ⟩ := hrel
    cases td with
    | cons p td =>
      obtain ⟨vw0, hx0⟩ := HT.out.st.x
      have HM := Vx.hid (more_yes hx0)
      have HWN := Vx.hid hx0.wdN
      have hpm : p ∈ ps := by rw [HT.out.ps]; simp
      have hll : (ptW td).length ≤ 1000 := by
        have h1 := HPS.out.2.2.2
        have h2 : ∀ (a b : List Pc), (ptW (a ++ b)).length = (ptW a).length + (ptW b).length := by
          intro a b
          induction a with
          | nil => simp [ptW]
          | cons q a ih => simp only [List.cons_append, ptW, List.length_cons, List.length_append, ih]; omega
        rw [HT.out.ps, h2] at h1
        simp only [ptW, List.length_cons, List.length_append] at h1
        omega
      have HPT := Vx.hid (HPS.out.1 p hpm _ _ _ _ hll HT.out.st)
      have hdl : dn.length + (td.length + 1) ≤ 3 := by
        have h1 := HPS.out.2.2.1
        rw [HT.out.ps] at h1
        simpa using h1
      have HNT : Hid (p.nm ∉ dn.map (·.nm)) := by
        have h1 := HPS.out.2.1
        rw [HT.out.ps, List.map_append, List.nodup_append] at h1
        intro hm
        exact h1.2.2 _ hm _ (by simp) rfl
      have HDL : Hid ((dn.map (·.nm)).length ≤ 1000 ∧ (dn.map (·.nm)).length + 1 ≤ 10000000) := ⟨by simp; omega, by simp; omega⟩
      obtain ⟨pt, ct, hvt, _⟩ := HT.out.ow.form
      obtain ⟨nt, hnt⟩ : ∃ nt, nt = (dn.map (·.nm)).length := ⟨_, rfl⟩
      rw [← hnt] at hvt
      clear hnt
      subst hvt
      clear hx0 hpm hll hdl
      go_wp2_with fail
      refine HM.out.mono ?_
      rintro e9 w2 ⟨rfl, hw9⟩
      have hw8 := hw9.symm
      clear hw9
      subst hw8
      clear HM
      go_wp2_with fail
      refine HPT.out.mono ?_
      rintro e9 w3 ⟨rfl, H3⟩
      have how := HT.out.ow.kept H3.out.1 (fun k9 hk h9 => by
        obtain ⟨cur, h8⟩ := own_tag HT.out.ow hk
        rcases h9 with h9 | h9
        · obtain ⟨vwq, hxq⟩ := HT.out.st.x
          exact tag_ne h8 hxq.row (by decide) h9
        · exact tag_ne h8 HT.out.st.t (by decide) h9)
      have HOW := Vx.hid how
      have HST := Vx.hid H3.out.2
      have HZ3 : Hid (w1.heap.size ≤ w3.heap.size) := Nat.le_trans HZ.out H3.out.1.size
      have HTN := Vx.hid (told_no how HNT.out HDL.out.1)
      clear H3 HPT how
      generalize hnm : p.nm = pn at HTN
      go_wp2_with fail
      refine HTN.out.mono ?_
      rintro e9 w4 ⟨rfl, hw9⟩
      have hw8 := hw9.symm
      clear hw9
      subst hw8
      clear HTN
      have HBB : Hid (B ≤ w3.heap.size) := by have := HB.out.2.2; have := HZ3.out; show _ ≤ _; omega
      have HNM := Vx.hid hnm
      clear hnm
      go_wp2_with (at_builtin; refine wpList_append_one tKn _ rfl _ _ rfl B (.slice pt nt ct) _ rfl HOW.out pn _ _ rfl rfl rfl HDL.out.2 HBB.out ?_; intro v6 w6 hv1 hv2 hv3; have HV1 := Vx.hid hv1; have HV2 := Vx.hid hv2; clear hv1 hv2 hv3)
      go_roundw
      case rel =>
        refine ⟨dn ++ [p], td, ⟨?_, ?_, ?_⟩, Nat.le_trans HZ3.out HV2.out.size⟩
        · rw [HT.out.ps]; simp
        · rw [efF_snoc]
          obtain ⟨vwq, hxq⟩ := HST.out.x
          refine ⟨⟨vwq, hxq.told HOW.out HB.out.1 HB.out.2.1 HV2.out⟩, HST.out.t.keep HV2.out (fun h9 => ?_), HST.out.f, HST.out.b⟩
          obtain ⟨cur, h8⟩ := own_tag HOW.out h9
          exact tag_ne h8 HST.out.t (by decide) rfl
        · rw [List.map_append, List.map_singleton, HNM.out]
          exact HV1.out
      case measure =>
        obtain ⟨vwq, hxq⟩ := HST.out.x
        have h1 := (hxq.told HOW.out HB.out.1 HB.out.2.1 HV2.out).wdN
        have h2 := HWN.out
        simp only [ptW, List.length_cons, List.length_append] at h1 h2
        omega
    | nil =>
      have hdn : dn = ps := by rw [HT.out.ps]; simp
      subst hdn
      have hst := HT.out.st
      rw [← HEV.out] at hst
      have HST := Vx.hid hst
      clear hst HT HZ
      obtain ⟨vw0, hx0⟩ := HST.out.x
      have HX0 := Vx.hid hx0
      have HM := Vx.hid (more_no hx0)
      clear hx0
      go_wp2_with fail
      refine HM.out.mono ?_
      rintro e9 w2 ⟨rfl, hw9⟩
      have hw8 := hw9.symm
      clear hw9
      subst hw8
      clear HM
      obtain ⟨pt, ct, hvt, _⟩ := HX0.out.lc.form
      obtain ⟨nt, hnt⟩ : ∃ nt, nt = T.cp.length := ⟨_, rfl⟩
      rw [← hnt] at hvt
      clear hnt
      have HVT := Vx.hid hvt
      clear hvt
      have HXD := Vx.hid (HX0.out.quiet ((Only.refl _ wr).drew))
      have HT0 := Vx.hid HST.out.t
      obtain ⟨wA, hwA⟩ : ∃ wA, wA = wr.drew.alloc (.cells (enL.cf ev).toArray 84) := ⟨_, rfl⟩
      obtain ⟨nA, hnA⟩ : ∃ nA, nA = wr.drew.heap.size := ⟨_, rfl⟩
      have hoA : Only (fun _ => False) wr wA := by rw [hwA]; exact ((Only.refl _ _).drew).alloc _
      have HXA := Vx.hid (HX0.out.quiet hoA)
      have HTA := Vx.hid (HT0.out.keep hoA (fun h => h))
      have HYD : Hid (∀ j u, (enL.cf ev)[j]? = some u → wA.cell? ⟨nA, j, none⟩ = some u) := fun j u hj => by
        have hl : wA.heap[nA]? = some (.cells (enL.cf ev).toArray 84 (0, 0)) := by rw [hwA, hnA]; exact heap_alloc_last _ _
        rw [cell_of_row _ _ j _ _ (0, 0) hl, List.getElem?_toArray]
        exact hj
      have HBA : Hid (W.heap.size ≤ wA.heap.size) := HXA.out.be.size
      have HCE : Hid (∀ wv, RdAt W wv rb V vw0 [] T → wv.cell? ⟨rb, 11, none⟩ = some (.slice pt nt ct)) := fun wv hv => by
        have h9 := (cell_of_row _ _ 11 _ _ (0, 0) hv.row).trans rfl
        exact h9.trans (congrArg some HVT.out)
      have HS0 : Hid (wr.drew.cell? ⟨rb, 11, none⟩ = some (.slice pt nt ct) ∧ CsAt wr.drew cb ev) := ⟨HCE.out _ HXD.out, HT0.out⟩
      have HSA : Hid (wA.cell? ⟨rb, 11, none⟩ = some (.slice pt nt ct) ∧ CsAt wA cb ev) := ⟨HCE.out _ HXA.out, HTA.out⟩
      have HF := Vx.hid HST.out.f
      clear hoA HST
      go_upto_region 10 with fail
      refine Vx.wp_region_last (S := (fun wv => wv.cell? ⟨rb, 11, none⟩ = some (.slice pt nt ct) ∧ CsAt wv cb ev)) 14 (by kernel_rfl) (by simp only [List.getElem?_toArray, List.getElem?_cons_zero, List.getElem?_cons_succ]; rfl) (by kernel_rfl) ?_
      simp only [Vx.offA, Vx.offO, List.setIfInBounds_toArray, List.set_cons_zero, List.set_cons_succ, List.size_toArray, List.length_cons, List.length_nil, Nat.zero_add, Nat.reduceAdd]
      refine wpAnyH_take (i := 0) (v := ?v10_0) (by simp only [List.getElem?_toArray, List.getElem?_cons_zero, List.getElem?_cons_succ]; rfl) (by kernel_rfl) (by kernel_rfl) (by kernel_rfl) (by exact fun _ _ _ h => h) (Or.inl ⟨by rfl, ?hy10_0⟩) HS0.out ?_
      case hy10_0 => (intro wq hSw; (try dsimp only at hSw); go_simp; try (with_reducible rfl))
      try simp only [Act.put, List.setIfInBounds_toArray, List.set_cons_zero, List.set_cons_succ]
      refine wpAnyH_take (i := 1) (v := ?v10_1) (by simp only [List.getElem?_toArray, List.getElem?_cons_zero, List.getElem?_cons_succ]; rfl) (by kernel_rfl) (by kernel_rfl) (by kernel_rfl) (by exact fun _ _ _ h => h) (Or.inl ⟨by rfl, ?hy10_1⟩) HS0.out ?_
      case hy10_1 => (intro wq hSw; (try dsimp only at hSw); go_simp; try (with_reducible rfl))
      try simp only [Act.put, List.setIfInBounds_toArray, List.set_cons_zero, List.set_cons_succ]
      refine wpAnyH_take (i := 2) (v := ?v10_2) (by simp only [List.getElem?_toArray, List.getElem?_cons_zero, List.getElem?_cons_succ]; rfl) (by kernel_rfl) (by kernel_rfl) (by kernel_rfl) (by exact fun _ _ _ h => h) (Or.inl ⟨by rfl, ?hy10_2⟩) HS0.out ?_
      case hy10_2 => (intro wq hSw; (try dsimp only at hSw); go_simp; try (with_reducible rfl))
      try simp only [Act.put, List.setIfInBounds_toArray, List.set_cons_zero, List.set_cons_succ]
      refine wpAnyH_take (i := 3) (v := ?v10_3) (by simp only [List.getElem?_toArray, List.getElem?_cons_zero, List.getElem?_cons_succ]; rfl) (by kernel_rfl) (by kernel_rfl) (by kernel_rfl) (by exact fun _ _ _ h => h) (Or.inl ⟨by rfl, ?hy10_3⟩) HS0.out ?_
      case hy10_3 => (intro wq hSw; (try dsimp only at hSw); go_simp; try (with_reducible rfl))
      try simp only [Act.put, List.setIfInBounds_toArray, List.set_cons_zero, List.set_cons_succ]
      refine wpAnyH_take (i := 4) (v := ?v10_4) (by simp only [List.getElem?_toArray, List.getElem?_cons_zero, List.getElem?_cons_succ]; rfl) (by kernel_rfl) (by kernel_rfl) (by kernel_rfl) (by exact fun _ _ _ h => h) (Or.inl ⟨by rfl, ?hy10_4⟩) HS0.out ?_
      case hy10_4 => (intro wq hSw; (try dsimp only at hSw); go_simp; try (with_reducible rfl))
      try simp only [Act.put, List.setIfInBounds_toArray, List.set_cons_zero, List.set_cons_succ]
      refine wpAnyH_take (i := 5) (v := ?v10_5) (by simp only [List.getElem?_toArray, List.getElem?_cons_zero, List.getElem?_cons_succ]; rfl) (by kernel_rfl) (by kernel_rfl) (by kernel_rfl) (by exact fun _ _ _ h => h) (Or.inl ⟨by rfl, ?hy10_5⟩) HS0.out ?_
      case hy10_5 => (intro wq hSw; (try dsimp only at hSw); go_simp; try (with_reducible rfl))
      try simp only [Act.put, List.setIfInBounds_toArray, List.set_cons_zero, List.set_cons_succ]
      refine wpAnyH_take (i := 6) (v := ?v10_6) (by simp only [List.getElem?_toArray, List.getElem?_cons_zero, List.getElem?_cons_succ]; rfl) (by kernel_rfl) (by kernel_rfl) (by kernel_rfl) (by exact fun _ _ _ h => h) (Or.inl ⟨by rfl, ?hy10_6⟩) HS0.out ?_
      case hy10_6 => (intro wq hSw; (try dsimp only at hSw); go_simp; try (with_reducible rfl))
      try simp only [Act.put, List.setIfInBounds_toArray, List.set_cons_zero, List.set_cons_succ]
      refine wpAnyH_take (i := 7) (v := ?v10_7) (by simp only [List.getElem?_toArray, List.getElem?_cons_zero, List.getElem?_cons_succ]; rfl) (by kernel_rfl) (by kernel_rfl) (by kernel_rfl) (by exact fun _ _ _ h => h) (Or.inl ⟨by rfl, ?hy10_7⟩) HS0.out ?_
      case hy10_7 => (intro wq hSw; refine (ld_cp (.tmp 2) rfl rfl hSw.2).trans ?_; with_reducible rfl)
      try simp only [Act.put, List.setIfInBounds_toArray, List.set_cons_zero, List.set_cons_succ]
      refine wpAnyH_ready (rs := [8]) (by kernel_rfl) (by simp) ?_
      refine AllReadyH.cons (by simp only [List.getElem?_toArray, List.getElem?_cons_zero, List.getElem?_cons_succ]; rfl) (fun K hK => ?_) AllReadyH.nil
      refine row_cp (e := ev) (.tmp 38) 39 rfl rfl (by simp [Act.eval]) ?_
      rw [← hwA, ← hnA]
      refine hK.out _ _ HSA.out (fun _ => ?_)
      clear hK K
      try simp only [Act.put, List.setIfInBounds_toArray, List.set_cons_zero, List.set_cons_succ]
      refine wpAnyH_ready (rs := [9]) (by kernel_rfl) (by simp) ?_
      refine AllReadyH.cons (by simp only [List.getElem?_toArray, List.getElem?_cons_zero, List.getElem?_cons_succ]; rfl) (fun K hK => ?_) AllReadyH.nil
      refine Vx.step_append_one tKc rfl (.tmp 37) (.tmp 39) rfl W.heap.size (.slice pt nt ct) T.cp (by simp [Act.eval]) (by rw [← HVT.out]; exact HXA.out.lc) ev nA 1 1 (by simp [Act.eval]) HYD.out HLN.out HBA.out ?_
      intro v6 w6 hv1 hv2 hv3
      rw [← HVT.out] at hv2
      obtain ⟨⟨pq, mq, cq, rfl⟩, ⟨qx, hq1⟩, hq2, hxc, HQ5⟩ := HXA.out.st_c v6 w6 _ hv1 hv2
      have HS6 : Hid (w6.cell? ⟨rb, 11, none⟩ = some (.slice pt nt ct) ∧ CsAt w6 cb ev) := ⟨(hxc 11).trans HSA.out.1, HTA.out.keep hv2 HF.out.2.2.2.2.1⟩
      clear hxc hv1 hv2 hv3
      refine hK.out _ _ HS6.out (fun _ => ?_)
      clear hK K
      try simp only [Act.put, List.setIfInBounds_toArray, List.set_cons_zero, List.set_cons_succ]
      refine wpAnyH_take (i := 10) (v := ?v10_10) (by simp only [List.getElem?_toArray, List.getElem?_cons_zero, List.getElem?_cons_succ]; rfl) (by kernel_rfl) (by kernel_rfl) (by kernel_rfl) (by exact fun _ _ _ h => h) (Or.inl ⟨by rfl, ?hy10_10⟩) HS6.out ?_
      case hy10_10 => (intro wq hSw; (try dsimp only at hSw); go_simp; try (with_reducible rfl))
      try simp only [Act.put, List.setIfInBounds_toArray, List.set_cons_zero, List.set_cons_succ]
      refine wpAnyH_take (i := 11) (v := ?v10_11) (by simp only [List.getElem?_toArray, List.getElem?_cons_zero, List.getElem?_cons_succ]; rfl) (by kernel_rfl) (by kernel_rfl) (by kernel_rfl) (by exact fun _ _ _ h => h) (Or.inl ⟨by rfl, ?hy10_11⟩) HS6.out ?_
      case hy10_11 => (intro wq hSw; (try dsimp only at hSw); go_simp; try (with_reducible rfl))
      try simp only [Act.put, List.setIfInBounds_toArray, List.set_cons_zero, List.set_cons_succ]
      refine wpAnyH_take (i := 12) (v := ?v10_12) (by simp only [List.getElem?_toArray, List.getElem?_cons_zero, List.getElem?_cons_succ]; rfl) (by kernel_rfl) (by kernel_rfl) (by kernel_rfl) (by exact fun _ _ _ h => h) (Or.inl ⟨by rfl, ?hy10_12⟩) HS6.out ?_
      case hy10_12 => (intro wq hSw; (try dsimp only at hSw); go_simp; try (with_reducible rfl))
      try simp only [Act.put, List.setIfInBounds_toArray, List.set_cons_zero, List.set_cons_succ]
      refine wpAnyH_take (i := 13) (v := ?v10_13) (by simp only [List.getElem?_toArray, List.getElem?_cons_zero, List.getElem?_cons_succ]; rfl) (by kernel_rfl) (by kernel_rfl) (by kernel_rfl) (by exact fun _ _ _ h => h) (Or.inl ⟨by rfl, ?hy10_13⟩) HS6.out ?_
      case hy10_13 => (intro wq hSw; (try dsimp only at hSw); go_simp; try (with_reducible rfl))
      try simp only [Act.put, List.setIfInBounds_toArray, List.set_cons_zero, List.set_cons_succ]
      refine wpAnyH_take (i := 14) (v := undef) (by simp only [List.getElem?_toArray, List.getElem?_cons_zero, List.getElem?_cons_succ]; rfl) (by kernel_rfl) (by kernel_rfl) (by kernel_rfl) (by exact fun _ _ _ h => h) (Or.inr ⟨by rfl, rfl⟩) HS6.out ?_
      refine wpAnyH_done (by kernel_rfl) ?_ _
      simp only [Vx.upTo]
      clear hwA hnA HYD HBA HXA HXD HS0 HSA HS6 HCE
      go_wp2_with fail
      first | go_end0 | refine bodyPost_ret (results_none rfl _ _ _) rfl ?_
      exact ⟨rfl, _, _, HQ5.out, rfl, rfl, rfl, rfl⟩
end Go.Proofs.YtgacifbpjdakaaaGreatDoor

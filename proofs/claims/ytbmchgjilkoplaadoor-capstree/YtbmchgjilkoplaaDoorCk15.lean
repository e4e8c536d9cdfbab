import Derived.Test.YtbmchgjilkoplaaDoorCk14
/- Chapter 7, the document's store: Take, Move. -/
namespace Go.Proofs.YtbmchgjilkoplaaDoor
open Go.ChangeShapes Go.WideShapes Go.ChangeAt Go.RowKit
open Go.Vx
set_option linter.unusedVariables false

def takeR (bs : List (Int × Int)) (es : List En) (s : Sl) : Cp × Int := getF bs es s
def takeL (bs : List (Int × Int)) (es : List En) (s : Sl) : List En := match fullF bs es s with | .ok i => cutL es i (es.getD i .df).from' | .error _ => es
set_option maxRecDepth 100000 in
set_option maxHeartbeats 4000000 in
theorem take_ok {U : Nat → Prop} {w : World} {rb : Nat} {bs : List (Int × Int)} {es : List En} (hc : RcAt U w rb bs es) (s : Sl) : Calls Tryd.prog 34 #[.pointer (some ⟨rb, 0, none⟩), .agg #[.int .i64 s.1, .int .i64 s.2]] w fun e w' => e = .returned (.tuple #[cpV (takeR bs es s).1, .int .i64 (takeR bs es s).2]) ∧ RcAt U w' rb bs (takeL bs es s) ∧ Only (fun k => ¬ U k) w w' := by
  obtain ⟨vb, ve, h⟩ := hc
  obtain ⟨s1, s2⟩ := s
  have HFU : Hid (∀ wv, Only (fun _ => False) w wv → Calls Tryd.prog 62 #[.pointer (some ⟨rb, 0, none⟩), .agg #[.int .i64 s1, .int .i64 s2]] wv fun e w' => e = .returned (.tuple #[.int .i64 (fullI (fullF bs es (s1, s2))), .int .i64 (fullE (fullF bs es (s1, s2)))]) ∧ Only (fun _ => False) wv w') := fun wv hv => full_ok (h.quiet hv) (s1, s2)
  have HO : Hid (∀ o p, Only (fun _ => False) w ((w.alloc o).alloc p)) := fun o p => ((Only.refl _ w).alloc _).alloc _
  have HH := Vx.hid h
  clear h
  dsimp only
  rcases full_cases bs es (s1, s2) with ⟨i, hf, hi⟩ | hf | hf
  · obtain ⟨hil, _⟩ := entF_at hi
    obtain ⟨x, hx⟩ : ∃ x, x = es[i] := ⟨_, rfl⟩
    have hgd : es.getD i .df = x := by rw [getD_at es i hil, hx]
    have HG : Hid (takeR bs es (s1, s2) = (x.cap, 0)) := by show takeR bs es (s1, s2) = _; unfold takeR getF; rw [hf]; dsimp only; rw [hgd]
    have HL : Hid (takeL bs es (s1, s2) = cutL es i x.from') := by show takeL bs es (s1, s2) = _; unfold takeL; rw [hf]; dsimp only; rw [hgd]
    have HCT : Hid (∀ w2, Only (fun _ => False) w w2 → Calls Tryd.prog 65 #[.pointer (some ⟨rb, 0, none⟩), .int .i64 (i : Int), .agg #[.int .i64 x.from'.1, .int .i64 x.from'.2]] w2 fun e w' => e = .returned (.agg (enC x).toArray) ∧ RowKit.Hid (RcAt U w' rb bs (cutL es i x.from') ∧ Only (fun k => ¬ U k) w w' ∧ ∀ k, w.heap.size ≤ k → k < w2.heap.size → w'.heap[k]? = w2.heap[k]?)) := fun w2 ho => by
      have h3 := cut_in HH.out ho i hil x.from'
      rw [← hx] at h3
      exact h3
    rw [hf] at HFU
    simp only [fullI, fullE] at HFU
    clear hf hi hgd
    go_enter Tryd.func34, Tryd.ntmps34
    go_wp2_with fail
    refine (HFU.out _ (HO.out _ _)).mono ?_
    rintro e w2 ⟨rfl, hq⟩
    have hO2 := (HO.out (.cells #[.int .i64 s1, .int .i64 s2] 62) (.cells #[.int .i64 0, .int .i64 0, .int .i64 0, .int .u32 0, .int .u32 0, .int .i64 0, .int .i64 0, .int .u32 0] 66)).trans hq
    have hz := new_second hq
    have HO2 := Vx.hid hO2
    obtain ⟨g, c, hve, hE⟩ := (HH.out.quiet hO2).e12 i hil
    have c1 := (HH.out.quiet hO2).c1
    rw [hve] at c1
    rw [← hx] at hE
    obtain ⟨_, _, _, _, _, _, _, _, _, _, k0, k1⟩ := hE
    obtain ⟨N, hN⟩ : ∃ N, N = es.length := ⟨_, rfl⟩
    rw [← hN] at c1
    have hidx : 0 ≤ (i : Int) ∧ (i : Int) < (N : Int) := by omega
    obtain ⟨⟨xa1, xa2⟩, ⟨xc0, xc1, xc2, xc3, xc4, xc5, xc6, xc7⟩, ⟨xf1, xf2⟩⟩ := x
    dsimp only at k0 k1 HCT HG HL
    have HC2 : Hid (Calls Tryd.prog 65 #[.pointer (some ⟨rb, 0, none⟩), .int .i64 (i : Int), .agg #[.int .i64 xf1, .int .i64 xf2]] w2 fun e w' => e = .returned (.agg #[.int .i64 xa1, .int .i64 xa2, .int .i64 xc0, .int .i64 xc1, .int .i64 xc2, .int .u32 xc3, .int .u32 xc4, .int .i64 xc5, .int .i64 xc6, .int .u32 xc7, .int .i64 xf1, .int .i64 xf2]) ∧ RowKit.Hid (RcAt U w' rb bs (cutL es i (xf1, xf2)) ∧ Only (fun k => ¬ U k) w w' ∧ ∀ k, w.heap.size ≤ k → k < w2.heap.size → w'.heap[k]? = w2.heap[k]?)) := HCT.out w2 hO2
    obtain ⟨rc, hrc⟩ : ∃ rc, rc = w.heap.size + 1 := ⟨_, rfl⟩
    rw [← hrc] at hz ⊢
    have HZ := Vx.hid (⟨hz, hrc⟩ : _ ∧ _)
    clear hq hz hve hN HFU HCT hO2 HO hrc hx
    go_wp2_with fail
    refine HC2.out.mono ?_
    rintro e w3 ⟨rfl, H3⟩
    have hz3 := (H3.out.2.2 rc (by have := HZ.out.2; omega) (lt_of_some HZ.out.1)).trans HZ.out.1
    obtain ⟨⟨z0, z1, z2, z3, z4, z5, z6, z7⟩, zf⟩ := cap_cells hz3
    have hrl : rc < w3.heap.size := lt_of_some hz3
    obtain ⟨vb3, ve3, hr3⟩ := H3.out.1
    have hrb : rb ≠ rc := fun e => by have h4 := hr3.r; rw [e, hz3] at h4; simp at h4
    have hrcw : w.heap.size ≤ rc := by have := HZ.out.2; omega
    have nb : ∀ k, vb3.ownBlock = some k → ¬ k = rc := fun k hk => by
      obtain ⟨cur, hc4⟩ := own_tag hr3.b hk
      exact tag_ne hc4 hz3 (by decide)
    have ne : ∀ k, ve3.ownBlock = some k → ¬ k = rc := fun k hk => by
      obtain ⟨cur, hc4⟩ := own_tag hr3.e hk
      exact tag_ne hc4 hz3 (by decide)
    have HFN : Hid (∀ wx o, Only (fun k => k = rc) w3 wx → RcAt U (wx.alloc o) rb bs (cutL es i (xf1, xf2)) ∧ Only (fun k => ¬ U k) w (wx.alloc o)) := fun wx o hx => by
      have ha : Only (fun _ => False) wx (wx.alloc o) := (Only.refl _ wx).alloc _
      exact ⟨⟨_, _, (hr3.aside hx hrb nb ne).quiet ha⟩, (H3.out.2.1.newer hx hrcw).alloc o⟩
    clear hz3 hr3 hrb hrcw nb ne c1 k0 k1 HC2
    go_wp2_with fail
    refine bodyPost_ret (v := .tuple #[cpV ⟨xc0, xc1, xc2, xc3, xc4, xc5, xc6, xc7⟩, .int .i64 0]) ?_ rfl ⟨by rw [HG.out], ?_⟩
    · simp [results, Tryd.results34, go_sem, cpV, z0, z1, z2, z3, z4, z5, z6, z7, hrl]
    · rw [HL.out]
      exact HFN.out _ _ (only_set8 _ _ _ _ _ _ _ _ _ _)
  · have HG : Hid (takeR bs es (s1, s2) = (zeroCp, 9)) := by show takeR bs es (s1, s2) = _; unfold takeR getF; rw [hf]
    have HL : Hid (takeL bs es (s1, s2) = es) := by show takeL bs es (s1, s2) = _; unfold takeL; rw [hf]
    rw [hf] at HFU
    simp only [fullI, fullE] at HFU
    clear hf
    go_enter Tryd.func34, Tryd.ntmps34
    go_wp2_with fail
    refine (HFU.out _ (HO.out _ _)).mono ?_
    rintro e w2 ⟨rfl, hq⟩
    have hO2 := (HO.out (.cells #[.int .i64 s1, .int .i64 s2] 62) (.cells #[.int .i64 0, .int .i64 0, .int .i64 0, .int .u32 0, .int .u32 0, .int .i64 0, .int .i64 0, .int .u32 0] 66)).trans hq
    have hz := new_second hq
    have hrl : w.heap.size ≤ w.heap.size + 1 := by omega
    have HO2 := Vx.hid (⟨hO2, hrl⟩ : _ ∧ _)
    obtain ⟨⟨z0, z1, z2, z3, z4, z5, z6, z7⟩, zf⟩ := cap_cells hz
    obtain ⟨rc, hrc⟩ : ∃ rc, rc = w.heap.size + 1 := ⟨_, rfl⟩
    rw [← hrc] at z0 z1 z2 z3 z4 z5 z6 z7 zf HO2 ⊢
    clear hq hz HFU hO2 HO hrc hrl
    go_wp2_with fail
    refine bodyPost_ret (v := .tuple #[cpV zeroCp, .int .i64 9]) ?_ rfl ⟨by rw [HG.out], ?_⟩
    · simp [results, Tryd.results34, go_sem, cpV, zeroCp, z0, z1, z2, z3, z4, z5, z6, z7]
    · have h4 := HO2.out.1.newer (only_set8 w2 rc (.int .i64 0) (.int .i64 0) (.int .i64 0) (.int .u32 0) (.int .u32 0) (.int .i64 0) (.int .i64 0) (.int .u32 0)) HO2.out.2
      rw [HL.out]
      exact ⟨⟨_, _, HH.out.quiet h4⟩, h4.mono (fun _ _ h => h.elim)⟩
  · have HG : Hid (takeR bs es (s1, s2) = (zeroCp, 11)) := by show takeR bs es (s1, s2) = _; unfold takeR getF; rw [hf]
    have HL : Hid (takeL bs es (s1, s2) = es) := by show takeL bs es (s1, s2) = _; unfold takeL; rw [hf]
    rw [hf] at HFU
    simp only [fullI, fullE] at HFU
    clear hf
    go_enter Tryd.func34, Tryd.ntmps34
    go_wp2_with fail
    refine (HFU.out _ (HO.out _ _)).mono ?_
    rintro e w2 ⟨rfl, hq⟩
    have hO2 := (HO.out (.cells #[.int .i64 s1, .int .i64 s2] 62) (.cells #[.int .i64 0, .int .i64 0, .int .i64 0, .int .u32 0, .int .u32 0, .int .i64 0, .int .i64 0, .int .u32 0] 66)).trans hq
    have hz := new_second hq
    have hrl : w.heap.size ≤ w.heap.size + 1 := by omega
    have HO2 := Vx.hid (⟨hO2, hrl⟩ : _ ∧ _)
    obtain ⟨⟨z0, z1, z2, z3, z4, z5, z6, z7⟩, zf⟩ := cap_cells hz
    obtain ⟨rc, hrc⟩ : ∃ rc, rc = w.heap.size + 1 := ⟨_, rfl⟩
    rw [← hrc] at z0 z1 z2 z3 z4 z5 z6 z7 zf HO2 ⊢
    clear hq hz HFU hO2 HO hrc hrl
    go_wp2_with fail
    refine bodyPost_ret (v := .tuple #[cpV zeroCp, .int .i64 11]) ?_ rfl ⟨by rw [HG.out], ?_⟩
    · simp [results, Tryd.results34, go_sem, cpV, zeroCp, z0, z1, z2, z3, z4, z5, z6, z7]
    · have h4 := HO2.out.1.newer (only_set8 w2 rc (.int .i64 0) (.int .i64 0) (.int .i64 0) (.int .u32 0) (.int .u32 0) (.int .i64 0) (.int .i64 0) (.int .u32 0)) HO2.out.2
      rw [HL.out]
      exact ⟨⟨_, _, HH.out.quiet h4⟩, h4.mono (fun _ _ h => h.elim)⟩
end Go.Proofs.YtbmchgjilkoplaaDoor

/- Chapter 7, the document's store: Move. -/
namespace Go.Proofs.YtbmchgjilkoplaaDoor
open Go.ChangeShapes Go.WideShapes Go.ChangeAt Go.RowKit
open Go.Vx
set_option linter.unusedVariables false

def moveE (bs : List (Int × Int)) (es : List En) (s t : Sl) : Int := match fullF bs es s with | .error e => e | .ok _ => freeF bs es t
def moveL (bs : List (Int × Int)) (es : List En) (s t : Sl) : List En := match fullF bs es s with | .error _ => es | .ok i => if freeF bs es t = 0 then insF (cutL es i t) ⟨t, (es.getD i .df).cap, (es.getD i .df).from'⟩ else es
theorem cutL_len (es : List En) (i : Nat) (t : Sl) : (cutL es i t).length ≤ es.length := by
  unfold cutL
  rw [List.length_map]
  exact List.length_eraseIdx_le _ _
set_option maxRecDepth 100000 in
set_option maxHeartbeats 4000000 in
theorem move_ok {U : Nat → Prop} {w : World} {rb : Nat} {bs : List (Int × Int)} {es : List En} (hc : RcAt U w rb bs es) (s t : Sl) (hlen : es.length < 1000000) : Calls Tryd.prog 36 #[.pointer (some ⟨rb, 0, none⟩), .agg #[.int .i64 s.1, .int .i64 s.2], .agg #[.int .i64 t.1, .int .i64 t.2]] w fun e w' => e = .returned (.int .i64 (moveE bs es s t)) ∧ RcAt U w' rb bs (moveL bs es s t) ∧ Only (fun k => ¬ U k) w w' := by
  obtain ⟨vb, ve, h⟩ := hc
  obtain ⟨s1, s2⟩ := s
  obtain ⟨t1, t2⟩ := t
  have HFU : Hid (∀ wv, Only (fun _ => False) w wv → Calls Tryd.prog 62 #[.pointer (some ⟨rb, 0, none⟩), .agg #[.int .i64 s1, .int .i64 s2]] wv fun e w' => e = .returned (.tuple #[.int .i64 (fullI (fullF bs es (s1, s2))), .int .i64 (fullE (fullF bs es (s1, s2)))]) ∧ Only (fun _ => False) wv w') := fun wv hv => full_ok (h.quiet hv) (s1, s2)
  have HFR : Hid (∀ wv, Only (fun _ => False) w wv → Calls Tryd.prog 61 #[.pointer (some ⟨rb, 0, none⟩), .agg #[.int .i64 t1, .int .i64 t2]] wv fun e w' => e = .returned (.int .i64 (freeF bs es (t1, t2))) ∧ Only (fun _ => False) wv w') := fun wv hv => free_ok (h.quiet hv) (t1, t2)
  obtain ⟨w1, hw1⟩ : ∃ w1, w1 = (w.alloc (.cells #[.int .i64 s1, .int .i64 s2] 62)).alloc (.cells #[.int .i64 t1, .int .i64 t2] 62) := ⟨_, rfl⟩
  have HO1 : Hid (Only (fun _ => False) w w1) := by rw [hw1]; exact ((Only.refl _ w).alloc _).alloc _
  have bS : w1.heap[w.heap.size]? = some (.cells #[.int .i64 s1, .int .i64 s2] 62 (0, 0)) := by
    rw [hw1, Below.heap_alloc _ _ _ (by simp)]
    exact heap_alloc_last w _
  have bT : w1.heap[w.heap.size + 1]? = some (.cells #[.int .i64 t1, .int .i64 t2] 62 (0, 0)) := by rw [hw1]; exact new_second (Only.refl _ _)
  obtain ⟨sb, hsb⟩ : ∃ sb, sb = w.heap.size := ⟨_, rfl⟩
  obtain ⟨tb, htb⟩ : ∃ tb, tb = w.heap.size + 1 := ⟨_, rfl⟩
  rw [← htb] at bT
  rw [← hsb] at bS
  have HB := Vx.hid (⟨bS, bT, hsb, htb⟩ : _ ∧ _ ∧ _ ∧ _)
  obtain ⟨⟨S0, S1⟩, _⟩ := slot_cells bS
  obtain ⟨⟨T0, T1⟩, _⟩ := slot_cells bT
  have HH := Vx.hid h
  clear h bS bT
  dsimp only
  rcases full_cases bs es (s1, s2) with ⟨i, hf, hi⟩ | hf | hf
  · obtain ⟨hil, _⟩ := entF_at hi
    obtain ⟨x, hx⟩ : ∃ x, x = es[i] := ⟨_, rfl⟩
    have hgd : es.getD i .df = x := by rw [getD_at es i hil, hx]
    have HE : Hid (moveE bs es (s1, s2) (t1, t2) = freeF bs es (t1, t2)) := by show moveE _ _ _ _ = _; unfold moveE; rw [hf]
    have HL : Hid (moveL bs es (s1, s2) (t1, t2) = if freeF bs es (t1, t2) = 0 then insF (cutL es i (t1, t2)) ⟨(t1, t2), x.cap, x.from'⟩ else es) := by show moveL _ _ _ _ = _; unfold moveL; rw [hf]; dsimp only; rw [hgd]
    rw [hf] at HFU
    simp only [fullI, fullE] at HFU
    have HCT : Hid (∀ w2, Only (fun _ => False) w w2 → Calls Tryd.prog 65 #[.pointer (some ⟨rb, 0, none⟩), .int .i64 (i : Int), .agg #[.int .i64 t1, .int .i64 t2]] w2 fun e w' => e = .returned (.agg (enC x).toArray) ∧ RowKit.Hid (RcAt U w' rb bs (cutL es i (t1, t2)) ∧ Only (fun k => ¬ U k) w w' ∧ ∀ k, w.heap.size ≤ k → k < w2.heap.size → w'.heap[k]? = w2.heap[k]?)) := fun w2 ho => by
      have h3 := cut_in HH.out ho i hil (t1, t2)
      rw [← hx] at h3
      exact h3
    clear hf hi hgd hx
    by_cases hz : freeF bs es (t1, t2) = 0
    · rw [hz] at HFR HE HL
      rw [if_pos rfl] at HL
      obtain ⟨⟨xa1, xa2⟩, ⟨xc0, xc1, xc2, xc3, xc4, xc5, xc6, xc7⟩, ⟨xf1, xf2⟩⟩ := x
      dsimp only at HL
      have HC2 : Hid (∀ w2, Only (fun _ => False) w w2 → Calls Tryd.prog 65 #[.pointer (some ⟨rb, 0, none⟩), .int .i64 (i : Int), .agg #[.int .i64 t1, .int .i64 t2]] w2 fun e w' => e = .returned (.agg #[.int .i64 xa1, .int .i64 xa2, .int .i64 xc0, .int .i64 xc1, .int .i64 xc2, .int .u32 xc3, .int .u32 xc4, .int .i64 xc5, .int .i64 xc6, .int .u32 xc7, .int .i64 xf1, .int .i64 xf2]) ∧ RowKit.Hid (RcAt U w' rb bs (cutL es i (t1, t2)) ∧ Only (fun k => ¬ U k) w w' ∧ ∀ k, w.heap.size ≤ k → k < w2.heap.size → w'.heap[k]? = w2.heap[k]?)) := HCT.out
      have HLN : Hid ((cutL es i (t1, t2)).length < 1000000) := Nat.lt_of_le_of_lt (cutL_len _ _ _) hlen
      clear HCT hlen hz
      go_enter Tryd.func36, Tryd.ntmps36
      go_upto_region 1 with fail
      rw [← hw1, ← htb, ← hsb]
      clear hw1 htb hsb
      go_wp2_with fail
      refine (HFU.out _ HO1.out).mono ?_
      rintro e w2 ⟨rfl, h2⟩
      have H2 := Vx.hid (HO1.out.trans h2)
      obtain ⟨⟨T02, T12⟩, _⟩ := slot_cells ((h2.block tb (lt_of_some HB.out.2.1) (fun h => h)).trans HB.out.2.1)
      have H12 := Vx.hid h2
      clear h2 HFU
      go_wp2_with fail
      refine (HFR.out _ H2.out).mono ?_
      rintro e w3 ⟨rfl, h3⟩
      have h13 := H12.out.trans h3
      have H3 := Vx.hid (H2.out.trans h3)
      have bT3 := (h13.block tb (lt_of_some HB.out.2.1) (fun h => h)).trans HB.out.2.1
      obtain ⟨⟨T03, T13⟩, _⟩ := slot_cells bT3
      have HT3 := Vx.hid bT3
      clear h3 h13 T02 T12 bT3 HFR
      go_wp2_with fail
      refine (HC2.out _ H3.out).mono ?_
      rintro e w4 ⟨rfl, H4⟩
      have bT4 := (H4.out.2.2 tb (by have := HB.out.2.2; omega) (lt_of_some HT3.out)).trans HT3.out
      obtain ⟨⟨T04, T14⟩, _⟩ := slot_cells bT4
      have htl : tb < w4.heap.size := lt_of_some bT4
      clear T03 T13 bT4 HC2
      obtain ⟨vb4, ve4, hr4⟩ := H4.out.1
      have HIN := Vx.hid (fun w5 (ho : Only (fun _ => False) w4 w5) y => insert_in hr4 ho y HLN.out)
      have HA : Hid (∀ o, Only (fun _ => False) w4 (w4.alloc o)) := fun o => (Only.refl _ w4).alloc o
      clear hr4
      go_wp2_with fail
      refine (HIN.out _ (HA.out _) ⟨(t1, t2), ⟨xc0, xc1, xc2, xc3, xc4, xc5, xc6, xc7⟩, (xf1, xf2)⟩).mono ?_
      rintro e w6 ⟨rfl, H6⟩
      go_wp2_with fail
      all_goals
        go_ret
        exact ⟨by rw [HE.out]; rfl, by rw [HL.out]; exact H6.out.1, H4.out.2.1.trans H6.out.2.1⟩
    · rw [if_neg hz] at HL
      generalize freeF bs es (t1, t2) = fv at HFR HE hz
      have hfe : (fv == 0) = false := beq_eq_false_iff_ne.2 hz
      clear HCT
      go_enter Tryd.func36, Tryd.ntmps36
      go_upto_region 1 with fail
      rw [← hw1, ← htb, ← hsb]
      clear hw1 htb hsb
      go_wp2_with fail
      refine (HFU.out _ HO1.out).mono ?_
      rintro e w2 ⟨rfl, h2⟩
      have H2 := Vx.hid (HO1.out.trans h2)
      obtain ⟨⟨T02, T12⟩, _⟩ := slot_cells ((h2.block tb (lt_of_some HB.out.2.1) (fun h => h)).trans HB.out.2.1)
      have H12 := Vx.hid h2
      clear h2 HFU
      go_wp2_with fail
      refine (HFR.out _ H2.out).mono ?_
      rintro e w3 ⟨rfl, h3⟩
      have H3 := Vx.hid (H2.out.trans h3)
      clear h3
      go_wp2_with fail
      all_goals
        go_ret
        exact ⟨by rw [HE.out]; rfl, by rw [HL.out]; exact ⟨_, _, HH.out.quiet H3.out⟩, H3.out.mono (fun _ _ h => h.elim)⟩
  · have HE : Hid (moveE bs es (s1, s2) (t1, t2) = 9) := by show moveE _ _ _ _ = _; unfold moveE; rw [hf]
    have HL : Hid (moveL bs es (s1, s2) (t1, t2) = es) := by show moveL _ _ _ _ = _; unfold moveL; rw [hf]
    rw [hf] at HFU
    simp only [fullI, fullE] at HFU
    clear hf HFR
    go_enter Tryd.func36, Tryd.ntmps36
    go_upto_region 1 with fail
    rw [← hw1, ← htb, ← hsb]
    clear hw1 htb hsb
    go_wp2_with fail
    refine (HFU.out _ HO1.out).mono ?_
    rintro e w2 ⟨rfl, h2⟩
    have H2 := Vx.hid (HO1.out.trans h2)
    obtain ⟨⟨T02, T12⟩, _⟩ := slot_cells ((h2.block tb (lt_of_some HB.out.2.1) (fun h => h)).trans HB.out.2.1)
    have H12 := Vx.hid h2
    clear h2 HFU
    go_wp2_with fail
    all_goals
      go_ret
      exact ⟨by rw [HE.out]; rfl, by rw [HL.out]; exact ⟨_, _, HH.out.quiet H2.out⟩, H2.out.mono (fun _ _ h => h.elim)⟩
  · have HE : Hid (moveE bs es (s1, s2) (t1, t2) = 11) := by show moveE _ _ _ _ = _; unfold moveE; rw [hf]
    have HL : Hid (moveL bs es (s1, s2) (t1, t2) = es) := by show moveL _ _ _ _ = _; unfold moveL; rw [hf]
    rw [hf] at HFU
    simp only [fullI, fullE] at HFU
    clear hf HFR
    go_enter Tryd.func36, Tryd.ntmps36
    go_upto_region 1 with fail
    rw [← hw1, ← htb, ← hsb]
    clear hw1 htb hsb
    go_wp2_with fail
    refine (HFU.out _ HO1.out).mono ?_
    rintro e w2 ⟨rfl, h2⟩
    have H2 := Vx.hid (HO1.out.trans h2)
    obtain ⟨⟨T02, T12⟩, _⟩ := slot_cells ((h2.block tb (lt_of_some HB.out.2.1) (fun h => h)).trans HB.out.2.1)
    have H12 := Vx.hid h2
    clear h2 HFU
    go_wp2_with fail
    all_goals
      go_ret
      exact ⟨by rw [HE.out]; rfl, by rw [HL.out]; exact ⟨_, _, HH.out.quiet H2.out⟩, H2.out.mono (fun _ _ h => h.elim)⟩
end Go.Proofs.YtbmchgjilkoplaaDoor

import Derived.Test.YtgncabcnefhkiaaCs49
import Derived.Test.YtgncabcnefhkiaaCs51
import Derived.Test.YtgncabcnefhkiaaCs52
import Derived.Test.YtgncabcnefhkiaaCs53
/- SchedScripts: its walk. -/
namespace Go.Proofs.Ytgncabcnefhkiaa
open Go.ChangeShapes Go.WideShapes Go.ChangeAt Go.RowKit
open Go.Vx
set_option linter.unusedVariables false
variable {W : World} {xb rb zb bb G : Nat} {ts : List (Int × Int)} {wr w2 : World} {n : Nat}

def s0S (ts : List (Int × Int)) : SS := ⟨0, (ts.getD 0 (0, 0)).2, [], 0⟩
def szA : SS := sAdd (s0S ztS) 0 1 3
def szS : SS := sReady szA 0
theorem z_next : rNext ztS szS = 0 := by decide
theorem lent_at {w : World} (h : w.heap[G]? = some (.cells (fl slL (lentL ts (7, 999))).toArray 34 (0, 0))) : TuAt w (some ⟨G, 0, none⟩) ts := by
  refine Or.inr ⟨G, 0, rfl, fun j hj => ?_⟩
  have hl : j < (lentL ts (7, 999)).length := by unfold lentL; rw [List.length_append]; omega
  have := row_get h j hl
  have e : (lentL ts (7, 999))[j] = ts[j] := List.getElem_append_left (bs := [(7, 999), (0, 0)]) hj
  rw [e] at this
  rw [Nat.zero_add]
  exact this
theorem SlR.be {sz : SS} (h : SlR W xb rb zb bb ts sz n wr) : Below W.heap.size W wr := by
  obtain ⟨X, R, Z, B, s, cs, V, L, h, _⟩ := h
  exact h.be
theorem SlR.reads {sz : SS} (h : SlR W xb rb zb bb ts sz n wr) (hn : n ≤ 300000) :
    Calls Try.prog 13 #[.pointer (some ⟨bb, 0, none⟩)] wr fun e w' => e = .returned (.bool true) ∧ w' = wr := by
  obtain ⟨X, R, Z, B, s, cs, V, L, h, hL, _⟩ := h
  exact reads_okQ h.b (fun j hj => Nat.le_trans (hL j hj) (by omega))
theorem SlR.last (h : SlR W xb rb zb bb ts szS n wr) :
    Calls Try.prog 14 #[.pointer (some ⟨zb, 0, none⟩)] wr fun e w' => e = .returned (.int .i64 0) ∧ Hid (Below W.heap.size W w') := by
  obtain ⟨X, R, Z, B, s, cs, V, L, h, hL, _⟩ := h
  refine (cNext h.z).mono ?_
  rintro e w' ⟨rfl, _, ho⟩
  rw [z_next]
  exact ⟨rfl, h.be.trans (ho.below h.be.size (fun k hk h9 => h9 ⟨Nat.lt_of_lt_of_le hk h.be.size, fun h8 => by have := (h.dZ k h8).1; omega⟩))⟩
theorem SlR.start {w1 w2 w3 w4 wz w5 w6 w7 : World} (ho1 : Only (fun _ => False) W w1) (hx : XcS (fun k => k < w1.heap.size) w2 xb ts (s0S ts)) (ho2 : Only (fun _ => False) w1 w2) (hr : SdS (fun k => k < w2.heap.size) w3 rb ts (s0S ts)) (ho3 : Only (fun _ => False) w2 w3) (ho4 : Only (fun k => k = G) w3 w4) (hG1 : W.heap.size ≤ G) (hG2 : G < w1.heap.size)
    (hoz : Only (fun _ => False) w4 wz) (ho5 : Only (fun _ => False) wz w5) (ho6 : Only (fun k => ¬ k < wz.heap.size) w5 w6) (ho7 : Only (fun k => ¬ k < wz.heap.size) w6 w7) (hz : XcS (fun k => k < wz.heap.size) w7 zb ztS szS) :
    SlR W xb rb zb w7.heap.size ts szS 0 (w7.alloc (.cells #[.slice none 0 0, .slice none 0 0, .slice none 0 0, .slice none 0 0, .slice none 0 0, .slice none 0 0] 45)) := by
  have s1 := ho1.size
  have s2 := ho2.size
  have s3 := ho3.size
  have s4 := ho4.size
  have s5 := hoz.size
  have s6 := ho5.size
  have s7 := ho6.size
  have s8 := ho7.size
  obtain ⟨w8, hw8⟩ : ∃ w8, w8 = w7.alloc (.cells #[.slice none 0 0, .slice none 0 0, .slice none 0 0, .slice none 0 0, .slice none 0 0, .slice none 0 0] 45) := ⟨_, rfl⟩
  have ho8 : Only (fun _ => False) w7 w8 := by rw [hw8]; exact (Only.refl _ w7).alloc _
  have hb : w8.heap[w7.heap.size]? = some (.cells #[.slice none 0 0, .slice none 0 0, .slice none 0 0, .slice none 0 0, .slice none 0 0, .slice none 0 0] 45 (0, 0)) := by rw [hw8]; exact heap_alloc_last _ _
  have s9 : w8.heap.size = w7.heap.size + 1 := by rw [hw8]; simp
  rw [← hw8]
  have o48 : Only (fun k => wz.heap.size ≤ k) w4 w8 := ((((hoz.mono (fun _ _ h => h.elim)).trans (ho5.mono (fun _ _ h => h.elim))).trans (ho6.mono (fun k _ h => by omega))).trans (ho7.mono (fun k _ h => by omega))).trans (ho8.mono (fun _ _ h => h.elim))
  have o38 : Only (fun k => k = G ∨ wz.heap.size ≤ k) w3 w8 := (ho4.mono (fun _ _ h => Or.inl h)).trans (o48.mono (fun _ _ h => Or.inr h))
  have o28 : Only (fun k => k = G ∨ wz.heap.size ≤ k) w2 w8 := (ho3.mono (fun _ _ h => h.elim)).trans o38
  have o08 : Only (fun k => k = G ∨ wz.heap.size ≤ k) W w8 := ((ho1.mono (fun _ _ h => h.elim)).trans (ho2.mono (fun _ _ h => h.elim))).trans o28
  refine ⟨fun k => w1.heap.size ≤ k ∧ k < w2.heap.size, fun k => w2.heap.size ≤ k ∧ k < w3.heap.size, fun k => wz.heap.size ≤ k ∧ k < w7.heap.size, fun _ => False, s0S ts, _, _, _, ⟨?_, ?_, ?_, Bk6.nil hb (fun j hj => by rcases (by omega : j = 0 ∨ j = 1 ∨ j = 2 ∨ j = 3 ∨ j = 4 ∨ j = 5) with rfl | rfl | rfl | rfl | rfl | rfl <;> rfl), ?_, ?_, ?_, ?_, ?_, ?_⟩, fun j hj => Nat.le_refl _, Nat.le_refl _, Nat.le_refl _⟩
  · refine hx.step o28 (fun k h1 h2 => ?_) (fun k h1 => ?_)
    · show k < w1.heap.size
      rcases h2 with h2 | h2
      · rw [h2]; exact hG2
      · omega
    · by_cases h2 : k < w1.heap.size
      · exact Or.inl h2
      · have h3 := h1.2
        exact Or.inr ⟨by omega, h1.1⟩
  · refine hr.step o38 (fun k h1 h2 => ?_) (fun k h1 => ?_)
    · show k < w2.heap.size
      rcases h2 with h2 | h2
      · rw [h2]; omega
      · omega
    · by_cases h2 : k < w2.heap.size
      · exact Or.inl h2
      · have h3 := h1.2
        exact Or.inr ⟨by omega, h1.1⟩
  · refine hz.step ho8 (fun _ _ h => h.elim) (fun k h1 => ?_)
    by_cases h2 : k < wz.heap.size
    · exact Or.inl h2
    · have h3 := h1.2
      exact Or.inr ⟨by omega, h1.1⟩
  · intro k hk
    exact ⟨by omega, by omega, by omega, by omega, fun h => h, by omega⟩
  · intro k hk
    exact ⟨by omega, by omega, by omega, fun h => h, by omega⟩
  · intro k hk
    exact ⟨by omega, by omega, fun h => h, by omega⟩
  · intro k hk
    exact hk.elim
  · omega
  · exact o08.below (Nat.le_refl _) (fun k hk h => by omega)
set_option maxRecDepth 100000 in
set_option maxHeartbeats 8000000 in
theorem schedScripts_call (W : World) (ta : Option Addr) (tl tc : Nat) (htl : tl = ts.length) (htc : tl ≤ tc) (htm : tc ≤ maxLen) (htb : tl ≤ 10000000000000) (hT : TuAt W ta ts) (pa : Option Addr) (len cap : Nat) (zs : List Stp) (hlen : zs.length = len) (hlc : len ≤ cap) (hcm : cap ≤ maxLen) (hp : ScAt W pa zs) (hz : ∀ z ∈ zs, z.ok) :
    Calls Try.prog 3 #[.slice ta tl tc, .slice pa len cap] W fun e w' => e = .returned (.bool true) ∧ Below W.heap.size W w' := by
  have HP := Vx.hid hp
  have HZ := Vx.hid hz
  have HL := Vx.hid hlen
  have hlm : (len : Int) ≤ 9223372036854775807 := by simp [maxLen] at hcm; omega
  have HLE := Vx.hid (lent_ok W ta tl tc htl htb hT)
  have HTT := Vx.hid hT
  have HTL : Hid (tl = ts.length ∧ tl ≤ tc ∧ tc ≤ maxLen ∧ tl ≤ 10000000000000) := ⟨htl, htc, htm, htb⟩
  have HZA : Hid (∀ (U : Nat → Prop) wv zb, XcS U wv zb ztS (s0S ztS) → Calls Try.prog 10 #[.pointer (some ⟨zb, 0, none⟩), .int .i64 0, .int .i64 1, .int .i64 3] wv fun e w' => (∃ r, e = .returned (.int .i64 r)) ∧ Hid (XcS U w' zb ztS szA ∧ Only (fun k => ¬ U k) wv w')) := fun U wv zb h => by
    refine (cAdd h (by decide) 0 1 3 (by unfold I64; omega)).mono ?_
    rintro e w' ⟨rfl, h1, h2⟩
    exact ⟨⟨_, rfl⟩, h1, h2⟩
  have HZR : Hid (∀ (U : Nat → Prop) wv zb, XcS U wv zb ztS szA → Calls Try.prog 11 #[.pointer (some ⟨zb, 0, none⟩), .int .i64 0] wv fun e w' => (∃ r, e = .returned (.int .i64 r)) ∧ Hid (XcS U w' zb ztS szS ∧ Only (fun k => ¬ U k) wv w')) := fun U wv zb h => by
    refine (cReady h 0 (by unfold I64; omega)).mono ?_
    rintro e w' ⟨rfl, h1, h2⟩
    exact ⟨⟨_, rfl⟩, h1, h2⟩
  have HZN : Hid (∀ wv : World, Calls Try.prog 7 #[.slice (some ⟨wv.heap.size, 0, none⟩) 1 1] (wv.alloc (.cells #[.int .i64 1, .int .i64 1] 34)) fun e w' => ∃ zb, e = .returned (.tuple #[.pointer (some ⟨zb, 0, none⟩), .int .i64 0]) ∧ Hid (XcS (fun k => k < (wv.alloc (.cells #[.int .i64 1, .int .i64 1] 34)).heap.size) w' zb ztS (s0S ztS) ∧ Only (fun _ => False) (wv.alloc (.cells #[.int .i64 1, .int .i64 1] 34)) w')) := fun wv => by
    have hz1 : (wv.alloc (.cells #[.int .i64 1, .int .i64 1] 34)).heap[wv.heap.size]? = some (.cells #[.int .i64 1, .int .i64 1] 34 (0, 0)) := heap_alloc_last wv _
    have hT1 : TuAt (wv.alloc (.cells #[.int .i64 1, .int .i64 1] 34)) (some ⟨wv.heap.size, 0, none⟩) ztS := Or.inr ⟨wv.heap.size, 0, rfl, fun j hj => by
      have hj0 : j = 0 := by
        have : ztS.length = 1 := rfl
        omega
      subst hj0
      exact ⟨(cell_of_row _ _ 0 _ _ (0, 0) hz1).trans rfl, (cell_of_row _ _ 1 _ _ (0, 0) hz1).trans rfl⟩⟩
    refine (xnew_good _ (some ⟨wv.heap.size, 0, none⟩) 1 1 rfl hT1 (by decide)).mono ?_
    rintro e w' ⟨(⟨h9, _⟩ | ⟨_, zb, rfl, _, hx⟩), ho⟩
    · exact absurd h9 (by decide)
    · exact ⟨zb, rfl, hx, ho⟩
  clear hp hz hlen hlc hcm hT htl htc htm htb
  go_enter Try.func3, Try.ntmps3
  go_wp2_with fail
  refine HLE.out.mono ?_
  rintro e w1 ⟨G, rfl, hG1, hGb, ho1⟩
  have HG : Hid (W.heap.size ≤ G ∧ w1.heap[G]? = some (.cells (fl slL (lentL ts (7, 999))).toArray 34 (0, 0)) ∧ Only (fun _ => False) W w1) := ⟨hG1, hGb, ho1⟩
  have HXN := Vx.hid (xnew_ok w1 (some ⟨G, 0, none⟩) tl (tl + 2) HTL.out.1 (by omega) (by have := HTL.out.2.2.2; unfold maxLen; omega) (lent_at hGb))
  clear hG1 hGb ho1 HLE
  go_wp2_with fail
  refine HXN.out.mono ?_
  rintro e w2 ⟨hcase, ho2⟩
  have HO2 := Vx.hid ho2
  have HRN := Vx.hid (newS_ok w2 ta tl tc HTL.out.1 HTL.out.2.1 HTL.out.2.2.1 ((HTT.out.quiet HG.out.2.2).quiet ho2))
  have HGL : Hid (G < w1.heap.size) := lt_of_some HG.out.2.1
  have HSTL : Hid (∀ w3, Only (fun _ => False) w2 w3 → Calls Try.prog 9 #[.slice (some ⟨G, 0, none⟩) tl (tl + 2), .slice ta tl tc] w3 fun e w' => e = .returned (.bool true) ∧ Only (fun k => k = G) w3 w') := fun w3 ho3 => by
    refine still_ok w3 ta tl tc HTL.out.1 HTL.out.2.2.2 (((HTT.out.quiet HG.out.2.2).quiet HO2.out).quiet ho3) (Only.keep (HO2.out.trans ho3) HG.out.2.1 (fun h => h)) (fun ab ao h1 h0 h2 => ?_)
    rcases HTT.out with h9 | ⟨ab2, ao2, h8, h9⟩
    · rw [h9] at h0; cases h0
    · rw [h8] at h1
      injection h1 with h1
      injection h1 with h1 _
      have := cell_lt (h9 0 h0).1
      have := HG.out.1
      omega
  clear ho2 HXN
  rcases hcase with ⟨hbad, rfl⟩ | ⟨hgood, xb, rfl, _, hx⟩
  · have HBAD := Vx.hid hbad
    clear hbad
    go_wp2_with fail
    refine HRN.out.mono ?_
    rintro e w3 ⟨(⟨_, rfl⟩ | ⟨h9, _⟩), ho3⟩
    · have HO3 := Vx.hid ho3
      have HS3 := Vx.hid (HSTL.out w3 ho3)
      clear ho3
      go_wp2_with fail
      refine HS3.out.mono ?_
      rintro e w4 ⟨rfl, ho4⟩
      have HO4 := Vx.hid ho4
      clear ho4 HS3
      go_wp2_with fail
      refine (HZN.out w4).mono ?_
      rintro e w5 ⟨zb, rfl, H5⟩
      go_wp2_with fail
      refine (HZA.out _ _ _ H5.out.1).mono ?_
      rintro e w6 ⟨⟨r6, rfl⟩, H6⟩
      go_wp2_with fail
      refine (HZR.out _ _ _ H6.out.1).mono ?_
      rintro e w7 ⟨⟨r7, rfl⟩, H7⟩
      go_wp2_with fail
      all_goals
        go_ret
        refine ⟨by try rfl, ?_⟩
        have a1 := HG.out.2.2.below (Nat.le_refl _) (fun _ _ h => h)
        have s1 := HG.out.2.2.size
        have s2 := HO2.out.size
        have s3 := HO3.out.size
        have s4 := HO4.out.size
        have oz : Only (fun _ => False) w4 (w4.alloc (.cells #[.int .i64 1, .int .i64 1] 34)) := (Only.refl _ w4).alloc _
        have s5 := oz.size
        have s6 := H5.out.2.size
        have s7 := H6.out.2.size
        have hG := HG.out.1
        exact ((((((a1.trans (HO2.out.below s1 (fun _ _ h => h))).trans (HO3.out.below (by omega) (fun _ _ h => h))).trans (HO4.out.below (by omega) (fun k hk h => by omega))).trans (oz.below (by omega) (fun _ _ h => h))).trans (H5.out.2.below (by omega) (fun _ _ h => h))).trans (H6.out.2.below (by omega) (fun k hk h => h (by omega)))).trans (H7.out.2.below (by omega) (fun k hk h => h (by omega)))
    · exfalso
      rw [HBAD.out] at h9
      cases h9
  · have HGOOD := Vx.hid hgood
    have HX2 : Hid (XcS (fun k => k < w1.heap.size) w2 xb ts (s0S ts)) := hx
    clear hgood hx
    go_wp2_with fail
    refine HRN.out.mono ?_
    rintro e w3 ⟨(⟨h9, _⟩ | ⟨_, _, _, _, rb, rfl, _, hr⟩), ho3⟩
    · exfalso
      rw [HGOOD.out] at h9
      cases h9
    · have HO3 := Vx.hid ho3
      have HR3 : Hid (SdS (fun k => k < w2.heap.size) w3 rb ts (s0S ts)) := hr
      have HS3 := Vx.hid (HSTL.out w3 ho3)
      clear ho3 hr
      go_wp2_with fail
      refine HS3.out.mono ?_
      rintro e w4 ⟨rfl, ho4⟩
      have HO4 := Vx.hid ho4
      clear ho4 HS3
      go_wp2_with fail
      refine (HZN.out w4).mono ?_
      rintro e w5 ⟨zb, rfl, H5⟩
      go_wp2_with fail
      refine (HZA.out _ _ _ H5.out.1).mono ?_
      rintro e w6 ⟨⟨r6, rfl⟩, H6⟩
      go_wp2_with fail
      refine (HZR.out _ _ _ H6.out.1).mono ?_
      rintro e w7 ⟨⟨r7, rfl⟩, H7⟩
      have H0 := Vx.hid (SlR.start HG.out.2.2 HX2.out HO2.out HR3.out HO3.out HO4.out HG.out.1 HGL.out ((Only.refl (fun _ => False) w4).alloc (.cells #[.int .i64 1, .int .i64 1] 34)) H5.out.2 H6.out.2 H7.out.2 H7.out.1)
      clear HX2 HR3 HO3 HO4 H5 H6 H7 HZN HZA HZR HSTL HRN HO2 HG HGL HTT HTL HGOOD
      go_wp2_with fail
      obtain ⟨bb, hbb⟩ : ∃ bb, bb = w7.heap.size := ⟨_, rfl⟩
      obtain ⟨w8, hw8⟩ : ∃ w8, w8 = w7.alloc (.cells #[.slice none 0 0, .slice none 0 0, .slice none 0 0, .slice none 0 0, .slice none 0 0, .slice none 0 0] 45) := ⟨_, rfl⟩
      rw [← hw8, ← hbb] at H0 ⊢
      clear hw8 hbb
      go_loopw [10, 13] (fun _ d wr => ∃ k : Nat, d = .int .i64 (k : Int) ∧ k ≤ len ∧ k ≤ 262144 ∧ Hid (SlR W xb rb zb bb ts szS k wr)) (fun _ d _ => len - (RowKit.intOf d).toNat)
      case atStart => exact ⟨0, rfl, by omega, by omega, H0⟩
      case round =>
        obtain ⟨k, rfl, hk, hk2, HR⟩ := hrel
        by_cases hlt : k < len ∧ k < 262144
        · have h1 : (k : Int) < (len : Int) := by omega
          have h2 : (k : Int) < 262144 := by omega
          have hidx : 0 ≤ (k : Int) ∧ (k : Int) < (len : Int) := by omega
          have hkz : k < zs.length := by have := HL.out; omega
          obtain ⟨ab, ao, rfl, hcz⟩ : ∃ ab ao, pa = some ⟨ab, ao, none⟩ ∧ ∀ (j : Nat) (h : j < zs.length), W.cell? ⟨ab, ao + j * 6, none⟩ = some (.int .i64 (zs[j]).k) ∧ W.cell? ⟨ab, ao + j * 6 + 1, none⟩ = some (.int .i64 (zs[j]).a) ∧ W.cell? ⟨ab, ao + j * 6 + 2, none⟩ = some (.int .i64 (zs[j]).b) ∧ W.cell? ⟨ab, ao + j * 6 + 3, none⟩ = some (.int .i64 (zs[j]).c) ∧ W.cell? ⟨ab, ao + j * 6 + 4, none⟩ = some (.int .i64 (zs[j]).d) ∧ W.cell? ⟨ab, ao + j * 6 + 5, none⟩ = some (.string ⟨(zs[j]).s.toArray⟩) := by
            rcases HP.out with h | h
            · rw [h] at hkz; simp at hkz
            · exact h
          obtain ⟨hc0, hc1, hc2, hc3, hc4, hc5⟩ := hcz k hkz
          have hab : ab < W.heap.size := World.block_lt_of_cell? W _ hc0
          have hcc : ∀ o, wr.cell? ⟨ab, o, none⟩ = W.cell? ⟨ab, o, none⟩ := fun o => HR.out.be.cell (p := ⟨ab, o, none⟩) hab
          obtain ⟨z, hzk⟩ : ∃ z, zs[k] = z := ⟨_, rfl⟩
          have HOK := Vx.hid (HZ.out zs[k] (List.getElem_mem _))
          rw [hzk] at hc0 hc1 hc2 hc3 hc4 hc5 HOK
          rw [← hcc] at hc0 hc1 hc2 hc3 hc4 hc5
          have hw9 : IntKind.i64.wrap ((k : Int) + 1) = (k : Int) + 1 := by rw [IntKind.wrap_i64]; omega
          clear hcz hcc hzk hlt hab
          obtain ⟨K, A, B, C, D, s⟩ := z
          simp only at hc0 hc1 hc2 hc3 hc4 hc5
          have HLA := Vx.hid (HR.out.turned (by omega) K A B C D HOK.out.2.1 HOK.out.2.2.1 HOK.out.2.2.2.1 ⟨s.toArray⟩)
          go_wp2_with fail
          refine HLA.out.mono ?_
          rintro e w9 ⟨rfl, h7⟩
          have HR7 := Vx.hid h7
          clear h7 hc0 hc1 hc2 hc3 hc4 hc5
          go_wp2_with fail
          go_roundw
          case rel => exact ⟨k + 1, by go_num, by omega, by omega, HR7⟩
          case measure => simp only [RowKit.intOf]; omega
        · by_cases h3 : k < len
          · have h4 : ¬ (k : Int) < 262144 := by omega
            have h5 : (k : Int) < (len : Int) := by omega
            clear hlt h3
            go_wp2_with fail
            go_loopw [10, 14, 15] (fun _ i _ wr => ∃ d : Nat, i = .int .i64 (d : Int) ∧ d ≤ 8 ∧ Hid (SlR W xb rb zb bb ts szS (k + 8 * d) wr)) (fun _ i _ _ => 8 - (RowKit.intOf i).toNat)
            case atStart => exact ⟨0, rfl, by omega, HR⟩
            case round =>
              obtain ⟨d, rfl, hd, HD⟩ := hrel
              by_cases hd8 : d < 8
              · have g1 : (d : Int) < 8 := by omega
                have gw : IntKind.i64.wrap ((d : Int) + 1) = (d : Int) + 1 := by rw [IntKind.wrap_i64]; omega
                go_wp2_with fail
                go_loopw [10, 15] (fun _ i wr => ∃ p : Nat, i = .int .i64 (p : Int) ∧ p ≤ 8 ∧ Hid (SlR W xb rb zb bb ts szS (k + 8 * d + p) wr)) (fun _ i _ => 8 - (RowKit.intOf i).toNat)
                case atStart => exact ⟨0, rfl, by omega, HD⟩
                case round =>
                  obtain ⟨p, rfl, hp, HQ⟩ := hrel
                  by_cases hp8 : p < 8
                  · have g2 : (p : Int) < 8 := by omega
                    have gw2 : IntKind.i64.wrap ((p : Int) + 1) = (p : Int) + 1 := by rw [IntKind.wrap_i64]; omega
                    have HLA := Vx.hid (HQ.out.turned (by omega) 9 ((d : Int) + 1) ((p : Int) + 1) 0 0 (by unfold I64; omega) (by unfold I64; omega) (by unfold I64; omega) ⟨#[]⟩)
                    go_wp2_with fail
                    refine HLA.out.mono ?_
                    rintro e w9 ⟨rfl, h7⟩
                    have HR7 := Vx.hid h7
                    clear h7
                    go_wp2_with fail
                    go_roundw
                    case rel => exact ⟨p + 1, by go_num, by omega, HR7⟩
                    case measure => simp only [RowKit.intOf]; omega
                  · obtain rfl : p = 8 := by omega
                    have g2 : ¬ ((8 : Nat) : Int) < 8 := by decide
                    have HR7 : Hid (SlR W xb rb zb bb ts szS (k + 8 * (d + 1)) wr) := by
                      have e9 : k + 8 * (d + 1) = k + 8 * d + 8 := by omega
                      rw [e9]
                      exact HQ.out
                    clear hp8 hp
                    go_wp2_with fail
                    go_roundw
                    case rel => exact ⟨d + 1, by go_num, by omega, HR7⟩
                    case measure => simp only [RowKit.intOf]; omega
              · obtain rfl : d = 8 := by omega
                have g1 : ¬ ((8 : Nat) : Int) < 8 := by decide
                have HRD := Vx.hid (HD.out.reads (by omega))
                have HMK := Vx.hid HD.out.last
                clear hd8 hd
                go_wp2_with fail
                refine HRD.out.mono ?_
                rintro e w' ⟨rfl, h⟩
                have h2' := h.symm; clear h; subst h2'
                go_wp2_with fail
                refine HMK.out.mono ?_
                rintro e w9 ⟨rfl, HBE⟩
                go_wp2_with fail
                all_goals
                  go_ret
                  exact ⟨by try rfl, HBE.out⟩
          · have h5 : ¬ (k : Int) < (len : Int) := by omega
            clear hlt h3
            go_wp2_with fail
            go_loopw [10, 14, 15] (fun _ i _ wr => ∃ d : Nat, i = .int .i64 (d : Int) ∧ d ≤ 8 ∧ Hid (SlR W xb rb zb bb ts szS (k + 8 * d) wr)) (fun _ i _ _ => 8 - (RowKit.intOf i).toNat)
            case atStart => exact ⟨0, rfl, by omega, HR⟩
            case round =>
              obtain ⟨d, rfl, hd, HD⟩ := hrel
              by_cases hd8 : d < 8
              · have g1 : (d : Int) < 8 := by omega
                have gw : IntKind.i64.wrap ((d : Int) + 1) = (d : Int) + 1 := by rw [IntKind.wrap_i64]; omega
                go_wp2_with fail
                go_loopw [10, 15] (fun _ i wr => ∃ p : Nat, i = .int .i64 (p : Int) ∧ p ≤ 8 ∧ Hid (SlR W xb rb zb bb ts szS (k + 8 * d + p) wr)) (fun _ i _ => 8 - (RowKit.intOf i).toNat)
                case atStart => exact ⟨0, rfl, by omega, HD⟩
                case round =>
                  obtain ⟨p, rfl, hp, HQ⟩ := hrel
                  by_cases hp8 : p < 8
                  · have g2 : (p : Int) < 8 := by omega
                    have gw2 : IntKind.i64.wrap ((p : Int) + 1) = (p : Int) + 1 := by rw [IntKind.wrap_i64]; omega
                    have HLA := Vx.hid (HQ.out.turned (by omega) 9 ((d : Int) + 1) ((p : Int) + 1) 0 0 (by unfold I64; omega) (by unfold I64; omega) (by unfold I64; omega) ⟨#[]⟩)
                    go_wp2_with fail
                    refine HLA.out.mono ?_
                    rintro e w9 ⟨rfl, h7⟩
                    have HR7 := Vx.hid h7
                    clear h7
                    go_wp2_with fail
                    go_roundw
                    case rel => exact ⟨p + 1, by go_num, by omega, HR7⟩
                    case measure => simp only [RowKit.intOf]; omega
                  · obtain rfl : p = 8 := by omega
                    have g2 : ¬ ((8 : Nat) : Int) < 8 := by decide
                    have HR7 : Hid (SlR W xb rb zb bb ts szS (k + 8 * (d + 1)) wr) := by
                      have e9 : k + 8 * (d + 1) = k + 8 * d + 8 := by omega
                      rw [e9]
                      exact HQ.out
                    clear hp8 hp
                    go_wp2_with fail
                    go_roundw
                    case rel => exact ⟨d + 1, by go_num, by omega, HR7⟩
                    case measure => simp only [RowKit.intOf]; omega
              · obtain rfl : d = 8 := by omega
                have g1 : ¬ ((8 : Nat) : Int) < 8 := by decide
                have HRD := Vx.hid (HD.out.reads (by omega))
                have HMK := Vx.hid HD.out.last
                clear hd8 hd
                go_wp2_with fail
                refine HRD.out.mono ?_
                rintro e w' ⟨rfl, h⟩
                have h2' := h.symm; clear h; subst h2'
                go_wp2_with fail
                refine HMK.out.mono ?_
                rintro e w9 ⟨rfl, HBE⟩
                go_wp2_with fail
                all_goals
                  go_ret
                  exact ⟨by try rfl, HBE.out⟩
end Go.Proofs.Ytgncabcnefhkiaa

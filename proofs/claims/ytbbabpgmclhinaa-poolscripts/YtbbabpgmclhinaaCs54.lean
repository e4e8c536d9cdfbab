import Derived.Test.YtbbabpgmclhinaaCs51
import Derived.Test.YtbbabpgmclhinaaCs52
import Derived.Test.YtbbabpgmclhinaaCs53
/- PoolScripts: its walk. -/
namespace Go.Proofs.Ytbbabpgmclhinaa
open Go.ChangeShapes Go.WideShapes Go.ChangeAt Go.RowKit
open Go.Vx
set_option linter.unusedVariables false
variable {W : World} {xb rb zb bb : Nat} {P : Int} {wr w2 : World} {n : Nat}

abbrev ozP : List (Int × Int) := [(7, 2)]
abbrev rzP : List (Int × Int) := [(2, 1)]
theorem z_add : addE 5 [] [] (1, 2) = 0 ∧ addO 5 [] [] (1, 2) = [] ∧ addG 5 [] [] (1, 2) = [(2, 0)] := by decide
theorem z_give : giveE [] [(2, 0)] 2 7 0 1 = 0 ∧ giveRs [] [(2, 0)] 2 7 0 1 = [2] ∧ giveRO [] [(2, 0)] 2 7 0 1 = ozP ∧ giveRG [] [(2, 0)] 2 7 0 1 = rzP := by decide
theorem z_mark : markR rzP 2 = (1, 0) := by decide
theorem PlR.be {oz rz : List (Int × Int)} (h : PlR W xb rb zb bb P oz rz n wr) : Below W.heap.size W wr := by
  obtain ⟨X, R, Z, B, bs, es, cs, V, L, h, _⟩ := h
  exact h.be
theorem PlR.objects {oz rz : List (Int × Int)} (h : PlR W xb rb zb bb P oz rz n wr) (hn : n ≤ 1000000) :
    Calls Try.prog 11 #[.pointer (some ⟨xb, 0, none⟩), .pointer (some ⟨rb, 0, none⟩), .pointer (some ⟨bb, 0, none⟩)] wr fun e w' => e = .returned (.bool true) ∧ PlR W xb rb zb bb P oz rz (n + 2) w' := by
  obtain ⟨X, R, Z, B, bs, es, cs, V, L, h, hL⟩ := h
  exact (objects_ok (F := []) ⟨X, R, h, fun p hp => by cases hp⟩ hL hn).mono (fun _ _ h => ⟨h.1, h.2.fin⟩)
theorem PlR.reads {oz rz : List (Int × Int)} (h : PlR W xb rb zb bb P oz rz n wr) (hn : n ≤ 1000000) :
    Calls Try.prog 12 #[.pointer (some ⟨bb, 0, none⟩)] wr fun e w' => e = .returned (.bool true) ∧ w' = wr := by
  obtain ⟨X, R, Z, B, bs, es, cs, V, L, h, hL⟩ := h
  exact reads_okQ h.b (fun j hj => Nat.le_trans (hL j hj) hn)
theorem PlR.mark (h : PlR W xb rb zb bb P ozP rzP n wr) :
    Calls Try.prog 13 #[.pointer (some ⟨zb, 0, none⟩), .int .i64 2] wr fun e w' => e = .returned (.tuple #[.int .i64 1, .int .i64 0]) ∧ Hid (Below W.heap.size W w') := by
  obtain ⟨X, R, Z, B, bs, es, cs, V, L, h, hL⟩ := h
  refine (xpmark_ok h.z 2 (by unfold I64; omega)).mono ?_
  rintro e w' ⟨rfl, ho⟩
  rw [z_mark]
  exact ⟨rfl, h.be.trans (ho.below h.be.size (fun _ _ h => h))⟩
theorem PlR.start {w1 w3 w4 w5 : World} {l : Value} (hx : XpAt (fun k => k < W.heap.size) w1 xb P [] []) (ho1 : Only (fun _ => False) W w1) (hr : PcAt (fun k => k < w1.heap.size) w2 rb P [] []) (ho2 : Only (fun _ => False) w1 w2)
    (ho3 : Only (fun _ => False) w2 w3) (ho4 : Only (fun k => ¬ k < w2.heap.size) w3 w4) (ho5 : Only (fun k => ¬ k < w2.heap.size) w4 w5) (hz : XpAt (fun k => k < w2.heap.size ∨ l.ownBlock = some k) w5 zb 5 ozP rzP) :
    PlR W xb rb zb w5.heap.size P ozP rzP 0 (w5.alloc (.cells #[.slice none 0 0, .slice none 0 0, .slice none 0 0, .slice none 0 0, .slice none 0 0, .slice none 0 0] 45)) := by
  have s1 := ho1.size
  have s2 := ho2.size
  have s3 := ho3.size
  have s4 := ho4.size
  have s5 := ho5.size
  obtain ⟨w6, hw6⟩ : ∃ w6, w6 = w5.alloc (.cells #[.slice none 0 0, .slice none 0 0, .slice none 0 0, .slice none 0 0, .slice none 0 0, .slice none 0 0] 45) := ⟨_, rfl⟩
  have ho6 : Only (fun _ => False) w5 w6 := by rw [hw6]; exact (Only.refl _ w5).alloc _
  have hb : w6.heap[w5.heap.size]? = some (.cells #[.slice none 0 0, .slice none 0 0, .slice none 0 0, .slice none 0 0, .slice none 0 0, .slice none 0 0] 45 (0, 0)) := by rw [hw6]; exact heap_alloc_last _ _
  have s6 : w6.heap.size = w5.heap.size + 1 := by rw [hw6]; simp
  rw [← hw6]
  have o26 : Only (fun k => w2.heap.size ≤ k) w2 w6 := (((ho3.mono (fun _ _ h => h.elim)).trans (ho4.mono (fun k _ h => by omega))).trans (ho5.mono (fun k _ h => by omega))).trans (ho6.mono (fun _ _ h => h.elim))
  have o16 : Only (fun k => w2.heap.size ≤ k) w1 w6 := (ho2.mono (fun _ _ h => h.elim)).trans o26
  have o06 : Only (fun k => w2.heap.size ≤ k) W w6 := (ho1.mono (fun _ _ h => h.elim)).trans o16
  refine ⟨fun k => W.heap.size ≤ k ∧ k < w1.heap.size, fun k => w1.heap.size ≤ k ∧ k < w2.heap.size, fun k => w2.heap.size ≤ k ∧ k < w5.heap.size, fun _ => False, [], [], _, _, _, ⟨?_, ?_, ?_, Bk6.nil hb (fun j hj => by rcases (by omega : j = 0 ∨ j = 1 ∨ j = 2 ∨ j = 3 ∨ j = 4 ∨ j = 5) with rfl | rfl | rfl | rfl | rfl | rfl <;> rfl), ?_, ?_, ?_, ?_, ?_, ?_⟩, fun j hj => Nat.le_refl _⟩
  · refine hx.step o16 (fun k h1 h2 => by omega) (fun k h1 => ?_)
    by_cases h2 : k < W.heap.size
    · exact Or.inl h2
    · have h3 := h1.2
      exact Or.inr ⟨by omega, h1.1⟩
  · refine hr.step o26 (fun k h1 h2 => by omega) (fun k h1 => ?_)
    by_cases h2 : k < w1.heap.size
    · exact Or.inl h2
    · have h3 := h1.2
      exact Or.inr ⟨by omega, h1.1⟩
  · refine hz.step ho6 (fun _ _ h => h.elim) (fun k h1 => ?_)
    by_cases h2 : k < w2.heap.size
    · exact Or.inl (Or.inl h2)
    · have h3 := h1.2
      exact Or.inr ⟨by omega, h1.1⟩
  · intro k hk
    exact ⟨hk.1, by omega, by omega, by omega, fun h => h, by omega⟩
  · intro k hk
    exact ⟨by omega, by omega, by omega, fun h => h, by omega⟩
  · intro k hk
    exact ⟨by omega, by omega, fun h => h, by omega⟩
  · intro k hk
    exact hk.elim
  · omega
  · exact o06.below (Nat.le_refl _) (fun k hk h => by omega)
set_option maxRecDepth 100000 in
set_option maxHeartbeats 4000000 in
theorem poolScripts_call (W : World) (pages : Int) (ip : I64 pages) (pa : Option Addr) (len cap : Nat) (zs : List Stp) (hlen : zs.length = len) (hlc : len ≤ cap) (hcm : cap ≤ maxLen) (hp : ScAt W pa zs) (hz : ∀ z ∈ zs, z.ok) :
    Calls Try.prog 3 #[.int .i64 pages, .slice pa len cap] W fun e w' => e = .returned (.bool true) ∧ Below W.heap.size W w' := by
  have HP := Vx.hid hp
  have HZ := Vx.hid hz
  have HL := Vx.hid hlen
  have hlm : (len : Int) ≤ 9223372036854775807 := by simp [maxLen] at hcm; omega
  have HNE := Vx.hid (fun wv => near_any pages ip 257 (by decide) wv)
  generalize nearF pages 257 = np at HNE
  clear hp hz hlen hlc hcm ip
  have HZA : Hid (∀ (U : Nat → Prop) wv zb, XpAt U wv zb 5 [] [] → Calls Try.prog 8 #[.pointer (some ⟨zb, 0, none⟩), .agg #[.int .i64 1, .int .i64 2]] wv fun e w' => e = .returned (.int .i64 0) ∧ Hid (XpAt U w' zb 5 [] [(2, 0)] ∧ Only (fun k => ¬ U k) wv w')) := fun U wv zb h => by
    refine (xpadd_ok h 1 2 (by unfold I64; omega) (by unfold I64; omega)).mono ?_
    rintro e w' ⟨rfl, h1, h2⟩
    rw [z_add.1]
    rw [z_add.2.1, z_add.2.2] at h1
    exact ⟨rfl, h1, h2⟩
  have HZG : Hid (∀ (U : Nat → Prop) wv zb, XpAt U wv zb 5 [] [(2, 0)] → Calls Try.prog 9 #[.pointer (some ⟨zb, 0, none⟩), .int .i64 2, .int .i64 7, .int .i64 0, .int .i64 1] wv fun e w' => ∃ p c, e = .returned (.tuple #[.slice p 1 c, .int .i64 0]) ∧ Hid (XpAt (fun k => U k ∨ (Value.slice p 1 c).ownBlock = some k) w' zb 5 ozP rzP ∧ Only (fun k => ¬ U k) wv w')) := fun U wv zb h => by
    refine (xpgive_ok h 2 7 0 1 (by unfold I64; omega) (by unfold I64; omega) (by unfold I64; omega) (by unfold I64; omega)).mono ?_
    rintro e w' ⟨v, rfl, hl, h1, h2⟩
    rw [z_give.2.1] at hl
    rw [z_give.2.2.1, z_give.2.2.2] at h1
    obtain ⟨p, c, hv, _⟩ := hl.form
    have hv2 : v = .slice p 1 c := hv
    subst hv2
    exact ⟨p, c, by rw [z_give.1], h1, h2⟩
  by_cases hb : np < 1 ∨ 256 < np
  · have HX := Vx.hid (fun wv => xpnew_bad np hb wv)
    have HR := Vx.hid (fun wv => newPool_bad np hb wv)
    clear hb
    go_enter Try.func3, Try.ntmps3
    go_wp2_with fail
    refine (HNE.out _).mono ?_
    rintro e w' ⟨rfl, h⟩
    have h3 := h.symm; clear h; subst h3
    go_wp2_with fail
    refine (HX.out _).mono ?_
    rintro e w' ⟨rfl, h⟩
    have h3 := h.symm; clear h; subst h3
    go_wp2_with fail
    refine (HR.out _).mono ?_
    rintro e w' ⟨rfl, h⟩
    have h3 := h.symm; clear h; subst h3
    go_wp2_with fail
    refine (xpnew_ok 5 (by omega) _).mono ?_
    rintro e w3 ⟨zb, rfl, _, hz, ho3⟩
    have HZ3 := Vx.hid (⟨hz, ho3⟩ : _ ∧ _)
    clear hz ho3
    go_wp2_with fail
    refine (HZA.out _ _ _ HZ3.out.1).mono ?_
    rintro e w4 ⟨rfl, HA⟩
    go_wp2_with fail
    refine (HZG.out _ _ _ HA.out.1).mono ?_
    rintro e w5 ⟨p, c, rfl, HG⟩
    go_wp2_with fail
    all_goals
      go_ret
      refine ⟨by try rfl, ?_⟩
      have h1 := HZ3.out.2.below (Nat.le_refl _) (fun _ _ h => h)
      have h2 := HZ3.out.2.size
      have h3 := HA.out.2.size
      exact (h1.trans (HA.out.2.below h2 (fun k hk h => h hk))).trans (HG.out.2.below (Nat.le_trans h2 h3) (fun k hk h => h hk))
  · have hg : 1 ≤ np ∧ np ≤ 256 := by omega
    have HX := Vx.hid (fun wv => xpnew_ok np hg wv)
    have HR := Vx.hid (fun wv => newPool_ok np hg wv)
    clear hb hg
    go_enter Try.func3, Try.ntmps3
    go_wp2_with fail
    refine (HNE.out _).mono ?_
    rintro e w' ⟨rfl, h⟩
    have h3 := h.symm; clear h; subst h3
    go_wp2_with fail
    refine (HX.out _).mono ?_
    rintro e w1 ⟨xb, rfl, _, hx, ho1⟩
    have HX1 := Vx.hid (⟨hx, ho1⟩ : _ ∧ _)
    clear hx ho1
    go_wp2_with fail
    refine (HR.out _).mono ?_
    rintro e w2 ⟨rb, rfl, _, hr, ho2⟩
    have HR2 := Vx.hid (⟨hr, ho2⟩ : _ ∧ _)
    clear hr ho2
    go_wp2_with fail
    refine (xpnew_ok 5 (by omega) _).mono ?_
    rintro e w3 ⟨zb, rfl, _, hz, ho3⟩
    have HZ3 := Vx.hid (⟨hz, ho3⟩ : _ ∧ _)
    clear hz ho3
    go_wp2_with fail
    refine (HZA.out _ _ _ HZ3.out.1).mono ?_
    rintro e w4 ⟨rfl, HA⟩
    go_wp2_with fail
    refine (HZG.out _ _ _ HA.out.1).mono ?_
    rintro e w5 ⟨p, c, rfl, HG⟩
    have H0 := Vx.hid (PlR.start HX1.out.1 HX1.out.2 HR2.out.1 HR2.out.2 HZ3.out.2 HA.out.2 HG.out.2 HG.out.1)
    clear HX1 HR2 HZ3 HA HG HX HR HZA HZG HNE
    go_wp2_with fail
    obtain ⟨bb, hbb⟩ : ∃ bb, bb = w5.heap.size := ⟨_, rfl⟩
    obtain ⟨w6, hw6⟩ : ∃ w6, w6 = w5.alloc (.cells #[.slice none 0 0, .slice none 0 0, .slice none 0 0, .slice none 0 0, .slice none 0 0, .slice none 0 0] 45) := ⟨_, rfl⟩
    rw [← hw6, ← hbb] at H0 ⊢
    clear hw6 hbb
    go_loopw [14] (fun d wr => ∃ k : Nat, d = .int .i64 (k : Int) ∧ k ≤ len ∧ k ≤ 262144 ∧ Hid (PlR W xb rb zb bb np ozP rzP (2 * k) wr)) (fun d _ => len - (RowKit.intOf d).toNat)
    case atStart => exact ⟨0, rfl, by omega, by omega, H0⟩
    case round =>
      obtain ⟨k, rfl, hk, hk2, HR⟩ := hrel
      by_cases hlt : k < len ∧ k < 262144
      · have h1 : (k : Int) < (len : Int) := by omega
        have h2 : (k : Int) < 262144 := by omega
        have hidx : 0 ≤ (k : Int) ∧ (k : Int) < (len : Int) := by omega
        have hkz : k < zs.length := by have := HL.out; omega
        obtain ⟨ab, ao, rfl, hcz⟩ : ∃ ab ao, pa = some ⟨ab, ao, none⟩ ∧ ∀ (j : Nat) (h : j < zs.length), W.cell? ⟨ab, ao + j * 6, none⟩ = some (.int .i64 (zs[j]).k) ∧ W.cell? ⟨ab, ao + j * 6 + 1, none⟩ = some (.int .i64 (zs[j]).a) ∧ W.cell? ⟨ab, ao + j * 6 + 2, none⟩ = some (.int .i64 (zs[j]).b) ∧ W.cell? ⟨ab, ao + j * 6 + 3, none⟩ = some (.int .i64 (zs[j]).c) ∧ W.cell? ⟨ab, ao + j * 6 + 4, none⟩ = some (.int .i64 (zs[j]).d) ∧ W.cell? ⟨ab, ao + j * 6 + 5, none⟩ = some (.string ⟨(zs[j]).s.toArray⟩) := by
          rcases HP.out with h | h
          · rw [h] at hkz; simp at hkz
          · exact h
        obtain ⟨hc0, hc1, hc2, hc3, hc4, hc5⟩ := hcz k hkz
        have hab : ab < W.heap.size := World.block_lt_of_cell? W _ hc0
        have hcc : ∀ o, wr.cell? ⟨ab, o, none⟩ = W.cell? ⟨ab, o, none⟩ := fun o => HR.out.be.cell (p := ⟨ab, o, none⟩) hab
        obtain ⟨z, hzk⟩ : ∃ z, zs[k] = z := ⟨_, rfl⟩
        have HOK := Vx.hid (HZ.out zs[k] (List.getElem_mem _))
        rw [hzk] at hc0 hc1 hc2 hc3 hc4 hc5 HOK
        rw [← hcc] at hc0 hc1 hc2 hc3 hc4 hc5
        have hw9 : IntKind.i64.wrap ((k : Int) + 1) = (k : Int) + 1 := by rw [IntKind.wrap_i64]; omega
        clear hcz hcc hzk hlt hab
        obtain ⟨K, A, B, C, D, s⟩ := z
        simp only at hc0 hc1 hc2 hc3 hc4 hc5
        have HLA := Vx.hid (HR.out.lay (by omega) K A B C D HOK.out.2.1 HOK.out.2.2.1 HOK.out.2.2.2.1 HOK.out.2.2.2.2.1 ⟨s.toArray⟩)
        go_wp2_with fail
        refine HLA.out.mono ?_
        rintro e w7 ⟨rfl, h7⟩
        have HR7 := Vx.hid h7
        clear h7 hc0 hc1 hc2 hc3 hc4 hc5
        go_wp2_with fail
        go_roundw
        case rel => exact ⟨k + 1, by go_num, by omega, by omega, HR7⟩
        case measure => simp only [RowKit.intOf]; omega
      · have HEN := Vx.hid (HR.out.objects (by omega))
        have HFIN : Hid (2 * k + 2 ≤ 1000000) := by show _ ≤ _; omega
        by_cases h3 : k < len
        · have h4 : ¬ (k : Int) < 262144 := by omega
          have h5 : (k : Int) < (len : Int) := by omega
          clear hlt hk hk2 h3
          go_wp2_with fail
          refine HEN.out.mono ?_
          rintro e w7 ⟨rfl, h7⟩
          have HRD := Vx.hid (h7.reads HFIN.out)
          have HMK := Vx.hid h7.mark
          clear h7 HEN
          go_wp2_with fail
          refine HRD.out.mono ?_
          rintro e w' ⟨rfl, h⟩
          have h2' := h.symm; clear h; subst h2'
          go_wp2_with fail
          refine HMK.out.mono ?_
          rintro e w8 ⟨rfl, HBE⟩
          go_wp2_with fail
          all_goals
            go_ret
            exact ⟨by try rfl, HBE.out⟩
        · have h5 : ¬ (k : Int) < (len : Int) := by omega
          clear hlt hk hk2 h3
          go_wp2_with fail
          refine HEN.out.mono ?_
          rintro e w7 ⟨rfl, h7⟩
          have HRD := Vx.hid (h7.reads HFIN.out)
          have HMK := Vx.hid h7.mark
          clear h7 HEN
          go_wp2_with fail
          refine HRD.out.mono ?_
          rintro e w' ⟨rfl, h⟩
          have h2' := h.symm; clear h; subst h2'
          go_wp2_with fail
          refine HMK.out.mono ?_
          rintro e w8 ⟨rfl, HBE⟩
          go_wp2_with fail
          all_goals
            go_ret
            exact ⟨by try rfl, HBE.out⟩
end Go.Proofs.Ytbbabpgmclhinaa

/- PoolScripts: its row. -/
namespace Go.Proofs.Ytbbabpgmclhinaa
open Go.ChangeShapes Go.WideShapes Go.ChangeAt Go.RowKit
open Go.Vx

set_option maxRecDepth 100000 in
theorem poolScripts_lifted (os : Os) (started : os.Started) (H : Type) (enc : TypeId × Value → H) :
    ReturnsInHanded {} Try.checked os 3 .any (Rows.poolScriptsSpec.pre6 enc Try.prog Try.f3 Rows.poolScriptsRow.domain false) (Rows.poolScriptsSpec.post enc Try.prog Try.f3 false true false false) := by
  refine returnsInHanded_of_change (C := Try.checked) own started (by kernel_rfl) Try.func3
    (ChangeSpec.witness6 (enc := enc) (C := Try.checked) false ⟨#[], #[.int .i64 0, .slice none 0 0], []⟩ 8 (by kernel_rfl) (by kernel_rfl) (by kernel_rfl) (by kernel_rfl)) ?_
  intro W base args ds gs before hval0 hW hcnd _
  have hval : ∀ (j : Nat) t v, Try.f3.params[j]? = some t → args[j]? = some v → Value.okWide Try.prog W .any base t v := hval0
  have hW' := hW
  obtain ⟨p, q, hA0, hV, rfl, hfz, hnd⟩ := hW
  have hA : DataW.TrodAll enc Try.prog W 0 (fun _ => true) true Try.f3.params.toList args.toList ds p := hA0
  rw [Try.params3] at hA hval
  obtain ⟨v0, v1, d0, d1, p0, p1, hargs, rfl, rfl, h0, h1⟩ := trodAll_two hA
  obtain ⟨rfl, rfl⟩ := trodVars_none hV
  have hargs' : args = #[v0, v1] := by
    obtain ⟨l⟩ := args
    simpa using hargs
  subst hargs'
  obtain ⟨n, rfl, rfl, rfl, wn⟩ := open_int Try.underlying3 (hval 0 3 v0 rfl rfl) h0
  obtain ⟨a0, len, cap, rfl⟩ := okWide_slice Try.underlying22 (hval 1 22 v1 rfl rfl)
  clear hA0 hval0
  simp only [List.append_nil, List.nil_append] at hW'
  have hlt : ∀ x ∈ p1, x.block < W.heap.size := fun x hx => by simpa using hW'.lt x hx
  have hcall : Calls Try.prog 3 #[.int .i64 n, .slice a0 len cap] W fun e w' => e = .returned (.bool true) ∧ Below W.heap.size W w' := by
    obtain ⟨fuel, hf⟩ := h1
    obtain ⟨zs, hl, hlc, hcm, hp, hz⟩ := open_ops hf
    exact poolScripts_call W n (bounds_i64 wn) a0 len cap zs hl hlc hcm hp hz
  refine hcall.mono fun e W' ⟨he, hb⟩ => ?_
  subst he
  exact ⟨_, rfl, _, _, _, [], _, [], hW', trodAll_mk1 (shut_bool Try.underlying4 _), trodAll_mk2 (shut_int Try.underlying3 wn) (Below.trod laidOut (by kernel_rfl) (of_decide_eq_true (by kernel_rfl)) h1 hb hlt), rfl, hb.frame _, fun h => by cases h⟩
/-- The statement. -/
theorem poolScripts_holds : Rows.PoolScriptsSaid :=
  OpenClaim.holds_of_wide 3 Try.f3 rfl rfl rfl rfl rfl rfl rfl ⟨rfl, rfl, rfl, rfl, rfl⟩ rfl rfl rfl rfl rfl (by kernel_rfl) Try.func3 (by kernel_rfl)
    (of_decide_eq_true (by kernel_rfl)) (by unfold Func.isWrapper; first | (rw [if_pos (by decide +kernel)]; kernel_rfl) | (rw [if_neg (by decide +kernel)]; exact ⟨rfl, rfl⟩))
    (fun os started H enc _ => poolScripts_lifted os started H enc)
#print axioms poolScripts_holds
end Go.Proofs.Ytbbabpgmclhinaa

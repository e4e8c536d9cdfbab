import Derived.Test.YtbmchgjilkoplaaDoorCq53
/- CapsScripts: its walk. -/
namespace Go.Proofs.YtbmchgjilkoplaaDoor
open Go.ChangeShapes Go.WideShapes Go.ChangeAt Go.RowKit
open Go.Vx

set_option maxRecDepth 100000 in
set_option maxHeartbeats 4000000 in
theorem capsScripts_call (W : World) (hU : NsAt W) (pa : Option Addr) (len cap : Nat) (zs : List Stp) (hlen : zs.length = len) (hlc : len ≤ cap) (hcm : cap ≤ maxLen) (hp : ScAt W pa zs) (hz : ∀ z ∈ zs, z.ok) :
    Calls Tryd.prog 3 #[.slice pa len cap] W fun e w' => e = .returned (.bool true) ∧ Below W.heap.size W w' := by
  have HU := Vx.hid hU
  have HP := Vx.hid hp
  have HZ := Vx.hid hz
  have HL := Vx.hid hlen
  have hlm : (len : Int) ≤ 9223372036854775807 := by simp [maxLen] at hcm; omega
  have HNW := Vx.hid (xnew_ok hU)
  clear hU hp hz hlen hlc hcm
  go_enter Tryd.func3, Tryd.ntmps3
  go_wp2_with fail
  refine HNW.out.mono ?_
  rintro e w1 ⟨xb, rfl, _, hx, ho1⟩
  have HX := Vx.hid hx
  have HO1 := Vx.hid ho1
  clear hx ho1 HNW
  go_wp2_with fail
  obtain ⟨w2, hw2⟩ : ∃ w2, w2 = (w1.alloc (.cells #[.slice none 0 0, .slice none 0 0] 30)).alloc (.cells #[.pointer (some ⟨xb, 0, none⟩), .pointer (some ⟨w1.heap.size, 0, none⟩), .slice none 0 0, .slice none 0 0, .slice none 0 0, .slice none 0 0, .slice none 0 0, .slice none 0 0] 40) := ⟨_, rfl⟩
  rw [← hw2]
  have ho2 : Only (fun _ => False) w1 w2 := by rw [hw2]; exact ((Only.refl _ w1).alloc _).alloc _
  have hr2 : w2.heap[w1.heap.size]? = some (.cells #[.slice none 0 0, .slice none 0 0] 30 (0, 0)) := by
    rw [hw2, Below.heap_alloc _ _ _ (by simp)]
    exact heap_alloc_last _ _
  have hb2 : w2.heap[w1.heap.size + 1]? = some (.cells #[.pointer (some ⟨xb, 0, none⟩), .pointer (some ⟨w1.heap.size, 0, none⟩), .slice none 0 0, .slice none 0 0, .slice none 0 0, .slice none 0 0, .slice none 0 0, .slice none 0 0] 40 (0, 0)) := by
    rw [hw2]
    have := heap_alloc_last (w1.alloc (.cells #[.slice none 0 0, .slice none 0 0] 30)) (.cells #[.pointer (some ⟨xb, 0, none⟩), .pointer (some ⟨w1.heap.size, 0, none⟩), .slice none 0 0, .slice none 0 0, .slice none 0 0, .slice none 0 0, .slice none 0 0, .slice none 0 0] 40)
    simpa using this
  have HN2 : Hid (NsAt w2) := Only.keep (HO1.out.trans ho2) HU.out (fun h => h)
  obtain ⟨rb, hrb⟩ : ∃ rb, rb = w1.heap.size := ⟨_, rfl⟩
  obtain ⟨bb, hbb⟩ : ∃ bb, bb = w1.heap.size + 1 := ⟨_, rfl⟩
  rw [← hrb] at hr2 hb2
  rw [show rb + 1 = bb by omega] at hb2
  first | rw [← hbb] | (rw [show (w1.alloc (.cells #[.slice none 0 0, .slice none 0 0] 30)).heap.size = bb by simp [hbb]])
  have HST : Hid (Only (fun _ => False) w1 w2 ∧ w2.heap[rb]? = some (.cells #[.slice none 0 0, .slice none 0 0] 30 (0, 0)) ∧ w2.heap[bb]? = some (.cells #[.pointer (some ⟨xb, 0, none⟩), .pointer (some ⟨rb, 0, none⟩), .slice none 0 0, .slice none 0 0, .slice none 0 0, .slice none 0 0, .slice none 0 0, .slice none 0 0] 40 (0, 0)) ∧ w1.heap.size ≤ rb ∧ w1.heap.size ≤ bb ∧ rb ≠ bb) := ⟨ho2, hr2, hb2, by omega, by omega, by omega⟩
  clear hw2 ho2 hr2 hb2 hrb hbb
  refine (xnew_ok HN2.out).mono ?_
  rintro e w3 ⟨zb, rfl, _, hz, ho3⟩
  have HZ3 := Vx.hid hz
  have HO3 := Vx.hid ho3
  have HMK := Vx.hid (xmake_ok hz 1 2 (by unfold I64; omega) (by decide))
  clear hz ho3
  go_wp2_with fail
  refine HMK.out.mono ?_
  rintro e w4 ⟨rfl, hz4, ho4⟩
  have hml : makeL [] 1 2 = [((1 : Int), (2 : Int))] := by decide
  rw [hml] at hz4
  obtain ⟨g1, g2, g3, g4, g5, g6⟩ := HST.out
  have H0 : Hid (SwR W xb rb zb bb 0 0 0 0 w4) := SwR.start HU.out HX.out HO1.out g1 g2 g3 g4 g5 g6 HO3.out HZ3.out hz4 ho4
  clear hz4 ho4 g1 g2 g3 g4 g5 g6 HST HX HO1 HO3 HZ3 HMK HN2 hml
  go_wp2_with fail
  go_loopw [6] (fun d wr => ∃ k : Nat, d = .int .i64 (k : Int) ∧ k ≤ len ∧ k ≤ 262144 ∧ Hid (SwR W xb rb zb bb (2 * k) (2 * k) (2 * k) (2 * k) wr)) (fun d _ => len - (intOf d).toNat)
  case atStart => exact ⟨0, rfl, by omega, by omega, H0⟩
  case round =>
    obtain ⟨k, rfl, hk, hk2, HR⟩ := hrel
    by_cases hlt : k < len ∧ k < 262144
    · have h1 : (k : Int) < (len : Int) := by omega
      have h2 : (k : Int) < 262144 := by omega
      have hidx : 0 ≤ (k : Int) ∧ (k : Int) < (len : Int) := by omega
      have hkz : k < zs.length := by have := HL.out; omega
      obtain ⟨ab, ao, rfl, hcz⟩ : ∃ ab ao, pa = some ⟨ab, ao, none⟩ ∧ ∀ (j : Nat) (h : j < zs.length), W.cell? ⟨ab, ao + j * 6, none⟩ = some (.int .i64 (zs[j]).k) ∧ W.cell? ⟨ab, ao + j * 6 + 1, none⟩ = some (.int .i64 (zs[j]).a) ∧ W.cell? ⟨ab, ao + j * 6 + 2, none⟩ = some (.int .i64 (zs[j]).b) ∧ W.cell? ⟨ab, ao + j * 6 + 3, none⟩ = some (.int .i64 (zs[j]).c) ∧ W.cell? ⟨ab, ao + j * 6 + 4, none⟩ = some (.int .i64 (zs[j]).d) ∧ W.cell? ⟨ab, ao + j * 6 + 5, none⟩ = some (.string ⟨(zs[j]).s.toArray⟩) := by
        rcases HP.out with h | h
        · rw [h] at hkz; simp at hkz
        · exact h
      obtain ⟨hc0, hc1, hc2, hc3, hc4, hc5⟩ := hcz k hkz
      have hab : ab < W.heap.size := World.block_lt_of_cell? W _ hc0
      obtain ⟨z, hzk⟩ : ∃ z, zs[k] = z := ⟨_, rfl⟩
      have HOK := Vx.hid (HZ.out zs[k] (List.getElem_mem _))
      rw [hzk] at hc0 hc1 hc2 hc3 hc4 hc5 HOK
      have HCC : Hid (∀ wv, Below W.heap.size W wv → wv.cell? ⟨ab, ao + k * 6, none⟩ = some (.int .i64 z.k) ∧ wv.cell? ⟨ab, ao + k * 6 + 1, none⟩ = some (.int .i64 z.a) ∧ wv.cell? ⟨ab, ao + k * 6 + 2, none⟩ = some (.int .i64 z.b) ∧ wv.cell? ⟨ab, ao + k * 6 + 3, none⟩ = some (.int .i64 z.c) ∧ wv.cell? ⟨ab, ao + k * 6 + 4, none⟩ = some (.int .i64 z.d) ∧ wv.cell? ⟨ab, ao + k * 6 + 5, none⟩ = some (.string ⟨z.s.toArray⟩)) := fun wv hb => by
        have hcc : ∀ o, wv.cell? ⟨ab, o, none⟩ = W.cell? ⟨ab, o, none⟩ := fun o => hb.cell (p := ⟨ab, o, none⟩) hab
        rw [← hcc] at hc0 hc1 hc2 hc3 hc4 hc5
        exact ⟨hc0, hc1, hc2, hc3, hc4, hc5⟩
      have hw9 : IntKind.i64.wrap ((k : Int) + 1) = (k : Int) + 1 := by rw [IntKind.wrap_i64]; omega
      clear hcz hzk hlt hab hc0 hc1 hc2 hc3 hc4 hc5
      obtain ⟨K, A, B, C, D, s⟩ := z
      simp only at HCC
      obtain ⟨hc0, hc1, hc2, hc3, hc4, hc5⟩ := HCC.out _ HR.out.be
      have HPU := Vx.hid (HR.out.puts (by omega) (by omega) K A B C D HOK.out.2.1 HOK.out.2.2.1 HOK.out.2.2.2.1 ⟨s.toArray⟩)
      go_wp2_with fail
      refine HPU.out.mono ?_
      rintro e w5 ⟨rfl, h5⟩
      have HR5 := Vx.hid h5
      clear h5 hc0 hc1 hc2 hc3 hc4 hc5
      obtain ⟨hc0, hc1, hc2, hc3, hc4, hc5⟩ := HCC.out _ HR5.out.be
      have HTE := Vx.hid (HR5.out.tells (by omega) (by omega) (by omega) (by omega) K A B C D HOK.out.2.1 HOK.out.2.2.1 HOK.out.2.2.2.1 ⟨s.toArray⟩)
      go_wp2_with fail
      refine HTE.out.mono ?_
      rintro e w6 ⟨rfl, h6⟩
      have HR6 := Vx.hid (h6.mono (n2 := 2 * (k + 1)) (m2 := 2 * (k + 1)) (p2 := 2 * (k + 1)) (q2 := 2 * (k + 1)) (by omega) (by omega) (by omega) (by omega))
      clear h6 hc0 hc1 hc2 hc3 hc4 hc5
      go_wp2_with fail
      go_roundw
      case rel => exact ⟨k + 1, by go_num, by omega, by omega, HR6⟩
      case measure => simp only [intOf]; omega
    · have HEN := Vx.hid (HR.out.entries (by omega) (by omega))
      have HFIN : Hid (2 * k + 2 ≤ 1000000) := by show _ ≤ _; omega
      by_cases h3 : k < len
      · have h4 : ¬ (k : Int) < 262144 := by omega
        have h5 : (k : Int) < (len : Int) := by omega
        clear hlt hk hk2 h3
        go_wp2_with fail
        refine HEN.out.mono ?_
        rintro e w5 ⟨rfl, h5⟩
        have HR5 := Vx.hid h5
        have HRD := Vx.hid (h5.reads (by have := HFIN.out; omega) (by have := HFIN.out; omega))
        have HMK := Vx.hid (h5.last (by have := HFIN.out; omega))
        clear h5 HEN
        go_wp2_with fail
        refine HRD.out.mono ?_
        rintro e w' ⟨rfl, h⟩
        have h2' := h.symm; clear h; subst h2'
        go_wp2_with fail
        refine HMK.out.mono ?_
        rintro e w7 ⟨rfl, HLS⟩
        go_wp2_with fail
        refine HLS.out.sizeX.mono ?_
        rintro e w' ⟨rfl, h⟩
        have h2' := h.symm; clear h; subst h2'
        go_wp2_with fail
        refine HLS.out.sizeZ.mono ?_
        rintro e w' ⟨rfl, h⟩
        have h2' := h.symm; clear h; subst h2'
        go_wp2_with fail
        all_goals
          go_ret
          exact ⟨by try rfl, HLS.out.be⟩
      · have h5 : ¬ (k : Int) < (len : Int) := by omega
        clear hlt hk hk2 h3
        go_wp2_with fail
        refine HEN.out.mono ?_
        rintro e w5 ⟨rfl, h5⟩
        have HR5 := Vx.hid h5
        have HRD := Vx.hid (h5.reads (by have := HFIN.out; omega) (by have := HFIN.out; omega))
        have HMK := Vx.hid (h5.last (by have := HFIN.out; omega))
        clear h5 HEN
        go_wp2_with fail
        refine HRD.out.mono ?_
        rintro e w' ⟨rfl, h⟩
        have h2' := h.symm; clear h; subst h2'
        go_wp2_with fail
        refine HMK.out.mono ?_
        rintro e w7 ⟨rfl, HLS⟩
        go_wp2_with fail
        refine HLS.out.sizeX.mono ?_
        rintro e w' ⟨rfl, h⟩
        have h2' := h.symm; clear h; subst h2'
        go_wp2_with fail
        refine HLS.out.sizeZ.mono ?_
        rintro e w' ⟨rfl, h⟩
        have h2' := h.symm; clear h; subst h2'
        go_wp2_with fail
        all_goals
          go_ret
          exact ⟨by try rfl, HLS.out.be⟩
end Go.Proofs.YtbmchgjilkoplaaDoor

/- CapsScripts: its row, its tied card. -/
namespace Go.Proofs.YtbmchgjilkoplaaDoor
open Go.ChangeShapes Go.WideShapes Go.ChangeAt Go.RowKit Go.Deep
open Go.Vx

set_option maxRecDepth 100000 in
theorem capsScripts_lifted (os : Os) (started : os.Started) (H : Type) (enc : TypeId × Value → H) :
    ReturnsInHanded {} Tryd.checked os 3 .any (fun w args => (Rows.capsScriptsSpec.pre enc Tryd.prog Tryd.f3 [] false w args ∧ laidMetH Tryd.prog laid1 w) ∧ sizedMet enc Tryd.prog Tryd.f3 (OpenSpec.ofChange Rows.capsScriptsSpec) false w args)
      (Rows.capsScriptsSpec.post enc Tryd.prog Tryd.f3 false true false false) := by
  refine Vx.handed_shaped_and (C := Tryd.checked) (X := fun w _ => laidMetH Tryd.prog laid1 w) (fun _ _ _ hh h => h.of_heap hh) own started (by kernel_rfl) Tryd.func3
    (ChangeSpec.witness_shaped (enc := enc) (C := Tryd.checked) (os := os) (X := fun w _ => laidMetH Tryd.prog laid1 w) false (World.doorLaid Tryd.prog 400 os) #[.slice none 0 0] 8 rfl (World.shaped_of_RefB (by kernel_rfl) (by kernel_rfl)) (by kernel_rfl) (by kernel_rfl) (by kernel_rfl) (laid1_met os _)) ?_
  intro W base args ds gs before hval0 hW hL hSh
  have hval : ∀ (j : Nat) t v, Tryd.f3.params[j]? = some t → args[j]? = some v → Value.okWide Tryd.prog W .any base t v := hval0
  have hW' := hW
  obtain ⟨p, q, hA0, hV, rfl, hfz, hnd⟩ := hW
  have hA : DataW.TrodAll enc Tryd.prog W 0 (fun _ => true) true Tryd.f3.params.toList args.toList ds p := hA0
  rw [Tryd.params3] at hA hval
  obtain ⟨v0, d0, rfl, rfl, h0⟩ := trodAll_one hA
  obtain ⟨rfl, rfl⟩ := trodVars_none hV
  obtain ⟨a0, len, cap, rfl⟩ := okWide_slice Tryd.underlying22 (hval 0 22 v0 rfl rfl)
  have hU := nsAt_of hL hSh
  clear hA0 hval0
  simp only [List.append_nil] at hW'
  have hlt : ∀ x ∈ p, x.block < W.heap.size := fun x hx => by simpa using hW'.lt x hx
  have hcall : Calls Tryd.prog 3 #[.slice a0 len cap] W fun e w' => e = .returned (.bool true) ∧ Below W.heap.size W w' := by
    obtain ⟨fuel, hf⟩ := h0
    obtain ⟨zs, hl, hlc, hcm, hp, hz⟩ := open_ops hf
    exact capsScripts_call W hU a0 len cap zs hl hlc hcm hp hz
  refine hcall.mono fun e W' ⟨he, hb⟩ => ?_
  subst he
  exact ⟨_, rfl, _, _, _, [], p, [], hW', trodAll_mk1 (shut_bool Tryd.underlying4 _), trodAll_mk1 (Below.trod laidOut (by kernel_rfl) (of_decide_eq_true (by kernel_rfl)) h0 hb hlt), rfl, hb.frame _, fun h => by cases h⟩

theorem capsScripts_row : Rows.CapsScriptsSaid :=
  OpenClaim.holds_of_wide 3 Tryd.f3 rfl rfl rfl rfl rfl rfl rfl ⟨rfl, rfl, rfl, rfl, rfl⟩ rfl rfl rfl rfl rfl (by kernel_rfl) Tryd.func3 (by kernel_rfl)
    (of_decide_eq_true (by kernel_rfl)) (by unfold Func.isWrapper; first | (rw [if_pos (by decide +kernel)]; kernel_rfl) | (rw [if_neg (by decide +kernel)]; exact ⟨rfl, rfl⟩))
    (fun os started H enc _ => capsScripts_lifted os started H enc)

/-- The statement: the tied card. -/
theorem capsScripts_holds : Rows.CapsScriptsCardSaid :=
  Claim7.holds_tied_plain_at .later [] [.data] true _ false
    capsScripts_row (fun _ h => by cases h) (by kernel_rfl) (fun _ h => by cases h) capsScripts_row_tie rfl ⟨rfl, rfl⟩ (by kernel_rfl) rfl
    (fun f fn hf hfn => by
      obtain rfl : f = 3 := Option.some.inj ((show Tryd.prog.funcNamed "vault/vaultlaw.CapsScripts" = some 3 by kernel_rfl).symm.trans hf) |>.symm
      obtain rfl : fn = Tryd.f3 := (Option.some.inj (Tryd.func3.symm.trans hfn)).symm
      exact ⟨by kernel_rfl, fun j t ht => by
        rw [Tryd.params3] at ht
        have hm : t ∈ [22] := by simpa using Array.mem_of_getElem? ht
        have hall : ([22].all fun u => !Tryd.prog.wantsStandIn u) = true := by kernel_rfl
        exact (show Tryd.prog.wantsStandIn t = false by simpa using List.all_eq_true.1 hall t hm)⟩)
    (by kernel_rfl)
#print axioms capsScripts_holds
end Go.Proofs.YtbmchgjilkoplaaDoor

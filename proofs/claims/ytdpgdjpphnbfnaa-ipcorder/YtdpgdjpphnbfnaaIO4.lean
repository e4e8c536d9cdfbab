/- IpcOrder: its walk. -/
import Derived.Test.YtdpgdjpphnbfnaaIO2
import Derived.BigQuiet
import Derived.Deep.CutBlock
import Derived.Deep.CutRange
namespace Go.Proofs.Ytdpgdjpphnbfnaa
open Go.ChangeShapes Go.WideShapes Go.ChangeAt Go.RowKit
open Go.Vx
set_option linter.unusedVariables false

/-- Acts, where they lie. -/
def AcAt (w : World) (pa : Option Addr) (zs : List (Int × Int)) : Prop := zs = [] ∨ ∃ ab ao, pa = some ⟨ab, ao, none⟩ ∧ ∀ (j : Nat) (h : j < zs.length), w.cell? ⟨ab, ao + j * 2, none⟩ = some (.int .i64 (zs[j]).1) ∧ w.cell? ⟨ab, ao + j * 2 + 1, none⟩ = some (.int .i64 (zs[j]).2)
theorem OrI.start {W w1 w2 : World} {xb : Nat} (ho1 : Only (fun _ => False) W w1) (hx : XbX (fun k => k < W.heap.size) w2 xb ⟨[⟨5, false, 0⟩], []⟩) (ho2 : Only (fun k => ¬ k < W.heap.size) w1 w2) : OrI W xb (.slice none 0 0) (.slice none 0 0) [] [] ⟨[⟨5, false, 0⟩], []⟩ w2 := by
  refine ⟨hx.step (Only.refl (fun _ => False) _) (fun _ _ h => h.elim) (fun k hk => ?_), OwnL.nil _ _ _ _, OwnL.nil _ _ _ _, fun k hk => (by cases hk), (ho1.below (Nat.le_refl _) (fun _ _ h => h)).trans (ho2.below ho1.size (fun k hk h => h hk))⟩
  rcases hk with hk | hk | hk
  · exact Or.inl hk
  · cases hk
  · cases hk
set_option maxRecDepth 100000 in
set_option maxHeartbeats 16000000 in
theorem ipcOrder_call (W : World) (pa : Option Addr) (len cap : Nat) (zs : List (Int × Int)) (hlen : zs.length = len) (hlc : len ≤ cap) (hcm : cap ≤ maxLen) (hp : AcAt W pa zs) (hz : ∀ z ∈ zs, I64 z.1 ∧ I64 z.2) :
    Calls Try.prog 4 #[.slice pa len cap] W fun e w' => e = .returned (.bool true) ∧ Below W.heap.size W w' := by
  have HP := Vx.hid hp
  have HZ := Vx.hid hz
  have HL := Vx.hid hlen
  have hlm : (len : Int) ≤ 9223372036854775807 := by simp [maxLen] at hcm; omega
  have HNW := Vx.hid (xnew_ok W)
  have HOP : Hid (∀ (U : Nat → Prop) wv xb, XbX U wv xb ⟨[], []⟩ → Calls Try.prog 6 #[.pointer (some ⟨xb, 0, none⟩), .int .i64 5, .bool false] wv fun e w' => e = .returned (.int .i64 0) ∧ Hid (XbX U w' xb ⟨[⟨5, false, 0⟩], []⟩ ∧ Only (fun k => ¬ U k) wv w')) := fun U wv zb h => by
    refine (xopen_ok h (by decide) 5 (by unfold I64; omega) false).mono ?_
    rintro e w' ⟨rfl, h1, h2⟩
    exact ⟨rfl, h1, h2⟩
  clear hp hz hlen hlc hcm
  go_enter Try.func4, Try.ntmps4
  go_wp2_with fail
  refine HNW.out.mono ?_
  rintro e w1 ⟨xb, rfl, _, H1⟩
  go_wp2_with fail
  refine (HOP.out _ _ _ H1.out.1).mono ?_
  rintro e w2 ⟨rfl, H2⟩
  have H0 := Vx.hid (OrI.start H1.out.2 H2.out.1 H2.out.2)
  clear H1 H2 HNW HOP
  go_wp2_with fail
  go_loopw [5, 6, 7, 8, 9, 10, 11, 12, 13, 14, 15, 16, 17] (fun vl vw d _ _ _ _ _ _ _ _ _ _ wr => ∃ (k : Nat) (s : Bs), d = .int .i64 (k : Int) ∧ k ≤ len ∧ k ≤ 2000 ∧ Hid (OrI W xb vl vw (s.ws.map (·.thr)) (s.ws.map labF) s wr ∧ OrS s k)) (fun _ _ d _ _ _ _ _ _ _ _ _ _ _ => len - (RowKit.intOf d).toNat)
  case atStart => exact ⟨0, ⟨[⟨5, false, 0⟩], []⟩, rfl, by omega, by omega, H0.out, OrS.nil⟩
  case round =>
    clear H0
    obtain ⟨k, s, rfl, hk, hk2, HR⟩ := hrel
    have HO0 := Vx.hid HR.out.1
    have HS0 := Vx.hid HR.out.2
    clear HR
    obtain ⟨pl, cl, hvl, _, _, hgl⟩ := HO0.out.l.form
    obtain ⟨pw, cw, hvw, _, _, hgw⟩ := HO0.out.m.form
    obtain ⟨N, hN⟩ : ∃ N, N = s.ws.length := ⟨_, rfl⟩
    have HNN := Vx.hid hN
    rw [List.length_map, ← hN] at hvl hvw hgl hgw
    subst hvl hvw
    have HGL : Hid (0 < N → ∃ g, pl = some ⟨g, 0, none⟩) := fun h => by obtain ⟨g, hg, _⟩ := hgl h; exact ⟨g, hg⟩
    have HGW : Hid (0 < N → ∃ g, pw = some ⟨g, 0, none⟩) := fun h => by obtain ⟨g, hg, _⟩ := hgw h; exact ⟨g, hg⟩
    have hN2 : N ≤ 2000 := by have := HS0.out.ln; omega
    clear hN hgl hgw
    by_cases hlt : k < len ∧ k < 2000
    · have h1 : (k : Int) < (len : Int) := by omega
      have h2 : (k : Int) < 2000 := by omega
      have hk9 : k < 2000 := by omega
      have hidx : 0 ≤ (k : Int) ∧ (k : Int) < (len : Int) := by omega
      have hkz : k < zs.length := by have := HL.out; omega
      obtain ⟨ab, ao, rfl, hcz⟩ : ∃ ab ao, pa = some ⟨ab, ao, none⟩ ∧ ∀ (j : Nat) (h : j < zs.length), W.cell? ⟨ab, ao + j * 2, none⟩ = some (.int .i64 (zs[j]).1) ∧ W.cell? ⟨ab, ao + j * 2 + 1, none⟩ = some (.int .i64 (zs[j]).2) := by
        rcases HP.out with h | h
        · rw [h] at hkz; simp at hkz
        · exact h
      obtain ⟨hc0, hc1⟩ := hcz k hkz
      have hab : ab < W.heap.size := World.block_lt_of_cell? W _ hc0
      have hcc : ∀ o, wr.cell? ⟨ab, o, none⟩ = W.cell? ⟨ab, o, none⟩ := fun o => HO0.out.be.cell (p := ⟨ab, o, none⟩) hab
      obtain ⟨hz0, hz1⟩ := HZ.out zs[k] (List.getElem_mem _)
      rw [← hcc] at hc0 hc1
      have HPT := Vx.hid (fun wv => pickK_any 6 (by decide) (by decide) (zs[k]).2 hz1.1 hz1.2 wv)
      have HPK := Vx.hid (fun wv => pickK_any 3 (by decide) (by decide) (zs[k]).1 hz0.1 hz0.2 wv)
      have hkd : pickL (zs[k]).1 3 < 3 := Nat.mod_lt _ (by decide)
      have iT : I64 ((pickL (zs[k]).2 6 : Nat) : Int) := by
        have : pickL (zs[k]).2 6 < 6 := Nat.mod_lt _ (by decide)
        unfold I64
        omega
      generalize ((pickL (zs[k]).2 6 : Nat) : Int) = T at HPT iT
      generalize pickL (zs[k]).1 3 = kd at HPK hkd
      generalize (zs[k]).1 = y0 at hc0 HPK
      generalize (zs[k]).2 = y1 at hc1 HPT
      have hwk : IntKind.i64.wrap ((k : Int) + 1) = (k : Int) + 1 := by rw [IntKind.wrap_i64]; omega
      have hm32 : (k : Int) % 4294967296 = (k : Int) := by omega
      have hw32 : IntKind.u32.wrap (k : Int) = (k : Int) := by rw [IntKind.wrap_u32]; omega
      clear hcz hab hcc hz0 hz1 hkz
      go_wp2_with fail
      refine (HPT.out _).mono ?_
      rintro e w' ⟨rfl, h⟩
      have h3 := h.symm; clear h; subst h3
      clear HPT
      go_wp2_with fail
      go_loopw [9, 10] (fun a d wq => ∃ (j : Nat) (aa : Int), a = .int .i64 aa ∧ d = .int .i64 (j : Int) ∧ j ≤ N ∧ wq = wr ∧ Hid (AtK s.ws T j aa)) (fun _ d _ => N - (RowKit.intOf d).toNat)
      case atStart => exact ⟨0, -1, rfl, rfl, by omega, rfl, AtK.zero _ _⟩
      case round =>
        obtain ⟨j, aa, rfl, rfl, hj, hwq, HAK⟩ := hrel
        subst hwq
        by_cases hjl : j < N
        · have g1 : (j : Int) < (N : Int) := by omega
          have gi : 0 ≤ (j : Int) ∧ (j : Int) < (N : Int) := by omega
          have gw9 : IntKind.i64.wrap ((j : Int) + 1) = (j : Int) + 1 := by rw [IntKind.wrap_i64]; omega
          obtain ⟨gl, rfl⟩ := HGL.out (by omega)
          have hjs : j < s.ws.length := by have := HNN.out; omega
          have r0 := own_at HO0.out.l j (by rw [List.length_map]; exact hjs)
          rw [List.getElem_map] at r0
          by_cases he : s.ws[j].thr = T
          · have HA2 : Hid (AtK s.ws T (j + 1) (j : Int)) := AtK.yes hjs he
            rw [he] at r0
            clear hjl he hjs
            go_wp2_with fail
            go_roundw
            case rel => exact ⟨j + 1, (j : Int), rfl, by go_num, by omega, trivial, HA2⟩
            case measure => simp only [RowKit.intOf]; omega
          · have HA2 : Hid (AtK s.ws T (j + 1) aa) := HAK.out.no hjs he
            have he2 : (s.ws[j].thr == T) = false := by simpa using he
            generalize s.ws[j].thr = y at r0 he he2
            clear hjl hjs
            go_wp2_with fail
            go_roundw
            case rel => exact ⟨j + 1, aa, rfl, by go_num, by omega, trivial, HA2⟩
            case measure => simp only [RowKit.intOf]; omega
        · have hjN : N = j := by omega
          subst hjN
          have g1 : ¬ (N : Int) < (N : Int) := by omega
          have HAE : Hid ((aa = -1 ∧ tF s.ws T = none) ∨ (∃ q : Nat, q < s.ws.length ∧ aa = (q : Int) ∧ tF s.ws T = some q)) := by
            have h8 := HAK.out
            rw [HNN.out] at h8
            exact h8.end' HO0.out.x.1.nt
          clear hjl HAK hj
          rcases (by omega : kd = 0 ∨ kd = 1 ∨ kd = 2) with rfl | rfl | rfl
          · have HREL : Hid ((∃ q : Nat, aa = (q : Int) ∧ sendR s 5 T 2 ⟨(k : Int), 0, 0, 0, 0, 0⟩ = oErr 16 ∧ sendS s 5 T 2 ⟨(k : Int), 0, 0, 0, 0, 0⟩ = s) ∨ (∃ x r, aa = -1 ∧ s.ws = x :: r ∧ x.how = 4 ∧ sendR s 5 T 2 ⟨(k : Int), 0, 0, 0, 0, 0⟩ = oMet x.thr 2 ⟨(k : Int), 0, 0, 0, 0, 0⟩ ∧ sendS s 5 T 2 ⟨(k : Int), 0, 0, 0, 0, 0⟩ = ⟨s.ps, cuI s.ws 0⟩) ∨ (aa = -1 ∧ (∀ x ∈ s.ws, x.how ≠ 4) ∧ sendR s 5 T 2 ⟨(k : Int), 0, 0, 0, 0, 0⟩ = oWt ∧ sendS s 5 T 2 ⟨(k : Int), 0, 0, 0, 0, 0⟩ = ⟨s.ps, s.ws ++ [⟨5, T, 2, ⟨(k : Int), 0, 0, 0, 0, 0⟩⟩]⟩ ∧ OrS ⟨s.ps, s.ws ++ [⟨5, T, 2, ⟨(k : Int), 0, 0, 0, 0, 0⟩⟩]⟩ (k + 1))) := by
              rcases HAE.out with ⟨hq1, hq2⟩ | ⟨q, hq1, hq2, hq3⟩
              · cases hws : s.ws with
                | nil =>
                  have hall : (∀ x ∈ s.ws, x.how ≠ 4) := by rw [hws]; intro x hx; cases hx
                  have h8 := send_wait HS0.out hq2 hall ⟨(k : Int), 0, 0, 0, 0, 0⟩
                  have h9 := HS0.out.sent (by omega) T ⟨(k : Int), 0, 0, 0, 0, 0⟩ rfl hall
                  rw [hws] at h8 h9
                  refine Or.inr (Or.inr ⟨hq1, ?_, h8.1, h8.2, h9⟩)
                  intro x hx
                  cases hx
                | cons x r =>
                  rcases HS0.out.first hws with ⟨hxh, hall⟩ | ⟨hxh, hxl0, hxl1, hall⟩
                  · have h8 := send_meet HS0.out hq2 hws hxh ⟨(k : Int), 0, 0, 0, 0, 0⟩
                    rw [hws] at h8
                    exact Or.inr (Or.inl ⟨x, r, hq1, rfl, hxh, h8.1, h8.2⟩)
                  · have h8 := send_wait HS0.out hq2 hall ⟨(k : Int), 0, 0, 0, 0, 0⟩
                    have h9 := HS0.out.sent (by omega) T ⟨(k : Int), 0, 0, 0, 0, 0⟩ rfl hall
                    rw [hws] at h8 h9 hall
                    exact Or.inr (Or.inr ⟨hq1, hall, h8.1, h8.2, h9⟩)
              · have hti : (tF s.ws T).isSome = true := by rw [hq3]; rfl
                have h8 := send16 HS0.out hti ⟨(k : Int), 0, 0, 0, 0, 0⟩
                exact Or.inl ⟨q, hq2, h8.1, h8.2⟩
            obtain ⟨w1, hw1⟩ : ∃ w1, w1 = wr.alloc (.cells oc0A 37) := ⟨_, rfl⟩
            obtain ⟨ob, hob⟩ : ∃ ob, ob = wr.heap.size := ⟨_, rfl⟩
            have HCA : Hid (Calls Try.prog 15 #[.pointer (some ⟨xb, 0, none⟩), .int .i64 5, .int .i64 T, .int .i64 2, .agg #[.int .u32 (k : Int), .int .u32 0, .int .u32 0, .int .u32 0, .int .u32 0, .int .u32 0]] w1 fun e w' => e = .returned (ocV (sendR s 5 T 2 ⟨(k : Int), 0, 0, 0, 0, 0⟩)) ∧ (Z11 w' ob ∧ w'.heap[ob]? = some (.cells oc0A 37 (0, 0))) ∧ Hid (∀ w7, Only (fun k => k = ob) w' w7 → OrI W xb (.slice pl N cl) (.slice pw N cw) (s.ws.map (·.thr)) (s.ws.map labF) (sendS s 5 T 2 ⟨(k : Int), 0, 0, 0, 0, 0⟩) w7)) := HO0.out.call (fun U w1 hx => xsend_ok hx (by have := HS0.out.ln; omega) 5 T 2 (by unfold I64; omega) iT ⟨(k : Int), 0, 0, 0, 0, 0⟩) hw1 hob
            unfold oc0A at hw1
            generalize sendS s 5 T 2 ⟨(k : Int), 0, 0, 0, 0, 0⟩ = s2 at HREL HCA
            generalize sendR s 5 T 2 ⟨(k : Int), 0, 0, 0, 0, 0⟩ = oc at HREL HCA
            obtain ⟨o0, o1, ⟨o2, o3, o4, o5, o6, o7⟩, o8, o9, o10⟩ := oc
            unfold ocV at HCA
            dsimp only at HCA
            clear HAE
            go_wp2_with fail
            refine (HPK.out _).mono ?_
            rintro e w' ⟨rfl, h⟩
            have h3 := h.symm; clear h; subst h3
            go_wp2_with fail
            refine (HPK.out _).mono ?_
            rintro e w' ⟨rfl, h⟩
            have h3 := h.symm; clear h; subst h3
            go_upto_region 28 with fail
            rw [← hw1, ← hob]
            clear hw1 hob
            go_wp2_with fail
            refine HCA.out.mono ?_
            rintro e w2 ⟨rfl, hz, HF⟩
            obtain ⟨⟨z0, z1, z2, z3, z4, z5, z6, z7, z8, z9, z10, zf, zl⟩, hzh⟩ := hz
            have HZH := Vx.hid hzh
            clear hzh
            go_upto_block 4 with fail
            obtain ⟨w3, hw3⟩ : ∃ w3, w3 = (((((((((((w2.setCell ⟨ob, 0, none⟩ (.int .i64 o0)).setCell ⟨ob, 1, none⟩ (.int .i64 o1)).setCell ⟨ob, 2, none⟩ (.int .u32 o2)).setCell ⟨ob, 3, none⟩ (.int .u32 o3)).setCell ⟨ob, 4, none⟩ (.int .u32 o4)).setCell ⟨ob, 5, none⟩ (.int .u32 o5)).setCell ⟨ob, 6, none⟩ (.int .u32 o6)).setCell ⟨ob, 7, none⟩ (.int .u32 o7)).setCell ⟨ob, 8, none⟩ (.bool o8)).setCell ⟨ob, 9, none⟩ (.bool o9)).setCell ⟨ob, 10, none⟩ (.bool o10)) := ⟨_, rfl⟩
            have h3h : w3.heap[ob]? = some (.cells #[.int .i64 o0, .int .i64 o1, .int .u32 o2, .int .u32 o3, .int .u32 o4, .int .u32 o5, .int .u32 o6, .int .u32 o7, .bool o8, .bool o9, .bool o10] 37 (0, 0)) := by rw [hw3]; exact oc_setA HZH.out _ _ _ _ _ _ _ _ _ _ _
            have HO3 := Vx.hid (HF.out w3 (by rw [hw3]; exact only_set11 _ _ _ _ _ _ _ _ _ _ _ _ _))
            have d0 := (cell_of_row _ _ 0 _ _ (0, 0) h3h)
            have d1 := (cell_of_row _ _ 1 _ _ (0, 0) h3h)
            have d2 := (cell_of_row _ _ 2 _ _ (0, 0) h3h)
            have d8 := (cell_of_row _ _ 8 _ _ (0, 0) h3h)
            simp only [List.getElem?_toArray, List.getElem?_cons_zero] at d0
            simp only [List.getElem?_toArray, List.getElem?_cons_zero, List.getElem?_cons_succ] at d1 d2 d8
            rw [← hw3]
            clear hw3 h3h HF HZH z0 z1 z2 z3 z4 z5 z6 z7 z8 z9 z10 zf zl HCA
            go_cut [5, 6, 14] from 94 to 168 (fun v5 v6 _ wx => ∃ (s3 : Bs) (pA pB : Option Addr) (nA cA nB cB : Nat), v5 = .slice pA nA cA ∧ v6 = .slice pB nB cB ∧ Hid (OrI W xb (.slice pA nA cA) (.slice pB nB cB) (s3.ws.map (·.thr)) (s3.ws.map labF) s3 wx ∧ OrS s3 (k + 1) ∧ nA = (s3.ws.map (·.thr)).length))
            case first =>
              rcases HREL.out with ⟨q, haq, hoc, hs2⟩ | ⟨x, r, haa, hws, hxh, hoc, hs2⟩ | ⟨haa, hall, hoc, hs2, hst⟩
              · simp only [oErr, ms0, Oc.mk.injEq, Ms.mk.injEq] at hoc
                obtain ⟨rfl, rfl, ⟨rfl, rfl, rfl, rfl, rfl, rfl⟩, rfl, rfl, rfl⟩ := hoc
                subst haq
                subst hs2
                have hge : 0 ≤ (q : Int) := by omega
                clear HREL
                go_wp2_with fail
                go_meet
                exact ⟨s2, _, _, _, _, _, _, rfl, rfl, HO3.out, HS0.out.succ, by rw [List.length_map]; exact HNN.out⟩
              · obtain ⟨xa, xt, xh, ⟨m0, m1, m2, m3, m4, m5⟩⟩ := x
                replace hoc := hoc.symm
                simp only [oMet, Oc.mk.injEq, Ms.mk.injEq] at hoc
                dsimp only at hxh
                obtain ⟨rfl, rfl, ⟨rfl, rfl, rfl, rfl, rfl, rfl⟩, rfl, ho9, ho10⟩ := hoc
                subst haa
                have hNp : 0 < N := by have := HNN.out; rw [hws] at this; simp at this; omega
                obtain ⟨gl, rfl⟩ := HGL.out (by omega)
                obtain ⟨gw, rfl⟩ := HGW.out (by omega)
                have HNW : Hid (0 < s.ws.length) := by show _ < _; have := HNN.out; omega
                have HX0 : Hid ((s.ws.map (·.thr))[0]'(by rw [List.length_map]; exact HNW.out) = xt ∧ (s.ws.map labF)[0]'(by rw [List.length_map]; exact HNW.out) = -1) := by
                  have e1 : ∀ (h : 0 < s.ws.length), s.ws[0] = ⟨xa, xt, xh, ⟨m0, m1, m2, m3, m4, m5⟩⟩ := fun h => by simp only [hws, List.getElem_cons_zero]
                  constructor
                  · rw [List.getElem_map, e1]
                  · rw [List.getElem_map, e1]
                    unfold labF
                    dsimp only
                    rw [if_pos hxh]
                have b0 := own_at HO3.out.m 0 (by rw [List.length_map]; exact HNW.out)
                rw [HX0.out.2] at b0
                have c0 := own_at HO3.out.l 0 (by rw [List.length_map]; exact HNW.out)
                rw [HX0.out.1] at c0
                have hN0 : (0 : Int) < (N : Int) := by omega
                have hq1 : (xt != xt) = false := by simp
                have hq2 : ((k : Int) != (k : Int)) = false := by simp
                have hwk2 : IntKind.i64.wrap (k : Int) = (k : Int) := by rw [IntKind.wrap_i64]; omega
                have HCL := Vx.hid (fun wv (ho : Only (fun _ => False) w3 wv) => (HO3.out.quiet ho).cutL 0 (by rw [List.length_map]; have := HNN.out; omega) (by rw [List.length_map]; have := HNN.out; omega))
                have HS2 := Vx.hid hs2
                clear hws hxh HREL hs2 ho9 ho10
                go_upto_region 44 with fail
                go_quiet (fail)
                clear b0 c0 d0 d1 d2 d8
                go_wp2_with fail
                refine (HCL.out _ (by first | exact (Only.refl _ _).drewN _ | exact Only.refl _ _)).mono ?_
                rintro e w4 ⟨v4, rfl, HO4⟩
                obtain ⟨pA, cA, hvA, _⟩ := HO4.out.l.form
                obtain ⟨nA, hnA⟩ : ∃ nA, nA = (cuI (s.ws.map (·.thr)) 0).length := ⟨_, rfl⟩
                rw [← hnA] at hvA
                subst hvA
                have HNA0 := Vx.hid hnA
                clear hnA
                have HCM := Vx.hid (HO4.out.cutM 0 (by rw [List.length_map]; have := HNN.out; omega) (by rw [List.length_map]; have := HNN.out; omega))
                clear HO3 HCL
                go_wp2_with fail
                refine HCM.out.mono ?_
                rintro e w5 ⟨v5, rfl, HO5⟩
                obtain ⟨pB, cB, hvB, _⟩ := HO5.out.m.form
                obtain ⟨nB, hnB⟩ : ∃ nB, nB = (cuI (s.ws.map labF) 0).length := ⟨_, rfl⟩
                rw [← hnB] at hvB
                subst hvB
                clear hnB HCM HO4
                go_wp2_with fail
                go_meet
                rw [← cuI_map, ← cuI_map, HS2.out] at HO5
                exact ⟨⟨s.ps, cuI s.ws 0⟩, _, _, _, _, _, _, rfl, rfl, HO5.out, (HS0.out.cut 0).succ, by rw [HNA0.out, cuI_map]⟩
              · simp only [oWt, ms0, Oc.mk.injEq, Ms.mk.injEq] at hoc
                obtain ⟨rfl, rfl, ⟨rfl, rfl, rfl, rfl, rfl, rfl⟩, rfl, rfl, rfl⟩ := hoc
                subst haa
                have HS1 := Vx.hid hst
                have HS2 := Vx.hid hs2
                clear HREL hst hs2
                cases hws : s.ws with
                | nil =>
                  have hN0 : ¬ (0 : Int) < (N : Int) := by have := HNN.out; rw [hws] at this; simp at this; omega
                  clear hws hall
                  have HLa : Hid ((s.ws.map (·.thr)).length + 1 ≤ 10000000) := by show _ ≤ _; rw [List.length_map]; have := HNN.out; omega
                  have HLb : Hid ((s.ws.map labF).length + 1 ≤ 10000000) := by show _ ≤ _; rw [List.length_map]; have := HNN.out; omega
                  have HBW : Hid (W.heap.size ≤ w3.heap.size) := HO3.out.be.size
                  go_upto_region 34 with (at_builtin; refine wpList_append_one inKi _ rfl _ _ rfl W.heap.size (.slice pl N cl) _ rfl HO3.out.l T _ _ rfl rfl rfl HLa.out HBW.out ?_; intro v4 w4 hv1 hv2 hv3; have HO4 := Vx.hid (HO3.out.putL hv1 hv2 (lies_of hv3)); have HB4 : Hid (W.heap.size ≤ w4.heap.size) := HO4.out.be.size; obtain ⟨pA, cA, hvA, _⟩ := hv1.form; obtain ⟨nA, hnA⟩ : ∃ nA, nA = (s.ws.map (·.thr) ++ [T]).length := ⟨_, rfl⟩; rw [← hnA] at hvA; subst hvA; have HNA0 := Vx.hid hnA; clear hv1 hv2 hv3 hnA)
                  clear d0 d1 d2 d8
                  go_wp2_with (at_builtin; refine wpList_append_one inKi _ rfl _ _ rfl W.heap.size (.slice pw N cw) _ rfl HO4.out.m (k : Int) _ _ rfl rfl rfl HLb.out HB4.out ?_; intro v5 w5 hv1 hv2 hv3; have HO5 := Vx.hid (HO4.out.putM hv1 hv2 (lies_of hv3)); obtain ⟨pB, cB, hvB, _⟩ := hv1.form; obtain ⟨nB, hnB⟩ : ∃ nB, nB = (s.ws.map labF ++ [(k : Int)]).length := ⟨_, rfl⟩; rw [← hnB] at hvB; subst hvB; clear hv1 hv2 hv3 hnB)
                  go_meet
                  refine ⟨⟨s.ps, s.ws ++ [⟨5, T, 2, ⟨(k : Int), 0, 0, 0, 0, 0⟩⟩]⟩, pA, pB, nA, cA, nB, cB, rfl, rfl, ?_, HS1.out, ?_⟩
                  · have h8 := HO5.out
                    have e1 : (s.ws ++ [(⟨5, T, 2, ⟨(k : Int), 0, 0, 0, 0, 0⟩⟩ : Wt)]).map (·.thr) = s.ws.map (·.thr) ++ [T] := by rw [List.map_append]; rfl
                    have e2 : (s.ws ++ [(⟨5, T, 2, ⟨(k : Int), 0, 0, 0, 0, 0⟩⟩ : Wt)]).map labF = s.ws.map labF ++ [(k : Int)] := by rw [List.map_append]; rfl
                    rw [HS2.out] at h8
                    show OrI W xb _ _ ((s.ws ++ [(⟨5, T, 2, ⟨(k : Int), 0, 0, 0, 0, 0⟩⟩ : Wt)]).map (·.thr)) ((s.ws ++ [(⟨5, T, 2, ⟨(k : Int), 0, 0, 0, 0, 0⟩⟩ : Wt)]).map labF) _ w5
                    rw [e1, e2]
                    exact h8
                  · have e1 : (s.ws ++ [(⟨5, T, 2, ⟨(k : Int), 0, 0, 0, 0, 0⟩⟩ : Wt)]).map (·.thr) = s.ws.map (·.thr) ++ [T] := by rw [List.map_append]; rfl
                    show nA = ((s.ws ++ [(⟨5, T, 2, ⟨(k : Int), 0, 0, 0, 0, 0⟩⟩ : Wt)]).map (·.thr)).length
                    rw [e1]
                    exact HNA0.out
                | cons x r =>
                  have hxh := hall x (by rw [hws]; exact List.mem_cons_self)
                  have hNp : 0 < N := by have := HNN.out; rw [hws] at this; simp at this; omega
                  obtain ⟨gl, rfl⟩ := HGL.out (by omega)
                  obtain ⟨gw, rfl⟩ := HGW.out (by omega)
                  have HNW : Hid (0 < s.ws.length) := by show _ < _; have := HNN.out; omega
                  have hN0 : (0 : Int) < (N : Int) := by omega
                  have HX0 : Hid ((s.ws.map labF)[0]'(by rw [List.length_map]; exact HNW.out) = x.m.lab) := by
                    have e1 : ∀ (h : 0 < s.ws.length), s.ws[0] = x := fun h => by simp only [hws, List.getElem_cons_zero]
                    show _ = _
                    rw [List.getElem_map, e1]
                    unfold labF
                    rw [if_neg hxh]
                  have b0 := own_at HO3.out.m 0 (by rw [List.length_map]; exact HNW.out)
                  rw [HX0.out] at b0
                  have hge : 0 ≤ x.m.lab := by
                    rcases HS0.out.first hws with h9 | h9
                    · exact absurd h9.1 hxh
                    · exact h9.2.1
                  generalize x.m.lab = m0 at b0 hge HX0
                  clear hws hall hxh
                  have HLa : Hid ((s.ws.map (·.thr)).length + 1 ≤ 10000000) := by show _ ≤ _; rw [List.length_map]; have := HNN.out; omega
                  have HLb : Hid ((s.ws.map labF).length + 1 ≤ 10000000) := by show _ ≤ _; rw [List.length_map]; have := HNN.out; omega
                  have HBW : Hid (W.heap.size ≤ w3.heap.size) := HO3.out.be.size
                  go_upto_region 34 with (at_builtin; refine wpList_append_one inKi _ rfl _ _ rfl W.heap.size (.slice (some ⟨gl, 0, none⟩) N cl) _ rfl HO3.out.l T _ _ rfl rfl rfl HLa.out HBW.out ?_; intro v4 w4 hv1 hv2 hv3; have HO4 := Vx.hid (HO3.out.putL hv1 hv2 (lies_of hv3)); have HB4 : Hid (W.heap.size ≤ w4.heap.size) := HO4.out.be.size; obtain ⟨pA, cA, hvA, _⟩ := hv1.form; obtain ⟨nA, hnA⟩ : ∃ nA, nA = (s.ws.map (·.thr) ++ [T]).length := ⟨_, rfl⟩; rw [← hnA] at hvA; subst hvA; have HNA0 := Vx.hid hnA; clear hv1 hv2 hv3 hnA)
                  clear d0 d1 d2 d8
                  go_wp2_with (at_builtin; refine wpList_append_one inKi _ rfl _ _ rfl W.heap.size (.slice (some ⟨gw, 0, none⟩) N cw) _ rfl HO4.out.m (k : Int) _ _ rfl rfl rfl HLb.out HB4.out ?_; intro v5 w5 hv1 hv2 hv3; have HO5 := Vx.hid (HO4.out.putM hv1 hv2 (lies_of hv3)); obtain ⟨pB, cB, hvB, _⟩ := hv1.form; obtain ⟨nB, hnB⟩ : ∃ nB, nB = (s.ws.map labF ++ [(k : Int)]).length := ⟨_, rfl⟩; rw [← hnB] at hvB; subst hvB; clear hv1 hv2 hv3 hnB)
                  go_meet
                  refine ⟨⟨s.ps, s.ws ++ [⟨5, T, 2, ⟨(k : Int), 0, 0, 0, 0, 0⟩⟩]⟩, pA, pB, nA, cA, nB, cB, rfl, rfl, ?_, HS1.out, ?_⟩
                  · have h8 := HO5.out
                    have e1 : (s.ws ++ [(⟨5, T, 2, ⟨(k : Int), 0, 0, 0, 0, 0⟩⟩ : Wt)]).map (·.thr) = s.ws.map (·.thr) ++ [T] := by rw [List.map_append]; rfl
                    have e2 : (s.ws ++ [(⟨5, T, 2, ⟨(k : Int), 0, 0, 0, 0, 0⟩⟩ : Wt)]).map labF = s.ws.map labF ++ [(k : Int)] := by rw [List.map_append]; rfl
                    rw [HS2.out] at h8
                    show OrI W xb _ _ ((s.ws ++ [(⟨5, T, 2, ⟨(k : Int), 0, 0, 0, 0, 0⟩⟩ : Wt)]).map (·.thr)) ((s.ws ++ [(⟨5, T, 2, ⟨(k : Int), 0, 0, 0, 0, 0⟩⟩ : Wt)]).map labF) _ w5
                    rw [e1, e2]
                    exact h8
                  · have e1 : (s.ws ++ [(⟨5, T, 2, ⟨(k : Int), 0, 0, 0, 0, 0⟩⟩ : Wt)]).map (·.thr) = s.ws.map (·.thr) ++ [T] := by rw [List.map_append]; rfl
                    show nA = ((s.ws ++ [(⟨5, T, 2, ⟨(k : Int), 0, 0, 0, 0, 0⟩⟩ : Wt)]).map (·.thr)).length
                    rw [e1]
                    exact HNA0.out
            case rest =>
              obtain ⟨s2, pA, pB, nA, cA, nB, cB, rfl, rfl, HCC⟩ := hcut
              have HO := Vx.hid HCC.out.1
              have HS := Vx.hid HCC.out.2.1
              have HNA := Vx.hid HCC.out.2.2
              clear HCC HO3 HREL d0 d1 d2 d8
              have HLN := Vx.hid (HO.out.line HS.out)
              go_wp2_with fail
              refine HLN.out.mono ?_
              rintro e w9 ⟨v9, rfl, H9⟩
              obtain ⟨p9, c9, hv9, _, _, hg9⟩ := H9.out.2.form
              rw [← HNA.out] at hv9 hg9
              subst hv9
              have HG9 : Hid (0 < nA → ∃ g, p9 = some ⟨g, 0, none⟩) := fun h => by obtain ⟨g, hg, _⟩ := hg9 h; exact ⟨g, hg⟩
              have HGA : Hid (0 < nA → ∃ g, pA = some ⟨g, 0, none⟩) := fun h => by
                obtain ⟨p8, c8, hv8, _, _, hg8⟩ := H9.out.1.l.form
                rw [← HNA.out] at hv8 hg8
                simp only [Value.slice.injEq] at hv8
                obtain ⟨g, hg, _⟩ := hg8 h
                exact ⟨g, by rw [hv8.1, hg]⟩
              have hnn : ((nA : Int) != (nA : Int)) = false := by simp
              have hnA : nA ≤ 2001 := by have := HS.out.ln; have := HNA.out; rw [List.length_map] at this; omega
              clear hg9 HLN HO
              go_wp2_with fail
              go_loopw [17] (fun d wq => ∃ j : Nat, d = .int .i64 (j : Int) ∧ j ≤ nA ∧ Hid (Only (fun _ => False) w9 wq)) (fun d _ => nA - (RowKit.intOf d).toNat)
              case atStart => exact ⟨0, rfl, by omega, Only.refl _ _⟩
              case round =>
                obtain ⟨j, rfl, hj, HQ⟩ := hrel
                by_cases hjl : j < nA
                · have g1 : (j : Int) < (nA : Int) := by omega
                  have gi : 0 ≤ (j : Int) ∧ (j : Int) < (nA : Int) := by omega
                  have gw : IntKind.i64.wrap ((j : Int) + 1) = (j : Int) + 1 := by rw [IntKind.wrap_i64]; omega
                  obtain ⟨g9, rfl⟩ := HG9.out (by omega)
                  obtain ⟨gA, rfl⟩ := HGA.out (by omega)
                  have hjx : j < (s2.ws.map (·.thr)).length := by have := HNA.out; omega
                  have r9 := own_at (H9.out.2.kept HQ.out (fun _ _ h => h)) j hjx
                  have rA := own_at (H9.out.1.quiet HQ.out).l j hjx
                  generalize (s2.ws.map (·.thr))[j] = y at r9 rA
                  have hyy : (y != y) = false := by simp
                  clear hjl hjx
                  go_wp2_with fail
                  go_quiet (fail)
                  go_wp2_with fail
                  go_roundw
                  case rel => exact ⟨j + 1, by go_num, by omega, HQ.out.drewN _⟩
                  case measure => simp only [RowKit.intOf]; omega
                · obtain rfl : j = nA := by omega
                  have g1 : ¬ (j : Int) < (j : Int) := by omega
                  have HFX := Vx.hid (H9.out.1.quiet HQ.out)
                  clear hjl
                  go_wp2_with fail
                  go_roundw
                  case rel => exact ⟨k + 1, s2, by go_num, by omega, by omega, HFX.out, HS.out⟩
                  case measure => simp only [RowKit.intOf]; omega
          · have HREL : Hid ((∃ q : Nat, aa = (q : Int) ∧ getR s 5 T true = oErr 16 ∧ getS s 5 T true = s) ∨ (∃ x r, aa = -1 ∧ s.ws = x :: r ∧ (x.how = 2 ∧ 0 ≤ x.m.lab ∧ x.m.lab < 2000) ∧ getR s 5 T true = oMet x.thr 2 x.m ∧ getS s 5 T true = ⟨s.ps, cuI s.ws 0⟩) ∨ (aa = -1 ∧ (∀ x ∈ s.ws, x.how = 4) ∧ getR s 5 T true = oWt ∧ getS s 5 T true = ⟨s.ps, s.ws ++ [⟨5, T, 4, ms0⟩]⟩ ∧ OrS ⟨s.ps, s.ws ++ [⟨5, T, 4, ms0⟩]⟩ (k + 1))) := by
              rcases HAE.out with ⟨hq1, hq2⟩ | ⟨q, hq1, hq2, hq3⟩
              · cases hws : s.ws with
                | nil =>
                  have hall : (∀ x ∈ s.ws, x.how = 4) := by rw [hws]; intro x hx; cases hx
                  have h8 := get_wait HS0.out hq2 hall
                  have h9 := HS0.out.got T ms0 hall
                  rw [hws] at h8 h9
                  refine Or.inr (Or.inr ⟨hq1, ?_, h8.1, h8.2, h9⟩)
                  intro x hx
                  cases hx
                | cons x r =>
                  rcases HS0.out.first hws with ⟨hxh, hall⟩ | ⟨hxh, hxl0, hxl1, hall⟩
                  · have h8 := get_wait HS0.out hq2 hall
                    have h9 := HS0.out.got T ms0 hall
                    rw [hws] at h8 h9 hall
                    exact Or.inr (Or.inr ⟨hq1, hall, h8.1, h8.2, h9⟩)
                  · have h8 := get_meet HS0.out hq2 hws (by omega)
                    rw [hws, hxh] at h8
                    exact Or.inr (Or.inl ⟨x, r, hq1, rfl, ⟨hxh, hxl0, hxl1⟩, h8.1, h8.2⟩)
              · have hti : (tF s.ws T).isSome = true := by rw [hq3]; rfl
                have h8 := get16 HS0.out hti true
                exact Or.inl ⟨q, hq2, h8.1, h8.2⟩
            obtain ⟨w1, hw1⟩ : ∃ w1, w1 = wr.alloc (.cells oc0A 37) := ⟨_, rfl⟩
            obtain ⟨ob, hob⟩ : ∃ ob, ob = wr.heap.size := ⟨_, rfl⟩
            have HCA : Hid (Calls Try.prog 16 #[.pointer (some ⟨xb, 0, none⟩), .int .i64 5, .int .i64 T, .bool true] w1 fun e w' => e = .returned (ocV (getR s 5 T true)) ∧ (Z11 w' ob ∧ w'.heap[ob]? = some (.cells oc0A 37 (0, 0))) ∧ Hid (∀ w7, Only (fun k => k = ob) w' w7 → OrI W xb (.slice pl N cl) (.slice pw N cw) (s.ws.map (·.thr)) (s.ws.map labF) (getS s 5 T true) w7)) := HO0.out.call (fun U w1 hx => xget_ok hx (by have := HS0.out.ln; omega) 5 T (by unfold I64; omega) iT true) hw1 hob
            unfold oc0A at hw1
            generalize getS s 5 T true = s2 at HREL HCA
            generalize getR s 5 T true = oc at HREL HCA
            obtain ⟨o0, o1, ⟨o2, o3, o4, o5, o6, o7⟩, o8, o9, o10⟩ := oc
            unfold ocV at HCA
            dsimp only at HCA
            clear HAE
            go_wp2_with fail
            refine (HPK.out _).mono ?_
            rintro e w' ⟨rfl, h⟩
            have h3 := h.symm; clear h; subst h3
            go_wp2_with fail
            refine (HPK.out _).mono ?_
            rintro e w' ⟨rfl, h⟩
            have h3 := h.symm; clear h; subst h3
            go_upto_region 28 with fail
            rw [← hw1, ← hob]
            clear hw1 hob
            go_wp2_with fail
            refine HCA.out.mono ?_
            rintro e w2 ⟨rfl, hz, HF⟩
            obtain ⟨⟨z0, z1, z2, z3, z4, z5, z6, z7, z8, z9, z10, zf, zl⟩, hzh⟩ := hz
            have HZH := Vx.hid hzh
            clear hzh
            go_upto_block 4 with fail
            obtain ⟨w3, hw3⟩ : ∃ w3, w3 = (((((((((((w2.setCell ⟨ob, 0, none⟩ (.int .i64 o0)).setCell ⟨ob, 1, none⟩ (.int .i64 o1)).setCell ⟨ob, 2, none⟩ (.int .u32 o2)).setCell ⟨ob, 3, none⟩ (.int .u32 o3)).setCell ⟨ob, 4, none⟩ (.int .u32 o4)).setCell ⟨ob, 5, none⟩ (.int .u32 o5)).setCell ⟨ob, 6, none⟩ (.int .u32 o6)).setCell ⟨ob, 7, none⟩ (.int .u32 o7)).setCell ⟨ob, 8, none⟩ (.bool o8)).setCell ⟨ob, 9, none⟩ (.bool o9)).setCell ⟨ob, 10, none⟩ (.bool o10)) := ⟨_, rfl⟩
            have h3h : w3.heap[ob]? = some (.cells #[.int .i64 o0, .int .i64 o1, .int .u32 o2, .int .u32 o3, .int .u32 o4, .int .u32 o5, .int .u32 o6, .int .u32 o7, .bool o8, .bool o9, .bool o10] 37 (0, 0)) := by rw [hw3]; exact oc_setA HZH.out _ _ _ _ _ _ _ _ _ _ _
            have HO3 := Vx.hid (HF.out w3 (by rw [hw3]; exact only_set11 _ _ _ _ _ _ _ _ _ _ _ _ _))
            have d0 := (cell_of_row _ _ 0 _ _ (0, 0) h3h)
            have d1 := (cell_of_row _ _ 1 _ _ (0, 0) h3h)
            have d2 := (cell_of_row _ _ 2 _ _ (0, 0) h3h)
            have d8 := (cell_of_row _ _ 8 _ _ (0, 0) h3h)
            simp only [List.getElem?_toArray, List.getElem?_cons_zero] at d0
            simp only [List.getElem?_toArray, List.getElem?_cons_zero, List.getElem?_cons_succ] at d1 d2 d8
            rw [← hw3]
            clear hw3 h3h HF HZH z0 z1 z2 z3 z4 z5 z6 z7 z8 z9 z10 zf zl HCA
            go_cut [5, 6, 14] from 94 to 168 (fun v5 v6 _ wx => ∃ (s3 : Bs) (pA pB : Option Addr) (nA cA nB cB : Nat), v5 = .slice pA nA cA ∧ v6 = .slice pB nB cB ∧ Hid (OrI W xb (.slice pA nA cA) (.slice pB nB cB) (s3.ws.map (·.thr)) (s3.ws.map labF) s3 wx ∧ OrS s3 (k + 1) ∧ nA = (s3.ws.map (·.thr)).length))
            case first =>
              rcases HREL.out with ⟨q, haq, hoc, hs2⟩ | ⟨x, r, haa, hws, hxh, hoc, hs2⟩ | ⟨haa, hall, hoc, hs2, hst⟩
              · simp only [oErr, ms0, Oc.mk.injEq, Ms.mk.injEq] at hoc
                obtain ⟨rfl, rfl, ⟨rfl, rfl, rfl, rfl, rfl, rfl⟩, rfl, rfl, rfl⟩ := hoc
                subst haq
                subst hs2
                have hge : 0 ≤ (q : Int) := by omega
                clear HREL
                go_wp2_with fail
                go_meet
                exact ⟨s2, _, _, _, _, _, _, rfl, rfl, HO3.out, HS0.out.succ, by rw [List.length_map]; exact HNN.out⟩
              · obtain ⟨xa, xt, xh, ⟨m0, m1, m2, m3, m4, m5⟩⟩ := x
                replace hoc := hoc.symm
                simp only [oMet, Oc.mk.injEq, Ms.mk.injEq] at hoc
                dsimp only at hxh
                obtain ⟨rfl, rfl, ⟨rfl, rfl, rfl, rfl, rfl, rfl⟩, rfl, ho9, ho10⟩ := hoc
                subst haa
                have hNp : 0 < N := by have := HNN.out; rw [hws] at this; simp at this; omega
                obtain ⟨gl, rfl⟩ := HGL.out (by omega)
                obtain ⟨gw, rfl⟩ := HGW.out (by omega)
                have HNW : Hid (0 < s.ws.length) := by show _ < _; have := HNN.out; omega
                have HX0 : Hid ((s.ws.map (·.thr))[0]'(by rw [List.length_map]; exact HNW.out) = xt ∧ (s.ws.map labF)[0]'(by rw [List.length_map]; exact HNW.out) = m0) := by
                  have e1 : ∀ (h : 0 < s.ws.length), s.ws[0] = ⟨xa, xt, xh, ⟨m0, m1, m2, m3, m4, m5⟩⟩ := fun h => by simp only [hws, List.getElem_cons_zero]
                  constructor
                  · rw [List.getElem_map, e1]
                  · rw [List.getElem_map, e1]
                    unfold labF
                    dsimp only
                    rw [if_neg (by omega)]
                have b0 := own_at HO3.out.m 0 (by rw [List.length_map]; exact HNW.out)
                rw [HX0.out.2] at b0
                have c0 := own_at HO3.out.l 0 (by rw [List.length_map]; exact HNW.out)
                rw [HX0.out.1] at c0
                have hN0 : (0 : Int) < (N : Int) := by omega
                have hq1 : (xt != xt) = false := by simp
                have hq2 : (m0 != m0) = false := by simp
                have hge : 0 ≤ m0 := hxh.2.1
                have hwk2 : IntKind.i64.wrap m0 = m0 := by rw [IntKind.wrap_i64]; omega
                have HCL := Vx.hid (fun wv (ho : Only (fun _ => False) w3 wv) => (HO3.out.quiet ho).cutL 0 (by rw [List.length_map]; have := HNN.out; omega) (by rw [List.length_map]; have := HNN.out; omega))
                have HS2 := Vx.hid hs2
                clear hws hxh HREL hs2 ho9 ho10
                go_upto_region 44 with fail
                go_quiet (fail)
                clear b0 c0 d0 d1 d2 d8
                go_wp2_with fail
                refine (HCL.out _ (by first | exact (Only.refl _ _).drewN _ | exact Only.refl _ _)).mono ?_
                rintro e w4 ⟨v4, rfl, HO4⟩
                obtain ⟨pA, cA, hvA, _⟩ := HO4.out.l.form
                obtain ⟨nA, hnA⟩ : ∃ nA, nA = (cuI (s.ws.map (·.thr)) 0).length := ⟨_, rfl⟩
                rw [← hnA] at hvA
                subst hvA
                have HNA0 := Vx.hid hnA
                clear hnA
                have HCM := Vx.hid (HO4.out.cutM 0 (by rw [List.length_map]; have := HNN.out; omega) (by rw [List.length_map]; have := HNN.out; omega))
                clear HO3 HCL
                go_wp2_with fail
                refine HCM.out.mono ?_
                rintro e w5 ⟨v5, rfl, HO5⟩
                obtain ⟨pB, cB, hvB, _⟩ := HO5.out.m.form
                obtain ⟨nB, hnB⟩ : ∃ nB, nB = (cuI (s.ws.map labF) 0).length := ⟨_, rfl⟩
                rw [← hnB] at hvB
                subst hvB
                clear hnB HCM HO4
                go_wp2_with fail
                go_meet
                rw [← cuI_map, ← cuI_map, HS2.out] at HO5
                exact ⟨⟨s.ps, cuI s.ws 0⟩, _, _, _, _, _, _, rfl, rfl, HO5.out, (HS0.out.cut 0).succ, by rw [HNA0.out, cuI_map]⟩
              · simp only [oWt, ms0, Oc.mk.injEq, Ms.mk.injEq] at hoc
                obtain ⟨rfl, rfl, ⟨rfl, rfl, rfl, rfl, rfl, rfl⟩, rfl, rfl, rfl⟩ := hoc
                subst haa
                have HS1 := Vx.hid hst
                have HS2 := Vx.hid hs2
                clear HREL hst hs2
                cases hws : s.ws with
                | nil =>
                  have hN0 : ¬ (0 : Int) < (N : Int) := by have := HNN.out; rw [hws] at this; simp at this; omega
                  clear hws hall
                  have HLa : Hid ((s.ws.map (·.thr)).length + 1 ≤ 10000000) := by show _ ≤ _; rw [List.length_map]; have := HNN.out; omega
                  have HLb : Hid ((s.ws.map labF).length + 1 ≤ 10000000) := by show _ ≤ _; rw [List.length_map]; have := HNN.out; omega
                  have HBW : Hid (W.heap.size ≤ w3.heap.size) := HO3.out.be.size
                  go_upto_region 34 with (at_builtin; refine wpList_append_one inKi _ rfl _ _ rfl W.heap.size (.slice pl N cl) _ rfl HO3.out.l T _ _ rfl rfl rfl HLa.out HBW.out ?_; intro v4 w4 hv1 hv2 hv3; have HO4 := Vx.hid (HO3.out.putL hv1 hv2 (lies_of hv3)); have HB4 : Hid (W.heap.size ≤ w4.heap.size) := HO4.out.be.size; obtain ⟨pA, cA, hvA, _⟩ := hv1.form; obtain ⟨nA, hnA⟩ : ∃ nA, nA = (s.ws.map (·.thr) ++ [T]).length := ⟨_, rfl⟩; rw [← hnA] at hvA; subst hvA; have HNA0 := Vx.hid hnA; clear hv1 hv2 hv3 hnA)
                  clear d0 d1 d2 d8
                  go_wp2_with (at_builtin; refine wpList_append_one inKi _ rfl _ _ rfl W.heap.size (.slice pw N cw) _ rfl HO4.out.m (-1) _ _ rfl rfl rfl HLb.out HB4.out ?_; intro v5 w5 hv1 hv2 hv3; have HO5 := Vx.hid (HO4.out.putM hv1 hv2 (lies_of hv3)); obtain ⟨pB, cB, hvB, _⟩ := hv1.form; obtain ⟨nB, hnB⟩ : ∃ nB, nB = (s.ws.map labF ++ [(-1)]).length := ⟨_, rfl⟩; rw [← hnB] at hvB; subst hvB; clear hv1 hv2 hv3 hnB)
                  go_meet
                  refine ⟨⟨s.ps, s.ws ++ [⟨5, T, 4, ms0⟩]⟩, pA, pB, nA, cA, nB, cB, rfl, rfl, ?_, HS1.out, ?_⟩
                  · have h8 := HO5.out
                    have e1 : (s.ws ++ [(⟨5, T, 4, ms0⟩ : Wt)]).map (·.thr) = s.ws.map (·.thr) ++ [T] := by rw [List.map_append]; rfl
                    have e2 : (s.ws ++ [(⟨5, T, 4, ms0⟩ : Wt)]).map labF = s.ws.map labF ++ [(-1)] := by rw [List.map_append]; rfl
                    rw [HS2.out] at h8
                    show OrI W xb _ _ ((s.ws ++ [(⟨5, T, 4, ms0⟩ : Wt)]).map (·.thr)) ((s.ws ++ [(⟨5, T, 4, ms0⟩ : Wt)]).map labF) _ w5
                    rw [e1, e2]
                    exact h8
                  · have e1 : (s.ws ++ [(⟨5, T, 4, ms0⟩ : Wt)]).map (·.thr) = s.ws.map (·.thr) ++ [T] := by rw [List.map_append]; rfl
                    show nA = ((s.ws ++ [(⟨5, T, 4, ms0⟩ : Wt)]).map (·.thr)).length
                    rw [e1]
                    exact HNA0.out
                | cons x r =>
                  have hxh := hall x (by rw [hws]; exact List.mem_cons_self)
                  have hNp : 0 < N := by have := HNN.out; rw [hws] at this; simp at this; omega
                  obtain ⟨gl, rfl⟩ := HGL.out (by omega)
                  obtain ⟨gw, rfl⟩ := HGW.out (by omega)
                  have HNW : Hid (0 < s.ws.length) := by show _ < _; have := HNN.out; omega
                  have hN0 : (0 : Int) < (N : Int) := by omega
                  have HX0 : Hid ((s.ws.map labF)[0]'(by rw [List.length_map]; exact HNW.out) = -1) := by
                    have e1 : ∀ (h : 0 < s.ws.length), s.ws[0] = x := fun h => by simp only [hws, List.getElem_cons_zero]
                    show _ = _
                    rw [List.getElem_map, e1]
                    unfold labF
                    rw [if_pos hxh]
                  have b0 := own_at HO3.out.m 0 (by rw [List.length_map]; exact HNW.out)
                  rw [HX0.out] at b0
                  clear hws hall hxh
                  have HLa : Hid ((s.ws.map (·.thr)).length + 1 ≤ 10000000) := by show _ ≤ _; rw [List.length_map]; have := HNN.out; omega
                  have HLb : Hid ((s.ws.map labF).length + 1 ≤ 10000000) := by show _ ≤ _; rw [List.length_map]; have := HNN.out; omega
                  have HBW : Hid (W.heap.size ≤ w3.heap.size) := HO3.out.be.size
                  go_upto_region 34 with (at_builtin; refine wpList_append_one inKi _ rfl _ _ rfl W.heap.size (.slice (some ⟨gl, 0, none⟩) N cl) _ rfl HO3.out.l T _ _ rfl rfl rfl HLa.out HBW.out ?_; intro v4 w4 hv1 hv2 hv3; have HO4 := Vx.hid (HO3.out.putL hv1 hv2 (lies_of hv3)); have HB4 : Hid (W.heap.size ≤ w4.heap.size) := HO4.out.be.size; obtain ⟨pA, cA, hvA, _⟩ := hv1.form; obtain ⟨nA, hnA⟩ : ∃ nA, nA = (s.ws.map (·.thr) ++ [T]).length := ⟨_, rfl⟩; rw [← hnA] at hvA; subst hvA; have HNA0 := Vx.hid hnA; clear hv1 hv2 hv3 hnA)
                  clear d0 d1 d2 d8
                  go_wp2_with (at_builtin; refine wpList_append_one inKi _ rfl _ _ rfl W.heap.size (.slice (some ⟨gw, 0, none⟩) N cw) _ rfl HO4.out.m (-1) _ _ rfl rfl rfl HLb.out HB4.out ?_; intro v5 w5 hv1 hv2 hv3; have HO5 := Vx.hid (HO4.out.putM hv1 hv2 (lies_of hv3)); obtain ⟨pB, cB, hvB, _⟩ := hv1.form; obtain ⟨nB, hnB⟩ : ∃ nB, nB = (s.ws.map labF ++ [(-1)]).length := ⟨_, rfl⟩; rw [← hnB] at hvB; subst hvB; clear hv1 hv2 hv3 hnB)
                  go_meet
                  refine ⟨⟨s.ps, s.ws ++ [⟨5, T, 4, ms0⟩]⟩, pA, pB, nA, cA, nB, cB, rfl, rfl, ?_, HS1.out, ?_⟩
                  · have h8 := HO5.out
                    have e1 : (s.ws ++ [(⟨5, T, 4, ms0⟩ : Wt)]).map (·.thr) = s.ws.map (·.thr) ++ [T] := by rw [List.map_append]; rfl
                    have e2 : (s.ws ++ [(⟨5, T, 4, ms0⟩ : Wt)]).map labF = s.ws.map labF ++ [(-1)] := by rw [List.map_append]; rfl
                    rw [HS2.out] at h8
                    show OrI W xb _ _ ((s.ws ++ [(⟨5, T, 4, ms0⟩ : Wt)]).map (·.thr)) ((s.ws ++ [(⟨5, T, 4, ms0⟩ : Wt)]).map labF) _ w5
                    rw [e1, e2]
                    exact h8
                  · have e1 : (s.ws ++ [(⟨5, T, 4, ms0⟩ : Wt)]).map (·.thr) = s.ws.map (·.thr) ++ [T] := by rw [List.map_append]; rfl
                    show nA = ((s.ws ++ [(⟨5, T, 4, ms0⟩ : Wt)]).map (·.thr)).length
                    rw [e1]
                    exact HNA0.out
            case rest =>
              obtain ⟨s2, pA, pB, nA, cA, nB, cB, rfl, rfl, HCC⟩ := hcut
              have HO := Vx.hid HCC.out.1
              have HS := Vx.hid HCC.out.2.1
              have HNA := Vx.hid HCC.out.2.2
              clear HCC HO3 HREL d0 d1 d2 d8
              have HLN := Vx.hid (HO.out.line HS.out)
              go_wp2_with fail
              refine HLN.out.mono ?_
              rintro e w9 ⟨v9, rfl, H9⟩
              obtain ⟨p9, c9, hv9, _, _, hg9⟩ := H9.out.2.form
              rw [← HNA.out] at hv9 hg9
              subst hv9
              have HG9 : Hid (0 < nA → ∃ g, p9 = some ⟨g, 0, none⟩) := fun h => by obtain ⟨g, hg, _⟩ := hg9 h; exact ⟨g, hg⟩
              have HGA : Hid (0 < nA → ∃ g, pA = some ⟨g, 0, none⟩) := fun h => by
                obtain ⟨p8, c8, hv8, _, _, hg8⟩ := H9.out.1.l.form
                rw [← HNA.out] at hv8 hg8
                simp only [Value.slice.injEq] at hv8
                obtain ⟨g, hg, _⟩ := hg8 h
                exact ⟨g, by rw [hv8.1, hg]⟩
              have hnn : ((nA : Int) != (nA : Int)) = false := by simp
              have hnA : nA ≤ 2001 := by have := HS.out.ln; have := HNA.out; rw [List.length_map] at this; omega
              clear hg9 HLN HO
              go_wp2_with fail
              go_loopw [17] (fun d wq => ∃ j : Nat, d = .int .i64 (j : Int) ∧ j ≤ nA ∧ Hid (Only (fun _ => False) w9 wq)) (fun d _ => nA - (RowKit.intOf d).toNat)
              case atStart => exact ⟨0, rfl, by omega, Only.refl _ _⟩
              case round =>
                obtain ⟨j, rfl, hj, HQ⟩ := hrel
                by_cases hjl : j < nA
                · have g1 : (j : Int) < (nA : Int) := by omega
                  have gi : 0 ≤ (j : Int) ∧ (j : Int) < (nA : Int) := by omega
                  have gw : IntKind.i64.wrap ((j : Int) + 1) = (j : Int) + 1 := by rw [IntKind.wrap_i64]; omega
                  obtain ⟨g9, rfl⟩ := HG9.out (by omega)
                  obtain ⟨gA, rfl⟩ := HGA.out (by omega)
                  have hjx : j < (s2.ws.map (·.thr)).length := by have := HNA.out; omega
                  have r9 := own_at (H9.out.2.kept HQ.out (fun _ _ h => h)) j hjx
                  have rA := own_at (H9.out.1.quiet HQ.out).l j hjx
                  generalize (s2.ws.map (·.thr))[j] = y at r9 rA
                  have hyy : (y != y) = false := by simp
                  clear hjl hjx
                  go_wp2_with fail
                  go_quiet (fail)
                  go_wp2_with fail
                  go_roundw
                  case rel => exact ⟨j + 1, by go_num, by omega, HQ.out.drewN _⟩
                  case measure => simp only [RowKit.intOf]; omega
                · obtain rfl : j = nA := by omega
                  have g1 : ¬ (j : Int) < (j : Int) := by omega
                  have HFX := Vx.hid (H9.out.1.quiet HQ.out)
                  clear hjl
                  go_wp2_with fail
                  go_roundw
                  case rel => exact ⟨k + 1, s2, by go_num, by omega, by omega, HFX.out, HS.out⟩
                  case measure => simp only [RowKit.intOf]; omega
          · rcases HAE.out with ⟨hq1, hq2⟩ | ⟨q, hq1, hq2, hq3⟩
            · obtain rfl : aa = -1 := hq1
              have HCA : Hid (Calls Try.prog 13 #[.pointer (some ⟨xb, 0, none⟩), .int .i64 T] wr fun e w' => e = .returned (.int .i64 16) ∧ Hid (OrI W xb (.slice pl N cl) (.slice pw N cw) (s.ws.map (·.thr)) (s.ws.map labF) s w')) := HO0.out.callP (fun U w1 hx => by
                have h8 := xcancel_ok hx T iT
                have e1 : cancE s T = 16 := by unfold cancE; rw [hq2]
                have e2 : cancS s T = s := by unfold cancS; rw [hq2]
                rw [e1, e2] at h8
                exact h8)
              have HS := Vx.hid HS0.out.succ
              clear HAE hq2
              go_wp2_with fail
              refine (HPK.out _).mono ?_
              rintro e w' ⟨rfl, h⟩
              have h3 := h.symm; clear h; subst h3
              go_wp2_with fail
              refine (HPK.out _).mono ?_
              rintro e w' ⟨rfl, h⟩
              have h3 := h.symm; clear h; subst h3
              go_wp2_with fail
              refine HCA.out.mono ?_
              rintro e w2 ⟨rfl, HO2⟩
              go_wp2_with fail
              go_roundw
              case rel => exact ⟨k + 1, s, by go_num, by omega, by omega, HO2.out, HS.out⟩
              case measure => simp only [RowKit.intOf]; omega
            · obtain rfl : aa = (q : Int) := hq2
              have HCA : Hid (Calls Try.prog 13 #[.pointer (some ⟨xb, 0, none⟩), .int .i64 T] wr fun e w' => e = .returned (.int .i64 0) ∧ Hid (OrI W xb (.slice pl N cl) (.slice pw N cw) (s.ws.map (·.thr)) (s.ws.map labF) ⟨s.ps, cuI s.ws q⟩ w')) := HO0.out.callP (fun U w1 hx => by
                have h8 := xcancel_ok hx T iT
                have e1 : cancE s T = 0 := by unfold cancE; rw [hq3]
                have e2 : cancS s T = ⟨s.ps, cuI s.ws q⟩ := by unfold cancS; rw [hq3]
                rw [e1, e2] at h8
                exact h8)
              have HS := Vx.hid (HS0.out.cut q).succ
              have HQL : Hid (q < s.ws.length) := hq1
              have hge : 0 ≤ (q : Int) := by omega
              clear HAE hq1 hq3
              go_wp2_with fail
              refine (HPK.out _).mono ?_
              rintro e w' ⟨rfl, h⟩
              have h3 := h.symm; clear h; subst h3
              go_wp2_with fail
              refine (HPK.out _).mono ?_
              rintro e w' ⟨rfl, h⟩
              have h3 := h.symm; clear h; subst h3
              go_wp2_with fail
              refine HCA.out.mono ?_
              rintro e w2 ⟨rfl, HO2⟩
              have HCL := Vx.hid (cutk_ok HO2.out.l q (by rw [List.length_map]; exact HQL.out) (by rw [List.length_map]; have := HNN.out; omega))
              go_wp2_with fail
              refine HCL.out.mono ?_
              rintro e w4 ⟨v4, rfl, hv4, ho4⟩
              have HO4 := Vx.hid (HO2.out.putL (own_lower hv4 HO2.out.be.size) (ho4.mono (fun _ _ h => h.elim)) (fun j hj => Or.inr (own_lt hv4 hj).1))
              have HCM := Vx.hid (cutk_ok HO4.out.m q (by rw [List.length_map]; exact HQL.out) (by rw [List.length_map]; have := HNN.out; omega))
              clear hv4 ho4 HO2 HCL
              go_wp2_with fail
              refine HCM.out.mono ?_
              rintro e w5 ⟨v5, rfl, hv5, ho5⟩
              have HO5 := Vx.hid (HO4.out.putM (own_lower hv5 HO4.out.be.size) (ho5.mono (fun _ _ h => h.elim)) (fun j hj => Or.inr (own_lt hv5 hj).1))
              rw [← cuI_map, ← cuI_map] at HO5
              clear hv5 ho5 HO4 HCM
              go_wp2_with fail
              go_roundw
              case rel => exact ⟨k + 1, ⟨s.ps, cuI s.ws q⟩, by go_num, by omega, by omega, HO5.out, HS.out⟩
              case measure => simp only [RowKit.intOf]; omega
    · have HFB := Vx.hid HO0.out.be
      by_cases hl : k < len
      · have h1 : (k : Int) < (len : Int) := by omega
        have h2 : ¬ (k : Int) < 2000 := by omega
        go_wp2_with fail
        all_goals
          go_ret
          exact ⟨by try rfl, HFB.out⟩
      · have h1 : ¬ (k : Int) < (len : Int) := by omega
        go_wp2_with fail
        all_goals
          go_ret
          exact ⟨by try rfl, HFB.out⟩
end Go.Proofs.Ytdpgdjpphnbfnaa

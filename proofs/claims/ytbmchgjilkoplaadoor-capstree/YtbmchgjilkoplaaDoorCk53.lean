import Derived.Test.YtbmchgjilkoplaaDoorCk51
import Derived.Test.YtbmchgjilkoplaaDoorCk52
/- CapsRevoked's walk. -/
namespace Go.Proofs.YtbmchgjilkoplaaDoor
open Go.ChangeShapes Go.WideShapes Go.ChangeAt Go.RowKit
open Go.Vx
set_option linter.unusedVariables false

theorem XcAt.more {U : Nat → Prop} {w w2 : World} {xb : Nat} {bs : List (Int × Int)} {es : List En} (h : XcAt U w xb bs es) (ho : Only (fun _ => False) w w2) : XcAt (fun k => U k ∨ (w.heap.size ≤ k ∧ k < w2.heap.size)) w2 xb bs es := by
  obtain ⟨mb, D, G, h, h2⟩ := h
  exact ⟨mb, D, G, h.more ho, h2⟩
theorem below_eq {es : List En} (hf : Wf two16 es) (hx : Wx two16 es) (D q : Nat) (hq : q < 32) : BelowL two16 es D (plcN q) = belN es (D + 1) (plcN q) := by
  rcases full16 es q hq with ⟨i, hi⟩ | hi
  · unfold BelowL; rw [hi]
  · have h1 : BelowL two16 es D (plcN q) = [] := by unfold BelowL; rw [hi]
    rw [h1]
    symm
    unfold belN
    rw [List.flatMap_eq_nil_iff]
    intro e he
    rw [if_neg]
    intro hE
    rcases hf.fr e he with h2 | ⟨e2, h2, h3⟩
    · rw [hE] at h2
      have := (plc_i64 q hq).2.1
      rw [h2] at this
      exact this rfl
    · obtain ⟨j, hj⟩ := full_mem hf hx h2
      rw [h3, hE, hi] at hj
      cases hj
theorem below_ns {V : Nat → Prop} {W w w2 : World} (hb : Below W.heap.size W w) (h1 : NsAt w) (h2 : NsAt w2) (ho : Only (fun k => ¬ V k) w w2) (hv : ∀ k, k < W.heap.size → k ≠ 0 → V k) : Below W.heap.size W w2 := by
  have ho2 : Only (fun k => ¬ V k ∧ k ≠ 0) w w2 := ⟨ho.os, ho.tape, ho.output, ho.size, fun k hk hn => by
    by_cases h3 : k = 0
    · subst h3
      rw [h1, h2]
    · exact ho.block k hk (fun h4 => hn ⟨h4, h3⟩)⟩
  exact hb.trans (ho2.below hb.size (fun k hk hn => hn.1 (hv k hk hn.2)))
theorem own_keep {α : Type} {L : Lay α} {S : Nat → Prop} {w w' : World} {base : Nat} {e : TypeId} {v : Value} {xs : List α} (h : OwnL L w base e v xs) (ho : Only S w w') (hS : ∀ k, base ≤ k → k < w.heap.size → ¬ S k) : OwnL L w' base e v xs := by
  by_cases h0 : v.ownBlock = none
  · exact h.kept ho (fun k hk => by rw [h0] at hk; cases hk)
  · refine h.kept ho (fun k hk => ?_)
    rcases h.2 with ⟨hv, _⟩ | ⟨g, cap, cur, hv, hb, hg, _⟩
    · rw [hv] at hk; cases hk
    · rw [hv] at hk
      have : g = k := by simpa [Value.ownBlock] using hk
      subst this
      exact hS _ hb (lt_of_some hg)
theorem lie_at {α : Type} {L : Lay α} {w : World} {p : Option Addr} {n c : Nat} {xs : List α} (h : LieL L w (.slice p n c) xs) (k : Nat) (hk : k < xs.length) : ∃ g, p = some ⟨g, 0, none⟩ ∧ ∀ j, j < L.sz → w.cell? ⟨g, k * L.sz + j, none⟩ = (L.cf xs[k])[j]? := by
  obtain ⟨p0, c0, he, _, h⟩ := h
  injection he with h1 h2 h3
  subst h1
  exact h k hk
set_option maxRecDepth 100000 in
set_option maxHeartbeats 8000000 in
theorem capsRevoked_call (W : World) (hns : NsAt W) (pa : Option Addr) (len cap : Nat) (zs : List (Int × Int × Int)) (hlen : zs.length = len) (hlc : len ≤ cap) (hcm : cap ≤ maxLen) (hp : GrAt W pa zs) (hz : ∀ z ∈ zs, I64 z.1 ∧ I64 z.2.1 ∧ I64 z.2.2) (at0 : Int) (hat : I64 at0) :
    Calls Tryd.prog 5 #[.slice pa len cap, .int .i64 at0] W fun e w' => e = .returned (.bool true) ∧ Below W.heap.size W w' := by
  have HG := Vx.hid (grown_ok W hns pa len cap zs hlen hlc hcm hp hz)
  have HPL := Vx.hid (fun wv => place_ok at0 hat wv)
  have hq := pickL_lt at0 32 (by decide)
  generalize pickL at0 32 = q at HPL hq
  clear hns hlen hlc hcm hp hz hat
  go_enter Tryd.func5, Tryd.ntmps5
  go_wp2_with fail
  refine HG.out.mono ?_
  rintro e w1 ⟨xb, es, rfl, hc, h7, hl, hb⟩
  have hsc := store_new_up w1 (uF es)
  have HC := Vx.hid hc
  have HL := Vx.hid hl
  have HB := Vx.hid hb
  have hsz : (upL (uF es)).length = 32 := length_upL _
  clear hc h7 hl hb HG
  go_upto_region 4 with fail
  clear hsc hsz
  obtain ⟨w2, hw2⟩ : ∃ w2, w2 = w1.alloc (.cells (upL (uF es)).toArray 52) := ⟨_, rfl⟩
  rw [← hw2]
  have HO2 : Hid (Only (fun _ => False) w1 w2) := by rw [hw2]; exact (Only.refl _ _).alloc _
  clear hw2
  go_wp2_with fail
  refine (HPL.out _).mono ?_
  rintro e w3 ⟨rfl, ho3⟩
  have HO3 : Hid (Only (fun _ => False) w1 w3) := HO2.out.trans ho3
  clear ho3 HO2 HPL
  unfold slV
  go_upto_region 5 with fail
  obtain ⟨w4, hw4⟩ : ∃ w4, w4 = w3.alloc (.cells #[.int .i64 (plcN q).1, .int .i64 (plcN q).2] 62 (0, 0)) := ⟨_, rfl⟩
  rw [← hw4]
  have HO4 : Hid (Only (fun _ => False) w1 w4) := by rw [hw4]; exact HO3.out.alloc _
  have HR4 : Hid (w4.heap[w3.heap.size]? = some (.cells #[.int .i64 (plcN q).1, .int .i64 (plcN q).2] 62 (0, 0))) := by rw [hw4]; exact heap_alloc_last _ _
  have HRG : Hid (w1.heap.size ≤ w3.heap.size) := HO3.out.size
  obtain ⟨rb, hrb⟩ : ∃ rb, rb = w3.heap.size := ⟨_, rfl⟩
  rw [← hrb] at HR4 HRG ⊢
  clear hw4 hrb HO3
  have HEN := Vx.hid (xentries_ok (HC.out.quiet HO4.out))
  go_wp2_with fail
  refine HEN.out.mono ?_
  rintro e w5 ⟨av, rfl, hav, ho5⟩
  have HAV := Vx.hid hav
  have HO5 : Hid (Only (fun _ => False) w1 w5) := HO4.out.trans ho5
  have HR5 := Vx.hid (Only.keep ho5 HR4.out (fun h => h))
  have HS4 : Hid (w1.heap.size ≤ w4.heap.size) := HO4.out.size
  clear hav ho5 HO4 HEN HR4
  have HWF := Vx.hid HC.out.wf
  obtain ⟨r, D, hr, hD, hLB⟩ := HWF.out.1.deep (by have := HL.out; omega)
  have HBE := Vx.hid (xbelow_ok (HC.out.quiet HO5.out) r D hr hD hLB (plcN q) (plc_i64 q hq).1)
  rw [below_eq HWF.out.1 HWF.out.2 D q hq] at HBE
  have HRV := Vx.hid (revoked_ok HWF.out.1 HWF.out.2 hr hD (size16 q hq) (plc_i64 q hq).2.2.1 (plc_i64 q hq).2.2.2)
  have HTL := Vx.hid (fun j hj => take_last HWF.out.1 HWF.out.2 hr hD (plcN q) j hj)
  have HLB := Vx.hid (hLB (D + 1) (plcN q))
  have HBI : Hid (∀ t ∈ belN es (D + 1) (plcN q), I64 t.1) := fun t ht => by
    obtain ⟨e, he, rfl⟩ := List.mem_map.1 (belN_mem es _ _ t ht)
    exact (at_sli HWF.out.1 HWF.out.2 he).1
  clear hr hD hLB
  generalize belN es (D + 1) (plcN q) = B at HBE HRV HTL HLB HBI
  obtain ⟨⟨y0, y1⟩, _⟩ := slot_cells HR5.out
  go_wp2_with fail
  refine HBE.out.mono ?_
  rintro e w6 ⟨bv, rfl, hbv, ho6⟩
  clear y0 y1 HBE
  have HO6 : Hid (Only (fun _ => False) w1 w6) := HO5.out.trans ho6
  have HR6 := Vx.hid (Only.keep ho6 HR5.out (fun h => h))
  have HAV6 := Vx.hid (HAV.out.kept ho6 (fun _ _ h => h))
  have HX6 := Vx.hid (HC.out.more HO6.out)
  have HS5 : Hid (w1.heap.size ≤ w5.heap.size) := HO5.out.size
  obtain ⟨V, hV⟩ : ∃ V : Nat → Prop, V = fun k => (k < W.heap.size ∧ k ≠ 0) ∨ (w1.heap.size ≤ k ∧ k < w6.heap.size) := ⟨_, rfl⟩
  have HX0 : Hid (XcAt V w6 xb two16 (keptF es (B.drop B.length))) := by
    rw [List.drop_length, kept_nil, hV]
    exact HX6.out
  have HVB : Hid (∀ k, k < W.heap.size → k ≠ 0 → V k) := fun k h1 h2 => by rw [hV]; exact Or.inl ⟨h1, h2⟩
  have HVN : Hid (∀ k, w1.heap.size ≤ k → k < w6.heap.size → V k) := fun k h1 h2 => by rw [hV]; exact Or.inr ⟨h1, h2⟩
  have HB6 : Hid (Below W.heap.size W w6) := HB.out.trans (HO6.out.below HB.out.size (fun _ _ h => h))
  have HLA : Hid (∀ wv, Only (fun k => ¬ V k) w6 wv → LieL enL wv av es) := fun wv hv => own_lie (own_keep HAV6.out hv (fun k h1 h2 h3 => h3 (HVN.out k (by have := HS4.out; omega) h2))) (by have := HL.out; omega)
  have HLS : Hid (∀ wv, Only (fun k => ¬ V k) w6 wv → LieL slL wv bv B) := fun wv hv => own_lie (own_keep hbv hv (fun k h1 h2 h3 => h3 (HVN.out k (by have := HS5.out; omega) h2))) (by have := HLB.out; omega)
  have HRT : Hid (∀ wv, Only (fun k => ¬ V k) w6 wv → wv.cell? ⟨rb, 0, none⟩ = some (.int .i64 (plcN q).1) ∧ wv.cell? ⟨rb, 1, none⟩ = some (.int .i64 (plcN q).2)) := fun wv hv => (slot_cells (Only.keep hv HR6.out (fun h => h (HVN.out rb HRG.out (lt_of_some HR6.out))))).1
  have HEE := Vx.hid HRV.out.1
  have HN6 := Vx.hid HX6.out.ns
  obtain ⟨pB, cB, rfl, hcB, _⟩ := hbv.form
  obtain ⟨pA, cA, rfl, hcA, _⟩ := HAV6.out.form
  clear hbv ho6 hV HAV HAV6 HR5 HR6 HX6 HO5 HO6 HS4 HS5 HRG HB HC HVN hcA hcB
  have hN1 : es.length ≤ 1000 := HL.out
  obtain ⟨N, hN⟩ : ∃ N, N = es.length := ⟨_, rfl⟩
  have HN := Vx.hid hN
  have hM1 : B.length ≤ N := by have := HRV.out.2.2; omega
  rw [← hN] at hN1 HLA ⊢
  clear hN
  obtain ⟨M, hM⟩ : ∃ M, M = B.length := ⟨_, rfl⟩
  have HM := Vx.hid hM
  rw [← hM] at hM1 HX0 HLS ⊢
  clear hM
  have hwM : IntKind.i64.wrap ((M : Int) - 1) = (M : Int) - 1 := by rw [IntKind.wrap_i64]; omega
  generalize hER : fullE (fullF two16 es (plcN q)) = er at HEE ⊢
  clear hER
  go_wp2_with fail
  go_loopw [12] (fun d wr => ∃ j : Nat, d = .int .i64 ((j : Int) - 1) ∧ j ≤ M ∧ Hid (XcAt V wr xb two16 (keptF es (B.drop j))) ∧ Hid (Only (fun k => ¬ V k) w6 wr)) (fun d _ => (intOf d + 1).toNat)
  case atStart => exact ⟨M, rfl, Nat.le_refl _, HX0, Only.refl _ _⟩
  case round =>
    clear HX0 hwM
    obtain ⟨j, rfl, hj, HX, HO⟩ := hrel
    cases j with
    | succ i =>
      have hd : ((i + 1 : Nat) : Int) - 1 = (i : Int) := by omega
      rw [hd]
      have hil : i < B.length := by have := HM.out; omega
      have h1 : (0 : Int) ≤ (i : Int) := by omega
      have hidi : 0 ≤ (i : Int) ∧ (i : Int) < (M : Int) := by omega
      have hwi : IntKind.i64.wrap ((i : Int) - 1) = (i : Int) - 1 := by rw [IntKind.wrap_i64]; omega
      obtain ⟨⟨ix, hix⟩, htl⟩ := HTL.out i hil HX.out.wf.1 HX.out.wf.2
      have HTK := Vx.hid (xtake_ok HX.out B[i] (HBI.out _ (List.getElem_mem hil)))
      rw [htl, show (takeR two16 (keptF es (B.drop (i + 1))) B[i]).2 = _ from getF_e two16 _ _, hix] at HTK
      obtain ⟨g, hpB, hz0, hz1⟩ : ∃ g, pB = some ⟨g, 0, none⟩ ∧ wr.cell? ⟨g, i * 2, none⟩ = some (.int .i64 (B[i]).1) ∧ wr.cell? ⟨g, i * 2 + 1, none⟩ = some (.int .i64 (B[i]).2) := by
        obtain ⟨p0, c0, hpe, _, hq0⟩ := HLS.out wr HO.out
        injection hpe with hp1 hp2 hp3
        obtain ⟨g, hg, hcj⟩ := hq0 i hil
        exact ⟨g, by rw [hp1]; exact hg, hcj 0 (by decide), hcj 1 (by decide)⟩
      subst hpB
      generalize (takeR two16 (keptF es (B.drop (i + 1))) B[i]).1 = cc at HTK
      obtain ⟨s0, s1, s2, s3, s4, s5, s6, s7⟩ := cc
      simp only [cpV] at HTK
      generalize B[i] = z at HTK hz0 hz1
      obtain ⟨z1, z2⟩ := z
      dsimp only at HTK hz0 hz1
      clear htl hix hil HX hd
      have HTK2 : Hid (Calls Tryd.prog 22 #[.pointer (some ⟨xb, 0, none⟩), .agg #[.int .i64 z1, .int .i64 z2]] wr fun e w' => e = .returned (.tuple #[.agg #[.int .i64 s0, .int .i64 s1, .int .i64 s2, .int .u32 s3, .int .u32 s4, .int .i64 s5, .int .i64 s6, .int .u32 s7], .int .i64 0]) ∧ XcAt V w' xb two16 (keptF es (B.drop i)) ∧ Only (fun k => ¬ V k) wr w') := HTK.out
      clear HTK
      go_wp2_with fail
      refine HTK2.out.mono ?_
      rintro e w7 ⟨rfl, hX7, hO7⟩
      have HX7 : Hid (∀ o, XcAt V (w7.alloc o) xb two16 (keptF es (B.drop i))) := fun o => hX7.quiet ((Only.refl _ _).alloc o)
      have HO7 : Hid (∀ o, Only (fun k => ¬ V k) w6 (w7.alloc o)) := fun o => (HO.out.trans hO7).alloc o
      clear hX7 hO7 HO hz0 hz1 HTK2
      go_wp2_with fail
      go_roundw
      case rel => exact ⟨i, by go_num, by omega, HX7.out _, HO7.out _⟩
      case measure => simp only [intOf]; omega
    | zero =>
      have hd : ((0 : Nat) : Int) - 1 = -1 := rfl
      rw [hd]
      rw [List.drop_zero] at HX
      have HWK := Vx.hid HX.out.wf
      have HKL : Hid ((keptF es B).length ≤ N) := by have h1 := HRV.out.2.2; have h2 := HN.out; show (keptF es B).length ≤ N; omega
      obtain ⟨r2, D2, hr2, hD2, hLB2⟩ := HWK.out.1.deep (by have := HKL.out; omega)
      have HEN := Vx.hid (xentries_ok HX.out)
      clear hd hj HTL HLB HBI
      go_wp2_with fail
      refine HEN.out.mono ?_
      rintro e w8 ⟨nv, rfl, hnv, ho8⟩
      have HX8 := Vx.hid (HX.out.quiet ho8)
      have HO8 : Hid (Only (fun k => ¬ V k) w6 w8) := HO.out.trans (ho8.mono (fun _ _ h => h.elim))
      have HBE := Vx.hid (xbelow_ok HX8.out r2 D2 hr2 hD2 hLB2 (plcN q) (plc_i64 q hq).1)
      rw [below_none (D := D2) HRV.out.2.1, ← HEE.out] at HBE
      obtain ⟨y0, y1⟩ := HRT.out w8 HO8.out
      have HNV := Vx.hid hnv
      clear hr2 hD2 hLB2 ho8 HO HX HEN hnv
      go_wp2_with fail
      refine HBE.out.mono ?_
      rintro e w9 ⟨cv, rfl, hcv, ho9⟩
      obtain ⟨pC, cC, rfl, _⟩ := hcv.form
      have HN9 := Vx.hid (own_lie (HNV.out.kept ho9 (fun _ _ h => h)) (by have := HKL.out; omega))
      have HO9 : Hid (Only (fun k => ¬ V k) w6 w9) := HO8.out.trans (ho9.mono (fun _ _ h => h.elim))
      have HBF : Hid (∀ wv, Only (fun _ => False) w9 wv → Below W.heap.size W wv) := fun wv hv => below_ns HB6.out HN6.out (((HX8.out.quiet ho9).quiet hv).ns) (HO9.out.trans (hv.mono (fun _ _ h => h.elim))) HVB.out
      have HWA : Hid (∀ wv, Only (fun _ => False) w9 wv → LieL enL wv (.slice pA N cA) es) := fun wv hv => HLA.out wv (HO9.out.trans (hv.mono (fun _ _ h => h.elim)))
      have HWB : Hid (∀ wv, Only (fun _ => False) w9 wv → LieL slL wv (.slice pB M cB) B) := fun wv hv => HLS.out wv (HO9.out.trans (hv.mono (fun _ _ h => h.elim)))
      have HWN : Hid (∀ wv, Only (fun _ => False) w9 wv → LieL enL wv nv (keptF es B)) := fun wv hv => HN9.out.enq hv
      have hKM := HRV.out.2.2
      obtain ⟨pN, cN, hnv, _⟩ := HN9.out
      subst hnv
      obtain ⟨K, hK⟩ : ∃ K, K = (keptF es B).length := ⟨_, rfl⟩
      have HK := Vx.hid hK
      rw [← hK] at hKM HWN ⊢
      rw [← HM.out, ← HN.out] at hKM
      have hwD : IntKind.i64.wrap ((N : Int) - (M : Int)) = (K : Int) := by rw [IntKind.wrap_i64]; omega
      have hwD2 : (N : Int) - (M : Int) = (K : Int) := by omega
      have hwD3 : IntKind.i64.wrap (K : Int) = (K : Int) := by rw [IntKind.wrap_i64]; omega
      clear hK y0 y1 hcv ho9 HN9 HNV HO8 HO9 HBE HX8 HRV HLA HLS HRT HWK HKL HEE HB6 HN6 HVB HWF
      go_wp2_with fail
      go_loopw [18, 19] (fun k2 d wr => ∃ k : Nat, k2 = .int .i64 ((keepN es B k : Nat) : Int) ∧ d = .int .i64 (k : Int) ∧ k ≤ N ∧ Hid (Only (fun _ => False) w9 wr)) (fun _ d _ => N - (intOf d).toNat)
      case atStart => exact ⟨0, by rw [keep_zero]; rfl, rfl, by omega, Only.refl _ _⟩
      case round =>
        clear hwD hwD2 hwD3
        obtain ⟨k, rfl, rfl, hk, HO⟩ := hrel
        by_cases hlt : k < N
        · have hkl : k < es.length := by have := HN.out; omega
          have h1 : (k : Int) < (N : Int) := by omega
          have hidk : 0 ≤ (k : Int) ∧ (k : Int) < (N : Int) := by omega
          have hwk : IntKind.i64.wrap ((k : Int) + 1) = (k : Int) + 1 := by rw [IntKind.wrap_i64]; omega
          obtain ⟨gA, hpA, hA0⟩ := lie_at (HWA.out _ HO.out) k hkl
          subst hpA
          have HKA := Vx.hid (keep_at B k hkl)
          have HAA : Hid (∀ wv, Only (fun _ => False) w9 wv → ∀ j, j < 12 → wv.cell? ⟨gA, k * 12 + j, none⟩ = (enC es[k])[j]?) := fun wv hv => by
            obtain ⟨g2, hg2, h2⟩ := lie_at (HWA.out wv hv) k hkl
            injection hg2 with hg2
            injection hg2 with hg2
            subst hg2
            exact h2
          have HST := Vx.hid (keep_step B k hkl)
          have hcn := keep_le (es := es) B k
          generalize hn2 : keepN es B (k + 1) = n2 at HST
          have HNX := Vx.hid hn2
          generalize keepN es B k = n0 at HST hcn HKA ⊢
          have hwn : IntKind.i64.wrap ((n0 : Int) + 1) = (n0 : Int) + 1 := by rw [IntKind.wrap_i64]; omega
          generalize hz : es[k] = z at HAA HST HKA hA0
          obtain ⟨⟨a1, a2⟩, ⟨c0, c1, c2, c3, c4, c5, c6, c7⟩, ⟨f1, f2⟩⟩ := z
          dsimp only at HST HKA
          have HH1 : Hid (∀ wv, Only (fun _ => False) w9 wv → Calls Tryd.prog 20 #[.slice pB M cB, .agg #[.int .i64 a1, .int .i64 a2]] wv fun e w' => e = .returned (.bool (decide ((a1, a2) ∈ B))) ∧ Only (fun _ => False) wv w') := fun wv hv => has_ok (HWB.out wv hv) (a1, a2)
          have x0 : wr.cell? ⟨gA, k * 12, none⟩ = some (.int .i64 a1) := hA0 0 (by decide)
          have x1 : wr.cell? ⟨gA, k * 12 + 1, none⟩ = some (.int .i64 a2) := hA0 1 (by decide)
          clear hlt hkl hz hn2 hA0
          go_wp2_with fail
          refine (HH1.out _ HO.out).mono ?_
          rintro e wq ⟨rfl, hoq⟩
          have HOq : Hid (Only (fun _ => False) w9 wq) := HO.out.trans hoq
          clear hoq x0 x1 HO HH1
          by_cases hin : (a1, a2) ∈ B
          · rw [decide_eq_true hin]
            have HNE : Hid ((n0 : Int) = (n2 : Int)) := by
              have := HST.out
              rw [if_pos hin] at this
              show (n0 : Int) = (n2 : Int)
              omega
            clear hin HST HKA HAA
            go_wp2_with fail
            go_roundw
            case rel => exact ⟨k + 1, by rw [HNX.out, ← HNE.out], by go_num, by omega, HOq⟩
            case measure => simp only [intOf]; omega
          · rw [decide_eq_false hin]
            have HNE : Hid ((n0 : Int) + 1 = (n2 : Int)) := by
              have := HST.out
              rw [if_neg hin] at this
              show (n0 : Int) + 1 = (n2 : Int)
              omega
            obtain ⟨hnl, hne⟩ := HKA.out hin
            obtain ⟨gN, hpN, hN⟩ := lie_at (HWN.out _ HOq.out) n0 hnl
            subst hpN
            rw [hne] at hN
            have hA := HAA.out _ HOq.out
            have x0 : wq.cell? ⟨gA, k * 12, none⟩ = some (.int .i64 a1) := hA 0 (by decide)
            have x1 : wq.cell? ⟨gA, k * 12 + 1, none⟩ = some (.int .i64 a2) := hA 1 (by decide)
            have x2 : wq.cell? ⟨gA, k * 12 + 2, none⟩ = some (.int .i64 c0) := hA 2 (by decide)
            have x3 : wq.cell? ⟨gA, k * 12 + 3, none⟩ = some (.int .i64 c1) := hA 3 (by decide)
            have x4 : wq.cell? ⟨gA, k * 12 + 4, none⟩ = some (.int .i64 c2) := hA 4 (by decide)
            have x5 : wq.cell? ⟨gA, k * 12 + 5, none⟩ = some (.int .u32 c3) := hA 5 (by decide)
            have x6 : wq.cell? ⟨gA, k * 12 + 6, none⟩ = some (.int .u32 c4) := hA 6 (by decide)
            have x7 : wq.cell? ⟨gA, k * 12 + 7, none⟩ = some (.int .i64 c5) := hA 7 (by decide)
            have x8 : wq.cell? ⟨gA, k * 12 + 8, none⟩ = some (.int .i64 c6) := hA 8 (by decide)
            have x9 : wq.cell? ⟨gA, k * 12 + 9, none⟩ = some (.int .u32 c7) := hA 9 (by decide)
            have x10 : wq.cell? ⟨gA, k * 12 + 10, none⟩ = some (.int .i64 f1) := hA 10 (by decide)
            have x11 : wq.cell? ⟨gA, k * 12 + 11, none⟩ = some (.int .i64 f2) := hA 11 (by decide)
            have y0 : wq.cell? ⟨gN, n0 * 12, none⟩ = some (.int .i64 a1) := hN 0 (by decide)
            have y1 : wq.cell? ⟨gN, n0 * 12 + 1, none⟩ = some (.int .i64 a2) := hN 1 (by decide)
            have y2 : wq.cell? ⟨gN, n0 * 12 + 2, none⟩ = some (.int .i64 c0) := hN 2 (by decide)
            have y3 : wq.cell? ⟨gN, n0 * 12 + 3, none⟩ = some (.int .i64 c1) := hN 3 (by decide)
            have y4 : wq.cell? ⟨gN, n0 * 12 + 4, none⟩ = some (.int .i64 c2) := hN 4 (by decide)
            have y5 : wq.cell? ⟨gN, n0 * 12 + 5, none⟩ = some (.int .u32 c3) := hN 5 (by decide)
            have y6 : wq.cell? ⟨gN, n0 * 12 + 6, none⟩ = some (.int .u32 c4) := hN 6 (by decide)
            have y7 : wq.cell? ⟨gN, n0 * 12 + 7, none⟩ = some (.int .i64 c5) := hN 7 (by decide)
            have y8 : wq.cell? ⟨gN, n0 * 12 + 8, none⟩ = some (.int .i64 c6) := hN 8 (by decide)
            have y9 : wq.cell? ⟨gN, n0 * 12 + 9, none⟩ = some (.int .u32 c7) := hN 9 (by decide)
            have y10 : wq.cell? ⟨gN, n0 * 12 + 10, none⟩ = some (.int .i64 f1) := hN 10 (by decide)
            have y11 : wq.cell? ⟨gN, n0 * 12 + 11, none⟩ = some (.int .i64 f2) := hN 11 (by decide)
            have hnK : n0 < K := by have := HK.out; omega
            have hge : decide ((K : Int) ≤ (n0 : Int)) = false := decide_eq_false (by omega)
            have hge2 : ¬ (K : Int) ≤ (n0 : Int) := by omega
            have hge3 : (n0 : Int) < (K : Int) := by omega
            have hge4 : decide ((n0 : Int) < (K : Int)) = true := decide_eq_true hge3
            have hge5 : decide (K ≤ n0) = false := decide_eq_false (by omega)
            have hge6 : ¬ K ≤ n0 := by omega
            have hidn : 0 ≤ (n0 : Int) ∧ (n0 : Int) < (K : Int) := by omega
            clear hin HST HKA HAA hnl hne hN hA hnK
            go_wp2_with fail
            go_quiet (fail)
            go_wp2_with fail
            go_roundw
            case rel => exact ⟨k + 1, by rw [HNX.out, ← HNE.out], by go_num, by omega, (by have := HOq.out; repeat' (first | exact this | refine Only.drewN ?_ _ | refine Only.drew ?_))⟩
            case measure => simp only [intOf]; omega
        · obtain rfl : k = N := by omega
          have h1 : ¬ (k : Int) < (k : Int) := by omega
          clear hlt
          go_wp2_with fail
          all_goals
            go_ret
            exact ⟨rfl, HBF.out _ HO.out⟩
end Go.Proofs.YtbmchgjilkoplaaDoor

/- Chapter 9, SchedTurns: the walk. -/
import Derived.Test.YtgncabcnefhkiaaST1
namespace Go.Proofs.Ytgncabcnefhkiaa
open Go.ChangeShapes Go.WideShapes Go.ChangeAt Go.RowKit
open Go.Vx
set_option linter.unusedVariables false
variable {U V S : Nat → Prop} {w w2 w3 w0 w1 : World} {xb rb pb tb A B m : Nat} {es : List Et} {R : Nat → Bool} {P : Nat → Int}

/-- Wishes, where they lie. -/
def WiAt (w : World) (pa : Option Addr) (zs : List (Int × Int × Int)) : Prop := zs = [] ∨ ∃ ab ao, pa = some ⟨ab, ao, none⟩ ∧ ∀ (j : Nat) (h : j < zs.length), w.cell? ⟨ab, ao + j * 3, none⟩ = some (.int .i64 zs[j].1) ∧ w.cell? ⟨ab, ao + j * 3 + 1, none⟩ = some (.int .i64 zs[j].2.1) ∧ w.cell? ⟨ab, ao + j * 3 + 2, none⟩ = some (.int .i64 zs[j].2.2)
theorem wi_at {pa : Option Addr} {zs : List (Int × Int × Int)} (hp : WiAt w pa zs) {j : Nat} (hj : j < zs.length) : ∃ ab ao, pa = some ⟨ab, ao, none⟩ ∧ ∀ wv, Only (fun _ => False) w wv → wv.cell? ⟨ab, ao + j * 3, none⟩ = some (.int .i64 zs[j].1) ∧ wv.cell? ⟨ab, ao + j * 3 + 1, none⟩ = some (.int .i64 zs[j].2.1) ∧ wv.cell? ⟨ab, ao + j * 3 + 2, none⟩ = some (.int .i64 zs[j].2.2) := by
  rcases hp with h | ⟨ab, ao, rfl, h⟩
  · rw [h] at hj; cases hj
  · refine ⟨ab, ao, rfl, fun wv ho => ?_⟩
    obtain ⟨a, b, c⟩ := h j hj
    have hl := cell_lt a
    exact ⟨(ho.cell hl (fun h => h)).trans a, (ho.cell hl (fun h => h)).trans b, (ho.cell hl (fun h => h)).trans c⟩
/-- Between the wishes. -/
def TrS (w0 w1 : World) (xb rb pb tb A B m : Nat) (w : World) : Prop := ∃ es R P, TrP w0 w1 xb rb pb tb A B m es R P w ∧ Lk es R P
set_option maxRecDepth 100000 in
set_option maxHeartbeats 8000000 in
theorem schedTurns_call (a b : Int) (ha : I64 a) (hb : I64 b) (w : World) (pa : Option Addr) (len cap : Nat) (zs : List (Int × Int × Int)) (hlen : zs.length = len) (hlm : (len : Int) ≤ 9223372036854775807) (hp : WiAt w pa zs) (hz : ∀ z ∈ zs, I64 z.1 ∧ I64 z.2.1 ∧ I64 z.2.2) : Calls Try.prog 4 #[.int .i64 a, .int .i64 b, .slice pa len cap] w fun e w' => e = .returned (.bool true) ∧ Only (fun _ => False) w w' := by
  have HP1 := Vx.hid (fun wv => pickK_any 9 (by decide) (by decide) a ha.1 ha.2 wv)
  have HP2 := Vx.hid (fun wv => pickK_any 9 (by decide) (by decide) b hb.1 hb.2 wv)
  have hk : pickL a 9 < 9 := Nat.mod_lt _ (by decide)
  have hm : pickL b 9 < 9 := Nat.mod_lt _ (by decide)
  generalize pickL a 9 = a0 at HP1 hk
  generalize pickL b 9 = b0 at HP2 hm
  clear ha hb
  obtain ⟨A, hAA⟩ : ∃ A, A = 1 + a0 := ⟨_, rfl⟩
  obtain ⟨B, hBB⟩ : ∃ B, B = 1 + b0 := ⟨_, rfl⟩
  have e1 : (1 : Int) + (a0 : Int) = (A : Int) := by omega
  have e2 : (1 : Int) + (b0 : Int) = (B : Int) := by omega
  have hA1 : 1 ≤ A ∧ A ≤ 9 := by omega
  have hB1 : 1 ≤ B ∧ B ≤ 9 := by omega
  have wA : IntKind.i64.wrap (A : Int) = (A : Int) := by rw [IntKind.wrap_i64]; omega
  have wB : IntKind.i64.wrap (B : Int) = (B : Int) := by rw [IntKind.wrap_i64]; omega
  obtain ⟨w1, hw1⟩ : ∃ w1, w1 = w.alloc (.cells #[.int .i64 1, .int .i64 (A : Int), .int .i64 0, .int .i64 (B : Int)] 34) := ⟨_, rfl⟩
  have ho1 : Only (fun _ => False) w w1 := by rw [hw1]; exact (Only.refl _ w).alloc _
  have hz1 : w1.heap[w.heap.size]? = some (.cells #[.int .i64 1, .int .i64 (A : Int), .int .i64 0, .int .i64 (B : Int)] 34 (0, 0)) := by rw [hw1]; exact heap_alloc_last w _
  obtain ⟨tb, hA⟩ : ∃ tb, tb = w.heap.size := ⟨_, rfl⟩
  rw [← hA] at hz1
  have hT : TuAt w1 (some ⟨tb, 0, none⟩) (tts A B) := Or.inr ⟨tb, 0, rfl, fun j hj => by
    have hj0 : j = 0 ∨ j = 1 := by
      have : (tts A B).length = 2 := rfl
      omega
    rcases hj0 with rfl | rfl
    · exact ⟨(cell_of_row _ _ 0 _ _ (0, 0) hz1).trans rfl, (cell_of_row _ _ 1 _ _ (0, 0) hz1).trans rfl⟩
    · exact ⟨(cell_of_row _ _ 2 _ _ (0, 0) hz1).trans rfl, (cell_of_row _ _ 3 _ _ (0, 0) hz1).trans rfl⟩⟩
  have hok : newSE (tts A B) = 0 := tu_all (fun x hx => by
    have : x = (1, (A : Int)) ∨ x = (0, (B : Int)) := by simpa [tts] using hx
    rcases this with rfl | rfl
    · exact decide_eq_true (by simp; omega)
    · exact decide_eq_true (by simp; omega)) (by show 1 ≤ 2; decide) (by show 2 ≤ 16; decide)
  have HNW := Vx.hid (xnew_good w1 (some ⟨tb, 0, none⟩) 2 2 rfl hT hok)
  have HO1 := Vx.hid ho1
  have HZ1 := Vx.hid hz1
  have HAT := Vx.hid hA
  have HWI := Vx.hid hp
  have HZZ := Vx.hid hz
  have HLN := Vx.hid hlen
  have HOK : Hid (newSE (tts A B) ≠ 1) := by show _ ≠ _; rw [hok]; decide
  clear ho1 hz1 hT hAA hBB hok hp hz hlen
  go_enter Try.func4, Try.ntmps4
  go_wp2_with fail
  refine (HP1.out _).mono ?_
  rintro e w' ⟨rfl, h⟩
  have h3 := h.symm; clear h; subst h3
  go_wp2_with fail
  refine (HP2.out _).mono ?_
  rintro e w' ⟨rfl, h⟩
  have h3 := h.symm; clear h; subst h3
  go_wp2_with fail
  rw [← hw1, ← hA]
  clear hw1 hA
  refine HNW.out.mono ?_
  rintro e w2 ⟨(⟨h9, _⟩ | ⟨_, xb, rfl, hge, hx⟩), ho⟩
  · exact absurd h9 HOK.out
  obtain ⟨w3, hw3⟩ : ∃ w3, w3 = w2.alloc (.cells #[.bool false, .bool false, .bool false, .bool false, .bool false, .bool false] 54) := ⟨_, rfl⟩
  obtain ⟨w4, hw4⟩ : ∃ w4, w4 = w3.alloc (.cells #[.int .i64 0, .int .i64 0, .int .i64 0, .int .i64 0, .int .i64 0, .int .i64 0] 55) := ⟨_, rfl⟩
  obtain ⟨rb, hrb⟩ : ∃ rb, rb = w2.heap.size := ⟨_, rfl⟩
  obtain ⟨pb, hpb⟩ : ∃ pb, pb = w2.heap.size + 1 := ⟨_, rfl⟩
  have HS0 : Hid (XcAt (fun k => k < w1.heap.size ∨ k = rb ∨ k = pb) w4 xb (tts A B) 0 (A : Int) (turE 0) 0 ∧ w4.heap[rb]? = some (.cells (rdC (fun _ => false)) 54 (0, 0)) ∧ w4.heap[pb]? = some (.cells (prC (fun _ => 0)) 55 (0, 0)) ∧ Only (fun _ => False) w1 w4) := by
    have o3 : Only (fun _ => False) w2 w3 := by rw [hw3]; exact (Only.refl _ _).alloc _
    have o4 : Only (fun _ => False) w3 w4 := by rw [hw4]; exact (Only.refl _ _).alloc _
    have s3 : w3.heap.size = w2.heap.size + 1 := by rw [hw3]; simp
    have s4 : w4.heap.size = w2.heap.size + 2 := by rw [hw4]; simp [s3]
    have r3 : w3.heap[rb]? = some (.cells (rdC (fun _ => false)) 54 (0, 0)) := by rw [hw3, hrb]; exact heap_alloc_last w2 _
    have p4 : w4.heap[pb]? = some (.cells (prC (fun _ => 0)) 55 (0, 0)) := by rw [hw4, hpb, ← s3]; exact heap_alloc_last w3 _
    refine ⟨hx.step (o3.trans o4) (fun _ _ h => h.elim) (fun k hk => ?_), Only.keep o4 r3 (fun h => h), p4, ho.trans (o3.trans o4)⟩
    rcases hk with hk | hk | hk
    · exact Or.inl hk
    · exact Or.inr (by omega)
    · exact Or.inr (by omega)
  have HRB : Hid (w1.heap.size ≤ rb ∧ w1.heap.size ≤ pb) := by
    have := ho.size
    exact ⟨by omega, by omega⟩
  clear hx ho hge
  go_upto_region 7 with fail
  rw [← hw3]
  have s3 : w3.heap.size = w2.heap.size + 1 := by rw [hw3]; simp
  try rw [s3]
  rw [← hw4, ← hpb, ← hrb]
  clear hw3 hw4 hrb hpb s3
  go_wp2_with fail
  go_loopw [12, 13] (fun i _ wr => ∃ j : Nat, i = .int .i64 (j : Int) ∧ j ≤ 6 ∧ Hid (XcAt (fun k => k < w1.heap.size ∨ k = rb ∨ k = pb) wr xb (tts A B) 0 (A : Int) (turE j) 0 ∧ wr.heap[rb]? = some (.cells (rdC (fun _ => false)) 54 (0, 0)) ∧ wr.heap[pb]? = some (.cells (prC (fun _ => 0)) 55 (0, 0)) ∧ Only (fun _ => False) w1 wr)) (fun i _ _ => 6 - (RowKit.intOf i).toNat)
  case atStart => exact ⟨0, rfl, by omega, HS0⟩
  case round =>
    obtain ⟨j, rfl, hj, HJ⟩ := hrel
    by_cases hlt : j < 6
    · have h1 : (j : Int) < 6 := by omega
      have hwj : IntKind.i64.wrap ((j : Int) + 1) = (j : Int) + 1 := by rw [IntKind.wrap_i64]; omega
      obtain ⟨j2, hj2⟩ : ∃ j2, j2 = j % 2 := ⟨_, rfl⟩
      have t2 : (j : Int).tmod 2 = (j2 : Int) := by rw [Int.tmod_eq_emod_of_nonneg (by omega)]; omega
      have v2 : IntKind.i64.wrap (j2 : Int) = (j2 : Int) := by rw [IntKind.wrap_i64]; omega
      have HAD : Hid (Calls Try.prog 10 #[.pointer (some ⟨xb, 0, none⟩), .int .i64 (j : Int), .int .i64 (j2 : Int), .int .i64 0] wr fun e w' => e = .returned (.int .i64 0) ∧ (XcAt (fun k => k < w1.heap.size ∨ k = rb ∨ k = pb) w' xb (tts A B) 0 (A : Int) (turE (j + 1)) 0 ∧ w'.heap[rb]? = some (.cells (rdC (fun _ => false)) 54 (0, 0)) ∧ w'.heap[pb]? = some (.cells (prC (fun _ => 0)) 55 (0, 0)) ∧ Only (fun _ => False) w1 w')) := by
        obtain ⟨⟨G, hx⟩, hr, hpp, ho⟩ := HJ.out
        refine (xadd_ok hx (by rw [turE_len]; omega) _ _ 0 (i64_six hlt)).mono ?_
        rintro e w' ⟨rfl, q1, q2⟩
        obtain ⟨f1, f2⟩ := tur_add j
        rw [← hj2] at f1 f2
        rw [f2] at q1
        rw [f1]
        exact ⟨rfl, q1, Only.keep q2 hr (fun e => e (Or.inr (Or.inl rfl))), Only.keep q2 hpp (fun e => e (Or.inr (Or.inr rfl))), ho.beyond q2 (fun k e => by omega)⟩
      clear hj2 HJ
      go_wp2_with fail
      refine HAD.out.mono ?_
      rintro e w5 ⟨rfl, h5⟩
      have H5 := Vx.hid h5
      clear h5
      go_wp2_with fail
      go_roundw
      case rel => exact ⟨j + 1, by go_num, by omega, H5⟩
      case measure => simp only [RowKit.intOf]; omega
    · obtain rfl : j = 6 := by omega
      have h1 : ¬ ((6 : Nat) : Int) < 6 := by decide
      have HT0 : Hid (TrS w w1 xb rb pb tb A B 0 wr) := by
        obtain ⟨hx, hr, hpp, ho⟩ := HJ.out
        have hs := HO1.out.size
        have hb := HRB.out
        refine ⟨turE 6, fun _ => false, fun _ => 0, ⟨⟨0, (A : Int), 0, hx, Or.inl ⟨Nat.zero_mod _, Or.inl ⟨rfl, rfl, rfl⟩⟩⟩, tur_six, hr, hpp, Only.keep ho HZ1.out (fun h => h), HO1.out.trans ho, hs, lt_of_some HZ1.out, by omega, by omega⟩, tur_lk⟩
      clear HJ hlt
      go_wp2_with fail
      go_loopw [14, 15] (fun mv i wr => ∃ (j m : Nat), i = .int .i64 (j : Int) ∧ mv = .int .i64 (m : Int) ∧ j ≤ len ∧ j ≤ 262144 ∧ m ≤ j ∧ Hid (TrS w w1 xb rb pb tb A B m wr)) (fun _ i _ => 262144 - (RowKit.intOf i).toNat)
      case atStart => exact ⟨0, 0, rfl, rfl, by omega, by omega, by omega, HT0⟩
      case round =>
        obtain ⟨j, m, rfl, rfl, hj, hj2, hmj, HS⟩ := hrel
        by_cases hlt : j < len
        · have h2 : (j : Int) < (len : Int) := by omega
          by_cases hmx : j < 262144
          · have h3 : (j : Int) < 262144 := by omega
            obtain ⟨es, R, P, hS, hL⟩ := HS.out
            have hjl : j < zs.length := by have := HLN.out; omega
            obtain ⟨ab, ao, rfl, hcl⟩ := wi_at HWI.out hjl
            have HCL := Vx.hid hcl
            obtain ⟨y0, y1, y2⟩ := hcl _ hS.o
            have hzz := HZZ.out _ (List.getElem_mem hjl)
            have HPK0 := Vx.hid (fun wv => pickK_any 6 (by decide) (by decide) zs[j].1 hzz.1.1 hzz.1.2 wv)
            have HPK1 := Vx.hid (fun wv => pickK_any 6 (by decide) (by decide) zs[j].2.1 hzz.2.1.1 hzz.2.1.2 wv)
            have HPK2 := Vx.hid (fun wv => pickK_any 8 (by decide) (by decide) zs[j].2.2 hzz.2.2.1 hzz.2.2.2 wv)
            generalize zs[j].1 = z0 at y0 HPK0 HCL
            generalize zs[j].2.1 = z1 at y1 HPK1 HCL
            generalize zs[j].2.2 = z2 at y2 HPK2 HCL
            have hK6 : pickL z0 6 < 6 := Nat.mod_lt _ (by decide)
            have hk6 : pickL z1 6 < 6 := Nat.mod_lt _ (by decide)
            have hq8 : pickL z2 8 < 8 := Nat.mod_lt _ (by decide)
            generalize pickL z0 6 = K at HPK0 hK6
            generalize pickL z1 6 = k at HPK1 hk6
            generalize pickL z2 8 = q at HPK2 hq8
            have hidx : 0 ≤ (j : Int) ∧ (j : Int) < (len : Int) := by omega
            have hik : 0 ≤ (k : Int) ∧ (k : Int) < 6 := by omega
            have hwj : IntKind.i64.wrap ((j : Int) + 1) = (j : Int) + 1 := by rw [IntKind.wrap_i64]; omega
            have HSP := Vx.hid hS
            have HLL := Vx.hid hL
            clear hcl hzz hS hL HS hlt hmx hjl
            go_wp2_with fail
            refine (HPK1.out _).mono ?_
            rintro e w' ⟨rfl, h⟩
            have h9 := h.symm; clear h; subst h9
            go_wp2_with fail
            refine (HPK0.out _).mono ?_
            rintro e w' ⟨rfl, h⟩
            have h9 := h.symm; clear h; subst h9
            by_cases hK0 : K = 0
            · subst hK0
              have HC := Vx.hid (HSP.out.ready HLL.out hk6)
              go_wp2_with fail
              refine HC.out.mono ?_
              rintro e w5 ⟨rfl, es2, hT2, hL2⟩
              have rc := hT2.rc hk6
              have rf := hT2.rf k
              have hT3 := hT2.setR k true
              have HT3 : Hid (TrS w w1 xb rb pb tb A B m (w5.setCell ⟨rb, k, none⟩ (.bool true))) := ⟨_, _, _, hT3, hL2⟩
              clear hT2 hL2 hT3 HSP HLL HC
              cases hR : R k with
              | true =>
                rw [hR] at rc
                rw [if_pos rfl]
                clear hR
                go_wp2_with fail
                go_roundw
                case rel => exact ⟨j + 1, m, by go_num, rfl, by omega, by omega, by omega, HT3⟩
                case measure => simp only [RowKit.intOf]; omega
              | false =>
                rw [hR] at rc
                rw [if_neg (by decide)]
                clear hR
                go_wp2_with fail
                go_roundw
                case rel => exact ⟨j + 1, m, by go_num, rfl, by omega, by omega, by omega, HT3⟩
                case measure => simp only [RowKit.intOf]; omega
            · by_cases hK1 : K = 1
              · subst hK1
                have HC := Vx.hid (HSP.out.block HLL.out hk6)
                go_wp2_with fail
                refine HC.out.mono ?_
                rintro e w5 ⟨rfl, es2, hT2, hL2⟩
                have rc := hT2.rc hk6
                have rf := hT2.rf k
                have hT3 := hT2.setR k false
                have HT3 : Hid (TrS w w1 xb rb pb tb A B m (w5.setCell ⟨rb, k, none⟩ (.bool false))) := ⟨_, _, _, hT3, hL2⟩
                clear hT2 hL2 hT3 HSP HLL HC
                cases hR : R k with
                | true =>
                  rw [hR] at rc
                  rw [if_pos rfl]
                  clear hR
                  go_wp2_with fail
                  go_roundw
                  case rel => exact ⟨j + 1, m, by go_num, rfl, by omega, by omega, by omega, HT3⟩
                  case measure => simp only [RowKit.intOf]; omega
                | false =>
                  rw [hR] at rc
                  rw [if_neg (by decide)]
                  clear hR
                  go_wp2_with fail
                  go_roundw
                  case rel => exact ⟨j + 1, m, by go_num, rfl, by omega, by omega, by omega, HT3⟩
                  case measure => simp only [RowKit.intOf]; omega
              · by_cases hK2 : K = 2
                · subst hK2
                  have HC := Vx.hid (HSP.out.yield HLL.out hk6)
                  go_wp2_with fail
                  refine HC.out.mono ?_
                  rintro e w5 ⟨rfl, es2, hT2, hL2⟩
                  have rc := hT2.rc hk6
                  have HT3 : Hid (TrS w w1 xb rb pb tb A B m w5) := ⟨_, _, _, hT2, hL2⟩
                  clear hT2 hL2 HSP HLL HC
                  cases hR : R k with
                  | true =>
                    rw [hR] at rc
                    rw [if_pos rfl]
                    clear hR
                    go_wp2_with fail
                    go_roundw
                    case rel => exact ⟨j + 1, m, by go_num, rfl, by omega, by omega, by omega, HT3⟩
                    case measure => simp only [RowKit.intOf]; omega
                  | false =>
                    rw [hR] at rc
                    rw [if_neg (by decide)]
                    clear hR
                    go_wp2_with fail
                    go_roundw
                    case rel => exact ⟨j + 1, m, by go_num, rfl, by omega, by omega, by omega, HT3⟩
                    case measure => simp only [RowKit.intOf]; omega
                · by_cases hK3 : K = 3
                  · subst hK3
                    have pc := HSP.out.pc hk6
                    have pf := HSP.out.pf k
                    have hT2 := HSP.out.setP k (q : Int)
                    obtain ⟨w5, hw5⟩ : ∃ w5, w5 = wr.setCell ⟨pb, k, none⟩ (.int .i64 (q : Int)) := ⟨_, rfl⟩
                    rw [← hw5] at hT2
                    have pc5 : w5.cell? ⟨pb, k, none⟩ = some (.int .i64 (q : Int)) := by
                      have := hT2.pc hk6
                      unfold upI at this
                      rw [if_pos rfl] at this
                      exact this
                    have HC := Vx.hid (hT2.prio HLL.out hk6 (q : Int) ⟨by omega, by omega⟩)
                    clear hT2 HSP HLL
                    go_wp2_with fail
                    refine (HPK2.out _).mono ?_
                    rintro e w' ⟨rfl, h⟩
                    have h9 := h.symm; clear h; subst h9
                    go_upto_region 48 with fail
                    rw [← hw5]
                    clear hw5
                    go_wp2_with fail
                    refine HC.out.mono ?_
                    rintro e w6 ⟨rfl, es2, hT2, hL2⟩
                    have HT3 : Hid (TrS w w1 xb rb pb tb A B m w6) := ⟨_, _, _, hT2, hL2⟩
                    clear hT2 hL2 HC
                    go_wp2_with fail
                    go_roundw
                    case rel => exact ⟨j + 1, m, by go_num, rfl, by omega, by omega, by omega, HT3⟩
                    case measure => simp only [RowKit.intOf]; omega
                  · have k0 : ((K : Int) == 0) = false := by rw [beq_eq_false_iff_ne]; omega
                    have k1 : ((K : Int) == 1) = false := by rw [beq_eq_false_iff_ne]; omega
                    have k2 : ((K : Int) == 2) = false := by rw [beq_eq_false_iff_ne]; omega
                    have k3 : ((K : Int) == 3) = false := by rw [beq_eq_false_iff_ne]; omega
                    have HC := Vx.hid (HSP.out.next HLL.out hA1.1 hB1.1)
                    have hwm : IntKind.i64.wrap ((m : Int) + 1) = (m : Int) + 1 := by rw [IntKind.wrap_i64]; omega
                    have HDA : Hid (∀ wv, wv.heap[tb]? = some (.cells #[.int .i64 1, .int .i64 (A : Int), .int .i64 0, .int .i64 (B : Int)] 34 (0, 0)) → Calls Try.prog 19 #[.slice (some ⟨tb, 0, none⟩) 2 2, .int .i64 (m : Int)] wv fun e w' => e = .returned (.int .i64 (domI A B m)) ∧ w' = wv) := fun wv ht => domainAt_ok wv tb A B m hA1 hB1 (by omega) ((cell_of_row _ _ 0 _ _ (0, 0) ht).trans rfl) ((cell_of_row _ _ 1 _ _ (0, 0) ht).trans rfl) ((cell_of_row _ _ 2 _ _ (0, 0) ht).trans rfl) ((cell_of_row _ _ 3 _ _ (0, 0) ht).trans rfl)
                    clear hK0 hK1 hK2 hK3 y0 y1 y2
                    go_wp2_with fail
                    refine HC.out.mono ?_
                    rintro e w5 ⟨r, es2, rfl, hT2, hL2, htest⟩
                    have HD2 := Vx.hid (HDA.out _ hT2.t)
                    have HRC : Hid (∀ i, i < 6 → w5.cell? ⟨rb, i, none⟩ = some (.bool (R i)) ∧ w5.cell? ⟨pb, i, none⟩ = some (.int .i64 (P i))) := fun i hi => ⟨hT2.rc hi, hT2.pc hi⟩
                    have HT3 : Hid (TrS w w1 xb rb pb tb A B (m + 1) w5) := ⟨_, _, _, hT2, hL2⟩
                    have HTE := Vx.hid htest
                    clear hT2 hL2 htest HSP HLL HC HDA
                    generalize domI A B m = d at HD2 HTE
                    go_wp2_with fail
                    refine HD2.out.mono ?_
                    rintro e w' ⟨rfl, h⟩
                    have h9 := h.symm; clear h; subst h9
                    go_wp2_with fail
                    go_loopw [21, 22] (fun bv i wr => ∃ i0 : Nat, i = .int .i64 (i0 : Int) ∧ bv = .int .i64 (bstI R P d i0) ∧ i0 ≤ 6 ∧ wr = w5) (fun _ i _ => 6 - (RowKit.intOf i).toNat)
                    case atStart => exact ⟨0, rfl, rfl, by omega, rfl⟩
                    case round =>
                      obtain ⟨i0, rfl, rfl, hi0, hwr⟩ := hrel
                      have h9 := hwr.symm; clear hwr; subst h9
                      by_cases hlt : i0 < 6
                      · have h4 : (i0 : Int) < 6 := by omega
                        have hii : 0 ≤ (i0 : Int) ∧ (i0 : Int) < 6 := by omega
                        have hwi : IntKind.i64.wrap ((i0 : Int) + 1) = (i0 : Int) + 1 := by rw [IntKind.wrap_i64]; omega
                        obtain ⟨i2, hi2⟩ : ∃ i2, i2 = i0 % 2 := ⟨_, rfl⟩
                        have t2 : (i0 : Int).tmod 2 = (i2 : Int) := by rw [Int.tmod_eq_emod_of_nonneg (by omega)]; omega
                        have v2 : IntKind.i64.wrap (i2 : Int) = (i2 : Int) := by rw [IntKind.wrap_i64]; omega
                        obtain ⟨x1, x2⟩ := HRC.out i0 hlt
                        have HST : Hid (bstI R P d (i0 + 1) = if (((i2 : Nat) : Int) = d ∧ R i0 = true) ∧ bstI R P d i0 < P i0 then P i0 else bstI R P d i0) := by rw [hi2]; exact rfl
                        clear hi2
                        generalize bstI R P d i0 = bb at HST ⊢
                        generalize P i0 = pi at x2 HST
                        generalize R i0 = ri at x1 HST
                        by_cases hd : (i2 : Int) = d
                        · have hd2 : ((i2 : Int) == d) = true := by rw [beq_iff_eq]; exact hd
                          cases ri with
                          | true =>
                            by_cases hbp : bb < pi
                            · have HB2 : Hid (bstI R P d (i0 + 1) = pi) := by show _ = _; rw [HST.out, if_pos ⟨⟨hd, rfl⟩, hbp⟩]
                              clear hd HST
                              go_wp2_with fail
                              go_roundw
                              case rel => exact ⟨i0 + 1, by go_num, by rw [HB2.out], by omega, trivial⟩
                              case measure => simp only [RowKit.intOf]; omega
                            · have HB2 : Hid (bstI R P d (i0 + 1) = bb) := by show _ = _; rw [HST.out, if_neg (fun h => hbp h.2)]
                              clear hd HST
                              go_wp2_with fail
                              go_roundw
                              case rel => exact ⟨i0 + 1, by go_num, by rw [HB2.out], by omega, trivial⟩
                              case measure => simp only [RowKit.intOf]; omega
                          | false =>
                            have HB2 : Hid (bstI R P d (i0 + 1) = bb) := by show _ = _; rw [HST.out, if_neg (fun h => by have := h.1.2; cases this)]
                            clear hd HST
                            go_wp2_with fail
                            go_roundw
                            case rel => exact ⟨i0 + 1, by go_num, by rw [HB2.out], by omega, trivial⟩
                            case measure => simp only [RowKit.intOf]; omega
                        · have hd2 : ((i2 : Int) == d) = false := by rw [beq_eq_false_iff_ne]; exact hd
                          have HB2 : Hid (bstI R P d (i0 + 1) = bb) := by show _ = _; rw [HST.out, if_neg (fun h => hd h.1.1)]
                          clear hd HST
                          go_wp2_with fail
                          go_roundw
                          case rel => exact ⟨i0 + 1, by go_num, by rw [HB2.out], by omega, trivial⟩
                          case measure => simp only [RowKit.intOf]; omega
                      · obtain rfl : i0 = 6 := by omega
                        have h4 : ¬ ((6 : Nat) : Int) < 6 := by decide
                        clear hlt
                        obtain ⟨hb, rfl⟩ | ⟨hb, i, hi, rfl, hid, hRi, hPi⟩ := HTE.out
                        · generalize bstI R P d 6 = bb at hb ⊢
                          have hb2 : ¬ (0 : Int) ≤ bb := by omega
                          clear HTE
                          go_wp2_with fail
                          go_roundw
                          case rel => exact ⟨j + 1, m + 1, by go_num, by go_num, by omega, by omega, by omega, HT3⟩
                          case measure => simp only [RowKit.intOf]; omega
                        · obtain ⟨x1, x2⟩ := HRC.out i hi
                          rw [hRi] at x1
                          rw [hPi] at x2
                          generalize bstI R P d 6 = bb at hb x2 ⊢
                          have hb2 : ¬ bb < 0 := by omega
                          have i1 : ¬ (i : Int) < 0 := by omega
                          have i2 : ¬ (5 : Int) < (i : Int) := by omega
                          have hii : 0 ≤ (i : Int) ∧ (i : Int) < 6 := by omega
                          have t2 : (i : Int).tmod 2 = d := by rw [Int.tmod_eq_emod_of_nonneg (by omega)]; omega
                          have v2 : IntKind.i64.wrap d = d := by rw [IntKind.wrap_i64]; omega
                          have nd : (d != d) = false := by simp
                          have nb : (bb != bb) = false := by simp
                          clear HTE hid hRi hPi hi
                          go_wp2_with fail
                          go_roundw
                          case rel => exact ⟨j + 1, m + 1, by go_num, by go_num, by omega, by omega, by omega, HT3⟩
                          case measure => simp only [RowKit.intOf]; omega
          · have h3 : ¬ (j : Int) < 262144 := by omega
            obtain ⟨es, R, P, hS, hL⟩ := HS.out
            have HOF := Vx.hid hS.o
            clear hS hL
            go_wp2_with fail
            go_ret
            exact ⟨rfl, HOF.out⟩
        · have h2 : ¬ (j : Int) < (len : Int) := by omega
          obtain ⟨es, R, P, hS, hL⟩ := HS.out
          have HOF := Vx.hid hS.o
          clear hS hL
          go_wp2_with fail
          go_ret
          exact ⟨rfl, HOF.out⟩
end Go.Proofs.Ytgncabcnefhkiaa

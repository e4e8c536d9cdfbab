/- SpecReads' law: line, start (gen_td5.py). -/
import Derived.Test.YtgacifbpjdakaaaGreatDoorTD5
import Derived.Test.YtgacifbpjdakaaaGreatDoorTH0
import Derived.Deep.CutBlock
import Derived.Deep.CutRange
namespace Go.Proofs.YtgacifbpjdakaaaGreatDoor
open Go.ChangeShapes Go.WideShapes Go.ChangeAt Go.RowKit
open Go.Vx
set_option linter.unusedVariables false
set_option linter.unusedSimpArgs false

variable {W w w2 : World} {xb ob : Nat} {vt vo vc vm vh vi vn va : Value} {T : Tx} {o : Tl}
/-- A telling, a line's numbers, and a thread on its way. -/
structure LtI (W w : World) (xb : Nat) (vt vo vc vm vh vi vn va : Value) (T : Tx) (ob : Nat) (o : Tl) (sb : Nat) (a : Th) : Prop where
  l : LnI W w xb vt vo vc vm vh vi vn va T ob o
  t : ThAt w sb a
  f : FreB xb sb vt vo vc vm vh vi vn va
  b : W.heap.size ≤ sb
  n : ob ≠ sb
theorem LtI.put {sb : Nat} {a a' : Th} (h : LtI W w xb vt vo vc vm vh vi vn va T ob o sb a) (ho : Only (fun k => k = sb) w w2) (ht : ThAt w2 sb a') : LtI W w2 xb vt vo vc vm vh vi vn va T ob o sb a' := ⟨⟨h.l.h.apart h.f h.b ho, blk_keep h.l.te ho h.n⟩, ht, h.f, h.b, h.n⟩
theorem LtI.quiet {sb : Nat} {a : Th} (h : LtI W w xb vt vo vc vm vh vi vn va T ob o sb a) (ho : Only (fun _ => False) w w2) : LtI W w2 xb vt vo vc vm vh vi vn va T ob o sb a := ⟨h.l.quiet ho, h.t.keep ho (fun h => h), h.f, h.b, h.n⟩
set_option maxRecDepth 100000 in
set_option maxHeartbeats 8000000 in
theorem line_start (h : TxAt W w xb vt vo vc vm vh vi vn va T) (o : Tl) (i : TlI o) (hk : pickL o.k 7 = 4) (hB : Bnd T) : Calls Tryz.prog 8 #[.pointer (some ⟨xb, 0, none⟩), .agg #[.int .i64 o.k, .int .i64 o.a, .int .i64 o.b, .int .i64 o.c]] w fun e w' => e = .returned (.tuple #[]) ∧ Hid (∃ vt' vo' vc' vm' vh' vi' vn' va', TxAt W w' xb vt' vo' vc' vm' vh' vi' vn' va' (tellF T o)) := by
  have HTF : Hid (tellF T o = { T with th := T.th ++ [thT o], t := T.t ++ (staL o ++ [10]) }) := by
    show _ = _
    unfold tellF putF' lineF
    rw [hk]
    rfl
  rw [HTF.out]
  clear HTF
  obtain ⟨w1, hw1⟩ : ∃ w1, w1 = w.alloc (.cells #[.int .i64 o.k, .int .i64 o.a, .int .i64 o.b, .int .i64 o.c] 61) := ⟨_, rfl⟩
  obtain ⟨ob, hob⟩ : ∃ ob, ob = w.heap.size := ⟨_, rfl⟩
  have ho1 : Only (fun _ => False) w w1 := by rw [hw1]; exact (Only.refl _ w).alloc _
  have HT1 : Hid (TeAt w1 ob o) := by unfold TeAt; show _ = _; rw [hw1, hob]; exact heap_alloc_last w _
  have HH1 : Hid (LnI W w1 xb vt vo vc vm vh vi vn va T ob o) := ⟨h.quiet ho1, HT1.out⟩
  have HPA := Vx.hid (fun wv => pick_lit 4294967296 (by omega) (by omega) 4294967296 (by omega) o.a i.a.1 i.a.2 wv)
  have HPK := Vx.hid (fun wv => pick_lit 7 (by omega) (by omega) 7 (by omega) o.k i.k.1 i.k.2 wv)
  rw [hk] at HPK
  have HLA := Vx.hid (pick_lt o.a 4294967296 (by decide))
  have hpa : p32 o.a = pickL o.a 4294967296 := rfl
  clear h ho1 HT1 hk
  have HPD := Vx.hid (fun wv => pick_lit 20 (by omega) (by omega) 20 (by omega) o.b i.b.1 i.b.2 wv)
  have HLD := Vx.hid (pick_lt o.b 20 (by decide))
  have HPQ := Vx.hid (fun wv => pick_lit 20 (by omega) (by omega) 20 (by omega) o.c i.c.1 i.c.2 wv)
  have HLP := Vx.hid (pick_lt o.c 20 (by decide))
  have HPR := Vx.hid (fun wv => pick_lit 31 (by omega) (by omega) 31 (by omega) o.c i.c.1 i.c.2 wv)
  have HLK := Vx.hid (pick_lt o.c 31 (by decide))
  have HPB := Vx.hid (fun wv => pick_lit 4294967296 (by omega) (by omega) 4294967296 (by omega) o.b i.b.1 i.b.2 wv)
  have HLB := Vx.hid (pick_lt o.b 4294967296 (by decide))
  have htu : staL o = [115, 116, 97, 114, 116, 32, 116, 32] ++ (Lib.decDigits (pickL o.b 20) ++ 32 :: (Lib.decDigits (pickL o.c 20) ++ 32 :: (rdyL o ++ 32 :: (Lib.decDigits (p32 o.a) ++ 32 :: (regL o ++ 32 :: (Lib.decDigits (p32 o.a) ++ 32 :: (regL o ++ 32 :: Lib.decDigits (p32 o.b)))))))) := rfl
  have hrg : regL o = 120 :: Lib.decDigits (1 + pickL o.c 31) := rfl
  have hth : thT o = ⟨11, (pickL o.b 20 : Nat), (pickL o.c 20 : Nat), evB o.b, fun j => if j = 1 + pickL o.c 31 then ((pickL o.b 4294967296 : Nat) : Int) else 0, (pickL o.a 4294967296 : Nat)⟩ := rfl
  have hpb : p32 o.b = pickL o.b 4294967296 := rfl
  have hrd : rdyL o = if evB o.b then [114, 101, 97, 100, 121] else [105, 100, 108, 101] := rfl
  rw [htu, hrg, hth, hpa, hpb, hrd]
  clear htu hpa hrg hth hpb hrd
  obtain ⟨A, hAe⟩ : ∃ A, A = pickL o.a 4294967296 := ⟨_, rfl⟩
  rw [← hAe] at HPA HLA ⊢
  clear hAe
  have HDA := Vx.hid (fun wv => decimal_ok A (by have := HLA.out; omega) wv)
  have HGA := Vx.hid (dec_len A (by have := HLA.out; omega))
  obtain ⟨dA, hdA⟩ : ∃ dA, dA = Lib.decDigits A := ⟨_, rfl⟩
  rw [← hdA] at HDA HGA ⊢
  clear hdA
  obtain ⟨D, hDe⟩ : ∃ D, D = pickL o.b 20 := ⟨_, rfl⟩
  rw [← hDe] at HPD HLD ⊢
  clear hDe
  have HDD := Vx.hid (fun wv => decimal_ok D (by have := HLD.out; omega) wv)
  have HGD := Vx.hid (dec_len D (by have := HLD.out; omega))
  obtain ⟨dD, hdD⟩ : ∃ dD, dD = Lib.decDigits D := ⟨_, rfl⟩
  rw [← hdD] at HDD HGD ⊢
  clear hdD
  obtain ⟨P, hPe⟩ : ∃ P, P = pickL o.c 20 := ⟨_, rfl⟩
  rw [← hPe] at HPQ HLP ⊢
  clear hPe
  have HDP := Vx.hid (fun wv => decimal_ok P (by have := HLP.out; omega) wv)
  have HGP := Vx.hid (dec_len P (by have := HLP.out; omega))
  obtain ⟨dP, hdP⟩ : ∃ dP, dP = Lib.decDigits P := ⟨_, rfl⟩
  rw [← hdP] at HDP HGP ⊢
  clear hdP
  obtain ⟨K, hKe⟩ : ∃ K, K = pickL o.c 31 := ⟨_, rfl⟩
  rw [← hKe] at HPR HLK ⊢
  clear hKe
  obtain ⟨B, hBe⟩ : ∃ B, B = pickL o.b 4294967296 := ⟨_, rfl⟩
  rw [← hBe] at HPB HLB ⊢
  clear hBe
  have HDB := Vx.hid (fun wv => decimal_ok B (by have := HLB.out; omega) wv)
  have HGB := Vx.hid (dec_len B (by have := HLB.out; omega))
  obtain ⟨dB, hdB⟩ : ∃ dB, dB = Lib.decDigits B := ⟨_, rfl⟩
  rw [← hdB] at HDB HGB ⊢
  clear hdB
  obtain ⟨r, hr⟩ : ∃ r, r = 1 + K := ⟨_, rfl⟩
  rw [← hr]
  have HRR : Hid (1 ≤ r ∧ r < 32) := ⟨by omega, by have := HLK.out; omega⟩
  have hrw9 : IntKind.i64.wrap (1 + (K : Int)) = (r : Int) := by have := HLK.out; rw [IntKind.wrap_i64]; omega
  clear hr HLK
  have HDK := Vx.hid (fun wv => decimal_ok r (by have := HRR.out; omega) wv)
  have HGK := Vx.hid (dec_len r (by have := HRR.out; omega))
  obtain ⟨dK, hdK⟩ : ∃ dK, dK = Lib.decDigits r := ⟨_, rfl⟩
  rw [← hdK] at HDK HGK ⊢
  clear hdK
  obtain ⟨ev, hev⟩ : ∃ ev, ev = evB o.b := ⟨_, rfl⟩
  rw [← hev]
  have hev2 : (Int.tmod o.b 2 == 0) = ev := by rw [hev]; unfold evB; rw [Bool.eq_iff_iff]; simp
  clear hev
  obtain ⟨rw9, hrw⟩ : ∃ rw9 : List UInt8, rw9 = 32 :: ((if ev then [114, 101, 97, 100, 121] else [105, 100, 108, 101]) ++ [32]) := ⟨_, rfl⟩
  have HRW : Hid ((ev = true → rw9 = [32, 114, 101, 97, 100, 121, 32]) ∧ (ev = false → rw9 = [32, 105, 100, 108, 101, 32])) := ⟨fun h => by rw [hrw, h]; rfl, fun h => by rw [hrw, h]; rfl⟩
  obtain ⟨tv, htv⟩ : ∃ tv : Th, tv = ⟨11, (D : Nat), (P : Nat), ev, fun j => if j = r then ((B : Nat) : Int) else 0, (A : Nat)⟩ := ⟨_, rfl⟩
  rw [← htv]
  have HTV := Vx.hid htv
  clear htv
  obtain ⟨rg9, hrg9⟩ : ∃ rg9 : List UInt8, rg9 = 32 :: 120 :: (dK ++ [32]) := ⟨_, rfl⟩
  have HRG := Vx.hid hrg9
  have HRGL : Hid (rg9.length ≤ 23) := by show _ ≤ _; rw [hrg9]; have := HGK.out; simp; omega
  obtain ⟨tF, htF⟩ : ∃ tF, tF = T.t ++ ([115, 116, 97, 114, 116, 32, 116, 32] ++ (dD ++ 32 :: (dP ++ 32 :: ((if ev then [114, 101, 97, 100, 121] else [105, 100, 108, 101]) ++ 32 :: (dA ++ 32 :: (120 :: dK ++ 32 :: (dA ++ 32 :: (120 :: dK ++ 32 :: dB))))))) ++ [10]) := ⟨_, rfl⟩
  rw [← htF]
  have HFT : Hid (tF = T.t ++ [115, 116, 97, 114, 116, 32, 116, 32] ++ dD ++ [32] ++ dP ++ rw9 ++ dA ++ rg9 ++ dA ++ rg9 ++ dB ++ [10]) := by
    show _ = _
    rw [htF, hrw, hrg9]
    simp
  have HRL : Hid (rw9.length ≤ 7) := by
    show _ ≤ _
    rw [hrw]
    cases ev <;> simp
  clear htF hrw hrg9
  obtain ⟨pt, ct, hvt, _⟩ := HH1.out.h.lh.form
  obtain ⟨nt, hnt⟩ : ∃ nt, nt = T.th.length := ⟨_, rfl⟩
  rw [← hnt] at hvt
  subst hvt
  clear hnt
  have HLN : Hid (T.th.length + 1 ≤ 10000000 ∧ T.t.length ≤ 900000) := ⟨by have := hB.th; omega, hB.t⟩
  have hwr : IntKind.u32.wrap (A : Int) = (A : Int) := by have := HLA.out; rw [IntKind.wrap_u32]; omega
  have hwb : IntKind.u32.wrap (B : Int) = (B : Int) := by have := HLB.out; rw [IntKind.wrap_u32]; omega
  clear hB i
  go_enter Tryz.func8, Tryz.ntmps8
  go_upto_region 1 with fail
  rw [← hw1, ← hob]
  clear hw1 hob
  have k0 : w1.cell? ⟨ob, 0, none⟩ = some (.int .i64 o.k) := (cell_of_row _ _ 0 _ _ (0, 0) HH1.out.te).trans rfl
  have k1 : w1.cell? ⟨ob, 1, none⟩ = some (.int .i64 o.a) := (cell_of_row _ _ 1 _ _ (0, 0) HH1.out.te).trans rfl
  go_upto_region 2 with (go_at_call 19; refine (HPA.out _).mono ?_; rintro e w9 ⟨rfl, hw9⟩; have hw8 := hw9.symm; clear hw9; subst hw8)
  go_upto_region 14 with (go_at_call 19; refine (HPK.out _).mono ?_; rintro e w9 ⟨rfl, hw9⟩; have hw8 := hw9.symm; clear hw9; subst hw8)
  clear k0 k1
  go_cut [5] from 98 to 111 (fun c5 wx => ∃ sb, c5 = .pointer (some ⟨sb, 0, none⟩) ∧ Hid (LtI W wx xb vt vo vc vm (.slice pt nt ct) vi vn va T ob o sb ⟨11, (D : Int), (P : Int), ev, fun _ => 0, (A : Int)⟩))
  case first =>
    have HX0 := Vx.hid (HH1.out.quiet ((Only.refl _ w1).drew))
    have HS0 : Hid (w1.drew.cell? ⟨ob, 2, none⟩ = some (.int .i64 o.b) ∧ w1.drew.cell? ⟨ob, 3, none⟩ = some (.int .i64 o.c)) := ⟨(cell_of_row _ _ 2 _ _ (0, 0) HX0.out.te).trans rfl, (cell_of_row _ _ 3 _ _ (0, 0) HX0.out.te).trans rfl⟩
    obtain ⟨wA, hwA⟩ : ∃ wA, wA = (w1.alloc (.cells #[.int .i64 0, .int .i64 0, .int .i64 0, .bool false, .int .u32 0, .int .u32 0, .int .u32 0, .int .u32 0, .int .u32 0, .int .u32 0, .int .u32 0, .int .u32 0, .int .u32 0, .int .u32 0, .int .u32 0, .int .u32 0, .int .u32 0, .int .u32 0, .int .u32 0, .int .u32 0, .int .u32 0, .int .u32 0, .int .u32 0, .int .u32 0, .int .u32 0, .int .u32 0, .int .u32 0, .int .u32 0, .int .u32 0, .int .u32 0, .int .u32 0, .int .u32 0, .int .u32 0, .int .u32 0, .int .u32 0, .int .u32 0, .int .u32 0] 91)).drew := ⟨_, rfl⟩
    have hoA : Only (fun _ => False) w1 wA := by rw [hwA]; exact ((Only.refl _ _).alloc _).drew
    have HXA := Vx.hid (HH1.out.quiet hoA)
    have HSA : Hid (wA.cell? ⟨ob, 2, none⟩ = some (.int .i64 o.b) ∧ wA.cell? ⟨ob, 3, none⟩ = some (.int .i64 o.c)) := ⟨(cell_of_row _ _ 2 _ _ (0, 0) HXA.out.te).trans rfl, (cell_of_row _ _ 3 _ _ (0, 0) HXA.out.te).trans rfl⟩
    have HTA : Hid (ThAt wA w1.heap.size zth) := by unfold ThAt; show _ = _; rw [hwA]; exact heap_alloc_last w1 _
    obtain ⟨wB, hwB⟩ : ∃ wB, wB = wA.setCells w1.heap.size 0 (thL.cf ⟨11, (D : Int), (P : Int), ev, fun _ => 0, (A : Int)⟩) := ⟨_, rfl⟩
    have HLF : Hid (LtI W wB xb vt vo vc vm (.slice pt nt ct) vi vn va T ob o w1.heap.size ⟨11, (D : Int), (P : Int), ev, fun _ => 0, (A : Int)⟩) := by
      have h1 := HTA.out.whole (a := ⟨11, (D : Int), (P : Int), ev, fun _ => 0, (A : Int)⟩)
      rw [← hwB] at h1
      have hf := HH1.out.h.fre (ob := w1.heap.size) (Nat.le_refl _)
      have hne : ob ≠ w1.heap.size := fun e => by have := lt_of_some HH1.out.te; omega
      exact LtI.put (a := zth) ⟨HXA.out, HTA.out, hf, HH1.out.h.be.size, hne⟩ h1.2 h1.1
    have HSB : Hid (wB.cell? ⟨ob, 2, none⟩ = some (.int .i64 o.b) ∧ wB.cell? ⟨ob, 3, none⟩ = some (.int .i64 o.c)) := ⟨(cell_of_row _ _ 2 _ _ (0, 0) HLF.out.l.te).trans rfl, (cell_of_row _ _ 3 _ _ (0, 0) HLF.out.l.te).trans rfl⟩
    clear hoA
    refine wp_region_held (S := (fun wv => wv.cell? ⟨ob, 2, none⟩ = some (.int .i64 o.b) ∧ wv.cell? ⟨ob, 3, none⟩ = some (.int .i64 o.c))) (by kernel_rfl) ?_
    simp only [List.size_toArray, List.length_cons, List.length_nil, Nat.zero_add, Nat.reduceAdd]
    refine wpAnyH_take (i := 0) (v := ?v14_0_1) (by simp only [List.getElem?_toArray, List.getElem?_cons_zero, List.getElem?_cons_succ]; rfl) (by kernel_rfl) (by kernel_rfl) (by kernel_rfl) (by exact fun _ _ _ h => h) (Or.inl ⟨by rfl, ?hy14_0_1⟩) HS0.out ?_
    case hy14_0_1 => (intro wq hSw; (try dsimp only at hSw); go_simp; try (with_reducible rfl))
    try simp only [Act.put, List.setIfInBounds_toArray, List.set_cons_zero, List.set_cons_succ]
    refine wpAnyH_take (i := 1) (v := ?v14_1_2) (by simp only [List.getElem?_toArray, List.getElem?_cons_zero, List.getElem?_cons_succ]; rfl) (by kernel_rfl) (by kernel_rfl) (by kernel_rfl) (by exact fun _ _ _ h => h) (Or.inl ⟨by rfl, ?hy14_1_2⟩) HS0.out ?_
    case hy14_1_2 => (intro wq hSw; (try dsimp only at hSw); go_simp; try (with_reducible rfl))
    try simp only [Act.put, List.setIfInBounds_toArray, List.set_cons_zero, List.set_cons_succ]
    refine wpAnyH_take (i := 3) (v := ?v14_3_3) (by simp only [List.getElem?_toArray, List.getElem?_cons_zero, List.getElem?_cons_succ]; rfl) (by kernel_rfl) (by kernel_rfl) (by kernel_rfl) (by exact fun _ _ _ h => h) (Or.inl ⟨by rfl, ?hy14_3_3⟩) HS0.out ?_
    case hy14_3_3 => (intro wq hSw; (try dsimp only at hSw); go_simp; try (with_reducible rfl))
    try simp only [Act.put, List.setIfInBounds_toArray, List.set_cons_zero, List.set_cons_succ]
    refine wpAnyH_take (i := 4) (v := ?v14_4_4) (by simp only [List.getElem?_toArray, List.getElem?_cons_zero, List.getElem?_cons_succ]; rfl) (by kernel_rfl) (by kernel_rfl) (by kernel_rfl) (by exact fun _ _ _ h => h) (Or.inl ⟨by rfl, ?hy14_4_4⟩) HS0.out ?_
    case hy14_4_4 => (intro wq hSw; (try dsimp only at hSw); go_simp; try (with_reducible rfl))
    try simp only [Act.put, List.setIfInBounds_toArray, List.set_cons_zero, List.set_cons_succ]
    refine wpAnyH_take (i := 6) (v := ?v14_6_5) (by simp only [List.getElem?_toArray, List.getElem?_cons_zero, List.getElem?_cons_succ]; rfl) (by kernel_rfl) (by kernel_rfl) (by kernel_rfl) (by exact fun _ _ _ h => h) (Or.inl ⟨by rfl, ?hy14_6_5⟩) HS0.out ?_
    case hy14_6_5 => (intro wq hSw; (try dsimp only at hSw); go_simp; try (with_reducible rfl))
    try simp only [Act.put, List.setIfInBounds_toArray, List.set_cons_zero, List.set_cons_succ]
    refine wpAnyH_take (i := 7) (v := ?v14_7_6) (by simp only [List.getElem?_toArray, List.getElem?_cons_zero, List.getElem?_cons_succ]; rfl) (by kernel_rfl) (by kernel_rfl) (by kernel_rfl) (by exact fun _ _ _ h => h) (Or.inl ⟨by rfl, ?hy14_7_6⟩) HS0.out ?_
    case hy14_7_6 => (intro wq hSw; (try dsimp only at hSw); go_simp; try (with_reducible rfl))
    try simp only [Act.put, List.setIfInBounds_toArray, List.set_cons_zero, List.set_cons_succ]
    refine wpAnyH_take (i := 8) (v := ?v14_8_7) (by simp only [List.getElem?_toArray, List.getElem?_cons_zero, List.getElem?_cons_succ]; rfl) (by kernel_rfl) (by kernel_rfl) (by kernel_rfl) (by exact fun _ _ _ h => h) (Or.inl ⟨by rfl, ?hy14_8_7⟩) HS0.out ?_
    case hy14_8_7 => (intro wq hSw; (try dsimp only at hSw); go_simp; try (with_reducible rfl))
    try simp only [Act.put, List.setIfInBounds_toArray, List.set_cons_zero, List.set_cons_succ]
    refine wpAnyH_take (i := 9) (v := ?v14_9_8) (by simp only [List.getElem?_toArray, List.getElem?_cons_zero, List.getElem?_cons_succ]; rfl) (by kernel_rfl) (by kernel_rfl) (by kernel_rfl) (by exact fun _ _ _ h => h) (Or.inl ⟨by rfl, ?hy14_9_8⟩) HS0.out ?_
    case hy14_9_8 => (intro wq hSw; (try dsimp only at hSw); go_simp; try (with_reducible rfl))
    try simp only [Act.put, List.setIfInBounds_toArray, List.set_cons_zero, List.set_cons_succ]
    refine wpAnyH_take (i := 10) (v := ?v14_10_9) (by simp only [List.getElem?_toArray, List.getElem?_cons_zero, List.getElem?_cons_succ]; rfl) (by kernel_rfl) (by kernel_rfl) (by kernel_rfl) (by exact fun _ _ _ h => h) (Or.inl ⟨by rfl, ?hy14_10_9⟩) HS0.out ?_
    case hy14_10_9 => (intro wq hSw; (try dsimp only at hSw); go_simp; try (with_reducible rfl))
    try simp only [Act.put, List.setIfInBounds_toArray, List.set_cons_zero, List.set_cons_succ]
    refine wpAnyH_take (i := 11) (v := ?v14_11_10) (by simp only [List.getElem?_toArray, List.getElem?_cons_zero, List.getElem?_cons_succ]; rfl) (by kernel_rfl) (by kernel_rfl) (by kernel_rfl) (by exact fun _ _ _ h => h) (Or.inl ⟨by rfl, ?hy14_11_10⟩) HS0.out ?_
    case hy14_11_10 => (intro wq hSw; (try dsimp only at hSw); go_simp; try (with_reducible rfl))
    try simp only [Act.put, List.setIfInBounds_toArray, List.set_cons_zero, List.set_cons_succ]
    refine wpAnyH_take (i := 12) (v := ?v14_12_11) (by simp only [List.getElem?_toArray, List.getElem?_cons_zero, List.getElem?_cons_succ]; rfl) (by kernel_rfl) (by kernel_rfl) (by kernel_rfl) (by exact fun _ _ _ h => h) (Or.inl ⟨by rfl, ?hy14_12_11⟩) HS0.out ?_
    case hy14_12_11 => (intro wq hSw; refine (bd_ctx (.tmp 109) rfl rfl).trans ?_; with_reducible rfl)
    try simp only [Act.put, List.setIfInBounds_toArray, List.set_cons_zero, List.set_cons_succ]
    refine wpAnyH_ready (rs := [2, 14]) (by kernel_rfl) (by simp) ?_
    refine (AllReadyH.cons (by simp only [List.getElem?_toArray, List.getElem?_cons_zero, List.getElem?_cons_succ]; rfl) (fun K hK => ?_) (AllReadyH.cons (by simp only [List.getElem?_toArray, List.getElem?_cons_zero, List.getElem?_cons_succ]; rfl) (fun K hK => ?_) AllReadyH.nil))
    · as_aux_lemma =>
        refine Vx.step_callx rfl 19 #[Operand.tmp 99, Operand.const (Value.int IntKind.i64 20)] #[3, 3] rfl #[.int .i64 o.b, .int .i64 20] (by first | rfl | simp [Act.eval, go_sem]) (by simp [go_sem]) (HPD.out _) ?_
        rintro e w9 ⟨rfl, hw9⟩
        have hw8 := hw9.symm
        clear hw9
        subst hw8
        refine ⟨_, rfl, ?_⟩
        refine hK.out _ _ HS0.out (fun _ => ?_)
        clear hK K
        try simp only [Act.put, List.setIfInBounds_toArray, List.set_cons_zero, List.set_cons_succ]
        refine wpAnyH_ready (rs := [5, 14]) (by kernel_rfl) (by simp) ?_
        refine (AllReadyH.cons (by simp only [List.getElem?_toArray, List.getElem?_cons_zero, List.getElem?_cons_succ]; rfl) (fun K hK => ?_) (AllReadyH.cons (by simp only [List.getElem?_toArray, List.getElem?_cons_zero, List.getElem?_cons_succ]; rfl) (fun K hK => ?_) AllReadyH.nil))
        · as_aux_lemma =>
            refine Vx.step_callx rfl 19 #[Operand.tmp 102, Operand.const (Value.int IntKind.i64 20)] #[3, 3] rfl #[.int .i64 o.c, .int .i64 20] (by first | rfl | simp [Act.eval, go_sem]) (by simp [go_sem]) (HPQ.out _) ?_
            rintro e w9 ⟨rfl, hw9⟩
            have hw8 := hw9.symm
            clear hw9
            subst hw8
            refine ⟨_, rfl, ?_⟩
            refine hK.out _ _ HS0.out (fun _ => ?_)
            clear hK K
            try simp only [Act.put, List.setIfInBounds_toArray, List.set_cons_zero, List.set_cons_succ]
            refine wpAnyH_take (i := 13) (v := ?v14_13_12) (by simp only [List.getElem?_toArray, List.getElem?_cons_zero, List.getElem?_cons_succ]; rfl) (by kernel_rfl) (by kernel_rfl) (by kernel_rfl) (by exact fun _ _ _ h => h) (Or.inl ⟨by rfl, ?hy14_13_12⟩) HS0.out ?_
            case hy14_13_12 => (intro wq hSw; refine (bd_th (.const (.int .i64 11)) (.tmp 100) (.tmp 103) (.tmp 107) (.tmp 110) rfl rfl rfl rfl rfl rfl).trans ?_; with_reducible rfl)
            try simp only [Act.put, List.setIfInBounds_toArray, List.set_cons_zero, List.set_cons_succ]
            refine wpAnyH_ready (rs := [14]) (by kernel_rfl) (by simp) ?_
            refine (AllReadyH.cons (by simp only [List.getElem?_toArray, List.getElem?_cons_zero, List.getElem?_cons_succ]; rfl) (fun K hK => ?_) AllReadyH.nil)
            go_simp
            rw [← hwA]
            refine hK.out _ _ HSA.out (fun _ => ?_)
            clear hK K
            try simp only [Act.put, List.setIfInBounds_toArray, List.set_cons_zero, List.set_cons_succ]
            refine wpAnyH_ready (rs := [15]) (by kernel_rfl) (by simp) ?_
            refine (AllReadyH.cons (by simp only [List.getElem?_toArray, List.getElem?_cons_zero, List.getElem?_cons_succ]; rfl) (fun K hK => ?_) AllReadyH.nil)
            refine st_th (a := ⟨11, (D : Int), (P : Int), ev, fun _ => 0, (A : Int)⟩) (a0 := zth) (sb := w1.heap.size) (.tmp 5) (.tmp 111) rfl rfl (by simp [Act.eval]) (by simp [Act.eval]) HTA.out ?_
            rw [← hwB]
            refine hK.out _ _ HSB.out (fun _ => ?_)
            clear hK K
            try simp only [Act.put, List.setIfInBounds_toArray, List.set_cons_zero, List.set_cons_succ]
            refine wpAnyH_done (by kernel_rfl) ?_ _
            clear hwB hwA
            go_wp2_with fail
            go_meet
            exact ⟨_, rfl, HLF.out⟩
        · as_aux_lemma =>
            go_simp
            rw [← hwA]
            refine hK.out _ _ HSA.out (fun _ => ?_)
            clear hK K
            try simp only [Act.put, List.setIfInBounds_toArray, List.set_cons_zero, List.set_cons_succ]
            refine wpAnyH_ready (rs := [5]) (by kernel_rfl) (by simp) ?_
            refine (AllReadyH.cons (by simp only [List.getElem?_toArray, List.getElem?_cons_zero, List.getElem?_cons_succ]; rfl) (fun K hK => ?_) AllReadyH.nil)
            refine Vx.step_callx rfl 19 #[Operand.tmp 102, Operand.const (Value.int IntKind.i64 20)] #[3, 3] rfl #[.int .i64 o.c, .int .i64 20] (by first | rfl | simp [Act.eval, go_sem]) (by simp [go_sem]) (HPQ.out _) ?_
            rintro e w9 ⟨rfl, hw9⟩
            have hw8 := hw9.symm
            clear hw9
            subst hw8
            refine ⟨_, rfl, ?_⟩
            refine hK.out _ _ HSA.out (fun _ => ?_)
            clear hK K
            try simp only [Act.put, List.setIfInBounds_toArray, List.set_cons_zero, List.set_cons_succ]
            refine wpAnyH_take (i := 13) (v := ?v14_13_13) (by simp only [List.getElem?_toArray, List.getElem?_cons_zero, List.getElem?_cons_succ]; rfl) (by kernel_rfl) (by kernel_rfl) (by kernel_rfl) (by exact fun _ _ _ h => h) (Or.inl ⟨by rfl, ?hy14_13_13⟩) HSA.out ?_
            case hy14_13_13 => (intro wq hSw; refine (bd_th (.const (.int .i64 11)) (.tmp 100) (.tmp 103) (.tmp 107) (.tmp 110) rfl rfl rfl rfl rfl rfl).trans ?_; with_reducible rfl)
            try simp only [Act.put, List.setIfInBounds_toArray, List.set_cons_zero, List.set_cons_succ]
            refine wpAnyH_ready (rs := [15]) (by kernel_rfl) (by simp) ?_
            refine (AllReadyH.cons (by simp only [List.getElem?_toArray, List.getElem?_cons_zero, List.getElem?_cons_succ]; rfl) (fun K hK => ?_) AllReadyH.nil)
            refine st_th (a := ⟨11, (D : Int), (P : Int), ev, fun _ => 0, (A : Int)⟩) (a0 := zth) (sb := w1.heap.size) (.tmp 5) (.tmp 111) rfl rfl (by simp [Act.eval]) (by simp [Act.eval]) HTA.out ?_
            rw [← hwB]
            refine hK.out _ _ HSB.out (fun _ => ?_)
            clear hK K
            try simp only [Act.put, List.setIfInBounds_toArray, List.set_cons_zero, List.set_cons_succ]
            refine wpAnyH_done (by kernel_rfl) ?_ _
            clear hwB hwA
            go_wp2_with fail
            go_meet
            exact ⟨_, rfl, HLF.out⟩
    · as_aux_lemma =>
        go_simp
        rw [← hwA]
        refine hK.out _ _ HSA.out (fun _ => ?_)
        clear hK K
        try simp only [Act.put, List.setIfInBounds_toArray, List.set_cons_zero, List.set_cons_succ]
        refine wpAnyH_ready (rs := [2]) (by kernel_rfl) (by simp) ?_
        refine (AllReadyH.cons (by simp only [List.getElem?_toArray, List.getElem?_cons_zero, List.getElem?_cons_succ]; rfl) (fun K hK => ?_) AllReadyH.nil)
        refine Vx.step_callx rfl 19 #[Operand.tmp 99, Operand.const (Value.int IntKind.i64 20)] #[3, 3] rfl #[.int .i64 o.b, .int .i64 20] (by first | rfl | simp [Act.eval, go_sem]) (by simp [go_sem]) (HPD.out _) ?_
        rintro e w9 ⟨rfl, hw9⟩
        have hw8 := hw9.symm
        clear hw9
        subst hw8
        refine ⟨_, rfl, ?_⟩
        refine hK.out _ _ HSA.out (fun _ => ?_)
        clear hK K
        try simp only [Act.put, List.setIfInBounds_toArray, List.set_cons_zero, List.set_cons_succ]
        refine wpAnyH_ready (rs := [5]) (by kernel_rfl) (by simp) ?_
        refine (AllReadyH.cons (by simp only [List.getElem?_toArray, List.getElem?_cons_zero, List.getElem?_cons_succ]; rfl) (fun K hK => ?_) AllReadyH.nil)
        refine Vx.step_callx rfl 19 #[Operand.tmp 102, Operand.const (Value.int IntKind.i64 20)] #[3, 3] rfl #[.int .i64 o.c, .int .i64 20] (by first | rfl | simp [Act.eval, go_sem]) (by simp [go_sem]) (HPQ.out _) ?_
        rintro e w9 ⟨rfl, hw9⟩
        have hw8 := hw9.symm
        clear hw9
        subst hw8
        refine ⟨_, rfl, ?_⟩
        refine hK.out _ _ HSA.out (fun _ => ?_)
        clear hK K
        try simp only [Act.put, List.setIfInBounds_toArray, List.set_cons_zero, List.set_cons_succ]
        refine wpAnyH_take (i := 13) (v := ?v14_13_14) (by simp only [List.getElem?_toArray, List.getElem?_cons_zero, List.getElem?_cons_succ]; rfl) (by kernel_rfl) (by kernel_rfl) (by kernel_rfl) (by exact fun _ _ _ h => h) (Or.inl ⟨by rfl, ?hy14_13_14⟩) HSA.out ?_
        case hy14_13_14 => (intro wq hSw; refine (bd_th (.const (.int .i64 11)) (.tmp 100) (.tmp 103) (.tmp 107) (.tmp 110) rfl rfl rfl rfl rfl rfl).trans ?_; with_reducible rfl)
        try simp only [Act.put, List.setIfInBounds_toArray, List.set_cons_zero, List.set_cons_succ]
        refine wpAnyH_ready (rs := [15]) (by kernel_rfl) (by simp) ?_
        refine (AllReadyH.cons (by simp only [List.getElem?_toArray, List.getElem?_cons_zero, List.getElem?_cons_succ]; rfl) (fun K hK => ?_) AllReadyH.nil)
        refine st_th (a := ⟨11, (D : Int), (P : Int), ev, fun _ => 0, (A : Int)⟩) (a0 := zth) (sb := w1.heap.size) (.tmp 5) (.tmp 111) rfl rfl (by simp [Act.eval]) (by simp [Act.eval]) HTA.out ?_
        rw [← hwB]
        refine hK.out _ _ HSB.out (fun _ => ?_)
        clear hK K
        try simp only [Act.put, List.setIfInBounds_toArray, List.set_cons_zero, List.set_cons_succ]
        refine wpAnyH_done (by kernel_rfl) ?_ _
        clear hwB hwA
        go_wp2_with fail
        go_meet
        exact ⟨_, rfl, HLF.out⟩
  case rest =>
    obtain ⟨sb, rfl, HI⟩ := hcut
    rename World => w2
    clear HH1
    have c3 : w2.cell? ⟨sb, 3, none⟩ = some (.bool ev) := (cell_of_row _ _ 3 _ _ (0, 0) HI.out.t).trans rfl
    go_upto_if 113 with fail
    clear c3 hev2
    go_cut [6] from 112 to 113 (fun c6 wx => c6 = .string ⟨rw9.toArray⟩ ∧ wx = w2)
    case first =>
      cases ev with
      | true =>
        have hq := HRW.out.1 rfl
        subst hq
        go_wp2_with fail
        go_meet
        exact ⟨rfl, rfl⟩
      | false =>
        have hq := HRW.out.2 rfl
        subst hq
        go_wp2_with fail
        go_meet
        exact ⟨rfl, rfl⟩
    case rest =>
      obtain ⟨rfl, hw9⟩ := hcut
      have hw8 := hw9.symm
      clear hw9
      subst hw8
      clear HRW
      have k3 : w2.cell? ⟨ob, 3, none⟩ = some (.int .i64 o.c) := (cell_of_row _ _ 3 _ _ (0, 0) HI.out.l.te).trans rfl
      have k2 : w2.cell? ⟨ob, 2, none⟩ = some (.int .i64 o.b) := (cell_of_row _ _ 2 _ _ (0, 0) HI.out.l.te).trans rfl
      go_upto_region 19 with (go_at_call 19; refine (HPR.out _).mono ?_; rintro e w9 ⟨rfl, hw9⟩; have hw8 := hw9.symm; clear hw9; subst hw8)
      obtain ⟨q9, c9⟩ := HI.out.t.cell (4 + r) (by have := HRR.out; omega)
      have f9 := froz HI.out.t (4 + r)
      have hidr : 0 ≤ (r : Int) ∧ (r : Int) < 32 := by have := HRR.out; omega
      have HI3 : Hid (LtI W (w2.setCell ⟨sb, 4 + r, none⟩ (.int .u32 (B : Int))) xb vt vo vc vm (.slice pt nt ct) vi vn va T ob o sb tv) := by
        rw [HTV.out]
        exact HI.out.put (only1 _ _ _ _) (HI.out.t.set (B : Int) r HRR.out.2)
      obtain ⟨w3, hw3⟩ : ∃ w3, w3 = w2.setCell ⟨sb, 4 + r, none⟩ (.int .u32 (B : Int)) := ⟨_, rfl⟩
      rw [← hw3] at HI3
      go_upto_region 20 with (go_at_call 19; refine (HPB.out _).mono ?_; rintro e w9 ⟨rfl, hw9⟩; have hw8 := hw9.symm; clear hw9; subst hw8)
      rw [← hw3]
      clear hw3 c9 f9 k2 k3 HI
      have HXD := Vx.hid (HI3.out.l.quiet ((Only.refl _ w3).drew))
      have HT0 := Vx.hid HI3.out.t
      obtain ⟨wA, hwA⟩ : ∃ wA, wA = w3.drew.alloc (.cells (thL.cf tv).toArray 91) := ⟨_, rfl⟩
      obtain ⟨nA, hnA⟩ : ∃ nA, nA = w3.drew.heap.size := ⟨_, rfl⟩
      have hoA : Only (fun _ => False) w3 wA := by rw [hwA]; exact ((Only.refl _ _).drew).alloc _
      have HXA := Vx.hid (HI3.out.l.quiet hoA)
      have HTA := Vx.hid (HT0.out.keep hoA (fun h => h))
      have HYD : Hid (∀ j u, (thL.cf tv)[j]? = some u → wA.cell? ⟨nA, j, none⟩ = some u) := fun j u hj => by
        have hl : wA.heap[nA]? = some (.cells (thL.cf tv).toArray 91 (0, 0)) := by rw [hwA, hnA]; exact heap_alloc_last _ _
        rw [cell_of_row _ _ j _ _ (0, 0) hl, List.getElem?_toArray]
        exact hj
      have HBA : Hid (W.heap.size ≤ wA.heap.size) := HXA.out.h.be.size
      have HCE : Hid (∀ wv, LnI W wv xb vt vo vc vm (.slice pt nt ct) vi vn va T ob o → wv.cell? ⟨xb, 8, none⟩ = some (.slice pt nt ct)) := fun wv hv => (cell_of_row _ _ 8 _ _ (0, 0) hv.h.row).trans rfl
      have HS0 : Hid (w3.drew.cell? ⟨xb, 8, none⟩ = some (.slice pt nt ct) ∧ ThAt w3.drew sb tv) := ⟨HCE.out _ HXD.out, HT0.out⟩
      have HSA : Hid (wA.cell? ⟨xb, 8, none⟩ = some (.slice pt nt ct) ∧ ThAt wA sb tv) := ⟨HCE.out _ HXA.out, HTA.out⟩
      have HF : Hid (FreB xb sb vt vo vc vm (.slice pt nt ct) vi vn va ∧ W.heap.size ≤ sb ∧ ob ≠ sb) := ⟨HI3.out.f, HI3.out.b, HI3.out.n⟩
      clear hoA
      refine Vx.wp_region_last (S := (fun wv => wv.cell? ⟨xb, 8, none⟩ = some (.slice pt nt ct) ∧ ThAt wv sb tv)) 12 (by kernel_rfl) (by simp only [List.getElem?_toArray, List.getElem?_cons_zero, List.getElem?_cons_succ]; rfl) (by kernel_rfl) ?_
      simp only [Vx.offA, Vx.offO, List.setIfInBounds_toArray, List.set_cons_zero, List.set_cons_succ, List.size_toArray, List.length_cons, List.length_nil, Nat.zero_add, Nat.reduceAdd]
      refine wpAnyH_take (i := 0) (v := ?v20_0) (by simp only [List.getElem?_toArray, List.getElem?_cons_zero, List.getElem?_cons_succ]; rfl) (by kernel_rfl) (by kernel_rfl) (by kernel_rfl) (by exact fun _ _ _ h => h) (Or.inl ⟨by rfl, ?hy20_0⟩) HS0.out ?_
      case hy20_0 => (intro wq hSw; (try dsimp only at hSw); go_simp; try (with_reducible rfl))
      try simp only [Act.put, List.setIfInBounds_toArray, List.set_cons_zero, List.set_cons_succ]
      refine wpAnyH_take (i := 1) (v := ?v20_1) (by simp only [List.getElem?_toArray, List.getElem?_cons_zero, List.getElem?_cons_succ]; rfl) (by kernel_rfl) (by kernel_rfl) (by kernel_rfl) (by exact fun _ _ _ h => h) (Or.inl ⟨by rfl, ?hy20_1⟩) HS0.out ?_
      case hy20_1 => (intro wq hSw; (try dsimp only at hSw); go_simp; try (with_reducible rfl))
      try simp only [Act.put, List.setIfInBounds_toArray, List.set_cons_zero, List.set_cons_succ]
      refine wpAnyH_take (i := 2) (v := ?v20_2) (by simp only [List.getElem?_toArray, List.getElem?_cons_zero, List.getElem?_cons_succ]; rfl) (by kernel_rfl) (by kernel_rfl) (by kernel_rfl) (by exact fun _ _ _ h => h) (Or.inl ⟨by rfl, ?hy20_2⟩) HS0.out ?_
      case hy20_2 => (intro wq hSw; (try dsimp only at hSw); go_simp; try (with_reducible rfl))
      try simp only [Act.put, List.setIfInBounds_toArray, List.set_cons_zero, List.set_cons_succ]
      refine wpAnyH_take (i := 3) (v := ?v20_3) (by simp only [List.getElem?_toArray, List.getElem?_cons_zero, List.getElem?_cons_succ]; rfl) (by kernel_rfl) (by kernel_rfl) (by kernel_rfl) (by exact fun _ _ _ h => h) (Or.inl ⟨by rfl, ?hy20_3⟩) HS0.out ?_
      case hy20_3 => (intro wq hSw; (try dsimp only at hSw); go_simp; try (with_reducible rfl))
      try simp only [Act.put, List.setIfInBounds_toArray, List.set_cons_zero, List.set_cons_succ]
      refine wpAnyH_take (i := 4) (v := ?v20_4) (by simp only [List.getElem?_toArray, List.getElem?_cons_zero, List.getElem?_cons_succ]; rfl) (by kernel_rfl) (by kernel_rfl) (by kernel_rfl) (by exact fun _ _ _ h => h) (Or.inl ⟨by rfl, ?hy20_4⟩) HS0.out ?_
      case hy20_4 => (intro wq hSw; (try dsimp only at hSw); go_simp; try (with_reducible rfl))
      try simp only [Act.put, List.setIfInBounds_toArray, List.set_cons_zero, List.set_cons_succ]
      refine wpAnyH_take (i := 5) (v := ?v20_5) (by simp only [List.getElem?_toArray, List.getElem?_cons_zero, List.getElem?_cons_succ]; rfl) (by kernel_rfl) (by kernel_rfl) (by kernel_rfl) (by exact fun _ _ _ h => h) (Or.inl ⟨by rfl, ?hy20_5⟩) HS0.out ?_
      case hy20_5 => (intro wq hSw; (try dsimp only at hSw); go_simp; try (with_reducible rfl))
      try simp only [Act.put, List.setIfInBounds_toArray, List.set_cons_zero, List.set_cons_succ]
      refine wpAnyH_take (i := 6) (v := ?v20_6) (by simp only [List.getElem?_toArray, List.getElem?_cons_zero, List.getElem?_cons_succ]; rfl) (by kernel_rfl) (by kernel_rfl) (by kernel_rfl) (by exact fun _ _ _ h => h) (Or.inl ⟨by rfl, ?hy20_6⟩) HS0.out ?_
      case hy20_6 => (intro wq hSw; refine (ld_th (.tmp 5) rfl (by simp [Act.eval]) hSw.2).trans ?_; with_reducible rfl)
      try simp only [Act.put, List.setIfInBounds_toArray, List.set_cons_zero, List.set_cons_succ]
      refine wpAnyH_ready (rs := [7]) (by kernel_rfl) (by simp) ?_
      refine AllReadyH.cons (by simp only [List.getElem?_toArray, List.getElem?_cons_zero, List.getElem?_cons_succ]; rfl) (fun K hK => ?_) AllReadyH.nil
      refine row_th (a := tv) (.tmp 132) 133 rfl rfl (by simp [Act.eval]) ?_
      rw [← hwA, ← hnA]
      refine hK.out _ _ HSA.out (fun _ => ?_)
      clear hK K
      try simp only [Act.put, List.setIfInBounds_toArray, List.set_cons_zero, List.set_cons_succ]
      refine wpAnyH_ready (rs := [8]) (by kernel_rfl) (by simp) ?_
      refine AllReadyH.cons (by simp only [List.getElem?_toArray, List.getElem?_cons_zero, List.getElem?_cons_succ]; rfl) (fun K hK => ?_) AllReadyH.nil
      refine Vx.step_append_one tKh rfl (.tmp 131) (.tmp 133) rfl W.heap.size (.slice pt nt ct) T.th (by simp [Act.eval]) HXA.out.h.lh tv nA 1 1 (by simp [Act.eval]) HYD.out HLN.out.1 HBA.out ?_
      intro v6 w6 hv1 hv2 hv3
      obtain ⟨⟨pq, mq, cq, rfl⟩, ⟨qx, hq1⟩, hq2, hxc, hoc, HQ5⟩ := HXA.out.st_h v6 w6 _ hv1 hv2
      have HT6 := Vx.hid (HTA.out.keep hv2 HF.out.1.2.2.2.2.2.1)
      have HS6 : Hid (w6.cell? ⟨xb, 8, none⟩ = some (.slice pt nt ct) ∧ ThAt w6 sb tv) := ⟨(hxc 8).trans HSA.out.1, HT6.out⟩
      clear hxc hoc hv1 hv2 hv3
      refine hK.out _ _ HS6.out (fun _ => ?_)
      clear hK K
      try simp only [Act.put, List.setIfInBounds_toArray, List.set_cons_zero, List.set_cons_succ]
      refine wpAnyH_take (i := 9) (v := ?v20_9) (by simp only [List.getElem?_toArray, List.getElem?_cons_zero, List.getElem?_cons_succ]; rfl) (by kernel_rfl) (by kernel_rfl) (by kernel_rfl) (by exact fun _ _ _ h => h) (Or.inl ⟨by rfl, ?hy20_9⟩) HS6.out ?_
      case hy20_9 => (intro wq hSw; (try dsimp only at hSw); go_simp; try (with_reducible rfl))
      try simp only [Act.put, List.setIfInBounds_toArray, List.set_cons_zero, List.set_cons_succ]
      refine wpAnyH_take (i := 10) (v := ?v20_10) (by simp only [List.getElem?_toArray, List.getElem?_cons_zero, List.getElem?_cons_succ]; rfl) (by kernel_rfl) (by kernel_rfl) (by kernel_rfl) (by exact fun _ _ _ h => h) (Or.inl ⟨by rfl, ?hy20_10⟩) HS6.out ?_
      case hy20_10 => (intro wq hSw; (try dsimp only at hSw); go_simp; try (with_reducible rfl))
      try simp only [Act.put, List.setIfInBounds_toArray, List.set_cons_zero, List.set_cons_succ]
      refine wpAnyH_take (i := 11) (v := ?v20_11) (by simp only [List.getElem?_toArray, List.getElem?_cons_zero, List.getElem?_cons_succ]; rfl) (by kernel_rfl) (by kernel_rfl) (by kernel_rfl) (by exact fun _ _ _ h => h) (Or.inl ⟨by rfl, ?hy20_11⟩) HS6.out ?_
      case hy20_11 => (intro wq hSw; (try dsimp only at hSw); go_simp; try (with_reducible rfl))
      try simp only [Act.put, List.setIfInBounds_toArray, List.set_cons_zero, List.set_cons_succ]
      refine wpAnyH_take (i := 12) (v := undef) (by simp only [List.getElem?_toArray, List.getElem?_cons_zero, List.getElem?_cons_succ]; rfl) (by kernel_rfl) (by kernel_rfl) (by kernel_rfl) (by exact fun _ _ _ h => h) (Or.inr ⟨by rfl, rfl⟩) HS6.out ?_
      refine wpAnyH_done (by kernel_rfl) ?_ _
      simp only [Vx.upTo]
      clear hwA hnA HYD HBA HXA HXD HS0 HSA HS6 HCE HT0 HTA
      go_upto_region 21 with fail
      obtain ⟨w7, hw7⟩ : ∃ w7, w7 = w6.setCell ⟨xb, 8, none⟩ (.slice pq mq cq) := ⟨_, rfl⟩
      have HT7 : Hid (ThAt w7 sb tv) := by show ThAt _ _ _; rw [hw7]; exact HT6.out.keep (only1 _ _ _ _) (fun e => HF.out.1.1 e)
      rw [← hw7] at HQ5 ⊢
      clear hw7 hq1 hq2 HT6
      have gk := HGK.out
      go_upto_region 22 with (go_at_call 22; refine (HDK.out _).mono ?_; rintro e w8 ⟨rfl, hb8⟩; have HQ8 := Vx.hid (HQ5.out.quiet (Only.of_below hb8 (fun k hk h9 => by omega))); have HT8 := Vx.hid (HT7.out.keep (Only.of_below hb8 (S := fun _ => False) (fun k hk h9 => by omega)) (fun h => h)); clear hb8)
      have e8 : (⟨#[32, 120]⟩ : ByteArray) ++ ⟨dK.toArray⟩ ++ ⟨#[32]⟩ = ⟨rg9.toArray⟩ := by
        rw [HRG.out]
        simp only [catB, List.cons_append, List.nil_append]
      rw [e8]
      clear e8 gk HQ5 HT7
      have HI0 := Vx.hid (HQ8.out.quiet ((Only.refl _ w8).drew))
      have HT0 : Hid (ThAt w8.drew sb tv) := HT8.out
      have HCE : Hid (∀ wv, LnI W wv xb vt vo vc vm (.slice pq mq cq) vi vn va { T with th := T.th ++ [tv] } ob o → ThAt wv sb tv → wv.cell? ⟨xb, 0, none⟩ = some (.string ⟨T.t.toArray⟩) ∧ wv.cell? ⟨ob, 2, none⟩ = some (.int .i64 o.b) ∧ wv.cell? ⟨sb, 1, none⟩ = some (.int .i64 (D : Int)) ∧ wv.cell? ⟨sb, 2, none⟩ = some (.int .i64 (P : Int))) := fun wv hv ht => by
        refine ⟨(cell_of_row _ _ 0 _ _ (0, 0) hv.h.row).trans rfl, (cell_of_row _ _ 2 _ _ (0, 0) hv.te).trans rfl, ?_, ?_⟩
        · rw [HTV.out] at ht
          exact (cell_of_row _ _ 1 _ _ (0, 0) ht).trans rfl
        · rw [HTV.out] at ht
          exact (cell_of_row _ _ 2 _ _ (0, 0) ht).trans rfl
      have HS0 := Vx.hid (HCE.out _ HI0.out HT0.out)
      have g0 := HLN.out.2
      have g1 := HGA.out
      have g2 := HGD.out
      have g3 := HGP.out
      have g4 := HGB.out
      have g5 := HRL.out
      have g6 := HRGL.out
      have y0 : ¬ 9223372036854775807 < T.t.length + 8 := by omega
      have y1 : ¬ 9223372036854775807 < T.t.length + 8 + dD.length := by omega
      have y2 : ¬ 9223372036854775807 < T.t.length + 8 + dD.length + 1 := by omega
      have y3 : ¬ 9223372036854775807 < T.t.length + 8 + dD.length + 1 + dP.length := by omega
      have y4 : ¬ 9223372036854775807 < T.t.length + 8 + dD.length + 1 + dP.length + rw9.length := by omega
      have y5 : ¬ 9223372036854775807 < T.t.length + 8 + dD.length + 1 + dP.length + rw9.length + dA.length := by omega
      have y6 : ¬ 9223372036854775807 < T.t.length + 8 + dD.length + 1 + dP.length + rw9.length + dA.length + rg9.length := by omega
      have y7 : ¬ 9223372036854775807 < T.t.length + 8 + dD.length + 1 + dP.length + rw9.length + dA.length + rg9.length + dA.length := by omega
      have y8 : ¬ 9223372036854775807 < T.t.length + 8 + dD.length + 1 + dP.length + rw9.length + dA.length + rg9.length + dA.length + rg9.length := by omega
      have y9 : ¬ 9223372036854775807 < T.t.length + 8 + dD.length + 1 + dP.length + rw9.length + dA.length + rg9.length + dA.length + rg9.length + dB.length := by omega
      refine Vx.wp_region_last (S := (fun wv => wv.cell? ⟨xb, 0, none⟩ = some (.string ⟨T.t.toArray⟩) ∧ wv.cell? ⟨ob, 2, none⟩ = some (.int .i64 o.b) ∧ wv.cell? ⟨sb, 1, none⟩ = some (.int .i64 (D : Int)) ∧ wv.cell? ⟨sb, 2, none⟩ = some (.int .i64 (P : Int)))) 34 (by kernel_rfl) (by simp only [List.getElem?_toArray, List.getElem?_cons_zero, List.getElem?_cons_succ]; rfl) (by kernel_rfl) ?_
      simp only [Vx.offA, Vx.offO, List.setIfInBounds_toArray, List.set_cons_zero, List.set_cons_succ, List.size_toArray, List.length_cons, List.length_nil, Nat.zero_add, Nat.reduceAdd]
      refine wpAnyH_take (i := 0) (v := ?v22_0) (by simp only [List.getElem?_toArray, List.getElem?_cons_zero, List.getElem?_cons_succ]; rfl) (by kernel_rfl) (by kernel_rfl) (by kernel_rfl) (by exact fun _ _ _ h => h) (Or.inl ⟨by rfl, ?hy22_0⟩) HS0.out ?_
      case hy22_0 => (intro wq hSw; (try dsimp only at hSw); go_simp; try (with_reducible rfl))
      try simp only [Act.put, List.setIfInBounds_toArray, List.set_cons_zero, List.set_cons_succ]
      refine wpAnyH_take (i := 1) (v := ?v22_1) (by simp only [List.getElem?_toArray, List.getElem?_cons_zero, List.getElem?_cons_succ]; rfl) (by kernel_rfl) (by kernel_rfl) (by kernel_rfl) (by exact fun _ _ _ h => h) (Or.inl ⟨by rfl, ?hy22_1⟩) HS0.out ?_
      case hy22_1 => (intro wq hSw; (try dsimp only at hSw); go_simp; try (with_reducible rfl))
      try simp only [Act.put, List.setIfInBounds_toArray, List.set_cons_zero, List.set_cons_succ]
      refine wpAnyH_take (i := 2) (v := ?v22_2) (by simp only [List.getElem?_toArray, List.getElem?_cons_zero, List.getElem?_cons_succ]; rfl) (by kernel_rfl) (by kernel_rfl) (by kernel_rfl) (by exact fun _ _ _ h => h) (Or.inl ⟨by rfl, ?hy22_2⟩) HS0.out ?_
      case hy22_2 => (intro wq hSw; (try dsimp only at hSw); go_simp; try (with_reducible rfl))
      try simp only [Act.put, List.setIfInBounds_toArray, List.set_cons_zero, List.set_cons_succ]
      refine wpAnyH_take (i := 3) (v := ?v22_3) (by simp only [List.getElem?_toArray, List.getElem?_cons_zero, List.getElem?_cons_succ]; rfl) (by kernel_rfl) (by kernel_rfl) (by kernel_rfl) (by exact fun _ _ _ h => h) (Or.inl ⟨by rfl, ?hy22_3⟩) HS0.out ?_
      case hy22_3 => (intro wq hSw; (try dsimp only at hSw); go_simp; try (with_reducible rfl))
      try simp only [Act.put, List.setIfInBounds_toArray, List.set_cons_zero, List.set_cons_succ]
      refine wpAnyH_take (i := 4) (v := ?v22_4) (by simp only [List.getElem?_toArray, List.getElem?_cons_zero, List.getElem?_cons_succ]; rfl) (by kernel_rfl) (by kernel_rfl) (by kernel_rfl) (by exact fun _ _ _ h => h) (Or.inl ⟨by rfl, ?hy22_4⟩) HS0.out ?_
      case hy22_4 => (intro wq hSw; (try dsimp only at hSw); go_simp; try (with_reducible rfl))
      try simp only [Act.put, List.setIfInBounds_toArray, List.set_cons_zero, List.set_cons_succ]
      refine wpAnyH_take (i := 5) (v := ?v22_5) (by simp only [List.getElem?_toArray, List.getElem?_cons_zero, List.getElem?_cons_succ]; rfl) (by kernel_rfl) (by kernel_rfl) (by kernel_rfl) (by exact fun _ _ _ h => h) (Or.inl ⟨by rfl, ?hy22_5⟩) HS0.out ?_
      case hy22_5 => (intro wq hSw; (try dsimp only at hSw); go_simp; try (with_reducible rfl))
      try simp only [Act.put, List.setIfInBounds_toArray, List.set_cons_zero, List.set_cons_succ]
      refine wpAnyH_take (i := 6) (v := ?v22_6) (by simp only [List.getElem?_toArray, List.getElem?_cons_zero, List.getElem?_cons_succ]; rfl) (by kernel_rfl) (by kernel_rfl) (by kernel_rfl) (by exact fun _ _ _ h => h) (Or.inl ⟨by rfl, ?hy22_6⟩) HS0.out ?_
      case hy22_6 => (intro wq hSw; (try dsimp only at hSw); go_simp; try (with_reducible rfl))
      try simp only [Act.put, List.setIfInBounds_toArray, List.set_cons_zero, List.set_cons_succ]
      refine wpAnyH_take (i := 7) (v := ?v22_7) (by simp only [List.getElem?_toArray, List.getElem?_cons_zero, List.getElem?_cons_succ]; rfl) (by kernel_rfl) (by kernel_rfl) (by kernel_rfl) (by exact fun _ _ _ h => h) (Or.inl ⟨by rfl, ?hy22_7⟩) HS0.out ?_
      case hy22_7 => (intro wq hSw; (try dsimp only at hSw); go_simp; try (with_reducible rfl))
      try simp only [Act.put, List.setIfInBounds_toArray, List.set_cons_zero, List.set_cons_succ]
      refine wpAnyH_take (i := 11) (v := ?v22_11) (by simp only [List.getElem?_toArray, List.getElem?_cons_zero, List.getElem?_cons_succ]; rfl) (by kernel_rfl) (by kernel_rfl) (by kernel_rfl) (by exact fun _ _ _ h => h) (Or.inl ⟨by rfl, ?hy22_11⟩) HS0.out ?_
      case hy22_11 => (intro wq hSw; (try dsimp only at hSw); go_simp; try (with_reducible rfl))
      try simp only [Act.put, List.setIfInBounds_toArray, List.set_cons_zero, List.set_cons_succ]
      refine wpAnyH_take (i := 12) (v := ?v22_12) (by simp only [List.getElem?_toArray, List.getElem?_cons_zero, List.getElem?_cons_succ]; rfl) (by kernel_rfl) (by kernel_rfl) (by kernel_rfl) (by exact fun _ _ _ h => h) (Or.inl ⟨by rfl, ?hy22_12⟩) HS0.out ?_
      case hy22_12 => (intro wq hSw; (try dsimp only at hSw); go_simp; try (with_reducible rfl))
      try simp only [Act.put, List.setIfInBounds_toArray, List.set_cons_zero, List.set_cons_succ]
      refine wpAnyH_take (i := 15) (v := ?v22_15) (by simp only [List.getElem?_toArray, List.getElem?_cons_zero, List.getElem?_cons_succ]; rfl) (by kernel_rfl) (by kernel_rfl) (by kernel_rfl) (by exact fun _ _ _ h => h) (Or.inl ⟨by rfl, ?hy22_15⟩) HS0.out ?_
      case hy22_15 => (intro wq hSw; (try dsimp only at hSw); go_simp; try (with_reducible rfl))
      try simp only [Act.put, List.setIfInBounds_toArray, List.set_cons_zero, List.set_cons_succ]
      refine wpAnyH_take (i := 17) (v := ?v22_17) (by simp only [List.getElem?_toArray, List.getElem?_cons_zero, List.getElem?_cons_succ]; rfl) (by kernel_rfl) (by kernel_rfl) (by kernel_rfl) (by exact fun _ _ _ h => h) (Or.inl ⟨by rfl, ?hy22_17⟩) HS0.out ?_
      case hy22_17 => (intro wq hSw; (try dsimp only at hSw); go_simp; try (with_reducible rfl))
      try simp only [Act.put, List.setIfInBounds_toArray, List.set_cons_zero, List.set_cons_succ]
      refine wpAnyH_take (i := 20) (v := ?v22_20) (by simp only [List.getElem?_toArray, List.getElem?_cons_zero, List.getElem?_cons_succ]; rfl) (by kernel_rfl) (by kernel_rfl) (by kernel_rfl) (by exact fun _ _ _ h => h) (Or.inl ⟨by rfl, ?hy22_20⟩) HS0.out ?_
      case hy22_20 => (intro wq hSw; (try dsimp only at hSw); go_simp; try (with_reducible rfl))
      try simp only [Act.put, List.setIfInBounds_toArray, List.set_cons_zero, List.set_cons_succ]
      refine wpAnyH_take (i := 22) (v := ?v22_22) (by simp only [List.getElem?_toArray, List.getElem?_cons_zero, List.getElem?_cons_succ]; rfl) (by kernel_rfl) (by kernel_rfl) (by kernel_rfl) (by exact fun _ _ _ h => h) (Or.inl ⟨by rfl, ?hy22_22⟩) HS0.out ?_
      case hy22_22 => (intro wq hSw; (try dsimp only at hSw); go_simp; try (with_reducible rfl))
      try simp only [Act.put, List.setIfInBounds_toArray, List.set_cons_zero, List.set_cons_succ]
      refine wpAnyH_take (i := 25) (v := ?v22_25) (by simp only [List.getElem?_toArray, List.getElem?_cons_zero, List.getElem?_cons_succ]; rfl) (by kernel_rfl) (by kernel_rfl) (by kernel_rfl) (by exact fun _ _ _ h => h) (Or.inl ⟨by rfl, ?hy22_25⟩) HS0.out ?_
      case hy22_25 => (intro wq hSw; (try dsimp only at hSw); go_simp; try (with_reducible rfl))
      try simp only [Act.put, List.setIfInBounds_toArray, List.set_cons_zero, List.set_cons_succ]
      refine wpAnyH_take (i := 27) (v := ?v22_27) (by simp only [List.getElem?_toArray, List.getElem?_cons_zero, List.getElem?_cons_succ]; rfl) (by kernel_rfl) (by kernel_rfl) (by kernel_rfl) (by exact fun _ _ _ h => h) (Or.inl ⟨by rfl, ?hy22_27⟩) HS0.out ?_
      case hy22_27 => (intro wq hSw; (try dsimp only at hSw); go_simp; try (with_reducible rfl))
      try simp only [Act.put, List.setIfInBounds_toArray, List.set_cons_zero, List.set_cons_succ]
      refine wpAnyH_take (i := 28) (v := ?v22_28) (by simp only [List.getElem?_toArray, List.getElem?_cons_zero, List.getElem?_cons_succ]; rfl) (by kernel_rfl) (by kernel_rfl) (by kernel_rfl) (by exact fun _ _ _ h => h) (Or.inl ⟨by rfl, ?hy22_28⟩) HS0.out ?_
      case hy22_28 => (intro wq hSw; (try dsimp only at hSw); go_simp; try (with_reducible rfl))
      try simp only [Act.put, List.setIfInBounds_toArray, List.set_cons_zero, List.set_cons_succ]
      refine wpAnyH_ready (rs := [8]) (by kernel_rfl) (by simp) ?_
      refine AllReadyH.cons (by simp only [List.getElem?_toArray, List.getElem?_cons_zero, List.getElem?_cons_succ]; rfl) (fun K hK => ?_) AllReadyH.nil
      refine Vx.step_callx rfl 22 #[Operand.tmp 149] #[3] rfl #[.int .i64 (D : Int)] (by first | rfl | simp [Act.eval, go_sem]) (by simp [go_sem]) (HDD.out _) ?_
      rintro e wa ⟨rfl, hb4⟩
      have ho4 : Only (fun _ => False) _ wa := Only.of_below hb4 (fun k hk h9 => by omega)
      have HIwa := Vx.hid (HI0.out.quiet ho4)
      have HTwa := Vx.hid (HT0.out.keep ho4 (fun h => h))
      clear hb4 ho4
      have HSwa := Vx.hid (HCE.out _ HIwa.out HTwa.out)
      refine ⟨_, rfl, ?_⟩
      refine hK.out _ _ HSwa.out (fun _ => ?_)
      clear hK K
      try simp only [Act.put, List.setIfInBounds_toArray, List.set_cons_zero, List.set_cons_succ]
      refine wpAnyH_take (i := 9) (v := ?v22_9) (by simp only [List.getElem?_toArray, List.getElem?_cons_zero, List.getElem?_cons_succ]; rfl) (by kernel_rfl) (by kernel_rfl) (by kernel_rfl) (by exact fun _ _ _ h => h) (Or.inl ⟨by rfl, ?hy22_9⟩) HSwa.out ?_
      case hy22_9 => (intro wq hSw; (try dsimp only at hSw); go_simp; try (with_reducible rfl))
      try simp only [Act.put, List.setIfInBounds_toArray, List.set_cons_zero, List.set_cons_succ]
      refine wpAnyH_take (i := 10) (v := ?v22_10) (by simp only [List.getElem?_toArray, List.getElem?_cons_zero, List.getElem?_cons_succ]; rfl) (by kernel_rfl) (by kernel_rfl) (by kernel_rfl) (by exact fun _ _ _ h => h) (Or.inl ⟨by rfl, ?hy22_10⟩) HSwa.out ?_
      case hy22_10 => (intro wq hSw; (try dsimp only at hSw); go_simp; try (with_reducible rfl))
      try simp only [Act.put, List.setIfInBounds_toArray, List.set_cons_zero, List.set_cons_succ]
      refine wpAnyH_ready (rs := [13]) (by kernel_rfl) (by simp) ?_
      refine AllReadyH.cons (by simp only [List.getElem?_toArray, List.getElem?_cons_zero, List.getElem?_cons_succ]; rfl) (fun K hK => ?_) AllReadyH.nil
      refine Vx.step_callx rfl 22 #[Operand.tmp 154] #[3] rfl #[.int .i64 (P : Int)] (by first | rfl | simp [Act.eval, go_sem]) (by simp [go_sem]) (HDP.out _) ?_
      rintro e wb ⟨rfl, hb4⟩
      have ho4 : Only (fun _ => False) _ wb := Only.of_below hb4 (fun k hk h9 => by omega)
      have HIwb := Vx.hid (HIwa.out.quiet ho4)
      have HTwb := Vx.hid (HTwa.out.keep ho4 (fun h => h))
      clear hb4 ho4
      have HSwb := Vx.hid (HCE.out _ HIwb.out HTwb.out)
      refine ⟨_, rfl, ?_⟩
      refine hK.out _ _ HSwb.out (fun _ => ?_)
      clear hK K
      try simp only [Act.put, List.setIfInBounds_toArray, List.set_cons_zero, List.set_cons_succ]
      refine wpAnyH_take (i := 14) (v := ?v22_14) (by simp only [List.getElem?_toArray, List.getElem?_cons_zero, List.getElem?_cons_succ]; rfl) (by kernel_rfl) (by kernel_rfl) (by kernel_rfl) (by exact fun _ _ _ h => h) (Or.inl ⟨by rfl, ?hy22_14⟩) HSwb.out ?_
      case hy22_14 => (intro wq hSw; (try dsimp only at hSw); go_simp; try (with_reducible rfl))
      try simp only [Act.put, List.setIfInBounds_toArray, List.set_cons_zero, List.set_cons_succ]
      refine wpAnyH_take (i := 16) (v := ?v22_16) (by simp only [List.getElem?_toArray, List.getElem?_cons_zero, List.getElem?_cons_succ]; rfl) (by kernel_rfl) (by kernel_rfl) (by kernel_rfl) (by exact fun _ _ _ h => h) (Or.inl ⟨by rfl, ?hy22_16⟩) HSwb.out ?_
      case hy22_16 => (intro wq hSw; (try dsimp only at hSw); go_simp; try (with_reducible rfl))
      try simp only [Act.put, List.setIfInBounds_toArray, List.set_cons_zero, List.set_cons_succ]
      refine wpAnyH_ready (rs := [18]) (by kernel_rfl) (by simp) ?_
      refine AllReadyH.cons (by simp only [List.getElem?_toArray, List.getElem?_cons_zero, List.getElem?_cons_succ]; rfl) (fun K hK => ?_) AllReadyH.nil
      refine Vx.step_callx rfl 22 #[Operand.tmp 159] #[3] rfl #[.int .i64 (A : Int)] (by first | rfl | simp [Act.eval, go_sem]) (by simp [go_sem]) (HDA.out _) ?_
      rintro e wd ⟨rfl, hb4⟩
      have ho4 : Only (fun _ => False) _ wd := Only.of_below hb4 (fun k hk h9 => by omega)
      have HIwd := Vx.hid (HIwb.out.quiet ho4)
      have HTwd := Vx.hid (HTwb.out.keep ho4 (fun h => h))
      clear hb4 ho4
      have HSwd := Vx.hid (HCE.out _ HIwd.out HTwd.out)
      refine ⟨_, rfl, ?_⟩
      refine hK.out _ _ HSwd.out (fun _ => ?_)
      clear hK K
      try simp only [Act.put, List.setIfInBounds_toArray, List.set_cons_zero, List.set_cons_succ]
      refine wpAnyH_take (i := 19) (v := ?v22_19) (by simp only [List.getElem?_toArray, List.getElem?_cons_zero, List.getElem?_cons_succ]; rfl) (by kernel_rfl) (by kernel_rfl) (by kernel_rfl) (by exact fun _ _ _ h => h) (Or.inl ⟨by rfl, ?hy22_19⟩) HSwd.out ?_
      case hy22_19 => (intro wq hSw; (try dsimp only at hSw); go_simp; try (with_reducible rfl))
      try simp only [Act.put, List.setIfInBounds_toArray, List.set_cons_zero, List.set_cons_succ]
      refine wpAnyH_take (i := 21) (v := ?v22_21) (by simp only [List.getElem?_toArray, List.getElem?_cons_zero, List.getElem?_cons_succ]; rfl) (by kernel_rfl) (by kernel_rfl) (by kernel_rfl) (by exact fun _ _ _ h => h) (Or.inl ⟨by rfl, ?hy22_21⟩) HSwd.out ?_
      case hy22_21 => (intro wq hSw; (try dsimp only at hSw); go_simp; try (with_reducible rfl))
      try simp only [Act.put, List.setIfInBounds_toArray, List.set_cons_zero, List.set_cons_succ]
      refine wpAnyH_ready (rs := [23]) (by kernel_rfl) (by simp) ?_
      refine AllReadyH.cons (by simp only [List.getElem?_toArray, List.getElem?_cons_zero, List.getElem?_cons_succ]; rfl) (fun K hK => ?_) AllReadyH.nil
      refine Vx.step_callx rfl 22 #[Operand.tmp 164] #[3] rfl #[.int .i64 (A : Int)] (by first | rfl | simp [Act.eval, go_sem]) (by simp [go_sem]) (HDA.out _) ?_
      rintro e we ⟨rfl, hb4⟩
      have ho4 : Only (fun _ => False) _ we := Only.of_below hb4 (fun k hk h9 => by omega)
      have HIwe := Vx.hid (HIwd.out.quiet ho4)
      have HTwe := Vx.hid (HTwd.out.keep ho4 (fun h => h))
      clear hb4 ho4
      have HSwe := Vx.hid (HCE.out _ HIwe.out HTwe.out)
      refine ⟨_, rfl, ?_⟩
      refine hK.out _ _ HSwe.out (fun _ => ?_)
      clear hK K
      try simp only [Act.put, List.setIfInBounds_toArray, List.set_cons_zero, List.set_cons_succ]
      refine wpAnyH_take (i := 24) (v := ?v22_24) (by simp only [List.getElem?_toArray, List.getElem?_cons_zero, List.getElem?_cons_succ]; rfl) (by kernel_rfl) (by kernel_rfl) (by kernel_rfl) (by exact fun _ _ _ h => h) (Or.inl ⟨by rfl, ?hy22_24⟩) HSwe.out ?_
      case hy22_24 => (intro wq hSw; (try dsimp only at hSw); go_simp; try (with_reducible rfl))
      try simp only [Act.put, List.setIfInBounds_toArray, List.set_cons_zero, List.set_cons_succ]
      refine wpAnyH_take (i := 26) (v := ?v22_26) (by simp only [List.getElem?_toArray, List.getElem?_cons_zero, List.getElem?_cons_succ]; rfl) (by kernel_rfl) (by kernel_rfl) (by kernel_rfl) (by exact fun _ _ _ h => h) (Or.inl ⟨by rfl, ?hy22_26⟩) HSwe.out ?_
      case hy22_26 => (intro wq hSw; (try dsimp only at hSw); go_simp; try (with_reducible rfl))
      try simp only [Act.put, List.setIfInBounds_toArray, List.set_cons_zero, List.set_cons_succ]
      refine wpAnyH_ready (rs := [29]) (by kernel_rfl) (by simp) ?_
      refine AllReadyH.cons (by simp only [List.getElem?_toArray, List.getElem?_cons_zero, List.getElem?_cons_succ]; rfl) (fun K hK => ?_) AllReadyH.nil
      refine Vx.step_callx rfl 19 #[Operand.tmp 170, Operand.const (Value.int IntKind.i64 4294967296)] #[3, 3] rfl #[.int .i64 o.b, .int .i64 4294967296] (by first | rfl | simp [Act.eval, go_sem]) (by simp [go_sem]) (HPB.out _) ?_
      rintro e w9 ⟨rfl, hw9⟩
      have hw8 := hw9.symm
      clear hw9
      subst hw8
      refine ⟨_, rfl, ?_⟩
      refine hK.out _ _ HSwe.out (fun _ => ?_)
      clear hK K
      try simp only [Act.put, List.setIfInBounds_toArray, List.set_cons_zero, List.set_cons_succ]
      refine wpAnyH_ready (rs := [30]) (by kernel_rfl) (by simp) ?_
      refine AllReadyH.cons (by simp only [List.getElem?_toArray, List.getElem?_cons_zero, List.getElem?_cons_succ]; rfl) (fun K hK => ?_) AllReadyH.nil
      refine Vx.step_callx rfl 22 #[Operand.tmp 171] #[3] rfl #[.int .i64 (B : Int)] (by first | rfl | simp [Act.eval, go_sem]) (by simp [go_sem]) (HDB.out _) ?_
      rintro e wf ⟨rfl, hb4⟩
      have ho4 : Only (fun _ => False) _ wf := Only.of_below hb4 (fun k hk h9 => by omega)
      have HIwf := Vx.hid (HIwe.out.quiet ho4)
      have HTwf := Vx.hid (HTwe.out.keep ho4 (fun h => h))
      clear hb4 ho4
      have HSwf := Vx.hid (HCE.out _ HIwf.out HTwf.out)
      refine ⟨_, rfl, ?_⟩
      refine hK.out _ _ HSwf.out (fun _ => ?_)
      clear hK K
      try simp only [Act.put, List.setIfInBounds_toArray, List.set_cons_zero, List.set_cons_succ]
      refine wpAnyH_take (i := 31) (v := ?v22_31) (by simp only [List.getElem?_toArray, List.getElem?_cons_zero, List.getElem?_cons_succ]; rfl) (by kernel_rfl) (by kernel_rfl) (by kernel_rfl) (by exact fun _ _ _ h => h) (Or.inl ⟨by rfl, ?hy22_31⟩) HSwf.out ?_
      case hy22_31 => (intro wq hSw; (try dsimp only at hSw); go_simp; try (with_reducible rfl))
      try simp only [Act.put, List.setIfInBounds_toArray, List.set_cons_zero, List.set_cons_succ]
      refine wpAnyH_take (i := 32) (v := ?v22_32) (by simp only [List.getElem?_toArray, List.getElem?_cons_zero, List.getElem?_cons_succ]; rfl) (by kernel_rfl) (by kernel_rfl) (by kernel_rfl) (by exact fun _ _ _ h => h) (Or.inl ⟨by rfl, ?hy22_32⟩) HSwf.out ?_
      case hy22_32 => (intro wq hSw; (try dsimp only at hSw); go_simp; try (with_reducible rfl))
      try simp only [Act.put, List.setIfInBounds_toArray, List.set_cons_zero, List.set_cons_succ]
      refine wpAnyH_take (i := 33) (v := ?v22_33) (by simp only [List.getElem?_toArray, List.getElem?_cons_zero, List.getElem?_cons_succ]; rfl) (by kernel_rfl) (by kernel_rfl) (by kernel_rfl) (by exact fun _ _ _ h => h) (Or.inl ⟨by rfl, ?hy22_33⟩) HSwf.out ?_
      case hy22_33 => (intro wq hSw; (try dsimp only at hSw); go_simp; try (with_reducible rfl))
      try simp only [Act.put, List.setIfInBounds_toArray, List.set_cons_zero, List.set_cons_succ]
      refine wpAnyH_take (i := 34) (v := undef) (by simp only [List.getElem?_toArray, List.getElem?_cons_zero, List.getElem?_cons_succ]; rfl) (by kernel_rfl) (by kernel_rfl) (by kernel_rfl) (by exact fun _ _ _ h => h) (Or.inr ⟨by rfl, rfl⟩) HSwf.out ?_
      refine wpAnyH_done (by kernel_rfl) ?_ _
      simp only [Vx.upTo]
      have d0 := HSwf.out.1
      have f0 := froz HIwf.out.h.row 0
      go_upto_region 26 with fail
      have e : (⟨T.t.toArray⟩ : ByteArray) ++ ⟨#[115, 116, 97, 114, 116, 32, 116, 32]⟩ ++ ⟨dD.toArray⟩ ++ ⟨#[32]⟩ ++ ⟨dP.toArray⟩ ++ ⟨rw9.toArray⟩ ++ ⟨dA.toArray⟩ ++ ⟨rg9.toArray⟩ ++ ⟨dA.toArray⟩ ++ ⟨rg9.toArray⟩ ++ ⟨dB.toArray⟩ = ⟨(T.t ++ [115, 116, 97, 114, 116, 32, 116, 32] ++ dD ++ [32] ++ dP ++ rw9 ++ dA ++ rg9 ++ dA ++ rg9 ++ dB).toArray⟩ := by
        simp only [catB, List.append_assoc, List.cons_append, List.nil_append]
      rw [e]
      have HZ := Vx.hid (HIwf.out.text (T.t ++ [115, 116, 97, 114, 116, 32, 116, 32] ++ dD ++ [32] ++ dP ++ rw9 ++ dA ++ rg9 ++ dA ++ rg9 ++ dB))
      obtain ⟨tz, htz⟩ : ∃ tz, tz = T.t ++ [115, 116, 97, 114, 116, 32, 116, 32] ++ dD ++ [32] ++ dP ++ rw9 ++ dA ++ rg9 ++ dA ++ rg9 ++ dB := ⟨_, rfl⟩
      have hlz : tz.length ≤ 1000000 := by rw [htz]; simp; omega
      have HEZ : Hid (tF = tz ++ [10]) := by show _ = _; rw [HFT.out, htz]
      rw [← htz] at HZ ⊢
      obtain ⟨wz, hwz⟩ : ∃ wz, wz = wf.setCell ⟨xb, 0, none⟩ (.string ⟨tz.toArray⟩) := ⟨_, rfl⟩
      rw [← hwz] at HZ ⊢
      clear hwz htz e d0 f0
      have z0 : wz.cell? ⟨xb, 0, none⟩ = some (.string ⟨tz.toArray⟩) := (cell_of_row _ _ 0 _ _ (0, 0) HZ.out.h.row).trans rfl
      have z1 := froz HZ.out.h.row 0
      go_wp2_with fail
      first | go_end0 | refine bodyPost_ret (results_none rfl _ _ _) rfl ?_
      have e : (⟨tz.toArray⟩ : ByteArray) ++ ⟨#[10]⟩ = ⟨(tz ++ [10]).toArray⟩ := catB _ _
      exact ⟨rfl, _, _, _, _, _, _, _, _, by rw [HEZ.out, e]; exact (HZ.out.text (tz ++ [10])).h⟩
end Go.Proofs.YtgacifbpjdakaaaGreatDoor

/- SpecReads' law: line, map (gen_td5.py). -/
import Derived.Test.YtgacifbpjdakaaaGreatDoorTD5
namespace Go.Proofs.YtgacifbpjdakaaaGreatDoor
open Go.ChangeShapes Go.WideShapes Go.ChangeAt Go.RowKit
open Go.Vx
set_option linter.unusedVariables false
set_option linter.unusedSimpArgs false

variable {W w w2 : World} {xb ob : Nat} {vt vo vc vm vh vi vn va : Value} {T : Tx} {o : Tl}
set_option maxRecDepth 100000 in
set_option maxHeartbeats 2000000 in
theorem line_map (h : TxAt W w xb vt vo vc vm vh vi vn va T) (o : Tl) (i : TlI o) (hk : pickL o.k 7 = 5) (hB : Bnd T) : Calls Tryz.prog 8 #[.pointer (some ⟨xb, 0, none⟩), .agg #[.int .i64 o.k, .int .i64 o.a, .int .i64 o.b, .int .i64 o.c]] w fun e w' => e = .returned (.tuple #[]) ∧ Hid (∃ vt' vo' vc' vm' vh' vi' vn' va', TxAt W w' xb vt' vo' vc' vm' vh' vi' vn' va' (tellF T o)) := by
  have HTF : Hid (tellF T o = { T with mp := T.mp ++ [⟨9, (pickL o.b 90 : Nat), 10, (p32 o.a : Nat), (pickL o.c 8 : Nat)⟩], t := T.t ++ (mpL o ++ [10]) }) := by
    show _ = _
    unfold tellF putF' lineF
    rw [hk]
    rfl
  rw [HTF.out]
  clear HTF
  obtain ⟨w1, hw1⟩ : ∃ w1, w1 = w.alloc (.cells #[.int .i64 o.k, .int .i64 o.a, .int .i64 o.b, .int .i64 o.c] 61) := ⟨_, rfl⟩
  obtain ⟨ob, hob⟩ : ∃ ob, ob = w.heap.size := ⟨_, rfl⟩
  have ho1 : Only (fun _ => False) w w1 := by rw [hw1]; exact (Only.refl _ w).alloc _
  have HT1 : Hid (TeAt w1 ob o) := by unfold TeAt; show _ = _; rw [hw1, hob]; exact heap_alloc_last w _
  have HH1 : Hid (LnI W w1 xb vt vo vc vm vh vi vn va T ob o) := ⟨h.quiet ho1, HT1.out⟩
  have HPA := Vx.hid (fun wv => pick_lit 4294967296 (by omega) (by omega) 4294967296 (by omega) o.a i.a.1 i.a.2 wv)
  have HPK := Vx.hid (fun wv => pick_lit 7 (by omega) (by omega) 7 (by omega) o.k i.k.1 i.k.2 wv)
  rw [hk] at HPK
  have HLA := Vx.hid (pick_lt o.a 4294967296 (by decide))
  have hpa : p32 o.a = pickL o.a 4294967296 := rfl
  clear h ho1 HT1 hk
  have HLE := Vx.hid (fun wv => letters_ok o.c i.c.1 i.c.2 wv)
  have htu : mpL o = [109, 97, 112, 32, 98, 32] ++ (Lib.decDigits (pickL o.b 90) ++ [32, 114, 32] ++ (Lib.decDigits (p32 o.a) ++ 32 :: letF (pickL o.c 8))) := rfl
  rw [htu]; rw [hpa]
  clear htu hpa
  have HPX := Vx.hid (fun wv => pick_lit 90 (by omega) (by omega) 90 (by omega) o.b i.b.1 i.b.2 wv)
  have HLX := Vx.hid (pick_lt o.b 90 (by decide))
  have HPR := Vx.hid (fun wv => pick_lit 8 (by omega) (by omega) 8 (by omega) o.c i.c.1 i.c.2 wv)
  have HLR := Vx.hid (pick_lt o.c 8 (by decide))
  obtain ⟨A, hAe⟩ : ∃ A, A = pickL o.a 4294967296 := ⟨_, rfl⟩
  rw [← hAe] at HPA HLA ⊢
  clear hAe
  have HDA := Vx.hid (fun wv => decimal_ok A (by have := HLA.out; omega) wv)
  have HGA := Vx.hid (dec_len A (by have := HLA.out; omega))
  obtain ⟨dA, hdA⟩ : ∃ dA, dA = Lib.decDigits A := ⟨_, rfl⟩
  rw [← hdA] at HDA HGA ⊢
  clear hdA
  obtain ⟨X, hXe⟩ : ∃ X, X = pickL o.b 90 := ⟨_, rfl⟩
  rw [← hXe] at HPX HLX ⊢
  clear hXe
  have HDX := Vx.hid (fun wv => decimal_ok X (by have := HLX.out; omega) wv)
  have HGX := Vx.hid (dec_len X (by have := HLX.out; omega))
  obtain ⟨dX, hdX⟩ : ∃ dX, dX = Lib.decDigits X := ⟨_, rfl⟩
  rw [← hdX] at HDX HGX ⊢
  clear hdX
  obtain ⟨R, hRe⟩ : ∃ R, R = pickL o.c 8 := ⟨_, rfl⟩
  rw [← hRe] at HPR HLR HLE ⊢
  clear hRe
  have HGR := Vx.hid (let_len R)
  obtain ⟨lR, hlR⟩ : ∃ lR, lR = letF R := ⟨_, rfl⟩
  rw [← hlR] at HLE HGR ⊢
  clear hlR
  obtain ⟨tF, htF⟩ : ∃ tF, tF = T.t ++ ([109, 97, 112, 32, 98, 32] ++ (dX ++ [32, 114, 32] ++ (dA ++ 32 :: lR)) ++ [10]) := ⟨_, rfl⟩
  rw [← htF]
  have HFT := Vx.hid htF
  clear htF
  obtain ⟨pt, ct, hvt, _⟩ := HH1.out.h.lm.form
  obtain ⟨nt, hnt⟩ : ∃ nt, nt = T.mp.length := ⟨_, rfl⟩
  rw [← hnt] at hvt
  subst hvt
  clear hnt
  have HLN : Hid (T.mp.length + 1 ≤ 10000000 ∧ T.t.length ≤ 900000) := ⟨by have := hB.mp; omega, hB.t⟩
  have hwr : IntKind.u32.wrap (A : Int) = (A : Int) := by have := HLA.out; rw [IntKind.wrap_u32]; omega
  clear hB i
  go_enter Tryz.func8, Tryz.ntmps8
  go_upto_region 1 with fail
  rw [← hw1, ← hob]
  clear hw1 hob
  have k0 : w1.cell? ⟨ob, 0, none⟩ = some (.int .i64 o.k) := (cell_of_row _ _ 0 _ _ (0, 0) HH1.out.te).trans rfl
  have k1 : w1.cell? ⟨ob, 1, none⟩ = some (.int .i64 o.a) := (cell_of_row _ _ 1 _ _ (0, 0) HH1.out.te).trans rfl
  go_upto_region 2 with (go_at_call 19; refine (HPA.out _).mono ?_; rintro e w9 ⟨rfl, hw9⟩; have hw8 := hw9.symm; clear hw9; subst hw8)
  go_upto_region 24 with (go_at_call 19; refine (HPK.out _).mono ?_; rintro e w9 ⟨rfl, hw9⟩; have hw8 := hw9.symm; clear hw9; subst hw8)
  clear k0 k1
  have HX0 := Vx.hid (HH1.out.quiet ((Only.refl _ w1).drew))
  obtain ⟨wA, hwA⟩ : ∃ wA, wA = (w1.alloc (.cells #[.int .i64 9, .int .i64 (X : Int), .int .i64 10, .int .u32 (A : Int), .int .i64 (R : Int)] 86)).drew := ⟨_, rfl⟩
  have hoA : Only (fun _ => False) w1 wA := by rw [hwA]; exact ((Only.refl _ _).alloc _).drew
  have HXA := Vx.hid (HH1.out.quiet hoA)
  have HYD : Hid (∀ j u, (mqL.cf ⟨9, (X : Int), 10, (A : Int), (R : Int)⟩)[j]? = some u → wA.cell? ⟨w1.heap.size, j, none⟩ = some u) := fun j u hj => by
    have hl : wA.heap[w1.heap.size]? = some (.cells #[.int .i64 9, .int .i64 (X : Int), .int .i64 10, .int .u32 (A : Int), .int .i64 (R : Int)] 86 (0, 0)) := by rw [hwA]; exact heap_alloc_last _ _
    rw [cell_of_row _ _ j _ _ (0, 0) hl]
    simpa [mqL] using hj
  have HBA : Hid (W.heap.size ≤ wA.heap.size) := HXA.out.h.be.size
  have HCE : Hid (∀ wv, LnI W wv xb vt vo vc (.slice pt nt ct) vh vi vn va T ob o → wv.cell? ⟨xb, 7, none⟩ = some (.slice pt nt ct) ∧ wv.cell? ⟨ob, 2, none⟩ = some (.int .i64 o.b) ∧ wv.cell? ⟨ob, 3, none⟩ = some (.int .i64 o.c)) := fun wv hv => ⟨(cell_of_row _ _ 7 _ _ (0, 0) hv.h.row).trans rfl, (cell_of_row _ _ 2 _ _ (0, 0) hv.te).trans rfl, (cell_of_row _ _ 3 _ _ (0, 0) hv.te).trans rfl⟩
  have HS0 := Vx.hid (HCE.out _ HX0.out)
  have HSA := Vx.hid (HCE.out _ HXA.out)
  clear hoA
  refine Vx.wp_region_last (S := (fun wv => wv.cell? ⟨xb, 7, none⟩ = some (.slice pt nt ct) ∧ wv.cell? ⟨ob, 2, none⟩ = some (.int .i64 o.b) ∧ wv.cell? ⟨ob, 3, none⟩ = some (.int .i64 o.c))) 21 (by kernel_rfl) (by simp only [List.getElem?_toArray, List.getElem?_cons_zero, List.getElem?_cons_succ]; rfl) (by kernel_rfl) ?_
  simp only [Vx.offA, Vx.offO, List.setIfInBounds_toArray, List.set_cons_zero, List.set_cons_succ, List.size_toArray, List.length_cons, List.length_nil, Nat.zero_add, Nat.reduceAdd]
  refine wpAnyH_take (i := 0) (v := ?v24_0) (by simp only [List.getElem?_toArray, List.getElem?_cons_zero, List.getElem?_cons_succ]; rfl) (by kernel_rfl) (by kernel_rfl) (by kernel_rfl) (by exact fun _ _ _ h => h) (Or.inl ⟨by rfl, ?hy24_0⟩) HS0.out ?_
  case hy24_0 => (intro wq hSw; (try dsimp only at hSw); go_simp; try (with_reducible rfl))
  try simp only [Act.put, List.setIfInBounds_toArray, List.set_cons_zero, List.set_cons_succ]
  refine wpAnyH_take (i := 1) (v := ?v24_1) (by simp only [List.getElem?_toArray, List.getElem?_cons_zero, List.getElem?_cons_succ]; rfl) (by kernel_rfl) (by kernel_rfl) (by kernel_rfl) (by exact fun _ _ _ h => h) (Or.inl ⟨by rfl, ?hy24_1⟩) HS0.out ?_
  case hy24_1 => (intro wq hSw; (try dsimp only at hSw); go_simp; try (with_reducible rfl))
  try simp only [Act.put, List.setIfInBounds_toArray, List.set_cons_zero, List.set_cons_succ]
  refine wpAnyH_take (i := 2) (v := ?v24_2) (by simp only [List.getElem?_toArray, List.getElem?_cons_zero, List.getElem?_cons_succ]; rfl) (by kernel_rfl) (by kernel_rfl) (by kernel_rfl) (by exact fun _ _ _ h => h) (Or.inl ⟨by rfl, ?hy24_2⟩) HS0.out ?_
  case hy24_2 => (intro wq hSw; (try dsimp only at hSw); go_simp; try (with_reducible rfl))
  try simp only [Act.put, List.setIfInBounds_toArray, List.set_cons_zero, List.set_cons_succ]
  refine wpAnyH_take (i := 3) (v := ?v24_3) (by simp only [List.getElem?_toArray, List.getElem?_cons_zero, List.getElem?_cons_succ]; rfl) (by kernel_rfl) (by kernel_rfl) (by kernel_rfl) (by exact fun _ _ _ h => h) (Or.inl ⟨by rfl, ?hy24_3⟩) HS0.out ?_
  case hy24_3 => (intro wq hSw; (try dsimp only at hSw); go_simp; try (with_reducible rfl))
  try simp only [Act.put, List.setIfInBounds_toArray, List.set_cons_zero, List.set_cons_succ]
  refine wpAnyH_take (i := 4) (v := ?v24_4) (by simp only [List.getElem?_toArray, List.getElem?_cons_zero, List.getElem?_cons_succ]; rfl) (by kernel_rfl) (by kernel_rfl) (by kernel_rfl) (by exact fun _ _ _ h => h) (Or.inl ⟨by rfl, ?hy24_4⟩) HS0.out ?_
  case hy24_4 => (intro wq hSw; (try dsimp only at hSw); go_simp; try (with_reducible rfl))
  try simp only [Act.put, List.setIfInBounds_toArray, List.set_cons_zero, List.set_cons_succ]
  refine wpAnyH_take (i := 5) (v := ?v24_5) (by simp only [List.getElem?_toArray, List.getElem?_cons_zero, List.getElem?_cons_succ]; rfl) (by kernel_rfl) (by kernel_rfl) (by kernel_rfl) (by exact fun _ _ _ h => h) (Or.inl ⟨by rfl, ?hy24_5⟩) HS0.out ?_
  case hy24_5 => (intro wq hSw; (try dsimp only at hSw); go_simp; try (with_reducible rfl))
  try simp only [Act.put, List.setIfInBounds_toArray, List.set_cons_zero, List.set_cons_succ]
  refine wpAnyH_take (i := 6) (v := ?v24_6) (by simp only [List.getElem?_toArray, List.getElem?_cons_zero, List.getElem?_cons_succ]; rfl) (by kernel_rfl) (by kernel_rfl) (by kernel_rfl) (by exact fun _ _ _ h => h) (Or.inl ⟨by rfl, ?hy24_6⟩) HS0.out ?_
  case hy24_6 => (intro wq hSw; (try dsimp only at hSw); go_simp; try (with_reducible rfl))
  try simp only [Act.put, List.setIfInBounds_toArray, List.set_cons_zero, List.set_cons_succ]
  refine wpAnyH_take (i := 7) (v := ?v24_7) (by simp only [List.getElem?_toArray, List.getElem?_cons_zero, List.getElem?_cons_succ]; rfl) (by kernel_rfl) (by kernel_rfl) (by kernel_rfl) (by exact fun _ _ _ h => h) (Or.inl ⟨by rfl, ?hy24_7⟩) HS0.out ?_
  case hy24_7 => (intro wq hSw; (try dsimp only at hSw); go_simp; try (with_reducible rfl))
  try simp only [Act.put, List.setIfInBounds_toArray, List.set_cons_zero, List.set_cons_succ]
  refine wpAnyH_take (i := 10) (v := ?v24_10) (by simp only [List.getElem?_toArray, List.getElem?_cons_zero, List.getElem?_cons_succ]; rfl) (by kernel_rfl) (by kernel_rfl) (by kernel_rfl) (by exact fun _ _ _ h => h) (Or.inl ⟨by rfl, ?hy24_10⟩) HS0.out ?_
  case hy24_10 => (intro wq hSw; (try dsimp only at hSw); go_simp; try (with_reducible rfl))
  try simp only [Act.put, List.setIfInBounds_toArray, List.set_cons_zero, List.set_cons_succ]
  refine wpAnyH_take (i := 11) (v := ?v24_11) (by simp only [List.getElem?_toArray, List.getElem?_cons_zero, List.getElem?_cons_succ]; rfl) (by kernel_rfl) (by kernel_rfl) (by kernel_rfl) (by exact fun _ _ _ h => h) (Or.inl ⟨by rfl, ?hy24_11⟩) HS0.out ?_
  case hy24_11 => (intro wq hSw; (try dsimp only at hSw); go_simp; try (with_reducible rfl))
  try simp only [Act.put, List.setIfInBounds_toArray, List.set_cons_zero, List.set_cons_succ]
  refine wpAnyH_take (i := 12) (v := ?v24_12) (by simp only [List.getElem?_toArray, List.getElem?_cons_zero, List.getElem?_cons_succ]; rfl) (by kernel_rfl) (by kernel_rfl) (by kernel_rfl) (by exact fun _ _ _ h => h) (Or.inl ⟨by rfl, ?hy24_12⟩) HS0.out ?_
  case hy24_12 => (intro wq hSw; (try dsimp only at hSw); go_simp; try (with_reducible rfl))
  try simp only [Act.put, List.setIfInBounds_toArray, List.set_cons_zero, List.set_cons_succ]
  refine wpAnyH_take (i := 13) (v := ?v24_13) (by simp only [List.getElem?_toArray, List.getElem?_cons_zero, List.getElem?_cons_succ]; rfl) (by kernel_rfl) (by kernel_rfl) (by kernel_rfl) (by exact fun _ _ _ h => h) (Or.inl ⟨by rfl, ?hy24_13⟩) HS0.out ?_
  case hy24_13 => (intro wq hSw; (try dsimp only at hSw); go_simp; try (with_reducible rfl))
  try simp only [Act.put, List.setIfInBounds_toArray, List.set_cons_zero, List.set_cons_succ]
  refine wpAnyH_ready (rs := [8]) (by kernel_rfl) (by simp) ?_
  refine AllReadyH.cons (by simp only [List.getElem?_toArray, List.getElem?_cons_zero, List.getElem?_cons_succ]; rfl) (fun K hK => ?_) AllReadyH.nil
  refine Vx.step_callx rfl 19 #[Operand.tmp 185, Operand.const (Value.int IntKind.i64 90)] #[3, 3] rfl #[.int .i64 o.b, .int .i64 90] (by first | rfl | simp [Act.eval, go_sem]) (by simp [go_sem]) (HPX.out _) ?_
  rintro e w9 ⟨rfl, hw9⟩
  have hw8 := hw9.symm
  clear hw9
  subst hw8
  refine ⟨_, rfl, ?_⟩
  refine hK.out _ _ HS0.out (fun _ => ?_)
  clear hK K
  try simp only [Act.put, List.setIfInBounds_toArray, List.set_cons_zero, List.set_cons_succ]
  refine wpAnyH_take (i := 9) (v := ?v24_9) (by simp only [List.getElem?_toArray, List.getElem?_cons_zero, List.getElem?_cons_succ]; rfl) (by kernel_rfl) (by kernel_rfl) (by kernel_rfl) (by exact fun _ _ _ h => h) (Or.inl ⟨by rfl, ?hy24_9⟩) HS0.out ?_
  case hy24_9 => (intro wq hSw; (try dsimp only at hSw); go_simp; try (with_reducible rfl))
  try simp only [Act.put, List.setIfInBounds_toArray, List.set_cons_zero, List.set_cons_succ]
  refine wpAnyH_ready (rs := [14]) (by kernel_rfl) (by simp) ?_
  refine AllReadyH.cons (by simp only [List.getElem?_toArray, List.getElem?_cons_zero, List.getElem?_cons_succ]; rfl) (fun K hK => ?_) AllReadyH.nil
  refine Vx.step_callx rfl 19 #[Operand.tmp 191, Operand.const (Value.int IntKind.i64 8)] #[3, 3] rfl #[.int .i64 o.c, .int .i64 8] (by first | rfl | simp [Act.eval, go_sem]) (by simp [go_sem]) (HPR.out _) ?_
  rintro e w9 ⟨rfl, hw9⟩
  have hw8 := hw9.symm
  clear hw9
  subst hw8
  refine ⟨_, rfl, ?_⟩
  refine hK.out _ _ HS0.out (fun _ => ?_)
  clear hK K
  try simp only [Act.put, List.setIfInBounds_toArray, List.set_cons_zero, List.set_cons_succ]
  refine wpAnyH_take (i := 15) (v := ?v24_15) (by simp only [List.getElem?_toArray, List.getElem?_cons_zero, List.getElem?_cons_succ]; rfl) (by kernel_rfl) (by kernel_rfl) (by kernel_rfl) (by exact fun _ _ _ h => h) (Or.inl ⟨by rfl, ?hy24_15⟩) HS0.out ?_
  case hy24_15 => (intro wq hSw; (try dsimp only at hSw); go_simp; try (with_reducible rfl))
  try simp only [Act.put, List.setIfInBounds_toArray, List.set_cons_zero, List.set_cons_succ]
  refine wpAnyH_ready (rs := [16]) (by kernel_rfl) (by simp) ?_
  refine AllReadyH.cons (by simp only [List.getElem?_toArray, List.getElem?_cons_zero, List.getElem?_cons_succ]; rfl) (fun K hK => ?_) AllReadyH.nil
  go_simp
  rw [← hwA]
  refine hK.out _ _ HSA.out (fun _ => ?_)
  clear hK K
  try simp only [Act.put, List.setIfInBounds_toArray, List.set_cons_zero, List.set_cons_succ]
  refine wpAnyH_ready (rs := [17]) (by kernel_rfl) (by simp) ?_
  refine AllReadyH.cons (by simp only [List.getElem?_toArray, List.getElem?_cons_zero, List.getElem?_cons_succ]; rfl) (fun K hK => ?_) AllReadyH.nil
  refine Vx.step_append_one tKm rfl (.tmp 183) (.tmp 194) rfl W.heap.size (.slice pt nt ct) T.mp (by simp [Act.eval]) HXA.out.h.lm ⟨9, (X : Int), 10, (A : Int), (R : Int)⟩ w1.heap.size 1 1 (by simp [Act.eval]) HYD.out HLN.out.1 HBA.out ?_
  intro v6 w6 hv1 hv2 hv3
  obtain ⟨⟨pq, mq, cq, rfl⟩, ⟨qx, hq1⟩, hq2, hxc, hoc, HQ5⟩ := HXA.out.st_m v6 w6 _ hv1 hv2
  clear hv1 hv2 hv3
  have HS6 : Hid (w6.cell? ⟨xb, 7, none⟩ = some (.slice pt nt ct) ∧ w6.cell? ⟨ob, 2, none⟩ = some (.int .i64 o.b) ∧ w6.cell? ⟨ob, 3, none⟩ = some (.int .i64 o.c)) := ⟨(hxc 7).trans HSA.out.1, (hoc 2).trans HSA.out.2.1, (hoc 3).trans HSA.out.2.2⟩
  clear hxc hoc
  refine hK.out _ _ HS6.out (fun _ => ?_)
  clear hK K
  try simp only [Act.put, List.setIfInBounds_toArray, List.set_cons_zero, List.set_cons_succ]
  refine wpAnyH_take (i := 18) (v := ?v24_18) (by simp only [List.getElem?_toArray, List.getElem?_cons_zero, List.getElem?_cons_succ]; rfl) (by kernel_rfl) (by kernel_rfl) (by kernel_rfl) (by exact fun _ _ _ h => h) (Or.inl ⟨by rfl, ?hy24_18⟩) HS6.out ?_
  case hy24_18 => (intro wq hSw; (try dsimp only at hSw); go_simp; try (with_reducible rfl))
  try simp only [Act.put, List.setIfInBounds_toArray, List.set_cons_zero, List.set_cons_succ]
  refine wpAnyH_take (i := 19) (v := ?v24_19) (by simp only [List.getElem?_toArray, List.getElem?_cons_zero, List.getElem?_cons_succ]; rfl) (by kernel_rfl) (by kernel_rfl) (by kernel_rfl) (by exact fun _ _ _ h => h) (Or.inl ⟨by rfl, ?hy24_19⟩) HS6.out ?_
  case hy24_19 => (intro wq hSw; (try dsimp only at hSw); go_simp; try (with_reducible rfl))
  try simp only [Act.put, List.setIfInBounds_toArray, List.set_cons_zero, List.set_cons_succ]
  refine wpAnyH_take (i := 20) (v := ?v24_20) (by simp only [List.getElem?_toArray, List.getElem?_cons_zero, List.getElem?_cons_succ]; rfl) (by kernel_rfl) (by kernel_rfl) (by kernel_rfl) (by exact fun _ _ _ h => h) (Or.inl ⟨by rfl, ?hy24_20⟩) HS6.out ?_
  case hy24_20 => (intro wq hSw; (try dsimp only at hSw); go_simp; try (with_reducible rfl))
  try simp only [Act.put, List.setIfInBounds_toArray, List.set_cons_zero, List.set_cons_succ]
  refine wpAnyH_take (i := 21) (v := undef) (by simp only [List.getElem?_toArray, List.getElem?_cons_zero, List.getElem?_cons_succ]; rfl) (by kernel_rfl) (by kernel_rfl) (by kernel_rfl) (by exact fun _ _ _ h => h) (Or.inr ⟨by rfl, rfl⟩) HS6.out ?_
  refine wpAnyH_done (by kernel_rfl) ?_ _
  simp only [Vx.upTo]
  clear hwA HYD HBA HXA HX0 HS0 HSA HS6 HCE HH1
  go_upto_region 25 with fail
  obtain ⟨w7, hw7⟩ : ∃ w7, w7 = w6.setCell ⟨xb, 7, none⟩ (.slice pq mq cq) := ⟨_, rfl⟩
  rw [← hw7] at HQ5 ⊢
  clear hw7 hq1 hq2
  have HI0 := Vx.hid (HQ5.out.quiet ((Only.refl _ w7).drew))
  have HCE : Hid (∀ wv, LnI W wv xb vt vo vc (.slice pq mq cq) vh vi vn va { T with mp := T.mp ++ [⟨9, (X : Int), 10, (A : Int), (R : Int)⟩] } ob o → wv.cell? ⟨xb, 0, none⟩ = some (.string ⟨T.t.toArray⟩) ∧ wv.cell? ⟨ob, 2, none⟩ = some (.int .i64 o.b) ∧ wv.cell? ⟨ob, 3, none⟩ = some (.int .i64 o.c)) := fun wv hv => ⟨(cell_of_row _ _ 0 _ _ (0, 0) hv.h.row).trans rfl, (cell_of_row _ _ 2 _ _ (0, 0) hv.te).trans rfl, (cell_of_row _ _ 3 _ _ (0, 0) hv.te).trans rfl⟩
  have HS0 := Vx.hid (HCE.out _ HI0.out)
  have g0 := HLN.out.2
  have g8 := HGA.out
  have g9 := HGX.out
  have g7 := HGR.out
  have y1 : ¬ 9223372036854775807 < T.t.length + 6 := by omega
  have y2 : ¬ 9223372036854775807 < T.t.length + 6 + dX.length := by omega
  have y3 : ¬ 9223372036854775807 < T.t.length + 6 + dX.length + 3 := by omega
  have y4 : ¬ 9223372036854775807 < T.t.length + 6 + dX.length + 3 + dA.length := by omega
  have y5 : ¬ 9223372036854775807 < T.t.length + 6 + dX.length + 3 + dA.length + 1 := by omega
  have y6 : ¬ 9223372036854775807 < T.t.length + 6 + dX.length + 3 + dA.length + 1 + lR.length := by omega
  refine Vx.wp_region_last (S := (fun wv => wv.cell? ⟨xb, 0, none⟩ = some (.string ⟨T.t.toArray⟩) ∧ wv.cell? ⟨ob, 2, none⟩ = some (.int .i64 o.b) ∧ wv.cell? ⟨ob, 3, none⟩ = some (.int .i64 o.c))) 22 (by kernel_rfl) (by simp only [List.getElem?_toArray, List.getElem?_cons_zero, List.getElem?_cons_succ]; rfl) (by kernel_rfl) ?_
  simp only [Vx.offA, Vx.offO, List.setIfInBounds_toArray, List.set_cons_zero, List.set_cons_succ, List.size_toArray, List.length_cons, List.length_nil, Nat.zero_add, Nat.reduceAdd]
  refine wpAnyH_take (i := 0) (v := ?v25_0) (by simp only [List.getElem?_toArray, List.getElem?_cons_zero, List.getElem?_cons_succ]; rfl) (by kernel_rfl) (by kernel_rfl) (by kernel_rfl) (by exact fun _ _ _ h => h) (Or.inl ⟨by rfl, ?hy25_0⟩) HS0.out ?_
  case hy25_0 => (intro wq hSw; (try dsimp only at hSw); go_simp; try (with_reducible rfl))
  try simp only [Act.put, List.setIfInBounds_toArray, List.set_cons_zero, List.set_cons_succ]
  refine wpAnyH_take (i := 1) (v := ?v25_1) (by simp only [List.getElem?_toArray, List.getElem?_cons_zero, List.getElem?_cons_succ]; rfl) (by kernel_rfl) (by kernel_rfl) (by kernel_rfl) (by exact fun _ _ _ h => h) (Or.inl ⟨by rfl, ?hy25_1⟩) HS0.out ?_
  case hy25_1 => (intro wq hSw; (try dsimp only at hSw); go_simp; try (with_reducible rfl))
  try simp only [Act.put, List.setIfInBounds_toArray, List.set_cons_zero, List.set_cons_succ]
  refine wpAnyH_take (i := 2) (v := ?v25_2) (by simp only [List.getElem?_toArray, List.getElem?_cons_zero, List.getElem?_cons_succ]; rfl) (by kernel_rfl) (by kernel_rfl) (by kernel_rfl) (by exact fun _ _ _ h => h) (Or.inl ⟨by rfl, ?hy25_2⟩) HS0.out ?_
  case hy25_2 => (intro wq hSw; (try dsimp only at hSw); go_simp; try (with_reducible rfl))
  try simp only [Act.put, List.setIfInBounds_toArray, List.set_cons_zero, List.set_cons_succ]
  refine wpAnyH_take (i := 3) (v := ?v25_3) (by simp only [List.getElem?_toArray, List.getElem?_cons_zero, List.getElem?_cons_succ]; rfl) (by kernel_rfl) (by kernel_rfl) (by kernel_rfl) (by exact fun _ _ _ h => h) (Or.inl ⟨by rfl, ?hy25_3⟩) HS0.out ?_
  case hy25_3 => (intro wq hSw; (try dsimp only at hSw); go_simp; try (with_reducible rfl))
  try simp only [Act.put, List.setIfInBounds_toArray, List.set_cons_zero, List.set_cons_succ]
  refine wpAnyH_take (i := 4) (v := ?v25_4) (by simp only [List.getElem?_toArray, List.getElem?_cons_zero, List.getElem?_cons_succ]; rfl) (by kernel_rfl) (by kernel_rfl) (by kernel_rfl) (by exact fun _ _ _ h => h) (Or.inl ⟨by rfl, ?hy25_4⟩) HS0.out ?_
  case hy25_4 => (intro wq hSw; (try dsimp only at hSw); go_simp; try (with_reducible rfl))
  try simp only [Act.put, List.setIfInBounds_toArray, List.set_cons_zero, List.set_cons_succ]
  refine wpAnyH_take (i := 5) (v := ?v25_5) (by simp only [List.getElem?_toArray, List.getElem?_cons_zero, List.getElem?_cons_succ]; rfl) (by kernel_rfl) (by kernel_rfl) (by kernel_rfl) (by exact fun _ _ _ h => h) (Or.inl ⟨by rfl, ?hy25_5⟩) HS0.out ?_
  case hy25_5 => (intro wq hSw; (try dsimp only at hSw); go_simp; try (with_reducible rfl))
  try simp only [Act.put, List.setIfInBounds_toArray, List.set_cons_zero, List.set_cons_succ]
  refine wpAnyH_take (i := 6) (v := ?v25_6) (by simp only [List.getElem?_toArray, List.getElem?_cons_zero, List.getElem?_cons_succ]; rfl) (by kernel_rfl) (by kernel_rfl) (by kernel_rfl) (by exact fun _ _ _ h => h) (Or.inl ⟨by rfl, ?hy25_6⟩) HS0.out ?_
  case hy25_6 => (intro wq hSw; (try dsimp only at hSw); go_simp; try (with_reducible rfl))
  try simp only [Act.put, List.setIfInBounds_toArray, List.set_cons_zero, List.set_cons_succ]
  refine wpAnyH_take (i := 7) (v := ?v25_7) (by simp only [List.getElem?_toArray, List.getElem?_cons_zero, List.getElem?_cons_succ]; rfl) (by kernel_rfl) (by kernel_rfl) (by kernel_rfl) (by exact fun _ _ _ h => h) (Or.inl ⟨by rfl, ?hy25_7⟩) HS0.out ?_
  case hy25_7 => (intro wq hSw; (try dsimp only at hSw); go_simp; try (with_reducible rfl))
  try simp only [Act.put, List.setIfInBounds_toArray, List.set_cons_zero, List.set_cons_succ]
  refine wpAnyH_take (i := 12) (v := ?v25_12) (by simp only [List.getElem?_toArray, List.getElem?_cons_zero, List.getElem?_cons_succ]; rfl) (by kernel_rfl) (by kernel_rfl) (by kernel_rfl) (by exact fun _ _ _ h => h) (Or.inl ⟨by rfl, ?hy25_12⟩) HS0.out ?_
  case hy25_12 => (intro wq hSw; (try dsimp only at hSw); go_simp; try (with_reducible rfl))
  try simp only [Act.put, List.setIfInBounds_toArray, List.set_cons_zero, List.set_cons_succ]
  refine wpAnyH_take (i := 16) (v := ?v25_16) (by simp only [List.getElem?_toArray, List.getElem?_cons_zero, List.getElem?_cons_succ]; rfl) (by kernel_rfl) (by kernel_rfl) (by kernel_rfl) (by exact fun _ _ _ h => h) (Or.inl ⟨by rfl, ?hy25_16⟩) HS0.out ?_
  case hy25_16 => (intro wq hSw; (try dsimp only at hSw); go_simp; try (with_reducible rfl))
  try simp only [Act.put, List.setIfInBounds_toArray, List.set_cons_zero, List.set_cons_succ]
  refine wpAnyH_take (i := 17) (v := ?v25_17) (by simp only [List.getElem?_toArray, List.getElem?_cons_zero, List.getElem?_cons_succ]; rfl) (by kernel_rfl) (by kernel_rfl) (by kernel_rfl) (by exact fun _ _ _ h => h) (Or.inl ⟨by rfl, ?hy25_17⟩) HS0.out ?_
  case hy25_17 => (intro wq hSw; (try dsimp only at hSw); go_simp; try (with_reducible rfl))
  try simp only [Act.put, List.setIfInBounds_toArray, List.set_cons_zero, List.set_cons_succ]
  refine wpAnyH_ready (rs := [8]) (by kernel_rfl) (by simp) ?_
  refine AllReadyH.cons (by simp only [List.getElem?_toArray, List.getElem?_cons_zero, List.getElem?_cons_succ]; rfl) (fun K hK => ?_) AllReadyH.nil
  refine Vx.step_callx rfl 19 #[Operand.tmp 206, Operand.const (Value.int IntKind.i64 90)] #[3, 3] rfl #[.int .i64 o.b, .int .i64 90] (by first | rfl | simp [Act.eval, go_sem]) (by simp [go_sem]) (HPX.out _) ?_
  rintro e w9 ⟨rfl, hw9⟩
  have hw8 := hw9.symm
  clear hw9
  subst hw8
  refine ⟨_, rfl, ?_⟩
  refine hK.out _ _ HS0.out (fun _ => ?_)
  clear hK K
  try simp only [Act.put, List.setIfInBounds_toArray, List.set_cons_zero, List.set_cons_succ]
  refine wpAnyH_ready (rs := [9]) (by kernel_rfl) (by simp) ?_
  refine AllReadyH.cons (by simp only [List.getElem?_toArray, List.getElem?_cons_zero, List.getElem?_cons_succ]; rfl) (fun K hK => ?_) AllReadyH.nil
  refine Vx.step_callx rfl 22 #[Operand.tmp 207] #[3] rfl #[.int .i64 (X : Int)] (by first | rfl | simp [Act.eval, go_sem]) (by simp [go_sem]) (HDX.out _) ?_
  rintro e wa ⟨rfl, hb4⟩
  have HIwa := Vx.hid (HI0.out.quiet (Only.of_below hb4 (fun k hk h9 => by omega)))
  clear hb4
  have HSwa := Vx.hid (HCE.out _ HIwa.out)
  refine ⟨_, rfl, ?_⟩
  refine hK.out _ _ HSwa.out (fun _ => ?_)
  clear hK K
  try simp only [Act.put, List.setIfInBounds_toArray, List.set_cons_zero, List.set_cons_succ]
  refine wpAnyH_take (i := 10) (v := ?v25_10) (by simp only [List.getElem?_toArray, List.getElem?_cons_zero, List.getElem?_cons_succ]; rfl) (by kernel_rfl) (by kernel_rfl) (by kernel_rfl) (by exact fun _ _ _ h => h) (Or.inl ⟨by rfl, ?hy25_10⟩) HSwa.out ?_
  case hy25_10 => (intro wq hSw; (try dsimp only at hSw); go_simp; try (with_reducible rfl))
  try simp only [Act.put, List.setIfInBounds_toArray, List.set_cons_zero, List.set_cons_succ]
  refine wpAnyH_take (i := 11) (v := ?v25_11) (by simp only [List.getElem?_toArray, List.getElem?_cons_zero, List.getElem?_cons_succ]; rfl) (by kernel_rfl) (by kernel_rfl) (by kernel_rfl) (by exact fun _ _ _ h => h) (Or.inl ⟨by rfl, ?hy25_11⟩) HSwa.out ?_
  case hy25_11 => (intro wq hSw; (try dsimp only at hSw); go_simp; try (with_reducible rfl))
  try simp only [Act.put, List.setIfInBounds_toArray, List.set_cons_zero, List.set_cons_succ]
  refine wpAnyH_ready (rs := [13]) (by kernel_rfl) (by simp) ?_
  refine AllReadyH.cons (by simp only [List.getElem?_toArray, List.getElem?_cons_zero, List.getElem?_cons_succ]; rfl) (fun K hK => ?_) AllReadyH.nil
  refine Vx.step_callx rfl 22 #[Operand.tmp 211] #[3] rfl #[.int .i64 (A : Int)] (by first | rfl | simp [Act.eval, go_sem]) (by simp [go_sem]) (HDA.out _) ?_
  rintro e wb ⟨rfl, hb4⟩
  have HIwb := Vx.hid (HIwa.out.quiet (Only.of_below hb4 (fun k hk h9 => by omega)))
  clear hb4
  have HSwb := Vx.hid (HCE.out _ HIwb.out)
  refine ⟨_, rfl, ?_⟩
  refine hK.out _ _ HSwb.out (fun _ => ?_)
  clear hK K
  try simp only [Act.put, List.setIfInBounds_toArray, List.set_cons_zero, List.set_cons_succ]
  refine wpAnyH_take (i := 14) (v := ?v25_14) (by simp only [List.getElem?_toArray, List.getElem?_cons_zero, List.getElem?_cons_succ]; rfl) (by kernel_rfl) (by kernel_rfl) (by kernel_rfl) (by exact fun _ _ _ h => h) (Or.inl ⟨by rfl, ?hy25_14⟩) HSwb.out ?_
  case hy25_14 => (intro wq hSw; (try dsimp only at hSw); go_simp; try (with_reducible rfl))
  try simp only [Act.put, List.setIfInBounds_toArray, List.set_cons_zero, List.set_cons_succ]
  refine wpAnyH_take (i := 15) (v := ?v25_15) (by simp only [List.getElem?_toArray, List.getElem?_cons_zero, List.getElem?_cons_succ]; rfl) (by kernel_rfl) (by kernel_rfl) (by kernel_rfl) (by exact fun _ _ _ h => h) (Or.inl ⟨by rfl, ?hy25_15⟩) HSwb.out ?_
  case hy25_15 => (intro wq hSw; (try dsimp only at hSw); go_simp; try (with_reducible rfl))
  try simp only [Act.put, List.setIfInBounds_toArray, List.set_cons_zero, List.set_cons_succ]
  refine wpAnyH_ready (rs := [18]) (by kernel_rfl) (by simp) ?_
  refine AllReadyH.cons (by simp only [List.getElem?_toArray, List.getElem?_cons_zero, List.getElem?_cons_succ]; rfl) (fun K hK => ?_) AllReadyH.nil
  refine Vx.step_callx rfl 23 #[Operand.tmp 216] #[3] rfl #[.int .i64 o.c] (by first | rfl | simp [Act.eval, go_sem]) (by simp [go_sem]) (HLE.out _) ?_
  rintro e wf ⟨rfl, hb4⟩
  have HIwf := Vx.hid (HIwb.out.quiet hb4)
  clear hb4
  have HSwf := Vx.hid (HCE.out _ HIwf.out)
  refine ⟨_, rfl, ?_⟩
  refine hK.out _ _ HSwf.out (fun _ => ?_)
  clear hK K
  try simp only [Act.put, List.setIfInBounds_toArray, List.set_cons_zero, List.set_cons_succ]
  refine wpAnyH_take (i := 19) (v := ?v25_19) (by simp only [List.getElem?_toArray, List.getElem?_cons_zero, List.getElem?_cons_succ]; rfl) (by kernel_rfl) (by kernel_rfl) (by kernel_rfl) (by exact fun _ _ _ h => h) (Or.inl ⟨by rfl, ?hy25_19⟩) HSwf.out ?_
  case hy25_19 => (intro wq hSw; (try dsimp only at hSw); go_simp; try (with_reducible rfl))
  try simp only [Act.put, List.setIfInBounds_toArray, List.set_cons_zero, List.set_cons_succ]
  refine wpAnyH_take (i := 20) (v := ?v25_20) (by simp only [List.getElem?_toArray, List.getElem?_cons_zero, List.getElem?_cons_succ]; rfl) (by kernel_rfl) (by kernel_rfl) (by kernel_rfl) (by exact fun _ _ _ h => h) (Or.inl ⟨by rfl, ?hy25_20⟩) HSwf.out ?_
  case hy25_20 => (intro wq hSw; (try dsimp only at hSw); go_simp; try (with_reducible rfl))
  try simp only [Act.put, List.setIfInBounds_toArray, List.set_cons_zero, List.set_cons_succ]
  refine wpAnyH_take (i := 21) (v := ?v25_21) (by simp only [List.getElem?_toArray, List.getElem?_cons_zero, List.getElem?_cons_succ]; rfl) (by kernel_rfl) (by kernel_rfl) (by kernel_rfl) (by exact fun _ _ _ h => h) (Or.inl ⟨by rfl, ?hy25_21⟩) HSwf.out ?_
  case hy25_21 => (intro wq hSw; (try dsimp only at hSw); go_simp; try (with_reducible rfl))
  try simp only [Act.put, List.setIfInBounds_toArray, List.set_cons_zero, List.set_cons_succ]
  refine wpAnyH_take (i := 22) (v := undef) (by simp only [List.getElem?_toArray, List.getElem?_cons_zero, List.getElem?_cons_succ]; rfl) (by kernel_rfl) (by kernel_rfl) (by kernel_rfl) (by exact fun _ _ _ h => h) (Or.inr ⟨by rfl, rfl⟩) HSwf.out ?_
  refine wpAnyH_done (by kernel_rfl) ?_ _
  simp only [Vx.upTo]
  have d0 := HSwf.out.1
  have f0 := froz HIwf.out.h.row 0
  go_upto_region 26 with fail
  have e : (⟨T.t.toArray⟩ : ByteArray) ++ ⟨#[109, 97, 112, 32, 98, 32]⟩ ++ ⟨dX.toArray⟩ ++ ⟨#[32, 114, 32]⟩ ++ ⟨dA.toArray⟩ ++ ⟨#[32]⟩ ++ ⟨lR.toArray⟩ = ⟨(T.t ++ ([109, 97, 112, 32, 98, 32] ++ (dX ++ [32, 114, 32] ++ (dA ++ 32 :: lR)))).toArray⟩ := by
    simp only [catB, List.append_assoc, List.cons_append, List.nil_append]
  rw [e]
  have HZ := Vx.hid (HIwf.out.text (T.t ++ ([109, 97, 112, 32, 98, 32] ++ (dX ++ [32, 114, 32] ++ (dA ++ 32 :: lR)))))
  obtain ⟨tz, htz⟩ : ∃ tz, tz = T.t ++ ([109, 97, 112, 32, 98, 32] ++ (dX ++ [32, 114, 32] ++ (dA ++ 32 :: lR))) := ⟨_, rfl⟩
  have hlz : tz.length ≤ 1000000 := by rw [htz]; simp; omega
  have HEZ : Hid (tF = tz ++ [10]) := by show _ = _; rw [HFT.out, htz]; simp
  rw [← htz] at HZ ⊢
  obtain ⟨wz, hwz⟩ : ∃ wz, wz = wf.setCell ⟨xb, 0, none⟩ (.string ⟨tz.toArray⟩) := ⟨_, rfl⟩
  rw [← hwz] at HZ ⊢
  clear hwz htz e d0 f0
  have z0 : wz.cell? ⟨xb, 0, none⟩ = some (.string ⟨tz.toArray⟩) := (cell_of_row _ _ 0 _ _ (0, 0) HZ.out.h.row).trans rfl
  have z1 := froz HZ.out.h.row 0
  go_wp2_with fail
  first | go_end0 | refine bodyPost_ret (results_none rfl _ _ _) rfl ?_
  have e : (⟨tz.toArray⟩ : ByteArray) ++ ⟨#[10]⟩ = ⟨(tz ++ [10]).toArray⟩ := catB _ _
  exact ⟨rfl, _, _, _, _, _, _, _, _, by rw [HEZ.out, e]; exact (HZ.out.text (tz ++ [10])).h⟩
end Go.Proofs.YtgacifbpjdakaaaGreatDoor

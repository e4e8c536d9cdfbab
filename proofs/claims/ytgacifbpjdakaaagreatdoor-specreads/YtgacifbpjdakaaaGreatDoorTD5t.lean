/- SpecReads' law: line, turn (gen_td5.py). -/
import Derived.Test.YtgacifbpjdakaaaGreatDoorTD5
namespace Go.Proofs.YtgacifbpjdakaaaGreatDoor
open Go.ChangeShapes Go.WideShapes Go.ChangeAt Go.RowKit
open Go.Vx
set_option linter.unusedVariables false
set_option linter.unusedSimpArgs false

variable {W w w2 : World} {xb ob : Nat} {vt vo vc vm vh vi vn va : Value} {T : Tx} {o : Tl}
set_option maxRecDepth 100000 in
set_option maxHeartbeats 2000000 in
theorem line_turn (h : TxAt W w xb vt vo vc vm vh vi vn va T) (o : Tl) (i : TlI o) (hk : pickL o.k 7 = 3) (hB : Bnd T) : Calls Tryz.prog 8 #[.pointer (some ⟨xb, 0, none⟩), .agg #[.int .i64 o.k, .int .i64 o.a, .int .i64 o.b, .int .i64 o.c]] w fun e w' => e = .returned (.tuple #[]) ∧ Hid (∃ vt' vo' vc' vm' vh' vi' vn' va', TxAt W w' xb vt' vo' vc' vm' vh' vi' vn' va' (tellF T o)) := by
  have HTF : Hid (tellF T o = { T with tn := T.tn ++ [(((p32 o.a : Nat) : Int), ((p32 o.b : Nat) : Int))], t := T.t ++ (turL o ++ [10]) }) := by
    show _ = _
    unfold tellF putF' lineF
    rw [hk]
    rfl
  rw [HTF.out]
  clear HTF
  obtain ⟨w1, hw1⟩ : ∃ w1, w1 = w.alloc (.cells #[.int .i64 o.k, .int .i64 o.a, .int .i64 o.b, .int .i64 o.c] 61) := ⟨_, rfl⟩
  obtain ⟨ob, hob⟩ : ∃ ob, ob = w.heap.size := ⟨_, rfl⟩
  have ho1 : Only (fun _ => False) w w1 := by rw [hw1]; exact (Only.refl _ w).alloc _
  have HT1 : Hid (TeAt w1 ob o) := by unfold TeAt; show _ = _; rw [hw1, hob]; exact heap_alloc_last w _
  have HH1 : Hid (LnI W w1 xb vt vo vc vm vh vi vn va T ob o) := ⟨h.quiet ho1, HT1.out⟩
  have HPA := Vx.hid (fun wv => pick_lit 4294967296 (by omega) (by omega) 4294967296 (by omega) o.a i.a.1 i.a.2 wv)
  have HPK := Vx.hid (fun wv => pick_lit 7 (by omega) (by omega) 7 (by omega) o.k i.k.1 i.k.2 wv)
  rw [hk] at HPK
  have HLA := Vx.hid (pick_lt o.a 4294967296 (by decide))
  have hpa : p32 o.a = pickL o.a 4294967296 := rfl
  clear h ho1 HT1 hk
  have HPB := Vx.hid (fun wv => pick_lit 4294967296 (by omega) (by omega) 4294967296 (by omega) o.b i.b.1 i.b.2 wv)
  have HLB := Vx.hid (pick_lt o.b 4294967296 (by decide))
  have hpb : p32 o.b = pickL o.b 4294967296 := rfl
  have htu : turL o = [32, 116, 117, 114, 110, 32] ++ (Lib.decDigits (p32 o.a) ++ 32 :: Lib.decDigits (p32 o.b)) := rfl
  rw [htu, hpa, hpb]
  clear htu hpa hpb
  obtain ⟨A, hA⟩ : ∃ A, A = pickL o.a 4294967296 := ⟨_, rfl⟩
  obtain ⟨B, hBe⟩ : ∃ B, B = pickL o.b 4294967296 := ⟨_, rfl⟩
  rw [← hA] at HPA HLA ⊢
  rw [← hBe] at HPB HLB ⊢
  clear hA hBe
  have HDA := Vx.hid (fun wv => decimal_ok A (by have := HLA.out; omega) wv)
  have HDB := Vx.hid (fun wv => decimal_ok B (by have := HLB.out; omega) wv)
  have HGA := Vx.hid (dec_len A (by have := HLA.out; omega))
  have HGB := Vx.hid (dec_len B (by have := HLB.out; omega))
  obtain ⟨dA, hdA⟩ : ∃ dA, dA = Lib.decDigits A := ⟨_, rfl⟩
  obtain ⟨dB, hdB⟩ : ∃ dB, dB = Lib.decDigits B := ⟨_, rfl⟩
  rw [← hdA] at HDA HGA ⊢
  rw [← hdB] at HDB HGB ⊢
  clear hdA hdB
  obtain ⟨tF, htF⟩ : ∃ tF, tF = T.t ++ ([32, 116, 117, 114, 110, 32] ++ (dA ++ 32 :: dB) ++ [10]) := ⟨_, rfl⟩
  rw [← htF]
  have HFT := Vx.hid htF
  clear htF
  obtain ⟨pt, ct, hvt, _⟩ := HH1.out.h.lt.form
  obtain ⟨nt, hnt⟩ : ∃ nt, nt = T.tn.length := ⟨_, rfl⟩
  rw [← hnt] at hvt
  subst hvt
  clear hnt
  have HLN : Hid (T.tn.length + 1 ≤ 10000000 ∧ T.t.length ≤ 900000) := ⟨by have := hB.tn; omega, hB.t⟩
  clear hB i
  go_enter Tryz.func8, Tryz.ntmps8
  go_upto_region 1 with fail
  rw [← hw1, ← hob]
  clear hw1 hob
  have k0 : w1.cell? ⟨ob, 0, none⟩ = some (.int .i64 o.k) := (cell_of_row _ _ 0 _ _ (0, 0) HH1.out.te).trans rfl
  have k1 : w1.cell? ⟨ob, 1, none⟩ = some (.int .i64 o.a) := (cell_of_row _ _ 1 _ _ (0, 0) HH1.out.te).trans rfl
  go_upto_region 2 with (go_at_call 19; refine (HPA.out _).mono ?_; rintro e w9 ⟨rfl, hw9⟩; have hw8 := hw9.symm; clear hw9; subst hw8)
  go_upto_region 11 with (go_at_call 19; refine (HPK.out _).mono ?_; rintro e w9 ⟨rfl, hw9⟩; have hw8 := hw9.symm; clear hw9; subst hw8)
  clear k0 k1
  have HX0 := Vx.hid (HH1.out.quiet ((Only.refl _ w1).drew))
  obtain ⟨wA, hwA⟩ : ∃ wA, wA = (w1.alloc (.cells #[.int .i64 (A : Int), .int .i64 (B : Int)] 76)).drew := ⟨_, rfl⟩
  have hoA : Only (fun _ => False) w1 wA := by rw [hwA]; exact ((Only.refl _ _).alloc _).drew
  have HXA := Vx.hid (HH1.out.quiet hoA)
  have HYD : Hid (∀ j u, (slL.cf ((A : Int), (B : Int)))[j]? = some u → wA.cell? ⟨w1.heap.size, j, none⟩ = some u) := fun j u hj => by
    have hl : wA.heap[w1.heap.size]? = some (.cells #[.int .i64 (A : Int), .int .i64 (B : Int)] 76 (0, 0)) := by rw [hwA]; exact heap_alloc_last _ _
    rw [cell_of_row _ _ j _ _ (0, 0) hl]
    simpa [slL, slC] using hj
  have HBA : Hid (W.heap.size ≤ wA.heap.size) := HXA.out.h.be.size
  have HCE : Hid (∀ wv, LnI W wv xb (.slice pt nt ct) vo vc vm vh vi vn va T ob o → wv.cell? ⟨xb, 2, none⟩ = some (.slice pt nt ct) ∧ wv.cell? ⟨ob, 2, none⟩ = some (.int .i64 o.b)) := fun wv hv => ⟨(cell_of_row _ _ 2 _ _ (0, 0) hv.h.row).trans rfl, (cell_of_row _ _ 2 _ _ (0, 0) hv.te).trans rfl⟩
  have HS0 := Vx.hid (HCE.out _ HX0.out)
  have HSA := Vx.hid (HCE.out _ HXA.out)
  clear hoA
  refine Vx.wp_region_last (S := (fun wv => wv.cell? ⟨xb, 2, none⟩ = some (.slice pt nt ct) ∧ wv.cell? ⟨ob, 2, none⟩ = some (.int .i64 o.b))) 16 (by kernel_rfl) (by simp only [List.getElem?_toArray, List.getElem?_cons_zero, List.getElem?_cons_succ]; rfl) (by kernel_rfl) ?_
  simp only [Vx.offA, Vx.offO, List.setIfInBounds_toArray, List.set_cons_zero, List.set_cons_succ, List.size_toArray, List.length_cons, List.length_nil, Nat.zero_add, Nat.reduceAdd]
  refine wpAnyH_take (i := 0) (v := ?v11_0) (by simp only [List.getElem?_toArray, List.getElem?_cons_zero, List.getElem?_cons_succ]; rfl) (by kernel_rfl) (by kernel_rfl) (by kernel_rfl) (by exact fun _ _ _ h => h) (Or.inl ⟨by rfl, ?hy11_0⟩) HS0.out ?_
  case hy11_0 => (intro wq hSw; (try dsimp only at hSw); go_simp; try (with_reducible rfl))
  try simp only [Act.put, List.setIfInBounds_toArray, List.set_cons_zero, List.set_cons_succ]
  refine wpAnyH_take (i := 1) (v := ?v11_1) (by simp only [List.getElem?_toArray, List.getElem?_cons_zero, List.getElem?_cons_succ]; rfl) (by kernel_rfl) (by kernel_rfl) (by kernel_rfl) (by exact fun _ _ _ h => h) (Or.inl ⟨by rfl, ?hy11_1⟩) HS0.out ?_
  case hy11_1 => (intro wq hSw; (try dsimp only at hSw); go_simp; try (with_reducible rfl))
  try simp only [Act.put, List.setIfInBounds_toArray, List.set_cons_zero, List.set_cons_succ]
  refine wpAnyH_take (i := 2) (v := ?v11_2) (by simp only [List.getElem?_toArray, List.getElem?_cons_zero, List.getElem?_cons_succ]; rfl) (by kernel_rfl) (by kernel_rfl) (by kernel_rfl) (by exact fun _ _ _ h => h) (Or.inl ⟨by rfl, ?hy11_2⟩) HS0.out ?_
  case hy11_2 => (intro wq hSw; (try dsimp only at hSw); go_simp; try (with_reducible rfl))
  try simp only [Act.put, List.setIfInBounds_toArray, List.set_cons_zero, List.set_cons_succ]
  refine wpAnyH_take (i := 3) (v := ?v11_3) (by simp only [List.getElem?_toArray, List.getElem?_cons_zero, List.getElem?_cons_succ]; rfl) (by kernel_rfl) (by kernel_rfl) (by kernel_rfl) (by exact fun _ _ _ h => h) (Or.inl ⟨by rfl, ?hy11_3⟩) HS0.out ?_
  case hy11_3 => (intro wq hSw; (try dsimp only at hSw); go_simp; try (with_reducible rfl))
  try simp only [Act.put, List.setIfInBounds_toArray, List.set_cons_zero, List.set_cons_succ]
  refine wpAnyH_take (i := 4) (v := ?v11_4) (by simp only [List.getElem?_toArray, List.getElem?_cons_zero, List.getElem?_cons_succ]; rfl) (by kernel_rfl) (by kernel_rfl) (by kernel_rfl) (by exact fun _ _ _ h => h) (Or.inl ⟨by rfl, ?hy11_4⟩) HS0.out ?_
  case hy11_4 => (intro wq hSw; (try dsimp only at hSw); go_simp; try (with_reducible rfl))
  try simp only [Act.put, List.setIfInBounds_toArray, List.set_cons_zero, List.set_cons_succ]
  refine wpAnyH_take (i := 5) (v := ?v11_5) (by simp only [List.getElem?_toArray, List.getElem?_cons_zero, List.getElem?_cons_succ]; rfl) (by kernel_rfl) (by kernel_rfl) (by kernel_rfl) (by exact fun _ _ _ h => h) (Or.inl ⟨by rfl, ?hy11_5⟩) HS0.out ?_
  case hy11_5 => (intro wq hSw; (try dsimp only at hSw); go_simp; try (with_reducible rfl))
  try simp only [Act.put, List.setIfInBounds_toArray, List.set_cons_zero, List.set_cons_succ]
  refine wpAnyH_take (i := 6) (v := ?v11_6) (by simp only [List.getElem?_toArray, List.getElem?_cons_zero, List.getElem?_cons_succ]; rfl) (by kernel_rfl) (by kernel_rfl) (by kernel_rfl) (by exact fun _ _ _ h => h) (Or.inl ⟨by rfl, ?hy11_6⟩) HS0.out ?_
  case hy11_6 => (intro wq hSw; (try dsimp only at hSw); go_simp; try (with_reducible rfl))
  try simp only [Act.put, List.setIfInBounds_toArray, List.set_cons_zero, List.set_cons_succ]
  refine wpAnyH_take (i := 7) (v := ?v11_7) (by simp only [List.getElem?_toArray, List.getElem?_cons_zero, List.getElem?_cons_succ]; rfl) (by kernel_rfl) (by kernel_rfl) (by kernel_rfl) (by exact fun _ _ _ h => h) (Or.inl ⟨by rfl, ?hy11_7⟩) HS0.out ?_
  case hy11_7 => (intro wq hSw; (try dsimp only at hSw); go_simp; try (with_reducible rfl))
  try simp only [Act.put, List.setIfInBounds_toArray, List.set_cons_zero, List.set_cons_succ]
  refine wpAnyH_take (i := 8) (v := ?v11_8) (by simp only [List.getElem?_toArray, List.getElem?_cons_zero, List.getElem?_cons_succ]; rfl) (by kernel_rfl) (by kernel_rfl) (by kernel_rfl) (by exact fun _ _ _ h => h) (Or.inl ⟨by rfl, ?hy11_8⟩) HS0.out ?_
  case hy11_8 => (intro wq hSw; (try dsimp only at hSw); go_simp; try (with_reducible rfl))
  try simp only [Act.put, List.setIfInBounds_toArray, List.set_cons_zero, List.set_cons_succ]
  refine wpAnyH_ready (rs := [9]) (by kernel_rfl) (by simp) ?_
  refine AllReadyH.cons (by simp only [List.getElem?_toArray, List.getElem?_cons_zero, List.getElem?_cons_succ]; rfl) (fun K hK => ?_) AllReadyH.nil
  refine Vx.step_callx rfl 19 #[Operand.tmp 71, Operand.const (Value.int IntKind.i64 4294967296)] #[3, 3] rfl #[.int .i64 o.b, .int .i64 4294967296] (by first | rfl | simp [Act.eval, go_sem]) (by simp [go_sem]) (HPB.out _) ?_
  rintro e w9 ⟨rfl, hw9⟩
  have hw8 := hw9.symm
  clear hw9
  subst hw8
  refine ⟨_, rfl, ?_⟩
  refine hK.out _ _ HS0.out (fun _ => ?_)
  clear hK K
  try simp only [Act.put, List.setIfInBounds_toArray, List.set_cons_zero, List.set_cons_succ]
  refine wpAnyH_take (i := 10) (v := ?v11_10) (by simp only [List.getElem?_toArray, List.getElem?_cons_zero, List.getElem?_cons_succ]; rfl) (by kernel_rfl) (by kernel_rfl) (by kernel_rfl) (by exact fun _ _ _ h => h) (Or.inl ⟨by rfl, ?hy11_10⟩) HS0.out ?_
  case hy11_10 => (intro wq hSw; (try dsimp only at hSw); go_simp; try (with_reducible rfl))
  try simp only [Act.put, List.setIfInBounds_toArray, List.set_cons_zero, List.set_cons_succ]
  refine wpAnyH_ready (rs := [11]) (by kernel_rfl) (by simp) ?_
  refine AllReadyH.cons (by simp only [List.getElem?_toArray, List.getElem?_cons_zero, List.getElem?_cons_succ]; rfl) (fun K hK => ?_) AllReadyH.nil
  go_simp
  rw [← hwA]
  refine hK.out _ _ HSA.out (fun _ => ?_)
  clear hK K
  try simp only [Act.put, List.setIfInBounds_toArray, List.set_cons_zero, List.set_cons_succ]
  refine wpAnyH_ready (rs := [12]) (by kernel_rfl) (by simp) ?_
  refine AllReadyH.cons (by simp only [List.getElem?_toArray, List.getElem?_cons_zero, List.getElem?_cons_succ]; rfl) (fun K hK => ?_) AllReadyH.nil
  refine Vx.step_append_one tKt rfl (.tmp 68) (.tmp 74) rfl W.heap.size (.slice pt nt ct) T.tn (by simp [Act.eval]) HXA.out.h.lt ((A : Int), (B : Int)) w1.heap.size 1 1 (by simp [Act.eval]) HYD.out HLN.out.1 HBA.out ?_
  intro v6 w6 hv1 hv2 hv3
  obtain ⟨⟨pq, mq, cq, rfl⟩, ⟨qx, hq1⟩, hq2, hxc, hoc, HQ5⟩ := HXA.out.st_t v6 w6 _ hv1 hv2
  clear hv1 hv2 hv3
  have HS6 : Hid (w6.cell? ⟨xb, 2, none⟩ = some (.slice pt nt ct) ∧ w6.cell? ⟨ob, 2, none⟩ = some (.int .i64 o.b)) := ⟨(hxc 2).trans HSA.out.1, (hoc 2).trans HSA.out.2⟩
  clear hxc hoc
  refine hK.out _ _ HS6.out (fun _ => ?_)
  clear hK K
  try simp only [Act.put, List.setIfInBounds_toArray, List.set_cons_zero, List.set_cons_succ]
  refine wpAnyH_take (i := 13) (v := ?v11_13) (by simp only [List.getElem?_toArray, List.getElem?_cons_zero, List.getElem?_cons_succ]; rfl) (by kernel_rfl) (by kernel_rfl) (by kernel_rfl) (by exact fun _ _ _ h => h) (Or.inl ⟨by rfl, ?hy11_13⟩) HS6.out ?_
  case hy11_13 => (intro wq hSw; (try dsimp only at hSw); go_simp; try (with_reducible rfl))
  try simp only [Act.put, List.setIfInBounds_toArray, List.set_cons_zero, List.set_cons_succ]
  refine wpAnyH_take (i := 14) (v := ?v11_14) (by simp only [List.getElem?_toArray, List.getElem?_cons_zero, List.getElem?_cons_succ]; rfl) (by kernel_rfl) (by kernel_rfl) (by kernel_rfl) (by exact fun _ _ _ h => h) (Or.inl ⟨by rfl, ?hy11_14⟩) HS6.out ?_
  case hy11_14 => (intro wq hSw; (try dsimp only at hSw); go_simp; try (with_reducible rfl))
  try simp only [Act.put, List.setIfInBounds_toArray, List.set_cons_zero, List.set_cons_succ]
  refine wpAnyH_take (i := 15) (v := ?v11_15) (by simp only [List.getElem?_toArray, List.getElem?_cons_zero, List.getElem?_cons_succ]; rfl) (by kernel_rfl) (by kernel_rfl) (by kernel_rfl) (by exact fun _ _ _ h => h) (Or.inl ⟨by rfl, ?hy11_15⟩) HS6.out ?_
  case hy11_15 => (intro wq hSw; (try dsimp only at hSw); go_simp; try (with_reducible rfl))
  try simp only [Act.put, List.setIfInBounds_toArray, List.set_cons_zero, List.set_cons_succ]
  refine wpAnyH_take (i := 16) (v := undef) (by simp only [List.getElem?_toArray, List.getElem?_cons_zero, List.getElem?_cons_succ]; rfl) (by kernel_rfl) (by kernel_rfl) (by kernel_rfl) (by exact fun _ _ _ h => h) (Or.inr ⟨by rfl, rfl⟩) HS6.out ?_
  refine wpAnyH_done (by kernel_rfl) ?_ _
  simp only [Vx.upTo]
  clear hwA HYD HBA HXA HX0 HS0 HSA HS6 HCE HH1
  go_upto_region 12 with fail
  obtain ⟨w7, hw7⟩ : ∃ w7, w7 = w6.setCell ⟨xb, 2, none⟩ (.slice pq mq cq) := ⟨_, rfl⟩
  rw [← hw7] at HQ5 ⊢
  clear hw7 hq1 hq2
  have HI0 := Vx.hid (HQ5.out.quiet ((Only.refl _ w7).drew))
  have HCE : Hid (∀ wv, LnI W wv xb (.slice pq mq cq) vo vc vm vh vi vn va { T with tn := T.tn ++ [((A : Int), (B : Int))] } ob o → wv.cell? ⟨xb, 0, none⟩ = some (.string ⟨T.t.toArray⟩) ∧ wv.cell? ⟨ob, 2, none⟩ = some (.int .i64 o.b)) := fun wv hv => ⟨(cell_of_row _ _ 0 _ _ (0, 0) hv.h.row).trans rfl, (cell_of_row _ _ 2 _ _ (0, 0) hv.te).trans rfl⟩
  have HS0 := Vx.hid (HCE.out _ HI0.out)
  have g0 := HLN.out.2
  have g8 := HGA.out
  have g9 := HGB.out
  have y1 : ¬ 9223372036854775807 < T.t.length + 6 := by omega
  have y2 : ¬ 9223372036854775807 < T.t.length + 6 + dA.length := by omega
  have y3 : ¬ 9223372036854775807 < T.t.length + 6 + dA.length + 1 := by omega
  have y4 : ¬ 9223372036854775807 < T.t.length + 6 + dA.length + 1 + dB.length := by omega
  refine Vx.wp_region_last (S := (fun wv => wv.cell? ⟨xb, 0, none⟩ = some (.string ⟨T.t.toArray⟩) ∧ wv.cell? ⟨ob, 2, none⟩ = some (.int .i64 o.b))) 17 (by kernel_rfl) (by simp only [List.getElem?_toArray, List.getElem?_cons_zero, List.getElem?_cons_succ]; rfl) (by kernel_rfl) ?_
  simp only [Vx.offA, Vx.offO, List.setIfInBounds_toArray, List.set_cons_zero, List.set_cons_succ, List.size_toArray, List.length_cons, List.length_nil, Nat.zero_add, Nat.reduceAdd]
  refine wpAnyH_take (i := 0) (v := ?v12_0) (by simp only [List.getElem?_toArray, List.getElem?_cons_zero, List.getElem?_cons_succ]; rfl) (by kernel_rfl) (by kernel_rfl) (by kernel_rfl) (by exact fun _ _ _ h => h) (Or.inl ⟨by rfl, ?hy12_0⟩) HS0.out ?_
  case hy12_0 => (intro wq hSw; (try dsimp only at hSw); go_simp; try (with_reducible rfl))
  try simp only [Act.put, List.setIfInBounds_toArray, List.set_cons_zero, List.set_cons_succ]
  refine wpAnyH_take (i := 1) (v := ?v12_1) (by simp only [List.getElem?_toArray, List.getElem?_cons_zero, List.getElem?_cons_succ]; rfl) (by kernel_rfl) (by kernel_rfl) (by kernel_rfl) (by exact fun _ _ _ h => h) (Or.inl ⟨by rfl, ?hy12_1⟩) HS0.out ?_
  case hy12_1 => (intro wq hSw; (try dsimp only at hSw); go_simp; try (with_reducible rfl))
  try simp only [Act.put, List.setIfInBounds_toArray, List.set_cons_zero, List.set_cons_succ]
  refine wpAnyH_take (i := 2) (v := ?v12_2) (by simp only [List.getElem?_toArray, List.getElem?_cons_zero, List.getElem?_cons_succ]; rfl) (by kernel_rfl) (by kernel_rfl) (by kernel_rfl) (by exact fun _ _ _ h => h) (Or.inl ⟨by rfl, ?hy12_2⟩) HS0.out ?_
  case hy12_2 => (intro wq hSw; (try dsimp only at hSw); go_simp; try (with_reducible rfl))
  try simp only [Act.put, List.setIfInBounds_toArray, List.set_cons_zero, List.set_cons_succ]
  refine wpAnyH_take (i := 3) (v := ?v12_3) (by simp only [List.getElem?_toArray, List.getElem?_cons_zero, List.getElem?_cons_succ]; rfl) (by kernel_rfl) (by kernel_rfl) (by kernel_rfl) (by exact fun _ _ _ h => h) (Or.inl ⟨by rfl, ?hy12_3⟩) HS0.out ?_
  case hy12_3 => (intro wq hSw; (try dsimp only at hSw); go_simp; try (with_reducible rfl))
  try simp only [Act.put, List.setIfInBounds_toArray, List.set_cons_zero, List.set_cons_succ]
  refine wpAnyH_take (i := 4) (v := ?v12_4) (by simp only [List.getElem?_toArray, List.getElem?_cons_zero, List.getElem?_cons_succ]; rfl) (by kernel_rfl) (by kernel_rfl) (by kernel_rfl) (by exact fun _ _ _ h => h) (Or.inl ⟨by rfl, ?hy12_4⟩) HS0.out ?_
  case hy12_4 => (intro wq hSw; (try dsimp only at hSw); go_simp; try (with_reducible rfl))
  try simp only [Act.put, List.setIfInBounds_toArray, List.set_cons_zero, List.set_cons_succ]
  refine wpAnyH_take (i := 5) (v := ?v12_5) (by simp only [List.getElem?_toArray, List.getElem?_cons_zero, List.getElem?_cons_succ]; rfl) (by kernel_rfl) (by kernel_rfl) (by kernel_rfl) (by exact fun _ _ _ h => h) (Or.inl ⟨by rfl, ?hy12_5⟩) HS0.out ?_
  case hy12_5 => (intro wq hSw; (try dsimp only at hSw); go_simp; try (with_reducible rfl))
  try simp only [Act.put, List.setIfInBounds_toArray, List.set_cons_zero, List.set_cons_succ]
  refine wpAnyH_take (i := 6) (v := ?v12_6) (by simp only [List.getElem?_toArray, List.getElem?_cons_zero, List.getElem?_cons_succ]; rfl) (by kernel_rfl) (by kernel_rfl) (by kernel_rfl) (by exact fun _ _ _ h => h) (Or.inl ⟨by rfl, ?hy12_6⟩) HS0.out ?_
  case hy12_6 => (intro wq hSw; (try dsimp only at hSw); go_simp; try (with_reducible rfl))
  try simp only [Act.put, List.setIfInBounds_toArray, List.set_cons_zero, List.set_cons_succ]
  refine wpAnyH_take (i := 10) (v := ?v12_10) (by simp only [List.getElem?_toArray, List.getElem?_cons_zero, List.getElem?_cons_succ]; rfl) (by kernel_rfl) (by kernel_rfl) (by kernel_rfl) (by exact fun _ _ _ h => h) (Or.inl ⟨by rfl, ?hy12_10⟩) HS0.out ?_
  case hy12_10 => (intro wq hSw; (try dsimp only at hSw); go_simp; try (with_reducible rfl))
  try simp only [Act.put, List.setIfInBounds_toArray, List.set_cons_zero, List.set_cons_succ]
  refine wpAnyH_take (i := 11) (v := ?v12_11) (by simp only [List.getElem?_toArray, List.getElem?_cons_zero, List.getElem?_cons_succ]; rfl) (by kernel_rfl) (by kernel_rfl) (by kernel_rfl) (by exact fun _ _ _ h => h) (Or.inl ⟨by rfl, ?hy12_11⟩) HS0.out ?_
  case hy12_11 => (intro wq hSw; (try dsimp only at hSw); go_simp; try (with_reducible rfl))
  try simp only [Act.put, List.setIfInBounds_toArray, List.set_cons_zero, List.set_cons_succ]
  refine wpAnyH_ready (rs := [7]) (by kernel_rfl) (by simp) ?_
  refine AllReadyH.cons (by simp only [List.getElem?_toArray, List.getElem?_cons_zero, List.getElem?_cons_succ]; rfl) (fun K hK => ?_) AllReadyH.nil
  refine Vx.step_callx rfl 22 #[Operand.tmp 85] #[3] rfl #[.int .i64 (A : Int)] (by first | rfl | simp [Act.eval, go_sem]) (by simp [go_sem]) (HDA.out _) ?_
  rintro e wa ⟨rfl, hb4⟩
  have HIwa := Vx.hid (HI0.out.quiet (Only.of_below hb4 (fun k hk h9 => by omega)))
  clear hb4
  have HSwa := Vx.hid (HCE.out _ HIwa.out)
  refine ⟨_, rfl, ?_⟩
  refine hK.out _ _ HSwa.out (fun _ => ?_)
  clear hK K
  try simp only [Act.put, List.setIfInBounds_toArray, List.set_cons_zero, List.set_cons_succ]
  refine wpAnyH_take (i := 8) (v := ?v12_8) (by simp only [List.getElem?_toArray, List.getElem?_cons_zero, List.getElem?_cons_succ]; rfl) (by kernel_rfl) (by kernel_rfl) (by kernel_rfl) (by exact fun _ _ _ h => h) (Or.inl ⟨by rfl, ?hy12_8⟩) HSwa.out ?_
  case hy12_8 => (intro wq hSw; (try dsimp only at hSw); go_simp; try (with_reducible rfl))
  try simp only [Act.put, List.setIfInBounds_toArray, List.set_cons_zero, List.set_cons_succ]
  refine wpAnyH_take (i := 9) (v := ?v12_9) (by simp only [List.getElem?_toArray, List.getElem?_cons_zero, List.getElem?_cons_succ]; rfl) (by kernel_rfl) (by kernel_rfl) (by kernel_rfl) (by exact fun _ _ _ h => h) (Or.inl ⟨by rfl, ?hy12_9⟩) HSwa.out ?_
  case hy12_9 => (intro wq hSw; (try dsimp only at hSw); go_simp; try (with_reducible rfl))
  try simp only [Act.put, List.setIfInBounds_toArray, List.set_cons_zero, List.set_cons_succ]
  refine wpAnyH_ready (rs := [12]) (by kernel_rfl) (by simp) ?_
  refine AllReadyH.cons (by simp only [List.getElem?_toArray, List.getElem?_cons_zero, List.getElem?_cons_succ]; rfl) (fun K hK => ?_) AllReadyH.nil
  refine Vx.step_callx rfl 19 #[Operand.tmp 90, Operand.const (Value.int IntKind.i64 4294967296)] #[3, 3] rfl #[.int .i64 o.b, .int .i64 4294967296] (by first | rfl | simp [Act.eval, go_sem]) (by simp [go_sem]) (HPB.out _) ?_
  rintro e w9 ⟨rfl, hw9⟩
  have hw8 := hw9.symm
  clear hw9
  subst hw8
  refine ⟨_, rfl, ?_⟩
  refine hK.out _ _ HSwa.out (fun _ => ?_)
  clear hK K
  try simp only [Act.put, List.setIfInBounds_toArray, List.set_cons_zero, List.set_cons_succ]
  refine wpAnyH_ready (rs := [13]) (by kernel_rfl) (by simp) ?_
  refine AllReadyH.cons (by simp only [List.getElem?_toArray, List.getElem?_cons_zero, List.getElem?_cons_succ]; rfl) (fun K hK => ?_) AllReadyH.nil
  refine Vx.step_callx rfl 22 #[Operand.tmp 91] #[3] rfl #[.int .i64 (B : Int)] (by first | rfl | simp [Act.eval, go_sem]) (by simp [go_sem]) (HDB.out _) ?_
  rintro e wb ⟨rfl, hb4⟩
  have HIwb := Vx.hid (HIwa.out.quiet (Only.of_below hb4 (fun k hk h9 => by omega)))
  clear hb4
  have HSwb := Vx.hid (HCE.out _ HIwb.out)
  refine ⟨_, rfl, ?_⟩
  refine hK.out _ _ HSwb.out (fun _ => ?_)
  clear hK K
  try simp only [Act.put, List.setIfInBounds_toArray, List.set_cons_zero, List.set_cons_succ]
  refine wpAnyH_take (i := 14) (v := ?v12_14) (by simp only [List.getElem?_toArray, List.getElem?_cons_zero, List.getElem?_cons_succ]; rfl) (by kernel_rfl) (by kernel_rfl) (by kernel_rfl) (by exact fun _ _ _ h => h) (Or.inl ⟨by rfl, ?hy12_14⟩) HSwb.out ?_
  case hy12_14 => (intro wq hSw; (try dsimp only at hSw); go_simp; try (with_reducible rfl))
  try simp only [Act.put, List.setIfInBounds_toArray, List.set_cons_zero, List.set_cons_succ]
  refine wpAnyH_take (i := 15) (v := ?v12_15) (by simp only [List.getElem?_toArray, List.getElem?_cons_zero, List.getElem?_cons_succ]; rfl) (by kernel_rfl) (by kernel_rfl) (by kernel_rfl) (by exact fun _ _ _ h => h) (Or.inl ⟨by rfl, ?hy12_15⟩) HSwb.out ?_
  case hy12_15 => (intro wq hSw; (try dsimp only at hSw); go_simp; try (with_reducible rfl))
  try simp only [Act.put, List.setIfInBounds_toArray, List.set_cons_zero, List.set_cons_succ]
  refine wpAnyH_take (i := 16) (v := ?v12_16) (by simp only [List.getElem?_toArray, List.getElem?_cons_zero, List.getElem?_cons_succ]; rfl) (by kernel_rfl) (by kernel_rfl) (by kernel_rfl) (by exact fun _ _ _ h => h) (Or.inl ⟨by rfl, ?hy12_16⟩) HSwb.out ?_
  case hy12_16 => (intro wq hSw; (try dsimp only at hSw); go_simp; try (with_reducible rfl))
  try simp only [Act.put, List.setIfInBounds_toArray, List.set_cons_zero, List.set_cons_succ]
  refine wpAnyH_take (i := 17) (v := undef) (by simp only [List.getElem?_toArray, List.getElem?_cons_zero, List.getElem?_cons_succ]; rfl) (by kernel_rfl) (by kernel_rfl) (by kernel_rfl) (by exact fun _ _ _ h => h) (Or.inr ⟨by rfl, rfl⟩) HSwb.out ?_
  refine wpAnyH_done (by kernel_rfl) ?_ _
  simp only [Vx.upTo]
  have d0 := HSwb.out.1
  have f0 := froz HIwb.out.h.row 0
  go_upto_region 26 with fail
  have e : (⟨T.t.toArray⟩ : ByteArray) ++ ⟨#[32, 116, 117, 114, 110, 32]⟩ ++ ⟨dA.toArray⟩ ++ ⟨#[32]⟩ ++ ⟨dB.toArray⟩ = ⟨(T.t ++ ([32, 116, 117, 114, 110, 32] ++ (dA ++ 32 :: dB))).toArray⟩ := by
    simp only [catB, List.append_assoc, List.cons_append, List.nil_append]
  rw [e]
  have HZ := Vx.hid (HIwb.out.text (T.t ++ ([32, 116, 117, 114, 110, 32] ++ (dA ++ 32 :: dB))))
  obtain ⟨tz, htz⟩ : ∃ tz, tz = T.t ++ ([32, 116, 117, 114, 110, 32] ++ (dA ++ 32 :: dB)) := ⟨_, rfl⟩
  have hlz : tz.length ≤ 1000000 := by rw [htz]; simp; omega
  have HEZ : Hid (tF = tz ++ [10]) := by show _ = _; rw [HFT.out, htz]; simp
  rw [← htz] at HZ ⊢
  obtain ⟨wz, hwz⟩ : ∃ wz, wz = wb.setCell ⟨xb, 0, none⟩ (.string ⟨tz.toArray⟩) := ⟨_, rfl⟩
  rw [← hwz] at HZ ⊢
  clear hwz htz e d0 f0
  have z0 : wz.cell? ⟨xb, 0, none⟩ = some (.string ⟨tz.toArray⟩) := (cell_of_row _ _ 0 _ _ (0, 0) HZ.out.h.row).trans rfl
  have z1 := froz HZ.out.h.row 0
  go_wp2_with fail
  first | go_end0 | refine bodyPost_ret (results_none rfl _ _ _) rfl ?_
  have e : (⟨tz.toArray⟩ : ByteArray) ++ ⟨#[10]⟩ = ⟨(tz ++ [10]).toArray⟩ := catB _ _
  exact ⟨rfl, _, _, _, _, _, _, _, _, by rw [HEZ.out, e]; exact (HZ.out.text (tz ++ [10])).h⟩
end Go.Proofs.YtgacifbpjdakaaaGreatDoor

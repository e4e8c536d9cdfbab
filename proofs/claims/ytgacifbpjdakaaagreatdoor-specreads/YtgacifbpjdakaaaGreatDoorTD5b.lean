/- SpecReads' law: line, bind (gen_td5.py). -/
import Derived.Test.YtgacifbpjdakaaaGreatDoorTD5
namespace Go.Proofs.YtgacifbpjdakaaaGreatDoor
open Go.ChangeShapes Go.WideShapes Go.ChangeAt Go.RowKit
open Go.Vx
set_option linter.unusedVariables false
set_option linter.unusedSimpArgs false

variable {W w w2 : World} {xb ob : Nat} {vt vo vc vm vh vi vn va : Value} {T : Tx} {o : Tl}
set_option maxRecDepth 100000 in
set_option maxHeartbeats 2000000 in
theorem line_bind (h : TxAt W w xb vt vo vc vm vh vi vn va T) (o : Tl) (i : TlI o) (hk : pickL o.k 7 = 6) (hB : Bnd T) : Calls Tryz.prog 8 #[.pointer (some ⟨xb, 0, none⟩), .agg #[.int .i64 o.k, .int .i64 o.a, .int .i64 o.b, .int .i64 o.c]] w fun e w' => e = .returned (.tuple #[]) ∧ Hid (∃ vt' vo' vc' vm' vh' vi' vn' va', TxAt W w' xb vt' vo' vc' vm' vh' vi' vn' va' (tellF T o)) := by
  have HTF : Hid (tellF T o = { T with ir := T.ir ++ [⟨5, 12, (p32 o.a : Nat)⟩], t := T.t ++ (binL o ++ [10]) }) := by
    show _ = _
    unfold tellF putF' lineF
    rw [hk]
    rfl
  rw [HTF.out]
  clear HTF
  obtain ⟨w1, hw1⟩ : ∃ w1, w1 = w.alloc (.cells #[.int .i64 o.k, .int .i64 o.a, .int .i64 o.b, .int .i64 o.c] 61) := ⟨_, rfl⟩
  obtain ⟨ob, hob⟩ : ∃ ob, ob = w.heap.size := ⟨_, rfl⟩
  have ho1 : Only (fun _ => False) w w1 := by rw [hw1]; exact (Only.refl _ w).alloc _
  have HT1 : Hid (TeAt w1 ob o) := by unfold TeAt; show _ = _; rw [hw1, hob]; exact heap_alloc_last w _
  have HH1 : Hid (LnI W w1 xb vt vo vc vm vh vi vn va T ob o) := ⟨h.quiet ho1, HT1.out⟩
  have HPA := Vx.hid (fun wv => pick_lit 4294967296 (by omega) (by omega) 4294967296 (by omega) o.a i.a.1 i.a.2 wv)
  have HPK := Vx.hid (fun wv => pick_lit 7 (by omega) (by omega) 7 (by omega) o.k i.k.1 i.k.2 wv)
  rw [hk] at HPK
  have HLA := Vx.hid (pick_lt o.a 4294967296 (by decide))
  have hpa : p32 o.a = pickL o.a 4294967296 := rfl
  clear h ho1 HT1 hk
  have htu : binL o = [98, 105, 110, 100, 32, 105, 32, 99, 32] ++ (Lib.decDigits (p32 o.a) ++ [32, 35, 32, 97, 32, 110, 111, 116, 101]) := rfl
  rw [htu]; rw [hpa]
  clear htu hpa
  obtain ⟨A, hAe⟩ : ∃ A, A = pickL o.a 4294967296 := ⟨_, rfl⟩
  rw [← hAe] at HPA HLA ⊢
  clear hAe
  have HDA := Vx.hid (fun wv => decimal_ok A (by have := HLA.out; omega) wv)
  have HGA := Vx.hid (dec_len A (by have := HLA.out; omega))
  obtain ⟨dA, hdA⟩ : ∃ dA, dA = Lib.decDigits A := ⟨_, rfl⟩
  rw [← hdA] at HDA HGA ⊢
  clear hdA
  obtain ⟨tF, htF⟩ : ∃ tF, tF = T.t ++ ([98, 105, 110, 100, 32, 105, 32, 99, 32] ++ (dA ++ [32, 35, 32, 97, 32, 110, 111, 116, 101]) ++ [10]) := ⟨_, rfl⟩
  rw [← htF]
  have HFT := Vx.hid htF
  clear htF
  obtain ⟨pt, ct, hvt, _⟩ := HH1.out.h.li.form
  obtain ⟨nt, hnt⟩ : ∃ nt, nt = T.ir.length := ⟨_, rfl⟩
  rw [← hnt] at hvt
  subst hvt
  clear hnt
  have HLN : Hid (T.ir.length + 1 ≤ 10000000 ∧ T.t.length ≤ 900000) := ⟨by have := hB.ir; omega, hB.t⟩
  have hwr : IntKind.u32.wrap (A : Int) = (A : Int) := by have := HLA.out; rw [IntKind.wrap_u32]; omega
  have HBA : Hid (W.heap.size ≤ w1.heap.size) := HH1.out.h.be.size
  clear hB i
  go_enter Tryz.func8, Tryz.ntmps8
  go_upto_region 1 with fail
  rw [← hw1, ← hob]
  clear hw1 hob
  have k0 : w1.cell? ⟨ob, 0, none⟩ = some (.int .i64 o.k) := (cell_of_row _ _ 0 _ _ (0, 0) HH1.out.te).trans rfl
  have k1 : w1.cell? ⟨ob, 1, none⟩ = some (.int .i64 o.a) := (cell_of_row _ _ 1 _ _ (0, 0) HH1.out.te).trans rfl
  go_upto_region 2 with (go_at_call 19; refine (HPA.out _).mono ?_; rintro e w9 ⟨rfl, hw9⟩; have hw8 := hw9.symm; clear hw9; subst hw8)
  go_upto_region 3 with (go_at_call 19; refine (HPK.out _).mono ?_; rintro e w9 ⟨rfl, hw9⟩; have hw8 := hw9.symm; clear hw9; subst hw8)
  clear k0 k1
  have c9 : w1.cell? ⟨xb, 9, none⟩ = some (.slice pt nt ct) := (cell_of_row _ _ 9 _ _ (0, 0) HH1.out.h.row).trans rfl
  go_upto_region 4 with (at_builtin; refine wpList_append_one tKi _ rfl _ _ rfl W.heap.size (.slice pt nt ct) _ rfl HH1.out.h.li ⟨5, 12, (A : Int)⟩ _ _ rfl rfl rfl HLN.out.1 HBA.out ?_; intro v6 w6 hv1 hv2 hv3; obtain ⟨⟨pq, mq, cq, rfl⟩, ⟨qx, hq1⟩, hq2, hxc, hoc, HQ5⟩ := HH1.out.st_i v6 w6 _ hv1 hv2; clear hv1 hv2 hv3 hxc hoc)
  obtain ⟨w7, hw7⟩ : ∃ w7, w7 = w6.setCell ⟨xb, 9, none⟩ (.slice pq mq cq) := ⟨_, rfl⟩
  rw [← hw7] at HQ5 ⊢
  clear hw7 hq1 hq2 c9 HH1
  have HI0 := Vx.hid (HQ5.out.quiet ((Only.refl _ w7).drew))
  have HCE : Hid (∀ wv, LnI W wv xb vt vo vc vm vh (.slice pq mq cq) vn va { T with ir := T.ir ++ [⟨5, 12, (A : Int)⟩] } ob o → wv.cell? ⟨xb, 0, none⟩ = some (.string ⟨T.t.toArray⟩)) := fun wv hv => (cell_of_row _ _ 0 _ _ (0, 0) hv.h.row).trans rfl
  have HS0 := Vx.hid (HCE.out _ HI0.out)
  have g0 := HLN.out.2
  have g8 := HGA.out
  have y1 : ¬ 9223372036854775807 < T.t.length + 9 := by omega
  have y2 : ¬ 9223372036854775807 < T.t.length + 9 + dA.length := by omega
  have y3 : ¬ 9223372036854775807 < T.t.length + 9 + dA.length + 9 := by omega
  refine Vx.wp_region_last (S := (fun wv => wv.cell? ⟨xb, 0, none⟩ = some (.string ⟨T.t.toArray⟩))) 12 (by kernel_rfl) (by simp only [List.getElem?_toArray, List.getElem?_cons_zero, List.getElem?_cons_succ]; rfl) (by kernel_rfl) ?_
  simp only [Vx.offA, Vx.offO, List.setIfInBounds_toArray, List.set_cons_zero, List.set_cons_succ, List.size_toArray, List.length_cons, List.length_nil, Nat.zero_add, Nat.reduceAdd]
  refine wpAnyH_take (i := 0) (v := ?v4_0) (by simp only [List.getElem?_toArray, List.getElem?_cons_zero, List.getElem?_cons_succ]; rfl) (by kernel_rfl) (by kernel_rfl) (by kernel_rfl) (by exact fun _ _ _ h => h) (Or.inl ⟨by rfl, ?hy4_0⟩) HS0.out ?_
  case hy4_0 => (intro wq hSw; (try dsimp only at hSw); go_simp; try (with_reducible rfl))
  try simp only [Act.put, List.setIfInBounds_toArray, List.set_cons_zero, List.set_cons_succ]
  refine wpAnyH_take (i := 1) (v := ?v4_1) (by simp only [List.getElem?_toArray, List.getElem?_cons_zero, List.getElem?_cons_succ]; rfl) (by kernel_rfl) (by kernel_rfl) (by kernel_rfl) (by exact fun _ _ _ h => h) (Or.inl ⟨by rfl, ?hy4_1⟩) HS0.out ?_
  case hy4_1 => (intro wq hSw; (try dsimp only at hSw); go_simp; try (with_reducible rfl))
  try simp only [Act.put, List.setIfInBounds_toArray, List.set_cons_zero, List.set_cons_succ]
  refine wpAnyH_take (i := 2) (v := ?v4_2) (by simp only [List.getElem?_toArray, List.getElem?_cons_zero, List.getElem?_cons_succ]; rfl) (by kernel_rfl) (by kernel_rfl) (by kernel_rfl) (by exact fun _ _ _ h => h) (Or.inl ⟨by rfl, ?hy4_2⟩) HS0.out ?_
  case hy4_2 => (intro wq hSw; (try dsimp only at hSw); go_simp; try (with_reducible rfl))
  try simp only [Act.put, List.setIfInBounds_toArray, List.set_cons_zero, List.set_cons_succ]
  refine wpAnyH_take (i := 3) (v := ?v4_3) (by simp only [List.getElem?_toArray, List.getElem?_cons_zero, List.getElem?_cons_succ]; rfl) (by kernel_rfl) (by kernel_rfl) (by kernel_rfl) (by exact fun _ _ _ h => h) (Or.inl ⟨by rfl, ?hy4_3⟩) HS0.out ?_
  case hy4_3 => (intro wq hSw; (try dsimp only at hSw); go_simp; try (with_reducible rfl))
  try simp only [Act.put, List.setIfInBounds_toArray, List.set_cons_zero, List.set_cons_succ]
  refine wpAnyH_take (i := 4) (v := ?v4_4) (by simp only [List.getElem?_toArray, List.getElem?_cons_zero, List.getElem?_cons_succ]; rfl) (by kernel_rfl) (by kernel_rfl) (by kernel_rfl) (by exact fun _ _ _ h => h) (Or.inl ⟨by rfl, ?hy4_4⟩) HS0.out ?_
  case hy4_4 => (intro wq hSw; (try dsimp only at hSw); go_simp; try (with_reducible rfl))
  try simp only [Act.put, List.setIfInBounds_toArray, List.set_cons_zero, List.set_cons_succ]
  refine wpAnyH_take (i := 5) (v := ?v4_5) (by simp only [List.getElem?_toArray, List.getElem?_cons_zero, List.getElem?_cons_succ]; rfl) (by kernel_rfl) (by kernel_rfl) (by kernel_rfl) (by exact fun _ _ _ h => h) (Or.inl ⟨by rfl, ?hy4_5⟩) HS0.out ?_
  case hy4_5 => (intro wq hSw; (try dsimp only at hSw); go_simp; try (with_reducible rfl))
  try simp only [Act.put, List.setIfInBounds_toArray, List.set_cons_zero, List.set_cons_succ]
  refine wpAnyH_take (i := 6) (v := ?v4_6) (by simp only [List.getElem?_toArray, List.getElem?_cons_zero, List.getElem?_cons_succ]; rfl) (by kernel_rfl) (by kernel_rfl) (by kernel_rfl) (by exact fun _ _ _ h => h) (Or.inl ⟨by rfl, ?hy4_6⟩) HS0.out ?_
  case hy4_6 => (intro wq hSw; (try dsimp only at hSw); go_simp; try (with_reducible rfl))
  try simp only [Act.put, List.setIfInBounds_toArray, List.set_cons_zero, List.set_cons_succ]
  refine wpAnyH_ready (rs := [7]) (by kernel_rfl) (by simp) ?_
  refine AllReadyH.cons (by simp only [List.getElem?_toArray, List.getElem?_cons_zero, List.getElem?_cons_succ]; rfl) (fun K hK => ?_) AllReadyH.nil
  refine Vx.step_callx rfl 22 #[Operand.tmp 35] #[3] rfl #[.int .i64 (A : Int)] (by first | rfl | simp [Act.eval, go_sem]) (by simp [go_sem]) (HDA.out _) ?_
  rintro e wa ⟨rfl, hb4⟩
  have HIwa := Vx.hid (HI0.out.quiet (Only.of_below hb4 (fun k hk h9 => by omega)))
  clear hb4
  have HSwa := Vx.hid (HCE.out _ HIwa.out)
  refine ⟨_, rfl, ?_⟩
  refine hK.out _ _ HSwa.out (fun _ => ?_)
  clear hK K
  try simp only [Act.put, List.setIfInBounds_toArray, List.set_cons_zero, List.set_cons_succ]
  refine wpAnyH_take (i := 8) (v := ?v4_8) (by simp only [List.getElem?_toArray, List.getElem?_cons_zero, List.getElem?_cons_succ]; rfl) (by kernel_rfl) (by kernel_rfl) (by kernel_rfl) (by exact fun _ _ _ h => h) (Or.inl ⟨by rfl, ?hy4_8⟩) HSwa.out ?_
  case hy4_8 => (intro wq hSw; (try dsimp only at hSw); go_simp; try (with_reducible rfl))
  try simp only [Act.put, List.setIfInBounds_toArray, List.set_cons_zero, List.set_cons_succ]
  refine wpAnyH_take (i := 9) (v := ?v4_9) (by simp only [List.getElem?_toArray, List.getElem?_cons_zero, List.getElem?_cons_succ]; rfl) (by kernel_rfl) (by kernel_rfl) (by kernel_rfl) (by exact fun _ _ _ h => h) (Or.inl ⟨by rfl, ?hy4_9⟩) HSwa.out ?_
  case hy4_9 => (intro wq hSw; (try dsimp only at hSw); go_simp; try (with_reducible rfl))
  try simp only [Act.put, List.setIfInBounds_toArray, List.set_cons_zero, List.set_cons_succ]
  refine wpAnyH_take (i := 10) (v := ?v4_10) (by simp only [List.getElem?_toArray, List.getElem?_cons_zero, List.getElem?_cons_succ]; rfl) (by kernel_rfl) (by kernel_rfl) (by kernel_rfl) (by exact fun _ _ _ h => h) (Or.inl ⟨by rfl, ?hy4_10⟩) HSwa.out ?_
  case hy4_10 => (intro wq hSw; (try dsimp only at hSw); go_simp; try (with_reducible rfl))
  try simp only [Act.put, List.setIfInBounds_toArray, List.set_cons_zero, List.set_cons_succ]
  refine wpAnyH_take (i := 11) (v := ?v4_11) (by simp only [List.getElem?_toArray, List.getElem?_cons_zero, List.getElem?_cons_succ]; rfl) (by kernel_rfl) (by kernel_rfl) (by kernel_rfl) (by exact fun _ _ _ h => h) (Or.inl ⟨by rfl, ?hy4_11⟩) HSwa.out ?_
  case hy4_11 => (intro wq hSw; (try dsimp only at hSw); go_simp; try (with_reducible rfl))
  try simp only [Act.put, List.setIfInBounds_toArray, List.set_cons_zero, List.set_cons_succ]
  refine wpAnyH_take (i := 12) (v := undef) (by simp only [List.getElem?_toArray, List.getElem?_cons_zero, List.getElem?_cons_succ]; rfl) (by kernel_rfl) (by kernel_rfl) (by kernel_rfl) (by exact fun _ _ _ h => h) (Or.inr ⟨by rfl, rfl⟩) HSwa.out ?_
  refine wpAnyH_done (by kernel_rfl) ?_ _
  simp only [Vx.upTo]
  have d0 := HSwa.out
  have f0 := froz HIwa.out.h.row 0
  go_upto_region 26 with fail
  have e : (⟨T.t.toArray⟩ : ByteArray) ++ ⟨#[98, 105, 110, 100, 32, 105, 32, 99, 32]⟩ ++ ⟨dA.toArray⟩ ++ ⟨#[32, 35, 32, 97, 32, 110, 111, 116, 101]⟩ = ⟨(T.t ++ ([98, 105, 110, 100, 32, 105, 32, 99, 32] ++ (dA ++ [32, 35, 32, 97, 32, 110, 111, 116, 101]))).toArray⟩ := by
    simp only [catB, List.append_assoc, List.cons_append, List.nil_append]
  rw [e]
  have HZ := Vx.hid (HIwa.out.text (T.t ++ ([98, 105, 110, 100, 32, 105, 32, 99, 32] ++ (dA ++ [32, 35, 32, 97, 32, 110, 111, 116, 101]))))
  obtain ⟨tz, htz⟩ : ∃ tz, tz = T.t ++ ([98, 105, 110, 100, 32, 105, 32, 99, 32] ++ (dA ++ [32, 35, 32, 97, 32, 110, 111, 116, 101])) := ⟨_, rfl⟩
  have hlz : tz.length ≤ 1000000 := by rw [htz]; simp; omega
  have HEZ : Hid (tF = tz ++ [10]) := by show _ = _; rw [HFT.out, htz]; simp
  rw [← htz] at HZ ⊢
  obtain ⟨wz, hwz⟩ : ∃ wz, wz = wa.setCell ⟨xb, 0, none⟩ (.string ⟨tz.toArray⟩) := ⟨_, rfl⟩
  rw [← hwz] at HZ ⊢
  clear hwz htz e d0 f0
  have z0 : wz.cell? ⟨xb, 0, none⟩ = some (.string ⟨tz.toArray⟩) := (cell_of_row _ _ 0 _ _ (0, 0) HZ.out.h.row).trans rfl
  have z1 := froz HZ.out.h.row 0
  go_wp2_with fail
  first | go_end0 | refine bodyPost_ret (results_none rfl _ _ _) rfl ?_
  have e : (⟨tz.toArray⟩ : ByteArray) ++ ⟨#[10]⟩ = ⟨(tz ++ [10]).toArray⟩ := catB _ _
  exact ⟨rfl, _, _, _, _, _, _, _, _, by rw [HEZ.out, e]; exact (HZ.out.text (tz ++ [10])).h⟩
end Go.Proofs.YtgacifbpjdakaaaGreatDoor

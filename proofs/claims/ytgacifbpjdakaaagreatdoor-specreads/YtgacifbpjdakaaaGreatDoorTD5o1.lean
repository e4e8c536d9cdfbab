/- SpecReads' law: line, object (gen_td5.py). -/
import Derived.Test.YtgacifbpjdakaaaGreatDoorTD5
namespace Go.Proofs.YtgacifbpjdakaaaGreatDoor
open Go.ChangeShapes Go.WideShapes Go.ChangeAt Go.RowKit
open Go.Vx
set_option linter.unusedVariables false
set_option linter.unusedSimpArgs false

variable {W w w2 : World} {xb ob : Nat} {vt vo vc vm vh vi vn va : Value} {T : Tx} {o : Tl}
set_option maxRecDepth 100000 in
set_option maxHeartbeats 2000000 in
theorem line_object1 (h : TxAt W w xb vt vo vc vm vh vi vn va T) (o : Tl) (i : TlI o) (hk : pickL o.k 7 = 1) (hB : Bnd T) : Calls Tryz.prog 8 #[.pointer (some ⟨xb, 0, none⟩), .agg #[.int .i64 o.k, .int .i64 o.a, .int .i64 o.b, .int .i64 o.c]] w fun e w' => e = .returned (.tuple #[]) ∧ Hid (∃ vt' vo' vc' vm' vh' vi' vn' va', TxAt W w' xb vt' vo' vc' vm' vh' vi' vn' va' (tellF T o)) := by
  have HTF : Hid (tellF T o = { putO T (obN o) (pickL o.b 256) (pickL o.c 100) with t := T.t ++ (lineO (obN o) (pickL o.b 256) (pickL o.c 100) T.nm.length ++ [10]) }) := by
    show _ = _
    unfold tellF putF' lineF
    rw [hk]
    rfl
  rw [HTF.out]
  clear HTF
  obtain ⟨w1, hw1⟩ : ∃ w1, w1 = w.alloc (.cells #[.int .i64 o.k, .int .i64 o.a, .int .i64 o.b, .int .i64 o.c] 61) := ⟨_, rfl⟩
  obtain ⟨ob, hob⟩ : ∃ ob, ob = w.heap.size := ⟨_, rfl⟩
  have ho1 : Only (fun _ => False) w w1 := by rw [hw1]; exact (Only.refl _ w).alloc _
  have HT1 : Hid (TeAt w1 ob o) := by unfold TeAt; show _ = _; rw [hw1, hob]; exact heap_alloc_last w _
  have HH1 : Hid (LnI W w1 xb vt vo vc vm vh vi vn va T ob o) := ⟨h.quiet ho1, HT1.out⟩
  have HPA := Vx.hid (fun wv => pick_lit 4294967296 (by omega) (by omega) 4294967296 (by omega) o.a i.a.1 i.a.2 wv)
  have HPK := Vx.hid (fun wv => pick_lit 7 (by omega) (by omega) 7 (by omega) o.k i.k.1 i.k.2 wv)
  rw [hk] at HPK
  have HLA := Vx.hid (pick_lt o.a 4294967296 (by decide))
  have hpa : p32 o.a = pickL o.a 4294967296 := rfl
  clear h ho1 HT1 hk
  have HPJ := Vx.hid (fun wv => pick_lit 10 (by omega) (by omega) 10 (by omega) o.a i.a.1 i.a.2 wv)
  have HLK := Vx.hid (pick_lt o.a 10 (by decide))
  have HPP := Vx.hid (fun wv => pick_lit 256 (by omega) (by omega) 256 (by omega) o.b i.b.1 i.b.2 wv)
  have HLP := Vx.hid (pick_lt o.b 256 (by decide))
  have HPS := Vx.hid (fun wv => pick_lit 100 (by omega) (by omega) 100 (by omega) o.c i.c.1 i.c.2 wv)
  have HLS := Vx.hid (pick_lt o.c 100 (by decide))
  have hob2 : obN o = 1 + pickL o.a 10 := rfl
  rw [hob2]
  clear hob2 hpa
  obtain ⟨K, hKe⟩ : ∃ K, K = pickL o.a 10 := ⟨_, rfl⟩
  rw [← hKe] at HPJ HLK ⊢
  clear hKe
  obtain ⟨P, hPe⟩ : ∃ P, P = pickL o.b 256 := ⟨_, rfl⟩
  rw [← hPe] at HPP HLP ⊢
  clear hPe
  obtain ⟨S, hSe⟩ : ∃ S, S = pickL o.c 100 := ⟨_, rfl⟩
  rw [← hSe] at HPS HLS ⊢
  clear hSe
  obtain ⟨tz, htz⟩ : ∃ tz, tz = T.t ++ lineO (1 + K) P S T.nm.length := ⟨_, rfl⟩
  rw [← List.append_assoc, ← htz]
  have HLZ : Hid (tz.length ≤ 1000000) := by
    show _ ≤ _
    have h1 := hB.t
    have h2 := word_len (1 + K)
    have h3 := dec_len T.nm.length (by have := hB.nm; omega)
    have h4 := dec_len (numO (1 + K) P S % 256) (by omega)
    have h5 := tail_len (1 + K) S HLS.out
    rw [htz]
    unfold lineO nmF
    simp
    omega
  have HOJ : Hid (∀ wv, TxAt W wv xb vt vo vc vm vh vi vn va T → Calls Tryz.prog 20 #[.pointer (some ⟨xb, 0, none⟩), .int .i64 (1 + (K : Int)), .int .i64 (P : Int), .int .i64 (S : Int)] wv fun e w' => e = .returned (.tuple #[]) ∧ Hid (∃ vt' vo' vc' vm' vh' vi' vn' va', TxAt W w' xb vt' vo' vc' vm' vh' vi' vn' va' { putO T (1 + K) P S with t := tz })) := fun wv hv => by
    have h9 := object_any hv (1 + K) P S (by omega) (by have := HLK.out; omega) HLP.out HLS.out hB.nm (by rw [hB.ar]; exact hB.nm) hB.ob (by have := hB.t; omega)
    rw [show ((1 + K : Nat) : Int) = 1 + (K : Int) by omega] at h9
    refine h9.mono ?_
    rintro e w' ⟨h8, h7⟩
    obtain ⟨a, b, c, h6⟩ := h7.out
    exact ⟨h8, _, _, _, _, _, _, _, _, by rw [htz]; exact h6⟩
  have hwk : IntKind.i64.wrap (1 + (K : Int)) = 1 + (K : Int) := by have := HLK.out; rw [IntKind.wrap_i64]; omega
  have hlk := HLK.out
  clear hB i htz
  go_enter Tryz.func8, Tryz.ntmps8
  go_upto_region 1 with fail
  rw [← hw1, ← hob]
  clear hw1 hob
  have k0 : w1.cell? ⟨ob, 0, none⟩ = some (.int .i64 o.k) := (cell_of_row _ _ 0 _ _ (0, 0) HH1.out.te).trans rfl
  have k1 : w1.cell? ⟨ob, 1, none⟩ = some (.int .i64 o.a) := (cell_of_row _ _ 1 _ _ (0, 0) HH1.out.te).trans rfl
  go_upto_region 2 with (go_at_call 19; refine (HPA.out _).mono ?_; rintro e w9 ⟨rfl, hw9⟩; have hw8 := hw9.symm; clear hw9; subst hw8)
  go_upto_region 7 with (go_at_call 19; refine (HPK.out _).mono ?_; rintro e w9 ⟨rfl, hw9⟩; have hw8 := hw9.symm; clear hw9; subst hw8)
  clear k0 k1
  have HX0 := Vx.hid (HH1.out.quiet ((Only.refl _ w1).drew))
  have HS0 : Hid (w1.drew.cell? ⟨ob, 1, none⟩ = some (.int .i64 o.a) ∧ w1.drew.cell? ⟨ob, 2, none⟩ = some (.int .i64 o.b) ∧ w1.drew.cell? ⟨ob, 3, none⟩ = some (.int .i64 o.c)) := ⟨(cell_of_row _ _ 1 _ _ (0, 0) HX0.out.te).trans rfl, (cell_of_row _ _ 2 _ _ (0, 0) HX0.out.te).trans rfl, (cell_of_row _ _ 3 _ _ (0, 0) HX0.out.te).trans rfl⟩
  refine Vx.wp_region_last (S := (fun wv => wv.cell? ⟨ob, 1, none⟩ = some (.int .i64 o.a) ∧ wv.cell? ⟨ob, 2, none⟩ = some (.int .i64 o.b) ∧ wv.cell? ⟨ob, 3, none⟩ = some (.int .i64 o.c))) 11 (by kernel_rfl) (by simp only [List.getElem?_toArray, List.getElem?_cons_zero, List.getElem?_cons_succ]; rfl) (by kernel_rfl) ?_
  simp only [Vx.offA, Vx.offO, List.setIfInBounds_toArray, List.set_cons_zero, List.set_cons_succ, List.size_toArray, List.length_cons, List.length_nil, Nat.zero_add, Nat.reduceAdd]
  refine wpAnyH_take (i := 0) (v := ?v7_0) (by simp only [List.getElem?_toArray, List.getElem?_cons_zero, List.getElem?_cons_succ]; rfl) (by kernel_rfl) (by kernel_rfl) (by kernel_rfl) (by exact fun _ _ _ h => h) (Or.inl ⟨by rfl, ?hy7_0⟩) HS0.out ?_
  case hy7_0 => (intro wq hSw; (try dsimp only at hSw); go_simp; try (with_reducible rfl))
  try simp only [Act.put, List.setIfInBounds_toArray, List.set_cons_zero, List.set_cons_succ]
  refine wpAnyH_take (i := 1) (v := ?v7_1) (by simp only [List.getElem?_toArray, List.getElem?_cons_zero, List.getElem?_cons_succ]; rfl) (by kernel_rfl) (by kernel_rfl) (by kernel_rfl) (by exact fun _ _ _ h => h) (Or.inl ⟨by rfl, ?hy7_1⟩) HS0.out ?_
  case hy7_1 => (intro wq hSw; (try dsimp only at hSw); go_simp; try (with_reducible rfl))
  try simp only [Act.put, List.setIfInBounds_toArray, List.set_cons_zero, List.set_cons_succ]
  refine wpAnyH_take (i := 2) (v := ?v7_2) (by simp only [List.getElem?_toArray, List.getElem?_cons_zero, List.getElem?_cons_succ]; rfl) (by kernel_rfl) (by kernel_rfl) (by kernel_rfl) (by exact fun _ _ _ h => h) (Or.inl ⟨by rfl, ?hy7_2⟩) HS0.out ?_
  case hy7_2 => (intro wq hSw; (try dsimp only at hSw); go_simp; try (with_reducible rfl))
  try simp only [Act.put, List.setIfInBounds_toArray, List.set_cons_zero, List.set_cons_succ]
  refine wpAnyH_take (i := 5) (v := ?v7_5) (by simp only [List.getElem?_toArray, List.getElem?_cons_zero, List.getElem?_cons_succ]; rfl) (by kernel_rfl) (by kernel_rfl) (by kernel_rfl) (by exact fun _ _ _ h => h) (Or.inl ⟨by rfl, ?hy7_5⟩) HS0.out ?_
  case hy7_5 => (intro wq hSw; (try dsimp only at hSw); go_simp; try (with_reducible rfl))
  try simp only [Act.put, List.setIfInBounds_toArray, List.set_cons_zero, List.set_cons_succ]
  refine wpAnyH_take (i := 6) (v := ?v7_6) (by simp only [List.getElem?_toArray, List.getElem?_cons_zero, List.getElem?_cons_succ]; rfl) (by kernel_rfl) (by kernel_rfl) (by kernel_rfl) (by exact fun _ _ _ h => h) (Or.inl ⟨by rfl, ?hy7_6⟩) HS0.out ?_
  case hy7_6 => (intro wq hSw; (try dsimp only at hSw); go_simp; try (with_reducible rfl))
  try simp only [Act.put, List.setIfInBounds_toArray, List.set_cons_zero, List.set_cons_succ]
  refine wpAnyH_take (i := 8) (v := ?v7_8) (by simp only [List.getElem?_toArray, List.getElem?_cons_zero, List.getElem?_cons_succ]; rfl) (by kernel_rfl) (by kernel_rfl) (by kernel_rfl) (by exact fun _ _ _ h => h) (Or.inl ⟨by rfl, ?hy7_8⟩) HS0.out ?_
  case hy7_8 => (intro wq hSw; (try dsimp only at hSw); go_simp; try (with_reducible rfl))
  try simp only [Act.put, List.setIfInBounds_toArray, List.set_cons_zero, List.set_cons_succ]
  refine wpAnyH_take (i := 9) (v := ?v7_9) (by simp only [List.getElem?_toArray, List.getElem?_cons_zero, List.getElem?_cons_succ]; rfl) (by kernel_rfl) (by kernel_rfl) (by kernel_rfl) (by exact fun _ _ _ h => h) (Or.inl ⟨by rfl, ?hy7_9⟩) HS0.out ?_
  case hy7_9 => (intro wq hSw; (try dsimp only at hSw); go_simp; try (with_reducible rfl))
  try simp only [Act.put, List.setIfInBounds_toArray, List.set_cons_zero, List.set_cons_succ]
  refine wpAnyH_ready (rs := [3]) (by kernel_rfl) (by simp) ?_
  refine AllReadyH.cons (by simp only [List.getElem?_toArray, List.getElem?_cons_zero, List.getElem?_cons_succ]; rfl) (fun K hK => ?_) AllReadyH.nil
  refine Vx.step_callx rfl 19 #[Operand.tmp 46, Operand.const (Value.int IntKind.i64 10)] #[3, 3] rfl #[.int .i64 o.a, .int .i64 10] (by first | rfl | simp [Act.eval, go_sem]) (by simp [go_sem]) (HPJ.out _) ?_
  rintro e w9 ⟨rfl, hw9⟩
  have hw8 := hw9.symm
  clear hw9
  subst hw8
  refine ⟨_, rfl, ?_⟩
  refine hK.out _ _ HS0.out (fun _ => ?_)
  clear hK K
  try simp only [Act.put, List.setIfInBounds_toArray, List.set_cons_zero, List.set_cons_succ]
  refine wpAnyH_take (i := 4) (v := ?v7_4) (by simp only [List.getElem?_toArray, List.getElem?_cons_zero, List.getElem?_cons_succ]; rfl) (by kernel_rfl) (by kernel_rfl) (by kernel_rfl) (by exact fun _ _ _ h => h) (Or.inl ⟨by rfl, ?hy7_4⟩) HS0.out ?_
  case hy7_4 => (intro wq hSw; (try dsimp only at hSw); go_simp; try (with_reducible rfl))
  try simp only [Act.put, List.setIfInBounds_toArray, List.set_cons_zero, List.set_cons_succ]
  refine wpAnyH_ready (rs := [7]) (by kernel_rfl) (by simp) ?_
  refine AllReadyH.cons (by simp only [List.getElem?_toArray, List.getElem?_cons_zero, List.getElem?_cons_succ]; rfl) (fun K hK => ?_) AllReadyH.nil
  refine Vx.step_callx rfl 19 #[Operand.tmp 50, Operand.const (Value.int IntKind.i64 256)] #[3, 3] rfl #[.int .i64 o.b, .int .i64 256] (by first | rfl | simp [Act.eval, go_sem]) (by simp [go_sem]) (HPP.out _) ?_
  rintro e w9 ⟨rfl, hw9⟩
  have hw8 := hw9.symm
  clear hw9
  subst hw8
  refine ⟨_, rfl, ?_⟩
  refine hK.out _ _ HS0.out (fun _ => ?_)
  clear hK K
  try simp only [Act.put, List.setIfInBounds_toArray, List.set_cons_zero, List.set_cons_succ]
  refine wpAnyH_ready (rs := [10]) (by kernel_rfl) (by simp) ?_
  refine AllReadyH.cons (by simp only [List.getElem?_toArray, List.getElem?_cons_zero, List.getElem?_cons_succ]; rfl) (fun K hK => ?_) AllReadyH.nil
  refine Vx.step_callx rfl 19 #[Operand.tmp 53, Operand.const (Value.int IntKind.i64 100)] #[3, 3] rfl #[.int .i64 o.c, .int .i64 100] (by first | rfl | simp [Act.eval, go_sem]) (by simp [go_sem]) (HPS.out _) ?_
  rintro e w9 ⟨rfl, hw9⟩
  have hw8 := hw9.symm
  clear hw9
  subst hw8
  refine ⟨_, rfl, ?_⟩
  refine hK.out _ _ HS0.out (fun _ => ?_)
  clear hK K
  try simp only [Act.put, List.setIfInBounds_toArray, List.set_cons_zero, List.set_cons_succ]
  refine wpAnyH_take (i := 11) (v := undef) (by simp only [List.getElem?_toArray, List.getElem?_cons_zero, List.getElem?_cons_succ]; rfl) (by kernel_rfl) (by kernel_rfl) (by kernel_rfl) (by exact fun _ _ _ h => h) (Or.inr ⟨by rfl, rfl⟩) HS0.out ?_
  refine wpAnyH_done (by kernel_rfl) ?_ _
  simp only [Vx.upTo]
  clear HS0
  go_wp2_with fail
  refine (HOJ.out _ HX0.out.h).mono ?_
  rintro e w5 ⟨rfl, HE5⟩
  have hlz := HLZ.out
  obtain ⟨vt5, vo5, vc5, vm5, vh5, vi5, vn5, va5, HZ⟩ := HE5.out
  have HZ := Vx.hid HZ
  have z0 : w5.cell? ⟨xb, 0, none⟩ = some (.string ⟨tz.toArray⟩) := (cell_of_row _ _ 0 _ _ (0, 0) HZ.out.row).trans rfl
  have z1 := froz HZ.out.row 0
  go_wp2_with fail
  first | go_end0 | refine bodyPost_ret (results_none rfl _ _ _) rfl ?_
  have e : (⟨tz.toArray⟩ : ByteArray) ++ ⟨#[10]⟩ = ⟨(tz ++ [10]).toArray⟩ := catB _ _
  exact ⟨rfl, _, _, _, _, _, _, _, _, by rw [e]; exact HZ.out.text (tz ++ [10])⟩
end Go.Proofs.YtgacifbpjdakaaaGreatDoor

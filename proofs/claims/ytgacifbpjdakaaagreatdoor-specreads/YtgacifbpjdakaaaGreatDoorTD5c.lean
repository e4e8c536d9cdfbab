/- SpecReads' law: line, cap (gen_td5.py). -/
import Derived.Test.YtgacifbpjdakaaaGreatDoorTD5
namespace Go.Proofs.YtgacifbpjdakaaaGreatDoor
open Go.ChangeShapes Go.WideShapes Go.ChangeAt Go.RowKit
open Go.Vx
set_option linter.unusedVariables false
set_option linter.unusedSimpArgs false

variable {W w w2 : World} {xb ob : Nat} {vt vo vc vm vh vi vn va : Value} {T : Tx} {o : Tl}
set_option maxRecDepth 100000 in
set_option maxHeartbeats 2000000 in
theorem line_cap (h : TxAt W w xb vt vo vc vm vh vi vn va T) (o : Tl) (i : TlI o) (hk : pickL o.k 7 = 2) (hB : Bnd T) : Calls Tryz.prog 8 #[.pointer (some ⟨xb, 0, none⟩), .agg #[.int .i64 o.k, .int .i64 o.a, .int .i64 o.b, .int .i64 o.c]] w fun e w' => e = .returned (.tuple #[]) ∧ Hid (∃ vt' vo' vc' vm' vh' vi' vn' va', TxAt W w' xb vt' vo' vc' vm' vh' vi' vn' va' (tellF T o)) := by
  have HTF : Hid (tellF T o = { T with cp := T.cp ++ [capT T o], t := T.t ++ (capL T o ++ [10]) }) := by
    show _ = _
    unfold tellF putF' lineF
    rw [hk]
    rfl
  rw [HTF.out]
  clear HTF
  obtain ⟨w1, hw1⟩ : ∃ w1, w1 = w.alloc (.cells #[.int .i64 o.k, .int .i64 o.a, .int .i64 o.b, .int .i64 o.c] 61) := ⟨_, rfl⟩
  obtain ⟨ob, hob⟩ : ∃ ob, ob = w.heap.size := ⟨_, rfl⟩
  have ho1 : Only (fun _ => False) w w1 := by rw [hw1]; exact (Only.refl _ w).alloc _
  have HT1 : Hid (TeAt w1 ob o) := by unfold TeAt; show _ = _; rw [hw1, hob]; exact heap_alloc_last w _
  have HH1 : Hid (LnI W w1 xb vt vo vc vm vh vi vn va T ob o) := ⟨h.quiet ho1, HT1.out⟩
  have HPA := Vx.hid (fun wv => pick_lit 4294967296 (by omega) (by omega) 4294967296 (by omega) o.a i.a.1 i.a.2 wv)
  have HPK := Vx.hid (fun wv => pick_lit 7 (by omega) (by omega) 7 (by omega) o.k i.k.1 i.k.2 wv)
  rw [hk] at HPK
  have HLA := Vx.hid (pick_lt o.a 4294967296 (by decide))
  have hpa : p32 o.a = pickL o.a 4294967296 := rfl
  clear h ho1 HT1 hk
  obtain ⟨tz, htz⟩ : ∃ tz, tz = T.t ++ capL T o := ⟨_, rfl⟩
  rw [← List.append_assoc, ← htz]
  have HLZ : Hid (tz.length ≤ 1000000) := by
    show _ ≤ _
    have h1 := hB.t
    have h2 := dec_len (p32 o.b) (by have := pick_lt o.b 4294967296 (by decide); unfold p32; omega)
    have h3 := dec_len (p32 o.c) (by have := pick_lt o.c 4294967296 (by decide); unfold p32; omega)
    have h4 := dec_len (pickL o.a 40) (by have := pick_lt o.a 40 (by decide); omega)
    have h5 := let_len (pickL o.c 8)
    have h6 : (T.nm.getD (capI T o) []).length ≤ 40 := by
      have hci : capI T o < T.nm.length := pick_lt o.a T.nm.length hB.nm0
      rw [List.getD_eq_getElem?_getD, List.getElem?_eq_getElem hci]
      exact hB.sh _ (List.getElem_mem _)
    have f1 : (frmL o).length ≤ 9 := by unfold frmL; split <;> simp
    have f2 : (bdgL o).length ≤ 30 := by unfold bdgL; split <;> simp <;> omega
    have f3 : (grdL o).length ≤ 35 := by unfold grdL; split <;> simp <;> omega
    rw [htz]
    unfold capL
    simp only [List.length_append, List.length_cons, List.length_nil]
    omega
  have HOJ : Hid (∀ wv, TxAt W wv xb vt vo vc vm vh vi vn va T → Calls Tryz.prog 21 #[.pointer (some ⟨xb, 0, none⟩), .agg #[.int .i64 o.k, .int .i64 o.a, .int .i64 o.b, .int .i64 o.c]] wv fun e w' => e = .returned (.tuple #[]) ∧ Hid (∃ vt' vo' vc' vm' vh' vi' vn' va', TxAt W w' xb vt' vo' vc' vm' vh' vi' vn' va' { T with cp := T.cp ++ [capT T o], t := tz })) := fun wv hv => by
    refine (cap_any hv o i hB.nm0 hB.nm hB.ar hB.cp (by have := hB.t; omega) hB.sh).mono ?_
    rintro e w' ⟨h8, h7⟩
    obtain ⟨a, h6⟩ := h7.out
    exact ⟨h8, _, _, _, _, _, _, _, _, by rw [htz]; exact h6⟩
  clear hB i htz hpa
  go_enter Tryz.func8, Tryz.ntmps8
  go_upto_region 1 with fail
  rw [← hw1, ← hob]
  clear hw1 hob
  have k0 : w1.cell? ⟨ob, 0, none⟩ = some (.int .i64 o.k) := (cell_of_row _ _ 0 _ _ (0, 0) HH1.out.te).trans rfl
  have k1 : w1.cell? ⟨ob, 1, none⟩ = some (.int .i64 o.a) := (cell_of_row _ _ 1 _ _ (0, 0) HH1.out.te).trans rfl
  go_upto_region 2 with (go_at_call 19; refine (HPA.out _).mono ?_; rintro e w9 ⟨rfl, hw9⟩; have hw8 := hw9.symm; clear hw9; subst hw8)
  go_upto_region 9 with (go_at_call 19; refine (HPK.out _).mono ?_; rintro e w9 ⟨rfl, hw9⟩; have hw8 := hw9.symm; clear hw9; subst hw8)
  clear k0 k1
  have k0 : w1.cell? ⟨ob, 0, none⟩ = some (.int .i64 o.k) := (cell_of_row _ _ 0 _ _ (0, 0) HH1.out.te).trans rfl
  have k1 : w1.cell? ⟨ob, 1, none⟩ = some (.int .i64 o.a) := (cell_of_row _ _ 1 _ _ (0, 0) HH1.out.te).trans rfl
  have k2 : w1.cell? ⟨ob, 2, none⟩ = some (.int .i64 o.b) := (cell_of_row _ _ 2 _ _ (0, 0) HH1.out.te).trans rfl
  have k3 : w1.cell? ⟨ob, 3, none⟩ = some (.int .i64 o.c) := (cell_of_row _ _ 3 _ _ (0, 0) HH1.out.te).trans rfl
  go_wp2_with fail
  refine (HOJ.out _ HH1.out.h).mono ?_
  rintro e w5 ⟨rfl, HE5⟩
  clear k0 k1 k2 k3
  have hlz := HLZ.out
  obtain ⟨vt5, vo5, vc5, vm5, vh5, vi5, vn5, va5, HZ⟩ := HE5.out
  have HZ := Vx.hid HZ
  have z0 : w5.cell? ⟨xb, 0, none⟩ = some (.string ⟨tz.toArray⟩) := (cell_of_row _ _ 0 _ _ (0, 0) HZ.out.row).trans rfl
  have z1 := froz HZ.out.row 0
  go_wp2_with fail
  first | go_end0 | refine bodyPost_ret (results_none rfl _ _ _) rfl ?_
  have e : (⟨tz.toArray⟩ : ByteArray) ++ ⟨#[10]⟩ = ⟨(tz ++ [10]).toArray⟩ := catB _ _
  exact ⟨rfl, _, _, _, _, _, _, _, _, by rw [e]; exact HZ.out.text (tz ++ [10])⟩
end Go.Proofs.YtgacifbpjdakaaaGreatDoor

/- Package spec's reader: box, untyped, what is a page, what gets a name alone (gen_sr9.py). -/
import Derived.Test.YtgacifbpjdakaaaGreatDoorSR9
namespace Go.Proofs.YtgacifbpjdakaaaGreatDoor
open Go.ChangeShapes Go.WideShapes Go.ChangeAt Go.RowKit
open Go.Vx
set_option linter.unusedVariables false
set_option linter.unusedSimpArgs false
variable {W w w2 : World} {rb : Nat} {V : Rv} {vw : Value} {ws : List (List UInt8)} {T : Tx} {x : List UInt8}

set_option maxHeartbeats 1000000 in
theorem box_ok (p s : Nat) (hp : p < 256) (hs : s < 4294967296) (h : RdAt W w rb V vw [x, Lib.decDigits p, Lib.decDigits s] T) (hx : NmOk x) (hno : x ∉ T.nm) (hn : T.nm.length ≤ 1000) (hob : T.ob.length ≤ 1000) :
    Calls Tryz.prog 32 #[.pointer (some ⟨rb, 0, none⟩)] w fun e w' => e = .returned (.tuple #[]) ∧ Hid (RdX W rb V [] { T with nm := T.nm ++ [x], ar := T.ar ++ [(5, (p : Int))], ob := T.ob ++ [⟨5, (p : Int), (s : Int)⟩] } w') := by
  have HX0 := Vx.hid h
  have HA : Hid (∀ wv vwv, RdAt W wv rb V vwv [x, Lib.decDigits p, Lib.decDigits s] T → Calls Tryz.prog 66 #[.pointer (some ⟨rb, 0, none⟩)] wv fun e w' => e = .returned (.string ⟨x.toArray⟩) ∧ Hid (RdP W wv rb V [Lib.decDigits p, Lib.decDigits s] T w')) := fun wv vwv hv => newName_ok hv hx hno (by simp)
  have HB : Hid (∀ wv vwv, RdAt W wv rb V vwv [Lib.decDigits p, Lib.decDigits s] T → Calls Tryz.prog 67 #[.pointer (some ⟨rb, 0, none⟩)] wv fun e w' => e = .returned (.int .i64 (p : Int)) ∧ Hid (RdP W wv rb V [Lib.decDigits s] T w')) := fun wv vwv hv => page_ok p hp hv (by simp)
  have HC : Hid (∀ wv vwv, RdAt W wv rb V vwv [Lib.decDigits s] T → Calls Tryz.prog 63 #[.pointer (some ⟨rb, 0, none⟩)] wv fun e w' => e = .returned (.int .i64 (s : Int)) ∧ Hid (RdP W wv rb V [] T w')) := fun wv vwv hv => number_ok s hs hv (by simp)
  have HAD : Hid (∀ wv vwv, RdAt W wv rb V vwv [] T → Calls Tryz.prog 68 #[.pointer (some ⟨rb, 0, none⟩), .string ⟨x.toArray⟩, .agg #[.int .i64 5, .int .i64 (p : Int)], .int .i64 (s : Int)] wv fun e w' => e = .returned (.tuple #[]) ∧ Hid (RdX W rb V [] { T with nm := T.nm ++ [x], ar := T.ar ++ [(5, (p : Int))], ob := T.ob ++ [⟨5, (p : Int), (s : Int)⟩] } w')) := fun wv vwv hv => add_ok hv (by have := hx.2.1; omega) hno hn hob _ _ _
  clear h hp hs hx hno hn hob
  go_enter Tryz.func32, Tryz.ntmps32
  go_wp2_with fail
  refine (HA.out _ _ HX0.out).mono ?_
  rintro e w1 ⟨rfl, H1⟩
  clear HA
  obtain ⟨hz1, vw1, h1⟩ := H1.out
  have HX1 := Vx.hid h1
  clear h1 H1 hz1
  go_wp2_with fail
  refine (HB.out _ _ HX1.out).mono ?_
  rintro e w2 ⟨rfl, H2⟩
  clear HB
  obtain ⟨hz2, vw2, h2⟩ := H2.out
  have HX2 := Vx.hid h2
  clear h2 H2 hz2
  go_wp2_with fail
  refine (HC.out _ _ HX2.out).mono ?_
  rintro e w3 ⟨rfl, H3⟩
  clear HC
  obtain ⟨hz3, vw3, h3⟩ := H3.out
  have HX3 := Vx.hid h3
  clear h3 H3 hz3
  go_wp2_with fail
  refine (HAD.out _ _ HX3.out).mono ?_
  rintro e w9 ⟨rfl, H9⟩
  go_wp2_with fail
  first | go_end0 | refine bodyPost_ret (results_none rfl _ _ _) rfl ?_
  exact ⟨rfl, H9.out⟩
set_option maxHeartbeats 1000000 in
theorem untyped_ok (p s : Nat) (hp : p < 256) (hs : s ≤ 8) (h : RdAt W w rb V vw [x, Lib.decDigits p, Lib.decDigits s] T) (hx : NmOk x) (hno : x ∉ T.nm) (hn : T.nm.length ≤ 1000) (hob : T.ob.length ≤ 1000) :
    Calls Tryz.prog 33 #[.pointer (some ⟨rb, 0, none⟩)] w fun e w' => e = .returned (.tuple #[]) ∧ Hid (RdX W rb V [] { T with nm := T.nm ++ [x], ar := T.ar ++ [(1, ((p : Int) + 256 * (s : Int)))], ob := T.ob ++ [⟨1, ((p : Int) + 256 * (s : Int)), 0⟩] } w') := by
  have HX0 := Vx.hid h
  have HA : Hid (∀ wv vwv, RdAt W wv rb V vwv [x, Lib.decDigits p, Lib.decDigits s] T → Calls Tryz.prog 66 #[.pointer (some ⟨rb, 0, none⟩)] wv fun e w' => e = .returned (.string ⟨x.toArray⟩) ∧ Hid (RdP W wv rb V [Lib.decDigits p, Lib.decDigits s] T w')) := fun wv vwv hv => newName_ok hv hx hno (by simp)
  have HB : Hid (∀ wv vwv, RdAt W wv rb V vwv [Lib.decDigits p, Lib.decDigits s] T → Calls Tryz.prog 67 #[.pointer (some ⟨rb, 0, none⟩)] wv fun e w' => e = .returned (.int .i64 (p : Int)) ∧ Hid (RdP W wv rb V [Lib.decDigits s] T w')) := fun wv vwv hv => page_ok p hp hv (by simp)
  have HC : Hid (∀ wv vwv, RdAt W wv rb V vwv [Lib.decDigits s] T → Calls Tryz.prog 64 #[.pointer (some ⟨rb, 0, none⟩), .int .i64 8] wv fun e w' => e = .returned (.int .i64 (s : Int)) ∧ Hid (RdP W wv rb V [] T w')) := fun wv vwv hv => upTo_ok s 8 (by omega) (by omega) hv (by simp)
  have HAD : Hid (∀ wv vwv, RdAt W wv rb V vwv [] T → Calls Tryz.prog 68 #[.pointer (some ⟨rb, 0, none⟩), .string ⟨x.toArray⟩, .agg #[.int .i64 1, .int .i64 ((p : Int) + 256 * (s : Int))], .int .i64 0] wv fun e w' => e = .returned (.tuple #[]) ∧ Hid (RdX W rb V [] { T with nm := T.nm ++ [x], ar := T.ar ++ [(1, ((p : Int) + 256 * (s : Int)))], ob := T.ob ++ [⟨1, ((p : Int) + 256 * (s : Int)), 0⟩] } w')) := fun wv vwv hv => add_ok hv (by have := hx.2.1; omega) hno hn hob _ _ _
  have hw1 : IntKind.i64.wrap (256 * (s : Int)) = 256 * (s : Int) := by rw [IntKind.wrap_i64]; omega
  have hw2 : IntKind.i64.wrap ((p : Int) + 256 * (s : Int)) = (p : Int) + 256 * (s : Int) := by rw [IntKind.wrap_i64]; omega
  clear h hp hs hx hno hn hob
  go_enter Tryz.func33, Tryz.ntmps33
  go_wp2_with fail
  refine (HA.out _ _ HX0.out).mono ?_
  rintro e w1 ⟨rfl, H1⟩
  clear HA
  obtain ⟨hz1, vw1, h1⟩ := H1.out
  have HX1 := Vx.hid h1
  clear h1 H1 hz1
  go_wp2_with fail
  refine (HB.out _ _ HX1.out).mono ?_
  rintro e w2 ⟨rfl, H2⟩
  clear HB
  obtain ⟨hz2, vw2, h2⟩ := H2.out
  have HX2 := Vx.hid h2
  clear h2 H2 hz2
  go_wp2_with fail
  refine (HC.out _ _ HX2.out).mono ?_
  rintro e w3 ⟨rfl, H3⟩
  clear HC
  obtain ⟨hz3, vw3, h3⟩ := H3.out
  have HX3 := Vx.hid h3
  clear h3 H3 hz3
  go_wp2_with fail
  refine (HAD.out _ _ HX3.out).mono ?_
  rintro e w9 ⟨rfl, H9⟩
  go_wp2_with fail
  first | go_end0 | refine bodyPost_ret (results_none rfl _ _ _) rfl ?_
  exact ⟨rfl, H9.out⟩
set_option maxHeartbeats 1000000 in
theorem onePage_ok (k : Int) (kb : Nat) (hk : KbAt w kb k) (p : Nat) (hp : p < 256) (h : RdAt W w rb V vw [x, Lib.decDigits p] T) (hx : NmOk x) (hno : x ∉ T.nm) (hn : T.nm.length ≤ 1000) (hob : T.ob.length ≤ 1000) :
    Calls Tryz.prog 65 #[.pointer (some ⟨rb, 0, none⟩), .pointer (some ⟨kb, 0, none⟩)] w fun e w' => e = .returned (.tuple #[]) ∧ Hid (RdX W rb V [] { T with nm := T.nm ++ [x], ar := T.ar ++ [(k, (p : Int))], ob := T.ob ++ [⟨k, (p : Int), 0⟩] } w') := by
  have HX0 := Vx.hid h
  have HK : Hid (w.heap[kb]? = some (.cells #[.int .i64 k] 3 (0, 0)) ∧ kb ≠ rb) := ⟨hk, tag_ne hk h.row (by decide)⟩
  have HA : Hid (∀ wv vwv, RdAt W wv rb V vwv [x, Lib.decDigits p] T → Calls Tryz.prog 66 #[.pointer (some ⟨rb, 0, none⟩)] wv fun e w' => e = .returned (.string ⟨x.toArray⟩) ∧ Hid (RdP W wv rb V [Lib.decDigits p] T w')) := fun wv vwv hv => newName_ok hv hx hno (by simp)
  have HB : Hid (∀ wv vwv, RdAt W wv rb V vwv [Lib.decDigits p] T → Calls Tryz.prog 67 #[.pointer (some ⟨rb, 0, none⟩)] wv fun e w' => e = .returned (.int .i64 (p : Int)) ∧ Hid (RdP W wv rb V [] T w')) := fun wv vwv hv => page_ok p hp hv (by simp)
  have HAD : Hid (∀ wv vwv, RdAt W wv rb V vwv [] T → Calls Tryz.prog 68 #[.pointer (some ⟨rb, 0, none⟩), .string ⟨x.toArray⟩, .agg #[.int .i64 k, .int .i64 (p : Int)], .int .i64 0] wv fun e w' => e = .returned (.tuple #[]) ∧ Hid (RdX W rb V [] { T with nm := T.nm ++ [x], ar := T.ar ++ [(k, (p : Int))], ob := T.ob ++ [⟨k, (p : Int), 0⟩] } w')) := fun wv vwv hv => add_ok hv (by have := hx.2.1; omega) hno hn hob _ _ _
  clear h hp hx hno hn hob hk
  go_enter Tryz.func65, Tryz.ntmps65
  go_wp2_with fail
  refine (HA.out _ _ HX0.out).mono ?_
  rintro e w1 ⟨rfl, H1⟩
  clear HA
  obtain ⟨hz1, vw1, h1⟩ := H1.out
  have HX1 := Vx.hid h1
  have HK1 : Hid (w1.heap[kb]? = some (.cells #[.int .i64 k] 3 (0, 0))) := keepB hz1 HK.out.1 HK.out.2
  clear h1 H1 hz1
  go_wp2_with fail
  refine (HB.out _ _ HX1.out).mono ?_
  rintro e w2 ⟨rfl, H2⟩
  clear HB
  obtain ⟨hz2, vw2, h2⟩ := H2.out
  have HX2 := Vx.hid h2
  have k2 : w2.cell? ⟨kb, 0, none⟩ = some (.int .i64 k) := (cell_of_row _ _ 0 _ _ (0, 0) (keepB hz2 HK1.out HK.out.2)).trans rfl
  clear h2 H2 hz2
  go_wp2_with fail
  refine (HAD.out _ _ HX2.out).mono ?_
  rintro e w9 ⟨rfl, H9⟩
  go_wp2_with fail
  first | go_end0 | refine bodyPost_ret (results_none rfl _ _ _) rfl ?_
  exact ⟨rfl, H9.out⟩
set_option maxRecDepth 100000 in
set_option maxHeartbeats 2000000 in
theorem nameAlone_ok (k : Int) (cb kb : Nat) (hc : KbAt w cb 8) (hk : KbAt w kb k) (p : Nat) (hp : p < 8) (h : RdAt W w rb V vw [x, Lib.decDigits p] T) (hx : NmOk x) (hno : x ∉ T.nm) (hn : T.nm.length ≤ 1000) :
    Calls Tryz.prog 69 #[.pointer (some ⟨rb, 0, none⟩), .pointer (some ⟨cb, 0, none⟩), .pointer (some ⟨kb, 0, none⟩)] w fun e w' => e = .returned (.tuple #[]) ∧ Hid (RdX W rb V [] { T with nm := T.nm ++ [x], ar := T.ar ++ [(k, (p : Int))] } w') := by
  have HX0 := Vx.hid h
  have HK : Hid (w.heap[kb]? = some (.cells #[.int .i64 k] 3 (0, 0)) ∧ kb ≠ rb) := ⟨hk, tag_ne hk h.row (by decide)⟩
  have HC0 : Hid (w.heap[cb]? = some (.cells #[.int .i64 8] 3 (0, 0)) ∧ cb ≠ rb) := ⟨hc, tag_ne hc h.row (by decide)⟩
  have HA : Hid (∀ wv vwv, RdAt W wv rb V vwv [x, Lib.decDigits p] T → Calls Tryz.prog 66 #[.pointer (some ⟨rb, 0, none⟩)] wv fun e w' => e = .returned (.string ⟨x.toArray⟩) ∧ Hid (RdP W wv rb V [Lib.decDigits p] T w')) := fun wv vwv hv => newName_ok hv hx hno (by simp)
  have HB : Hid (∀ wv vwv, RdAt W wv rb V vwv [Lib.decDigits p] T → Calls Tryz.prog 64 #[.pointer (some ⟨rb, 0, none⟩), .int .i64 7] wv fun e w' => e = .returned (.int .i64 (p : Int)) ∧ Hid (RdP W wv rb V [] T w')) := fun wv vwv hv => upTo_ok p 7 (by omega) (by omega) hv (by simp)
  have HPU : Hid (∀ wv vwv, RdAt W wv rb V vwv [] T → ∃ w3 D3, (Instr.mapUpdate 32 (.map (some V.mb)) (.string ⟨x.toArray⟩) (.agg #[.int .i64 k, .int .i64 (p : Int)])).run Tryz.prog wv = .ok () w3 ∧ RdAt W w3 rb { V with D := D3 } vwv [] { T with nm := T.nm ++ [x], ar := T.ar ++ [(k, (p : Int))] }) := fun wv vwv hv => by
    obtain ⟨w3, D3, hup, hN3, hO3⟩ := hv.nm.put (by omega) x (by have := hx.2.1; omega) hno (k, (p : Int))
    exact ⟨w3, D3, hup, hv.names hN3 hO3⟩
  clear h hp hx hno hn hk hc
  go_enter Tryz.func69, Tryz.ntmps69
  go_wp2_with fail
  refine (HA.out _ _ HX0.out).mono ?_
  rintro e w1 ⟨rfl, H1⟩
  clear HA
  obtain ⟨hz1, vw1, h1⟩ := H1.out
  have HX1 := Vx.hid h1
  have HK1 : Hid (w1.heap[kb]? = some (.cells #[.int .i64 k] 3 (0, 0))) := keepB hz1 HK.out.1 HK.out.2
  have c1 : w1.cell? ⟨cb, 0, none⟩ = some (.int .i64 8) := (cell_of_row _ _ 0 _ _ (0, 0) (keepB hz1 HC0.out.1 HC0.out.2)).trans rfl
  clear h1 H1 hz1
  go_wp2_with fail
  refine (HB.out _ _ HX1.out).mono ?_
  rintro e w2 ⟨rfl, H2⟩
  clear HB
  obtain ⟨hz2, vw2, h2⟩ := H2.out
  have HX2 := Vx.hid h2
  have HK2 : Hid (w2.heap[kb]? = some (.cells #[.int .i64 k] 3 (0, 0))) := keepB hz2 HK1.out HK.out.2
  clear c1
  clear h2 H2 hz2
  have HX5 := Vx.hid (HX2.out.quiet ((Only.refl _ w2).drew))
  have HS0 : Hid (w2.drew.cell? ⟨rb, 15, none⟩ = some (.map (some V.mb)) ∧ w2.drew.cell? ⟨kb, 0, none⟩ = some (.int .i64 k)) := ⟨(cell_of_row _ _ 15 _ _ (0, 0) HX5.out.row).trans rfl, (cell_of_row _ _ 0 _ _ (0, 0) HK2.out).trans rfl⟩
  obtain ⟨w3, D3, hup, hx3⟩ := HPU.out _ _ HX5.out
  have HX3 := Vx.hid hx3
  clear hx3 HPU HX5
  go_upto_region 2 with fail
  refine Vx.wp_region_last (S := (fun wv => wv.cell? ⟨rb, 15, none⟩ = some (.map (some V.mb)) ∧ wv.cell? ⟨kb, 0, none⟩ = some (.int .i64 k))) 9 (by kernel_rfl) (by simp only [List.getElem?_toArray, List.getElem?_cons_zero, List.getElem?_cons_succ]; rfl) (by kernel_rfl) ?_
  simp only [Vx.offA, Vx.offO, List.setIfInBounds_toArray, List.set_cons_zero, List.set_cons_succ, List.size_toArray, List.length_cons, List.length_nil, Nat.zero_add, Nat.reduceAdd]
  refine wpAnyH_take (i := 0) (v := ?v2_0) (by simp only [List.getElem?_toArray, List.getElem?_cons_zero, List.getElem?_cons_succ]; rfl) (by kernel_rfl) (by kernel_rfl) (by kernel_rfl) (by exact fun _ _ _ h => h) (Or.inl ⟨by rfl, ?hy2_0⟩) HS0.out ?_
  case hy2_0 => (intro wq hSw; (try dsimp only at hSw); go_simp; try (with_reducible rfl))
  try simp only [Act.put, List.setIfInBounds_toArray, List.set_cons_zero, List.set_cons_succ]
  refine wpAnyH_take (i := 1) (v := ?v2_1) (by simp only [List.getElem?_toArray, List.getElem?_cons_zero, List.getElem?_cons_succ]; rfl) (by kernel_rfl) (by kernel_rfl) (by kernel_rfl) (by exact fun _ _ _ h => h) (Or.inl ⟨by rfl, ?hy2_1⟩) HS0.out ?_
  case hy2_1 => (intro wq hSw; (try dsimp only at hSw); go_simp; try (with_reducible rfl))
  try simp only [Act.put, List.setIfInBounds_toArray, List.set_cons_zero, List.set_cons_succ]
  refine wpAnyH_take (i := 2) (v := ?v2_2) (by simp only [List.getElem?_toArray, List.getElem?_cons_zero, List.getElem?_cons_succ]; rfl) (by kernel_rfl) (by kernel_rfl) (by kernel_rfl) (by exact fun _ _ _ h => h) (Or.inl ⟨by rfl, ?hy2_2⟩) HS0.out ?_
  case hy2_2 => (intro wq hSw; (try dsimp only at hSw); go_simp; try (with_reducible rfl))
  try simp only [Act.put, List.setIfInBounds_toArray, List.set_cons_zero, List.set_cons_succ]
  refine wpAnyH_take (i := 3) (v := ?v2_3) (by simp only [List.getElem?_toArray, List.getElem?_cons_zero, List.getElem?_cons_succ]; rfl) (by kernel_rfl) (by kernel_rfl) (by kernel_rfl) (by exact fun _ _ _ h => h) (Or.inl ⟨by rfl, ?hy2_3⟩) HS0.out ?_
  case hy2_3 => (intro wq hSw; (try dsimp only at hSw); go_simp; try (with_reducible rfl))
  try simp only [Act.put, List.setIfInBounds_toArray, List.set_cons_zero, List.set_cons_succ]
  refine wpAnyH_take (i := 4) (v := ?v2_4) (by simp only [List.getElem?_toArray, List.getElem?_cons_zero, List.getElem?_cons_succ]; rfl) (by kernel_rfl) (by kernel_rfl) (by kernel_rfl) (by exact fun _ _ _ h => h) (Or.inl ⟨by rfl, ?hy2_4⟩) HS0.out ?_
  case hy2_4 => (intro wq hSw; (try dsimp only at hSw); go_simp; try (with_reducible rfl))
  try simp only [Act.put, List.setIfInBounds_toArray, List.set_cons_zero, List.set_cons_succ]
  refine wpAnyH_take (i := 5) (v := ?v2_5) (by simp only [List.getElem?_toArray, List.getElem?_cons_zero, List.getElem?_cons_succ]; rfl) (by kernel_rfl) (by kernel_rfl) (by kernel_rfl) (by exact fun _ _ _ h => h) (Or.inl ⟨by rfl, ?hy2_5⟩) HS0.out ?_
  case hy2_5 => (intro wq hSw; (try dsimp only at hSw); go_simp; try (with_reducible rfl))
  try simp only [Act.put, List.setIfInBounds_toArray, List.set_cons_zero, List.set_cons_succ]
  refine wpAnyH_take (i := 6) (v := ?v2_6) (by simp only [List.getElem?_toArray, List.getElem?_cons_zero, List.getElem?_cons_succ]; rfl) (by kernel_rfl) (by kernel_rfl) (by kernel_rfl) (by exact fun _ _ _ h => h) (Or.inl ⟨by rfl, ?hy2_6⟩) HS0.out ?_
  case hy2_6 => (intro wq hSw; (try dsimp only at hSw); go_simp; try (with_reducible rfl))
  try simp only [Act.put, List.setIfInBounds_toArray, List.set_cons_zero, List.set_cons_succ]
  refine wpAnyH_take (i := 7) (v := ?v2_7) (by simp only [List.getElem?_toArray, List.getElem?_cons_zero, List.getElem?_cons_succ]; rfl) (by kernel_rfl) (by kernel_rfl) (by kernel_rfl) (by exact fun _ _ _ h => h) (Or.inl ⟨by rfl, ?hy2_7⟩) HS0.out ?_
  case hy2_7 => (intro wq hSw; (try dsimp only at hSw); go_simp; try (with_reducible rfl))
  try simp only [Act.put, List.setIfInBounds_toArray, List.set_cons_zero, List.set_cons_succ]
  refine wpAnyH_take (i := 8) (v := ?v2_8) (by simp only [List.getElem?_toArray, List.getElem?_cons_zero, List.getElem?_cons_succ]; rfl) (by kernel_rfl) (by kernel_rfl) (by kernel_rfl) (by exact fun _ _ _ h => h) (Or.inl ⟨by rfl, ?hy2_8⟩) HS0.out ?_
  case hy2_8 => (intro wq hSw; (try dsimp only at hSw); go_simp; try (with_reducible rfl))
  try simp only [Act.put, List.setIfInBounds_toArray, List.set_cons_zero, List.set_cons_succ]
  refine wpAnyH_take (i := 9) (v := undef) (by simp only [List.getElem?_toArray, List.getElem?_cons_zero, List.getElem?_cons_succ]; rfl) (by kernel_rfl) (by kernel_rfl) (by kernel_rfl) (by exact fun _ _ _ h => h) (Or.inr ⟨by rfl, rfl⟩) HS0.out ?_
  refine wpAnyH_done (by kernel_rfl) ?_ _
  simp only [Vx.upTo]
  go_wp2_with fail
  first | go_end0 | refine bodyPost_ret (results_none rfl _ _ _) rfl ?_
  exact ⟨rfl, _, _, HX3.out, rfl, rfl, rfl, rfl⟩
end Go.Proofs.YtgacifbpjdakaaaGreatDoor

import Derived.Shelf.SlSortCmp.NoneTotal
import Derived.Shelf.SlGeneric
import Derived.Ground.SlsfProg
import Derived.Test.YtbbabpgmclhinaaProg
import Derived.Test.YtbbabpgmclhinaaCs41
/-
  DERIVED: THE SHELF's CONTRACTS AT THIS DUMP, IN PLAIN WORDS (tools/lay-plain.mjs out of 'TryShelf.lean', which tools/lay-shelf.mjs wrote): THE SAME DECLARATIONS UNDER THE SAME NAMES: 'import', 'namespace', 'open', 'def', 'theorem' AND NOTHING ELSE: no command of the shelf's: FOR A HAND-IN. Each laying: the table of numbers ('.._ren') and one theorem, a field a fact of the dump's own or the kernel's comparison; each contract: ONE APPLICATION.
-/
namespace Go.Proofs
open Go.Shelf
def Try.sortOb_ren : Go.Shelf.Ren := ⟨fun | 6 => 45 | 15 => 59 | 14 => 58 | 28 => 71 | 29 => 72 | 20 => 63 | 21 => 64 | 22 => 65 | 23 => 66 | 24 => 67 | 25 => 68 | 26 => 69 | 27 => 70 | 46 => 74 | 47 => 75 | 48 => 76 | 49 => 77 | 50 => 78 | 57 => 79 | n => n, fun | 22 => 55 | 24 => 33 | 25 => 98 | 3 => 3 | 39 => 118 | 0 => 0 | 53 => 92 | 55 => 129 | 4 => 4 | 46 => 122 | 45 => 121 | 50 => 95 | 5 => 5 | 9 => 9 | 66 => 131 | 70 => 135 | 76 => 137 | 77 => 61 | n => n, fun | n => n⟩
theorem Try.sortOb : Go.Proofs.SlLaysF0.n6 Try.prog Try.sortOb_ren := {
  mixed := by kernel_rfl
  f6 := ⟨Try.f45.name, by decide, Try.func45.trans (congrArg some (by kernel_rfl))⟩
  f14 := ⟨Try.f58.name, by decide, Try.func58.trans (congrArg some (by kernel_rfl))⟩
  f15 := Try.func59.trans (congrArg some (by kernel_rfl))
  f20 := ⟨Try.f63.name, by decide, Try.func63.trans (congrArg some (by kernel_rfl))⟩
  f21 := ⟨Try.f64.name, by decide, Try.func64.trans (congrArg some (by kernel_rfl))⟩
  f22 := ⟨Try.f65.name, by decide, Try.func65.trans (congrArg some (by kernel_rfl))⟩
  f23 := ⟨Try.f66.name, by decide, Try.func66.trans (congrArg some (by kernel_rfl))⟩
  f24 := ⟨Try.f67.name, by decide, Try.func67.trans (congrArg some (by kernel_rfl))⟩
  f25 := ⟨Try.f68.name, by decide, Try.func68.trans (congrArg some (by kernel_rfl))⟩
  f26 := ⟨Try.f69.name, by decide, Try.func69.trans (congrArg some (by kernel_rfl))⟩
  f27 := ⟨Try.f70.name, by decide, Try.func70.trans (congrArg some (by kernel_rfl))⟩
  f28 := Try.func71.trans (congrArg some (by kernel_rfl))
  f29 := Try.func72.trans (congrArg some (by kernel_rfl))
  f46 := ⟨Try.f74.name, by decide, Try.func74.trans (congrArg some (by kernel_rfl))⟩
  f47 := Try.func75.trans (congrArg some (by kernel_rfl))
  f48 := Try.func76.trans (congrArg some (by kernel_rfl))
  f49 := ⟨Try.f77.name, by decide, Try.func77.trans (congrArg some (by kernel_rfl))⟩
  f50 := ⟨Try.f78.name, by decide, Try.func78.trans (congrArg some (by kernel_rfl))⟩
  f57 := ⟨Try.f79.name, by decide, Try.func79.trans (congrArg some (by kernel_rfl))⟩
  t0 := Try.underlying0
  a0 := Try.isAgg0
  z0 := Try.sizeOf0
  v0 := Try.zeroValue0
  t3 := Try.underlying3
  a3 := Try.isAgg3
  z3 := Try.sizeOf3
  v3 := Try.zeroValue3
  t4 := Try.underlying4
  a4 := Try.isAgg4
  z4 := Try.sizeOf4
  v4 := Try.zeroValue4
  t5 := Try.underlying5
  a5 := Try.isAgg5
  z5 := Try.sizeOf5
  v5 := Try.zeroValue5
  t9 := Try.underlying9
  a9 := Try.isAgg9
  z9 := Try.sizeOf9
  v9 := Try.zeroValue9
  t22 := Try.underlying55
  a22 := Try.isAgg55
  z22 := Try.sizeOf55
  v22 := Try.zeroValue55
  t25 := Try.underlying98
  a25 := Try.isAgg98
  z25 := Try.sizeOf98
  v25 := Try.zeroValue98
  t39 := Try.underlying118
  a39 := Try.isAgg118
  z39 := Try.sizeOf118
  v39 := Try.zeroValue118
  t45 := Try.underlying121
  a45 := Try.isAgg121
  z45 := Try.sizeOf121
  v45 := Try.zeroValue121
  t46 := Try.underlying122
  a46 := Try.isAgg122
  z46 := Try.sizeOf122
  v46 := Try.zeroValue122
  t50 := Try.underlying95
  a50 := Try.isAgg95
  z50 := Try.sizeOf95
  v50 := Try.zeroValue95
  t53 := Try.underlying92
  a53 := Try.isAgg92
  z53 := Try.sizeOf92
  v53 := Try.zeroValue92
  t55 := Try.underlying129
  a55 := Try.isAgg129
  z55 := Try.sizeOf129
  v55 := Try.zeroValue129
  t66 := Try.underlying131
  a66 := Try.isAgg131
  z66 := Try.sizeOf131
  v66 := Try.zeroValue131
  t70 := Try.underlying135
  a70 := Try.isAgg135
  z70 := Try.sizeOf135
  v70 := Try.zeroValue135
  t76 := Try.underlying137
  a76 := Try.isAgg137
  z76 := Try.sizeOf137
  v76 := Try.zeroValue137
  t77 := Try.underlying61
  a77 := Try.isAgg61
  z77 := Try.sizeOf61
  v77 := Try.zeroValue61 }
end Go.Proofs

/- Chapter 8, the program's pool: objects compared. -/
namespace Go.Vx
theorem grow_of {W w' : World} {q : Nat} (h : Only (fun _ => False) W w') (hd : w'.drawn = W.drawn + q) : ∃ os', w' = Go.Sort.grow (W.drewN q) os' := by
  refine ⟨w'.heap.extract W.heap.size w'.heap.size, ?_⟩
  have hh : w'.heap = W.heap ++ w'.heap.extract W.heap.size w'.heap.size := by
    apply Array.ext_getElem?
    intro k
    by_cases hk : k < W.heap.size
    · rw [h.block k hk (fun h => h), Array.getElem?_append_left hk]
    · rw [Array.getElem?_append_right (by omega)]
      by_cases hk2 : k < w'.heap.size
      · rw [Array.getElem?_extract, if_pos (by omega)]
        congr 1
        omega
      · rw [Array.getElem?_eq_none (by omega), Array.getElem?_eq_none (by rw [Array.size_extract]; omega)]
  have h1 := h.os
  have h2 := h.tape
  have h3 := h.output
  obtain ⟨hp, tp, dr, o, ou⟩ := w'
  simp only at hh h1 h2 h3 hd
  unfold Go.Sort.grow World.drewN
  rw [← hh, h1, h2, h3, hd]
end Go.Vx
namespace Go.Proofs.Ytbbabpgmclhinaa
open Go.ChangeShapes Go.WideShapes Go.ChangeAt Go.RowKit
open Go.Vx
set_option linter.unusedVariables false
variable {U V S : Nat → Prop} {w w2 w3 wr wx : World} {xb pb mb gb r N cnt cnt2 B L c : Nat} {P a n : Int} {D D2 : DataW Value} {os rs os2 rs2 : List (Int × Int)} {ls : List Int}

def cI (a b : Int) : Int := if a < b then -1 else if b < a then 1 else 0
theorem nan_ok (a : Int) (w : World) : Calls Try.prog 60 #[.int .i64 a] w fun e w' => e = .returned (.bool false) ∧ w' = w := by
  go_enter Try.func60, Try.ntmps60
  go_wp2_with fail
  all_goals
    go_ret
    exact ⟨by first | rfl | simp, rfl⟩
theorem pcmp_ok (a b : Int) (w : World) : Calls Try.prog 48 #[.int .i64 a, .int .i64 b] w fun e w' => e = .returned (.int .i64 (cI a b)) ∧ w' = w := by
  have HA := Vx.hid (fun wv => nan_ok a wv)
  have HB := Vx.hid (fun wv => nan_ok b wv)
  by_cases h1 : a < b
  · have HE : Hid (cI a b = -1) := if_pos h1
    rw [HE.out]
    clear HE
    go_enter Try.func48, Try.ntmps48
    go_wp2_with fail
    refine (HA.out _).mono ?_
    rintro e w' ⟨rfl, h⟩
    have h3 := h.symm; clear h; subst h3
    go_wp2_with fail
    refine (HB.out _).mono ?_
    rintro e w' ⟨rfl, h⟩
    have h3 := h.symm; clear h; subst h3
    go_wp2_with fail
    all_goals
      go_ret
      exact ⟨rfl, rfl⟩
  · by_cases h2 : b < a
    · have HE : Hid (cI a b = 1) := by show _ = _; unfold cI; rw [if_neg h1, if_pos h2]
      rw [HE.out]
      clear HE
      go_enter Try.func48, Try.ntmps48
      go_wp2_with fail
      refine (HA.out _).mono ?_
      rintro e w' ⟨rfl, h⟩
      have h3 := h.symm; clear h; subst h3
      go_wp2_with fail
      refine (HB.out _).mono ?_
      rintro e w' ⟨rfl, h⟩
      have h3 := h.symm; clear h; subst h3
      go_wp2_with fail
      all_goals
        go_ret
        exact ⟨rfl, rfl⟩
    · have HE : Hid (cI a b = 0) := by show _ = _; unfold cI; rw [if_neg h1, if_neg h2]
      rw [HE.out]
      clear HE
      go_enter Try.func48, Try.ntmps48
      go_wp2_with fail
      refine (HA.out _).mono ?_
      rintro e w' ⟨rfl, h⟩
      have h3 := h.symm; clear h; subst h3
      go_wp2_with fail
      refine (HB.out _).mono ?_
      rintro e w' ⟨rfl, h⟩
      have h3 := h.symm; clear h; subst h3
      go_wp2_with fail
      all_goals
        go_ret
        exact ⟨rfl, rfl⟩
def orI (a b : Int) : Int := if a = 0 then b else a
theorem por_ok (L : Nat) (a b : Int) (w : World) (h0 : w.cell? ⟨L, 0, none⟩ = some (.int .i64 a)) (h1 : w.cell? ⟨L, 1, none⟩ = some (.int .i64 b)) : Calls Try.prog 47 #[.slice (some ⟨L, 0, none⟩) 2 2] w fun e w' => e = .returned (.int .i64 (orI a b)) ∧ w' = w := by
  go_enter Try.func47, Try.ntmps47
  go_wp2_with fail
  go_loopw [5, 8] (fun _ d wr => ∃ k : Nat, d = .int .i64 (k : Int) ∧ k ≤ 2 ∧ Hid ((1 ≤ k → a = 0) ∧ (2 ≤ k → b = 0)) ∧ wr = w) (fun _ d _ => 2 - (RowKit.intOf d).toNat)
  case atStart => exact ⟨0, rfl, by omega, ⟨fun h => by omega, fun h => by omega⟩, rfl⟩
  case round =>
    obtain ⟨k, rfl, hk, HK, rfl⟩ := hrel
    rcases (by omega : k = 0 ∨ k = 1 ∨ k = 2) with rfl | rfl | rfl
    · by_cases ha : a = 0
      · subst ha
        go_wp2_with fail
        go_roundw
        case rel => exact ⟨1, by go_num, by omega, ⟨fun _ => by first | rfl | trivial, fun h => by omega⟩, by first | rfl | trivial⟩
        case measure => simp only [RowKit.intOf]; omega
      · have HE : Hid (orI a b = a) := if_neg ha
        have e1 : (a == 0) = false := beq_eq_false_iff_ne.2 ha
        go_wp2_with fail
        all_goals
          go_ret
          exact ⟨by rw [HE.out]; try rfl, rfl⟩
    · have HE : Hid (orI a b = b) := if_pos (HK.out.1 (by omega))
      by_cases hb : b = 0
      · subst hb
        have HA := Vx.hid (HK.out.1 (by omega))
        go_wp2_with fail
        go_roundw
        case rel => exact ⟨2, by go_num, by omega, ⟨fun _ => HA.out, fun _ => by first | rfl | trivial⟩, by first | rfl | trivial⟩
        case measure => simp only [RowKit.intOf]; omega
      · have e1 : (b == 0) = false := beq_eq_false_iff_ne.2 hb
        go_wp2_with fail
        all_goals
          go_ret
          exact ⟨by rw [HE.out]; try rfl, rfl⟩
    · have HE : Hid (orI a b = 0) := by show _ = _; rw [HK.out.2 (by omega)]; exact if_pos (HK.out.1 (by omega))
      go_wp2_with fail
      all_goals
        go_ret
        exact ⟨by rw [HE.out]; try rfl, rfl⟩
def cmO (x y : Int × Int) : Int := orI (cI x.1 y.1) (cI x.2 y.2)
set_option maxRecDepth 100000 in
set_option maxHeartbeats 2000000 in
theorem pclos_ok (x y : Int × Int) (W : World) : Calls Try.prog 46 #[.agg #[.int .i64 x.1, .int .i64 x.2], .agg #[.int .i64 y.1, .int .i64 y.2]] W fun e w' => e = .returned (.int .i64 (cmO x y)) ∧ ∃ q os', w' = Go.Sort.grow (W.drewN q) os' := by
  obtain ⟨x1, x2⟩ := x
  obtain ⟨y1, y2⟩ := y
  dsimp only
  have HC := Vx.hid (fun a b wv => pcmp_ok a b wv)
  have HQ : Hid (cmO (x1, x2) (y1, y2) = orI (cI x1 y1) (cI x2 y2)) := rfl
  rw [HQ.out]
  clear HQ
  obtain ⟨w2, hw2, ho2, hc2⟩ := laid_two W (.int .i64 x1) (.int .i64 x2) (.int .i64 y1) (.int .i64 y2) 33 33
  have hd2 : w2.drawn = W.drawn := by rw [hw2]; rfl
  have HO2 := Vx.hid (⟨ho2, hd2⟩ : _ ∧ _)
  obtain ⟨A, hA⟩ : ∃ A, A = W.heap.size := ⟨_, rfl⟩
  obtain ⟨B, hB⟩ : ∃ B, B = W.heap.size + 1 := ⟨_, rfl⟩
  rw [← hA] at hc2
  have hB2 : A + 1 = B := by omega
  rw [hB2] at hc2
  have HCE : Hid (∀ wv, Only (fun _ => False) w2 wv → wv.cell? ⟨A, 0, none⟩ = some (.int .i64 x1) ∧ wv.cell? ⟨A, 1, none⟩ = some (.int .i64 x2) ∧ wv.cell? ⟨B, 0, none⟩ = some (.int .i64 y1) ∧ wv.cell? ⟨B, 1, none⟩ = some (.int .i64 y2)) := fun wv h => ⟨(hc2 wv h).1.1, (hc2 wv h).1.2, (hc2 wv h).2.1, (hc2 wv h).2.2⟩
  have HOR : Hid (∀ (wv : World) (L : Nat), wv.cell? ⟨L, 0, none⟩ = some (.int .i64 (cI x1 y1)) → wv.cell? ⟨L, 1, none⟩ = some (.int .i64 (cI x2 y2)) → Calls Try.prog 47 #[.slice (some ⟨L, 0, none⟩) 2 2] wv fun e w' => e = .returned (.int .i64 (orI (cI x1 y1) (cI x2 y2))) ∧ w' = wv) := fun wv L h0 h1 => por_ok L (cI x1 y1) (cI x2 y2) wv h0 h1
  generalize orI (cI x1 y1) (cI x2 y2) = oc at HOR ⊢
  clear ho2 hd2 hc2 hB2
  have HS0 := Vx.hid (HCE.out _ ((Only.refl _ w2).drew))
  have HS1 := Vx.hid (HCE.out ((w2.alloc (.cells #[.int .i64 (cI x1 y1), .int .i64 (cI x2 y2)] 3)).drew) (((Only.refl _ w2).alloc _).drew))
  have HN := two_cells (w := w2.alloc (.cells #[.int .i64 (cI x1 y1), .int .i64 (cI x2 y2)] 3)) (heap_alloc_last w2 _)
  have HOR2 := Vx.hid (HOR.out ((w2.alloc (.cells #[.int .i64 (cI x1 y1), .int .i64 (cI x2 y2)] 3)).drew) w2.heap.size HN.1.1 HN.1.2)
  clear HN HOR
  go_enter Try.func46, Try.ntmps46
  go_upto_region 1 with fail
  rw [← hw2, ← hB, ← hA]
  clear hw2 hA hB
  go_region_held3 (fun wv => wv.cell? ⟨A, 0, none⟩ = some (.int .i64 x1) ∧ wv.cell? ⟨A, 1, none⟩ = some (.int .i64 x2) ∧ wv.cell? ⟨B, 0, none⟩ = some (.int .i64 y1) ∧ wv.cell? ⟨B, 1, none⟩ = some (.int .i64 y2)) (first | with_reducible exact HS0.out | with_reducible exact HS1.out) (first | (go_at_call 48; refine (HC.out _ _ _).mono ?_; rintro e w' ⟨rfl, h⟩; have h2 := h.symm; clear h; subst h2) | (go_at_call 47; refine HOR2.out.mono ?_; rintro e w' ⟨rfl, h⟩; have h2 := h.symm; clear h; subst h2))
  go_wp2_with fail
  all_goals
    go_ret
    exact ⟨rfl, 1, grow_of ((HO2.out.1.alloc _).drew) (by show w2.drawn + 1 = _; rw [HO2.out.2])⟩
end Go.Proofs.Ytbbabpgmclhinaa

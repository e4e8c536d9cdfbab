import Derived.Test.YtbbabpgmclhinaaCs32
import Derived.Carry
/- Chapter 8, the program's pool: Mark, At; what stands behind the calls that read. -/
namespace Go.Proofs.Ytbbabpgmclhinaa
open Go.ChangeShapes Go.WideShapes Go.ChangeAt Go.RowKit
open Go.Vx
set_option linter.unusedVariables false
variable {U V S : Nat → Prop} {w w2 wr wx : World} {xb pb mb gb r N cnt cnt2 : Nat} {P : Int} {D : DataW Value} {os rs : List (Int × Int)} {left left2 : Lit → Bool}

theorem pmark_ok (h : XqAt U w xb mb gb D N os rs) (n : Int) (hn : I64 n) : Calls Try.prog 13 #[.pointer (some ⟨xb, 0, none⟩), .int .i64 n] w fun e w' => e = .returned (.tuple #[.int .i64 (markR rs n).1, .int .i64 (markR rs n).2]) ∧ Only (fun _ => False) w w' := by
  have hlk := h.look n hn
  have c0 := h.c0
  cases hi : rgF rs n with
  | none =>
    have HM : markR rs n = (0, 6) := by unfold markR; rw [hi]
    rw [HM, hi] at hlk
    rw [HM]
    have hl2 : (Instr.lookup 65 (.map (some mb)) (.int .i64 n) true).run Try.prog w = .ok (.tuple #[.int .i64 0, .bool false]) w := hlk
    clear h hlk hi HM hn
    go_enter Try.func13, Try.ntmps13
    go_wp2_with fail
    all_goals
      go_ret2
      exact ⟨rfl, Only.refl _ _⟩
  | some i =>
    have HM : markR rs n = ((rs.getD i (0, 0)).2, 0) := by unfold markR; rw [hi]
    rw [HM, hi] at hlk
    rw [HM]
    dsimp only at hlk ⊢
    generalize (rs.getD i (0, 0)).2 = mk at hlk ⊢
    have hl2 : (Instr.lookup 65 (.map (some mb)) (.int .i64 n) true).run Try.prog w = .ok (.tuple #[.int .i64 mk, .bool true]) w := hlk
    clear h hlk hi HM hn
    go_enter Try.func13, Try.ntmps13
    go_wp2_with fail
    all_goals
      go_ret2
      exact ⟨rfl, Only.refl _ _⟩
theorem pat_ok (h : XqAt U w xb mb gb D N os rs) (q : Int) : Calls Try.prog 36 #[.pointer (some ⟨xb, 0, none⟩), .int .i64 q] w fun e w' => e = .returned (.tuple #[.agg #[.int .i64 (atR (N : Int) os q).1.1, .int .i64 (atR (N : Int) os q).1.2], .int .i64 (atR (N : Int) os q).2]) ∧ Only (fun _ => False) w w' := by
  obtain ⟨w1, hw1⟩ : ∃ w1, w1 = w.alloc (.cells #[.int .i64 0, .int .i64 0] 33) := ⟨_, rfl⟩
  have ho1 : Only (fun _ => False) w w1 := by rw [hw1]; exact (Only.refl _ w).alloc _
  have hz : w1.heap[w.heap.size]? = some (.cells #[.int .i64 0, .int .i64 0] 33 (0, 0)) := by rw [hw1]; exact heap_alloc_last _ _
  obtain ⟨rc, hrc⟩ : ∃ rc, rc = w.heap.size := ⟨_, rfl⟩
  rw [← hrc] at hz
  have HO : Hid (Only (fun _ => False) w w1 ∧ w.heap.size ≤ rc) := ⟨ho1, by omega⟩
  have HS : Hid (∀ x y : Value, Only (fun _ => False) w ((w1.setCell ⟨rc, 0, none⟩ x).setCell ⟨rc, 1, none⟩ y)) := fun x y => Only.setCell (Only.setCell HO.out.1 (Or.inr HO.out.2) _) (Or.inr HO.out.2) _
  obtain ⟨⟨z0, z1⟩, zf⟩ := obj_cells hz
  have f0 := zf 0
  have f1 := zf 1
  have hk := h.quiet ho1
  have c1 := hk.c1
  by_cases h1 : q < 0
  · have HG : Hid (atR (N : Int) os q = ((0, 0), 1)) := if_pos (Or.inl h1)
    clear h hk zf hz ho1
    go_enter Try.func36, Try.ntmps36
    go_upto_region 1 with fail
    rw [← hw1, ← hrc]
    clear hw1 hrc
    go_wp2_with fail
    refine bodyPost_ret (v := .tuple #[.agg #[.int .i64 0, .int .i64 0], .int .i64 1]) ?_ rfl ⟨by rw [HG.out], HS.out _ _⟩
    simp [results, Try.results36, go_sem, z0, z1]
  · by_cases h2 : (N : Int) ≤ q
    · have HG : Hid (atR (N : Int) os q = ((0, 0), 1)) := if_pos (Or.inr h2)
      clear h hk zf hz ho1
      go_enter Try.func36, Try.ntmps36
      go_upto_region 1 with fail
      rw [← hw1, ← hrc]
      clear hw1 hrc
      go_wp2_with fail
      refine bodyPost_ret (v := .tuple #[.agg #[.int .i64 0, .int .i64 0], .int .i64 1]) ?_ rfl ⟨by rw [HG.out], HS.out _ _⟩
      simp [results, Try.results36, go_sem, z0, z1]
    · obtain ⟨k, rfl⟩ : ∃ k : Nat, q = (k : Int) := ⟨q.toNat, by omega⟩
      have hkN : k < N := by omega
      have HG := Vx.hid (atR_pg (N : Int) os (k : Int) (by omega))
      obtain ⟨b0, b1⟩ := hk.page k hkN
      have hidx : 0 ≤ (k : Int) ∧ (k : Int) < (N : Int) := by omega
      generalize pgF os (k : Int) = x at b0 b1 HG
      obtain ⟨x0, x1⟩ := x
      dsimp only at b0 b1
      have h3 : ¬ (k : Int) < 0 := by omega
      have h4 : ¬ (N : Int) ≤ (k : Int) := h2
      clear h hk zf hz ho1 h1 h2
      go_enter Try.func36, Try.ntmps36
      go_upto_region 1 with fail
      rw [← hw1, ← hrc]
      clear hw1 hrc
      go_wp2_with fail
      refine bodyPost_ret (v := .tuple #[.agg #[.int .i64 x0, .int .i64 x1], .int .i64 0]) ?_ rfl ⟨by rw [HG.out], HS.out _ _⟩
      simp [results, Try.results36, go_sem, z0, z1]
/-- The calls that read. -/
theorem xpempty_ok (h : XpAt U w xb P os rs) (n : Int) (hn : I64 n) : Calls Try.prog 16 #[.pointer (some ⟨xb, 0, none⟩), .int .i64 n] w fun e w' => e = .returned (.tuple #[.bool (emptyR os rs n).1, .int .i64 (emptyR os rs n).2]) ∧ Only (fun _ => False) w w' := by
  obtain ⟨hw, mb, gb, D, N, rfl, hx⟩ := h
  exact pempty_ok hx hw n hn
theorem xpmark_ok (h : XpAt U w xb P os rs) (n : Int) (hn : I64 n) : Calls Try.prog 13 #[.pointer (some ⟨xb, 0, none⟩), .int .i64 n] w fun e w' => e = .returned (.tuple #[.int .i64 (markR rs n).1, .int .i64 (markR rs n).2]) ∧ Only (fun _ => False) w w' := by
  obtain ⟨hw, mb, gb, D, N, rfl, hx⟩ := h
  exact pmark_ok hx n hn
theorem xpat_ok (h : XpAt U w xb P os rs) (q : Int) (hq : I64 q) : Calls Try.prog 36 #[.pointer (some ⟨xb, 0, none⟩), .int .i64 q] w fun e w' => e = .returned (.tuple #[.agg #[.int .i64 (atR P os q).1.1, .int .i64 (atR P os q).1.2], .int .i64 (atR P os q).2]) ∧ Only (fun _ => False) w w' := by
  obtain ⟨hw, mb, gb, D, N, rfl, hx⟩ := h
  exact pat_ok hx q
theorem xpnew_bad (n : Int) (h : n < 1 ∨ 256 < n) (w : World) : Calls Try.prog 6 #[.int .i64 n] w fun e w' => e = .returned (.tuple #[.pointer none, .int .i64 1]) ∧ w' = w := by
  by_cases h1 : n < 1
  · clear h
    go_enter Try.func6, Try.ntmps6
    go_wp2_with fail
    all_goals
      go_ret2
      exact ⟨rfl, rfl⟩
  · have h2 : 256 < n := by omega
    clear h
    go_enter Try.func6, Try.ntmps6
    go_wp2_with fail
    all_goals
      go_ret2
      exact ⟨rfl, rfl⟩
theorem pgF_nil (q : Int) : pgF [] q = (0, 0) := rfl
theorem rowP_nil (N : Nat) : rowP N [] = List.replicate N (0, 0) := by
  apply List.ext_getElem
  · rw [rowP_len, List.length_replicate]
  · intro k h1 h2
    rw [rowP_at, List.getElem_replicate]
    rfl
end Go.Proofs.Ytbbabpgmclhinaa

/- Chapter 8, the program's pool: New; numbers and objects made. -/
namespace Go.Proofs.Ytbbabpgmclhinaa
open Go.ChangeShapes Go.WideShapes Go.ChangeAt Go.RowKit
open Go.Vx
set_option linter.unusedVariables false
variable {U V S : Nat → Prop} {w w2 wr wx : World} {xb pb mb gb r N cnt cnt2 : Nat} {P : Int} {D : DataW Value} {os rs : List (Int × Int)} {left left2 : Lit → Bool}

theorem ob_info : (Try.prog.info? 33).map (fun i => (i.zero, i.size, i.bytes)) = some (some (.agg #[.int .i64 0, .int .i64 0]), 2, 16) := by kernel_rfl
theorem made_objs (n : Nat) : madeCells #[.int .i64 0, .int .i64 0] (n * 2) = (fl slL (List.replicate n ((0, 0) : Int × Int))).toArray := by
  obtain ⟨Z, hZ⟩ : ∃ Z : Array Value, Z = #[.int .i64 0, .int .i64 0] := ⟨_, rfl⟩
  rw [← hZ]
  have hs : Z.size = 2 := by rw [hZ]; rfl
  apply Array.ext'
  apply List.ext_getElem?
  intro j
  have hl : (fl slL (List.replicate n ((0, 0) : Int × Int))).length = n * 2 := by rw [length_fl, List.length_replicate]; rfl
  by_cases hj : j < n * 2
  · have h1 : j / 2 < (List.replicate n ((0, 0) : Int × Int)).length := by rw [List.length_replicate]; omega
    have h2 := get_fl slL (List.replicate n ((0, 0) : Int × Int)) (j / 2) (j % 2) h1 (Nat.mod_lt _ (by decide))
    have e : j / 2 * slL.sz + j % 2 = j := by show j / 2 * 2 + j % 2 = j; omega
    rw [e, List.getElem_replicate] at h2
    rw [List.toList_toArray, h2]
    simp only [madeCells, Array.toList_map, Array.toList_range, List.getElem?_map, List.getElem?_range hj, Option.map_some, hs]
    have hm : j % 2 = 0 ∨ j % 2 = 1 := by omega
    rcases hm with h | h <;> rw [h, hZ] <;> rfl
  · rw [List.getElem?_eq_none (by simp [madeCells]; omega), List.toList_toArray, List.getElem?_eq_none (by omega)]
theorem make_objs (n : Nat) (h : n ≤ 1000) (w : World) : (Instr.makeSlice 55 (.int .i64 (n : Int)) (.int .i64 (n : Int))).run Try.prog w = .ok (.slice (some ⟨w.heap.size, 0, none⟩) n n) (w.alloc (.cells (fl slL (List.replicate n ((0, 0) : Int × Int))).toArray 33)) := by
  have hi := ob_info
  cases hq : Try.prog.info? 33 with
  | none => rw [hq] at hi; simp at hi
  | some i =>
    rw [hq] at hi
    simp only [Option.map_some, Option.some.injEq, Prod.mk.injEq] at hi
    have := run_make (P := Try.prog) w 55 33 i _ Try.underlying55 hq hi.1 .i64 .i64 n n (by omega) (by omega) (by rw [hi.2.2]; omega) (by omega)
    rw [this, hi.2.1]
    simp only [Int.toNat_natCast, Value.cells]
    rw [made_objs]
theorem own_made {α : Type} {L : Lay α} {w : World} {g n : Nat} {T : TypeId} {xs : List α} (h : w.heap[g]? = some (.cells (fl L xs).toArray T (0, 0))) (hn : n = xs.length) (hm : n ≤ 10000) : OwnL L w 0 T (.slice (some ⟨g, 0, none⟩) n n) xs := by
  subst hn
  refine ⟨by rw [length_fl], Or.inr ⟨g, xs.length, _, rfl, Nat.zero_le _, h, Nat.le_refl _, by unfold maxLen; omega, ?_, ?_⟩⟩
  · simp only [List.size_toArray]; rw [length_fl]
  · rw [List.toList_toArray, ← length_fl, List.take_length]
theorem rgF_nil (k : Int) : rgF [] k = none := rfl
set_option maxHeartbeats 1000000 in
theorem xpnew_ok (n : Int) (h : 1 ≤ n ∧ n ≤ 256) (w : World) : Calls Try.prog 6 #[.int .i64 n] w fun e w' => ∃ xb, e = .returned (.tuple #[.pointer (some ⟨xb, 0, none⟩), .int .i64 0]) ∧ w.heap.size ≤ xb ∧ XpAt (fun k => k < w.heap.size) w' xb n [] [] ∧ Only (fun _ => False) w w' := by
  obtain ⟨m, rfl⟩ : ∃ m : Nat, n = (m : Int) := ⟨n.toNat, by omega⟩
  have hmm := @run_makeMap Try.prog
  have hmk := make_objs m (by omega)
  have n1 : ¬ (m : Int) < 1 := by omega
  have n2 : ¬ (256 : Int) < (m : Int) := by omega
  have HW := Vx.hid (PWf.nil h)
  clear h
  go_enter Try.func6, Try.ntmps6
  go_wp2_with fail
  go_ret2
  obtain ⟨w1, hw1⟩ : ∃ w1, w1 = w.alloc (.map #[] 0) := ⟨_, rfl⟩
  obtain ⟨w2, hw2⟩ : ∃ w2, w2 = w1.alloc (.cells (fl slL (List.replicate m ((0, 0) : Int × Int))).toArray 33) := ⟨_, rfl⟩
  have s1 : w1.heap.size = w.heap.size + 1 := by rw [hw1]; simp
  have s2 : w2.heap.size = w.heap.size + 2 := by rw [hw2]; simp [s1]
  have hm1 : w1.ownsMap Try.prog 3 RI w.heap.size 0 (.map []) := by rw [hw1]; exact World.ownsMap_made w Try.prog 3 RI
  have hm2 : w2.ownsMap Try.prog 3 RI w.heap.size 0 (.map []) := by rw [hw2]; exact hm1.alloc _
  have hg2 : w2.heap[w.heap.size + 1]? = some (.cells (fl slL (List.replicate m ((0, 0) : Int × Int))).toArray 33 (0, 0)) := by
    rw [hw2, ← s1]
    exact heap_alloc_last w1 _
  have ho2 : Only (fun _ => False) w w2 := by rw [hw2, hw1]; exact ((Only.refl _ w).alloc _).alloc _
  rw [← hw1, ← hw2]
  obtain ⟨w3, hw3⟩ : ∃ w3, w3 = w2.alloc (.cells #[.map (some w.heap.size), .slice (some ⟨w.heap.size + 1, 0, none⟩) m m] 67) := ⟨_, rfl⟩
  have hx3 : w3.heap[w.heap.size + 2]? = some (.cells #[.map (some w.heap.size), .slice (some ⟨w.heap.size + 1, 0, none⟩) m m] 67 (0, 0)) := by
    rw [hw3, ← s2]
    exact heap_alloc_last w2 _
  have ho3 : Only (fun _ => False) w2 w3 := by rw [hw3]; exact (Only.refl _ w2).alloc _
  have hpg : OwnL slL w3 0 33 (.slice (some ⟨w.heap.size + 1, 0, none⟩) m m) (rowP m []) := by
    rw [rowP_nil]
    exact own_made (Only.keep ho3 hg2 (fun h => h)) (by rw [List.length_replicate]) (by omega)
  have hfin : XpAt (fun k => k < w.heap.size) w3 (w.heap.size + 2) (m : Int) [] [] := ⟨HW.out, w.heap.size, w.heap.size + 1, .map [], m, rfl, hx3, mi_owns hm2 ho3 (fun h => h), fun k _ => rfl, (fun k i z hk => by rw [rgF_nil] at hk; cases hk), hpg, by omega, by omega, by omega, fun k hk => by have := ho2.size; have := ho3.size; omega⟩
  rw [← hw3]
  exact ⟨w.heap.size + 2, rfl, by omega, hfin, ho2.trans ho3⟩
end Go.Proofs.Ytbbabpgmclhinaa

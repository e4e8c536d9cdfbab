import Derived.Test.YtgncabcnefhkiaaCs50
/- Chapter 9, the law's own: still. -/
namespace Go.Proofs.Ytgncabcnefhkiaa
open Go.ChangeShapes Go.WideShapes Go.ChangeAt Go.RowKit
open Go.Vx
set_option linter.unusedVariables false
variable {w w2 : World} {ts L : List (Int × Int)} {G : Nat} {T : TypeId}

theorem row_get (h : w.heap[G]? = some (.cells (fl slL L).toArray T (0, 0))) (k : Nat) (hk : k < L.length) : w.cell? ⟨G, k * 2, none⟩ = some (.int .i64 L[k].1) ∧ w.cell? ⟨G, k * 2 + 1, none⟩ = some (.int .i64 L[k].2) := by
  have h0 := get_fl slL L k 0 hk (by decide)
  have h1 := get_fl slL L k 1 hk (by decide)
  have e0 : k * slL.sz + 0 = k * 2 := rfl
  have e1 : k * slL.sz + 1 = k * 2 + 1 := rfl
  rw [e0] at h0
  rw [e1] at h1
  refine ⟨?_, ?_⟩
  · rw [cell_of_row _ _ _ _ _ (0, 0) h, List.getElem?_toArray, h0]; rfl
  · rw [cell_of_row _ _ _ _ _ (0, 0) h, List.getElem?_toArray, h1]; rfl
theorem row_set (h : w.heap[G]? = some (.cells (fl slL L).toArray T (0, 0))) (k : Nat) (hk : k < L.length) (y : Int × Int) : ((w.setCell ⟨G, k * 2, none⟩ (.int .i64 y.1)).setCell ⟨G, k * 2 + 1, none⟩ (.int .i64 y.2)).heap[G]? = some (.cells (fl slL (L.set k y)).toArray T (0, 0)) := by
  have h4 := heap_setCell_same _ _ (k * 2) _ _ (.int .i64 y.1) h
  have h5 := heap_setCell_same _ _ (k * 2 + 1) _ _ (.int .i64 y.2) h4
  have hz : ((fl slL L).set (k * 2) (.int .i64 y.1)).set (k * 2 + 1) (.int .i64 y.2) = fl slL (L.set k y) := by
    refine fl_set slL L k y hk _ (by simp) (fun j hj => ?_) (fun i hi => ?_)
    · have hj' : j < 2 := hj
      have hlen : (fl slL L).length = L.length * 2 := length_fl slL L
      have hs2 : slL.sz = 2 := rfl
      rw [hs2, List.getElem?_set, List.getElem?_set]
      rcases (by omega : j = 0 ∨ j = 1) with rfl | rfl
      · rw [if_neg (by omega), if_pos (by omega), if_pos (by rw [hlen]; omega)]; rfl
      · rw [if_pos (by omega), if_pos (by rw [List.length_set, hlen]; omega)]; rfl
    · have hs2 : slL.sz = 2 := rfl
      rw [hs2] at hi
      rw [List.getElem?_set, List.getElem?_set, if_neg (by omega), if_neg (by omega)]
  rw [h5, ← hz]
  simp
/-- The first k written full. -/
def stL (ts : List (Int × Int)) (k : Nat) : List (Int × Int) := List.replicate k (7, 1) ++ (ts.drop k ++ [(7, 999), (0, 0)])
theorem stL_len {k : Nat} (hk : k ≤ ts.length) : (stL ts k).length = ts.length + 2 := by
  unfold stL
  simp only [List.length_append, List.length_replicate, List.length_drop, List.length_cons, List.length_nil]
  omega
theorem stL_cons {k : Nat} (hk : k < ts.length) : stL ts k = List.replicate k (7, 1) ++ (ts[k] :: (ts.drop (k + 1) ++ [(7, 999), (0, 0)])) := by
  unfold stL
  rw [List.drop_eq_getElem_cons hk]
  rfl
theorem stL_get {k : Nat} (hk : k < ts.length) (h : k < (stL ts k).length) : (stL ts k)[k] = ts[k] := by
  have h1 : (stL ts k)[k]? = some ts[k] := by rw [stL_cons hk]; simp
  rw [List.getElem?_eq_getElem h] at h1
  injection h1
theorem stL_set {k : Nat} (hk : k < ts.length) : (stL ts k).set k (7, 1) = stL ts (k + 1) := by
  rw [stL_cons hk]
  unfold stL
  rw [List.set_append_right _ _ (by simp), List.replicate_succ']
  simp
theorem TuAt.kept {pa : Option Addr} {S : Nat → Prop} (h : TuAt w pa ts) (ho : Only S w w2) (hS : ∀ ab ao, pa = some ⟨ab, ao, none⟩ → 0 < ts.length → ¬ S ab) : TuAt w2 pa ts := by
  rcases h with h | ⟨ab, ao, h1, h2⟩
  · exact Or.inl h
  · refine Or.inr ⟨ab, ao, h1, fun j hj => ?_⟩
    obtain ⟨a, b⟩ := h2 j hj
    have hb : ab < w.heap.size := World.block_lt_of_cell? w _ a
    have hk := ho.block ab hb (hS _ _ h1 (by omega))
    have hc : ∀ o, w2.cell? ⟨ab, o, none⟩ = w.cell? ⟨ab, o, none⟩ := fun o => by unfold World.cell?; simp only [hk]
    exact ⟨by rw [hc]; exact a, by rw [hc]; exact b⟩
theorem stL_end (h : ts.length < (stL ts 0).length) : (stL ts 0)[ts.length] = (7, 999) := by
  simp [stL]
set_option maxRecDepth 100000 in
set_option maxHeartbeats 1000000 in
theorem still_ok (w : World) (pa : Option Addr) (len cap : Nat) (hlen : len = ts.length) (hb : len ≤ 10000000000000) (hp : TuAt w pa ts) (hg : w.heap[G]? = some (.cells (fl slL (lentL ts (7, 999))).toArray 34 (0, 0))) (hne : ∀ ab ao, pa = some ⟨ab, ao, none⟩ → 0 < ts.length → ab ≠ G) :
    Calls Try.prog 9 #[.slice (some ⟨G, 0, none⟩) len (len + 2), .slice pa len cap] w fun e w' => e = .returned (.bool true) ∧ Only (fun k => k = G) w w' := by
  have hg0 : w.heap[G]? = some (.cells (fl slL (stL ts 0)).toArray 34 (0, 0)) := hg
  have hl0 := stL_len (ts := ts) (k := 0) (Nat.zero_le _)
  obtain ⟨t0, t1⟩ := row_get hg0 ts.length (by omega)
  rw [stL_end, ← hlen] at t0 t1
  dsimp only at t0 t1
  obtain ⟨M, hM⟩ : ∃ M, M = len + 2 := ⟨_, rfl⟩
  obtain ⟨M1, hM1⟩ : ∃ M1, M1 = len + 1 := ⟨_, rfl⟩
  have eM1 : (M1 : Int) = (len : Int) + 1 := by omega
  have hw1 : IntKind.i64.wrap ((len : Int) + 1) = (len : Int) + 1 := by rw [IntKind.wrap_i64]; omega
  have hidx : 0 ≤ (len : Int) ∧ (len : Int) < (len : Int) + 1 := by omega
  have hcut : 0 ≤ (len : Int) + 1 ∧ (len : Int) + 1 ≤ (len : Int) + 2 := by omega
  have HL := Vx.hid hlen
  have HP := Vx.hid hp
  have HNE := Vx.hid hne
  have HG := Vx.hid hg0
  have hb2 := hb
  have HTU : Hid (∀ wr, Only (fun k => k = G) w wr → TuAt wr pa ts) := fun wr ho => hp.kept ho (fun ab ao h1 h0 h2 => hne ab ao h1 h0 h2)
  clear hlen hp hne hg hg0 hl0 hM hM1 eM1 M M1 hb2
  go_enter Try.func9, Try.ntmps9
  go_wp2_with fail
  clear t0 t1 hw1 hidx hcut
  go_loopw [5, 6] (fun b i wr => ∃ k : Nat, b = .bool true ∧ i = .int .i64 (k : Int) ∧ k ≤ len ∧ Hid (wr.heap[G]? = some (.cells (fl slL (stL ts k)).toArray 34 (0, 0)) ∧ Only (fun k => k = G) w wr)) (fun _ i _ => len - (RowKit.intOf i).toNat)
  case atStart => exact ⟨0, rfl, rfl, by omega, HG.out, Only.refl _ _⟩
  case round =>
    obtain ⟨k, rfl, rfl, hk, HR⟩ := hrel
    by_cases hlt : k < len
    · have h1 : (k : Int) < (len : Int) := by omega
      have hidx : 0 ≤ (k : Int) ∧ (k : Int) < (len : Int) := by omega
      have hwk : IntKind.i64.wrap ((k : Int) + 1) = (k : Int) + 1 := by rw [IntKind.wrap_i64]; omega
      have hkl : k < ts.length := by have := HL.out; omega
      have hks : k < (stL ts k).length := by rw [stL_len (by omega)]; omega
      obtain ⟨b0, b1⟩ := row_get HR.out.1 k hks
      rw [stL_get hkl] at b0 b1
      obtain ⟨ab, ao, rfl, hc⟩ : ∃ ab ao, pa = some ⟨ab, ao, none⟩ ∧ ∀ (j : Nat) (h : j < ts.length), wr.cell? ⟨ab, ao + j * 2, none⟩ = some (.int .i64 ts[j].1) ∧ wr.cell? ⟨ab, ao + j * 2 + 1, none⟩ = some (.int .i64 ts[j].2) := by
        rcases HTU.out wr HR.out.2 with h | h
        · rw [h] at hkl; exact absurd hkl (Nat.not_lt_zero _)
        · exact h
      obtain ⟨d0, d1⟩ := hc k hkl
      have HST : Hid (∀ w3, Only (fun _ => False) wr w3 → ((w3.setCell ⟨G, k * 2, none⟩ (.int .i64 7)).setCell ⟨G, k * 2 + 1, none⟩ (.int .i64 1)).heap[G]? = some (.cells (fl slL (stL ts (k + 1))).toArray 34 (0, 0)) ∧ Only (fun k => k = G) w ((w3.setCell ⟨G, k * 2, none⟩ (.int .i64 7)).setCell ⟨G, k * 2 + 1, none⟩ (.int .i64 1))) := fun w3 ho => by
        have h5 := row_set (Only.keep ho HR.out.1 (fun h => h)) k hks (7, 1)
        rw [stL_set hkl] at h5
        exact ⟨h5, ((HR.out.2.trans (ho.mono (fun _ _ h => h.elim))).setCell (Or.inl rfl) _).setCell (Or.inl rfl) _⟩
      have hff : ∀ j, wr.frozen? ⟨G, j, none⟩ = false := fun j => by simp [World.frozen?, HR.out.1]
      have HKL : Hid (k + 1 ≤ len) := hlt
      generalize ts[k].1 = y0 at b0 d0
      generalize ts[k].2 = y1 at b1 d1
      clear hlt hc
      go_upto_region 5 with fail
      go_quiet (fail)
      obtain ⟨w3, hw3⟩ : ∃ w3, w3 = wr.drewN nq := ⟨_, rfl⟩
      have hon3 : Only (fun _ => False) wr w3 := by rw [hw3]; exact (Only.refl _ wr).drewN _
      obtain ⟨q1, q2⟩ := HST.out w3 hon3
      have HQ1 := Vx.hid q1
      have HQ2 := Vx.hid q2
      have a0 : w3.cell? ⟨G, k * 2, none⟩ = some (.int .i64 y0) := by rw [hw3]; simpa using b0
      have a1 : w3.cell? ⟨G, k * 2 + 1, none⟩ = some (.int .i64 y1) := by rw [hw3]; simpa using b1
      have f0 : w3.frozen? ⟨G, k * 2, none⟩ = false := by rw [hw3]; simpa using hff (k * 2)
      have f1 : w3.frozen? ⟨G, k * 2 + 1, none⟩ = false := by rw [hw3]; simpa using hff (k * 2 + 1)
      rw [← hw3]
      clear hw3 hon3 q1 q2 b0 b1 d0 d1 hff
      go_wp2_with fail
      go_roundw
      case rel => exact ⟨k + 1, rfl, by go_num, HKL.out, HQ1.out, HQ2.out⟩
      case measure => have := HKL.out; simp only [RowKit.intOf]; omega
    · obtain rfl : k = len := by omega
      have h1 : ¬ (k : Int) < (k : Int) := by omega
      clear hlt
      go_wp2_with fail
      all_goals
        go_ret
        exact ⟨rfl, HR.out.2⟩
end Go.Proofs.Ytgncabcnefhkiaa

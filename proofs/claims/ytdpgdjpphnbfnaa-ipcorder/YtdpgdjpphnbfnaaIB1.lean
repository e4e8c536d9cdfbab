/- Chapter 10, the document's bus: where it lies; place, waits, first, refused. -/
import Derived.Test.YtdpgdjpphnbfnaaIB0
import Derived.BigQuiet
import Derived.Deep.RegionHeld3
import Derived.Deep.CutRange
namespace Go.Proofs.Ytdpgdjpphnbfnaa
open Go.ChangeShapes Go.WideShapes Go.ChangeAt Go.RowKit
open Go.Vx
set_option linter.unusedVariables false

/-- The document's bus; U: blocks that are none of its own. -/
structure RbAt (U : Nat → Prop) (w : World) (rb : Nat) (vp vw : Value) (s : Bs) : Prop where
  r : w.heap[rb]? = some (.cells #[vp, vw] 29 (0, 0))
  p : OwnL pcL w 0 106 vp s.ps
  l : OwnL wtL w 0 110 vw s.ws
  ur : ¬ U rb
  up : ∀ k, vp.ownBlock = some k → ¬ U k
  ul : ∀ k, vw.ownBlock = some k → ¬ U k
  low : ∀ k, U k → k < w.heap.size
  np : s.ps.length ≤ 1000000
  nl : s.ws.length ≤ 1000000
variable {U V S : Nat → Prop} {w w2 w3 : World} {rb : Nat} {vp vw : Value} {s : Bs}
theorem RbAt.c0 (h : RbAt U w rb vp vw s) : w.cell? ⟨rb, 0, none⟩ = some vp := (cell_of_row _ _ 0 _ _ (0, 0) h.r).trans rfl
theorem RbAt.c1 (h : RbAt U w rb vp vw s) : w.cell? ⟨rb, 1, none⟩ = some vw := (cell_of_row _ _ 1 _ _ (0, 0) h.r).trans rfl
theorem RbAt.fz (h : RbAt U w rb vp vw s) (j : Nat) : w.frozen? ⟨rb, j, none⟩ = false := by
  have := h.r
  simp [World.frozen?, this]
theorem RbAt.step (h : RbAt U w rb vp vw s) (ho : Only S w w2) (hS : ∀ k, k < w.heap.size → S k → U k) (hV : ∀ k, V k → U k ∨ (w.heap.size ≤ k ∧ k < w2.heap.size)) : RbAt V w2 rb vp vw s := by
  have l1 := lt_of_some h.r
  have hn : ∀ k, k < w.heap.size → ¬ U k → ¬ V k := fun k hk hu hv => by
    rcases hV k hv with h3 | h3
    · exact hu h3
    · omega
  refine ⟨Only.keep ho h.r (fun s => h.ur (hS _ l1 s)), h.p.kept ho (fun k hk s => h.up k hk (hS _ (own_lt h.p hk).2 s)), h.l.kept ho (fun k hk s => h.ul k hk (hS _ (own_lt h.l hk).2 s)), hn _ l1 h.ur, fun k hk => hn _ (own_lt h.p hk).2 (h.up k hk), fun k hk => hn _ (own_lt h.l hk).2 (h.ul k hk), fun k hk => ?_, h.np, h.nl⟩
  rcases hV k hk with h3 | h3
  · exact Nat.lt_of_lt_of_le (h.low k h3) ho.size
  · exact h3.2
theorem RbAt.quiet (h : RbAt U w rb vp vw s) (ho : Only (fun _ => False) w w2) : RbAt U w2 rb vp vw s := h.step ho (fun _ _ h => h.elim) (fun _ h => Or.inl h)
/-- But for where its parts lie. -/
def RbX (U : Nat → Prop) (w : World) (rb : Nat) (s : Bs) : Prop := ∃ vp vw, RbAt U w rb vp vw s
theorem RbX.step (h : RbX U w rb s) (ho : Only S w w2) (hS : ∀ k, k < w.heap.size → S k → U k) (hV : ∀ k, V k → U k ∨ (w.heap.size ≤ k ∧ k < w2.heap.size)) : RbX V w2 rb s := by
  obtain ⟨vp, vw, h⟩ := h
  exact ⟨vp, vw, h.step ho hS hV⟩
theorem RbX.quiet (h : RbX U w rb s) (ho : Only (fun _ => False) w w2) : RbX U w2 rb s := h.step ho (fun _ _ h => h.elim) (fun _ h => Or.inl h)
/-- One who waits, as it lies. -/
structure W9 (w : World) (g k : Nat) (x : Wt) : Prop where
  c0 : w.cell? ⟨g, k * 9, none⟩ = some (.int .i64 x.at')
  c1 : w.cell? ⟨g, k * 9 + 1, none⟩ = some (.int .i64 x.thr)
  c2 : w.cell? ⟨g, k * 9 + 2, none⟩ = some (.int .i64 x.how)
  c3 : w.cell? ⟨g, k * 9 + 3, none⟩ = some (.int .u32 x.m.lab)
  c4 : w.cell? ⟨g, k * 9 + 4, none⟩ = some (.int .u32 x.m.w0)
  c5 : w.cell? ⟨g, k * 9 + 5, none⟩ = some (.int .u32 x.m.w1)
  c6 : w.cell? ⟨g, k * 9 + 6, none⟩ = some (.int .u32 x.m.w2)
  c7 : w.cell? ⟨g, k * 9 + 7, none⟩ = some (.int .u32 x.m.w3)
  c8 : w.cell? ⟨g, k * 9 + 8, none⟩ = some (.int .u32 x.m.bdg)
theorem own_w9 {base : Nat} {T : TypeId} {v : Value} {xs : List Wt} (h : OwnL wtL w base T v xs) : ∃ p c, v = .slice p xs.length c ∧ ∀ (k : Nat) (hk : k < xs.length), ∃ g, p = some ⟨g, 0, none⟩ ∧ W9 w g k xs[k] := by
  obtain ⟨p, c, rfl, _, _, hg⟩ := h.form
  refine ⟨p, c, rfl, fun k hk => ?_⟩
  obtain ⟨g, rfl, _⟩ := hg (by omega)
  exact ⟨g, rfl, h.cell k 0 hk (by decide), h.cell k 1 hk (by decide), h.cell k 2 hk (by decide), h.cell k 3 hk (by decide), h.cell k 4 hk (by decide), h.cell k 5 hk (by decide), h.cell k 6 hk (by decide), h.cell k 7 hk (by decide), h.cell k 8 hk (by decide)⟩
/-- A place, as it lies. -/
structure P3 (w : World) (g k : Nat) (x : Pc) : Prop where
  c0 : w.cell? ⟨g, k * 3, none⟩ = some (.int .i64 x.num)
  c1 : w.cell? ⟨g, k * 3 + 1, none⟩ = some (.bool x.bell)
  c2 : w.cell? ⟨g, k * 3 + 2, none⟩ = some (.int .u32 x.word)
theorem own_p3 {base : Nat} {T : TypeId} {v : Value} {xs : List Pc} (h : OwnL pcL w base T v xs) : ∃ p c, v = .slice p xs.length c ∧ ∀ (k : Nat) (hk : k < xs.length), ∃ g, p = some ⟨g, 0, none⟩ ∧ P3 w g k xs[k] := by
  obtain ⟨p, c, rfl, _, _, hg⟩ := h.form
  refine ⟨p, c, rfl, fun k hk => ?_⟩
  obtain ⟨g, rfl, _⟩ := hg (by omega)
  exact ⟨g, rfl, h.cell k 0 hk (by decide), h.cell k 1 hk (by decide), h.cell k 2 hk (by decide)⟩
theorem pF_at {ps : List Pc} {n : Int} {i : Nat} (h : pF ps n = some i) : ∃ hi : i < ps.length, ps[i].num = n := by
  obtain ⟨hl, hp⟩ := idxF_get h
  have e : i - 0 = i := Nat.sub_zero i
  simp only [e] at hl hp
  exact ⟨hl, of_decide_eq_true hp⟩
theorem tF_at {ws : List Wt} {n : Int} {i : Nat} (h : tF ws n = some i) : ∃ hi : i < ws.length, ws[i].thr = n := by
  obtain ⟨hl, hp⟩ := idxF_get h
  have e : i - 0 = i := Nat.sub_zero i
  simp only [e] at hl hp
  exact ⟨hl, of_decide_eq_true hp⟩
theorem aF_at {ws : List Wt} {n : Int} {i : Nat} (h : aF ws n = some i) : ∃ hi : i < ws.length, ws[i].at' = n := by
  obtain ⟨hl, hp⟩ := idxF_get h
  have e : i - 0 = i := Nat.sub_zero i
  simp only [e] at hl hp
  exact ⟨hl, of_decide_eq_true hp⟩
theorem place_ok (h : RbAt U w rb vp vw s) (n : Int) : Calls Try.prog 43 #[.pointer (some ⟨rb, 0, none⟩), .int .i64 n] w fun e w' => e = .returned (.int .i64 (idI (pF s.ps n))) ∧ w' = w := by
  have c0 := h.c0
  have hn := h.np
  obtain ⟨p, c, hv, hb⟩ := own_p3 h.p
  rw [hv] at c0
  have HB := Vx.hid hb
  clear h hb hv
  generalize s.ps = es at c0 hn HB ⊢
  obtain ⟨N, hN⟩ : ∃ N, N = es.length := ⟨_, rfl⟩
  have HN := Vx.hid hN
  rw [← hN] at c0 hn
  clear hN
  go_enter Try.func43, Try.ntmps43
  go_wp2_with fail
  go_loopw [5] (fun d wr => ∃ k : Nat, d = .int .i64 (k : Int) ∧ k ≤ N ∧ Hid (idxF (fun b : Pc => decide (b.num = n)) (es.drop k) k = pF es n) ∧ wr = w) (fun d _ => N - (RowKit.intOf d).toNat)
  case atStart => exact ⟨0, rfl, by omega, (show idxF _ (es.drop 0) 0 = _ from by rw [List.drop_zero]; rfl), rfl⟩
  case round =>
    obtain ⟨k, rfl, hk, HQ, rfl⟩ := hrel
    by_cases hlt : k < N
    · have hlb : k < es.length := by have := HN.out; omega
      have h1 : (k : Int) < (N : Int) := by omega
      have hidx : 0 ≤ (k : Int) ∧ (k : Int) < (N : Int) := by omega
      have hwk : IntKind.i64.wrap ((k : Int) + 1) = (k : Int) + 1 := by rw [IntKind.wrap_i64]; omega
      obtain ⟨g, rfl, hg⟩ := HB.out k hlb
      have b0 := hg.c0
      have hq := HQ.out
      rw [idxF_step es k hlb] at hq
      by_cases he : es[k].num = n
      · rw [if_pos (decide_eq_true he)] at hq
        have HE := Vx.hid hq
        rw [he] at b0
        clear hq hlt HQ he hg
        go_wp2_with fail
        all_goals
          go_ret
          exact ⟨by rw [← HE.out]; rfl, rfl⟩
      · rw [if_neg (by simpa using he)] at hq
        have HE := Vx.hid hq
        have he2 : (es[k].num == n) = false := by simpa using he
        clear hg
        generalize es[k].num = m at b0 he he2
        clear hq hlt HQ
        go_wp2_with fail
        go_roundw
        case rel => exact ⟨k + 1, by go_num, by omega, HE, trivial⟩
        case measure => simp only [RowKit.intOf]; omega
    · obtain rfl : k = N := by omega
      have hq := HQ.out
      rw [HN.out, idxF_end] at hq
      have HE := Vx.hid hq
      have h1 : ¬ (k : Int) < (k : Int) := by omega
      clear hq hlt HQ
      go_wp2_with fail
      all_goals
        go_ret
        exact ⟨by rw [← HE.out]; rfl, rfl⟩
theorem waits_ok (h : RbAt U w rb vp vw s) (n : Int) : Calls Try.prog 48 #[.pointer (some ⟨rb, 0, none⟩), .int .i64 n] w fun e w' => e = .returned (.int .i64 (idI (tF s.ws n))) ∧ w' = w := by
  have c0 := h.c1
  have hn := h.nl
  obtain ⟨p, c, hv, hb⟩ := own_w9 h.l
  rw [hv] at c0
  have HB := Vx.hid hb
  clear h hb hv
  generalize s.ws = es at c0 hn HB ⊢
  obtain ⟨N, hN⟩ : ∃ N, N = es.length := ⟨_, rfl⟩
  have HN := Vx.hid hN
  rw [← hN] at c0 hn
  clear hN
  go_enter Try.func48, Try.ntmps48
  go_wp2_with fail
  go_loopw [5] (fun d wr => ∃ k : Nat, d = .int .i64 (k : Int) ∧ k ≤ N ∧ Hid (idxF (fun b : Wt => decide (b.thr = n)) (es.drop k) k = tF es n) ∧ wr = w) (fun d _ => N - (RowKit.intOf d).toNat)
  case atStart => exact ⟨0, rfl, by omega, (show idxF _ (es.drop 0) 0 = _ from by rw [List.drop_zero]; rfl), rfl⟩
  case round =>
    obtain ⟨k, rfl, hk, HQ, rfl⟩ := hrel
    by_cases hlt : k < N
    · have hlb : k < es.length := by have := HN.out; omega
      have h1 : (k : Int) < (N : Int) := by omega
      have hidx : 0 ≤ (k : Int) ∧ (k : Int) < (N : Int) := by omega
      have hwk : IntKind.i64.wrap ((k : Int) + 1) = (k : Int) + 1 := by rw [IntKind.wrap_i64]; omega
      obtain ⟨g, rfl, hg⟩ := HB.out k hlb
      have b0 := hg.c1
      have hq := HQ.out
      rw [idxF_step es k hlb] at hq
      by_cases he : es[k].thr = n
      · rw [if_pos (decide_eq_true he)] at hq
        have HE := Vx.hid hq
        rw [he] at b0
        clear hq hlt HQ he hg
        go_wp2_with fail
        all_goals
          go_ret
          exact ⟨by rw [← HE.out]; rfl, rfl⟩
      · rw [if_neg (by simpa using he)] at hq
        have HE := Vx.hid hq
        have he2 : (es[k].thr == n) = false := by simpa using he
        clear hg
        generalize es[k].thr = m at b0 he he2
        clear hq hlt HQ
        go_wp2_with fail
        go_roundw
        case rel => exact ⟨k + 1, by go_num, by omega, HE, trivial⟩
        case measure => simp only [RowKit.intOf]; omega
    · obtain rfl : k = N := by omega
      have hq := HQ.out
      rw [HN.out, idxF_end] at hq
      have HE := Vx.hid hq
      have h1 : ¬ (k : Int) < (k : Int) := by omega
      clear hq hlt HQ
      go_wp2_with fail
      all_goals
        go_ret
        exact ⟨by rw [← HE.out]; rfl, rfl⟩
theorem first_ok (h : RbAt U w rb vp vw s) (n : Int) : Calls Try.prog 46 #[.pointer (some ⟨rb, 0, none⟩), .int .i64 n] w fun e w' => e = .returned (.int .i64 (idI (aF s.ws n))) ∧ w' = w := by
  have c0 := h.c1
  have hn := h.nl
  obtain ⟨p, c, hv, hb⟩ := own_w9 h.l
  rw [hv] at c0
  have HB := Vx.hid hb
  clear h hb hv
  generalize s.ws = es at c0 hn HB ⊢
  obtain ⟨N, hN⟩ : ∃ N, N = es.length := ⟨_, rfl⟩
  have HN := Vx.hid hN
  rw [← hN] at c0 hn
  clear hN
  go_enter Try.func46, Try.ntmps46
  go_wp2_with fail
  go_loopw [5] (fun d wr => ∃ k : Nat, d = .int .i64 (k : Int) ∧ k ≤ N ∧ Hid (idxF (fun b : Wt => decide (b.at' = n)) (es.drop k) k = aF es n) ∧ wr = w) (fun d _ => N - (RowKit.intOf d).toNat)
  case atStart => exact ⟨0, rfl, by omega, (show idxF _ (es.drop 0) 0 = _ from by rw [List.drop_zero]; rfl), rfl⟩
  case round =>
    obtain ⟨k, rfl, hk, HQ, rfl⟩ := hrel
    by_cases hlt : k < N
    · have hlb : k < es.length := by have := HN.out; omega
      have h1 : (k : Int) < (N : Int) := by omega
      have hidx : 0 ≤ (k : Int) ∧ (k : Int) < (N : Int) := by omega
      have hwk : IntKind.i64.wrap ((k : Int) + 1) = (k : Int) + 1 := by rw [IntKind.wrap_i64]; omega
      obtain ⟨g, rfl, hg⟩ := HB.out k hlb
      have b0 := hg.c0
      have hq := HQ.out
      rw [idxF_step es k hlb] at hq
      by_cases he : es[k].at' = n
      · rw [if_pos (decide_eq_true he)] at hq
        have HE := Vx.hid hq
        rw [he] at b0
        clear hq hlt HQ he hg
        go_wp2_with fail
        all_goals
          go_ret
          exact ⟨by rw [← HE.out]; rfl, rfl⟩
      · rw [if_neg (by simpa using he)] at hq
        have HE := Vx.hid hq
        have he2 : (es[k].at' == n) = false := by simpa using he
        clear hg
        generalize es[k].at' = m at b0 he he2
        clear hq hlt HQ
        go_wp2_with fail
        go_roundw
        case rel => exact ⟨k + 1, by go_num, by omega, HE, trivial⟩
        case measure => simp only [RowKit.intOf]; omega
    · obtain rfl : k = N := by omega
      have hq := HQ.out
      rw [HN.out, idxF_end] at hq
      have HE := Vx.hid hq
      have h1 : ¬ (k : Int) < (k : Int) := by omega
      clear hq hlt HQ
      go_wp2_with fail
      all_goals
        go_ret
        exact ⟨by rw [← HE.out]; rfl, rfl⟩
def oc0A : Array Value := #[.int .i64 0, .int .i64 0, .int .u32 0, .int .u32 0, .int .u32 0, .int .u32 0, .int .u32 0, .int .u32 0, .bool false, .bool false, .bool false]
theorem only_set11 (w : World) (g : Nat) (a0 a1 a2 a3 a4 a5 a6 a7 a8 a9 a10 : Value) : Only (fun k => k = g) w (((((((((((w.setCell ⟨g, 0, none⟩ a0).setCell ⟨g, 1, none⟩ a1).setCell ⟨g, 2, none⟩ a2).setCell ⟨g, 3, none⟩ a3).setCell ⟨g, 4, none⟩ a4).setCell ⟨g, 5, none⟩ a5).setCell ⟨g, 6, none⟩ a6).setCell ⟨g, 7, none⟩ a7).setCell ⟨g, 8, none⟩ a8).setCell ⟨g, 9, none⟩ a9).setCell ⟨g, 10, none⟩ a10) :=
  (((((((((((Only.refl (fun k => k = g) w).setCell (p := ⟨g, 0, none⟩) (Or.inl rfl) a0).setCell (p := ⟨g, 1, none⟩) (Or.inl rfl) a1).setCell (p := ⟨g, 2, none⟩) (Or.inl rfl) a2).setCell (p := ⟨g, 3, none⟩) (Or.inl rfl) a3).setCell (p := ⟨g, 4, none⟩) (Or.inl rfl) a4).setCell (p := ⟨g, 5, none⟩) (Or.inl rfl) a5).setCell (p := ⟨g, 6, none⟩) (Or.inl rfl) a6).setCell (p := ⟨g, 7, none⟩) (Or.inl rfl) a7).setCell (p := ⟨g, 8, none⟩) (Or.inl rfl) a8).setCell (p := ⟨g, 9, none⟩) (Or.inl rfl) a9).setCell (p := ⟨g, 10, none⟩) (Or.inl rfl) a10
/-- An outcome of noughts, where it lies. -/
structure Z11 (w : World) (g : Nat) : Prop where
  c0 : w.cell? ⟨g, 0, none⟩ = some (.int .i64 0)
  c1 : w.cell? ⟨g, 1, none⟩ = some (.int .i64 0)
  c2 : w.cell? ⟨g, 2, none⟩ = some (.int .u32 0)
  c3 : w.cell? ⟨g, 3, none⟩ = some (.int .u32 0)
  c4 : w.cell? ⟨g, 4, none⟩ = some (.int .u32 0)
  c5 : w.cell? ⟨g, 5, none⟩ = some (.int .u32 0)
  c6 : w.cell? ⟨g, 6, none⟩ = some (.int .u32 0)
  c7 : w.cell? ⟨g, 7, none⟩ = some (.int .u32 0)
  c8 : w.cell? ⟨g, 8, none⟩ = some (.bool false)
  c9 : w.cell? ⟨g, 9, none⟩ = some (.bool false)
  c10 : w.cell? ⟨g, 10, none⟩ = some (.bool false)
  fz : ∀ j, w.frozen? ⟨g, j, none⟩ = false
  lt : g < w.heap.size
theorem z11_of {g : Nat} (h : w.heap[g]? = some (.cells oc0A 37 (0, 0))) : Z11 w g :=
  ⟨(cell_of_row _ _ 0 _ _ (0, 0) h).trans rfl, (cell_of_row _ _ 1 _ _ (0, 0) h).trans rfl, (cell_of_row _ _ 2 _ _ (0, 0) h).trans rfl, (cell_of_row _ _ 3 _ _ (0, 0) h).trans rfl, (cell_of_row _ _ 4 _ _ (0, 0) h).trans rfl, (cell_of_row _ _ 5 _ _ (0, 0) h).trans rfl, (cell_of_row _ _ 6 _ _ (0, 0) h).trans rfl, (cell_of_row _ _ 7 _ _ (0, 0) h).trans rfl, (cell_of_row _ _ 8 _ _ (0, 0) h).trans rfl, (cell_of_row _ _ 9 _ _ (0, 0) h).trans rfl, (cell_of_row _ _ 10 _ _ (0, 0) h).trans rfl, fun j => by simp [World.frozen?, h], lt_of_some h⟩
theorem refused_ok (w : World) (e : Int) : Calls Try.prog 44 #[.int .i64 e] w fun x w' => x = .returned (.agg #[.int .i64 e, .int .i64 (-1), .int .u32 0, .int .u32 0, .int .u32 0, .int .u32 0, .int .u32 0, .int .u32 0, .bool false, .bool false, .bool false]) ∧ Only (fun _ => False) w w' := by
  go_enter Try.func44, Try.ntmps44
  go_wp2_with fail
  refine bodyPost_ret (v := .agg #[.int .i64 e, .int .i64 (-1), .int .u32 0, .int .u32 0, .int .u32 0, .int .u32 0, .int .u32 0, .int .u32 0, .bool false, .bool false, .bool false]) ?_ rfl ⟨rfl, ?_⟩
  · simp [results, Try.results44, go_sem]
  · exact (Only.refl _ _).alloc _
end Go.Proofs.Ytdpgdjpphnbfnaa

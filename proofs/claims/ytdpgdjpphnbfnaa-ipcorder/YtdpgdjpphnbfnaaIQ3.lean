/- Chapter 10, the program's lines: Join, First, slices.Index. -/
import Derived.Test.YtdpgdjpphnbfnaaMP
import Derived.Lib.SliceRun
import Derived.Deep.RegionLaw
import Derived.Shelf.SlicesE.Delete
import Derived.LaidEqlPtr
namespace Go.Proofs.Ytdpgdjpphnbfnaa
open Go.ChangeShapes Go.WideShapes Go.ChangeAt Go.RowKit
open Go.Vx
set_option linter.unusedVariables false
variable {U V S : Nat → Prop} {w w2 : World} {qb c g : Nat} {v : Value} {gs : List Nat} {cur : Array Value} {T0 : TypeId}

theorem iw_zero (w : World) : (zeroValue 79).run Try.prog w = .ok (.pointer none) w := by kernel_rfl
theorem iwK : Kind Try.prog prL 72 79 := kind_of (z := .pointer none) (b := 8) Try.underlying72 (by kernel_rfl) rfl (by decide)
/-- A queue where it lies. -/
structure IqAt (w : World) (qb c : Nat) (cur : Array Value) (T0 : TypeId) (v : Value) (gs : List Nat) : Prop where
  b : w.heap[qb]? = some (.cells cur T0 (0, 0))
  c' : cur[c]? = some v
  o : OwnL prL w 0 79 v gs
  ne : ∀ k, v.ownBlock = some k → k ≠ qb
  n : gs.length < 10000000
theorem IqAt.c0 (h : IqAt w qb c cur T0 v gs) : w.cell? ⟨qb, c, none⟩ = some v := (cell_of_row _ _ c _ _ (0, 0) h.b).trans h.c'
theorem IqAt.fz (h : IqAt w qb c cur T0 v gs) (j : Nat) : w.frozen? ⟨qb, j, none⟩ = false := by
  have := h.b
  simp [World.frozen?, this]
/-- A queue changed. -/
def IqT (w : World) (qb c : Nat) (cur : Array Value) (T0 : TypeId) (v : Value) (gs : List Nat) (w' : World) : Prop := ∃ v', OwnL prL w' 0 79 v' gs ∧ w'.heap[qb]? = some (.cells (cur.setIfInBounds c v') T0 (0, 0)) ∧ Only (fun k => k = qb ∨ v.ownBlock = some k) w w' ∧ ∀ k, v'.ownBlock = some k → v.ownBlock = some k ∨ w.heap.size ≤ k
/-- What Join stores. -/
theorem IqAt.put {v' : Value} {w3 : World} {gs' : List Nat} (h : IqAt w qb c cur T0 v gs) (ho : OwnL prL w3 0 79 v' gs') (hon : Only (fun k => v.ownBlock = some k) w w3) (hl : ∀ k, v'.ownBlock = some k → v.ownBlock = some k ∨ w.heap.size ≤ k) :
    (∃ x, w3.cell? ⟨qb, c, none⟩ = some x) ∧ w3.frozen? ⟨qb, c, none⟩ = false ∧ IqT w qb c cur T0 v gs' (w3.setCell ⟨qb, c, none⟩ v') := by
  have hb := Only.keep hon h.b (fun e => h.ne qb e rfl)
  have ho2 : Only (fun k => k = qb) w3 (w3.setCell ⟨qb, c, none⟩ v') := Only.setCell (S := fun k => k = qb) (Only.refl _ _) (Or.inl rfl) _
  refine ⟨⟨_, (cell_of_row _ _ c _ _ (0, 0) hb).trans h.c'⟩, by simp [World.frozen?, hb], v', ?_, ?_, ?_, hl⟩
  · refine OwnL.kept ho ho2 (fun k hk e => ?_)
    rcases hl k hk with h1 | h1
    · exact h.ne k h1 e
    · have := lt_of_some h.b
      omega
  · exact heap_setCell_same _ _ c _ _ v' hb
  · exact (hon.mono (fun k _ h => Or.inr h)).trans (ho2.mono (fun k _ h => Or.inl h))
set_option maxHeartbeats 2000000 in
theorem ijoin_ok (h : IqAt w qb c cur T0 v gs) (g : Nat) : Calls Try.prog 56 #[.pointer (some ⟨qb, c, none⟩), .pointer (some ⟨g, 0, none⟩)] w fun e w' => (∃ x, e = .returned x) ∧ IqT w qb c cur T0 v (gs ++ [g]) w' := by
  have HH := Vx.hid h
  obtain ⟨q, ca, hv, _⟩ := h.o.form
  obtain ⟨N, hN⟩ : ∃ N, N = gs.length := ⟨_, rfl⟩
  rw [← hN] at hv
  subst hv
  have c0 := h.c0
  have HL1 : Hid (gs.length + 1 ≤ 10000000) := by show _ ≤ _; have := h.n; omega
  clear h hN
  go_enter Try.func56, Try.ntmps56
  go_wp2_with (at_builtin; refine wpList_append_one iwK _ rfl _ _ rfl 0 (.slice q N ca) _ rfl HH.out.o g _ _ rfl rfl rfl HL1.out (Nat.zero_le _) ?_; intro v' w8 hv1 hv2 hv3; obtain ⟨pz, cz, hvz, _⟩ := hv1.form; generalize (gs ++ [g]).length = mz at hvz; subst hvz; obtain ⟨⟨qx, q1⟩, q2, q3⟩ := HH.out.put hv1 hv2 (lies_of hv3); have HF := Vx.hid q3; clear hv1 hv2 hv3 q3)
  all_goals
    go_end0
    exact ⟨⟨_, rfl⟩, HF.out⟩
theorem ifirst_nil (h : IqAt w qb c cur T0 v []) : Calls Try.prog 19 #[.pointer (some ⟨qb, c, none⟩)] w fun e w' => e = .returned (.tuple #[.pointer none, .bool false]) ∧ w' = w := by
  obtain ⟨q, ca, hv, _⟩ := h.o.form
  have e0 : ([] : List Nat).length = 0 := rfl
  rw [e0] at hv
  subst hv
  have c0 := h.c0
  clear h
  go_enter Try.func19, Try.ntmps19
  go_wp2_with fail
  all_goals
    go_ret2
    exact ⟨rfl, rfl⟩
theorem ifirst_cons (h : IqAt w qb c cur T0 v (g :: gs)) : Calls Try.prog 19 #[.pointer (some ⟨qb, c, none⟩)] w fun e w' => e = .returned (.tuple #[.pointer (some ⟨g, 0, none⟩), .bool true]) ∧ w' = w := by
  obtain ⟨q, ca, hv, _, _, hg⟩ := h.o.form
  obtain ⟨b, rfl, _⟩ := hg (by simp)
  subst hv
  have b0 : w.cell? ⟨b, 0, none⟩ = some (.pointer (some ⟨g, 0, none⟩)) := h.o.cell 0 0 (by simp) (by decide)
  obtain ⟨N, hN⟩ : ∃ N, N = gs.length := ⟨_, rfl⟩
  have c0 := h.c0
  have hn := h.n
  rw [List.length_cons] at c0 hn
  rw [← hN] at c0 hn
  have h1 : (0 : Int) < (N : Int) + 1 := by omega
  have h2 : (((N + 1 : Nat) : Int) == 0) = false := by rw [beq_eq_false_iff_ne]; omega
  have h3 : ¬ ((N : Int) + 1 = 0) := by omega
  clear h hN
  go_enter Try.func19, Try.ntmps19
  go_wp2_with fail
  all_goals
    go_ret2
    exact ⟨rfl, rfl⟩
theorem iw_size : (Try.prog.info? 84).map (·.size) = some 9 := by kernel_rfl
theorem ieql_same {w : World} {x : Nat} (hx : Lv w x) : (binOp .eql 79 (.pointer (some ⟨x, 0, none⟩)) (.pointer (some ⟨x, 0, none⟩))).run Try.prog w = .ok (.bool true) w := by
  have h := iw_size
  cases hi : Try.prog.info? 84 with
  | none => rw [hi] at h; cases h
  | some j => exact run_eql_ptr_same w _ Try.underlying79 hi
theorem ieql_other {w : World} {x y : Nat} (hx : Lv w x) (hy : Lv w y) (hn : x ≠ y) : (binOp .eql 79 (.pointer (some ⟨x, 0, none⟩)) (.pointer (some ⟨y, 0, none⟩))).run Try.prog w = .ok (.bool false) w := by
  have h := iw_size
  obtain ⟨c1, t1, hx⟩ := hx
  obtain ⟨c2, t2, hy⟩ := hy
  cases hi : Try.prog.info? 84 with
  | none => rw [hi] at h; cases h
  | some j =>
    rw [hi] at h
    refine run_eql_ptr_other w (te := 84) Try.underlying79 hi ?_ (fun e => hn (by injection e)) hx hy
    have : j.size = 9 := by injection h
    omega
set_option maxRecDepth 100000 in
set_option maxHeartbeats 2000000 in
theorem iindex_ok (h : OwnL prL w 0 79 v gs) (hn : gs.length < 10000000) (hlv : ∀ x ∈ gs, Lv w x) (g : Nat) (hlg : Lv w g) : Calls Try.prog 57 #[v, .pointer (some ⟨g, 0, none⟩)] w fun e w' => e = .returned (.int .i64 (idI (gxF gs g))) ∧ w' = w := by
  obtain ⟨p, ca, rfl, _, _, hg⟩ := h.form
  have hb : ∀ (k : Nat) (hk : k < gs.length), ∃ b, p = some ⟨b, 0, none⟩ ∧ w.cell? ⟨b, k, none⟩ = some (.pointer (some ⟨gs[k], 0, none⟩)) := fun k hk => by
    obtain ⟨b, rfl, _⟩ := hg (by omega)
    refine ⟨b, rfl, ?_⟩
    have := h.cell k 0 hk (by decide)
    have e : prL.sz = 1 := rfl
    rw [e, Nat.mul_one, Nat.add_zero] at this
    exact this
  have HB := Vx.hid hb
  have HLV := Vx.hid hlv
  have HLG := Vx.hid hlg
  clear hlv hlg
  obtain ⟨N, hN⟩ : ∃ N, N = gs.length := ⟨_, rfl⟩
  have HN := Vx.hid hN
  rw [← hN] at hn ⊢
  clear h hb hg hN
  go_enter Try.func57, Try.ntmps57
  go_wp2_with fail
  go_loopw [5, 8] (fun _ d wr => ∃ k : Nat, d = .int .i64 (k : Int) ∧ k ≤ N ∧ Hid (idxF (fun b : Nat => decide (b = g)) (gs.drop k) k = gxF gs g) ∧ wr = w) (fun _ d _ => N - (RowKit.intOf d).toNat)
  case atStart => exact ⟨0, rfl, by omega, (show idxF _ (gs.drop 0) 0 = _ from by rw [List.drop_zero]; rfl), rfl⟩
  case round =>
    obtain ⟨k, rfl, hk, HQ, rfl⟩ := hrel
    by_cases hlt : k < N
    · have hlb : k < gs.length := by have := HN.out; omega
      have h1 : (k : Int) < (N : Int) := by omega
      have hidx : 0 ≤ (k : Int) ∧ (k : Int) < (N : Int) := by omega
      have hwk : IntKind.i64.wrap ((k : Int) + 1) = (k : Int) + 1 := by rw [IntKind.wrap_i64]; omega
      obtain ⟨b, rfl, b0⟩ := HB.out k hlb
      have hq := HQ.out
      rw [idxF_step gs k hlb] at hq
      by_cases he : gs[k] = g
      · rw [if_pos (decide_eq_true he)] at hq
        have HE := Vx.hid hq
        rw [he] at b0
        have hE := ieql_same HLG.out
        clear hq hlt HQ he
        go_wp2_with fail
        all_goals
          go_ret
          exact ⟨by rw [← HE.out]; rfl, rfl⟩
      · rw [if_neg (by simpa using he)] at hq
        have HE := Vx.hid hq
        have hE := ieql_other HLG.out (HLV.out gs[k] (List.getElem_mem hlb)) (fun e => he e.symm)
        generalize gs[k] = m at b0 he hE
        clear hq hlt HQ
        go_wp2_with fail
        go_roundw
        case rel => exact ⟨k + 1, by go_num, by omega, HE, trivial⟩
        case measure => simp only [RowKit.intOf]; omega
    · obtain rfl : k = N := by omega
      have hq := HQ.out
      rw [HN.out, idxF_end] at hq
      have HE := Vx.hid hq
      have h1 : ¬ (k : Int) < (k : Int) := by omega
      clear hq hlt HQ
      go_wp2_with fail
      all_goals
        go_ret
        exact ⟨by rw [← HE.out]; rfl, rfl⟩
end Go.Proofs.Ytdpgdjpphnbfnaa

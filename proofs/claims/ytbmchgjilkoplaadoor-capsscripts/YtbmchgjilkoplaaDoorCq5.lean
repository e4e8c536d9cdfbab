import Derived.Test.YtbmchgjilkoplaaDoorCq4
import Derived.Test.YtbmchgjilkoplaaDoorCq2
import Derived.Test.YtbmchgjilkoplaaDoorCq3
/- Chapter 7, the document's store: free, Get, From. -/
namespace Go.Proofs.YtbmchgjilkoplaaDoor
open Go.ChangeShapes Go.WideShapes Go.ChangeAt Go.RowKit
open Go.Vx
set_option linter.unusedVariables false

theorem full_cases (bs : List (Int × Int)) (es : List En) (s : Sl) : (∃ i, fullF bs es s = .ok i ∧ entF es s = some i) ∨ fullF bs es s = .error 9 ∨ fullF bs es s = .error 11 := by
  unfold fullF
  cases sizeF bs s.1 with
  | none => exact Or.inr (Or.inl rfl)
  | some n =>
    dsimp only
    by_cases h : s.2 < 0 ∨ n ≤ s.2
    · rw [if_pos h]; exact Or.inr (Or.inl rfl)
    · rw [if_neg h]
      cases entF es s with
      | none => exact Or.inr (Or.inr rfl)
      | some i => exact Or.inl ⟨i, rfl, rfl⟩
theorem entF_at {es : List En} {s : Sl} {i : Nat} (h : entF es s = some i) : ∃ hi : i < es.length, es[i].at' = s := by
  obtain ⟨hi, hp⟩ := idxF_get h
  rw [Nat.sub_zero] at hi
  exact ⟨hi, by simpa using hp⟩
theorem free_ok {U : Nat → Prop} {w : World} {rb : Nat} {vb ve : Value} {bs : List (Int × Int)} {es : List En} (h : RsAt U w rb vb ve bs es) (s : Sl) : Calls Tryd.prog 61 #[.pointer (some ⟨rb, 0, none⟩), .agg #[.int .i64 s.1, .int .i64 s.2]] w fun e w' => e = .returned (.int .i64 (freeF bs es s)) ∧ Only (fun _ => False) w w' := by
  obtain ⟨s1, s2⟩ := s
  have HFU : Hid (∀ wv, Only (fun _ => False) w wv → Calls Tryd.prog 62 #[.pointer (some ⟨rb, 0, none⟩), .agg #[.int .i64 s1, .int .i64 s2]] wv fun e w' => e = .returned (.tuple #[.int .i64 (fullI (fullF bs es (s1, s2))), .int .i64 (fullE (fullF bs es (s1, s2)))]) ∧ Only (fun _ => False) wv w') := fun wv hv => full_ok (h.quiet hv) (s1, s2)
  have HO : Hid (∀ o, Only (fun _ => False) w (w.alloc o)) := fun o => (Only.refl _ w).alloc _
  clear h
  dsimp only
  rcases full_cases bs es (s1, s2) with ⟨i, hf, _⟩ | hf | hf
  all_goals
    have HF := Vx.hid (congrArg (fun r => match r with | Except.ok _ => (10 : Int) | .error e => if e = 11 then 0 else e) hf)
    rw [hf] at HFU
    clear hf
    simp only [fullI, fullE] at HFU
    go_enter Tryd.func61, Tryd.ntmps61
    go_wp2_with fail
    refine (HFU.out _ (HO.out _)).mono ?_
    rintro e w2 ⟨rfl, hq⟩
    have HQ := Vx.hid hq
    clear hq HFU
    go_wp2_with fail
    all_goals
      go_ret
      exact ⟨congrArg (fun z => Ending.returned (.int .i64 z)) HF.out.symm, (HO.out _).trans HQ.out⟩
end Go.Proofs.YtbmchgjilkoplaaDoor

/- Chapter 7, the document's store: Get, From. -/
namespace Go.Proofs.YtbmchgjilkoplaaDoor
open Go.ChangeShapes Go.WideShapes Go.ChangeAt Go.RowKit
open Go.Vx
set_option linter.unusedVariables false

/-- One entry's cells. -/
structure E12 (w : World) (g k : Nat) (e : En) : Prop where
  c0 : w.cell? ⟨g, k * 12, none⟩ = some (.int .i64 e.at'.1)
  c1 : w.cell? ⟨g, k * 12 + 1, none⟩ = some (.int .i64 e.at'.2)
  c2 : w.cell? ⟨g, k * 12 + 2, none⟩ = some (.int .i64 e.cap.kind)
  c3 : w.cell? ⟨g, k * 12 + 3, none⟩ = some (.int .i64 e.cap.num)
  c4 : w.cell? ⟨g, k * 12 + 4, none⟩ = some (.int .i64 e.cap.rights)
  c5 : w.cell? ⟨g, k * 12 + 5, none⟩ = some (.int .u32 e.cap.badge)
  c6 : w.cell? ⟨g, k * 12 + 6, none⟩ = some (.int .u32 e.cap.guard)
  c7 : w.cell? ⟨g, k * 12 + 7, none⟩ = some (.int .i64 e.cap.gbits)
  c8 : w.cell? ⟨g, k * 12 + 8, none⟩ = some (.int .i64 e.cap.root)
  c9 : w.cell? ⟨g, k * 12 + 9, none⟩ = some (.int .u32 e.cap.va)
  c10 : w.cell? ⟨g, k * 12 + 10, none⟩ = some (.int .i64 e.from'.1)
  c11 : w.cell? ⟨g, k * 12 + 11, none⟩ = some (.int .i64 e.from'.2)
theorem own_e12 {w : World} {base g n c : Nat} {T : TypeId} {xs : List En} (h : OwnL enL w base T (.slice (some ⟨g, 0, none⟩) n c) xs) (k : Nat) (hk : k < xs.length) : E12 w g k xs[k] :=
  ⟨h.cell k 0 hk (by decide), h.cell k 1 hk (by decide), h.cell k 2 hk (by decide), h.cell k 3 hk (by decide), h.cell k 4 hk (by decide), h.cell k 5 hk (by decide), h.cell k 6 hk (by decide), h.cell k 7 hk (by decide), h.cell k 8 hk (by decide), h.cell k 9 hk (by decide), h.cell k 10 hk (by decide), h.cell k 11 hk (by decide)⟩
theorem RsAt.e12 {U : Nat → Prop} {w : World} {rb : Nat} {vb ve : Value} {bs : List (Int × Int)} {es : List En} (h : RsAt U w rb vb ve bs es) (k : Nat) (hk : k < es.length) : ∃ g c, ve = .slice (some ⟨g, 0, none⟩) es.length c ∧ E12 w g k es[k] := by
  obtain ⟨p, c, rfl, _, _, hg⟩ := h.e.form
  obtain ⟨g, rfl, _⟩ := hg (by omega)
  exact ⟨g, c, rfl, own_e12 h.e k hk⟩
def zeroCp : Cp := ⟨0, 0, 0, 0, 0, 0, 0, 0⟩
/-- What Get, From answer. -/
def getF (bs : List (Int × Int)) (es : List En) (s : Sl) : Cp × Int := match fullF bs es s with | .ok i => ((es.getD i .df).cap, 0) | .error e => (zeroCp, e)
def fromF (bs : List (Int × Int)) (es : List En) (s : Sl) : Sl × Int := match fullF bs es s with | .ok i => ((es.getD i .df).from', 0) | .error e => ((-1, -1), e)
def cpV (c : Cp) : Value := .agg #[.int .i64 c.kind, .int .i64 c.num, .int .i64 c.rights, .int .u32 c.badge, .int .u32 c.guard, .int .i64 c.gbits, .int .i64 c.root, .int .u32 c.va]
def slV (s : Sl) : Value := .agg #[.int .i64 s.1, .int .i64 s.2]
theorem new_second {w w2 : World} {a b : Obj} (h : Only (fun _ => False) ((w.alloc a).alloc b) w2) : w2.heap[w.heap.size + 1]? = some b := by
  have e : (w.alloc a).heap.size = w.heap.size + 1 := by simp
  have h1 := heap_alloc_last (w.alloc a) b
  rw [e] at h1
  rw [h.block _ (lt_of_some h1) (fun h => h)]
  exact h1
theorem cap_cells {w : World} {rc : Nat} {a0 a1 a2 a3 a4 a5 a6 a7 : Value} (h : w.heap[rc]? = some (.cells #[a0, a1, a2, a3, a4, a5, a6, a7] 66 (0, 0))) :
    (w.cell? ⟨rc, 0, none⟩ = some a0 ∧ w.cell? ⟨rc, 1, none⟩ = some a1 ∧ w.cell? ⟨rc, 2, none⟩ = some a2 ∧ w.cell? ⟨rc, 3, none⟩ = some a3 ∧ w.cell? ⟨rc, 4, none⟩ = some a4 ∧ w.cell? ⟨rc, 5, none⟩ = some a5 ∧ w.cell? ⟨rc, 6, none⟩ = some a6 ∧ w.cell? ⟨rc, 7, none⟩ = some a7) ∧ ∀ j, w.frozen? ⟨rc, j, none⟩ = false :=
  ⟨⟨(cell_of_row _ _ 0 _ _ (0, 0) h).trans rfl, (cell_of_row _ _ 1 _ _ (0, 0) h).trans rfl, (cell_of_row _ _ 2 _ _ (0, 0) h).trans rfl, (cell_of_row _ _ 3 _ _ (0, 0) h).trans rfl, (cell_of_row _ _ 4 _ _ (0, 0) h).trans rfl, (cell_of_row _ _ 5 _ _ (0, 0) h).trans rfl, (cell_of_row _ _ 6 _ _ (0, 0) h).trans rfl, (cell_of_row _ _ 7 _ _ (0, 0) h).trans rfl⟩, fun j => by simp [World.frozen?, h]⟩
set_option maxHeartbeats 1000000 in
theorem get_ok {U : Nat → Prop} {w : World} {rb : Nat} {vb ve : Value} {bs : List (Int × Int)} {es : List En} (h : RsAt U w rb vb ve bs es) (s : Sl) : Calls Tryd.prog 31 #[.pointer (some ⟨rb, 0, none⟩), .agg #[.int .i64 s.1, .int .i64 s.2]] w fun e w' => e = .returned (.tuple #[cpV (getF bs es s).1, .int .i64 (getF bs es s).2]) ∧ Only (fun _ => False) w w' := by
  obtain ⟨s1, s2⟩ := s
  have HFU : Hid (∀ wv, Only (fun _ => False) w wv → Calls Tryd.prog 62 #[.pointer (some ⟨rb, 0, none⟩), .agg #[.int .i64 s1, .int .i64 s2]] wv fun e w' => e = .returned (.tuple #[.int .i64 (fullI (fullF bs es (s1, s2))), .int .i64 (fullE (fullF bs es (s1, s2)))]) ∧ Only (fun _ => False) wv w') := fun wv hv => full_ok (h.quiet hv) (s1, s2)
  have HO : Hid (∀ o p, Only (fun _ => False) w ((w.alloc o).alloc p)) := fun o p => ((Only.refl _ w).alloc _).alloc _
  have HH := Vx.hid h
  clear h
  dsimp only
  rcases full_cases bs es (s1, s2) with ⟨i, hf, hi⟩ | hf | hf
  · obtain ⟨hil, _⟩ := entF_at hi
    have HG : Hid (getF bs es (s1, s2) = (es[i].cap, 0)) := by show getF bs es (s1, s2) = _; unfold getF; rw [hf]; simp [hil]
    rw [hf] at HFU
    simp only [fullI, fullE] at HFU
    clear hf hi
    go_enter Tryd.func31, Tryd.ntmps31
    go_wp2_with fail
    refine (HFU.out _ (HO.out _ _)).mono ?_
    rintro e w2 ⟨rfl, hq⟩
    have hO2 := (HO.out (.cells #[.int .i64 s1, .int .i64 s2] 62) (.cells #[.int .i64 0, .int .i64 0, .int .i64 0, .int .u32 0, .int .u32 0, .int .i64 0, .int .i64 0, .int .u32 0] 66)).trans hq
    have hz := new_second hq
    have hrl : w.heap.size ≤ w.heap.size + 1 := by omega
    have HO2 := Vx.hid (⟨hO2, hrl⟩ : _ ∧ _)
    obtain ⟨g, c, hve, hE⟩ := (HH.out.quiet hO2).e12 i hil
    have c1 := (HH.out.quiet hO2).c1
    rw [hve] at c1
    obtain ⟨⟨z0, z1, z2, z3, z4, z5, z6, z7⟩, zf⟩ := cap_cells hz
    obtain ⟨_, _, k0, k1, k2, k3, k4, k5, k6, k7, _, _⟩ := hE
    obtain ⟨N, hN⟩ : ∃ N, N = es.length := ⟨_, rfl⟩
    rw [← hN] at c1 hil
    generalize es[i].cap = cp at k0 k1 k2 k3 k4 k5 k6 k7 HG
    obtain ⟨d0, d1, d2, d3, d4, d5, d6, d7⟩ := cp
    dsimp only at k0 k1 k2 k3 k4 k5 k6 k7
    have hidx : 0 ≤ (i : Int) ∧ (i : Int) < (N : Int) := by omega
    obtain ⟨rc, hrc⟩ : ∃ rc, rc = w.heap.size + 1 := ⟨_, rfl⟩
    rw [← hrc] at z0 z1 z2 z3 z4 z5 z6 z7 zf HO2 ⊢
    clear hq hz hve hN hil HFU HH hO2 HO hrc hrl
    go_wp2_with fail
    refine bodyPost_ret (v := .tuple #[cpV ⟨d0, d1, d2, d3, d4, d5, d6, d7⟩, .int .i64 0]) ?_ rfl ⟨by rw [HG.out], ?_⟩
    · simp [results, Tryd.results31, go_sem, cpV, z0, z1, z2, z3, z4, z5, z6, z7]
    · repeat' (first | refine Only.setCell ?_ (Or.inr HO2.out.2) _ | exact HO2.out.1)
  · have HG : Hid (getF bs es (s1, s2) = (zeroCp, 9)) := by show getF bs es (s1, s2) = _; unfold getF; rw [hf]
    rw [hf] at HFU
    simp only [fullI, fullE] at HFU
    clear hf HH
    go_enter Tryd.func31, Tryd.ntmps31
    go_wp2_with fail
    refine (HFU.out _ (HO.out _ _)).mono ?_
    rintro e w2 ⟨rfl, hq⟩
    have hO2 := (HO.out (.cells #[.int .i64 s1, .int .i64 s2] 62) (.cells #[.int .i64 0, .int .i64 0, .int .i64 0, .int .u32 0, .int .u32 0, .int .i64 0, .int .i64 0, .int .u32 0] 66)).trans hq
    have hz := new_second hq
    have hrl : w.heap.size ≤ w.heap.size + 1 := by omega
    have HO2 := Vx.hid (⟨hO2, hrl⟩ : _ ∧ _)
    obtain ⟨⟨z0, z1, z2, z3, z4, z5, z6, z7⟩, zf⟩ := cap_cells hz
    obtain ⟨rc, hrc⟩ : ∃ rc, rc = w.heap.size + 1 := ⟨_, rfl⟩
    rw [← hrc] at z0 z1 z2 z3 z4 z5 z6 z7 zf HO2 ⊢
    clear hq hz HFU hO2 HO hrc hrl
    go_wp2_with fail
    refine bodyPost_ret (v := .tuple #[cpV zeroCp, .int .i64 9]) ?_ rfl ⟨by rw [HG.out], ?_⟩
    · simp [results, Tryd.results31, go_sem, cpV, zeroCp, z0, z1, z2, z3, z4, z5, z6, z7]
    · repeat' (first | refine Only.setCell ?_ (Or.inr HO2.out.2) _ | exact HO2.out.1)
  · have HG : Hid (getF bs es (s1, s2) = (zeroCp, 11)) := by show getF bs es (s1, s2) = _; unfold getF; rw [hf]
    rw [hf] at HFU
    simp only [fullI, fullE] at HFU
    clear hf HH
    go_enter Tryd.func31, Tryd.ntmps31
    go_wp2_with fail
    refine (HFU.out _ (HO.out _ _)).mono ?_
    rintro e w2 ⟨rfl, hq⟩
    have hO2 := (HO.out (.cells #[.int .i64 s1, .int .i64 s2] 62) (.cells #[.int .i64 0, .int .i64 0, .int .i64 0, .int .u32 0, .int .u32 0, .int .i64 0, .int .i64 0, .int .u32 0] 66)).trans hq
    have hz := new_second hq
    have hrl : w.heap.size ≤ w.heap.size + 1 := by omega
    have HO2 := Vx.hid (⟨hO2, hrl⟩ : _ ∧ _)
    obtain ⟨⟨z0, z1, z2, z3, z4, z5, z6, z7⟩, zf⟩ := cap_cells hz
    obtain ⟨rc, hrc⟩ : ∃ rc, rc = w.heap.size + 1 := ⟨_, rfl⟩
    rw [← hrc] at z0 z1 z2 z3 z4 z5 z6 z7 zf HO2 ⊢
    clear hq hz HFU hO2 HO hrc hrl
    go_wp2_with fail
    refine bodyPost_ret (v := .tuple #[cpV zeroCp, .int .i64 11]) ?_ rfl ⟨by rw [HG.out], ?_⟩
    · simp [results, Tryd.results31, go_sem, cpV, zeroCp, z0, z1, z2, z3, z4, z5, z6, z7]
    · repeat' (first | refine Only.setCell ?_ (Or.inr HO2.out.2) _ | exact HO2.out.1)
end Go.Proofs.YtbmchgjilkoplaaDoor

/- Chapter 7, the document's store: From. -/
namespace Go.Proofs.YtbmchgjilkoplaaDoor
open Go.ChangeShapes Go.WideShapes Go.ChangeAt Go.RowKit
open Go.Vx
set_option linter.unusedVariables false

theorem slot_cells {w : World} {rc : Nat} {a0 a1 : Value} (h : w.heap[rc]? = some (.cells #[a0, a1] 62 (0, 0))) : (w.cell? ⟨rc, 0, none⟩ = some a0 ∧ w.cell? ⟨rc, 1, none⟩ = some a1) ∧ ∀ j, w.frozen? ⟨rc, j, none⟩ = false :=
  ⟨⟨(cell_of_row _ _ 0 _ _ (0, 0) h).trans rfl, (cell_of_row _ _ 1 _ _ (0, 0) h).trans rfl⟩, fun j => by simp [World.frozen?, h]⟩
set_option maxHeartbeats 1000000 in
theorem from_ok {U : Nat → Prop} {w : World} {rb : Nat} {vb ve : Value} {bs : List (Int × Int)} {es : List En} (h : RsAt U w rb vb ve bs es) (s : Sl) : Calls Tryd.prog 38 #[.pointer (some ⟨rb, 0, none⟩), .agg #[.int .i64 s.1, .int .i64 s.2]] w fun e w' => e = .returned (.tuple #[slV (fromF bs es s).1, .int .i64 (fromF bs es s).2]) ∧ Only (fun _ => False) w w' := by
  obtain ⟨s1, s2⟩ := s
  have HFU : Hid (∀ wv, Only (fun _ => False) w wv → Calls Tryd.prog 62 #[.pointer (some ⟨rb, 0, none⟩), .agg #[.int .i64 s1, .int .i64 s2]] wv fun e w' => e = .returned (.tuple #[.int .i64 (fullI (fullF bs es (s1, s2))), .int .i64 (fullE (fullF bs es (s1, s2)))]) ∧ Only (fun _ => False) wv w') := fun wv hv => full_ok (h.quiet hv) (s1, s2)
  have HO : Hid (∀ o p, Only (fun _ => False) w ((w.alloc o).alloc p)) := fun o p => ((Only.refl _ w).alloc _).alloc _
  have HH := Vx.hid h
  clear h
  dsimp only
  rcases full_cases bs es (s1, s2) with ⟨i, hf, hi⟩ | hf | hf
  · obtain ⟨hil, _⟩ := entF_at hi
    have HG : Hid (fromF bs es (s1, s2) = (es[i].from', 0)) := by show fromF bs es (s1, s2) = _; unfold fromF; rw [hf]; simp [hil]
    rw [hf] at HFU
    simp only [fullI, fullE] at HFU
    clear hf hi
    go_enter Tryd.func38, Tryd.ntmps38
    go_wp2_with fail
    refine (HFU.out _ (HO.out _ _)).mono ?_
    rintro e w2 ⟨rfl, hq⟩
    have hO2 := (HO.out (.cells #[.int .i64 s1, .int .i64 s2] 62) (.cells #[.int .i64 0, .int .i64 0] 62)).trans hq
    have hz := new_second hq
    have hrl : w.heap.size ≤ w.heap.size + 1 := by omega
    have HO2 := Vx.hid (⟨hO2, hrl⟩ : _ ∧ _)
    obtain ⟨g, c, hve, hE⟩ := (HH.out.quiet hO2).e12 i hil
    have c1 := (HH.out.quiet hO2).c1
    rw [hve] at c1
    obtain ⟨⟨z0, z1⟩, zf⟩ := slot_cells hz
    obtain ⟨_, _, _, _, _, _, _, _, _, _, k0, k1⟩ := hE
    obtain ⟨N, hN⟩ : ∃ N, N = es.length := ⟨_, rfl⟩
    rw [← hN] at c1 hil
    generalize es[i].from' = cp at k0 k1 HG
    obtain ⟨d0, d1⟩ := cp
    dsimp only at k0 k1
    have hidx : 0 ≤ (i : Int) ∧ (i : Int) < (N : Int) := by omega
    obtain ⟨rc, hrc⟩ : ∃ rc, rc = w.heap.size + 1 := ⟨_, rfl⟩
    rw [← hrc] at z0 z1 zf HO2 ⊢
    clear hq hz hve hN hil HFU HH hO2 HO hrc hrl
    go_wp2_with fail
    refine bodyPost_ret (v := .tuple #[slV (d0, d1), .int .i64 0]) ?_ rfl ⟨by rw [HG.out], ?_⟩
    · simp [results, Tryd.results38, go_sem, slV, z0, z1]
    · repeat' (first | refine Only.setCell ?_ (Or.inr HO2.out.2) _ | exact HO2.out.1)
  · have HG : Hid (fromF bs es (s1, s2) = ((-1, -1), 9)) := by show fromF bs es (s1, s2) = _; unfold fromF; rw [hf]
    rw [hf] at HFU
    simp only [fullI, fullE] at HFU
    clear hf HH
    go_enter Tryd.func38, Tryd.ntmps38
    go_wp2_with fail
    refine (HFU.out _ (HO.out _ _)).mono ?_
    rintro e w2 ⟨rfl, hq⟩
    have HQ := Vx.hid hq
    clear hq HFU
    go_wp2_with fail
    refine (nowhere_ok _).mono ?_
    rintro e w3 ⟨rfl, hq3⟩
    have hq := HQ.out.trans hq3
    have hO2 := (HO.out (.cells #[.int .i64 s1, .int .i64 s2] 62) (.cells #[.int .i64 0, .int .i64 0] 62)).trans hq
    have hz := new_second hq
    have hrl : w.heap.size ≤ w.heap.size + 1 := by omega
    have HO2 := Vx.hid (⟨hO2, hrl⟩ : _ ∧ _)
    obtain ⟨⟨z0, z1⟩, zf⟩ := slot_cells hz
    obtain ⟨rc, hrc⟩ : ∃ rc, rc = w.heap.size + 1 := ⟨_, rfl⟩
    rw [← hrc] at z0 z1 zf HO2 ⊢
    clear hq hq3 hz hO2 HO hrc hrl HQ
    go_wp2_with fail
    refine bodyPost_ret (v := .tuple #[slV (-1, -1), .int .i64 9]) ?_ rfl ⟨by rw [HG.out], ?_⟩
    · simp [results, Tryd.results38, go_sem, slV, z0, z1]
    · repeat' (first | refine Only.setCell ?_ (Or.inr HO2.out.2) _ | exact HO2.out.1)
  · have HG : Hid (fromF bs es (s1, s2) = ((-1, -1), 11)) := by show fromF bs es (s1, s2) = _; unfold fromF; rw [hf]
    rw [hf] at HFU
    simp only [fullI, fullE] at HFU
    clear hf HH
    go_enter Tryd.func38, Tryd.ntmps38
    go_wp2_with fail
    refine (HFU.out _ (HO.out _ _)).mono ?_
    rintro e w2 ⟨rfl, hq⟩
    have HQ := Vx.hid hq
    clear hq HFU
    go_wp2_with fail
    refine (nowhere_ok _).mono ?_
    rintro e w3 ⟨rfl, hq3⟩
    have hq := HQ.out.trans hq3
    have hO2 := (HO.out (.cells #[.int .i64 s1, .int .i64 s2] 62) (.cells #[.int .i64 0, .int .i64 0] 62)).trans hq
    have hz := new_second hq
    have hrl : w.heap.size ≤ w.heap.size + 1 := by omega
    have HO2 := Vx.hid (⟨hO2, hrl⟩ : _ ∧ _)
    obtain ⟨⟨z0, z1⟩, zf⟩ := slot_cells hz
    obtain ⟨rc, hrc⟩ : ∃ rc, rc = w.heap.size + 1 := ⟨_, rfl⟩
    rw [← hrc] at z0 z1 zf HO2 ⊢
    clear hq hq3 hz hO2 HO hrc hrl HQ
    go_wp2_with fail
    refine bodyPost_ret (v := .tuple #[slV (-1, -1), .int .i64 11]) ?_ rfl ⟨by rw [HG.out], ?_⟩
    · simp [results, Tryd.results38, go_sem, slV, z0, z1]
    · repeat' (first | refine Only.setCell ?_ (Or.inr HO2.out.2) _ | exact HO2.out.1)
end Go.Proofs.YtbmchgjilkoplaaDoor

/- Lists of one's own, common to the packages: kinds, tags, where a grown list lies; a list as it lies. -/
namespace Go.Vx
theorem nodup_le {α : Type} [DecidableEq α] : ∀ (l m : List α), l.Nodup → (∀ x ∈ l, x ∈ m) → l.length ≤ m.length
  | [], m, _, _ => Nat.zero_le _
  | x :: l, m, hn, hs => by
    rw [List.nodup_cons] at hn
    have hx := hs x (by simp)
    have h1 := nodup_le l (m.erase x) hn.2 (fun y hy => by
      have hyx : y ≠ x := fun e => hn.1 (by rw [← e]; exact hy)
      exact (List.mem_erase_of_ne hyx).2 (hs y (by simp [hy])))
    rw [List.length_erase_of_mem hx] at h1
    have : 0 < m.length := List.length_pos_of_mem hx
    rw [List.length_cons]
    omega
end Go.Vx
namespace Go.Proofs.YtbmchgjilkoplaaDoor
open Go.ChangeShapes Go.WideShapes Go.ChangeAt Go.RowKit
open Go.Vx
set_option linter.unusedVariables false

theorem kind_of {α : Type} {L : Lay α} {t e : TypeId} {z : Value} {b : Nat} (ht : Tryd.prog.underlying t = some (.slice e)) (h : (Tryd.prog.info? e).map (fun i => (i.zero, i.size, i.bytes)) = some (some z, L.sz, b)) (hz : z.cells.size = L.sz) (hb : b ≤ 1000) : Kind Tryd.prog L t e := by
  refine ⟨ht, ?_⟩
  cases hq : Tryd.prog.info? e with
  | none => rw [hq] at h; simp at h
  | some i =>
    rw [hq] at h
    simp only [Option.map_some, Option.some.injEq, Prod.mk.injEq] at h
    exact ⟨i, z, rfl, h.1, h.2.1, by omega, hz⟩
theorem own_tag {α : Type} {L : Lay α} {w : World} {base : Nat} {e : TypeId} {v : Value} {xs : List α} (h : OwnL L w base e v xs) {k : Nat} (hk : v.ownBlock = some k) : ∃ cur, w.heap[k]? = some (.cells cur e (0, 0)) := by
  rcases h.2 with ⟨hv, _⟩ | ⟨g, cap, cur, hv, _, hg, _⟩
  · rw [hv] at hk; cases hk
  · rw [hv] at hk
    have : g = k := by simpa [Value.ownBlock] using hk
    subst this
    exact ⟨cur, hg⟩
theorem tag_ne {w : World} {j k : Nat} {c d : Array Value} {t u : TypeId} (h : w.heap[j]? = some (.cells c t (0, 0))) (h' : w.heap[k]? = some (.cells d u (0, 0))) (hn : t ≠ u) : j ≠ k := by
  rintro rfl
  rw [h] at h'
  injection h' with h'
  injection h' with _ h'
  exact hn h'
/-- Where a grown list lies. -/
theorem lies_of {w w3 : World} {v v' : Value} (h : v'.ownBlock = v.ownBlock ∨ ∃ g, v'.ownBlock = some g ∧ w.heap.size ≤ g ∧ Only (fun _ => False) w w3) : ∀ k, v'.ownBlock = some k → v.ownBlock = some k ∨ w.heap.size ≤ k := by
  intro k hk
  rcases h with h | ⟨g, h, hg, _⟩
  · rw [h] at hk; exact Or.inl hk
  · rw [h] at hk
    injection hk with hk
    subst hk
    exact Or.inr hg
theorem own_zero {α : Type} {L : Lay α} {w : World} {base : Nat} {e : TypeId} {v : Value} {xs : List α} (h : OwnL L w base e v xs) : OwnL L w 0 e v xs :=
  ⟨h.1, h.2.imp (fun h => h) (fun ⟨g, cap, cur, a, b, c⟩ => ⟨g, cap, cur, a, Nat.zero_le _, c⟩)⟩
theorem own_lt {α : Type} {L : Lay α} {w : World} {base : Nat} {e : TypeId} {v : Value} {xs : List α} (h : OwnL L w base e v xs) {k : Nat} (hk : v.ownBlock = some k) : base ≤ k ∧ k < w.heap.size := World.ownsRow.lt h k hk
theorem Only.keep {S : Nat → Prop} {w w2 : World} (h : Only S w w2) {b : Nat} {o : Obj} (hb : w.heap[b]? = some o) (hS : ¬ S b) : w2.heap[b]? = some o := by rw [h.block b (lt_of_some hb) hS]; exact hb
/-- The marks of a slot, where it lies. -/
theorem own_slot {w : World} {base g c m : Nat} {T : TypeId} {xs : List Sl} (h : OwnL slL w base T (.slice (some ⟨g, 0, none⟩) m c) xs) (hm : m = xs.length) (k : Nat) (hk : k < xs.length) (y : Sl) :
    OwnL slL ((w.setCell ⟨g, k * 2, none⟩ (.int .i64 y.1)).setCell ⟨g, k * 2 + 1, none⟩ (.int .i64 y.2)) base T (.slice (some ⟨g, 0, none⟩) m c) (xs.set k y) ∧ Only (fun b => b = g) w ((w.setCell ⟨g, k * 2, none⟩ (.int .i64 y.1)).setCell ⟨g, k * 2 + 1, none⟩ (.int .i64 y.2)) := by
  subst hm
  have h0 := (World.ownsRow.stored h (k * 2) (.int .i64 y.1)).1
  have h1 := (World.ownsRow.stored h0 (k * 2 + 1) (.int .i64 y.2)).1
  have o1 : Only (fun b => b = g) w (w.setCell ⟨g, k * 2, none⟩ (.int .i64 y.1)) := Only.setCell (S := fun b => b = g) (Only.refl _ w) (Or.inl rfl) _
  have o2 := Only.setCell (S := fun b => b = g) o1 (p := ⟨g, k * 2 + 1, none⟩) (Or.inl rfl) (.int .i64 y.2)
  refine ⟨?_, o2⟩
  have hz : ((fl slL xs).set (k * 2) (.int .i64 y.1)).set (k * 2 + 1) (.int .i64 y.2) = fl slL (xs.set k y) := by
    refine fl_set slL xs k y hk _ (by simp) (fun j hj => ?_) (fun i hi => ?_)
    · have hj' : j < 2 := hj
      have hlen : (fl slL xs).length = xs.length * 2 := length_fl slL xs
      have hs2 : slL.sz = 2 := rfl
      rw [hs2, List.getElem?_set, List.getElem?_set]
      rcases (by omega : j = 0 ∨ j = 1) with rfl | rfl
      · rw [if_neg (by omega), if_pos (by omega), if_pos (by rw [hlen]; omega)]; rfl
      · rw [if_pos (by omega), if_pos (by rw [List.length_set, hlen]; omega)]; rfl
    · have hs2 : slL.sz = 2 := rfl
      rw [hs2] at hi
      rw [List.getElem?_set, List.getElem?_set, if_neg (by omega), if_neg (by omega)]
  rw [hz] at h1
  show World.ownsRow _ _ _ _ _ (xs.set k y).length _
  rw [List.length_set]
  exact h1
/-- Numbers in a row. -/
def inL : Lay Int := ⟨fun x => [.int .i64 x], 1, fun _ => rfl, fun a u hu => by simp only [List.mem_cons, List.not_mem_nil, or_false] at hu; subst hu; rfl, by decide⟩
/-- A list as it lies. -/
def LieL {α : Type} (L : Lay α) (w : World) (v : Value) (xs : List α) : Prop := ∃ p c, v = .slice p xs.length c ∧ xs.length ≤ 10000000 ∧ ∀ (k : Nat) (hk : k < xs.length), ∃ g, p = some ⟨g, 0, none⟩ ∧ ∀ j, j < L.sz → w.cell? ⟨g, k * L.sz + j, none⟩ = (L.cf xs[k])[j]?
theorem own_lie {α : Type} {L : Lay α} {w : World} {base : Nat} {e : TypeId} {v : Value} {xs : List α} (h : OwnL L w base e v xs) (hn : xs.length ≤ 10000000) : LieL L w v xs := by
  obtain ⟨p, c, rfl, _, _, hg⟩ := h.form
  refine ⟨p, c, rfl, hn, fun k hk => ?_⟩
  obtain ⟨g, rfl, _⟩ := hg (by omega)
  exact ⟨g, rfl, fun j hj => h.cell k j hk hj⟩
end Go.Proofs.YtbmchgjilkoplaaDoor

import Derived.Test.YtbmchgjilkoplaaDoorCk26
/- Chapter 7, the program's store: what full and empty answer, in the document's words; Get, From. -/
namespace Go.Proofs.YtbmchgjilkoplaaDoor
open Go.ChangeShapes Go.WideShapes Go.ChangeAt Go.RowKit
open Go.Vx
set_option linter.unusedVariables false

/-- The program's store, as the document tells it. -/
def XcAt (U : Nat → Prop) (w : World) (xb : Nat) (bs : List (Int × Int)) (es : List En) : Prop := ∃ mb D G, XsAt U w xb mb D G bs (plF es) ∧ Wf bs es ∧ Wx bs es ∧ es.length ≤ 1000000
variable {U : Nat → Prop} {w : World} {xb mb : Nat} {D : DataW Value} {G : Int → Nat} {bs : List (Int × Int)} {es : List En}
theorem fullF_out {s : Sl} (h : OutF bs s) : fullF bs es s = .error 9 := by
  unfold fullF
  cases hs : sizeF bs s.1 with
  | none => rfl
  | some n =>
    dsimp only
    rw [if_pos (h n hs)]
theorem ent_or (es : List En) (s : Sl) : (∃ i, entF es s = some i) ∨ (entF es s = none ∧ ∀ e ∈ es, e.at' ≠ s) := by
  cases he : entF es s with
  | some i => exact Or.inl ⟨i, rfl⟩
  | none => exact Or.inr ⟨rfl, fun e hm hE => by have h1 := idxF_none he e hm; rw [hE] at h1; simp at h1⟩
theorem fullF_in {s : Sl} {n : Int} (h : sizeF bs s.1 = some n) (h0 : 0 ≤ s.2) (h1 : s.2 < n) : fullF bs es s = match entF es s with | none => .error 11 | some i => .ok i := by
  unfold fullF
  rw [h]
  dsimp only
  rw [if_neg (by omega)]
  cases entF es s <;> rfl
def slA (s : Sl) : Value := .agg #[.int .i64 s.1, .int .i64 s.2]
def cpA (c : Cp) : Value := .agg #[.int .i64 c.kind, .int .i64 c.num, .int .i64 c.rights, .int .u32 c.badge, .int .u32 c.guard, .int .i64 c.gbits, .int .i64 c.root, .int .u32 c.va]
/-- What full says. -/
theorem XsAt.full (h : XsAt U w xb mb D G bs (plF es)) (hf : Wf bs es) (hx : Wx bs es) (s : Sl) (hb : I64 s.1) :
    (∃ (k : Nat) (n : Int) (i : Nat), s.2 = (k : Int) ∧ sizeF bs s.1 = some n ∧ (k : Int) < n ∧ fullF bs es s = .ok i ∧ (plF es s).1.kind ≠ 0 ∧ ∀ w2, Only (fun _ => False) w w2 → Calls Tryd.prog 52 #[.pointer (some ⟨xb, 0, none⟩), .agg #[.int .i64 s.1, .int .i64 (k : Int)]] w2 fun e w' => e = .returned (.tuple #[.pointer (some ⟨G s.1, k * 10, none⟩), .int .i64 0]) ∧ Only (fun _ => False) w2 w') ∨
    (∃ er : Int, fullF bs es s = .error er ∧ er ≠ 0 ∧ ∀ w2, Only (fun _ => False) w w2 → Calls Tryd.prog 52 #[.pointer (some ⟨xb, 0, none⟩), .agg #[.int .i64 s.1, .int .i64 s.2]] w2 fun e w' => e = .returned (.tuple #[.pointer none, .int .i64 er]) ∧ Only (fun _ => False) w2 w') := by
  obtain ⟨s1, s2⟩ := s
  dsimp only at hb ⊢
  rcases in_or_out bs (s1, s2) with ⟨k, n, hk, hn, hlt⟩ | ho
  · dsimp only at hk hn
    subst hk
    have hfi := fullF_in (es := es) (s := (s1, (k : Int))) hn (by simp) hlt
    rcases ent_or es (s1, (k : Int)) with ⟨i, hi⟩ | ⟨hi, hne⟩
    · left
      obtain ⟨hil, hE⟩ := entF_at hi
      have hkd : (plF es (s1, (k : Int))).1.kind ≠ 0 := fun h0 => (plF_kind hx hf.once _).1 h0 _ (List.getElem_mem hil) hE
      exact ⟨k, n, i, rfl, hn, hlt, by rw [hfi, hi], hkd, fun w2 h2 => xfull_at (h.quiet h2) s1 hb k n hn hlt hkd⟩
    · right
      have hkd : (plF es (s1, (k : Int))).1.kind = 0 := (plF_kind hx hf.once _).2 hne
      exact ⟨11, by rw [hfi, hi], by decide, fun w2 h2 => xfull_no (h.quiet h2) s1 hb k n hn hlt hkd⟩
  · right
    exact ⟨9, fullF_out ho, by decide, fun w2 h2 => xfull_out (h.quiet h2) (s1, s2) hb ho⟩
/-- What empty says. -/
theorem XsAt.empty (h : XsAt U w xb mb D G bs (plF es)) (hf : Wf bs es) (hx : Wx bs es) (s : Sl) (hb : I64 s.1) :
    (∃ (k : Nat) (n : Int), s.2 = (k : Int) ∧ sizeF bs s.1 = some n ∧ (k : Int) < n ∧ freeF bs es s = 0 ∧ (plF es s).1.kind = 0 ∧ ∀ w2, Only (fun _ => False) w w2 → Calls Tryd.prog 60 #[.pointer (some ⟨xb, 0, none⟩), .agg #[.int .i64 s.1, .int .i64 (k : Int)]] w2 fun e w' => e = .returned (.tuple #[.pointer (some ⟨G s.1, k * 10, none⟩), .int .i64 0]) ∧ Only (fun _ => False) w2 w') ∨
    (∃ er : Int, freeF bs es s = er ∧ er ≠ 0 ∧ ∀ w2, Only (fun _ => False) w w2 → Calls Tryd.prog 60 #[.pointer (some ⟨xb, 0, none⟩), .agg #[.int .i64 s.1, .int .i64 s.2]] w2 fun e w' => e = .returned (.tuple #[.pointer none, .int .i64 er]) ∧ Only (fun _ => False) w2 w') := by
  obtain ⟨s1, s2⟩ := s
  dsimp only at hb ⊢
  rcases in_or_out bs (s1, s2) with ⟨k, n, hk, hn, hlt⟩ | ho
  · dsimp only at hk hn
    subst hk
    have hfi := fullF_in (es := es) (s := (s1, (k : Int))) hn (by simp) hlt
    rcases ent_or es (s1, (k : Int)) with ⟨i, hi⟩ | ⟨hi, hne⟩
    · right
      obtain ⟨hil, hE⟩ := entF_at hi
      have hkd : (plF es (s1, (k : Int))).1.kind ≠ 0 := fun h0 => (plF_kind hx hf.once _).1 h0 _ (List.getElem_mem hil) hE
      exact ⟨10, by unfold freeF; rw [hfi, hi], by decide, fun w2 h2 => xempty_no (h.quiet h2) s1 hb k n hn hlt hkd⟩
    · left
      have hkd : (plF es (s1, (k : Int))).1.kind = 0 := (plF_kind hx hf.once _).2 hne
      exact ⟨k, n, rfl, hn, hlt, by unfold freeF; rw [hfi, hi]; rfl, hkd, fun w2 h2 => xempty_at (h.quiet h2) s1 hb k n hn hlt hkd⟩
  · right
    exact ⟨9, by unfold freeF; rw [fullF_out ho]; rfl, by decide, fun w2 h2 => xempty_out (h.quiet h2) (s1, s2) hb ho⟩
set_option maxHeartbeats 1000000 in
theorem xget_ok (hc : XcAt U w xb bs es) (s : Sl) (hb : I64 s.1) : Calls Tryd.prog 18 #[.pointer (some ⟨xb, 0, none⟩), .agg #[.int .i64 s.1, .int .i64 s.2]] w fun e w' => e = .returned (.tuple #[cpV (getF bs es s).1, .int .i64 (getF bs es s).2]) ∧ Only (fun _ => False) w w' := by
  obtain ⟨mb, D, G, h, hf, hx, hl⟩ := hc
  have HO : Hid (∀ o p, Only (fun _ => False) w ((w.alloc o).alloc p)) := fun o p => ((Only.refl _ w).alloc _).alloc _
  rcases h.full hf hx s hb with ⟨k, n, i, hk, hn, hlt, hfi, hkd, hcall⟩ | ⟨er, hfi, her, hcall⟩
  · obtain ⟨hi, hE, hp⟩ := plF_full hf hfi
    have HG : Hid (getF bs es s = ((plF es s).1, 0)) := by show getF bs es s = _; unfold getF; rw [hfi, hp]; dsimp only; rw [getD_at es i hi]
    have HP : Hid (∀ w2, Only (fun _ => False) w w2 → P10 w2 (G s.1) k (plF es s)) := fun w2 ho => by
      have := (h.quiet ho).p10 hn k hlt
      rw [← hk] at this
      exact this
    have HC := Vx.hid hcall
    obtain ⟨s1, s2⟩ := s
    dsimp only at hk
    subst hk
    clear h hf hx hl hn hlt hfi hkd hcall hE hp hi hb
    dsimp only at HC ⊢
    go_enter Tryd.func18, Tryd.ntmps18
    go_wp2_with fail
    refine (HC.out _ (HO.out _ _)).mono ?_
    rintro e w2 ⟨rfl, hq⟩
    have hO2 := (HO.out (.cells #[.int .i64 s1, .int .i64 (k : Int)] 62) (.cells #[.int .i64 0, .int .i64 0, .int .i64 0, .int .u32 0, .int .u32 0, .int .i64 0, .int .i64 0, .int .u32 0] 66)).trans hq
    have hz := new_second hq
    have hrl : w.heap.size ≤ w.heap.size + 1 := by omega
    have HO2 := Vx.hid (⟨hO2, hrl⟩ : _ ∧ _)
    obtain ⟨⟨z0, z1, z2, z3, z4, z5, z6, z7⟩, zf⟩ := cap_cells hz
    obtain ⟨k0, k1, k2, k3, k4, k5, k6, k7, _, _⟩ := HP.out w2 hO2
    generalize (plF es (s1, (k : Int))).1 = cp at k0 k1 k2 k3 k4 k5 k6 k7 HG
    obtain ⟨d0, d1, d2, d3, d4, d5, d6, d7⟩ := cp
    dsimp only at k0 k1 k2 k3 k4 k5 k6 k7
    obtain ⟨rc, hrc⟩ : ∃ rc, rc = w.heap.size + 1 := ⟨_, rfl⟩
    rw [← hrc] at z0 z1 z2 z3 z4 z5 z6 z7 zf HO2 ⊢
    clear hq hz hO2 HO hrc hrl HC HP
    go_wp2_with fail
    refine bodyPost_ret (v := .tuple #[cpV ⟨d0, d1, d2, d3, d4, d5, d6, d7⟩, .int .i64 0]) ?_ rfl ⟨by rw [HG.out], ?_⟩
    · simp [results, Tryd.results18, go_sem, cpV, z0, z1, z2, z3, z4, z5, z6, z7]
    · repeat' (first | refine Only.setCell ?_ (Or.inr HO2.out.2) _ | exact HO2.out.1)
  · have HG : Hid (getF bs es s = (zeroCp, er)) := by show getF bs es s = _; unfold getF; rw [hfi]
    have her2 : (er == 0) = false := beq_eq_false_iff_ne.2 her
    have her3 : (er != 0) = true := by simp [bne, her2]
    have HC := Vx.hid hcall
    obtain ⟨s1, s2⟩ := s
    clear h hf hx hl hfi hcall hb her
    dsimp only at HC ⊢
    go_enter Tryd.func18, Tryd.ntmps18
    go_wp2_with fail
    refine (HC.out _ (HO.out _ _)).mono ?_
    rintro e w2 ⟨rfl, hq⟩
    have hO2 := (HO.out (.cells #[.int .i64 s1, .int .i64 s2] 62) (.cells #[.int .i64 0, .int .i64 0, .int .i64 0, .int .u32 0, .int .u32 0, .int .i64 0, .int .i64 0, .int .u32 0] 66)).trans hq
    have hz := new_second hq
    have hrl : w.heap.size ≤ w.heap.size + 1 := by omega
    have HO2 := Vx.hid (⟨hO2, hrl⟩ : _ ∧ _)
    obtain ⟨⟨z0, z1, z2, z3, z4, z5, z6, z7⟩, zf⟩ := cap_cells hz
    obtain ⟨rc, hrc⟩ : ∃ rc, rc = w.heap.size + 1 := ⟨_, rfl⟩
    rw [← hrc] at z0 z1 z2 z3 z4 z5 z6 z7 zf HO2 ⊢
    clear hq hz hO2 HO hrc hrl HC
    go_wp2_with fail
    refine bodyPost_ret (v := .tuple #[cpV zeroCp, .int .i64 er]) ?_ rfl ⟨by rw [HG.out], ?_⟩
    · simp [results, Tryd.results18, go_sem, cpV, zeroCp, z0, z1, z2, z3, z4, z5, z6, z7]
    · repeat' (first | refine Only.setCell ?_ (Or.inr HO2.out.2) _ | exact HO2.out.1)
set_option maxHeartbeats 1000000 in
theorem xfrom_ok (hc : XcAt U w xb bs es) (s : Sl) (hb : I64 s.1) : Calls Tryd.prog 21 #[.pointer (some ⟨xb, 0, none⟩), .agg #[.int .i64 s.1, .int .i64 s.2]] w fun e w' => e = .returned (.tuple #[slV (fromF bs es s).1, .int .i64 (fromF bs es s).2]) ∧ Only (fun _ => False) w w' := by
  obtain ⟨mb, D, G, h, hf, hx, hl⟩ := hc
  have HO : Hid (∀ o p, Only (fun _ => False) w ((w.alloc o).alloc p)) := fun o p => ((Only.refl _ w).alloc _).alloc _
  rcases h.full hf hx s hb with ⟨k, n, i, hk, hn, hlt, hfi, hkd, hcall⟩ | ⟨er, hfi, her, hcall⟩
  · obtain ⟨hi, hE, hp⟩ := plF_full hf hfi
    have HG : Hid (fromF bs es s = ((plF es s).2, 0)) := by show fromF bs es s = _; unfold fromF; rw [hfi, hp]; dsimp only; rw [getD_at es i hi]
    have HP : Hid (∀ w2, Only (fun _ => False) w w2 → P10 w2 (G s.1) k (plF es s)) := fun w2 ho => by
      have := (h.quiet ho).p10 hn k hlt
      rw [← hk] at this
      exact this
    have HC := Vx.hid hcall
    obtain ⟨s1, s2⟩ := s
    dsimp only at hk
    subst hk
    clear h hf hx hl hn hlt hfi hkd hcall hE hp hi hb
    dsimp only at HC ⊢
    go_enter Tryd.func21, Tryd.ntmps21
    go_wp2_with fail
    refine (HC.out _ (HO.out _ _)).mono ?_
    rintro e w2 ⟨rfl, hq⟩
    have hO2 := (HO.out (.cells #[.int .i64 s1, .int .i64 (k : Int)] 62) (.cells #[.int .i64 0, .int .i64 0] 62)).trans hq
    have hz := new_second hq
    have hrl : w.heap.size ≤ w.heap.size + 1 := by omega
    have HO2 := Vx.hid (⟨hO2, hrl⟩ : _ ∧ _)
    obtain ⟨⟨z0, z1⟩, zf⟩ := slot_cells hz
    obtain ⟨_, _, _, _, _, _, _, _, k0, k1⟩ := HP.out w2 hO2
    generalize (plF es (s1, (k : Int))).2 = cp at k0 k1 HG
    obtain ⟨d0, d1⟩ := cp
    dsimp only at k0 k1
    obtain ⟨rc, hrc⟩ : ∃ rc, rc = w.heap.size + 1 := ⟨_, rfl⟩
    rw [← hrc] at z0 z1 zf HO2 ⊢
    clear hq hz hO2 HO hrc hrl HC HP
    go_wp2_with fail
    refine bodyPost_ret (v := .tuple #[slV (d0, d1), .int .i64 0]) ?_ rfl ⟨by rw [HG.out], ?_⟩
    · simp [results, Tryd.results21, go_sem, slV, z0, z1]
    · repeat' (first | refine Only.setCell ?_ (Or.inr HO2.out.2) _ | exact HO2.out.1)
  · have HG : Hid (fromF bs es s = ((-1, -1), er)) := by show fromF bs es s = _; unfold fromF; rw [hfi]
    have her2 : (er == 0) = false := beq_eq_false_iff_ne.2 her
    have her3 : (er != 0) = true := by simp [bne, her2]
    have HC := Vx.hid hcall
    have HN : Hid (∀ w2, Only (fun _ => False) w w2 → w2.heap[0]? = some (.cells #[.int .i64 (-1), .int .i64 (-1)] 62 (0, 0))) := fun w2 h2 => (h.quiet h2).ns
    obtain ⟨s1, s2⟩ := s
    clear h hf hx hl hfi hcall hb her
    dsimp only at HC ⊢
    go_enter Tryd.func21, Tryd.ntmps21
    go_wp2_with fail
    refine (HC.out _ (HO.out _ _)).mono ?_
    rintro e w2 ⟨rfl, hq⟩
    have hO2 := (HO.out (.cells #[.int .i64 s1, .int .i64 s2] 62) (.cells #[.int .i64 0, .int .i64 0] 62)).trans hq
    have hz := new_second hq
    have hrl : w.heap.size ≤ w.heap.size + 1 := by omega
    have HO2 := Vx.hid (⟨hO2, hrl⟩ : _ ∧ _)
    obtain ⟨⟨z0, z1⟩, zf⟩ := slot_cells hz
    obtain ⟨⟨n0, n1⟩, _⟩ := slot_cells (HN.out w2 hO2)
    obtain ⟨rc, hrc⟩ : ∃ rc, rc = w.heap.size + 1 := ⟨_, rfl⟩
    rw [← hrc] at z0 z1 zf HO2 ⊢
    clear hq hz hO2 HO hrc hrl HC HN
    go_wp2_with fail
    refine bodyPost_ret (v := .tuple #[slV (-1, -1), .int .i64 er]) ?_ rfl ⟨by rw [HG.out], ?_⟩
    · simp [results, Tryd.results21, go_sem, slV, z0, z1]
    · repeat' (first | refine Only.setCell ?_ (Or.inr HO2.out.2) _ | exact HO2.out.1)
end Go.Proofs.YtbmchgjilkoplaaDoor

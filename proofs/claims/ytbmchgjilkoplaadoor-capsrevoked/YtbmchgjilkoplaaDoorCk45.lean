import Derived.Test.YtbmchgjilkoplaaDoorCk21
import Derived.Test.YtbmchgjilkoplaaDoorCk44
/- vaultkeep's pick. -/
namespace Go.Proofs.YtbmchgjilkoplaaDoor
open Go.ChangeShapes Go.WideShapes Go.ChangeAt Go.RowKit
open Go.Vx

theorem pickK_any (m : Nat) (hm : 1 ≤ m) (hm2 : m ≤ 4398046511104) (n : Int) (h0 : -9223372036854775808 ≤ n) (h1 : n ≤ 9223372036854775807) (w : World) :
    Calls Tryd.prog 48 #[.int .i64 n, .int .i64 (m : Int)] w fun e w' => e = .returned (.int .i64 (pickL n m : Nat)) ∧ w' = w := by
  have hz : ¬ (m : Int) = 0 := by omega
  have hz1 : ¬ (m : Int) = -1 := by omega
  by_cases hn : n < 0
  · have hr : -(n + 1).tmod (m : Int) = (pickL n m : Nat) := by
      rw [← Int.neg_tmod, Int.tmod_eq_emod_of_nonneg (by omega)]
      unfold pickL
      rw [if_pos hn, Int.natCast_emod, Int.toNat_of_nonneg (by omega)]
    have HR := Vx.hid hr
    clear hr
    generalize pickL n m = k at HR
    go_enter Tryd.func48, Tryd.ntmps48
    go_wp2
    all_goals
      go_ret
      refine ⟨?_, rfl⟩
      show Ending.returned (Value.int .i64 (-(n + 1).tmod (m : Int))) = _
      rw [HR.out]
  · have hr : n.tmod (m : Int) = (pickL n m : Nat) := by
      rw [Int.tmod_eq_emod_of_nonneg (by omega)]
      unfold pickL
      rw [if_neg hn, Int.natCast_emod, Int.toNat_of_nonneg (by omega)]
    have hk : (pickL n m) < m := Nat.mod_lt _ (by omega)
    generalize pickL n m = k at hr hk
    have hw3 : IntKind.i64.wrap (k : Int) = (k : Int) := by rw [IntKind.wrap_i64]; omega
    go_enter Tryd.func48, Tryd.ntmps48
    go_wp2
    all_goals
      go_ret
      first | exact ⟨rfl, rfl⟩ | skip
end Go.Proofs.YtbmchgjilkoplaaDoor

/- CapsTree, CapsRevoked: the thirty-two places, and where each comes from (pure; pick, place). -/
namespace Go.Proofs.YtbmchgjilkoplaaDoor
open Go.ChangeShapes Go.WideShapes Go.ChangeAt Go.RowKit
open Go.Vx
set_option linter.unusedVariables false

/-- The place of a number. -/
def plcN (n : Nat) : Sl := (((1 + n / 16 : Nat) : Int), ((n % 16 : Nat) : Int))
theorem plcN_inj {m n : Nat} (h : plcN m = plcN n) : m = n := by
  unfold plcN at h
  have h1 := congrArg Prod.fst h
  have h2 := congrArg Prod.snd h
  simp only at h1 h2
  omega
def two16 : List (Int × Int) := [(1, 16), (2, 16)]
theorem plc_i64 (n : Nat) (h : n < 32) : I64 (plcN n).1 ∧ (plcN n).1 ≠ -1 ∧ 0 ≤ (plcN n).2 ∧ (plcN n).2 < 16 := by
  unfold plcN I64
  simp only
  omega
theorem size16 (n : Nat) (h : n < 32) : sizeF two16 (plcN n).1 = some 16 := by
  have : n / 16 = 0 ∨ n / 16 = 1 := by omega
  unfold plcN
  rcases this with h | h <;> rw [h] <;> rfl
theorem full16 (es : List En) (n : Nat) (h : n < 32) : (∃ i, fullF two16 es (plcN n) = .ok i) ∨ fullF two16 es (plcN n) = .error 11 := by
  obtain ⟨_, _, h1, h2⟩ := plc_i64 n h
  rw [fullF_in (size16 n h) h1 h2]
  cases entF es (plcN n) with
  | none => exact Or.inr rfl
  | some i => exact Or.inl ⟨i, rfl⟩
theorem getF_e (bs : List (Int × Int)) (es : List En) (s : Sl) : (getF bs es s).2 = fullE (fullF bs es s) := by
  unfold getF
  cases fullF bs es s <;> rfl
theorem fromF_e (bs : List (Int × Int)) (es : List En) (s : Sl) : (fromF bs es s).2 = fullE (fullF bs es s) := by
  unfold fromF
  cases fullF bs es s <;> rfl
/-- The capability that is put. -/
def cp7 : Cp := ⟨7, 9, 7, 0, 0, 0, 0, 0⟩
theorem put16_full {es : List En} {n i : Nat} (f : Sl) (h : fullF two16 es (plcN n) = .ok i) : putE two16 es (plcN n) cp7 f = 10 := by
  have : freeF two16 es (plcN n) = 10 := by unfold freeF; rw [h]
  rw [put_free (by decide) (by rw [this]; decide), this]
theorem put16_from {es : List En} {n k : Nat} (hk : k < 32) (h : fullF two16 es (plcN n) = .error 11) : putE two16 es (plcN n) cp7 (plcN k) = fullE (fullF two16 es (plcN k)) := by
  have : freeF two16 es (plcN n) = 0 := by unfold freeF; rw [h]; rfl
  rw [put_from (by decide) this (plc_i64 k hk).2.1]
theorem move16_none {es : List En} {k : Nat} (t : Sl) (h : fullF two16 es (plcN k) = .error 11) : moveE two16 es (plcN k) t = 11 := by unfold moveE; rw [h]
theorem move16_full {es : List En} {k n i j : Nat} (h : fullF two16 es (plcN k) = .ok i) (h2 : fullF two16 es (plcN n) = .ok j) : moveE two16 es (plcN k) (plcN n) = 10 := by unfold moveE freeF; rw [h, h2]
theorem move16_free {es : List En} {k n i : Nat} (h : fullF two16 es (plcN k) = .ok i) (h2 : fullF two16 es (plcN n) = .error 11) : moveE two16 es (plcN k) (plcN n) = 0 := by unfold moveE freeF; rw [h, h2]; rfl
/-- Where a slot lies, as a number. -/
def upS (t : Sl) : Int := if t.1 = -1 then -1 else 16 * (t.1 - 1) + t.2
def upP (p : Pl) : Int := if p.1.kind = 0 then -2 else upS p.2
theorem upS_plc (n : Nat) : upS (plcN n) = n := by
  unfold upS plcN
  simp only
  rw [if_neg (by omega)]
  omega
def GdS (t : Sl) : Prop := t = (-1, -1) ∨ ∃ m, m < 32 ∧ t = plcN m
theorem at_plc {es : List En} (hx : Wx two16 es) {e : En} (he : e ∈ es) : ∃ m, m < 32 ∧ e.at' = plcN m := by
  obtain ⟨b, hb, h1, h2, h3⟩ := hx.ix e he
  simp only [two16, List.mem_cons, List.not_mem_nil, or_false] at hb
  generalize e.at' = q at h1 h2 h3
  obtain ⟨a1, a2⟩ := q
  simp only at h1 h2 h3
  rcases hb with rfl | rfl
  · simp only at h1 h3
    refine ⟨a2.toNat, by omega, ?_⟩
    unfold plcN
    apply Prod.ext <;> simp only <;> omega
  · simp only at h1 h3
    refine ⟨16 + a2.toNat, by omega, ?_⟩
    unfold plcN
    apply Prod.ext <;> simp only <;> omega
theorem from_gd {es : List En} (hf : Wf two16 es) (hx : Wx two16 es) {e : En} (he : e ∈ es) : GdS e.from' := by
  rcases hf.fr e he with h | ⟨e2, h2, h3⟩
  · exact Or.inl h
  · obtain ⟨m, hm, h4⟩ := at_plc hx h2
    exact Or.inr ⟨m, hm, by rw [← h3, h4]⟩
theorem pl_gd {es : List En} (hf : Wf two16 es) (hx : Wx two16 es) (s : Sl) : (plF es s).1.kind = 0 ∨ GdS (plF es s).2 := by
  rcases at_or es s with ⟨e, he, rfl⟩ | hn
  · rw [plF_mem hf.once he]
    exact Or.inr (from_gd hf hx he)
  · rw [plF_none hn]
    exact Or.inl rfl
theorem upS_gd {t : Sl} (h : GdS t) (k : Nat) (hk : k < 32) : upS t = k ↔ t = plcN k := by
  rcases h with rfl | ⟨m, hm, rfl⟩
  · constructor
    · intro h
      have : upS (-1, -1) = -1 := rfl
      omega
    · intro h
      have := (plc_i64 k hk).2.1
      rw [← h] at this
      exact absurd rfl this
  · rw [upS_plc]
    constructor
    · intro h
      have : m = k := by omega
      rw [this]
    · intro h
      rw [plcN_inj h]
theorem upS_ge {t : Sl} (h : GdS t) : -1 ≤ upS t ∧ upS t < 32 := by
  rcases h with rfl | ⟨m, hm, rfl⟩
  · exact ⟨by decide, by decide⟩
  · rw [upS_plc]; omega
theorem upP_k {p : Pl} (h : p.1.kind = 0 ∨ GdS p.2) (k : Nat) (hk : k < 32) : upP p = k ↔ (p.1.kind ≠ 0 ∧ p.2 = plcN k) := by
  unfold upP
  by_cases h0 : p.1.kind = 0
  · rw [if_pos h0]
    constructor
    · intro h; omega
    · intro h; exact absurd h0 h.1
  · rw [if_neg h0, upS_gd (h.resolve_left h0) k hk]
    exact ⟨fun h => ⟨h0, h⟩, fun h => h.2⟩
theorem upP_rel {p : Pl} (h : p.1.kind = 0 ∨ GdS p.2) (k : Nat) (hk : k < 32) (t : Sl) : upP (relF (plcN k) t p) = if upP p = k then upS t else upP p := by
  unfold relF
  by_cases h1 : p.1.kind ≠ 0 ∧ p.2 = plcN k
  · rw [if_pos h1, if_pos ((upP_k h k hk).2 h1)]
    unfold upP
    rw [if_neg h1.1]
  · rw [if_neg h1, if_neg (fun h2 => h1 ((upP_k h k hk).1 h2))]
/-- From which place each comes. -/
def uF (es : List En) (m : Nat) : Int := upP (plF es (plcN m))
theorem uF_i64 {es : List En} (hf : Wf two16 es) (hx : Wx two16 es) (m : Nat) : -2 ≤ uF es m ∧ uF es m < 32 := by
  unfold uF upP
  split
  · omega
  · rename_i h0
    have := upS_ge ((pl_gd hf hx (plcN m)).resolve_left h0)
    omega
theorem uF_put {es : List En} (hf : Wf two16 es) (hx : Wx two16 es) {n k : Nat} (hk : k < 32) (he : putE two16 es (plcN n) cp7 (plcN k) = 0) (m : Nat) : uF (putL two16 es (plcN n) cp7 (plcN k)) m = if m = n then (k : Int) else uF es m := by
  unfold uF
  rw [plF_put hf hx (by unfold GuOk cp7; decide) he]
  by_cases h : m = n
  · rw [if_pos h, if_pos (by rw [h])]
    unfold upP
    rw [if_neg (by show ¬ (7 : Int) = 0; decide)]
    show upS (fromN (plcN k)) = k
    unfold fromN
    rw [if_neg (plc_i64 k hk).2.1, upS_plc]
  · rw [if_neg h, if_neg (fun h2 => h (plcN_inj h2))]
theorem uF_take {es : List En} (hf : Wf two16 es) (hx : Wx two16 es) {k i : Nat} (hk : k < 32) (h : fullF two16 es (plcN k) = .ok i) (m : Nat) : uF (takeL two16 es (plcN k)) m = if m = k then -2 else if uF es m = k then uF es k else uF es m := by
  unfold uF
  rw [plF_take hf hx h]
  by_cases hm : m = k
  · rw [if_pos (by rw [hm]), if_pos hm]; rfl
  · rw [if_neg (fun h2 => hm (plcN_inj h2)), if_neg hm, upP_rel (pl_gd hf hx _) k hk]
    have h3 : upS (plF es (plcN k)).2 = upP (plF es (plcN k)) := by
      obtain ⟨hi, hE, hp⟩ := plF_full hf h
      unfold upP
      rw [hp]
      have := hx.kd _ (List.getElem_mem hi)
      rw [if_neg (by simp only; omega)]
    rw [h3]
theorem uF_move {es : List En} (hf : Wf two16 es) (hx : Wx two16 es) {k n i : Nat} (hk : k < 32) (h : fullF two16 es (plcN k) = .ok i) (h2 : fullF two16 es (plcN n) = .error 11) (m : Nat) : uF (moveL two16 es (plcN k) (plcN n)) m = if m = n then uF es k else if m = k then -2 else if uF es m = k then (n : Int) else uF es m := by
  have hfr : freeF two16 es (plcN n) = 0 := by unfold freeF; rw [h2]; rfl
  unfold uF
  rw [plF_move hf hx h hfr]
  by_cases hm : m = n
  · rw [if_pos (by rw [hm]), if_pos hm, upP_rel (pl_gd hf hx _) k hk, if_neg]
    intro h3
    have h4 := ((upP_k (pl_gd hf hx _) k hk).1 h3).2
    obtain ⟨hi, hE, hp⟩ := plF_full hf h
    obtain ⟨r, hr⟩ := hf.rk
    have h5 := hr _ (List.getElem_mem hi)
    rw [hp] at h4
    simp only at h4
    rw [h4, hE] at h5
    omega
  · rw [if_neg (fun h3 => hm (plcN_inj h3)), if_neg hm]
    by_cases hm2 : m = k
    · rw [if_pos (by rw [hm2]), if_pos hm2]
      have : relF (plcN k) (plcN n) zeroPl = zeroPl := by unfold relF; rw [if_neg (fun h => h.1 rfl)]
      rw [this]; rfl
    · rw [if_neg (fun h3 => hm2 (plcN_inj h3)), if_neg hm2, upP_rel (pl_gd hf hx _) k hk, upS_plc]
/-- All capabilities are of one object. -/
def K7 (es : List En) : Prop := ∀ e ∈ es, e.cap.kind = 7 ∧ e.cap.num = 9
theorem K7.put {es : List En} (h : K7 es) (bs : List (Int × Int)) (a f : Sl) : K7 (putL bs es a cp7 f) := by
  unfold putL
  split
  · intro e he
    rcases mem_insF.1 he with rfl | he
    · exact ⟨rfl, rfl⟩
    · exact h e he
  · exact h
theorem K7.cut {es : List En} (h : K7 es) (i : Nat) (t : Sl) : K7 (cutL es i t) := fun y hy => by
  obtain ⟨e, he, rfl⟩ := mem_cutL hy
  rw [(cutY_at _ _ e).2]
  exact h e (List.mem_of_mem_eraseIdx he)
theorem K7.take {es : List En} (h : K7 es) (bs : List (Int × Int)) (s : Sl) : K7 (takeL bs es s) := by
  unfold takeL
  cases fullF bs es s with
  | ok i => exact h.cut i _
  | error e => exact h
theorem K7.move {bs : List (Int × Int)} {es : List En} (h : K7 es) (s t : Sl) : K7 (moveL bs es s t) := by
  unfold moveL
  cases hf : fullF bs es s with
  | error e => exact h
  | ok i =>
    dsimp only
    split
    · intro e he
      rcases mem_insF.1 he with rfl | he
      · obtain ⟨hi, _⟩ := full_at hf
        show (es.getD i .df).cap.kind = 7 ∧ (es.getD i .df).cap.num = 9
        rw [getD_at es i hi]
        exact h _ (List.getElem_mem hi)
      · exact h.cut i t e he
    · exact h
theorem take_len (bs : List (Int × Int)) (es : List En) (s : Sl) : (takeL bs es s).length ≤ es.length := by
  unfold takeL
  cases fullF bs es s with
  | ok i => exact cutL_len es i _
  | error e => exact Nat.le_refl _
theorem pick_plc (n : Nat) (h : n < 32) : plcN (pickL (n : Int) 32) = plcN n := by
  unfold pickL
  rw [if_neg (by omega), Int.toNat_natCast, Nat.mod_eq_of_lt h]
theorem pickL_lt (n : Int) (m : Nat) (hm : 1 ≤ m) : pickL n m < m := Nat.mod_lt _ (by omega)
theorem place_ok (n : Int) (h : I64 n) (w : World) : Calls Tryd.prog 17 #[.int .i64 n] w fun e w' => e = .returned (slV (plcN (pickL n 32))) ∧ Only (fun _ => False) w w' := by
  have HP := Vx.hid (fun wv => pickK_any 32 (by decide) (by decide) n h.1 h.2 wv)
  have hk := pickL_lt n 32 (by decide)
  have HO : Hid (∀ o, Only (fun _ => False) w (w.alloc o)) := fun o => (Only.refl _ w).alloc o
  clear h
  generalize pickL n 32 = k at HP hk
  have e1 : (k : Int).tdiv 16 = ((k / 16 : Nat) : Int) := by rw [Int.tdiv_eq_ediv_of_nonneg (by omega)]; omega
  have e2 : (k : Int).tmod 16 = ((k % 16 : Nat) : Int) := by rw [Int.tmod_eq_emod_of_nonneg (by omega)]; omega
  have e3 : (1 : Int) + ((k / 16 : Nat) : Int) = ((1 + k / 16 : Nat) : Int) := by omega
  obtain ⟨a, ha⟩ : ∃ a, a = ((k / 16 : Nat) : Int) := ⟨_, rfl⟩
  obtain ⟨b, hb⟩ : ∃ b, b = ((k % 16 : Nat) : Int) := ⟨_, rfl⟩
  have HV : Hid (slV (plcN k) = .agg #[.int .i64 (1 + a), .int .i64 b]) := by show slV (plcN k) = _; rw [ha, hb, e3]; rfl
  have a0 : 0 ≤ a ∧ a < 2 := by omega
  have b0 : 0 ≤ b ∧ b < 16 := by omega
  rw [← ha] at e1
  rw [← hb] at e2
  clear e3 ha hb
  go_enter Tryd.func17, Tryd.ntmps17
  go_wp2_with fail
  refine (HP.out _).mono ?_
  rintro e w' ⟨rfl, hh⟩
  have h2 := hh.symm; clear hh; subst h2
  have e1' : (k : Int) / 16 = a := by rw [← e1, Int.tdiv_eq_ediv_of_nonneg (by omega)]
  have e2' : (k : Int) % 16 = b := by rw [← e2, Int.tmod_eq_emod_of_nonneg (by omega)]
  have w1 : IntKind.i64.wrap a = a := by rw [IntKind.wrap_i64]; omega
  have w2 : IntKind.i64.wrap b = b := by rw [IntKind.wrap_i64]; omega
  have w3 : IntKind.i64.wrap (1 + a) = 1 + a := by rw [IntKind.wrap_i64]; omega
  clear hk a0 b0
  go_wp2_with fail
  refine bodyPost_ret (v := .agg #[.int .i64 (1 + a), .int .i64 b]) ?_ rfl ⟨by rw [HV.out], HO.out _⟩
  simp [results, Tryd.results17, go_sem]
end Go.Proofs.YtbmchgjilkoplaaDoor

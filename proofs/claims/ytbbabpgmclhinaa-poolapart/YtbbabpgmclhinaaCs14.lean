import Derived.Test.YtbbabpgmclhinaaCs13
/- Chapter 8, the document's pool: Give: its refusals. -/
namespace Go.Proofs.Ytbbabpgmclhinaa
open Go.ChangeShapes Go.WideShapes Go.ChangeAt Go.RowKit
open Go.Vx
set_option linter.unusedVariables false
variable {U S : Nat → Prop} {w w2 wr : World} {pb : Nat} {P : Int} {vo vr v : Value} {os rs : List (Int × Int)} {ns : List Int}

/-- Where it refuses. -/
def GvK (U : Nat → Prop) (w : World) (pb : Nat) (P : Int) (os rs : List (Int × Int)) (num kind order many : Int) : Prop := ∀ wv, Only (fun _ => False) w wv → OwnL inL wv w.heap.size 3 (.slice none 0 0) (giveRs os rs num kind order many) ∧ PcAt U wv pb P (giveRO os rs num kind order many) (giveRG os rs num kind order many) ∧ Only (fun k => ¬ U k) w wv
theorem gvK (hc : PcAt U w pb P os rs) {num kind order many : Int} (h : giveE os rs num kind order many ≠ 0) : GvK U w pb P os rs num kind order many := fun wv hv => by
  obtain ⟨vo, vr, hp⟩ := hc
  unfold giveRs giveRO giveRG
  rw [if_neg h, if_neg h, if_neg h]
  exact ⟨OwnL.nil _ _ _ _, ⟨vo, vr, hp.quiet hv⟩, hv.mono (fun _ _ h => h.elim)⟩
theorem give_k0 (hc : PcAt U w pb P os rs) (num kind order many : Int) (h : kind < 1) :
    Calls Try.prog 38 #[.pointer (some ⟨pb, 0, none⟩), .int .i64 num, .int .i64 kind, .int .i64 order, .int .i64 many] w fun e w' => ∃ v, e = .returned (.tuple #[v, .int .i64 (giveE os rs num kind order many)]) ∧ OwnL inL w' w.heap.size 3 v (giveRs os rs num kind order many) ∧ PcAt U w' pb P (giveRO os rs num kind order many) (giveRG os rs num kind order many) ∧ Only (fun k => ¬ U k) w w' := by
  have HE : Hid (giveE os rs num kind order many = 12) := by show giveE _ _ _ _ _ _ = _; unfold giveE; rw [if_pos (Or.inl h)]
  have HKE := Vx.hid (gvK hc (num := num) (kind := kind) (order := order) (many := many) (by rw [HE.out]; decide))
  clear hc
  go_enter Try.func38, Try.ntmps38
  go_wp2_with fail
  all_goals
    go_ret2
    exact ⟨_, by rw [HE.out]; rfl, (HKE.out _ (Only.refl _ _)).1, (HKE.out _ (Only.refl _ _)).2.1, (HKE.out _ (Only.refl _ _)).2.2⟩
theorem give_k8 (hc : PcAt U w pb P os rs) (num kind order many : Int) (h0 : ¬ kind < 1) (h : 8 < kind) :
    Calls Try.prog 38 #[.pointer (some ⟨pb, 0, none⟩), .int .i64 num, .int .i64 kind, .int .i64 order, .int .i64 many] w fun e w' => ∃ v, e = .returned (.tuple #[v, .int .i64 (giveE os rs num kind order many)]) ∧ OwnL inL w' w.heap.size 3 v (giveRs os rs num kind order many) ∧ PcAt U w' pb P (giveRO os rs num kind order many) (giveRG os rs num kind order many) ∧ Only (fun k => ¬ U k) w w' := by
  have HE : Hid (giveE os rs num kind order many = 12) := by show giveE _ _ _ _ _ _ = _; unfold giveE; rw [if_pos (Or.inr h)]
  have HKE := Vx.hid (gvK hc (num := num) (kind := kind) (order := order) (many := many) (by rw [HE.out]; decide))
  clear hc
  go_enter Try.func38, Try.ntmps38
  go_wp2_with fail
  all_goals
    go_ret2
    exact ⟨_, by rw [HE.out]; rfl, (HKE.out _ (Only.refl _ _)).1, (HKE.out _ (Only.refl _ _)).2.1, (HKE.out _ (Only.refl _ _)).2.2⟩
theorem give_o0 (hc : PcAt U w pb P os rs) (num kind order many : Int) (h0 : ¬ kind < 1) (h8 : ¬ 8 < kind) (h : order < 0) :
    Calls Try.prog 38 #[.pointer (some ⟨pb, 0, none⟩), .int .i64 num, .int .i64 kind, .int .i64 order, .int .i64 many] w fun e w' => ∃ v, e = .returned (.tuple #[v, .int .i64 (giveE os rs num kind order many)]) ∧ OwnL inL w' w.heap.size 3 v (giveRs os rs num kind order many) ∧ PcAt U w' pb P (giveRO os rs num kind order many) (giveRG os rs num kind order many) ∧ Only (fun k => ¬ U k) w w' := by
  have HE : Hid (giveE os rs num kind order many = 1) := by show giveE _ _ _ _ _ _ = _; unfold giveE; rw [if_neg (by omega), if_pos (by omega)]
  have HKE := Vx.hid (gvK hc (num := num) (kind := kind) (order := order) (many := many) (by rw [HE.out]; decide))
  clear hc
  go_enter Try.func38, Try.ntmps38
  go_wp2_with fail
  all_goals
    go_ret2
    exact ⟨_, by rw [HE.out]; rfl, (HKE.out _ (Only.refl _ _)).1, (HKE.out _ (Only.refl _ _)).2.1, (HKE.out _ (Only.refl _ _)).2.2⟩
theorem give_o8 (hc : PcAt U w pb P os rs) (num kind order many : Int) (h0 : ¬ kind < 1) (h8 : ¬ 8 < kind) (h1 : ¬ order < 0) (h : 8 < order) :
    Calls Try.prog 38 #[.pointer (some ⟨pb, 0, none⟩), .int .i64 num, .int .i64 kind, .int .i64 order, .int .i64 many] w fun e w' => ∃ v, e = .returned (.tuple #[v, .int .i64 (giveE os rs num kind order many)]) ∧ OwnL inL w' w.heap.size 3 v (giveRs os rs num kind order many) ∧ PcAt U w' pb P (giveRO os rs num kind order many) (giveRG os rs num kind order many) ∧ Only (fun k => ¬ U k) w w' := by
  have HE : Hid (giveE os rs num kind order many = 1) := by show giveE _ _ _ _ _ _ = _; unfold giveE; rw [if_neg (by omega), if_pos (by omega)]
  have HKE := Vx.hid (gvK hc (num := num) (kind := kind) (order := order) (many := many) (by rw [HE.out]; decide))
  clear hc
  go_enter Try.func38, Try.ntmps38
  go_wp2_with fail
  all_goals
    go_ret2
    exact ⟨_, by rw [HE.out]; rfl, (HKE.out _ (Only.refl _ _)).1, (HKE.out _ (Only.refl _ _)).2.1, (HKE.out _ (Only.refl _ _)).2.2⟩
theorem give_ko (hc : PcAt U w pb P os rs) (num kind order many : Int) (h0 : ¬ kind < 1) (h8 : ¬ 8 < kind) (h1 : ¬ order < 0) (h2 : ¬ 8 < order) (h : kind ≠ 1) (h3 : order ≠ 0) :
    Calls Try.prog 38 #[.pointer (some ⟨pb, 0, none⟩), .int .i64 num, .int .i64 kind, .int .i64 order, .int .i64 many] w fun e w' => ∃ v, e = .returned (.tuple #[v, .int .i64 (giveE os rs num kind order many)]) ∧ OwnL inL w' w.heap.size 3 v (giveRs os rs num kind order many) ∧ PcAt U w' pb P (giveRO os rs num kind order many) (giveRG os rs num kind order many) ∧ Only (fun k => ¬ U k) w w' := by
  have HE : Hid (giveE os rs num kind order many = 1) := by show giveE _ _ _ _ _ _ = _; unfold giveE; rw [if_neg (by omega), if_pos (by omega)]
  have HKE := Vx.hid (gvK hc (num := num) (kind := kind) (order := order) (many := many) (by rw [HE.out]; decide))
  clear hc
  have e1 : (kind != 1) = true := by simpa using h
  have e2 : (kind == 1) = false := by simpa using h
  have e3 : (order != 0) = true := by simpa using h3
  have e4 : (order == 0) = false := by simpa using h3
  go_enter Try.func38, Try.ntmps38
  go_wp2_with fail
  all_goals
    go_ret2
    exact ⟨_, by rw [HE.out]; rfl, (HKE.out _ (Only.refl _ _)).1, (HKE.out _ (Only.refl _ _)).2.1, (HKE.out _ (Only.refl _ _)).2.2⟩
theorem give_m0a (hc : PcAt U w pb P os rs) (num kind order many : Int) (h0 : ¬ kind < 1) (h8 : ¬ 8 < kind) (h1 : ¬ order < 0) (h2 : ¬ 8 < order) (h : kind = 1) (h4 : many < 1) :
    Calls Try.prog 38 #[.pointer (some ⟨pb, 0, none⟩), .int .i64 num, .int .i64 kind, .int .i64 order, .int .i64 many] w fun e w' => ∃ v, e = .returned (.tuple #[v, .int .i64 (giveE os rs num kind order many)]) ∧ OwnL inL w' w.heap.size 3 v (giveRs os rs num kind order many) ∧ PcAt U w' pb P (giveRO os rs num kind order many) (giveRG os rs num kind order many) ∧ Only (fun k => ¬ U k) w w' := by
  have HE : Hid (giveE os rs num kind order many = 1) := by show giveE _ _ _ _ _ _ = _; unfold giveE; rw [if_neg (by omega), if_pos (by omega)]
  have HKE := Vx.hid (gvK hc (num := num) (kind := kind) (order := order) (many := many) (by rw [HE.out]; decide))
  clear hc
  subst h
  go_enter Try.func38, Try.ntmps38
  go_wp2_with fail
  all_goals
    go_ret2
    exact ⟨_, by rw [HE.out]; rfl, (HKE.out _ (Only.refl _ _)).1, (HKE.out _ (Only.refl _ _)).2.1, (HKE.out _ (Only.refl _ _)).2.2⟩
theorem give_m0b (hc : PcAt U w pb P os rs) (num kind order many : Int) (h0 : ¬ kind < 1) (h8 : ¬ 8 < kind) (h1 : ¬ order < 0) (h2 : ¬ 8 < order) (h : kind ≠ 1) (h3 : order = 0) (h4 : many < 1) :
    Calls Try.prog 38 #[.pointer (some ⟨pb, 0, none⟩), .int .i64 num, .int .i64 kind, .int .i64 order, .int .i64 many] w fun e w' => ∃ v, e = .returned (.tuple #[v, .int .i64 (giveE os rs num kind order many)]) ∧ OwnL inL w' w.heap.size 3 v (giveRs os rs num kind order many) ∧ PcAt U w' pb P (giveRO os rs num kind order many) (giveRG os rs num kind order many) ∧ Only (fun k => ¬ U k) w w' := by
  have HE : Hid (giveE os rs num kind order many = 1) := by show giveE _ _ _ _ _ _ = _; unfold giveE; rw [if_neg (by omega), if_pos (by omega)]
  have HKE := Vx.hid (gvK hc (num := num) (kind := kind) (order := order) (many := many) (by rw [HE.out]; decide))
  clear hc
  have e1 : (kind != 1) = true := by simpa using h
  have e2 : (kind == 1) = false := by simpa using h
  subst h3
  go_enter Try.func38, Try.ntmps38
  go_wp2_with fail
  all_goals
    go_ret2
    exact ⟨_, by rw [HE.out]; rfl, (HKE.out _ (Only.refl _ _)).1, (HKE.out _ (Only.refl _ _)).2.1, (HKE.out _ (Only.refl _ _)).2.2⟩
theorem give_m8a (hc : PcAt U w pb P os rs) (num kind order many : Int) (h0 : ¬ kind < 1) (h8 : ¬ 8 < kind) (h1 : ¬ order < 0) (h2 : ¬ 8 < order) (h : kind = 1) (h4 : ¬ many < 1) (h5 : 64 < many) :
    Calls Try.prog 38 #[.pointer (some ⟨pb, 0, none⟩), .int .i64 num, .int .i64 kind, .int .i64 order, .int .i64 many] w fun e w' => ∃ v, e = .returned (.tuple #[v, .int .i64 (giveE os rs num kind order many)]) ∧ OwnL inL w' w.heap.size 3 v (giveRs os rs num kind order many) ∧ PcAt U w' pb P (giveRO os rs num kind order many) (giveRG os rs num kind order many) ∧ Only (fun k => ¬ U k) w w' := by
  have HE : Hid (giveE os rs num kind order many = 1) := by show giveE _ _ _ _ _ _ = _; unfold giveE; rw [if_neg (by omega), if_pos (by omega)]
  have HKE := Vx.hid (gvK hc (num := num) (kind := kind) (order := order) (many := many) (by rw [HE.out]; decide))
  clear hc
  subst h
  go_enter Try.func38, Try.ntmps38
  go_wp2_with fail
  all_goals
    go_ret2
    exact ⟨_, by rw [HE.out]; rfl, (HKE.out _ (Only.refl _ _)).1, (HKE.out _ (Only.refl _ _)).2.1, (HKE.out _ (Only.refl _ _)).2.2⟩
theorem give_m8b (hc : PcAt U w pb P os rs) (num kind order many : Int) (h0 : ¬ kind < 1) (h8 : ¬ 8 < kind) (h1 : ¬ order < 0) (h2 : ¬ 8 < order) (h : kind ≠ 1) (h3 : order = 0) (h4 : ¬ many < 1) (h5 : 64 < many) :
    Calls Try.prog 38 #[.pointer (some ⟨pb, 0, none⟩), .int .i64 num, .int .i64 kind, .int .i64 order, .int .i64 many] w fun e w' => ∃ v, e = .returned (.tuple #[v, .int .i64 (giveE os rs num kind order many)]) ∧ OwnL inL w' w.heap.size 3 v (giveRs os rs num kind order many) ∧ PcAt U w' pb P (giveRO os rs num kind order many) (giveRG os rs num kind order many) ∧ Only (fun k => ¬ U k) w w' := by
  have HE : Hid (giveE os rs num kind order many = 1) := by show giveE _ _ _ _ _ _ = _; unfold giveE; rw [if_neg (by omega), if_pos (by omega)]
  have HKE := Vx.hid (gvK hc (num := num) (kind := kind) (order := order) (many := many) (by rw [HE.out]; decide))
  clear hc
  have e1 : (kind != 1) = true := by simpa using h
  have e2 : (kind == 1) = false := by simpa using h
  subst h3
  go_enter Try.func38, Try.ntmps38
  go_wp2_with fail
  all_goals
    go_ret2
    exact ⟨_, by rw [HE.out]; rfl, (HKE.out _ (Only.refl _ _)).1, (HKE.out _ (Only.refl _ _)).2.1, (HKE.out _ (Only.refl _ _)).2.2⟩
theorem give_na (hc : PcAt U w pb P os rs) (num kind order many : Int) (h0 : ¬ kind < 1) (h8 : ¬ 8 < kind) (h1 : ¬ order < 0) (h2 : ¬ 8 < order) (h : kind = 1) (h4 : ¬ many < 1) (h5 : ¬ 64 < many) (hx : rgF rs num = none) :
    Calls Try.prog 38 #[.pointer (some ⟨pb, 0, none⟩), .int .i64 num, .int .i64 kind, .int .i64 order, .int .i64 many] w fun e w' => ∃ v, e = .returned (.tuple #[v, .int .i64 (giveE os rs num kind order many)]) ∧ OwnL inL w' w.heap.size 3 v (giveRs os rs num kind order many) ∧ PcAt U w' pb P (giveRO os rs num kind order many) (giveRG os rs num kind order many) ∧ Only (fun k => ¬ U k) w w' := by
  have HE : Hid (giveE os rs num kind order many = 6) := by show giveE _ _ _ _ _ _ = _; unfold giveE; rw [if_neg (by omega), if_neg (by omega), hx]
  have HKE := Vx.hid (gvK hc (num := num) (kind := kind) (order := order) (many := many) (by rw [HE.out]; decide))
  obtain ⟨vo, vr, hp⟩ := hc
  have HRG := Vx.hid (region_ok hp num)
  rw [hx] at HRG
  have HR2 : Hid (Calls Try.prog 56 #[.pointer (some ⟨pb, 0, none⟩), .int .i64 num] w fun e w' => e = .returned (.int .i64 (-1)) ∧ w' = w) := HRG
  clear hp hx HRG
  subst h
  go_enter Try.func38, Try.ntmps38
  go_wp2_with fail
  refine HR2.out.mono ?_
  rintro e w' ⟨rfl, h⟩
  have h3 := h.symm; clear h; subst h3
  go_wp2_with fail
  all_goals
    go_ret2
    exact ⟨_, by rw [HE.out]; rfl, (HKE.out _ (Only.refl _ _)).1, (HKE.out _ (Only.refl _ _)).2.1, (HKE.out _ (Only.refl _ _)).2.2⟩
theorem give_nb (hc : PcAt U w pb P os rs) (num kind order many : Int) (h0 : ¬ kind < 1) (h8 : ¬ 8 < kind) (h1 : ¬ order < 0) (h2 : ¬ 8 < order) (h : kind ≠ 1) (h3 : order = 0) (h4 : ¬ many < 1) (h5 : ¬ 64 < many) (hx : rgF rs num = none) :
    Calls Try.prog 38 #[.pointer (some ⟨pb, 0, none⟩), .int .i64 num, .int .i64 kind, .int .i64 order, .int .i64 many] w fun e w' => ∃ v, e = .returned (.tuple #[v, .int .i64 (giveE os rs num kind order many)]) ∧ OwnL inL w' w.heap.size 3 v (giveRs os rs num kind order many) ∧ PcAt U w' pb P (giveRO os rs num kind order many) (giveRG os rs num kind order many) ∧ Only (fun k => ¬ U k) w w' := by
  have HE : Hid (giveE os rs num kind order many = 6) := by show giveE _ _ _ _ _ _ = _; unfold giveE; rw [if_neg (by omega), if_neg (by omega), hx]
  have HKE := Vx.hid (gvK hc (num := num) (kind := kind) (order := order) (many := many) (by rw [HE.out]; decide))
  obtain ⟨vo, vr, hp⟩ := hc
  have HRG := Vx.hid (region_ok hp num)
  rw [hx] at HRG
  have HR2 : Hid (Calls Try.prog 56 #[.pointer (some ⟨pb, 0, none⟩), .int .i64 num] w fun e w' => e = .returned (.int .i64 (-1)) ∧ w' = w) := HRG
  clear hp hx HRG
  have e1 : (kind != 1) = true := by simpa using h
  have e2 : (kind == 1) = false := by simpa using h
  subst h3
  go_enter Try.func38, Try.ntmps38
  go_wp2_with fail
  refine HR2.out.mono ?_
  rintro e w' ⟨rfl, h⟩
  have h3 := h.symm; clear h; subst h3
  go_wp2_with fail
  all_goals
    go_ret2
    exact ⟨_, by rw [HE.out]; rfl, (HKE.out _ (Only.refl _ _)).1, (HKE.out _ (Only.refl _ _)).2.1, (HKE.out _ (Only.refl _ _)).2.2⟩
end Go.Proofs.Ytbbabpgmclhinaa

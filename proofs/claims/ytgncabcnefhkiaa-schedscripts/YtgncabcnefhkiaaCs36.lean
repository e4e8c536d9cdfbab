import Derived.Test.YtgncabcnefhkiaaCs35
import Derived.Test.YtgncabcnefhkiaaCs13
import Derived.Carry
/- Chapter 9, the program's scheduler: New. -/
namespace Go.Proofs.Ytgncabcnefhkiaa
open Go.ChangeShapes Go.WideShapes Go.ChangeAt Go.RowKit
open Go.Vx
set_option linter.unusedVariables false
variable {U V S : Nat → Prop} {w w2 w3 : World} {ts : List (Int × Int)}

/-- What New tells and leaves. -/
def NxQ (w : World) (ts : List (Int × Int)) (e : Ending) (w' : World) : Prop := ((newSE ts = 1 ∧ e = .returned (.tuple #[.pointer none, .int .i64 1])) ∨ (newSE ts = 0 ∧ ∃ xb, e = .returned (.tuple #[.pointer (some ⟨xb, 0, none⟩), .int .i64 0]) ∧ w.heap.size ≤ xb ∧ XcAt (fun k => k < w.heap.size) w' xb ts 0 (ts.getD 0 (0, 0)).2 [] 0)) ∧ Only (fun _ => False) w w'
def q64 : List Value := List.replicate 64 (.slice none 0 0)
/-- A new scheduler's parts put together. -/
theorem xs_new {xb mb : Nat} {vt : Value} {W : World} (h : newSE ts = 0) (ho : Only (fun _ => False) w W) (hx : W.heap[xb]? = some (.cells (xsC vt 0 (ts.getD 0 (0, 0)).2 mb q64) 71 (0, 0))) (hv : OwnL slL W w.heap.size 34 vt ts) (hm : W.ownsMap Try.prog 3 RP mb 0 (.map [])) (hmb : w.heap.size ≤ mb) (hxb : w.heap.size ≤ xb) :
    NxQ w ts (.returned (.tuple #[.pointer (some ⟨xb, 0, none⟩), .int .i64 0])) W := by
  have hn : 1 ≤ ts.length ∧ ts.length ≤ 16 ∧ ts.all tuB = true := by
    unfold newSE at h
    by_cases hc : ts.length < 1 ∨ 16 < ts.length ∨ ts.all tuB = false
    · rw [if_pos hc] at h; cases h
    · refine ⟨by omega, by omega, ?_⟩
      cases hb : ts.all tuB with
      | true => rfl
      | false => exact absurd (Or.inr (Or.inr hb)) hc
  have hok : ∀ x ∈ ts, tuB x = true := List.all_eq_true.1 hn.2.2
  have h0 : 0 < ts.length := by omega
  have hmem : ts.getD 0 (0, 0) ∈ ts := by simp [List.getD_eq_getElem?_getD, h0]
  have htk := of_decide_eq_true (hok _ hmem)
  have hqv : ∀ j, qv q64 j = .slice none 0 0 := fun j => by
    unfold qv q64
    rw [List.getD_eq_getElem?_getD, List.getElem?_replicate]
    split <;> rfl
  refine ⟨Or.inr ⟨h, xb, rfl, hxb, fun _ => 0, SWf.nil, ⟨hn.1, hn.2.1, hok, h0, by omega, by omega⟩, mb, .map [], vt, q64, fun _ => [], fun j _ => NQ.nil _ _, ?_⟩, ho⟩
  refine ⟨hx, List.length_replicate, own_zero hv, hm, fun k _ => rfl, (fun k i z hk => by cases hk), (fun e he => by cases he), (fun e he => by cases he), fun j hj => ?_, fun i j k _ _ h1 _ => ?_, ?_, fun k hk => ?_, ?_, (fun e he => by cases he), fun j k _ h1 => ?_, fun k hk => Nat.lt_of_lt_of_le hk ho.size, Nat.zero_le _, (fun e he => by cases he)⟩
  · rw [hqv]; exact OwnL.nil _ _ _ _
  · rw [hqv] at h1; cases h1
  · omega
  · have := (own_lt hv hk).1
    omega
  · omega
  · rw [hqv] at h1; cases h1
set_option maxRecDepth 100000 in
set_option maxHeartbeats 4000000 in
theorem xnew_bad (w : World) (pa : Option Addr) (len cap : Nat) (hlen : len = ts.length) (hlm : (len : Int) ≤ 9223372036854775807) (hp : TuAt w pa ts) (h : newSE ts = 1) : Calls Try.prog 7 #[.slice pa len cap] w (NxQ w ts) := by
  have HB1 : Hid (∀ w', Only (fun _ => False) w w' → NxQ w ts (.returned (.tuple #[.pointer none, .int .i64 1])) w') := fun w' ho => ⟨Or.inl ⟨h, rfl⟩, ho⟩
  by_cases n1 : len < 1
  · have n1' : (len : Int) < 1 := by omega
    clear hp h hlen
    go_enter Try.func7, Try.ntmps7
    go_wp2_with fail
    all_goals
      go_ret2
      exact HB1.out _ (Only.refl _ _)
  · have n1' : ¬ (len : Int) < 1 := by omega
    by_cases n2 : 16 < len
    · have n2' : (16 : Int) < (len : Int) := by omega
      clear hp h hlen
      go_enter Try.func7, Try.ntmps7
      go_wp2_with fail
      all_goals
        go_ret2
        exact HB1.out _ (Only.refl _ _)
    · have n2' : ¬ (16 : Int) < (len : Int) := by omega
      have hbd : bdT ts = true := by
        unfold newSE at h
        by_cases hc : ts.length < 1 ∨ 16 < ts.length ∨ ts.all tuB = false
        · rcases hc with hc | hc | hc
          · omega
          · omega
          · unfold bdT; rw [hc]; rfl
        · rw [if_neg hc] at h; cases h
      have HC := Vx.hid (tcont_ok hp len cap hlen (by omega))
      rw [hbd] at HC
      clear hp h hlen hbd
      go_enter Try.func7, Try.ntmps7
      go_wp2_with fail
      refine HC.out.mono ?_
      rintro e w' ⟨rfl, ho⟩
      have HO := Vx.hid ho
      clear ho
      go_wp2_with fail
      all_goals
        go_ret2
        exact HB1.out _ HO.out
end Go.Proofs.Ytgncabcnefhkiaa

/- Chapter 9, the program's scheduler: New. -/
namespace Go.Proofs.Ytgncabcnefhkiaa
open Go.ChangeShapes Go.WideShapes Go.ChangeAt Go.RowKit
open Go.Vx
set_option linter.unusedVariables false
variable {U V S : Nat → Prop} {w w2 w3 : World} {ts : List (Int × Int)}
theorem cell_lt {w : World} {b o : Nat} {u : Value} (h : w.cell? ⟨b, o, none⟩ = some u) : b < w.heap.size := by
  apply Classical.byContradiction
  intro hx
  have : w.cell? ⟨b, o, none⟩ = none := by
    have h9 : w.heap[b]? = none := Array.getElem?_eq_none (by omega)
    simp [World.cell?, h9]
  rw [this] at h
  cases h
theorem xs_zero (w : World) : (zeroValue 71).run Try.prog w = .ok (.agg (.slice none 0 0 :: .int .i64 0 :: .int .i64 0 :: .map none :: q64).toArray) w := by kernel_rfl
theorem new_a {tk : Int} (h : newSE ts = 0) (htk : (ts.getD 0 (0, 0)).2 = tk) {wv w3 : World} {v : Value} (ho : Only (fun _ => False) w wv) (hv : OwnL slL w3 wv.heap.size 34 v ts) (ho3 : Only (fun _ => False) wv w3) :
    NxQ w ts (.returned (.tuple #[.pointer (some ⟨w3.heap.size + 1, 0, none⟩), .int .i64 0])) ((w3.alloc (.map #[] 0)).alloc (.cells (v :: .int .i64 0 :: .int .i64 tk :: .map (some w3.heap.size) :: q64).toArray 71)) := by
  have s1 := ho.size
  have s2 := ho3.size
  have hm1 : (w3.alloc (.map #[] 0)).ownsMap Try.prog 3 RP w3.heap.size 0 (.map []) := World.ownsMap_made w3 Try.prog 3 RP
  have e1 : (w3.alloc (.map #[] 0)).heap.size = w3.heap.size + 1 := by simp
  have o1 : Only (fun _ => False) w3 (w3.alloc (.map #[] 0)) := (Only.refl _ w3).alloc _
  obtain ⟨W, hW⟩ : ∃ W, W = (w3.alloc (.map #[] 0)).alloc (.cells (v :: .int .i64 0 :: .int .i64 tk :: .map (some w3.heap.size) :: q64).toArray 71) := ⟨_, rfl⟩
  have o2 : Only (fun _ => False) (w3.alloc (.map #[] 0)) W := by rw [hW]; exact (Only.refl _ _).alloc _
  have hx : W.heap[w3.heap.size + 1]? = some (.cells (v :: .int .i64 0 :: .int .i64 tk :: .map (some w3.heap.size) :: q64).toArray 71 (0, 0)) := by rw [hW, ← e1]; exact heap_alloc_last _ _
  rw [← hW]
  subst htk
  refine xs_new h (((ho.trans ho3).trans o1).trans o2) hx ?_ (mp_owns hm1 o2 (fun h => h)) (by omega) (by omega)
  have h5 := OwnL.kept hv (o1.trans o2) (fun _ _ h => h)
  refine ⟨h5.1, ?_⟩
  rcases h5.2 with h6 | ⟨g, c, cur, e, hb, r⟩
  · exact Or.inl h6
  · exact Or.inr ⟨g, c, cur, e, by omega, r⟩
theorem new_b {tk : Int} (h : newSE ts = 0) (htk : (ts.getD 0 (0, 0)).2 = tk) {wv w3 : World} {v : Value} (ho : Only (fun _ => False) w wv) (hv : OwnL slL w3 (wv.alloc (.map #[] 0)).heap.size 34 v ts) (ho3 : Only (fun _ => False) (wv.alloc (.map #[] 0)) w3) :
    NxQ w ts (.returned (.tuple #[.pointer (some ⟨w3.heap.size, 0, none⟩), .int .i64 0])) (w3.alloc (.cells (v :: .int .i64 0 :: .int .i64 tk :: .map (some wv.heap.size) :: q64).toArray 71)) := by
  have s1 := ho.size
  have s2 := ho3.size
  have hm1 : (wv.alloc (.map #[] 0)).ownsMap Try.prog 3 RP wv.heap.size 0 (.map []) := World.ownsMap_made wv Try.prog 3 RP
  have e1 : (wv.alloc (.map #[] 0)).heap.size = wv.heap.size + 1 := by simp
  have o1 : Only (fun _ => False) wv (wv.alloc (.map #[] 0)) := (Only.refl _ wv).alloc _
  obtain ⟨W, hW⟩ : ∃ W, W = w3.alloc (.cells (v :: .int .i64 0 :: .int .i64 tk :: .map (some wv.heap.size) :: q64).toArray 71) := ⟨_, rfl⟩
  have o2 : Only (fun _ => False) w3 W := by rw [hW]; exact (Only.refl _ _).alloc _
  have hx : W.heap[w3.heap.size]? = some (.cells (v :: .int .i64 0 :: .int .i64 tk :: .map (some wv.heap.size) :: q64).toArray 71 (0, 0)) := by rw [hW]; exact heap_alloc_last _ _
  rw [← hW]
  subst htk
  refine xs_new h (((ho.trans o1).trans ho3).trans o2) hx ?_ (mp_owns (mp_owns hm1 ho3 (fun h => h)) o2 (fun h => h)) (by omega) (by omega)
  have h5 := OwnL.kept hv o2 (fun _ _ h => h)
  refine ⟨h5.1, ?_⟩
  rcases h5.2 with h6 | ⟨g, c, cur, e, hb, r⟩
  · exact Or.inl h6
  · exact Or.inr ⟨g, c, cur, e, by omega, r⟩
set_option maxRecDepth 100000 in
set_option maxHeartbeats 4000000 in
theorem xnew_good (w : World) (pa : Option Addr) (len cap : Nat) (hlen : len = ts.length) (hp : TuAt w pa ts) (h : newSE ts = 0) : Calls Try.prog 7 #[.slice pa len cap] w (NxQ w ts) := by
  have hn : 1 ≤ ts.length ∧ ts.length ≤ 16 ∧ bdT ts = false := by
    unfold newSE at h
    by_cases hc : ts.length < 1 ∨ 16 < ts.length ∨ ts.all tuB = false
    · rw [if_pos hc] at h; cases h
    · refine ⟨by omega, by omega, ?_⟩
      unfold bdT
      cases hb : ts.all tuB with
      | true => rfl
      | false => exact absurd (Or.inr (Or.inr hb)) hc
  have n1' : ¬ (len : Int) < 1 := by omega
  have n2' : ¬ (16 : Int) < (len : Int) := by omega
  have HC := Vx.hid (tcont_ok hp len cap hlen (by omega))
  rw [hn.2.2] at HC
  obtain ⟨ab, ao, rfl, hcell⟩ := tu_at hp (by omega)
  have HCL : Hid (∀ wv, Only (fun _ => False) w wv → Calls Try.prog 22 #[.slice (some ⟨ab, ao, none⟩) len cap] wv fun e w' => ∃ v, e = .returned v ∧ OwnL slL w' wv.heap.size 34 v ts ∧ Only (fun _ => False) wv w') := fun wv ho => tclone_ok (fun wx hx => hcell wx (ho.trans hx)) hlen (by omega)
  have HTK : Hid (∀ wv, Only (fun _ => False) w wv → wv.cell? ⟨ab, ao + 1, none⟩ = some (.int .i64 (ts.getD 0 (0, 0)).2)) := fun wv ho => by
    have h0 : 0 < ts.length := by omega
    have := (hcell wv ho 0 h0).2
    have e : ts.getD 0 (0, 0) = ts[0] := by simp [List.getD_eq_getElem?_getD, h0]
    rw [e]
    simpa using this
  have hmm := @run_makeMap Try.prog
  have hzz := xs_zero
  have hq64 : q64.length = 64 := rfl
  have hidx : 0 ≤ (0 : Int) ∧ (0 : Int) < (len : Int) := by omega
  have hi2 : (0 : Int) < (len : Int) := by omega
  obtain ⟨tk, htk⟩ : ∃ tk, (ts.getD 0 (0, 0)).2 = tk := ⟨_, rfl⟩
  rw [htk] at HTK
  have HFA := Vx.hid (fun (wv w3 : World) (v : Value) => new_a (w := w) (wv := wv) (w3 := w3) (v := v) h htk)
  have HFB := Vx.hid (fun (wv w3 : World) (v : Value) => new_b (w := w) (wv := wv) (w3 := w3) (v := v) h htk)
  clear hcell hp h hn hlen htk
  go_enter Try.func7, Try.ntmps7
  go_wp2_with fail
  refine HC.out.mono ?_
  rintro e w' ⟨rfl, ho⟩
  have HO := Vx.hid ho
  have b1 := HTK.out _ ho
  have hab : ab < w'.heap.size := cell_lt b1
  clear ho
  go_wp2_with fail
  go_region_with (go_at_call 22; refine (HCL.out _ (by first | exact HO.out.drew | exact (HO.out.drew).alloc _)).mono ?_; rintro e w3 ⟨v, rfl, hv, ho3⟩; have b3 := HTK.out _ (Only.trans (by first | exact HO.out.drew | exact (HO.out.drew).alloc _) ho3); have hab3 := cell_lt b3; have HV := Vx.hid hv; have HO3 := Vx.hid ho3; obtain ⟨pz, cz, hvz, _⟩ := hv.form; generalize ts.length = mz at hvz; subst hvz; clear hv ho3)
  all_goals
    clear hmm hzz hq64
    go_wp2_with fail
    go_ret2
    first
    | exact HFA.out (World.drew _) _ _ HO.out.drew HV.out HO3.out
    | exact HFB.out (World.drew _) _ _ HO.out.drew HV.out HO3.out
theorem xnew_ok (w : World) (pa : Option Addr) (len cap : Nat) (hlen : len = ts.length) (hlc : len ≤ cap) (hcm : cap ≤ maxLen) (hp : TuAt w pa ts) : Calls Try.prog 7 #[.slice pa len cap] w (NxQ w ts) := by
  have hlm : (len : Int) ≤ 9223372036854775807 := by simp [maxLen] at hcm; omega
  by_cases hc : newSE ts = 0
  · exact xnew_good w pa len cap hlen hp hc
  · refine xnew_bad w pa len cap hlen hlm hp ?_
    unfold newSE at hc ⊢
    by_cases h9 : ts.length < 1 ∨ 16 < ts.length ∨ ts.all tuB = false
    · rw [if_pos h9]
    · rw [if_neg h9] at hc; exact absurd rfl hc
end Go.Proofs.Ytgncabcnefhkiaa

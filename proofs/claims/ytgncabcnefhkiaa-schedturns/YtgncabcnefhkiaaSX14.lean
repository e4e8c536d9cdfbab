/- Chapter 9, the program's scheduler: New. -/
import Derived.Test.YtgncabcnefhkiaaSX13
import Derived.Test.YtgncabcnefhkiaaCG2
import Derived.Carry
namespace Go.Proofs.Ytgncabcnefhkiaa
open Go.ChangeShapes Go.WideShapes Go.ChangeAt Go.RowKit
open Go.Vx
set_option linter.unusedVariables false
variable {U V S : Nat → Prop} {w w2 w3 : World} {ts : List (Int × Int)}

/-- What New tells and leaves. -/
def NxQ (w : World) (ts : List (Int × Int)) (e : Ending) (w' : World) : Prop := ((newSE ts = 1 ∧ e = .returned (.tuple #[.pointer none, .int .i64 1])) ∨ (newSE ts = 0 ∧ ∃ xb, e = .returned (.tuple #[.pointer (some ⟨xb, 0, none⟩), .int .i64 0]) ∧ w.heap.size ≤ xb ∧ XcAt (fun k => k < w.heap.size) w' xb ts 0 (ts.getD 0 (0, 0)).2 [] 0)) ∧ Only (fun _ => False) w w'
def q64 : List Value := List.replicate 64 (.slice none 0 0)
/-- A new scheduler's parts put together. -/
theorem xs_new {xb mb : Nat} {vt : Value} {W : World} (h : newSE ts = 0) (ho : Only (fun _ => False) w W) (hx : W.heap[xb]? = some (.cells (xsC vt 0 (ts.getD 0 (0, 0)).2 mb q64) 71 (0, 0))) (hv : OwnL slL W w.heap.size 34 vt ts) (hm : W.ownsMap Try.prog 3 RP mb 0 (.map [])) (hmb : w.heap.size ≤ mb) (hxb : w.heap.size ≤ xb) :
    NxQ w ts (.returned (.tuple #[.pointer (some ⟨xb, 0, none⟩), .int .i64 0])) W := by
  have hn : 1 ≤ ts.length ∧ ts.length ≤ 16 ∧ ts.all tuB = true := by
    unfold newSE at h
    by_cases hc : ts.length < 1 ∨ 16 < ts.length ∨ ts.all tuB = false
    · rw [if_pos hc] at h; cases h
    · refine ⟨by omega, by omega, ?_⟩
      cases hb : ts.all tuB with
      | true => rfl
      | false => exact absurd (Or.inr (Or.inr hb)) hc
  have hok : ∀ x ∈ ts, tuB x = true := List.all_eq_true.1 hn.2.2
  have h0 : 0 < ts.length := by omega
  have hmem : ts.getD 0 (0, 0) ∈ ts := by simp [List.getD_eq_getElem?_getD, h0]
  have htk := of_decide_eq_true (hok _ hmem)
  have hqv : ∀ j, qv q64 j = .slice none 0 0 := fun j => by
    unfold qv q64
    rw [List.getD_eq_getElem?_getD, List.getElem?_replicate]
    split <;> rfl
  refine ⟨Or.inr ⟨h, xb, rfl, hxb, fun _ => 0, SWf.nil, ⟨hn.1, hn.2.1, hok, h0, by omega, by omega⟩, mb, .map [], vt, q64, fun _ => [], fun j _ => NQ.nil _ _, ?_⟩, ho⟩
  refine ⟨hx, List.length_replicate, own_zero hv, hm, fun k _ => rfl, (fun k i z hk => by cases hk), (fun e he => by cases he), (fun e he => by cases he), fun j hj => ?_, fun i j k _ _ h1 _ => ?_, ?_, fun k hk => ?_, ?_, (fun e he => by cases he), fun j k _ h1 => ?_, fun k hk => Nat.lt_of_lt_of_le hk ho.size, Nat.zero_le _, (fun e he => by cases he)⟩
  · rw [hqv]; exact OwnL.nil _ _ _ _
  · rw [hqv] at h1; cases h1
  · omega
  · have := (own_lt hv hk).1
    omega
  · omega
  · rw [hqv] at h1; cases h1
set_option maxRecDepth 100000 in
set_option maxHeartbeats 4000000 in
theorem xnew_bad (w : World) (pa : Option Addr) (len cap : Nat) (hlen : len = ts.length) (hlm : (len : Int) ≤ 9223372036854775807) (hp : TuAt w pa ts) (h : newSE ts = 1) : Calls Try.prog 7 #[.slice pa len cap] w (NxQ w ts) := by
  have HB1 : Hid (∀ w', Only (fun _ => False) w w' → NxQ w ts (.returned (.tuple #[.pointer none, .int .i64 1])) w') := fun w' ho => ⟨Or.inl ⟨h, rfl⟩, ho⟩
  by_cases n1 : len < 1
  · have n1' : (len : Int) < 1 := by omega
    clear hp h hlen
    go_enter Try.func7, Try.ntmps7
    go_wp2_with fail
    all_goals
      go_ret2
      exact HB1.out _ (Only.refl _ _)
  · have n1' : ¬ (len : Int) < 1 := by omega
    by_cases n2 : 16 < len
    · have n2' : (16 : Int) < (len : Int) := by omega
      clear hp h hlen
      go_enter Try.func7, Try.ntmps7
      go_wp2_with fail
      all_goals
        go_ret2
        exact HB1.out _ (Only.refl _ _)
    · have n2' : ¬ (16 : Int) < (len : Int) := by omega
      have hbd : bdT ts = true := by
        unfold newSE at h
        by_cases hc : ts.length < 1 ∨ 16 < ts.length ∨ ts.all tuB = false
        · rcases hc with hc | hc | hc
          · omega
          · omega
          · unfold bdT; rw [hc]; rfl
        · rw [if_neg hc] at h; cases h
      have HC := Vx.hid (tcont_ok hp len cap hlen (by omega))
      rw [hbd] at HC
      clear hp h hlen hbd
      go_enter Try.func7, Try.ntmps7
      go_wp2_with fail
      refine HC.out.mono ?_
      rintro e w' ⟨rfl, ho⟩
      have HO := Vx.hid ho
      clear ho
      go_wp2_with fail
      all_goals
        go_ret2
        exact HB1.out _ HO.out
end Go.Proofs.Ytgncabcnefhkiaa

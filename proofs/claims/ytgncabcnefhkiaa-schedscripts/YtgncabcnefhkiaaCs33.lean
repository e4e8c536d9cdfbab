import Derived.Test.YtgncabcnefhkiaaCs32
/- Chapter 9, the document's scheduler: Queue, refused or not. -/
namespace Go.Proofs.Ytgncabcnefhkiaa
open Go.ChangeShapes Go.WideShapes Go.ChangeAt Go.RowKit
open Go.Vx
set_option linter.unusedVariables false
variable {U V S : Nat → Prop} {w w2 w3 wr : World} {sb : Nat} {vt vl v : Value} {ts : List (Int × Int)} {t : Nat} {lf : Int} {es xs : List Et} {ck : Nat}

theorem squeue_ok (h : SdAt U w sb vt vl ts t lf es ck) (d p : Int) : Calls Try.prog 40 #[.pointer (some ⟨sb, 0, none⟩), .int .i64 d, .int .i64 p] w (QuQ w es d p) := by
  have HB : Hid ((d < 0 ∨ 7 < d ∨ p < 0 ∨ 7 < p) → QuQ w es d p (.returned (.tuple #[.slice none 0 0, .int .i64 1])) w) := fun h => ⟨Or.inl ⟨if_pos h, rfl⟩, Only.refl _ _⟩
  by_cases h1 : d < 0
  · have HB1 := Vx.hid (HB.out (Or.inl h1))
    clear h HB
    go_enter Try.func40, Try.ntmps40
    go_wp2_with fail
    all_goals
      go_ret2
      exact HB1.out
  · by_cases h2 : 7 < d
    · have HB1 := Vx.hid (HB.out (Or.inr (Or.inl h2)))
      clear h HB
      go_enter Try.func40, Try.ntmps40
      go_wp2_with fail
      all_goals
        go_ret2
        exact HB1.out
    · by_cases h3 : p < 0
      · have HB1 := Vx.hid (HB.out (Or.inr (Or.inr (Or.inl h3))))
        clear h HB
        go_enter Try.func40, Try.ntmps40
        go_wp2_with fail
        all_goals
          go_ret2
          exact HB1.out
      · by_cases h4 : 7 < p
        · have HB1 := Vx.hid (HB.out (Or.inr (Or.inr (Or.inr h4))))
          clear h HB
          go_enter Try.func40, Try.ntmps40
          go_wp2_with fail
          all_goals
            go_ret2
            exact HB1.out
        · exact squeue_run h d p h1 h2 h3 h4
end Go.Proofs.Ytgncabcnefhkiaa

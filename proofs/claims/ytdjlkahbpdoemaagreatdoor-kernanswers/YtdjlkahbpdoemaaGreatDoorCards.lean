/-
  DERIVED. GIVEN WITH THE SEED: THE CARDS: each row of YtdjlkahbpdoemaaGreatDoorRows.lean that lists a variable, with what it lists TIED to the program's text (the seventh form; the later family's looks); each row that meets fmt, with fmt's text TOLD by the authors' own Lean function (tested against real Go, not proved from fmt's source: count such statements apart). THE CARD IS WHAT COUNTS. Prove the row's statement (the work); the ties are given (YtdjlkahbpdoemaaGreatDoorTie.lean); close each card by the builder's one call (the guide's Derived/Test/ToyasCard.lean, 'card_holds'). Laid BY PROGRAM, IN A SANDBOX (cutbox-door.mjs). By AI agents, Wed Nov 11 2026. No macro, syntax, notation, axiom, sorry.
-/
import Derived.Test.YtdjlkahbpdoemaaGreatDoorRows
import GoSem.ClaimSeven
namespace Go.Proofs.YtdjlkahbpdoemaaGreatDoor
namespace Rows

/-- THE TIED CARD OF 'vaultkeep.KernAnswers'. -/
def kernAnswersCard : Claim7 := { stood := { row := kernAnswersRow, standIns := [], harness := (true, "a2355a33ecfcbb97a1fc427f41523e2ae386f7d9bfa1f8e01bd980812e7f7ac0"), looks := true }, kinds := [], alts := [], laidByText := true, laidKinds := [.data, .data, .data, .data, .data, .sentinel, .sentinel, .data, .data, .data, .pinned], laidTests := true, laidLooks := .later }
def KernAnswersCardSaid : Prop := Claim7.holds Tryz.pinned (.plain (OpenSpec.ofChange kernAnswersSpec)) kernAnswersCard

/-- THE SECOND FORM's CARD OF 'vaultkeep.KernAnswers'. -/
def kernAnswersUptoCard : Claim7 := { stood := { row := kernAnswersUptoRow, standIns := [], harness := (true, "a2355a33ecfcbb97a1fc427f41523e2ae386f7d9bfa1f8e01bd980812e7f7ac0"), looks := true }, kinds := [], alts := [], laidByText := true, laidKinds := [.data, .data, .data, .data, .data, .sentinel, .sentinel, .data, .data, .data, .pinned], laidTests := true, laidLooks := .later }
def KernAnswersUptoCardSaid : Prop := Claim7.holds Tryz.pinned (.plain (OpenSpec.upto kernAnswersSpec)) kernAnswersUptoCard
end Rows
end Go.Proofs.YtdjlkahbpdoemaaGreatDoor

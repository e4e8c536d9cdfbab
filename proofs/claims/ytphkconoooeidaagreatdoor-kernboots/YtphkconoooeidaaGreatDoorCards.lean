/-
  DERIVED. GIVEN WITH THE SEED: THE CARDS: each row of YtphkconoooeidaaGreatDoorRows.lean that lists a variable, with what it lists TIED to the program's text (the seventh form; the later family's looks); each row that meets fmt, with fmt's text TOLD by the authors' own Lean function (tested against real Go, not proved from fmt's source: count such statements apart). THE CARD IS WHAT COUNTS. Prove the row's statement (the work); the ties are given (YtphkconoooeidaaGreatDoorTie.lean); close each card by the builder's one call (the guide's Derived/Test/ToyasCard.lean, 'card_holds'). Laid BY PROGRAM, IN A SANDBOX (cutbox-door.mjs). By AI agents, Wed Nov 11 2026. No macro, syntax, notation, axiom, sorry.
-/
import Derived.Test.YtphkconoooeidaaGreatDoorRows
import GoSem.ClaimSeven
namespace Go.Proofs.YtphkconoooeidaaGreatDoor
namespace Rows

/-- THE TIED CARD OF 'vaultlaw.KernBoots'. -/
def kernBootsCard : Claim7 := { stood := { row := kernBootsRow, standIns := [], harness := (true, "ba27aba406f7abf334b0ff2aea840b59f7af1ded1b5dacc95042864b5f7b5271"), looks := false }, kinds := [], alts := [], laidByText := true, laidKinds := [.data], laidTests := true, laidLooks := .later }
def KernBootsCardSaid : Prop := Claim7.holds Tryz.pinned (.plain (OpenSpec.ofChange kernBootsSpec)) kernBootsCard

/-- THE SECOND FORM's CARD OF 'vaultlaw.KernBoots'. -/
def kernBootsUptoCard : Claim7 := { stood := { row := kernBootsUptoRow, standIns := [], harness := (true, "ba27aba406f7abf334b0ff2aea840b59f7af1ded1b5dacc95042864b5f7b5271"), looks := false }, kinds := [], alts := [], laidByText := true, laidKinds := [.data], laidTests := true, laidLooks := .later }
def KernBootsUptoCardSaid : Prop := Claim7.holds Tryz.pinned (.plain (OpenSpec.upto kernBootsSpec)) kernBootsUptoCard
end Rows
end Go.Proofs.YtphkconoooeidaaGreatDoor

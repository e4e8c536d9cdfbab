/-
  DERIVED. GIVEN WITH THE SEED: THE CARDS: each row of YtdobocgijnmlhaaDoorRows.lean that lists a variable, with what it lists TIED to the program's text (the seventh form; the later family's looks); each row that meets fmt, with fmt's text TOLD by the authors' own Lean function (tested against real Go, not proved from fmt's source: count such statements apart). THE CARD IS WHAT COUNTS. Prove the row's statement (the work); the ties are given (YtdobocgijnmlhaaDoorTie.lean); close each card by the builder's one call (the guide's Derived/Test/ToyasCard.lean, 'card_holds'). Laid BY PROGRAM, IN A SANDBOX (cutbox-door.mjs). By AI agents, Wed Nov 11 2026. No macro, syntax, notation, axiom, sorry.
-/
import Derived.Test.YtdobocgijnmlhaaDoorRows
import GoSem.ClaimSeven
namespace Go.Proofs.YtdobocgijnmlhaaDoor
namespace Rows

/-- THE TIED CARD OF 'vaultlaw.MemScripts'. -/
def memScriptsCard : Claim7 := { stood := { row := memScriptsRow, standIns := [], harness := (true, "5b2d8ba0e1a5f2bb4e376a5e14f885a4d5859069d3673cf12ecc67531735045e"), looks := false }, kinds := [], alts := [], laidByText := true, laidKinds := [.data], laidTests := true, laidLooks := .later }
def MemScriptsCardSaid : Prop := Claim7.holds Tryd.pinned (.plain (OpenSpec.ofChange memScriptsSpec)) memScriptsCard

/-- THE TIED CARD OF 'vaultlaw.MmuWalks'. -/
def mmuWalksCard : Claim7 := { stood := { row := mmuWalksRow, standIns := [], harness := (true, "5b2d8ba0e1a5f2bb4e376a5e14f885a4d5859069d3673cf12ecc67531735045e"), looks := false }, kinds := [], alts := [], laidByText := true, laidKinds := [.data], laidTests := true, laidLooks := .later }
def MmuWalksCardSaid : Prop := Claim7.holds Tryd.pinned (.plain (OpenSpec.ofChange mmuWalksSpec)) mmuWalksCard

/-- THE TIED CARD OF 'vaultkeep.MmuRights'. -/
def mmuRightsCard : Claim7 := { stood := { row := mmuRightsRow, standIns := [], harness := (true, "5b2d8ba0e1a5f2bb4e376a5e14f885a4d5859069d3673cf12ecc67531735045e"), looks := false }, kinds := [], alts := [], laidByText := true, laidKinds := [.data], laidTests := true, laidLooks := .later }
def MmuRightsCardSaid : Prop := Claim7.holds Tryd.pinned (.plain (OpenSpec.ofChange mmuRightsSpec)) mmuRightsCard

/-- THE SECOND FORM's CARD OF 'vaultlaw.MemScripts'. -/
def memScriptsUptoCard : Claim7 := { stood := { row := memScriptsUptoRow, standIns := [], harness := (true, "5b2d8ba0e1a5f2bb4e376a5e14f885a4d5859069d3673cf12ecc67531735045e"), looks := false }, kinds := [], alts := [], laidByText := true, laidKinds := [.data], laidTests := true, laidLooks := .later }
def MemScriptsUptoCardSaid : Prop := Claim7.holds Tryd.pinned (.plain (OpenSpec.upto memScriptsSpec)) memScriptsUptoCard

/-- THE SECOND FORM's CARD OF 'vaultlaw.MmuWalks'. -/
def mmuWalksUptoCard : Claim7 := { stood := { row := mmuWalksUptoRow, standIns := [], harness := (true, "5b2d8ba0e1a5f2bb4e376a5e14f885a4d5859069d3673cf12ecc67531735045e"), looks := false }, kinds := [], alts := [], laidByText := true, laidKinds := [.data], laidTests := true, laidLooks := .later }
def MmuWalksUptoCardSaid : Prop := Claim7.holds Tryd.pinned (.plain (OpenSpec.upto mmuWalksSpec)) mmuWalksUptoCard

/-- THE SECOND FORM's CARD OF 'vaultkeep.MmuRights'. -/
def mmuRightsUptoCard : Claim7 := { stood := { row := mmuRightsUptoRow, standIns := [], harness := (true, "5b2d8ba0e1a5f2bb4e376a5e14f885a4d5859069d3673cf12ecc67531735045e"), looks := false }, kinds := [], alts := [], laidByText := true, laidKinds := [.data], laidTests := true, laidLooks := .later }
def MmuRightsUptoCardSaid : Prop := Claim7.holds Tryd.pinned (.plain (OpenSpec.upto mmuRightsSpec)) mmuRightsUptoCard
end Rows
end Go.Proofs.YtdobocgijnmlhaaDoor

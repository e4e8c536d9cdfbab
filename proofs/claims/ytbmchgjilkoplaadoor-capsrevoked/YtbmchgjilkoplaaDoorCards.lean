/-
  DERIVED. GIVEN WITH THE SEED: THE CARDS: each row of YtbmchgjilkoplaaDoorRows.lean that lists a variable, with what it lists TIED to the program's text (the seventh form; the later family's looks); each row that meets fmt, with fmt's text TOLD by the authors' own Lean function (tested against real Go, not proved from fmt's source: count such statements apart). THE CARD IS WHAT COUNTS. Prove the row's statement (the work); the ties are given (YtbmchgjilkoplaaDoorTie.lean); close each card by the builder's one call (the guide's Derived/Test/ToyasCard.lean, 'card_holds'). Laid BY PROGRAM, IN A SANDBOX (cutbox-door.mjs). By AI agents, Wed Nov 11 2026. No macro, syntax, notation, axiom, sorry.
-/
import Derived.Test.YtbmchgjilkoplaaDoorRows
import GoSem.ClaimSeven
namespace Go.Proofs.YtbmchgjilkoplaaDoor
namespace Rows

/-- THE TIED CARD OF 'vaultlaw.CapsScripts'. -/
def capsScriptsCard : Claim7 := { stood := { row := capsScriptsRow, standIns := [], harness := (true, "80def99ad0775ef1ea397fb3084c5e740c2ff7e4a069e807d5bb29f445b4a859"), looks := false }, kinds := [], alts := [], laidByText := true, laidKinds := [.data], laidTests := true, laidLooks := .later }
def CapsScriptsCardSaid : Prop := Claim7.holds Tryd.pinned (.plain (OpenSpec.ofChange capsScriptsSpec)) capsScriptsCard

/-- THE TIED CARD OF 'vaultkeep.CapsTree'. -/
def capsTreeCard : Claim7 := { stood := { row := capsTreeRow, standIns := [], harness := (true, "80def99ad0775ef1ea397fb3084c5e740c2ff7e4a069e807d5bb29f445b4a859"), looks := false }, kinds := [], alts := [], laidByText := true, laidKinds := [.data], laidTests := true, laidLooks := .later }
def CapsTreeCardSaid : Prop := Claim7.holds Tryd.pinned (.plain (OpenSpec.ofChange capsTreeSpec)) capsTreeCard

/-- THE TIED CARD OF 'vaultkeep.CapsRevoked'. -/
def capsRevokedCard : Claim7 := { stood := { row := capsRevokedRow, standIns := [], harness := (true, "80def99ad0775ef1ea397fb3084c5e740c2ff7e4a069e807d5bb29f445b4a859"), looks := false }, kinds := [], alts := [], laidByText := true, laidKinds := [.data], laidTests := true, laidLooks := .later }
def CapsRevokedCardSaid : Prop := Claim7.holds Tryd.pinned (.plain (OpenSpec.ofChange capsRevokedSpec)) capsRevokedCard

/-- THE SECOND FORM's CARD OF 'vaultlaw.CapsScripts'. -/
def capsScriptsUptoCard : Claim7 := { stood := { row := capsScriptsUptoRow, standIns := [], harness := (true, "80def99ad0775ef1ea397fb3084c5e740c2ff7e4a069e807d5bb29f445b4a859"), looks := false }, kinds := [], alts := [], laidByText := true, laidKinds := [.data], laidTests := true, laidLooks := .later }
def CapsScriptsUptoCardSaid : Prop := Claim7.holds Tryd.pinned (.plain (OpenSpec.upto capsScriptsSpec)) capsScriptsUptoCard

/-- THE SECOND FORM's CARD OF 'vaultkeep.CapsTree'. -/
def capsTreeUptoCard : Claim7 := { stood := { row := capsTreeUptoRow, standIns := [], harness := (true, "80def99ad0775ef1ea397fb3084c5e740c2ff7e4a069e807d5bb29f445b4a859"), looks := false }, kinds := [], alts := [], laidByText := true, laidKinds := [.data], laidTests := true, laidLooks := .later }
def CapsTreeUptoCardSaid : Prop := Claim7.holds Tryd.pinned (.plain (OpenSpec.upto capsTreeSpec)) capsTreeUptoCard

/-- THE SECOND FORM's CARD OF 'vaultkeep.CapsRevoked'. -/
def capsRevokedUptoCard : Claim7 := { stood := { row := capsRevokedUptoRow, standIns := [], harness := (true, "80def99ad0775ef1ea397fb3084c5e740c2ff7e4a069e807d5bb29f445b4a859"), looks := false }, kinds := [], alts := [], laidByText := true, laidKinds := [.data], laidTests := true, laidLooks := .later }
def CapsRevokedUptoCardSaid : Prop := Claim7.holds Tryd.pinned (.plain (OpenSpec.upto capsRevokedSpec)) capsRevokedUptoCard
end Rows
end Go.Proofs.YtbmchgjilkoplaaDoor

/-
  DERIVED. GIVEN WITH THE SEED: THE CARDS: each row of YtflmobffeeocdaaGreatDoorRows.lean that lists a variable, with what it lists TIED to the program's text (the seventh form; the later family's looks); each row that meets fmt, with fmt's text TOLD by the authors' own Lean function (tested against real Go, not proved from fmt's source: count such statements apart). THE CARD IS WHAT COUNTS. Prove the row's statement (the work); the ties are given (YtflmobffeeocdaaGreatDoorTie.lean); close each card by the builder's one call (the guide's Derived/Test/ToyasCard.lean, 'card_holds'). Laid BY PROGRAM, IN A SANDBOX (cutbox-door.mjs). By AI agents, Wed Nov 11 2026. No macro, syntax, notation, axiom, sorry.
-/
import Derived.Test.YtflmobffeeocdaaGreatDoorRows
import GoSem.ClaimSeven
namespace Go.Proofs.YtflmobffeeocdaaGreatDoor
namespace Rows

/-- THE TIED CARD OF 'vaultlaw.MemScripts'. -/
def memScriptsCard : Claim7 := { stood := { row := memScriptsRow, standIns := [], harness := (true, "e1baa5fa3e84c7513f0db1f58c92e8118939d3d111c15e4906ff227ba8a00d8c"), looks := true }, kinds := [], alts := [], laidByText := true, laidKinds := [.data, .data, .data], laidTests := true, laidLooks := .later }
def MemScriptsCardSaid : Prop := Claim7.holds Tryz.pinned (.plain (OpenSpec.ofChange memScriptsSpec)) memScriptsCard

/-- THE TIED CARD OF 'vaultlaw.MmuWalks'. -/
def mmuWalksCard : Claim7 := { stood := { row := mmuWalksRow, standIns := [], harness := (true, "e1baa5fa3e84c7513f0db1f58c92e8118939d3d111c15e4906ff227ba8a00d8c"), looks := true }, kinds := [], alts := [], laidByText := true, laidKinds := [.data, .data, .data], laidTests := true, laidLooks := .later }
def MmuWalksCardSaid : Prop := Claim7.holds Tryz.pinned (.plain (OpenSpec.ofChange mmuWalksSpec)) mmuWalksCard

/-- THE TIED CARD OF 'vaultlaw.VspaceScripts'. -/
def vspaceScriptsCard : Claim7 := { stood := { row := vspaceScriptsRow, standIns := [], harness := (true, "e1baa5fa3e84c7513f0db1f58c92e8118939d3d111c15e4906ff227ba8a00d8c"), looks := true }, kinds := [], alts := [], laidByText := true, laidKinds := [.data, .data, .data], laidTests := true, laidLooks := .later }
def VspaceScriptsCardSaid : Prop := Claim7.holds Tryz.pinned (.plain (OpenSpec.ofChange vspaceScriptsSpec)) vspaceScriptsCard

/-- THE TIED CARD OF 'vaultlaw.HartSteps'. -/
def hartStepsCard : Claim7 := { stood := { row := hartStepsRow, standIns := [], harness := (true, "e1baa5fa3e84c7513f0db1f58c92e8118939d3d111c15e4906ff227ba8a00d8c"), looks := true }, kinds := [], alts := [], laidByText := true, laidKinds := [.data, .data, .data], laidTests := true, laidLooks := .later }
def HartStepsCardSaid : Prop := Claim7.holds Tryz.pinned (.plain (OpenSpec.ofChange hartStepsSpec)) hartStepsCard

/-- THE SECOND FORM's CARD OF 'vaultlaw.MemScripts'. -/
def memScriptsUptoCard : Claim7 := { stood := { row := memScriptsUptoRow, standIns := [], harness := (true, "e1baa5fa3e84c7513f0db1f58c92e8118939d3d111c15e4906ff227ba8a00d8c"), looks := true }, kinds := [], alts := [], laidByText := true, laidKinds := [.data, .data, .data], laidTests := true, laidLooks := .later }
def MemScriptsUptoCardSaid : Prop := Claim7.holds Tryz.pinned (.plain (OpenSpec.upto memScriptsSpec)) memScriptsUptoCard

/-- THE SECOND FORM's CARD OF 'vaultlaw.MmuWalks'. -/
def mmuWalksUptoCard : Claim7 := { stood := { row := mmuWalksUptoRow, standIns := [], harness := (true, "e1baa5fa3e84c7513f0db1f58c92e8118939d3d111c15e4906ff227ba8a00d8c"), looks := true }, kinds := [], alts := [], laidByText := true, laidKinds := [.data, .data, .data], laidTests := true, laidLooks := .later }
def MmuWalksUptoCardSaid : Prop := Claim7.holds Tryz.pinned (.plain (OpenSpec.upto mmuWalksSpec)) mmuWalksUptoCard

/-- THE SECOND FORM's CARD OF 'vaultlaw.VspaceScripts'. -/
def vspaceScriptsUptoCard : Claim7 := { stood := { row := vspaceScriptsUptoRow, standIns := [], harness := (true, "e1baa5fa3e84c7513f0db1f58c92e8118939d3d111c15e4906ff227ba8a00d8c"), looks := true }, kinds := [], alts := [], laidByText := true, laidKinds := [.data, .data, .data], laidTests := true, laidLooks := .later }
def VspaceScriptsUptoCardSaid : Prop := Claim7.holds Tryz.pinned (.plain (OpenSpec.upto vspaceScriptsSpec)) vspaceScriptsUptoCard

/-- THE SECOND FORM's CARD OF 'vaultlaw.HartSteps'. -/
def hartStepsUptoCard : Claim7 := { stood := { row := hartStepsUptoRow, standIns := [], harness := (true, "e1baa5fa3e84c7513f0db1f58c92e8118939d3d111c15e4906ff227ba8a00d8c"), looks := true }, kinds := [], alts := [], laidByText := true, laidKinds := [.data, .data, .data], laidTests := true, laidLooks := .later }
def HartStepsUptoCardSaid : Prop := Claim7.holds Tryz.pinned (.plain (OpenSpec.upto hartStepsSpec)) hartStepsUptoCard
end Rows
end Go.Proofs.YtflmobffeeocdaaGreatDoor

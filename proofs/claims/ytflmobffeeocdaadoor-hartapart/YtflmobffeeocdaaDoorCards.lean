/-
  DERIVED. GIVEN WITH THE SEED: THE CARDS: each row of YtflmobffeeocdaaDoorRows.lean that lists a variable, with what it lists TIED to the program's text (the seventh form; the later family's looks); each row that meets fmt, with fmt's text TOLD by the authors' own Lean function (tested against real Go, not proved from fmt's source: count such statements apart). THE CARD IS WHAT COUNTS. Prove the row's statement (the work); the ties are given (YtflmobffeeocdaaDoorTie.lean); close each card by the builder's one call (the guide's Derived/Test/ToyasCard.lean, 'card_holds'). Laid BY PROGRAM, IN A SANDBOX (cutbox-door.mjs). By AI agents, Wed Nov 11 2026. No macro, syntax, notation, axiom, sorry.
-/
import Derived.Test.YtflmobffeeocdaaDoorRows
import GoSem.ClaimSeven
namespace Go.Proofs.YtflmobffeeocdaaDoor
namespace Rows

/-- THE TIED CARD OF 'vaultkeep.HartApart'. -/
def hartApartCard : Claim7 := { stood := { row := hartApartRow, standIns := [], harness := (true, "9ad59938928e149d03519801e9a3c2b5058d2b6cb850c6fda9d2ef6135e9c983"), looks := true }, kinds := [], alts := [], laidByText := true, laidKinds := [.data, .data, .data], laidTests := true, laidLooks := .later }
def HartApartCardSaid : Prop := Claim7.holds Tryd.pinned (.plain (OpenSpec.ofChange hartApartSpec)) hartApartCard

/-- THE TIED CARD OF 'vaultkeep.HartSums'. -/
def hartSumsCard : Claim7 := { stood := { row := hartSumsRow, standIns := [], harness := (true, "9ad59938928e149d03519801e9a3c2b5058d2b6cb850c6fda9d2ef6135e9c983"), looks := true }, kinds := [], alts := [], laidByText := true, laidKinds := [.data, .data, .data], laidTests := true, laidLooks := .later }
def HartSumsCardSaid : Prop := Claim7.holds Tryd.pinned (.plain (OpenSpec.ofChange hartSumsSpec)) hartSumsCard

/-- THE SECOND FORM's CARD OF 'vaultkeep.HartApart'. -/
def hartApartUptoCard : Claim7 := { stood := { row := hartApartUptoRow, standIns := [], harness := (true, "9ad59938928e149d03519801e9a3c2b5058d2b6cb850c6fda9d2ef6135e9c983"), looks := true }, kinds := [], alts := [], laidByText := true, laidKinds := [.data, .data, .data], laidTests := true, laidLooks := .later }
def HartApartUptoCardSaid : Prop := Claim7.holds Tryd.pinned (.plain (OpenSpec.upto hartApartSpec)) hartApartUptoCard

/-- THE SECOND FORM's CARD OF 'vaultkeep.HartSums'. -/
def hartSumsUptoCard : Claim7 := { stood := { row := hartSumsUptoRow, standIns := [], harness := (true, "9ad59938928e149d03519801e9a3c2b5058d2b6cb850c6fda9d2ef6135e9c983"), looks := true }, kinds := [], alts := [], laidByText := true, laidKinds := [.data, .data, .data], laidTests := true, laidLooks := .later }
def HartSumsUptoCardSaid : Prop := Claim7.holds Tryd.pinned (.plain (OpenSpec.upto hartSumsSpec)) hartSumsUptoCard
end Rows
end Go.Proofs.YtflmobffeeocdaaDoor

/-
  NARROWER THAN 'FOR EVERY INPUT', by the rows' own cells (each row's printed sentence says how): MemScripts: laid · MmuWalks: laid · VspaceScripts: laid · VspaceWalks: laid.
  DERIVED. THE GIVEN ROWS OF THIS SEAT. 4 by the template 'for every input the law returns true; each argument reads behind the call as it read before'; 0 by the template 'total and deterministic' (their statements: YthcngafjklihcaaDoorTotals.lean).
  GIVEN WITH THE SEED: the statements are not yours to turn. If you find one false, say at which input.
  Laid BY PROGRAM, IN A SANDBOX (cutbox-rows.mjs): the forced cells as the released guide's own fill.sh prints them over the translation 18274f1fecf118d5… (all of the seat's roots in one cut). By AI agents, Wed Nov 11 2026. No macro, syntax, notation, axiom, sorry.
-/
import Derived.Test.YthcngafjklihcaaDoorChecked
import GoSem.Claim
import GoSem.ClaimJoined
import GoSem.ClaimMapViews
import Derived.JoinedTies
import Derived.KernelRfl
namespace Go.Proofs.YthcngafjklihcaaDoor
/- THE CELL 'sum', in the pinned program and in every row, IS THE sha256 OF THE DUMP (.gsa) THAT YthcngafjklihcaaDoorProg.lean LOADS. Nothing in Lean hashes anything: it is a label: what it is worth is what the hold of that sum in a sandbox is worth. -/
noncomputable def Tryd.pinned : Pinned := { name := "ythcngafjklihcaadoor", sum := "18274f1fecf118d525b92bc571b50234f935c4611f70940fcbefc48f13b517b0", checked := Tryd.checked }
namespace Rows
def none {H : Type} : Left H := { results := [], args := [] }

/- WHAT THE LISTED PACKAGE-LEVEL VARIABLES READ AS WHEN THE CALL BEGINS. Each datum BY PROGRAM (the guide's laid-datum.mjs) off the statement by which the dump's own 'gosem.cut.vars' lays the variable. In a bare row this is a premise. The card (YthcngafjklihcaaDoorCards.lean) ties it to the program's text. -/
def laid_vault_mmu_uses {H : Type} : DataW H := .agg [.agg [.lit (.int .u32 8), .lit (.int .i64 12), .lit (.int .i64 1)], .agg [.lit (.int .u32 2), .lit (.int .i64 13), .lit (.int .i64 5)], .agg [.lit (.int .u32 132), .lit (.int .i64 15), .lit (.int .i64 7)]]

/-- 'vaultlaw.MemScripts': WHATEVER THE INPUT: true; the input reads as it did. -/
def memScriptsSpec : ChangeSpec := { name := "memScripts", fn := fun _ => fun
  | [d] => { results := [.lit (.bool true)], args := [d] }
  | _ => none }
def memScriptsRow : OpenClaim := { program := "ythcngafjklihcaadoor", sum := "18274f1fecf118d525b92bc571b50234f935c4611f70940fcbefc48f13b517b0", func := "vault/vaultlaw.MemScripts", spec := "memScripts", named := ["vault/mmu.uses"], apart := false, laid := [("vault/mmu.uses", laid_vault_mmu_uses)] }
def MemScriptsSaid : Prop := memScriptsRow.holds Tryd.pinned (OpenSpec.ofChange memScriptsSpec)

/-- ITS FALSE NEIGHBOUR: 'it returns false'. Refute it at one input. -/
def memScriptsWrong : ChangeSpec := { name := "memScripts", fn := fun _ => fun
  | [d] => { results := [.lit (.bool false)], args := [d] }
  | _ => none }
def MemScriptsWrongFalsely : Prop := memScriptsRow.holds Tryd.pinned (OpenSpec.ofChange memScriptsWrong)

/-- 'vaultlaw.MmuWalks': WHATEVER THE INPUT: true; the input reads as it did. -/
def mmuWalksSpec : ChangeSpec := { name := "mmuWalks", fn := fun _ => fun
  | [d] => { results := [.lit (.bool true)], args := [d] }
  | _ => none }
def mmuWalksRow : OpenClaim := { program := "ythcngafjklihcaadoor", sum := "18274f1fecf118d525b92bc571b50234f935c4611f70940fcbefc48f13b517b0", func := "vault/vaultlaw.MmuWalks", spec := "mmuWalks", named := ["vault/mmu.uses"], apart := false, laid := [("vault/mmu.uses", laid_vault_mmu_uses)] }
def MmuWalksSaid : Prop := mmuWalksRow.holds Tryd.pinned (OpenSpec.ofChange mmuWalksSpec)

/-- ITS FALSE NEIGHBOUR: 'it returns false'. Refute it at one input. -/
def mmuWalksWrong : ChangeSpec := { name := "mmuWalks", fn := fun _ => fun
  | [d] => { results := [.lit (.bool false)], args := [d] }
  | _ => none }
def MmuWalksWrongFalsely : Prop := mmuWalksRow.holds Tryd.pinned (OpenSpec.ofChange mmuWalksWrong)

/-- 'vaultlaw.VspaceScripts': WHATEVER THE INPUT: true; the input reads as it did. -/
def vspaceScriptsSpec : ChangeSpec := { name := "vspaceScripts", fn := fun _ => fun
  | [d] => { results := [.lit (.bool true)], args := [d] }
  | _ => none }
def vspaceScriptsRow : OpenClaim := { program := "ythcngafjklihcaadoor", sum := "18274f1fecf118d525b92bc571b50234f935c4611f70940fcbefc48f13b517b0", func := "vault/vaultlaw.VspaceScripts", spec := "vspaceScripts", named := ["vault/mmu.uses"], apart := false, laid := [("vault/mmu.uses", laid_vault_mmu_uses)] }
def VspaceScriptsSaid : Prop := vspaceScriptsRow.holds Tryd.pinned (OpenSpec.ofChange vspaceScriptsSpec)

/-- ITS FALSE NEIGHBOUR: 'it returns false'. Refute it at one input. -/
def vspaceScriptsWrong : ChangeSpec := { name := "vspaceScripts", fn := fun _ => fun
  | [d] => { results := [.lit (.bool false)], args := [d] }
  | _ => none }
def VspaceScriptsWrongFalsely : Prop := vspaceScriptsRow.holds Tryd.pinned (OpenSpec.ofChange vspaceScriptsWrong)

/-- 'vaultkeep.VspaceWalks': WHATEVER THE INPUT: true; the input reads as it did. -/
def vspaceWalksSpec : ChangeSpec := { name := "vspaceWalks", fn := fun _ => fun
  | [d1, d2] => { results := [.lit (.bool true)], args := [d1, d2] }
  | _ => none }
def vspaceWalksRow : OpenClaim := { program := "ythcngafjklihcaadoor", sum := "18274f1fecf118d525b92bc571b50234f935c4611f70940fcbefc48f13b517b0", func := "vault/vaultkeep.VspaceWalks", spec := "vspaceWalks", named := ["vault/mmu.uses"], apart := false, laid := [("vault/mmu.uses", laid_vault_mmu_uses)] }
def VspaceWalksSaid : Prop := vspaceWalksRow.holds Tryd.pinned (OpenSpec.ofChange vspaceWalksSpec)

/-- ITS FALSE NEIGHBOUR: 'it returns false'. Refute it at one input. -/
def vspaceWalksWrong : ChangeSpec := { name := "vspaceWalks", fn := fun _ => fun
  | [d1, d2] => { results := [.lit (.bool false)], args := [d1, d2] }
  | _ => none }
def VspaceWalksWrongFalsely : Prop := vspaceWalksRow.holds Tryd.pinned (OpenSpec.ofChange vspaceWalksWrong)

/- THE SECOND FORM. 'bulk': how many values and letters a reading holds, each counted each time it is reached (what is shared counts as often as it is met; a slice's spare places count too). A statement '..UptoSaid' is the law's where the arguments, and the package variables that the reading takes, are together of bulk at most 1048576: NARROWER than '..Said'. Prove '..Said' where nothing that the law and all that it calls make is longer than what came in: it says more and counts as full. Else prove '..UptoSaid'. A law counts once. -/
mutual
def uptoBulk {H : Type} : DataW H → Nat
  | .lit (.string bytes) => bytes.length + 1
  | .lit _ => 1
  | .nil => 1
  | .ptr d => uptoBulk d + 1
  | .slice elems spare => uptoBulkAll elems + uptoBulkAll spare + 1
  | .agg parts => uptoBulkAll parts + 1
  | .iface _ d => uptoBulk d + 1
  | .map entries => uptoBulkEntries entries + 1
  | .held _ => 1
def uptoBulkAll {H : Type} : List (DataW H) → Nat
  | [] => 0
  | d :: r => uptoBulk d + uptoBulkAll r
def uptoBulkEntries {H : Type} : List (Lit × DataW H) → Nat
  | [] => 0
  | x :: r => uptoBulkEntry x + uptoBulkEntries r
def uptoBulkEntry {H : Type} : Lit × DataW H → Nat
  | (.string bytes, d) => bytes.length + uptoBulk d + 1
  | (_, d) => uptoBulk d + 1
 end
def uptoSmall : (H : Type) → List (DataW H) → Bool := fun _ ds => decide (uptoBulkAll ds ≤ 1048576)
def OpenSpec.upto (s : _root_.Go.ChangeSpec) : _root_.Go.OpenSpec := { _root_.Go.OpenSpec.ofChange s with cond := some uptoSmall }

/-- 'vaultlaw.MemScripts', WHERE WHAT IT READS IS OF BULK AT MOST 1048576: true; the input reads as it did. -/
def memScriptsUptoRow : OpenClaim := { program := "ythcngafjklihcaadoor", sum := "18274f1fecf118d525b92bc571b50234f935c4611f70940fcbefc48f13b517b0", func := "vault/vaultlaw.MemScripts", spec := "memScripts", named := ["vault/mmu.uses"], apart := false, laid := [("vault/mmu.uses", laid_vault_mmu_uses)], narrowed := true }
def MemScriptsUptoSaid : Prop := memScriptsUptoRow.holds Tryd.pinned (OpenSpec.upto memScriptsSpec)

/-- 'vaultlaw.MmuWalks', WHERE WHAT IT READS IS OF BULK AT MOST 1048576: true; the input reads as it did. -/
def mmuWalksUptoRow : OpenClaim := { program := "ythcngafjklihcaadoor", sum := "18274f1fecf118d525b92bc571b50234f935c4611f70940fcbefc48f13b517b0", func := "vault/vaultlaw.MmuWalks", spec := "mmuWalks", named := ["vault/mmu.uses"], apart := false, laid := [("vault/mmu.uses", laid_vault_mmu_uses)], narrowed := true }
def MmuWalksUptoSaid : Prop := mmuWalksUptoRow.holds Tryd.pinned (OpenSpec.upto mmuWalksSpec)

/-- 'vaultlaw.VspaceScripts', WHERE WHAT IT READS IS OF BULK AT MOST 1048576: true; the input reads as it did. -/
def vspaceScriptsUptoRow : OpenClaim := { program := "ythcngafjklihcaadoor", sum := "18274f1fecf118d525b92bc571b50234f935c4611f70940fcbefc48f13b517b0", func := "vault/vaultlaw.VspaceScripts", spec := "vspaceScripts", named := ["vault/mmu.uses"], apart := false, laid := [("vault/mmu.uses", laid_vault_mmu_uses)], narrowed := true }
def VspaceScriptsUptoSaid : Prop := vspaceScriptsUptoRow.holds Tryd.pinned (OpenSpec.upto vspaceScriptsSpec)

/-- 'vaultkeep.VspaceWalks', WHERE WHAT IT READS IS OF BULK AT MOST 1048576: true; the input reads as it did. -/
def vspaceWalksUptoRow : OpenClaim := { program := "ythcngafjklihcaadoor", sum := "18274f1fecf118d525b92bc571b50234f935c4611f70940fcbefc48f13b517b0", func := "vault/vaultkeep.VspaceWalks", spec := "vspaceWalks", named := ["vault/mmu.uses"], apart := false, laid := [("vault/mmu.uses", laid_vault_mmu_uses)], narrowed := true }
def VspaceWalksUptoSaid : Prop := vspaceWalksUptoRow.holds Tryd.pinned (OpenSpec.upto vspaceWalksSpec)

end Rows
end Go.Proofs.YthcngafjklihcaaDoor

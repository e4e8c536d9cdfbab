/-
  NARROWER THAN 'FOR EVERY INPUT', by the rows' own cells (each row's printed sentence says how): MemScripts: laid · MmuWalks: laid · VspaceScripts: laid · HartSteps: laid.
  DERIVED. THE GIVEN ROWS OF THIS SEAT. 4 by the template 'for every input the law returns true; each argument reads behind the call as it read before'; 0 by the template 'total and deterministic' (their statements: YtflmobffeeocdaaGreatDoorTotals.lean).
  GIVEN WITH THE SEED: the statements are not yours to turn. If you find one false, say at which input.
  Laid BY PROGRAM, IN A SANDBOX (cutbox-rows.mjs): the forced cells as the released guide's own fill.sh prints them over the translation 5c2d70236767787b… (all of the seat's roots in one cut). By AI agents, Wed Nov 11 2026. No macro, syntax, notation, axiom, sorry.
-/
import Derived.Test.YtflmobffeeocdaaGreatDoorChecked
import GoSem.Claim
import GoSem.ClaimJoined
import GoSem.ClaimMapViews
import Derived.JoinedTies
import Derived.KernelRfl
namespace Go.Proofs.YtflmobffeeocdaaGreatDoor
/- THE CELL 'sum', in the pinned program and in every row, IS THE sha256 OF THE DUMP (.gsa) THAT YtflmobffeeocdaaGreatDoorProg.lean LOADS. Nothing in Lean hashes anything: it is a label: what it is worth is what the hold of that sum in a sandbox is worth. -/
noncomputable def Tryz.pinned : Pinned := { name := "ytflmobffeeocdaagreatdoor", sum := "5c2d70236767787bb32ec20eae1e092637e126e30bbc633912be96bf28911b0d", checked := Tryz.checked }
namespace Rows
def none {H : Type} : Left H := { results := [], args := [] }

/- WHAT THE LISTED PACKAGE-LEVEL VARIABLES READ AS WHEN THE CALL BEGINS. Each datum BY PROGRAM (the guide's laid-datum.mjs) off the statement by which the dump's own 'gosem.cut.vars' lays the variable. In a bare row this is a premise. The card (YtflmobffeeocdaaGreatDoorCards.lean) ties it to the program's text. -/
def laid_vault_mmu_uses {H : Type} : DataW H := .agg [.agg [.lit (.int .u32 8), .lit (.int .i64 12), .lit (.int .i64 1)], .agg [.lit (.int .u32 2), .lit (.int .i64 13), .lit (.int .i64 5)], .agg [.lit (.int .u32 132), .lit (.int .i64 15), .lit (.int .i64 7)]]
def laid_vault_isa_forms {H : Type} : DataW H := .agg [.agg [.lit (.int .i64 0), .lit (.int .u32 0)], .agg [.lit (.int .i64 1), .lit (.int .u32 55)], .agg [.lit (.int .i64 1), .lit (.int .u32 23)], .agg [.lit (.int .i64 2), .lit (.int .u32 111)], .agg [.lit (.int .i64 3), .lit (.int .u32 103)], .agg [.lit (.int .i64 6), .lit (.int .u32 99)], .agg [.lit (.int .i64 6), .lit (.int .u32 4195)], .agg [.lit (.int .i64 6), .lit (.int .u32 16483)], .agg [.lit (.int .i64 6), .lit (.int .u32 20579)], .agg [.lit (.int .i64 6), .lit (.int .u32 24675)], .agg [.lit (.int .i64 6), .lit (.int .u32 28771)], .agg [.lit (.int .i64 3), .lit (.int .u32 3)], .agg [.lit (.int .i64 3), .lit (.int .u32 4099)], .agg [.lit (.int .i64 3), .lit (.int .u32 8195)], .agg [.lit (.int .i64 3), .lit (.int .u32 16387)], .agg [.lit (.int .i64 3), .lit (.int .u32 20483)], .agg [.lit (.int .i64 7), .lit (.int .u32 35)], .agg [.lit (.int .i64 7), .lit (.int .u32 4131)], .agg [.lit (.int .i64 7), .lit (.int .u32 8227)], .agg [.lit (.int .i64 3), .lit (.int .u32 19)], .agg [.lit (.int .i64 3), .lit (.int .u32 8211)], .agg [.lit (.int .i64 3), .lit (.int .u32 12307)], .agg [.lit (.int .i64 3), .lit (.int .u32 16403)], .agg [.lit (.int .i64 3), .lit (.int .u32 24595)], .agg [.lit (.int .i64 3), .lit (.int .u32 28691)], .agg [.lit (.int .i64 4), .lit (.int .u32 4115)], .agg [.lit (.int .i64 4), .lit (.int .u32 20499)], .agg [.lit (.int .i64 4), .lit (.int .u32 1073762323)], .agg [.lit (.int .i64 5), .lit (.int .u32 51)], .agg [.lit (.int .i64 5), .lit (.int .u32 1073741875)], .agg [.lit (.int .i64 5), .lit (.int .u32 4147)], .agg [.lit (.int .i64 5), .lit (.int .u32 8243)], .agg [.lit (.int .i64 5), .lit (.int .u32 12339)], .agg [.lit (.int .i64 5), .lit (.int .u32 16435)], .agg [.lit (.int .i64 5), .lit (.int .u32 20531)], .agg [.lit (.int .i64 5), .lit (.int .u32 1073762355)], .agg [.lit (.int .i64 5), .lit (.int .u32 24627)], .agg [.lit (.int .i64 5), .lit (.int .u32 28723)], .agg [.lit (.int .i64 3), .lit (.int .u32 15)], .agg [.lit (.int .i64 0), .lit (.int .u32 115)], .agg [.lit (.int .i64 0), .lit (.int .u32 1048691)], .agg [.lit (.int .i64 5), .lit (.int .u32 33554483)], .agg [.lit (.int .i64 5), .lit (.int .u32 33558579)], .agg [.lit (.int .i64 5), .lit (.int .u32 33562675)], .agg [.lit (.int .i64 5), .lit (.int .u32 33566771)], .agg [.lit (.int .i64 5), .lit (.int .u32 33570867)], .agg [.lit (.int .i64 5), .lit (.int .u32 33574963)], .agg [.lit (.int .i64 5), .lit (.int .u32 33579059)], .agg [.lit (.int .i64 5), .lit (.int .u32 33583155)]]
def laid_vault_hart_misaligned {H : Type} : DataW H := .agg [.lit (.int .i64 0), .lit (.int .i64 4), .lit (.int .i64 6)]

/-- 'vaultlaw.MemScripts': WHATEVER THE INPUT: true; the input reads as it did. -/
def memScriptsSpec : ChangeSpec := { name := "memScripts", fn := fun _ => fun
  | [d] => { results := [.lit (.bool true)], args := [d] }
  | _ => none }
def memScriptsRow : OpenClaim := { program := "ytflmobffeeocdaagreatdoor", sum := "5c2d70236767787bb32ec20eae1e092637e126e30bbc633912be96bf28911b0d", func := "vault/vaultlaw.MemScripts", spec := "memScripts", unfollowed := true, recurses := true, named := ["vault/mmu.uses", "vault/hart.misaligned", "vault/isa.forms"], apart := false, laid := [("vault/mmu.uses", laid_vault_mmu_uses), ("vault/isa.forms", laid_vault_isa_forms), ("vault/hart.misaligned", laid_vault_hart_misaligned)] }
def MemScriptsSaid : Prop := memScriptsRow.holds Tryz.pinned (OpenSpec.ofChange memScriptsSpec)

/-- ITS FALSE NEIGHBOUR: 'it returns false'. Refute it at one input. -/
def memScriptsWrong : ChangeSpec := { name := "memScripts", fn := fun _ => fun
  | [d] => { results := [.lit (.bool false)], args := [d] }
  | _ => none }
def MemScriptsWrongFalsely : Prop := memScriptsRow.holds Tryz.pinned (OpenSpec.ofChange memScriptsWrong)

/-- 'vaultlaw.MmuWalks': WHATEVER THE INPUT: true; the input reads as it did. -/
def mmuWalksSpec : ChangeSpec := { name := "mmuWalks", fn := fun _ => fun
  | [d] => { results := [.lit (.bool true)], args := [d] }
  | _ => none }
def mmuWalksRow : OpenClaim := { program := "ytflmobffeeocdaagreatdoor", sum := "5c2d70236767787bb32ec20eae1e092637e126e30bbc633912be96bf28911b0d", func := "vault/vaultlaw.MmuWalks", spec := "mmuWalks", unfollowed := true, recurses := true, named := ["vault/mmu.uses", "vault/hart.misaligned", "vault/isa.forms"], apart := false, laid := [("vault/mmu.uses", laid_vault_mmu_uses), ("vault/isa.forms", laid_vault_isa_forms), ("vault/hart.misaligned", laid_vault_hart_misaligned)] }
def MmuWalksSaid : Prop := mmuWalksRow.holds Tryz.pinned (OpenSpec.ofChange mmuWalksSpec)

/-- ITS FALSE NEIGHBOUR: 'it returns false'. Refute it at one input. -/
def mmuWalksWrong : ChangeSpec := { name := "mmuWalks", fn := fun _ => fun
  | [d] => { results := [.lit (.bool false)], args := [d] }
  | _ => none }
def MmuWalksWrongFalsely : Prop := mmuWalksRow.holds Tryz.pinned (OpenSpec.ofChange mmuWalksWrong)

/-- 'vaultlaw.VspaceScripts': WHATEVER THE INPUT: true; the input reads as it did. -/
def vspaceScriptsSpec : ChangeSpec := { name := "vspaceScripts", fn := fun _ => fun
  | [d] => { results := [.lit (.bool true)], args := [d] }
  | _ => none }
def vspaceScriptsRow : OpenClaim := { program := "ytflmobffeeocdaagreatdoor", sum := "5c2d70236767787bb32ec20eae1e092637e126e30bbc633912be96bf28911b0d", func := "vault/vaultlaw.VspaceScripts", spec := "vspaceScripts", unfollowed := true, recurses := true, named := ["vault/mmu.uses", "vault/hart.misaligned", "vault/isa.forms"], apart := false, laid := [("vault/mmu.uses", laid_vault_mmu_uses), ("vault/isa.forms", laid_vault_isa_forms), ("vault/hart.misaligned", laid_vault_hart_misaligned)] }
def VspaceScriptsSaid : Prop := vspaceScriptsRow.holds Tryz.pinned (OpenSpec.ofChange vspaceScriptsSpec)

/-- ITS FALSE NEIGHBOUR: 'it returns false'. Refute it at one input. -/
def vspaceScriptsWrong : ChangeSpec := { name := "vspaceScripts", fn := fun _ => fun
  | [d] => { results := [.lit (.bool false)], args := [d] }
  | _ => none }
def VspaceScriptsWrongFalsely : Prop := vspaceScriptsRow.holds Tryz.pinned (OpenSpec.ofChange vspaceScriptsWrong)

/-- 'vaultlaw.HartSteps': WHATEVER THE INPUT: true; the input reads as it did. -/
def hartStepsSpec : ChangeSpec := { name := "hartSteps", fn := fun _ => fun
  | [d] => { results := [.lit (.bool true)], args := [d] }
  | _ => none }
def hartStepsRow : OpenClaim := { program := "ytflmobffeeocdaagreatdoor", sum := "5c2d70236767787bb32ec20eae1e092637e126e30bbc633912be96bf28911b0d", func := "vault/vaultlaw.HartSteps", spec := "hartSteps", unfollowed := true, recurses := true, named := ["vault/mmu.uses", "vault/hart.misaligned", "vault/isa.forms"], apart := false, laid := [("vault/mmu.uses", laid_vault_mmu_uses), ("vault/isa.forms", laid_vault_isa_forms), ("vault/hart.misaligned", laid_vault_hart_misaligned)] }
def HartStepsSaid : Prop := hartStepsRow.holds Tryz.pinned (OpenSpec.ofChange hartStepsSpec)

/-- ITS FALSE NEIGHBOUR: 'it returns false'. Refute it at one input. -/
def hartStepsWrong : ChangeSpec := { name := "hartSteps", fn := fun _ => fun
  | [d] => { results := [.lit (.bool false)], args := [d] }
  | _ => none }
def HartStepsWrongFalsely : Prop := hartStepsRow.holds Tryz.pinned (OpenSpec.ofChange hartStepsWrong)

/- THE SECOND FORM. 'bulk': how many values and letters a reading holds, each counted each time it is reached (what is shared counts as often as it is met; a slice's spare places count too). A statement '..UptoSaid' is the law's where the arguments, and the package variables that the reading takes, are together of bulk at most 1048576: NARROWER than '..Said'. Prove '..Said' where nothing that the law and all that it calls make is longer than what came in: it says more and counts as full. Else prove '..UptoSaid'. A law counts once. -/
mutual
def uptoBulk {H : Type} : DataW H → Nat
  | .lit (.string bytes) => bytes.length + 1
  | .lit _ => 1
  | .nil => 1
  | .ptr d => uptoBulk d + 1
  | .slice elems spare => uptoBulkAll elems + uptoBulkAll spare + 1
  | .agg parts => uptoBulkAll parts + 1
  | .iface _ d => uptoBulk d + 1
  | .map entries => uptoBulkEntries entries + 1
  | .held _ => 1
def uptoBulkAll {H : Type} : List (DataW H) → Nat
  | [] => 0
  | d :: r => uptoBulk d + uptoBulkAll r
def uptoBulkEntries {H : Type} : List (Lit × DataW H) → Nat
  | [] => 0
  | x :: r => uptoBulkEntry x + uptoBulkEntries r
def uptoBulkEntry {H : Type} : Lit × DataW H → Nat
  | (.string bytes, d) => bytes.length + uptoBulk d + 1
  | (_, d) => uptoBulk d + 1
 end
def uptoSmall : (H : Type) → List (DataW H) → Bool := fun _ ds => decide (uptoBulkAll ds ≤ 1048576)
def OpenSpec.upto (s : _root_.Go.ChangeSpec) : _root_.Go.OpenSpec := { _root_.Go.OpenSpec.ofChange s with cond := some uptoSmall }

/-- 'vaultlaw.MemScripts', WHERE WHAT IT READS IS OF BULK AT MOST 1048576: true; the input reads as it did. -/
def memScriptsUptoRow : OpenClaim := { program := "ytflmobffeeocdaagreatdoor", sum := "5c2d70236767787bb32ec20eae1e092637e126e30bbc633912be96bf28911b0d", func := "vault/vaultlaw.MemScripts", spec := "memScripts", unfollowed := true, recurses := true, named := ["vault/mmu.uses", "vault/hart.misaligned", "vault/isa.forms"], apart := false, laid := [("vault/mmu.uses", laid_vault_mmu_uses), ("vault/isa.forms", laid_vault_isa_forms), ("vault/hart.misaligned", laid_vault_hart_misaligned)], narrowed := true }
def MemScriptsUptoSaid : Prop := memScriptsUptoRow.holds Tryz.pinned (OpenSpec.upto memScriptsSpec)

/-- 'vaultlaw.MmuWalks', WHERE WHAT IT READS IS OF BULK AT MOST 1048576: true; the input reads as it did. -/
def mmuWalksUptoRow : OpenClaim := { program := "ytflmobffeeocdaagreatdoor", sum := "5c2d70236767787bb32ec20eae1e092637e126e30bbc633912be96bf28911b0d", func := "vault/vaultlaw.MmuWalks", spec := "mmuWalks", unfollowed := true, recurses := true, named := ["vault/mmu.uses", "vault/hart.misaligned", "vault/isa.forms"], apart := false, laid := [("vault/mmu.uses", laid_vault_mmu_uses), ("vault/isa.forms", laid_vault_isa_forms), ("vault/hart.misaligned", laid_vault_hart_misaligned)], narrowed := true }
def MmuWalksUptoSaid : Prop := mmuWalksUptoRow.holds Tryz.pinned (OpenSpec.upto mmuWalksSpec)

/-- 'vaultlaw.VspaceScripts', WHERE WHAT IT READS IS OF BULK AT MOST 1048576: true; the input reads as it did. -/
def vspaceScriptsUptoRow : OpenClaim := { program := "ytflmobffeeocdaagreatdoor", sum := "5c2d70236767787bb32ec20eae1e092637e126e30bbc633912be96bf28911b0d", func := "vault/vaultlaw.VspaceScripts", spec := "vspaceScripts", unfollowed := true, recurses := true, named := ["vault/mmu.uses", "vault/hart.misaligned", "vault/isa.forms"], apart := false, laid := [("vault/mmu.uses", laid_vault_mmu_uses), ("vault/isa.forms", laid_vault_isa_forms), ("vault/hart.misaligned", laid_vault_hart_misaligned)], narrowed := true }
def VspaceScriptsUptoSaid : Prop := vspaceScriptsUptoRow.holds Tryz.pinned (OpenSpec.upto vspaceScriptsSpec)

/-- 'vaultlaw.HartSteps', WHERE WHAT IT READS IS OF BULK AT MOST 1048576: true; the input reads as it did. -/
def hartStepsUptoRow : OpenClaim := { program := "ytflmobffeeocdaagreatdoor", sum := "5c2d70236767787bb32ec20eae1e092637e126e30bbc633912be96bf28911b0d", func := "vault/vaultlaw.HartSteps", spec := "hartSteps", unfollowed := true, recurses := true, named := ["vault/mmu.uses", "vault/hart.misaligned", "vault/isa.forms"], apart := false, laid := [("vault/mmu.uses", laid_vault_mmu_uses), ("vault/isa.forms", laid_vault_isa_forms), ("vault/hart.misaligned", laid_vault_hart_misaligned)], narrowed := true }
def HartStepsUptoSaid : Prop := hartStepsUptoRow.holds Tryz.pinned (OpenSpec.upto hartStepsSpec)

end Rows
end Go.Proofs.YtflmobffeeocdaaGreatDoor

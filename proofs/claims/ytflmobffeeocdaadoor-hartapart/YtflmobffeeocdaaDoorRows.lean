/-
  NARROWER THAN 'FOR EVERY INPUT', by the rows' own cells (each row's printed sentence says how): HartApart: laid · HartSums: laid.
  DERIVED. THE GIVEN ROWS OF THIS SEAT. 2 by the template 'for every input the law returns true; each argument reads behind the call as it read before'; 0 by the template 'total and deterministic' (their statements: YtflmobffeeocdaaDoorTotals.lean).
  GIVEN WITH THE SEED: the statements are not yours to turn. If you find one false, say at which input.
  Laid BY PROGRAM, IN A SANDBOX (cutbox-rows.mjs): the forced cells as the released guide's own fill.sh prints them over the translation 848f99983645b811… (all of the seat's roots in one cut). By AI agents, Wed Nov 11 2026. No macro, syntax, notation, axiom, sorry.
-/
import Derived.Test.YtflmobffeeocdaaDoorChecked
import GoSem.Claim
import GoSem.ClaimJoined
import GoSem.ClaimMapViews
import Derived.JoinedTies
import Derived.KernelRfl
namespace Go.Proofs.YtflmobffeeocdaaDoor
/- THE CELL 'sum', in the pinned program and in every row, IS THE sha256 OF THE DUMP (.gsa) THAT YtflmobffeeocdaaDoorProg.lean LOADS. Nothing in Lean hashes anything: it is a label: what it is worth is what the hold of that sum in a sandbox is worth. -/
noncomputable def Tryd.pinned : Pinned := { name := "ytflmobffeeocdaadoor", sum := "848f99983645b8111b24b6216eec581bff863bcc2d626951c387a6f3cfcd9804", checked := Tryd.checked }
namespace Rows
def none {H : Type} : Left H := { results := [], args := [] }

/- WHAT THE LISTED PACKAGE-LEVEL VARIABLES READ AS WHEN THE CALL BEGINS. Each datum BY PROGRAM (the guide's laid-datum.mjs) off the statement by which the dump's own 'gosem.cut.vars' lays the variable. In a bare row this is a premise. The card (YtflmobffeeocdaaDoorCards.lean) ties it to the program's text. -/
def laid_vault_mmu_uses {H : Type} : DataW H := .agg [.agg [.lit (.int .u32 8), .lit (.int .i64 12), .lit (.int .i64 1)], .agg [.lit (.int .u32 2), .lit (.int .i64 13), .lit (.int .i64 5)], .agg [.lit (.int .u32 132), .lit (.int .i64 15), .lit (.int .i64 7)]]
def laid_vault_isa_forms {H : Type} : DataW H := .agg [.agg [.lit (.int .i64 0), .lit (.int .u32 0)], .agg [.lit (.int .i64 1), .lit (.int .u32 55)], .agg [.lit (.int .i64 1), .lit (.int .u32 23)], .agg [.lit (.int .i64 2), .lit (.int .u32 111)], .agg [.lit (.int .i64 3), .lit (.int .u32 103)], .agg [.lit (.int .i64 6), .lit (.int .u32 99)], .agg [.lit (.int .i64 6), .lit (.int .u32 4195)], .agg [.lit (.int .i64 6), .lit (.int .u32 16483)], .agg [.lit (.int .i64 6), .lit (.int .u32 20579)], .agg [.lit (.int .i64 6), .lit (.int .u32 24675)], .agg [.lit (.int .i64 6), .lit (.int .u32 28771)], .agg [.lit (.int .i64 3), .lit (.int .u32 3)], .agg [.lit (.int .i64 3), .lit (.int .u32 4099)], .agg [.lit (.int .i64 3), .lit (.int .u32 8195)], .agg [.lit (.int .i64 3), .lit (.int .u32 16387)], .agg [.lit (.int .i64 3), .lit (.int .u32 20483)], .agg [.lit (.int .i64 7), .lit (.int .u32 35)], .agg [.lit (.int .i64 7), .lit (.int .u32 4131)], .agg [.lit (.int .i64 7), .lit (.int .u32 8227)], .agg [.lit (.int .i64 3), .lit (.int .u32 19)], .agg [.lit (.int .i64 3), .lit (.int .u32 8211)], .agg [.lit (.int .i64 3), .lit (.int .u32 12307)], .agg [.lit (.int .i64 3), .lit (.int .u32 16403)], .agg [.lit (.int .i64 3), .lit (.int .u32 24595)], .agg [.lit (.int .i64 3), .lit (.int .u32 28691)], .agg [.lit (.int .i64 4), .lit (.int .u32 4115)], .agg [.lit (.int .i64 4), .lit (.int .u32 20499)], .agg [.lit (.int .i64 4), .lit (.int .u32 1073762323)], .agg [.lit (.int .i64 5), .lit (.int .u32 51)], .agg [.lit (.int .i64 5), .lit (.int .u32 1073741875)], .agg [.lit (.int .i64 5), .lit (.int .u32 4147)], .agg [.lit (.int .i64 5), .lit (.int .u32 8243)], .agg [.lit (.int .i64 5), .lit (.int .u32 12339)], .agg [.lit (.int .i64 5), .lit (.int .u32 16435)], .agg [.lit (.int .i64 5), .lit (.int .u32 20531)], .agg [.lit (.int .i64 5), .lit (.int .u32 1073762355)], .agg [.lit (.int .i64 5), .lit (.int .u32 24627)], .agg [.lit (.int .i64 5), .lit (.int .u32 28723)], .agg [.lit (.int .i64 3), .lit (.int .u32 15)], .agg [.lit (.int .i64 0), .lit (.int .u32 115)], .agg [.lit (.int .i64 0), .lit (.int .u32 1048691)], .agg [.lit (.int .i64 5), .lit (.int .u32 33554483)], .agg [.lit (.int .i64 5), .lit (.int .u32 33558579)], .agg [.lit (.int .i64 5), .lit (.int .u32 33562675)], .agg [.lit (.int .i64 5), .lit (.int .u32 33566771)], .agg [.lit (.int .i64 5), .lit (.int .u32 33570867)], .agg [.lit (.int .i64 5), .lit (.int .u32 33574963)], .agg [.lit (.int .i64 5), .lit (.int .u32 33579059)], .agg [.lit (.int .i64 5), .lit (.int .u32 33583155)]]
def laid_vault_hart_misaligned {H : Type} : DataW H := .agg [.lit (.int .i64 0), .lit (.int .i64 4), .lit (.int .i64 6)]

/-- 'vaultkeep.HartApart': WHATEVER THE INPUT: true; the input reads as it did. -/
def hartApartSpec : ChangeSpec := { name := "hartApart", fn := fun _ => fun
  | [d1, d2, d3, d4, d5] => { results := [.lit (.bool true)], args := [d1, d2, d3, d4, d5] }
  | _ => none }
def hartApartRow : OpenClaim := { program := "ytflmobffeeocdaadoor", sum := "848f99983645b8111b24b6216eec581bff863bcc2d626951c387a6f3cfcd9804", func := "vault/vaultkeep.HartApart", spec := "hartApart", unfollowed := true, recurses := true, named := ["vault/hart.misaligned", "vault/mmu.uses", "vault/isa.forms"], apart := false, laid := [("vault/mmu.uses", laid_vault_mmu_uses), ("vault/isa.forms", laid_vault_isa_forms), ("vault/hart.misaligned", laid_vault_hart_misaligned)] }
def HartApartSaid : Prop := hartApartRow.holds Tryd.pinned (OpenSpec.ofChange hartApartSpec)

/-- ITS FALSE NEIGHBOUR: 'it returns false'. Refute it at one input. -/
def hartApartWrong : ChangeSpec := { name := "hartApart", fn := fun _ => fun
  | [d1, d2, d3, d4, d5] => { results := [.lit (.bool false)], args := [d1, d2, d3, d4, d5] }
  | _ => none }
def HartApartWrongFalsely : Prop := hartApartRow.holds Tryd.pinned (OpenSpec.ofChange hartApartWrong)

/-- 'vaultkeep.HartSums': WHATEVER THE INPUT: true; the input reads as it did. -/
def hartSumsSpec : ChangeSpec := { name := "hartSums", fn := fun _ => fun
  | [d1, d2] => { results := [.lit (.bool true)], args := [d1, d2] }
  | _ => none }
def hartSumsRow : OpenClaim := { program := "ytflmobffeeocdaadoor", sum := "848f99983645b8111b24b6216eec581bff863bcc2d626951c387a6f3cfcd9804", func := "vault/vaultkeep.HartSums", spec := "hartSums", unfollowed := true, recurses := true, named := ["vault/isa.forms", "vault/hart.misaligned", "vault/mmu.uses"], apart := false, laid := [("vault/mmu.uses", laid_vault_mmu_uses), ("vault/isa.forms", laid_vault_isa_forms), ("vault/hart.misaligned", laid_vault_hart_misaligned)] }
def HartSumsSaid : Prop := hartSumsRow.holds Tryd.pinned (OpenSpec.ofChange hartSumsSpec)

/-- ITS FALSE NEIGHBOUR: 'it returns false'. Refute it at one input. -/
def hartSumsWrong : ChangeSpec := { name := "hartSums", fn := fun _ => fun
  | [d1, d2] => { results := [.lit (.bool false)], args := [d1, d2] }
  | _ => none }
def HartSumsWrongFalsely : Prop := hartSumsRow.holds Tryd.pinned (OpenSpec.ofChange hartSumsWrong)

/- THE SECOND FORM. 'bulk': how many values and letters a reading holds, each counted each time it is reached (what is shared counts as often as it is met; a slice's spare places count too). A statement '..UptoSaid' is the law's where the arguments, and the package variables that the reading takes, are together of bulk at most 1048576: NARROWER than '..Said'. Prove '..Said' where nothing that the law and all that it calls make is longer than what came in: it says more and counts as full. Else prove '..UptoSaid'. A law counts once. -/
mutual
def uptoBulk {H : Type} : DataW H → Nat
  | .lit (.string bytes) => bytes.length + 1
  | .lit _ => 1
  | .nil => 1
  | .ptr d => uptoBulk d + 1
  | .slice elems spare => uptoBulkAll elems + uptoBulkAll spare + 1
  | .agg parts => uptoBulkAll parts + 1
  | .iface _ d => uptoBulk d + 1
  | .map entries => uptoBulkEntries entries + 1
  | .held _ => 1
def uptoBulkAll {H : Type} : List (DataW H) → Nat
  | [] => 0
  | d :: r => uptoBulk d + uptoBulkAll r
def uptoBulkEntries {H : Type} : List (Lit × DataW H) → Nat
  | [] => 0
  | x :: r => uptoBulkEntry x + uptoBulkEntries r
def uptoBulkEntry {H : Type} : Lit × DataW H → Nat
  | (.string bytes, d) => bytes.length + uptoBulk d + 1
  | (_, d) => uptoBulk d + 1
 end
def uptoSmall : (H : Type) → List (DataW H) → Bool := fun _ ds => decide (uptoBulkAll ds ≤ 1048576)
def OpenSpec.upto (s : _root_.Go.ChangeSpec) : _root_.Go.OpenSpec := { _root_.Go.OpenSpec.ofChange s with cond := some uptoSmall }

/-- 'vaultkeep.HartApart', WHERE WHAT IT READS IS OF BULK AT MOST 1048576: true; the input reads as it did. -/
def hartApartUptoRow : OpenClaim := { program := "ytflmobffeeocdaadoor", sum := "848f99983645b8111b24b6216eec581bff863bcc2d626951c387a6f3cfcd9804", func := "vault/vaultkeep.HartApart", spec := "hartApart", unfollowed := true, recurses := true, named := ["vault/hart.misaligned", "vault/mmu.uses", "vault/isa.forms"], apart := false, laid := [("vault/mmu.uses", laid_vault_mmu_uses), ("vault/isa.forms", laid_vault_isa_forms), ("vault/hart.misaligned", laid_vault_hart_misaligned)], narrowed := true }
def HartApartUptoSaid : Prop := hartApartUptoRow.holds Tryd.pinned (OpenSpec.upto hartApartSpec)

/-- 'vaultkeep.HartSums', WHERE WHAT IT READS IS OF BULK AT MOST 1048576: true; the input reads as it did. -/
def hartSumsUptoRow : OpenClaim := { program := "ytflmobffeeocdaadoor", sum := "848f99983645b8111b24b6216eec581bff863bcc2d626951c387a6f3cfcd9804", func := "vault/vaultkeep.HartSums", spec := "hartSums", unfollowed := true, recurses := true, named := ["vault/isa.forms", "vault/hart.misaligned", "vault/mmu.uses"], apart := false, laid := [("vault/mmu.uses", laid_vault_mmu_uses), ("vault/isa.forms", laid_vault_isa_forms), ("vault/hart.misaligned", laid_vault_hart_misaligned)], narrowed := true }
def HartSumsUptoSaid : Prop := hartSumsUptoRow.holds Tryd.pinned (OpenSpec.upto hartSumsSpec)

end Rows
end Go.Proofs.YtflmobffeeocdaaDoor

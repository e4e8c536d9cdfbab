/-
  NARROWER THAN 'FOR EVERY INPUT', by the rows' own cells (each row's printed sentence says how): KernBoots: laid.
  DERIVED. THE GIVEN ROWS OF THIS SEAT. 1 by the template 'for every input the law returns true; each argument reads behind the call as it read before'; 0 by the template 'total and deterministic' (their statements: YtphkconoooeidaaGreatDoorTotals.lean).
  GIVEN WITH THE SEED: the statements are not yours to turn. If you find one false, say at which input.
  Laid BY PROGRAM, IN A SANDBOX (cutbox-rows.mjs): the forced cells as the released guide's own fill.sh prints them over the translation 67bf31730a335dd6… (all of the seat's roots in one cut). By AI agents, Wed Nov 11 2026. No macro, syntax, notation, axiom, sorry.
-/
import Derived.Test.YtphkconoooeidaaGreatDoorChecked
import GoSem.Claim
import GoSem.ClaimJoined
import GoSem.ClaimMapViews
import Derived.JoinedTies
import Derived.KernelRfl
namespace Go.Proofs.YtphkconoooeidaaGreatDoor
/- THE CELL 'sum', in the pinned program and in every row, IS THE sha256 OF THE DUMP (.gsa) THAT YtphkconoooeidaaGreatDoorProg.lean LOADS. Nothing in Lean hashes anything: it is a label: what it is worth is what the hold of that sum in a sandbox is worth. -/
noncomputable def Tryz.pinned : Pinned := { name := "ytphkconoooeidaagreatdoor", sum := "67bf31730a335dd6b01d32bac46ccad9c3559760bc52bcf868b41ed9536c6f5d", checked := Tryz.checked }
namespace Rows
def none {H : Type} : Left H := { results := [], args := [] }

/- WHAT THE LISTED PACKAGE-LEVEL VARIABLES READ AS WHEN THE CALL BEGINS. Each datum BY PROGRAM (the guide's laid-datum.mjs) off the statement by which the dump's own 'gosem.cut.vars' lays the variable. In a bare row this is a premise. The card (YtphkconoooeidaaGreatDoorCards.lean) ties it to the program's text. -/
def laid_vault_caps_noSlot {H : Type} : DataW H := .agg [.lit (.int .i64 (-1)), .lit (.int .i64 (-1))]

/-- 'vaultlaw.KernBoots': WHATEVER THE INPUT: true; the input reads as it did. -/
def kernBootsSpec : ChangeSpec := { name := "kernBoots", fn := fun _ => fun
  | [d] => { results := [.lit (.bool true)], args := [d] }
  | _ => none }
def kernBootsRow : OpenClaim := { program := "ytphkconoooeidaagreatdoor", sum := "67bf31730a335dd6b01d32bac46ccad9c3559760bc52bcf868b41ed9536c6f5d", func := "vault/vaultlaw.KernBoots", spec := "kernBoots", unfollowed := true, recurses := true, named := ["vault/caps.noSlot"], apart := false, laid := [("vault/caps.noSlot", laid_vault_caps_noSlot)] }
def KernBootsSaid : Prop := kernBootsRow.holds Tryz.pinned (OpenSpec.ofChange kernBootsSpec)

/-- ITS FALSE NEIGHBOUR: 'it returns false'. Refute it at one input. -/
def kernBootsWrong : ChangeSpec := { name := "kernBoots", fn := fun _ => fun
  | [d] => { results := [.lit (.bool false)], args := [d] }
  | _ => none }
def KernBootsWrongFalsely : Prop := kernBootsRow.holds Tryz.pinned (OpenSpec.ofChange kernBootsWrong)

/- THE SECOND FORM. 'bulk': how many values and letters a reading holds, each counted each time it is reached (what is shared counts as often as it is met; a slice's spare places count too). A statement '..UptoSaid' is the law's where the arguments, and the package variables that the reading takes, are together of bulk at most 1048576: NARROWER than '..Said'. Prove '..Said' where nothing that the law and all that it calls make is longer than what came in: it says more and counts as full. Else prove '..UptoSaid'. A law counts once. -/
mutual
def uptoBulk {H : Type} : DataW H → Nat
  | .lit (.string bytes) => bytes.length + 1
  | .lit _ => 1
  | .nil => 1
  | .ptr d => uptoBulk d + 1
  | .slice elems spare => uptoBulkAll elems + uptoBulkAll spare + 1
  | .agg parts => uptoBulkAll parts + 1
  | .iface _ d => uptoBulk d + 1
  | .map entries => uptoBulkEntries entries + 1
  | .held _ => 1
def uptoBulkAll {H : Type} : List (DataW H) → Nat
  | [] => 0
  | d :: r => uptoBulk d + uptoBulkAll r
def uptoBulkEntries {H : Type} : List (Lit × DataW H) → Nat
  | [] => 0
  | x :: r => uptoBulkEntry x + uptoBulkEntries r
def uptoBulkEntry {H : Type} : Lit × DataW H → Nat
  | (.string bytes, d) => bytes.length + uptoBulk d + 1
  | (_, d) => uptoBulk d + 1
 end
def uptoSmall : (H : Type) → List (DataW H) → Bool := fun _ ds => decide (uptoBulkAll ds ≤ 1048576)
def OpenSpec.upto (s : _root_.Go.ChangeSpec) : _root_.Go.OpenSpec := { _root_.Go.OpenSpec.ofChange s with cond := some uptoSmall }

/-- 'vaultlaw.KernBoots', WHERE WHAT IT READS IS OF BULK AT MOST 1048576: true; the input reads as it did. -/
def kernBootsUptoRow : OpenClaim := { program := "ytphkconoooeidaagreatdoor", sum := "67bf31730a335dd6b01d32bac46ccad9c3559760bc52bcf868b41ed9536c6f5d", func := "vault/vaultlaw.KernBoots", spec := "kernBoots", unfollowed := true, recurses := true, named := ["vault/caps.noSlot"], apart := false, laid := [("vault/caps.noSlot", laid_vault_caps_noSlot)], narrowed := true }
def KernBootsUptoSaid : Prop := kernBootsUptoRow.holds Tryz.pinned (OpenSpec.upto kernBootsSpec)

end Rows
end Go.Proofs.YtphkconoooeidaaGreatDoor

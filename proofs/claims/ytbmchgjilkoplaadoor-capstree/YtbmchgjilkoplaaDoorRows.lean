/-
  NARROWER THAN 'FOR EVERY INPUT', by the rows' own cells (each row's printed sentence says how): CapsScripts: laid · CapsTree: laid · CapsRevoked: laid.
  DERIVED. THE GIVEN ROWS OF THIS SEAT. 3 by the template 'for every input the law returns true; each argument reads behind the call as it read before'; 0 by the template 'total and deterministic' (their statements: YtbmchgjilkoplaaDoorTotals.lean).
  GIVEN WITH THE SEED: the statements are not yours to turn. If you find one false, say at which input.
  Laid BY PROGRAM, IN A SANDBOX (cutbox-rows.mjs): the forced cells as the released guide's own fill.sh prints them over the translation ff786fd077a0305a… (all of the seat's roots in one cut). By AI agents, Wed Nov 11 2026. No macro, syntax, notation, axiom, sorry.
-/
import Derived.Test.YtbmchgjilkoplaaDoorChecked
import GoSem.Claim
import GoSem.ClaimJoined
import GoSem.ClaimMapViews
import Derived.JoinedTies
import Derived.KernelRfl
namespace Go.Proofs.YtbmchgjilkoplaaDoor
/- THE CELL 'sum', in the pinned program and in every row, IS THE sha256 OF THE DUMP (.gsa) THAT YtbmchgjilkoplaaDoorProg.lean LOADS. Nothing in Lean hashes anything: it is a label: what it is worth is what the hold of that sum in a sandbox is worth. -/
noncomputable def Tryd.pinned : Pinned := { name := "ytbmchgjilkoplaadoor", sum := "ff786fd077a0305a86d0fead0b6672f2882f23ac2699d44f8b2a60e3fbd518e6", checked := Tryd.checked }
namespace Rows
def none {H : Type} : Left H := { results := [], args := [] }

/- WHAT THE LISTED PACKAGE-LEVEL VARIABLES READ AS WHEN THE CALL BEGINS. Each datum BY PROGRAM (the guide's laid-datum.mjs) off the statement by which the dump's own 'gosem.cut.vars' lays the variable. In a bare row this is a premise. The card (YtbmchgjilkoplaaDoorCards.lean) ties it to the program's text. -/
def laid_vault_caps_noSlot {H : Type} : DataW H := .agg [.lit (.int .i64 (-1)), .lit (.int .i64 (-1))]

/-- 'vaultlaw.CapsScripts': WHATEVER THE INPUT: true; the input reads as it did. -/
def capsScriptsSpec : ChangeSpec := { name := "capsScripts", fn := fun _ => fun
  | [d] => { results := [.lit (.bool true)], args := [d] }
  | _ => none }
def capsScriptsRow : OpenClaim := { program := "ytbmchgjilkoplaadoor", sum := "ff786fd077a0305a86d0fead0b6672f2882f23ac2699d44f8b2a60e3fbd518e6", func := "vault/vaultlaw.CapsScripts", spec := "capsScripts", unfollowed := true, recurses := true, named := ["vault/caps.noSlot"], plainKeys := false, apart := false, laid := [("vault/caps.noSlot", laid_vault_caps_noSlot)] }
def CapsScriptsSaid : Prop := capsScriptsRow.holds Tryd.pinned (OpenSpec.ofChange capsScriptsSpec)

/-- ITS FALSE NEIGHBOUR: 'it returns false'. Refute it at one input. -/
def capsScriptsWrong : ChangeSpec := { name := "capsScripts", fn := fun _ => fun
  | [d] => { results := [.lit (.bool false)], args := [d] }
  | _ => none }
def CapsScriptsWrongFalsely : Prop := capsScriptsRow.holds Tryd.pinned (OpenSpec.ofChange capsScriptsWrong)

/-- 'vaultkeep.CapsTree': WHATEVER THE INPUT: true; the input reads as it did. -/
def capsTreeSpec : ChangeSpec := { name := "capsTree", fn := fun _ => fun
  | [d1, d2] => { results := [.lit (.bool true)], args := [d1, d2] }
  | _ => none }
def capsTreeRow : OpenClaim := { program := "ytbmchgjilkoplaadoor", sum := "ff786fd077a0305a86d0fead0b6672f2882f23ac2699d44f8b2a60e3fbd518e6", func := "vault/vaultkeep.CapsTree", spec := "capsTree", unfollowed := true, recurses := true, named := ["vault/caps.noSlot"], plainKeys := false, apart := false, laid := [("vault/caps.noSlot", laid_vault_caps_noSlot)] }
def CapsTreeSaid : Prop := capsTreeRow.holds Tryd.pinned (OpenSpec.ofChange capsTreeSpec)

/-- ITS FALSE NEIGHBOUR: 'it returns false'. Refute it at one input. -/
def capsTreeWrong : ChangeSpec := { name := "capsTree", fn := fun _ => fun
  | [d1, d2] => { results := [.lit (.bool false)], args := [d1, d2] }
  | _ => none }
def CapsTreeWrongFalsely : Prop := capsTreeRow.holds Tryd.pinned (OpenSpec.ofChange capsTreeWrong)

/-- 'vaultkeep.CapsRevoked': WHATEVER THE INPUT: true; the input reads as it did. -/
def capsRevokedSpec : ChangeSpec := { name := "capsRevoked", fn := fun _ => fun
  | [d1, d2] => { results := [.lit (.bool true)], args := [d1, d2] }
  | _ => none }
def capsRevokedRow : OpenClaim := { program := "ytbmchgjilkoplaadoor", sum := "ff786fd077a0305a86d0fead0b6672f2882f23ac2699d44f8b2a60e3fbd518e6", func := "vault/vaultkeep.CapsRevoked", spec := "capsRevoked", unfollowed := true, recurses := true, named := ["vault/caps.noSlot"], plainKeys := false, apart := false, laid := [("vault/caps.noSlot", laid_vault_caps_noSlot)] }
def CapsRevokedSaid : Prop := capsRevokedRow.holds Tryd.pinned (OpenSpec.ofChange capsRevokedSpec)

/-- ITS FALSE NEIGHBOUR: 'it returns false'. Refute it at one input. -/
def capsRevokedWrong : ChangeSpec := { name := "capsRevoked", fn := fun _ => fun
  | [d1, d2] => { results := [.lit (.bool false)], args := [d1, d2] }
  | _ => none }
def CapsRevokedWrongFalsely : Prop := capsRevokedRow.holds Tryd.pinned (OpenSpec.ofChange capsRevokedWrong)

/- THE SECOND FORM. 'bulk': how many values and letters a reading holds, each counted each time it is reached (what is shared counts as often as it is met; a slice's spare places count too). A statement '..UptoSaid' is the law's where the arguments, and the package variables that the reading takes, are together of bulk at most 1048576: NARROWER than '..Said'. Prove '..Said' where nothing that the law and all that it calls make is longer than what came in: it says more and counts as full. Else prove '..UptoSaid'. A law counts once. -/
mutual
def uptoBulk {H : Type} : DataW H → Nat
  | .lit (.string bytes) => bytes.length + 1
  | .lit _ => 1
  | .nil => 1
  | .ptr d => uptoBulk d + 1
  | .slice elems spare => uptoBulkAll elems + uptoBulkAll spare + 1
  | .agg parts => uptoBulkAll parts + 1
  | .iface _ d => uptoBulk d + 1
  | .map entries => uptoBulkEntries entries + 1
  | .held _ => 1
def uptoBulkAll {H : Type} : List (DataW H) → Nat
  | [] => 0
  | d :: r => uptoBulk d + uptoBulkAll r
def uptoBulkEntries {H : Type} : List (Lit × DataW H) → Nat
  | [] => 0
  | x :: r => uptoBulkEntry x + uptoBulkEntries r
def uptoBulkEntry {H : Type} : Lit × DataW H → Nat
  | (.string bytes, d) => bytes.length + uptoBulk d + 1
  | (_, d) => uptoBulk d + 1
 end
def uptoSmall : (H : Type) → List (DataW H) → Bool := fun _ ds => decide (uptoBulkAll ds ≤ 1048576)
def OpenSpec.upto (s : _root_.Go.ChangeSpec) : _root_.Go.OpenSpec := { _root_.Go.OpenSpec.ofChange s with cond := some uptoSmall }

/-- 'vaultlaw.CapsScripts', WHERE WHAT IT READS IS OF BULK AT MOST 1048576: true; the input reads as it did. -/
def capsScriptsUptoRow : OpenClaim := { program := "ytbmchgjilkoplaadoor", sum := "ff786fd077a0305a86d0fead0b6672f2882f23ac2699d44f8b2a60e3fbd518e6", func := "vault/vaultlaw.CapsScripts", spec := "capsScripts", unfollowed := true, recurses := true, named := ["vault/caps.noSlot"], plainKeys := false, apart := false, laid := [("vault/caps.noSlot", laid_vault_caps_noSlot)], narrowed := true }
def CapsScriptsUptoSaid : Prop := capsScriptsUptoRow.holds Tryd.pinned (OpenSpec.upto capsScriptsSpec)

/-- 'vaultkeep.CapsTree', WHERE WHAT IT READS IS OF BULK AT MOST 1048576: true; the input reads as it did. -/
def capsTreeUptoRow : OpenClaim := { program := "ytbmchgjilkoplaadoor", sum := "ff786fd077a0305a86d0fead0b6672f2882f23ac2699d44f8b2a60e3fbd518e6", func := "vault/vaultkeep.CapsTree", spec := "capsTree", unfollowed := true, recurses := true, named := ["vault/caps.noSlot"], plainKeys := false, apart := false, laid := [("vault/caps.noSlot", laid_vault_caps_noSlot)], narrowed := true }
def CapsTreeUptoSaid : Prop := capsTreeUptoRow.holds Tryd.pinned (OpenSpec.upto capsTreeSpec)

/-- 'vaultkeep.CapsRevoked', WHERE WHAT IT READS IS OF BULK AT MOST 1048576: true; the input reads as it did. -/
def capsRevokedUptoRow : OpenClaim := { program := "ytbmchgjilkoplaadoor", sum := "ff786fd077a0305a86d0fead0b6672f2882f23ac2699d44f8b2a60e3fbd518e6", func := "vault/vaultkeep.CapsRevoked", spec := "capsRevoked", unfollowed := true, recurses := true, named := ["vault/caps.noSlot"], plainKeys := false, apart := false, laid := [("vault/caps.noSlot", laid_vault_caps_noSlot)], narrowed := true }
def CapsRevokedUptoSaid : Prop := capsRevokedUptoRow.holds Tryd.pinned (OpenSpec.upto capsRevokedSpec)

end Rows
end Go.Proofs.YtbmchgjilkoplaaDoor

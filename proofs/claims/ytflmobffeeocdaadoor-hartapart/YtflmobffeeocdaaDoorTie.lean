/-
  DERIVED. GIVEN WITH THE SEED: THE PROGRAM's TIES (one call each: nine closed facts by the kernel) AND EACH ROW's TIE, after the 31st guide's Derived/Test/Toyas{Tie, Card}.lean. No idea stands in it: it is a product of the set-up. Laid BY PROGRAM, IN A SANDBOX (cutbox-door.mjs). By AI agents, Wed Nov 11 2026. No macro, syntax, notation, axiom, sorry.
-/
import Derived.Test.YtflmobffeeocdaaDoorRows
import Derived.LaidByTextLater
import Derived.SevenTiedAt
import Derived.LaidSub
import Derived.LaidOnce
namespace Go.Proofs.YtflmobffeeocdaaDoor
open Go
set_option maxRecDepth 100000
theorem seatTie1 : Tryd.prog.laidByTextLater [("vault/mmu.uses", Rows.laid_vault_mmu_uses), ("vault/isa.forms", Rows.laid_vault_isa_forms), ("vault/hart.misaligned", Rows.laid_vault_hart_misaligned)] [.data, .data, .data] true :=
  Program.laidByTextLater_by_one 76 8 99 (by kernel_rfl) (by kernel_rfl) (by kernel_rfl) (by kernel_rfl) (by kernel_rfl) (by kernel_rfl) (fun _ _ => by kernel_rfl)
theorem noOwnUnsafe : Tryd.pinned.checked.prog.headLifts.contains "ownunsafe" = false := by kernel_rfl
theorem tie : Tryd.prog.laidByTextLater [("vault/mmu.uses", Rows.laid_vault_mmu_uses), ("vault/isa.forms", Rows.laid_vault_isa_forms), ("vault/hart.misaligned", Rows.laid_vault_hart_misaligned)] [.data, .data, .data] true :=
  Program.laidByTextLater.sub seatTie1 ["vault/mmu.uses", "vault/isa.forms", "vault/hart.misaligned"] (by kernel_rfl) (by kernel_rfl)
theorem hartApart_row_tie : Rows.hartApartRow.laidByTextAt .later Tryd.pinned [.data, .data, .data] true :=
  OpenClaim.laidByTextAt_later rfl rfl tie noOwnUnsafe
theorem hartSums_row_tie : Rows.hartSumsRow.laidByTextAt .later Tryd.pinned [.data, .data, .data] true :=
  OpenClaim.laidByTextAt_later rfl rfl tie noOwnUnsafe
theorem hartApartUpto_row_tie : Rows.hartApartUptoRow.laidByTextAt .later Tryd.pinned [.data, .data, .data] true :=
  OpenClaim.laidByTextAt_later rfl rfl tie noOwnUnsafe
theorem hartSumsUpto_row_tie : Rows.hartSumsUptoRow.laidByTextAt .later Tryd.pinned [.data, .data, .data] true :=
  OpenClaim.laidByTextAt_later rfl rfl tie noOwnUnsafe
end Go.Proofs.YtflmobffeeocdaaDoor

/- The contracts of isa.Encode by whether an instruction has a word. -/
import Derived.Test.YtmfookpigilccaaGreatDoorGoodDef
import Derived.Test.YtmfookpigilccaaGreatDoorW6
namespace Go.Proofs.YtmfookpigilccaaGreatDoor
open Go.ChangeShapes Go.WideShapes Go.ChangeAt Go.RowKit
open Go.Vx (insV dec Ins wordOf)

theorem encode_good (i : Ins) (h : Good i) (w : World) (hF : FormsAt w) :
    Calls Tryz.prog 11 #[insV i] w fun e w' => e = .returned (.tuple #[.int .u32 (wordOf i), .int .i64 0]) ∧ Below w.heap.size w w' := encode_ok i h.1 h.2.1 h.2.2 w hF
theorem encode_bad (i : Ins) (h : ¬ Good i) (w : World) (hF : FormsAt w) :
    Calls Tryz.prog 11 #[insV i] w fun e w' => e = .returned (.tuple #[.int .u32 0, .int .i64 8]) ∧ Below w.heap.size w w' := by
  by_cases h1 : 1 ≤ i.op ∧ i.op ≤ 48
  · exact encode_no i h1.1 h1.2 (fun e => h ⟨h1.1, h1.2, e⟩) w hF
  · exact encode_far i h1 w
theorem good_addi : Good ⟨19, 1, 0, 0, 5⟩ := ⟨by decide, by decide, dec_addi⟩
theorem encode_addi (w : World) (hF : FormsAt w) :
    Calls Tryz.prog 11 #[.agg #[.int .i64 19, .int .i64 1, .int .i64 0, .int .i64 0, .int .i64 5]] w fun e w' => e = .returned (.tuple #[.int .u32 5243027, .int .i64 0]) ∧ Below w.heap.size w w' :=
  encode_good ⟨19, 1, 0, 0, 5⟩ good_addi w hF

end Go.Proofs.YtmfookpigilccaaGreatDoor

/- Walks of the scripts: whole. -/
import Derived.Test.YtflmobffeeocdaaGreatDoorV1
namespace Go.Proofs.YtflmobffeeocdaaGreatDoor
open Go.ChangeShapes Go.WideShapes Go.ChangeAt Go.RowKit
open Go.Vx

theorem ref_text {w : World} {br bb n : Nat} {f : Nat → UInt8} (h : RefAt w br bb n f) {N : Nat} (hN : N = 4096 * n) : (convert 66 9 (.slice (some ⟨bb, 0, none⟩) N N)).run Tryz.prog w = .ok (.string ⟨(rowL f 0 N).toArray⟩) w := by
  have hl := length_rowL f 0 N
  have h := run_convert_bytes_back (P := Tryz.prog) w 66 9 5 ⟨bb, 0, none⟩ N (rowL f 0 N) Tryz.underlying66 Tryz.underlying5 Tryz.underlying9 (fun j hj => by
    rw [hl] at hj
    rw [addr_add, Nat.zero_add, h.cb (by omega)]
    have h2 : (rowL f 0 N)[j] = f j := by
      have := get_rowL f 0 N j hj
      rw [List.getElem?_eq_getElem (by rw [hl]; exact hj), Nat.zero_add] at this
      exact Option.some.inj this
    rw [h2]
    rfl)
  rw [hl] at h
  exact h
set_option maxRecDepth 100000 in
set_option maxHeartbeats 4000000 in
theorem whole_ok {U : Nat → Prop} {w : World} {sb bm br bb n : Nat} {f : Nat → UInt8} (h : StAt U w sb bm br bb n f f) :
    Calls Tryz.prog 17 #[.pointer (some ⟨sb, 0, none⟩)] w fun e w' => e = .returned (.bool true) ∧ Only (fun _ => False) w w' := by
  obtain ⟨N, hN⟩ : ∃ N, N = 4096 * n := ⟨_, rfl⟩
  have HCE : Hid (∀ wv, Only (fun _ => False) w wv → wv.cell? ⟨sb, 0, none⟩ = some (.pointer (some ⟨bm, 0, none⟩)) ∧ wv.cell? ⟨sb, 1, none⟩ = some (.pointer (some ⟨br, 0, none⟩)) ∧ wv.cell? ⟨br, 0, none⟩ = some (.slice (some ⟨bb, 0, none⟩) N N)) := fun wv hv => by
    have h1 := h.only hv
    rw [hN]
    exact ⟨h1.c0, h1.c1, h1.r.cr⟩
  have HRD : Hid (∀ wv, Only (fun _ => False) w wv → Calls Tryz.prog 25 #[.pointer (some ⟨bm, 0, none⟩), .int .i64 0, .int .i64 (N : Int)] wv fun e w' => e = .returned (.tuple #[.string ⟨(rowL f 0 N).toArray⟩, .int .i64 0]) ∧ Only (fun _ => False) w w') := fun wv hv => by
    refine (read_ok (h.only hv).m 0 N (by omega)).mono ?_
    rintro e w' ⟨rfl, ho⟩
    exact ⟨rfl, hv.trans ho⟩
  have HCV : Hid (∀ wv, Only (fun _ => False) w wv → (convert 66 9 (.slice (some ⟨bb, 0, none⟩) N N)).run Tryz.prog wv = .ok (.string ⟨(rowL f 0 N).toArray⟩) wv) := fun wv hv => ref_text (h.only hv).r hN
  generalize (rowL f 0 N).toArray = t at HRD HCV
  have HO0 : Hid (Only (fun _ => False) w w.drew) := (Only.refl _ _).drew
  have HS0 := Vx.hid (HCE.out _ HO0.out)
  clear h hN
  go_enter Tryz.func17, Tryz.ntmps17
  go_wp2_with fail
  go_region_held3 (fun wv => wv.cell? ⟨sb, 0, none⟩ = some (.pointer (some ⟨bm, 0, none⟩)) ∧ wv.cell? ⟨sb, 1, none⟩ = some (.pointer (some ⟨br, 0, none⟩)) ∧ wv.cell? ⟨br, 0, none⟩ = some (.slice (some ⟨bb, 0, none⟩) N N)) (first | exact HS0.out | exact HS1.out) (first | (go_at_call 25; refine (HRD.out _ HO0.out).mono ?_; rintro e w1 ⟨rfl, ho1⟩; have HO1 := Vx.hid ho1; have HS1 := Vx.hid (HCE.out w1 HO1.out); clear ho1))
  all_goals
    have hc1 := HS1.out.2.1
    have hc2 := HS1.out.2.2
    have hcv := HCV.out w1 HO1.out
    go_wp2_with fail
    all_goals
      go_ret
      exact ⟨rfl, HO1.out⟩
end Go.Proofs.YtflmobffeeocdaaGreatDoor

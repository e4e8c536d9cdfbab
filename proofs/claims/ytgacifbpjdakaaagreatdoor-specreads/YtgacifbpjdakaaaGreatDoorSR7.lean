/- Package spec's reader: rights (gen_sr7.py). -/
import Derived.Test.YtgacifbpjdakaaaGreatDoorSR6
namespace Go.Proofs.YtgacifbpjdakaaaGreatDoor
open Go.ChangeShapes Go.WideShapes Go.ChangeAt Go.RowKit
open Go.Vx
set_option linter.unusedVariables false
set_option linter.unusedSimpArgs false
variable {W w w2 : World} {rb : Nat} {V : Rv} {vw : Value} {ws : List (List UInt8)} {T : Tx} {x : List UInt8}

theorem rightOf_r (w : World) : Calls Tryz.prog 111 #[.int .i32 114] w fun e w' => e = .returned (.int .i64 1) ∧ w' = w := by
  go_enter Tryz.func111, Tryz.ntmps111
  go_wp2
  go_ret
  exact ⟨rfl, rfl⟩
theorem rightOf_w (w : World) : Calls Tryz.prog 111 #[.int .i32 119] w fun e w' => e = .returned (.int .i64 2) ∧ w' = w := by
  go_enter Tryz.func111, Tryz.ntmps111
  go_wp2
  go_ret
  exact ⟨rfl, rfl⟩
theorem rightOf_g (w : World) : Calls Tryz.prog 111 #[.int .i32 103] w fun e w' => e = .returned (.int .i64 4) ∧ w' = w := by
  go_enter Tryz.func111, Tryz.ntmps111
  go_wp2
  go_ret
  exact ⟨rfl, rfl⟩
theorem rightOf_x (w : World) : Calls Tryz.prog 111 #[.int .i32 120] w fun e w' => e = .returned (.int .i64 4) ∧ w' = w := by
  go_enter Tryz.func111, Tryz.ntmps111
  go_wp2
  go_ret
  exact ⟨rfl, rfl⟩
set_option maxRecDepth 20000 in
set_option maxHeartbeats 2000000 in
theorem rights_0 (h : RdAt W w rb V vw ([45] :: ws) T) (hl : ws.length ≤ 30000) :
    Calls Tryz.prog 78 #[.pointer (some ⟨rb, 0, none⟩)] w fun e w' => e = .returned (.int .i64 0) ∧ Hid (RdP W w rb V ws T w') := by
  have HW := Vx.hid (word_ok h hl)
  clear h hl
  go_enter Tryz.func78, Tryz.ntmps78
  go_wp2_with fail
  refine HW.out.mono ?_
  rintro e w1 ⟨rfl, H1⟩
  clear HW
  go_wp2_with fail
  go_ret
  exact ⟨rfl, H1.out⟩
set_option maxRecDepth 20000 in
set_option maxHeartbeats 2000000 in
theorem rights_1 (h : RdAt W w rb V vw ([114] :: ws) T) (hl : ws.length ≤ 30000) :
    Calls Tryz.prog 78 #[.pointer (some ⟨rb, 0, none⟩)] w fun e w' => e = .returned (.int .i64 1) ∧ Hid (RdP W w rb V ws T w') := by
  have HW := Vx.hid (word_ok h hl)
  clear h hl
  go_enter Tryz.func78, Tryz.ntmps78
  go_wp2_with fail
  refine HW.out.mono ?_
  rintro e w1 ⟨rfl, H1⟩
  clear HW
  go_wp2_with fail
  go_loopw [4] (fun a wr => (a = .int .i64 0 ∧ wr = w1.iter ⟨#[114]⟩ 0) ∨ (a = .int .i64 1 ∧ wr = w1.iter ⟨#[114]⟩ 1)) (fun a wr => match wr.heap[w1.heap.size]? with | some (.stringIter _ p) => 1 - p | _ => 0)
  case atStart => exact Or.inl ⟨rfl, rfl⟩
  case round =>
    rcases hrel with ⟨rfl, rfl⟩ | ⟨rfl, rfl⟩
    · have hnx := fun ty => run_next_ascii (P := Tryz.prog) w1 ⟨#[114]⟩ 0 ty (by decide) (by decide)
      have hcc : (((ByteArray.mk #[114])[0]'(by decide)).toNat : Int) = 114 := by decide
      rw [hcc] at hnx
      clear hcc
      go_wp2_with (go_at_call 111; refine (rightOf_r _).mono ?_; rintro e w9 ⟨rfl, rfl⟩)
      go_roundw
      case rel => first | exact Or.inr (⟨rfl, rfl⟩) | exact Or.inr (⟨trivial, rfl⟩) | exact Or.inr (⟨congrArg (Value.int .i64) (by decide +kernel), trivial⟩)
      case measure => simp only [World.iter_heap]; decide
    · have hnx := fun ty => run_next_end (P := Tryz.prog) w1 ⟨#[114]⟩ 1 ty (by decide)
      go_wp2
      go_ret
      obtain ⟨h1, vw', h2⟩ := H1.out
      have ho : Only (fun _ => False) w1 (w1.iter ⟨#[114]⟩ 1) := (Only.refl _ w1).alloc _
      exact ⟨rfl, h1.trans (ho.mono (fun _ _ h => h.elim)), vw', h2.quiet ho⟩
set_option maxRecDepth 20000 in
set_option maxHeartbeats 2000000 in
theorem rights_2 (h : RdAt W w rb V vw ([119] :: ws) T) (hl : ws.length ≤ 30000) :
    Calls Tryz.prog 78 #[.pointer (some ⟨rb, 0, none⟩)] w fun e w' => e = .returned (.int .i64 2) ∧ Hid (RdP W w rb V ws T w') := by
  have HW := Vx.hid (word_ok h hl)
  clear h hl
  go_enter Tryz.func78, Tryz.ntmps78
  go_wp2_with fail
  refine HW.out.mono ?_
  rintro e w1 ⟨rfl, H1⟩
  clear HW
  go_wp2_with fail
  go_loopw [4] (fun a wr => (a = .int .i64 0 ∧ wr = w1.iter ⟨#[119]⟩ 0) ∨ (a = .int .i64 2 ∧ wr = w1.iter ⟨#[119]⟩ 1)) (fun a wr => match wr.heap[w1.heap.size]? with | some (.stringIter _ p) => 1 - p | _ => 0)
  case atStart => exact Or.inl ⟨rfl, rfl⟩
  case round =>
    rcases hrel with ⟨rfl, rfl⟩ | ⟨rfl, rfl⟩
    · have hnx := fun ty => run_next_ascii (P := Tryz.prog) w1 ⟨#[119]⟩ 0 ty (by decide) (by decide)
      have hcc : (((ByteArray.mk #[119])[0]'(by decide)).toNat : Int) = 119 := by decide
      rw [hcc] at hnx
      clear hcc
      go_wp2_with (go_at_call 111; refine (rightOf_w _).mono ?_; rintro e w9 ⟨rfl, rfl⟩)
      go_roundw
      case rel => first | exact Or.inr (⟨rfl, rfl⟩) | exact Or.inr (⟨trivial, rfl⟩) | exact Or.inr (⟨congrArg (Value.int .i64) (by decide +kernel), trivial⟩)
      case measure => simp only [World.iter_heap]; decide
    · have hnx := fun ty => run_next_end (P := Tryz.prog) w1 ⟨#[119]⟩ 1 ty (by decide)
      go_wp2
      go_ret
      obtain ⟨h1, vw', h2⟩ := H1.out
      have ho : Only (fun _ => False) w1 (w1.iter ⟨#[119]⟩ 1) := (Only.refl _ w1).alloc _
      exact ⟨rfl, h1.trans (ho.mono (fun _ _ h => h.elim)), vw', h2.quiet ho⟩
set_option maxRecDepth 20000 in
set_option maxHeartbeats 2000000 in
theorem rights_3 (h : RdAt W w rb V vw ([119, 114] :: ws) T) (hl : ws.length ≤ 30000) :
    Calls Tryz.prog 78 #[.pointer (some ⟨rb, 0, none⟩)] w fun e w' => e = .returned (.int .i64 3) ∧ Hid (RdP W w rb V ws T w') := by
  have HW := Vx.hid (word_ok h hl)
  clear h hl
  go_enter Tryz.func78, Tryz.ntmps78
  go_wp2_with fail
  refine HW.out.mono ?_
  rintro e w1 ⟨rfl, H1⟩
  clear HW
  go_wp2_with fail
  go_loopw [4] (fun a wr => (a = .int .i64 0 ∧ wr = w1.iter ⟨#[119, 114]⟩ 0) ∨ (a = .int .i64 2 ∧ wr = w1.iter ⟨#[119, 114]⟩ 1) ∨ (a = .int .i64 3 ∧ wr = w1.iter ⟨#[119, 114]⟩ 2)) (fun a wr => match wr.heap[w1.heap.size]? with | some (.stringIter _ p) => 2 - p | _ => 0)
  case atStart => exact Or.inl ⟨rfl, rfl⟩
  case round =>
    rcases hrel with ⟨rfl, rfl⟩ | ⟨rfl, rfl⟩ | ⟨rfl, rfl⟩
    · have hnx := fun ty => run_next_ascii (P := Tryz.prog) w1 ⟨#[119, 114]⟩ 0 ty (by decide) (by decide)
      have hcc : (((ByteArray.mk #[119, 114])[0]'(by decide)).toNat : Int) = 119 := by decide
      rw [hcc] at hnx
      clear hcc
      go_wp2_with (go_at_call 111; refine (rightOf_w _).mono ?_; rintro e w9 ⟨rfl, rfl⟩)
      go_roundw
      case rel => first | exact Or.inr (Or.inl ⟨rfl, rfl⟩) | exact Or.inr (Or.inl ⟨trivial, rfl⟩) | exact Or.inr (Or.inl ⟨congrArg (Value.int .i64) (by decide +kernel), trivial⟩)
      case measure => simp only [World.iter_heap]; decide
    · have hnx := fun ty => run_next_ascii (P := Tryz.prog) w1 ⟨#[119, 114]⟩ 1 ty (by decide) (by decide)
      have hcc : (((ByteArray.mk #[119, 114])[1]'(by decide)).toNat : Int) = 114 := by decide
      rw [hcc] at hnx
      clear hcc
      go_wp2_with (go_at_call 111; refine (rightOf_r _).mono ?_; rintro e w9 ⟨rfl, rfl⟩)
      go_roundw
      case rel => first | exact Or.inr (Or.inr (⟨rfl, rfl⟩)) | exact Or.inr (Or.inr (⟨trivial, rfl⟩)) | exact Or.inr (Or.inr (⟨congrArg (Value.int .i64) (by decide +kernel), trivial⟩))
      case measure => simp only [World.iter_heap]; decide
    · have hnx := fun ty => run_next_end (P := Tryz.prog) w1 ⟨#[119, 114]⟩ 2 ty (by decide)
      go_wp2
      go_ret
      obtain ⟨h1, vw', h2⟩ := H1.out
      have ho : Only (fun _ => False) w1 (w1.iter ⟨#[119, 114]⟩ 2) := (Only.refl _ w1).alloc _
      exact ⟨rfl, h1.trans (ho.mono (fun _ _ h => h.elim)), vw', h2.quiet ho⟩
set_option maxRecDepth 20000 in
set_option maxHeartbeats 2000000 in
theorem rights_4 (h : RdAt W w rb V vw ([103] :: ws) T) (hl : ws.length ≤ 30000) :
    Calls Tryz.prog 78 #[.pointer (some ⟨rb, 0, none⟩)] w fun e w' => e = .returned (.int .i64 4) ∧ Hid (RdP W w rb V ws T w') := by
  have HW := Vx.hid (word_ok h hl)
  clear h hl
  go_enter Tryz.func78, Tryz.ntmps78
  go_wp2_with fail
  refine HW.out.mono ?_
  rintro e w1 ⟨rfl, H1⟩
  clear HW
  go_wp2_with fail
  go_loopw [4] (fun a wr => (a = .int .i64 0 ∧ wr = w1.iter ⟨#[103]⟩ 0) ∨ (a = .int .i64 4 ∧ wr = w1.iter ⟨#[103]⟩ 1)) (fun a wr => match wr.heap[w1.heap.size]? with | some (.stringIter _ p) => 1 - p | _ => 0)
  case atStart => exact Or.inl ⟨rfl, rfl⟩
  case round =>
    rcases hrel with ⟨rfl, rfl⟩ | ⟨rfl, rfl⟩
    · have hnx := fun ty => run_next_ascii (P := Tryz.prog) w1 ⟨#[103]⟩ 0 ty (by decide) (by decide)
      have hcc : (((ByteArray.mk #[103])[0]'(by decide)).toNat : Int) = 103 := by decide
      rw [hcc] at hnx
      clear hcc
      go_wp2_with (go_at_call 111; refine (rightOf_g _).mono ?_; rintro e w9 ⟨rfl, rfl⟩)
      go_roundw
      case rel => first | exact Or.inr (⟨rfl, rfl⟩) | exact Or.inr (⟨trivial, rfl⟩) | exact Or.inr (⟨congrArg (Value.int .i64) (by decide +kernel), trivial⟩)
      case measure => simp only [World.iter_heap]; decide
    · have hnx := fun ty => run_next_end (P := Tryz.prog) w1 ⟨#[103]⟩ 1 ty (by decide)
      go_wp2
      go_ret
      obtain ⟨h1, vw', h2⟩ := H1.out
      have ho : Only (fun _ => False) w1 (w1.iter ⟨#[103]⟩ 1) := (Only.refl _ w1).alloc _
      exact ⟨rfl, h1.trans (ho.mono (fun _ _ h => h.elim)), vw', h2.quiet ho⟩
set_option maxRecDepth 20000 in
set_option maxHeartbeats 2000000 in
theorem rights_5 (h : RdAt W w rb V vw ([120, 114] :: ws) T) (hl : ws.length ≤ 30000) :
    Calls Tryz.prog 78 #[.pointer (some ⟨rb, 0, none⟩)] w fun e w' => e = .returned (.int .i64 5) ∧ Hid (RdP W w rb V ws T w') := by
  have HW := Vx.hid (word_ok h hl)
  clear h hl
  go_enter Tryz.func78, Tryz.ntmps78
  go_wp2_with fail
  refine HW.out.mono ?_
  rintro e w1 ⟨rfl, H1⟩
  clear HW
  go_wp2_with fail
  go_loopw [4] (fun a wr => (a = .int .i64 0 ∧ wr = w1.iter ⟨#[120, 114]⟩ 0) ∨ (a = .int .i64 4 ∧ wr = w1.iter ⟨#[120, 114]⟩ 1) ∨ (a = .int .i64 5 ∧ wr = w1.iter ⟨#[120, 114]⟩ 2)) (fun a wr => match wr.heap[w1.heap.size]? with | some (.stringIter _ p) => 2 - p | _ => 0)
  case atStart => exact Or.inl ⟨rfl, rfl⟩
  case round =>
    rcases hrel with ⟨rfl, rfl⟩ | ⟨rfl, rfl⟩ | ⟨rfl, rfl⟩
    · have hnx := fun ty => run_next_ascii (P := Tryz.prog) w1 ⟨#[120, 114]⟩ 0 ty (by decide) (by decide)
      have hcc : (((ByteArray.mk #[120, 114])[0]'(by decide)).toNat : Int) = 120 := by decide
      rw [hcc] at hnx
      clear hcc
      go_wp2_with (go_at_call 111; refine (rightOf_x _).mono ?_; rintro e w9 ⟨rfl, rfl⟩)
      go_roundw
      case rel => first | exact Or.inr (Or.inl ⟨rfl, rfl⟩) | exact Or.inr (Or.inl ⟨trivial, rfl⟩) | exact Or.inr (Or.inl ⟨congrArg (Value.int .i64) (by decide +kernel), trivial⟩)
      case measure => simp only [World.iter_heap]; decide
    · have hnx := fun ty => run_next_ascii (P := Tryz.prog) w1 ⟨#[120, 114]⟩ 1 ty (by decide) (by decide)
      have hcc : (((ByteArray.mk #[120, 114])[1]'(by decide)).toNat : Int) = 114 := by decide
      rw [hcc] at hnx
      clear hcc
      go_wp2_with (go_at_call 111; refine (rightOf_r _).mono ?_; rintro e w9 ⟨rfl, rfl⟩)
      go_roundw
      case rel => first | exact Or.inr (Or.inr (⟨rfl, rfl⟩)) | exact Or.inr (Or.inr (⟨trivial, rfl⟩)) | exact Or.inr (Or.inr (⟨congrArg (Value.int .i64) (by decide +kernel), trivial⟩))
      case measure => simp only [World.iter_heap]; decide
    · have hnx := fun ty => run_next_end (P := Tryz.prog) w1 ⟨#[120, 114]⟩ 2 ty (by decide)
      go_wp2
      go_ret
      obtain ⟨h1, vw', h2⟩ := H1.out
      have ho : Only (fun _ => False) w1 (w1.iter ⟨#[120, 114]⟩ 2) := (Only.refl _ w1).alloc _
      exact ⟨rfl, h1.trans (ho.mono (fun _ _ h => h.elim)), vw', h2.quiet ho⟩
set_option maxRecDepth 20000 in
set_option maxHeartbeats 2000000 in
theorem rights_6 (h : RdAt W w rb V vw ([103, 119] :: ws) T) (hl : ws.length ≤ 30000) :
    Calls Tryz.prog 78 #[.pointer (some ⟨rb, 0, none⟩)] w fun e w' => e = .returned (.int .i64 6) ∧ Hid (RdP W w rb V ws T w') := by
  have HW := Vx.hid (word_ok h hl)
  clear h hl
  go_enter Tryz.func78, Tryz.ntmps78
  go_wp2_with fail
  refine HW.out.mono ?_
  rintro e w1 ⟨rfl, H1⟩
  clear HW
  go_wp2_with fail
  go_loopw [4] (fun a wr => (a = .int .i64 0 ∧ wr = w1.iter ⟨#[103, 119]⟩ 0) ∨ (a = .int .i64 4 ∧ wr = w1.iter ⟨#[103, 119]⟩ 1) ∨ (a = .int .i64 6 ∧ wr = w1.iter ⟨#[103, 119]⟩ 2)) (fun a wr => match wr.heap[w1.heap.size]? with | some (.stringIter _ p) => 2 - p | _ => 0)
  case atStart => exact Or.inl ⟨rfl, rfl⟩
  case round =>
    rcases hrel with ⟨rfl, rfl⟩ | ⟨rfl, rfl⟩ | ⟨rfl, rfl⟩
    · have hnx := fun ty => run_next_ascii (P := Tryz.prog) w1 ⟨#[103, 119]⟩ 0 ty (by decide) (by decide)
      have hcc : (((ByteArray.mk #[103, 119])[0]'(by decide)).toNat : Int) = 103 := by decide
      rw [hcc] at hnx
      clear hcc
      go_wp2_with (go_at_call 111; refine (rightOf_g _).mono ?_; rintro e w9 ⟨rfl, rfl⟩)
      go_roundw
      case rel => first | exact Or.inr (Or.inl ⟨rfl, rfl⟩) | exact Or.inr (Or.inl ⟨trivial, rfl⟩) | exact Or.inr (Or.inl ⟨congrArg (Value.int .i64) (by decide +kernel), trivial⟩)
      case measure => simp only [World.iter_heap]; decide
    · have hnx := fun ty => run_next_ascii (P := Tryz.prog) w1 ⟨#[103, 119]⟩ 1 ty (by decide) (by decide)
      have hcc : (((ByteArray.mk #[103, 119])[1]'(by decide)).toNat : Int) = 119 := by decide
      rw [hcc] at hnx
      clear hcc
      go_wp2_with (go_at_call 111; refine (rightOf_w _).mono ?_; rintro e w9 ⟨rfl, rfl⟩)
      go_roundw
      case rel => first | exact Or.inr (Or.inr (⟨rfl, rfl⟩)) | exact Or.inr (Or.inr (⟨trivial, rfl⟩)) | exact Or.inr (Or.inr (⟨congrArg (Value.int .i64) (by decide +kernel), trivial⟩))
      case measure => simp only [World.iter_heap]; decide
    · have hnx := fun ty => run_next_end (P := Tryz.prog) w1 ⟨#[103, 119]⟩ 2 ty (by decide)
      go_wp2
      go_ret
      obtain ⟨h1, vw', h2⟩ := H1.out
      have ho : Only (fun _ => False) w1 (w1.iter ⟨#[103, 119]⟩ 2) := (Only.refl _ w1).alloc _
      exact ⟨rfl, h1.trans (ho.mono (fun _ _ h => h.elim)), vw', h2.quiet ho⟩
set_option maxRecDepth 20000 in
set_option maxHeartbeats 2000000 in
theorem rights_7 (h : RdAt W w rb V vw ([114, 119, 120] :: ws) T) (hl : ws.length ≤ 30000) :
    Calls Tryz.prog 78 #[.pointer (some ⟨rb, 0, none⟩)] w fun e w' => e = .returned (.int .i64 7) ∧ Hid (RdP W w rb V ws T w') := by
  have HW := Vx.hid (word_ok h hl)
  clear h hl
  go_enter Tryz.func78, Tryz.ntmps78
  go_wp2_with fail
  refine HW.out.mono ?_
  rintro e w1 ⟨rfl, H1⟩
  clear HW
  go_wp2_with fail
  go_loopw [4] (fun a wr => (a = .int .i64 0 ∧ wr = w1.iter ⟨#[114, 119, 120]⟩ 0) ∨ (a = .int .i64 1 ∧ wr = w1.iter ⟨#[114, 119, 120]⟩ 1) ∨ (a = .int .i64 3 ∧ wr = w1.iter ⟨#[114, 119, 120]⟩ 2) ∨ (a = .int .i64 7 ∧ wr = w1.iter ⟨#[114, 119, 120]⟩ 3)) (fun a wr => match wr.heap[w1.heap.size]? with | some (.stringIter _ p) => 3 - p | _ => 0)
  case atStart => exact Or.inl ⟨rfl, rfl⟩
  case round =>
    rcases hrel with ⟨rfl, rfl⟩ | ⟨rfl, rfl⟩ | ⟨rfl, rfl⟩ | ⟨rfl, rfl⟩
    · have hnx := fun ty => run_next_ascii (P := Tryz.prog) w1 ⟨#[114, 119, 120]⟩ 0 ty (by decide) (by decide)
      have hcc : (((ByteArray.mk #[114, 119, 120])[0]'(by decide)).toNat : Int) = 114 := by decide
      rw [hcc] at hnx
      clear hcc
      go_wp2_with (go_at_call 111; refine (rightOf_r _).mono ?_; rintro e w9 ⟨rfl, rfl⟩)
      go_roundw
      case rel => first | exact Or.inr (Or.inl ⟨rfl, rfl⟩) | exact Or.inr (Or.inl ⟨trivial, rfl⟩) | exact Or.inr (Or.inl ⟨congrArg (Value.int .i64) (by decide +kernel), trivial⟩)
      case measure => simp only [World.iter_heap]; decide
    · have hnx := fun ty => run_next_ascii (P := Tryz.prog) w1 ⟨#[114, 119, 120]⟩ 1 ty (by decide) (by decide)
      have hcc : (((ByteArray.mk #[114, 119, 120])[1]'(by decide)).toNat : Int) = 119 := by decide
      rw [hcc] at hnx
      clear hcc
      go_wp2_with (go_at_call 111; refine (rightOf_w _).mono ?_; rintro e w9 ⟨rfl, rfl⟩)
      go_roundw
      case rel => first | exact Or.inr (Or.inr (Or.inl ⟨rfl, rfl⟩)) | exact Or.inr (Or.inr (Or.inl ⟨trivial, rfl⟩)) | exact Or.inr (Or.inr (Or.inl ⟨congrArg (Value.int .i64) (by decide +kernel), trivial⟩))
      case measure => simp only [World.iter_heap]; decide
    · have hnx := fun ty => run_next_ascii (P := Tryz.prog) w1 ⟨#[114, 119, 120]⟩ 2 ty (by decide) (by decide)
      have hcc : (((ByteArray.mk #[114, 119, 120])[2]'(by decide)).toNat : Int) = 120 := by decide
      rw [hcc] at hnx
      clear hcc
      go_wp2_with (go_at_call 111; refine (rightOf_x _).mono ?_; rintro e w9 ⟨rfl, rfl⟩)
      go_roundw
      case rel => first | exact Or.inr (Or.inr (Or.inr (⟨rfl, rfl⟩))) | exact Or.inr (Or.inr (Or.inr (⟨trivial, rfl⟩))) | exact Or.inr (Or.inr (Or.inr (⟨congrArg (Value.int .i64) (by decide +kernel), trivial⟩)))
      case measure => simp only [World.iter_heap]; decide
    · have hnx := fun ty => run_next_end (P := Tryz.prog) w1 ⟨#[114, 119, 120]⟩ 3 ty (by decide)
      go_wp2
      go_ret
      obtain ⟨h1, vw', h2⟩ := H1.out
      have ho : Only (fun _ => False) w1 (w1.iter ⟨#[114, 119, 120]⟩ 3) := (Only.refl _ w1).alloc _
      exact ⟨rfl, h1.trans (ho.mono (fun _ _ h => h.elim)), vw', h2.quiet ho⟩
theorem rights_ok (n : Nat) (hn : n < 8) (h : RdAt W w rb V vw (letF n :: ws) T) (hl : ws.length ≤ 30000) :
    Calls Tryz.prog 78 #[.pointer (some ⟨rb, 0, none⟩)] w fun e w' => e = .returned (.int .i64 (n : Int)) ∧ Hid (RdP W w rb V ws T w') := by
  rcases (show n = 0 ∨ n = 1 ∨ n = 2 ∨ n = 3 ∨ n = 4 ∨ n = 5 ∨ n = 6 ∨ n = 7 by omega) with rfl | rfl | rfl | rfl | rfl | rfl | rfl | rfl
  · exact rights_0 h hl
  · exact rights_1 h hl
  · exact rights_2 h hl
  · exact rights_3 h hl
  · exact rights_4 h hl
  · exact rights_5 h hl
  · exact rights_6 h hl
  · exact rights_7 h hl
end Go.Proofs.YtgacifbpjdakaaaGreatDoor

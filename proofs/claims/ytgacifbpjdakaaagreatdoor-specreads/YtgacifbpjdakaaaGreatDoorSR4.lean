/- Package spec's reader: names. -/
import Derived.Test.YtgacifbpjdakaaaGreatDoorSR2
import Derived.Laws.RangeString
namespace Go.Vx
set_option linter.unusedVariables false
/-- A name as lines tell it: small letters and digits, the first one no digit. -/
def NmOk (l : List UInt8) : Prop := 1 ≤ l.length ∧ l.length ≤ 32 ∧ ∀ (i : Nat) (h : i < l.length), (97 ≤ (l[i]).toNat ∧ (l[i]).toNat ≤ 122) ∨ (0 < i ∧ 48 ≤ (l[i]).toNat ∧ (l[i]).toNat ≤ 57)
theorem nm_ok (k : Nat) (hk : k < 4294967296) : NmOk (nmF k) := by
  refine ⟨by simp [nmF], ?_, fun i h => ?_⟩
  · unfold nmF
    rw [List.length_cons, Lib.decDigits_length]
    have := Go.Proofs.YtgacifbpjdakaaaGreatDoor.nDig_le k (by omega)
    omega
  · cases i with
    | zero => exact Or.inl (show 97 ≤ (110 : UInt8).toNat ∧ (110 : UInt8).toNat ≤ 122 from by decide)
    | succ i =>
      right
      refine ⟨by omega, ?_⟩
      have h2 : i < (Lib.decDigits k).length := by simpa [nmF] using h
      have e : (nmF k)[i + 1] = (Lib.decDigits k)[i] := rfl
      rw [e]
      exact dig_all k _ (List.getElem_mem h2)
theorem one_ok (c : UInt8) (h : 97 ≤ c.toNat ∧ c.toNat ≤ 122) : NmOk [c] := by
  refine ⟨by simp, by simp, fun i hi => ?_⟩
  have : i = 0 := by simpa using hi
  subst this
  exact Or.inl h
end Go.Vx
namespace Go.Proofs.YtgacifbpjdakaaaGreatDoor
open Go.ChangeShapes Go.WideShapes Go.ChangeAt Go.RowKit
open Go.Vx
set_option linter.unusedVariables false
variable {W w w2 : World} {rb : Nat} {V : Rv} {vw : Value} {ws : List (List UInt8)} {T : Tx} {x : List UInt8}

theorem isLetter_low (z : Int) (h1 : 97 ≤ z) (h2 : z ≤ 122) (w : World) : Calls Tryz.prog 157 #[.int .i32 z] w fun e w' => e = .returned (.bool true) ∧ w' = w := by
  go_enter Tryz.func157, Tryz.ntmps157
  go_wp2
  go_ret
  exact ⟨rfl, rfl⟩
theorem isLetter_dig (z : Int) (h1 : 48 ≤ z) (h2 : z ≤ 57) (w : World) : Calls Tryz.prog 157 #[.int .i32 z] w fun e w' => e = .returned (.bool false) ∧ w' = w := by
  have h3 : ¬ (97 : Int) ≤ z := by omega
  have h4 : ¬ (65 : Int) ≤ z := by omega
  have h5 : (z == 95) = false := by rw [beq_eq_false_iff_ne]; omega
  clear h1 h2
  go_enter Tryz.func157, Tryz.ntmps157
  go_wp2
  go_ret
  exact ⟨rfl, rfl⟩
theorem isDigit_dig (z : Int) (h1 : 48 ≤ z) (h2 : z ≤ 57) (w : World) : Calls Tryz.prog 158 #[.int .i32 z] w fun e w' => e = .returned (.bool true) ∧ w' = w := by
  go_enter Tryz.func158, Tryz.ntmps158
  go_wp2
  go_ret
  exact ⟨rfl, rfl⟩
theorem ba_at (l : List UInt8) (k : Nat) (h : k < l.length) (hq : k < (ByteArray.mk l.toArray).size) : (ByteArray.mk l.toArray)[k]'hq = l[k] := rfl
set_option maxRecDepth 20000 in
set_option maxHeartbeats 1000000 in
theorem isName_ok (l : List UInt8) (hl : NmOk l) (w : World) :
    Calls Tryz.prog 124 #[.string ⟨l.toArray⟩] w fun e w' => e = .returned (.bool true) ∧ Only (fun _ => False) w w' := by
  have hs : (ByteArray.mk l.toArray).size = l.length := by simp [ByteArray.size]
  have HL := Vx.hid hl
  have HO : Hid (∀ k, Only (fun _ => False) w (w.iter ⟨l.toArray⟩ k)) := fun k => (Only.refl _ w).alloc _
  have g1 : (1 : Int) ≤ (l.length : Int) := by have := hl.1; omega
  have g2 : (l.length : Int) ≤ 32 := by have := hl.2.1; omega
  have g3 : 1 ≤ l.length := hl.1
  have g4 : l.length ≤ 32 := hl.2.1
  clear hl
  go_enter Tryz.func124, Tryz.ntmps124
  go_wp2
  go_loopw [3] (fun a wr => ∃ k : Nat, k ≤ l.length ∧ wr = w.iter ⟨l.toArray⟩ k) (fun a wr => match wr.heap[w.heap.size]? with | some (.stringIter _ p) => l.length - p | _ => 0)
  case atStart => exact ⟨0, by omega, rfl⟩
  case round =>
    obtain ⟨k, hk, rfl⟩ := hrel
    by_cases hlt : k < l.length
    · obtain ⟨c, hc⟩ : ∃ c, c = l[k] := ⟨_, rfl⟩
      have hcs := HL.out.2.2 k hlt
      rw [← hc] at hcs
      have hnx := fun ty => run_next_ascii (P := Tryz.prog) w ⟨l.toArray⟩ k ty (by rw [hs]; exact hlt) (by rw [ba_at l k hlt, ← hc]; omega)
      rw [ba_at l k hlt, ← hc] at hnx
      clear hc
      rcases hcs with ⟨c1, c2⟩ | ⟨c0, c1, c2⟩
      · have HC := Vx.hid (fun wv => isLetter_low (c.toNat : Int) (by omega) (by omega) wv)
        clear c1 c2
        go_wp2_with (go_at_call 157; refine (HC.out _).mono ?_; rintro e w9 ⟨rfl, rfl⟩)
        go_roundw
        case rel => exact ⟨k + 1, by omega, rfl⟩
        case measure => simp only [World.iter_heap]; omega
      · have HC := Vx.hid (fun wv => isLetter_dig (c.toNat : Int) (by omega) (by omega) wv)
        have HD := Vx.hid (fun wv => isDigit_dig (c.toNat : Int) (by omega) (by omega) wv)
        have hk0 : ((k : Int) == 0) = false := by rw [beq_eq_false_iff_ne]; omega
        clear c1 c2
        go_wp2_with (first | (go_at_call 157; refine (HC.out _).mono ?_; rintro e w9 ⟨rfl, rfl⟩) | (go_at_call 158; refine (HD.out _).mono ?_; rintro e w9 ⟨rfl, rfl⟩))
        go_roundw
        case rel => exact ⟨k + 1, by omega, rfl⟩
        case measure => simp only [World.iter_heap]; omega
    · have hnx := fun ty => run_next_end (P := Tryz.prog) w ⟨l.toArray⟩ k ty (by rw [hs]; exact hlt)
      go_wp2
      go_ret
      exact ⟨rfl, HO.out _⟩
set_option maxHeartbeats 1000000 in
theorem name_rd (h : RdAt W w rb V vw (x :: ws) T) (hx : NmOk x) (hl : ws.length ≤ 30000) :
    Calls Tryz.prog 98 #[.pointer (some ⟨rb, 0, none⟩)] w fun e w' => e = .returned (.string ⟨x.toArray⟩) ∧ Hid (RdP W w rb V ws T w') := by
  have HW := Vx.hid (word_ok h hl)
  have HN := Vx.hid (fun wv => isName_ok x hx wv)
  clear h hl hx
  go_enter Tryz.func98, Tryz.ntmps98
  go_wp2_with fail
  refine HW.out.mono ?_
  rintro e w1 ⟨rfl, H1⟩
  clear HW
  go_wp2_with fail
  refine (HN.out _).mono ?_
  rintro e w2 ⟨rfl, ho⟩
  have HO := Vx.hid ho
  clear ho HN
  go_wp2_with fail
  go_ret
  obtain ⟨h1, vw', h2⟩ := H1.out
  exact ⟨rfl, h1.trans (HO.out.mono (fun _ _ h => h.elim)), vw', h2.quiet HO.out⟩
set_option maxHeartbeats 1000000 in
theorem newName_ok (h : RdAt W w rb V vw (x :: ws) T) (hx : NmOk x) (hn : x ∉ T.nm) (hl : ws.length ≤ 30000) :
    Calls Tryz.prog 66 #[.pointer (some ⟨rb, 0, none⟩)] w fun e w' => e = .returned (.string ⟨x.toArray⟩) ∧ Hid (RdP W w rb V ws T w') := by
  have HW := Vx.hid (name_rd h hx hl)
  have HN : Hid (∀ w1, RdP W w rb V ws T w1 → (w1.cell? ⟨rb, 15, none⟩ = some (.map (some V.mb))) ∧ (Instr.lookup 32 (.map (some V.mb)) (.string ⟨x.toArray⟩) true).run Tryz.prog w1 = .ok (.tuple #[.agg #[.int .i64 0, .int .i64 0], .bool false]) w1) := fun w1 h1 => by
    obtain ⟨_, vw', h2⟩ := h1
    exact ⟨(cell_of_row _ _ 15 _ _ (0, 0) h2.row).trans rfl, h2.nm.miss x (by have := hx.2.1; omega) hn⟩
  clear h hl hx hn
  go_enter Tryz.func66, Tryz.ntmps66
  go_wp2_with fail
  refine HW.out.mono ?_
  rintro e w1 ⟨rfl, H1⟩
  clear HW
  obtain ⟨c15, hlk⟩ := HN.out w1 H1.out
  clear HN
  go_wp2_with fail
  go_ret
  obtain ⟨h1, vw', h2⟩ := H1.out
  have ho := (Only.refl (fun _ => False) w1).alloc (.cells #[.int .i64 0, .int .i64 0] 46)
  exact ⟨rfl, h1.trans (ho.mono (fun _ _ h => h.elim)), vw', h2.quiet ho⟩
end Go.Proofs.YtgacifbpjdakaaaGreatDoor

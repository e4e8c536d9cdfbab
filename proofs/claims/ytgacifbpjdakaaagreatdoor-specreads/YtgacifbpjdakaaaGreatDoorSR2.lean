/- Package spec's reader: word, more, noMore, number, upTo, page. -/
import Derived.Test.YtgacifbpjdakaaaGreatDoorSR1
import Derived.Test.YtgacifbpjdakaaaGreatDoorShelf
namespace Go.Proofs.YtgacifbpjdakaaaGreatDoor
open Go.ChangeShapes Go.WideShapes Go.ChangeAt Go.RowKit
open Go.Vx
set_option linter.unusedVariables false
variable {W w w2 : World} {rb : Nat} {V : Rv} {vw : Value} {ws : List (List UInt8)} {T : Tx} {x : List UInt8}

theorem sz9 (w : World) : (sizeOf 9).run Tryz.prog w = .ok 1 w := by kernel_rfl
/-- Behind a call that takes words. -/
def RdP (W w : World) (rb : Nat) (V : Rv) (ws : List (List UInt8)) (T : Tx) (w' : World) : Prop := Only (fun k => k = rb) w w' ∧ ∃ vw', RdAt W w' rb V vw' ws T
set_option maxRecDepth 100000 in
set_option maxHeartbeats 1000000 in
theorem word_ok (h : RdAt W w rb V vw (x :: ws) T) (hl : ws.length ≤ 30000) :
    Calls Tryz.prog 43 #[.pointer (some ⟨rb, 0, none⟩)] w fun e w' => e = .returned (.string ⟨x.toArray⟩) ∧ Hid (RdP W w rb V ws T w') := by
  have HH := Vx.hid h
  obtain ⟨p, n, c, rfl, hn, hnc, h1⟩ := h.wd
  rcases h1 with h1 | ⟨g, o, cs, rfl, hg, hj⟩
  · cases h1
  have hc0 : w.cell? ⟨g, o, none⟩ = some (.string ⟨x.toArray⟩) := hj 0 (by simp)
  have HN : Hid (n = ws.length + 1) := by show n = _; simpa using hn
  have hne : ((n : Int) == 0) = false := by rw [beq_eq_false_iff_ne]; have := HN.out; omega
  have h1n : (1 : Int) ≤ (n : Int) := by have := HN.out; omega
  have hlt : 0 ≤ (0 : Int) ∧ (0 : Int) < (n : Int) := by have := HN.out; omega
  obtain ⟨p', hp'⟩ : ∃ p' : Option Addr, (if c = 1 then some ⟨g, o, none⟩ else some ⟨g, o + 1, none⟩) = p' := ⟨_, rfl⟩
  obtain ⟨n', hn'⟩ : ∃ n' : Nat, n - 1 = n' := ⟨_, rfl⟩
  obtain ⟨c', hc'⟩ : ∃ c' : Nat, c - 1 = c' := ⟨_, rfl⟩
  have hsl : ∀ wv : World, (Instr.slice 52 (.slice (some ⟨g, o, none⟩) n c) (some (.int .i64 1)) none none).run Tryz.prog wv = .ok (.slice p' n' c') wv := by
    intro wv
    have e1 : Tryz.prog.elem 52 = 9 := by kernel_rfl
    rw [run_slice_l (P := Tryz.prog) (t := 52) (w := wv) (a := some ⟨g, o, none⟩) (len := n) (cap := c) (by rw [e1]; exact Tryz.underlying52) .i64 1 (by decide) h1n]
    rw [e1, sz9, ← hp', ← hn', ← hc']
    rfl
  have HW : Hid (WdAt w (.slice p' n' c') ws) := by
    have hnn := HN.out
    refine ⟨p', n', c', rfl, by omega, by omega, ?_⟩
    by_cases he : ws = []
    · exact Or.inl he
    · have : 0 < ws.length := List.length_pos_iff.2 he
      rw [← hp', if_neg (by omega)]
      refine Or.inr ⟨g, o + 1, cs, rfl, hg, fun j hj' => ?_⟩
      have := hj (j + 1) (by simpa using hj')
      rw [show o + 1 + j = o + (j + 1) by omega]
      exact this
  have HGB : Hid (∀ g2 o2 n2 c2, Value.slice p' n' c' = .slice (some ⟨g2, o2, none⟩) n2 c2 → g2 < V.gb) := fun g2 o2 n2 c2 e => by
    injection e with e1 _ _
    have hlt9 := h.wdb g o n c rfl
    rw [← hp'] at e1
    split at e1 <;> (injection e1 with e1; injection e1 with e1 _ _; omega)
  have c2 : w.cell? ⟨rb, 2, none⟩ = some (.slice (some ⟨g, o, none⟩) n c) := (cell_of_row _ _ 2 _ _ (0, 0) h.row).trans rfl
  have f2 := froz h.row 2
  clear hj hn hp' hn' hc' h hg
  go_enter Tryz.func43, Tryz.ntmps43
  go_wp2_with fail
  go_ret
  exact ⟨rfl, Only.setCell (S := fun k => k = rb) (Only.refl _ w) (Or.inl rfl) _, _, HH.out.same _ _ HW.out HGB.out⟩
theorem more_yes (h : RdAt W w rb V vw (x :: ws) T) :
    Calls Tryz.prog 42 #[.pointer (some ⟨rb, 0, none⟩)] w fun e w' => e = .returned (.bool true) ∧ w' = w := by
  obtain ⟨p, n, c, rfl, hn, hnc, h1⟩ := h.wd
  have hp : (0 : Int) < (n : Int) := by rw [hn]; simp
  have hp0 : 0 < n := by rw [hn]; simp
  have c2 : w.cell? ⟨rb, 2, none⟩ = some (.slice p n c) := (cell_of_row _ _ 2 _ _ (0, 0) h.row).trans rfl
  have c4 : w.cell? ⟨rb, 4, none⟩ = some (.int .i64 0) := (cell_of_row _ _ 4 _ _ (0, 0) h.row).trans rfl
  clear h h1 hn hnc
  go_enter Tryz.func42, Tryz.ntmps42
  go_wp2_with fail
  go_ret
  exact ⟨rfl, rfl⟩
theorem more_no (h : RdAt W w rb V vw [] T) :
    Calls Tryz.prog 42 #[.pointer (some ⟨rb, 0, none⟩)] w fun e w' => e = .returned (.bool false) ∧ w' = w := by
  obtain ⟨p, n, c, rfl, hn, hnc, h1⟩ := h.wd
  have hp : n = 0 := by rw [hn]; rfl
  subst hp
  have c2 : w.cell? ⟨rb, 2, none⟩ = some (.slice p 0 c) := (cell_of_row _ _ 2 _ _ (0, 0) h.row).trans rfl
  have c4 : w.cell? ⟨rb, 4, none⟩ = some (.int .i64 0) := (cell_of_row _ _ 4 _ _ (0, 0) h.row).trans rfl
  clear h h1 hn hnc
  go_enter Tryz.func42, Tryz.ntmps42
  go_wp2_with fail
  go_ret
  exact ⟨rfl, rfl⟩
theorem noMore_ok (h : RdAt W w rb V vw [] T) :
    Calls Tryz.prog 47 #[.pointer (some ⟨rb, 0, none⟩)] w fun e w' => e = .returned (.tuple #[]) ∧ w' = w := by
  obtain ⟨p, n, c, rfl, hn, hnc, h1⟩ := h.wd
  have hp : n = 0 := by rw [hn]; rfl
  subst hp
  have c2 : w.cell? ⟨rb, 2, none⟩ = some (.slice p 0 c) := (cell_of_row _ _ 2 _ _ (0, 0) h.row).trans rfl
  clear h h1 hn hnc
  go_enter Tryz.func47, Tryz.ntmps47
  go_wp2_with fail
  first | go_end0 | refine bodyPost_ret (results_none rfl _ _ _) rfl ?_
  exact ⟨rfl, rfl⟩
theorem parse_any (n : Nat) (hn : n < 4294967296) (w : World) :
    Calls Tryz.prog 97 #[.string ⟨(Lib.decDigits n).toArray⟩, .int .i64 10, .int .i64 32] w fun e w' => e = .returned (.tuple #[.int .u64 n, .nilIface]) ∧ Only (fun _ => False) w w' := by
  have hl : (ByteArray.mk (Lib.decDigits n).toArray).size ≤ 9223372036854775806 := by
    have : (ByteArray.mk (Lib.decDigits n).toArray).size = (Lib.decDigits n).length := by simp [ByteArray.size]
    rw [this, Lib.decDigits_length]
    have := nDig_le n (by omega)
    omega
  refine (Tryz.strconv_ParseUint_10_at32_ok ⟨(Lib.decDigits n).toArray⟩ hl n (Vx.parse32 n hn) w).mono ?_
  rintro e w' ⟨rfl, rfl | rfl⟩
  · exact ⟨rfl, Only.refl _ _⟩
  · exact ⟨rfl, Only.bytes _ _ _ _⟩
theorem cutp_any (l p : List UInt8) (w : World) :
    Calls Tryz.prog 96 #[.string ⟨l.toArray⟩, .string ⟨p.toArray⟩] w fun e w' => e = .returned (.tuple #[.string ⟨(Lib.trimPrefix l p).toArray⟩, .bool (Lib.hasPrefix l p)]) ∧ w' = w := Tryz.strings_CutPrefix ⟨l.toArray⟩ ⟨p.toArray⟩ w
set_option maxHeartbeats 1000000 in
theorem number_ok (n : Nat) (hn : n < 4294967296) (h : RdAt W w rb V vw (Lib.decDigits n :: ws) T) (hl : ws.length ≤ 30000) :
    Calls Tryz.prog 63 #[.pointer (some ⟨rb, 0, none⟩)] w fun e w' => e = .returned (.int .i64 (n : Int)) ∧ Hid (RdP W w rb V ws T w') := by
  have HW := Vx.hid (word_ok h hl)
  have HC := Vx.hid (fun wv => cutp_any (Lib.decDigits n) [48, 120] wv)
  rw [Vx.no_hex n, Vx.trim_no (Vx.no_hex n)] at HC
  have HP := Vx.hid (fun wv => parse_any n hn wv)
  have hwr : IntKind.i64.wrap (n : Int) = (n : Int) := by rw [IntKind.wrap_i64]; omega
  obtain ⟨d, hd⟩ : ∃ d, d = Lib.decDigits n := ⟨_, rfl⟩
  rw [← hd] at HC HP HW
  clear h hd hn hl
  go_enter Tryz.func63, Tryz.ntmps63
  go_wp2_with fail
  refine HW.out.mono ?_
  rintro e w1 ⟨rfl, H1⟩
  clear HW
  go_wp2_with fail
  refine (HC.out _).mono ?_
  rintro e w2 ⟨rfl, rfl⟩
  clear HC
  go_wp2_with fail
  refine (HP.out _).mono ?_
  rintro e w3 ⟨rfl, ho3⟩
  have HO := Vx.hid ho3
  clear HP ho3
  go_wp2_with fail
  go_ret
  obtain ⟨h1, vw', h2⟩ := H1.out
  exact ⟨rfl, h1.trans (HO.out.mono (fun _ _ h => h.elim)), vw', h2.quiet HO.out⟩
theorem upTo_ok (n : Nat) (m : Int) (hn : n < 4294967296) (hm : (n : Int) ≤ m) (h : RdAt W w rb V vw (Lib.decDigits n :: ws) T) (hl : ws.length ≤ 30000) :
    Calls Tryz.prog 64 #[.pointer (some ⟨rb, 0, none⟩), .int .i64 m] w fun e w' => e = .returned (.int .i64 (n : Int)) ∧ Hid (RdP W w rb V ws T w') := by
  have HW := Vx.hid (number_ok n hn h hl)
  have hg : ¬ m < (n : Int) := by omega
  clear h hn hl hm
  go_enter Tryz.func64, Tryz.ntmps64
  go_wp2_with fail
  refine HW.out.mono ?_
  rintro e w1 ⟨rfl, H1⟩
  clear HW
  go_wp2_with fail
  go_ret
  exact ⟨rfl, H1.out⟩
theorem page_ok (n : Nat) (hn : n < 256) (h : RdAt W w rb V vw (Lib.decDigits n :: ws) T) (hl : ws.length ≤ 30000) :
    Calls Tryz.prog 67 #[.pointer (some ⟨rb, 0, none⟩)] w fun e w' => e = .returned (.int .i64 (n : Int)) ∧ Hid (RdP W w rb V ws T w') := by
  have HW := Vx.hid (upTo_ok n 255 (by omega) (by omega) h hl)
  clear h hn hl
  go_enter Tryz.func67, Tryz.ntmps67
  go_wp2_with fail
  refine HW.out.mono ?_
  rintro e w1 ⟨rfl, H1⟩
  clear HW
  go_wp2_with fail
  go_ret
  exact ⟨rfl, H1.out⟩
end Go.Proofs.YtgacifbpjdakaaaGreatDoor

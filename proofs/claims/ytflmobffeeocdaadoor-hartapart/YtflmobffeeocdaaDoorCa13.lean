import Derived.Test.YtflmobffeeocdaaDoorRows
import Derived.Test.YtflmobffeeocdaaDoorCa12
import Derived.WalkKit
import Derived.ProofKit
import Derived.OpenShut
import Derived.WalkSmall
import Derived.WalkLawsBesides
import Derived.Deep.QuietTactic
import Derived.BigQuiet
import Derived.Lib.ItoaNum
/- What all walks lean on: small facts on endings, boxes, strings, structs. -/
namespace Go.Vx
def pickAt (cs : Array Value) (n : Nat) : Value := cs.toList.getD n (.bool false)
theorem pickAt_get (cs : Array Value) (n : Nat) (h : n < cs.size) : cs[n]? = some (pickAt cs n) := by
  simp [pickAt, h]
end Go.Vx
namespace Go.Proofs.YtflmobffeeocdaaDoor
open Go.ChangeShapes Go.WideShapes Go.ChangeAt Go.RowKit
open Go.Vx (Ins)

theorem ret_int {k : IntKind} {a b : Int} (h : a = b) : Ending.returned (.int k a) = .returned (.int k b) := by rw [h]

theorem ret_valI {a b : Value} (h : a = b) : Ending.returned a = .returned b := by rw [h]
theorem box_cells {w w' : World} {B b : Nat} (hb : Below B w w') (h : b < B) : ∀ o, w'.cell? ⟨b, o, none⟩ = w.cell? ⟨b, o, none⟩ := fun o => hb.cell (p := ⟨b, o, none⟩) h

theorem cat (a b : List UInt8) : (⟨a.toArray⟩ : ByteArray) ++ ⟨b.toArray⟩ = ⟨(a ++ b).toArray⟩ := by
  apply ByteArray.ext
  simp [ByteArray.data_append]
theorem nDigits_le (N : Nat) (h : N < 18446744073709551616) : Lib.nDigits N ≤ 20 := by
  by_cases h1 : 1 ≤ N
  · have := Lib.numDigits_eq N h1 h; split at this <;> omega
  · have : N = 0 := by omega
    subst this
    decide +kernel
theorem nDigits_pos (N : Nat) : 1 ≤ Lib.nDigits N := by
  rw [Lib.nDigits]; split <;> omega
theorem ins_ext {a b : Ins} (h0 : a.op = b.op) (h1 : a.rd = b.rd) (h2 : a.rs1 = b.rs1) (h3 : a.rs2 = b.rs2) (h4 : a.imm = b.imm) : a = b := by
  cases a; cases b; simp_all
/-- Where two instructions part first. -/
theorem ins_ne {a b : Ins} (h : a ≠ b) : (a.op == b.op) = false ∨ ((a.op == b.op) = true ∧ (a.rd == b.rd) = false) ∨ ((a.op == b.op) = true ∧ (a.rd == b.rd) = true ∧ (a.rs1 == b.rs1) = false) ∨
    ((a.op == b.op) = true ∧ (a.rd == b.rd) = true ∧ (a.rs1 == b.rs1) = true ∧ (a.rs2 == b.rs2) = false) ∨ ((a.op == b.op) = true ∧ (a.rd == b.rd) = true ∧ (a.rs1 == b.rs1) = true ∧ (a.rs2 == b.rs2) = true ∧ (a.imm == b.imm) = false) := by
  by_cases e0 : a.op = b.op
  · by_cases e1 : a.rd = b.rd
    · by_cases e2 : a.rs1 = b.rs1
      · by_cases e3 : a.rs2 = b.rs2
        · by_cases e4 : a.imm = b.imm
          · exact absurd (ins_ext e0 e1 e2 e3 e4) h
          · simp [e0, e1, e2, e3, e4]
        · simp [e0, e1, e2, e3]
      · simp [e0, e1, e2]
    · simp [e0, e1]
  · simp [e0]

theorem index_sign (p : ByteArray) (l : List UInt8) (k : Nat) (hp : p = ⟨l.toArray⟩) (hk : k < l.length) (wv : World) :
    (Instr.index 9 (.string p) (.int .i64 (k : Int))).run Tryd.prog wv = .ok (.int .u8 ((l[k].toNat : Nat) : Int)) wv := by
  subst hp
  have hs : (ByteArray.mk l.toArray).size = l.length := by simp [ByteArray.size]
  rw [run_index_string wv 9 _ .i64 (k : Int) Tryd.underlying9, dif_pos (by omega)]
  simp only [Int.toNat_natCast]
  rfl
end Go.Proofs.YtflmobffeeocdaaDoor

/- Walks of isa's small functions: registers, spread, gather, loose. -/
namespace Go.Proofs.YtflmobffeeocdaaDoor
open Go.ChangeShapes Go.WideShapes Go.ChangeAt Go.RowKit
open Go.Vx (regMask spreadOf gatherOf looseMask)

set_option maxHeartbeats 1000000 in
theorem reg_any (k : Int) (h0 : 0 ≤ k) (h1 : k ≤ 7) (w : World) :
    Calls Tryd.prog 48 #[.int .i64 k] w fun e w' => e = .returned (.int .u32 (regMask k.toNat)) ∧ w' = w := by
  have hk : k = 0 ∨ k = 1 ∨ k = 2 ∨ k = 3 ∨ k = 4 ∨ k = 5 ∨ k = 6 ∨ k = 7 := by omega
  rcases hk with rfl | rfl | rfl | rfl | rfl | rfl | rfl | rfl
  all_goals
    go_enter Tryd.func48, Tryd.ntmps48
    go_wp2
    go_ret
    exact ⟨ret_int (by decide), rfl⟩

set_option maxHeartbeats 1000000 in
theorem spread_any (k x : Int) (h0 : 0 ≤ k) (h1 : k ≤ 7) (hx0 : 0 ≤ x) (hx1 : x < 4294967296) (w : World) :
    Calls Tryd.prog 49 #[.int .i64 k, .int .u32 x] w fun e w' => e = .returned (.int .u32 (spreadOf k.toNat x)) ∧ w' = w := by
  have hk : k = 0 ∨ k = 1 ∨ k = 2 ∨ k = 3 ∨ k = 4 ∨ k = 5 ∨ k = 6 ∨ k = 7 := by omega
  rcases hk with rfl | rfl | rfl | rfl | rfl | rfl | rfl | rfl
  all_goals
    go_enter Tryd.func49, Tryd.ntmps49
    go_wp2
    go_ret
  · exact ⟨ret_int rfl, rfl⟩
  · exact ⟨ret_int (Vx.spread_1 x hx0 hx1), rfl⟩
  · exact ⟨ret_int (Vx.spread_2 x hx0 hx1), rfl⟩
  · exact ⟨ret_int (Vx.spread_3 x hx0 hx1), rfl⟩
  · exact ⟨ret_int (Vx.spread_4 x hx0 hx1), rfl⟩
  · exact ⟨ret_int rfl, rfl⟩
  · exact ⟨ret_int (Vx.spread_6 x hx0 hx1), rfl⟩
  · exact ⟨ret_int (Vx.spread_7 x hx0 hx1), rfl⟩

set_option maxHeartbeats 1000000 in
theorem gather_any (k x : Int) (h0 : 0 ≤ k) (h1 : k ≤ 7) (hx0 : 0 ≤ x) (hx1 : x < 4294967296) (w : World) :
    Calls Tryd.prog 54 #[.int .i64 k, .int .u32 x] w fun e w' => e = .returned (.int .i64 (gatherOf k.toNat x)) ∧ w' = w := by
  have hk : k = 0 ∨ k = 1 ∨ k = 2 ∨ k = 3 ∨ k = 4 ∨ k = 5 ∨ k = 6 ∨ k = 7 := by omega
  rcases hk with rfl | rfl | rfl | rfl | rfl | rfl | rfl | rfl
  all_goals
    go_enter Tryd.func54, Tryd.ntmps54
    go_wp2
    go_ret
  · exact ⟨ret_int rfl, rfl⟩
  · exact ⟨ret_int (Vx.gather_1 x hx0 hx1), rfl⟩
  · exact ⟨ret_int (Vx.gather_2 x hx0 hx1), rfl⟩
  · exact ⟨ret_int (Vx.gather_3 x hx0 hx1), rfl⟩
  · exact ⟨ret_int (Vx.gather_4 x hx0 hx1), rfl⟩
  · exact ⟨ret_int rfl, rfl⟩
  · exact ⟨ret_int (Vx.gather_6 x hx0 hx1), rfl⟩
  · exact ⟨ret_int (Vx.gather_7 x hx0 hx1), rfl⟩

theorem loose_num (k : Int) (h0 : 0 ≤ k) (h1 : k ≤ 7) : bits .or .u32 (regMask k.toNat) (spreadOf k.toNat 4294967295) = looseMask k.toNat := by
  have hk : k = 0 ∨ k = 1 ∨ k = 2 ∨ k = 3 ∨ k = 4 ∨ k = 5 ∨ k = 6 ∨ k = 7 := by omega
  rcases hk with rfl | rfl | rfl | rfl | rfl | rfl | rfl | rfl <;> decide

set_option maxHeartbeats 1000000 in
theorem loose_any (k : Int) (h0 : 0 ≤ k) (h1 : k ≤ 7) (w : World) :
    Calls Tryd.prog 50 #[.int .i64 k] w fun e w' => e = .returned (.int .u32 (looseMask k.toNat)) ∧ w' = w := by
  go_enter Tryd.func50, Tryd.ntmps50
  go_wp2_with (first | (go_at_call 48; refine (reg_any _ h0 h1 _).mono ?_; rintro e w' ⟨rfl, rfl⟩) | (go_at_call 49; refine (spread_any _ _ h0 h1 (by omega) (by omega) _).mono ?_; rintro e w' ⟨rfl, rfl⟩))
  go_ret
  exact ⟨ret_int (loose_num k h0 h1), rfl⟩
end Go.Proofs.YtflmobffeeocdaaDoor

/- Walks of isa.read and isa.Decode. -/
namespace Go.Proofs.YtflmobffeeocdaaDoor
open Go.ChangeShapes Go.WideShapes Go.ChangeAt Go.RowKit
open Go.Vx (regMask spreadOf gatherOf looseMask kindOf formOf ins insV zeroIns findFrom dec fits)

/-- The table of forms lies where it was laid. -/
def FormsAt (w : World) : Prop := 0 < w.heap.size ∧ ∀ op : Int, 0 ≤ op → op ≤ 48 →
  w.cell? ⟨0, op.toNat * 2, none⟩ = some (.int .i64 (kindOf op)) ∧ w.cell? ⟨0, op.toNat * 2 + 1, none⟩ = some (.int .u32 (formOf op))
theorem FormsAt.below {B : Nat} {w w' : World} (h : FormsAt w) (hB : 0 < B) (hb : Below B w w') : FormsAt w' := by
  refine ⟨Nat.lt_of_lt_of_le h.1 hb.size, fun op h0 h1 => ?_⟩
  rw [hb.cell (p := ⟨0, op.toNat * 2, none⟩) hB, hb.cell (p := ⟨0, op.toNat * 2 + 1, none⟩) hB]
  exact h.2 op h0 h1

set_option maxHeartbeats 1000000 in
theorem iread_any (op x : Int) (h0 : 0 ≤ op) (h1 : op ≤ 48) (hx0 : 0 ≤ x) (hx1 : x < 4294967296) (w : World) (hF : FormsAt w) :
    Calls Tryd.prog 51 #[.int .i64 op, .int .u32 x] w fun e w' => e = .returned (insV (ins op x)) ∧ Below w.heap.size w w' := by
  have hz := hF.1
  have hc := (hF.2 op h0 h1).1
  have hk : (0 : Int) ≤ (kindOf op : Int) := by omega
  have hkn := Vx.kindOf_le op
  have hk2 : (kindOf op : Int) ≤ 7 := by omega
  have H1 : Hid (wrap64 (bits .and .u32 (bits .and .u32 x (regMask (kindOf op)) / 128) 31) = Vx.rdF (kindOf op) x) := Vx.rd_num (kindOf op) hkn x hx0 hx1
  have H2 : Hid (wrap64 (bits .and .u32 (bits .and .u32 x (regMask (kindOf op)) / 32768) 31) = Vx.rs1F (kindOf op) x) := Vx.rs1_num (kindOf op) hkn x hx0 hx1
  have H3 : Hid (wrap64 (bits .and .u32 (bits .and .u32 x (regMask (kindOf op)) / 1048576) 31) = Vx.rs2F (kindOf op) x) := Vx.rs2_num (kindOf op) hkn x hx0 hx1
  clear hF hkn
  go_enter Tryd.func51, Tryd.ntmps51
  go_wp2_with (first | (go_at_call 48; refine (reg_any _ hk hk2 _).mono ?_; rintro e w' ⟨rfl, rfl⟩) | (go_at_call 54; refine (gather_any _ _ hk hk2 hx0 hx1 _).mono ?_; rintro e w' ⟨rfl, rfl⟩))
  refine bodyPost_ret (v := insV (ins op x)) ?_ rfl ⟨rfl, ?_⟩
  · simp [results, Tryd.results51, go_sem, insV, ins, H1.out, H2.out, H3.out]
  · exact (Below.refl _ _).alloc (Nat.le_refl _) _

set_option maxHeartbeats 1000000 in
theorem decode_any (x : Int) (hx0 : 0 ≤ x) (hx1 : x < 4294967296) (w : World) (hF : FormsAt w) :
    Calls Tryd.prog 39 #[.int .u32 x] w fun e w' => e = .returned (insV (dec x)) ∧ Below w.heap.size w w' := by
  have hz := hF.1
  go_enter Tryd.func39, Tryd.ntmps39
  go_wp2
  go_loopw [3] (fun t wr => ∃ op : Int, 1 ≤ op ∧ op ≤ 49 ∧ t = .int .i64 op ∧ Hid (findFrom (49 - op).toNat op x = dec x) ∧ Below (w.heap.size + 1) (w.alloc (.cells #[.int .i64 0, .int .i64 0, .int .i64 0, .int .i64 0, .int .i64 0] 66)) wr) (fun t _ => (49 - intOf t).toNat)
  case atStart => exact ⟨1, by omega, by omega, rfl, rfl, Below.refl _ _⟩
  case round =>
    obtain ⟨op, h1, h2, rfl, Hd, hb⟩ := hrel
    have hF' : Hid (FormsAt wr) := hF.below hz (((Below.refl _ _).alloc (Nat.le_refl _) _).trans (hb.mono (by omega)))
    have hs : w.heap.size + 1 ≤ wr.heap.size := by have := hb.size; simpa using this
    obtain ⟨hcl, hfr⟩ : (∀ o, wr.cell? ⟨w.heap.size, o, none⟩ = (w.alloc (.cells #[.int .i64 0, .int .i64 0, .int .i64 0, .int .i64 0, .int .i64 0] 66)).cell? ⟨w.heap.size, o, none⟩) ∧ (∀ o, wr.frozen? ⟨w.heap.size, o, none⟩ = (w.alloc (.cells #[.int .i64 0, .int .i64 0, .int .i64 0, .int .i64 0, .int .i64 0] 66)).frozen? ⟨w.heap.size, o, none⟩) :=
      ⟨fun o => hb.cell (p := ⟨w.heap.size, o, none⟩) (Nat.lt_succ_self _), fun o => hb.frozen (p := ⟨w.heap.size, o, none⟩) (Nat.lt_succ_self _)⟩
    by_cases hlt : op ≤ 48
    · have hc1 := (hF'.out.2 op (by omega) hlt).1
      have hc2 := (hF'.out.2 op (by omega) hlt).2
      have hk : (0 : Int) ≤ (kindOf op : Int) := by omega
      have hkn := Vx.kindOf_le op
      have hk2 : (kindOf op : Int) ≤ 7 := by omega
      have HN : Hid ((bits .andNot .u32 x (looseMask (kindOf op)) == (formOf op : Int)) = fits op x) := Vx.fits_num op x hx0 hx1
      go_wp2
      go_quiet ((go_at_call 50; exact Calls.quiet_of_same (loose_any _ hk hk2 _)))
      rw [HN.out]
      clear HN hc1 hc2 hk hk2 hkn
      have hb1 : Below (w.heap.size + 1) (w.alloc (.cells #[.int .i64 0, .int .i64 0, .int .i64 0, .int .i64 0, .int .i64 0] 66)) ((wr.alloc (.cells #[.int .i64 (kindOf op), .int .u32 (formOf op)] 101)).drewN nq) :=
        below_drewN (hb.alloc hs _) nq
      have hF1 : Hid (FormsAt ((wr.alloc (.cells #[.int .i64 (kindOf op), .int .u32 (formOf op)] 101)).drewN nq)) := hF.below hz (((Below.refl _ _).alloc (Nat.le_refl _) _).trans (hb1.mono (by omega)))
      cases hfit : fits op x with
      | false =>
        have Hm : Hid (findFrom (49 - (op + 1)).toNat (op + 1) x = dec x) := by
          have e : (49 - op).toNat = (49 - (op + 1)).toNat + 1 := by omega
          have := Hd.out
          rw [e, Vx.findFrom_miss _ _ _ hfit] at this
          exact this
        clear hfit
        go_wp2
        go_roundw
        case rel => exact ⟨op + 1, by omega, by omega, by go_num, Hm, hb1⟩
        case measure => simp [intOf]; omega
      | true =>
        have Hm : Hid (ins op x = dec x) := by
          have e : (49 - op).toNat = (49 - (op + 1)).toNat + 1 := by omega
          have := Hd.out
          rw [e, Vx.findFrom_hit _ _ _ hfit] at this
          exact this
        clear hfit
        go_wp2_with fail
        refine (iread_any op x (by omega) hlt hx0 hx1 _ hF1.out).mono ?_
        rintro e w2 ⟨rfl, hb2⟩
        rw [Hm.out]
        unfold insV
        have hs2 : wr.heap.size + 1 ≤ w2.heap.size := by have := hb2.size; simpa using this
        have hb3 : Below (w.heap.size + 1) (w.alloc (.cells #[.int .i64 0, .int .i64 0, .int .i64 0, .int .i64 0, .int .i64 0] 66)) w2 := hb1.trans (hb2.mono (by simp; omega))
        obtain ⟨hcl2, hfr2⟩ : (∀ o, w2.cell? ⟨w.heap.size, o, none⟩ = (w.alloc (.cells #[.int .i64 0, .int .i64 0, .int .i64 0, .int .i64 0, .int .i64 0] 66)).cell? ⟨w.heap.size, o, none⟩) ∧ (∀ o, w2.frozen? ⟨w.heap.size, o, none⟩ = (w.alloc (.cells #[.int .i64 0, .int .i64 0, .int .i64 0, .int .i64 0, .int .i64 0] 66)).frozen? ⟨w.heap.size, o, none⟩) :=
          ⟨fun o => hb3.cell (p := ⟨w.heap.size, o, none⟩) (Nat.lt_succ_self _), fun o => hb3.frozen (p := ⟨w.heap.size, o, none⟩) (Nat.lt_succ_self _)⟩
        clear hcl hfr hb2 hb1
        go_wp2
        refine bodyPost_ret (v := insV (dec x)) ?_ rfl ⟨rfl, ?_⟩
        · simp [results, Tryd.results39, go_sem, insV, hcl2]
        · have hbw : Below w.heap.size w w2 := ((Below.refl _ _).alloc (Nat.le_refl _) _).trans (hb3.mono (by omega))
          exact (((((hbw.setCell (Nat.le_refl _) _).setCell (Nat.le_refl _) _).setCell (Nat.le_refl _) _).setCell (Nat.le_refl _) _).setCell (Nat.le_refl _) _)
    · have hop : op = 49 := by omega
      subst hop
      have Hm : Hid (zeroIns = dec x) := Hd.out
      go_wp2
      refine bodyPost_ret (v := insV (dec x)) ?_ rfl ⟨rfl, ?_⟩
      · simp [results, Tryd.results39, go_sem, insV, ← Hm.out, zeroIns, hcl]
      · have hbw : Below w.heap.size w wr := ((Below.refl _ _).alloc (Nat.le_refl _) _).trans (hb.mono (by omega))
        exact (((((hbw.setCell (Nat.le_refl _) _).setCell (Nat.le_refl _) _).setCell (Nat.le_refl _) _).setCell (Nat.le_refl _) _).setCell (Nat.le_refl _) _)
end Go.Proofs.YtflmobffeeocdaaDoor

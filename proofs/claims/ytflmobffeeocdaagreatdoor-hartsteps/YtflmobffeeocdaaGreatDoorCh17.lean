import Derived.Test.YtflmobffeeocdaaGreatDoorCh13
import Derived.Deep.QuietTactic
import Derived.BigQuiet
import Derived.WalkSmall
/- Walks of isa's small functions: registers, spread, gather, loose. -/
namespace Go.Proofs.YtflmobffeeocdaaGreatDoor
open Go.ChangeShapes Go.WideShapes Go.ChangeAt Go.RowKit
open Go.Vx (regMask spreadOf gatherOf looseMask)

set_option maxHeartbeats 1000000 in
theorem reg_any (k : Int) (h0 : 0 ≤ k) (h1 : k ≤ 7) (w : World) :
    Calls Tryz.prog 111 #[.int .i64 k] w fun e w' => e = .returned (.int .u32 (regMask k.toNat)) ∧ w' = w := by
  have hk : k = 0 ∨ k = 1 ∨ k = 2 ∨ k = 3 ∨ k = 4 ∨ k = 5 ∨ k = 6 ∨ k = 7 := by omega
  rcases hk with rfl | rfl | rfl | rfl | rfl | rfl | rfl | rfl
  all_goals
    go_enter Tryz.func111, Tryz.ntmps111
    go_wp2
    go_ret
    exact ⟨ret_int (by decide), rfl⟩

set_option maxHeartbeats 1000000 in
theorem spread_any (k x : Int) (h0 : 0 ≤ k) (h1 : k ≤ 7) (hx0 : 0 ≤ x) (hx1 : x < 4294967296) (w : World) :
    Calls Tryz.prog 112 #[.int .i64 k, .int .u32 x] w fun e w' => e = .returned (.int .u32 (spreadOf k.toNat x)) ∧ w' = w := by
  have hk : k = 0 ∨ k = 1 ∨ k = 2 ∨ k = 3 ∨ k = 4 ∨ k = 5 ∨ k = 6 ∨ k = 7 := by omega
  rcases hk with rfl | rfl | rfl | rfl | rfl | rfl | rfl | rfl
  all_goals
    go_enter Tryz.func112, Tryz.ntmps112
    go_wp2
    go_ret
  · exact ⟨ret_int rfl, rfl⟩
  · exact ⟨ret_int (Vx.spread_1 x hx0 hx1), rfl⟩
  · exact ⟨ret_int (Vx.spread_2 x hx0 hx1), rfl⟩
  · exact ⟨ret_int (Vx.spread_3 x hx0 hx1), rfl⟩
  · exact ⟨ret_int (Vx.spread_4 x hx0 hx1), rfl⟩
  · exact ⟨ret_int rfl, rfl⟩
  · exact ⟨ret_int (Vx.spread_6 x hx0 hx1), rfl⟩
  · exact ⟨ret_int (Vx.spread_7 x hx0 hx1), rfl⟩

set_option maxHeartbeats 1000000 in
theorem gather_any (k x : Int) (h0 : 0 ≤ k) (h1 : k ≤ 7) (hx0 : 0 ≤ x) (hx1 : x < 4294967296) (w : World) :
    Calls Tryz.prog 113 #[.int .i64 k, .int .u32 x] w fun e w' => e = .returned (.int .i64 (gatherOf k.toNat x)) ∧ w' = w := by
  have hk : k = 0 ∨ k = 1 ∨ k = 2 ∨ k = 3 ∨ k = 4 ∨ k = 5 ∨ k = 6 ∨ k = 7 := by omega
  rcases hk with rfl | rfl | rfl | rfl | rfl | rfl | rfl | rfl
  all_goals
    go_enter Tryz.func113, Tryz.ntmps113
    go_wp2
    go_ret
  · exact ⟨ret_int rfl, rfl⟩
  · exact ⟨ret_int (Vx.gather_1 x hx0 hx1), rfl⟩
  · exact ⟨ret_int (Vx.gather_2 x hx0 hx1), rfl⟩
  · exact ⟨ret_int (Vx.gather_3 x hx0 hx1), rfl⟩
  · exact ⟨ret_int (Vx.gather_4 x hx0 hx1), rfl⟩
  · exact ⟨ret_int rfl, rfl⟩
  · exact ⟨ret_int (Vx.gather_6 x hx0 hx1), rfl⟩
  · exact ⟨ret_int (Vx.gather_7 x hx0 hx1), rfl⟩

theorem loose_num (k : Int) (h0 : 0 ≤ k) (h1 : k ≤ 7) : bits .or .u32 (regMask k.toNat) (spreadOf k.toNat 4294967295) = looseMask k.toNat := by
  have hk : k = 0 ∨ k = 1 ∨ k = 2 ∨ k = 3 ∨ k = 4 ∨ k = 5 ∨ k = 6 ∨ k = 7 := by omega
  rcases hk with rfl | rfl | rfl | rfl | rfl | rfl | rfl | rfl <;> decide

set_option maxHeartbeats 1000000 in
theorem loose_any (k : Int) (h0 : 0 ≤ k) (h1 : k ≤ 7) (w : World) :
    Calls Tryz.prog 108 #[.int .i64 k] w fun e w' => e = .returned (.int .u32 (looseMask k.toNat)) ∧ w' = w := by
  go_enter Tryz.func108, Tryz.ntmps108
  go_wp2_with (first | (go_at_call 111; refine (reg_any _ h0 h1 _).mono ?_; rintro e w' ⟨rfl, rfl⟩) | (go_at_call 112; refine (spread_any _ _ h0 h1 (by omega) (by omega) _).mono ?_; rintro e w' ⟨rfl, rfl⟩))
  go_ret
  exact ⟨ret_int (loose_num k h0 h1), rfl⟩
end Go.Proofs.YtflmobffeeocdaaGreatDoor

/- Walks of isa.read and isa.Decode. -/
namespace Go.Proofs.YtflmobffeeocdaaGreatDoor
open Go.ChangeShapes Go.WideShapes Go.ChangeAt Go.RowKit
open Go.Vx (regMask spreadOf gatherOf looseMask kindOf formOf ins insV zeroIns findFrom dec fits)

/-- The table of forms lies where it was laid. -/
def FormsAt (w : World) : Prop := 2 < w.heap.size ∧ ∀ op : Int, 0 ≤ op → op ≤ 48 →
  w.cell? ⟨2, op.toNat * 2, none⟩ = some (.int .i64 (kindOf op)) ∧ w.cell? ⟨2, op.toNat * 2 + 1, none⟩ = some (.int .u32 (formOf op))
theorem FormsAt.below {B : Nat} {w w' : World} (h : FormsAt w) (hB : 2 < B) (hb : Below B w w') : FormsAt w' := by
  refine ⟨Nat.lt_of_lt_of_le h.1 hb.size, fun op h0 h1 => ?_⟩
  rw [hb.cell (p := ⟨2, op.toNat * 2, none⟩) hB, hb.cell (p := ⟨2, op.toNat * 2 + 1, none⟩) hB]
  exact h.2 op h0 h1

set_option maxHeartbeats 1000000 in
theorem iread_any (op x : Int) (h0 : 0 ≤ op) (h1 : op ≤ 48) (hx0 : 0 ≤ x) (hx1 : x < 4294967296) (w : World) (hF : FormsAt w) :
    Calls Tryz.prog 109 #[.int .i64 op, .int .u32 x] w fun e w' => e = .returned (insV (ins op x)) ∧ Below w.heap.size w w' := by
  have hz := hF.1
  have hc := (hF.2 op h0 h1).1
  have hk : (0 : Int) ≤ (kindOf op : Int) := by omega
  have hkn := Vx.kindOf_le op
  have hk2 : (kindOf op : Int) ≤ 7 := by omega
  have H1 : Hid (wrap64 (bits .and .u32 (bits .and .u32 x (regMask (kindOf op)) / 128) 31) = Vx.rdF (kindOf op) x) := Vx.rd_num (kindOf op) hkn x hx0 hx1
  have H2 : Hid (wrap64 (bits .and .u32 (bits .and .u32 x (regMask (kindOf op)) / 32768) 31) = Vx.rs1F (kindOf op) x) := Vx.rs1_num (kindOf op) hkn x hx0 hx1
  have H3 : Hid (wrap64 (bits .and .u32 (bits .and .u32 x (regMask (kindOf op)) / 1048576) 31) = Vx.rs2F (kindOf op) x) := Vx.rs2_num (kindOf op) hkn x hx0 hx1
  clear hF hkn
  go_enter Tryz.func109, Tryz.ntmps109
  go_wp2_with (first | (go_at_call 111; refine (reg_any _ hk hk2 _).mono ?_; rintro e w' ⟨rfl, rfl⟩) | (go_at_call 113; refine (gather_any _ _ hk hk2 hx0 hx1 _).mono ?_; rintro e w' ⟨rfl, rfl⟩))
  refine bodyPost_ret (v := insV (ins op x)) ?_ rfl ⟨rfl, ?_⟩
  · simp [results, Tryz.results109, go_sem, insV, ins, H1.out, H2.out, H3.out]
  · exact (Below.refl _ _).alloc (Nat.le_refl _) _

set_option maxHeartbeats 1000000 in
theorem decode_any (x : Int) (hx0 : 0 ≤ x) (hx1 : x < 4294967296) (w : World) (hF : FormsAt w) :
    Calls Tryz.prog 102 #[.int .u32 x] w fun e w' => e = .returned (insV (dec x)) ∧ Below w.heap.size w w' := by
  have hz := hF.1
  go_enter Tryz.func102, Tryz.ntmps102
  go_wp2
  go_loopw [3] (fun t wr => ∃ op : Int, 1 ≤ op ∧ op ≤ 49 ∧ t = .int .i64 op ∧ Hid (findFrom (49 - op).toNat op x = dec x) ∧ Below (w.heap.size + 1) (w.alloc (.cells #[.int .i64 0, .int .i64 0, .int .i64 0, .int .i64 0, .int .i64 0] 129)) wr) (fun t _ => (49 - intOf t).toNat)
  case atStart => exact ⟨1, by omega, by omega, rfl, rfl, Below.refl _ _⟩
  case round =>
    obtain ⟨op, h1, h2, rfl, Hd, hb⟩ := hrel
    have hF' : Hid (FormsAt wr) := hF.below hz (((Below.refl _ _).alloc (Nat.le_refl _) _).trans (hb.mono (by omega)))
    have hs : w.heap.size + 1 ≤ wr.heap.size := by have := hb.size; simpa using this
    obtain ⟨hcl, hfr⟩ : (∀ o, wr.cell? ⟨w.heap.size, o, none⟩ = (w.alloc (.cells #[.int .i64 0, .int .i64 0, .int .i64 0, .int .i64 0, .int .i64 0] 129)).cell? ⟨w.heap.size, o, none⟩) ∧ (∀ o, wr.frozen? ⟨w.heap.size, o, none⟩ = (w.alloc (.cells #[.int .i64 0, .int .i64 0, .int .i64 0, .int .i64 0, .int .i64 0] 129)).frozen? ⟨w.heap.size, o, none⟩) :=
      ⟨fun o => hb.cell (p := ⟨w.heap.size, o, none⟩) (Nat.lt_succ_self _), fun o => hb.frozen (p := ⟨w.heap.size, o, none⟩) (Nat.lt_succ_self _)⟩
    by_cases hlt : op ≤ 48
    · have hc1 := (hF'.out.2 op (by omega) hlt).1
      have hc2 := (hF'.out.2 op (by omega) hlt).2
      have hk : (0 : Int) ≤ (kindOf op : Int) := by omega
      have hkn := Vx.kindOf_le op
      have hk2 : (kindOf op : Int) ≤ 7 := by omega
      have HN : Hid ((bits .andNot .u32 x (looseMask (kindOf op)) == (formOf op : Int)) = fits op x) := Vx.fits_num op x hx0 hx1
      go_wp2
      go_quiet ((go_at_call 108; exact Calls.quiet_of_same (loose_any _ hk hk2 _)))
      rw [HN.out]
      clear HN hc1 hc2 hk hk2 hkn
      have hb1 : Below (w.heap.size + 1) (w.alloc (.cells #[.int .i64 0, .int .i64 0, .int .i64 0, .int .i64 0, .int .i64 0] 129)) ((wr.alloc (.cells #[.int .i64 (kindOf op), .int .u32 (formOf op)] 167)).drewN nq) :=
        below_drewN (hb.alloc hs _) nq
      have hF1 : Hid (FormsAt ((wr.alloc (.cells #[.int .i64 (kindOf op), .int .u32 (formOf op)] 167)).drewN nq)) := hF.below hz (((Below.refl _ _).alloc (Nat.le_refl _) _).trans (hb1.mono (by omega)))
      cases hfit : fits op x with
      | false =>
        have Hm : Hid (findFrom (49 - (op + 1)).toNat (op + 1) x = dec x) := by
          have e : (49 - op).toNat = (49 - (op + 1)).toNat + 1 := by omega
          have := Hd.out
          rw [e, Vx.findFrom_miss _ _ _ hfit] at this
          exact this
        clear hfit
        go_wp2
        go_roundw
        case rel => exact ⟨op + 1, by omega, by omega, by go_num, Hm, hb1⟩
        case measure => simp [intOf]; omega
      | true =>
        have Hm : Hid (ins op x = dec x) := by
          have e : (49 - op).toNat = (49 - (op + 1)).toNat + 1 := by omega
          have := Hd.out
          rw [e, Vx.findFrom_hit _ _ _ hfit] at this
          exact this
        clear hfit
        go_wp2_with fail
        refine (iread_any op x (by omega) hlt hx0 hx1 _ hF1.out).mono ?_
        rintro e w2 ⟨rfl, hb2⟩
        rw [Hm.out]
        unfold insV
        have hs2 : wr.heap.size + 1 ≤ w2.heap.size := by have := hb2.size; simpa using this
        have hb3 : Below (w.heap.size + 1) (w.alloc (.cells #[.int .i64 0, .int .i64 0, .int .i64 0, .int .i64 0, .int .i64 0] 129)) w2 := hb1.trans (hb2.mono (by simp; omega))
        obtain ⟨hcl2, hfr2⟩ : (∀ o, w2.cell? ⟨w.heap.size, o, none⟩ = (w.alloc (.cells #[.int .i64 0, .int .i64 0, .int .i64 0, .int .i64 0, .int .i64 0] 129)).cell? ⟨w.heap.size, o, none⟩) ∧ (∀ o, w2.frozen? ⟨w.heap.size, o, none⟩ = (w.alloc (.cells #[.int .i64 0, .int .i64 0, .int .i64 0, .int .i64 0, .int .i64 0] 129)).frozen? ⟨w.heap.size, o, none⟩) :=
          ⟨fun o => hb3.cell (p := ⟨w.heap.size, o, none⟩) (Nat.lt_succ_self _), fun o => hb3.frozen (p := ⟨w.heap.size, o, none⟩) (Nat.lt_succ_self _)⟩
        clear hcl hfr hb2 hb1
        go_wp2
        refine bodyPost_ret (v := insV (dec x)) ?_ rfl ⟨rfl, ?_⟩
        · simp [results, Tryz.results102, go_sem, insV, hcl2]
        · have hbw : Below w.heap.size w w2 := ((Below.refl _ _).alloc (Nat.le_refl _) _).trans (hb3.mono (by omega))
          exact (((((hbw.setCell (Nat.le_refl _) _).setCell (Nat.le_refl _) _).setCell (Nat.le_refl _) _).setCell (Nat.le_refl _) _).setCell (Nat.le_refl _) _)
    · have hop : op = 49 := by omega
      subst hop
      have Hm : Hid (zeroIns = dec x) := Hd.out
      go_wp2
      refine bodyPost_ret (v := insV (dec x)) ?_ rfl ⟨rfl, ?_⟩
      · simp [results, Tryz.results102, go_sem, insV, ← Hm.out, zeroIns, hcl]
      · have hbw : Below w.heap.size w wr := ((Below.refl _ _).alloc (Nat.le_refl _) _).trans (hb.mono (by omega))
        exact (((((hbw.setCell (Nat.le_refl _) _).setCell (Nat.le_refl _) _).setCell (Nat.le_refl _) _).setCell (Nat.le_refl _) _).setCell (Nat.le_refl _) _)
end Go.Proofs.YtflmobffeeocdaaGreatDoor

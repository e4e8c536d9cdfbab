/- A walk of the document's 'Decode'. -/
import Derived.Test.YtlmcjmllidiciaaDoorW4
namespace Go.Proofs.YtlmcjmllidiciaaDoor
open Go.ChangeShapes Go.WideShapes Go.ChangeAt Go.RowKit
open Go.Vx (kindOf formOf ins insV zeroIns fits goF St s0 pic stepF insOf dec findFrom)

theorem drawn_yes (op : Int) (x : Nat) (h0 : 1 ≤ op) (h1 : op ≤ 48) (hx : x < 4294967296) (hf : fits op x = true) (w : World) :
    Calls Tryd.prog 15 #[.int .i64 op, .int .i64 (x : Int)] w fun e w' => e = .returned (.tuple #[insV (ins op x), .bool true]) ∧ Below w.heap.size w w' := by
  refine (drawn_any op x h0 h1 hx w).mono ?_
  rintro e w' ⟨rfl, hb⟩
  refine ⟨?_, hb⟩
  rw [Vx.drawn_num op x h0 h1 hx, if_pos hf, ← Vx.insOf_kind op x h0 h1 hx]
  rfl
theorem drawn_no (op : Int) (x : Nat) (h0 : 1 ≤ op) (h1 : op ≤ 48) (hx : x < 4294967296) (hf : fits op x = false) (w : World) :
    Calls Tryd.prog 15 #[.int .i64 op, .int .i64 (x : Int)] w fun e w' => e = .returned (.tuple #[insV zeroIns, .bool false]) ∧ Below w.heap.size w w' := by
  refine (drawn_any op x h0 h1 hx w).mono ?_
  rintro e w' ⟨rfl, hb⟩
  refine ⟨?_, hb⟩
  rw [Vx.drawn_num op x h0 h1 hx, if_neg (by rw [hf]; decide)]
  rfl

set_option maxHeartbeats 1000000 in
theorem refDecode_any (x : Nat) (hx : x < 4294967296) (w : World) :
    Calls Tryd.prog 8 #[.int .i64 (x : Int)] w fun e w' => e = .returned (insV (dec x)) ∧ Below w.heap.size w w' := by
  go_enter Tryd.func8, Tryd.ntmps8
  go_wp2
  go_loopw [3] (fun t wr => ∃ op : Int, 1 ≤ op ∧ op ≤ 49 ∧ t = .int .i64 op ∧ Hid (findFrom (49 - op).toNat op x = dec x) ∧ Below (w.heap.size + 1) (w.alloc (.cells #[.int .i64 0, .int .i64 0, .int .i64 0, .int .i64 0, .int .i64 0] 24)) wr) (fun t _ => (49 - intOf t).toNat)
  case atStart => exact ⟨1, by omega, by omega, rfl, rfl, Below.refl _ _⟩
  case round =>
    obtain ⟨op, h1, h2, rfl, Hd, hb⟩ := hrel
    have hs : w.heap.size + 1 ≤ wr.heap.size := by have := hb.size; simpa using this
    have HB : Hid (Below (w.heap.size + 1) (w.alloc (.cells #[.int .i64 0, .int .i64 0, .int .i64 0, .int .i64 0, .int .i64 0] 24)) wr) := hb
    obtain ⟨hcl, hfr⟩ : (∀ o, wr.cell? ⟨w.heap.size, o, none⟩ = (w.alloc (.cells #[.int .i64 0, .int .i64 0, .int .i64 0, .int .i64 0, .int .i64 0] 24)).cell? ⟨w.heap.size, o, none⟩) ∧ (∀ o, wr.frozen? ⟨w.heap.size, o, none⟩ = (w.alloc (.cells #[.int .i64 0, .int .i64 0, .int .i64 0, .int .i64 0, .int .i64 0] 24)).frozen? ⟨w.heap.size, o, none⟩) :=
      ⟨fun o => hb.cell (p := ⟨w.heap.size, o, none⟩) (Nat.lt_succ_self _), fun o => hb.frozen (p := ⟨w.heap.size, o, none⟩) (Nat.lt_succ_self _)⟩
    clear hb
    by_cases hlt : op ≤ 48
    · cases hfit : fits op x with
      | false =>
        have Hm : Hid (findFrom (49 - (op + 1)).toNat (op + 1) x = dec x) := by
          have e : (49 - op).toNat = (49 - (op + 1)).toNat + 1 := by omega
          have := Hd.out
          rw [e, Vx.findFrom_miss _ _ _ hfit] at this
          exact this
        have Hfit : Hid (fits op x = false) := hfit
        clear hfit Hd hcl hfr
        go_wp2_with fail
        refine (drawn_no op x (by omega) hlt hx Hfit.out _).mono ?_
        rintro e w2 ⟨rfl, hb2⟩
        unfold insV
        have hs2 : wr.heap.size ≤ w2.heap.size := hb2.size
        have HB2 : Hid (Below wr.heap.size wr w2) := hb2
        clear hb2
        go_wp2
        go_roundw
        case rel => exact ⟨op + 1, by omega, by omega, by go_num, Hm, (HB.out.trans (HB2.out.mono hs)).alloc (by omega) _⟩
        case measure => simp [intOf]; omega
      | true =>
        have Hm : Hid (ins op x = dec x) := by
          have e : (49 - op).toNat = (49 - (op + 1)).toNat + 1 := by omega
          have := Hd.out
          rw [e, Vx.findFrom_hit _ _ _ hfit] at this
          exact this
        have Hfit : Hid (fits op x = true) := hfit
        clear hfit
        go_wp2_with fail
        refine (drawn_yes op x (by omega) hlt hx Hfit.out _).mono ?_
        rintro e w2 ⟨rfl, hb2⟩
        rw [Hm.out]
        unfold insV
        have hs2 : wr.heap.size ≤ w2.heap.size := hb2.size
        have hs3 : w.heap.size < w2.heap.size := by omega
        have hb3 : Below (w.heap.size + 1) (w.alloc (.cells #[.int .i64 0, .int .i64 0, .int .i64 0, .int .i64 0, .int .i64 0] 24)) w2 := HB.out.trans (hb2.mono hs)
        obtain ⟨hcl2, hfr2⟩ : (∀ o, w2.cell? ⟨w.heap.size, o, none⟩ = (w.alloc (.cells #[.int .i64 0, .int .i64 0, .int .i64 0, .int .i64 0, .int .i64 0] 24)).cell? ⟨w.heap.size, o, none⟩) ∧ (∀ o, w2.frozen? ⟨w.heap.size, o, none⟩ = (w.alloc (.cells #[.int .i64 0, .int .i64 0, .int .i64 0, .int .i64 0, .int .i64 0] 24)).frozen? ⟨w.heap.size, o, none⟩) :=
          ⟨fun o => hb3.cell (p := ⟨w.heap.size, o, none⟩) (Nat.lt_succ_self _), fun o => hb3.frozen (p := ⟨w.heap.size, o, none⟩) (Nat.lt_succ_self _)⟩
        have HBW : Hid (Below w.heap.size w w2) := ((Below.refl _ _).alloc (Nat.le_refl _) _).trans (hb3.mono (by omega))
        clear hcl hfr hb2 hb3
        go_wp2
        refine bodyPost_ret (v := insV (dec x)) ?_ rfl ⟨rfl, ?_⟩
        · simp [results, Tryd.results8, go_sem, insV, hcl2, hs3]
        · exact (((((HBW.out.setCell (Nat.le_refl _) _).setCell (Nat.le_refl _) _).setCell (Nat.le_refl _) _).setCell (Nat.le_refl _) _).setCell (Nat.le_refl _) _).alloc (by simp; omega) _
    · have hop : op = 49 := by omega
      subst hop
      have Hm : Hid (zeroIns = dec x) := Hd.out
      go_wp2
      refine bodyPost_ret (v := insV (dec x)) ?_ rfl ⟨rfl, ?_⟩
      · simp [results, Tryd.results8, go_sem, insV, ← Hm.out, zeroIns, hcl]
      · have hbw : Below w.heap.size w wr := ((Below.refl _ _).alloc (Nat.le_refl _) _).trans (HB.out.mono (by omega))
        exact (((((hbw.setCell (Nat.le_refl _) _).setCell (Nat.le_refl _) _).setCell (Nat.le_refl _) _).setCell (Nat.le_refl _) _).setCell (Nat.le_refl _) _)
end Go.Proofs.YtlmcjmllidiciaaDoor

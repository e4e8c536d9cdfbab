/- Walks of the document's memory: Write, Word, four, SetWord. -/
import Derived.Test.YtflmobffeeocdaaGreatDoorS4
namespace Go.Proofs.YtflmobffeeocdaaGreatDoor
open Go.ChangeShapes Go.WideShapes Go.ChangeAt Go.RowKit
open Go.Vx

def RwR (w : World) (br bb n : Nat) (f : Nat → UInt8) (a : Nat) (s : List UInt8) (k : Nat) (wr : World) : Prop := RefAt wr br bb n (putF f a (s.take k)) ∧ Only (fun k => k = bb) w wr
theorem rw_step {w wr : World} {br bb n : Nat} {f : Nat → UInt8} {a : Nat} {s : List UInt8} {k : Nat} (h : RwR w br bb n f a s k wr) (hk : k < s.length) (hin : a + s.length ≤ 4096 * n) :
    wr.cell? ⟨br, 0, none⟩ = some (.slice (some ⟨bb, 0, none⟩) (4096 * n) (4096 * n)) ∧ (∃ v, wr.cell? ⟨bb, a + k, none⟩ = some v) ∧ wr.frozen? ⟨bb, a + k, none⟩ = false ∧ RwR w br bb n f a s (k + 1) (wr.setCell ⟨bb, a + k, none⟩ (.int .u8 (s[k].toNat : Int))) := by
  obtain ⟨hr, ho⟩ := h
  obtain ⟨h1, h2⟩ := hr.set1 (a + k) s[k] (by omega)
  refine ⟨hr.cr, ⟨_, hr.cb (by omega)⟩, hr.fz _, ?_, ho.trans h2⟩
  rw [putF_one f a k s hk] at h1
  exact h1
theorem RwR.drew {w : World} {br bb n : Nat} {f : Nat → UInt8} {a : Nat} {s : List UInt8} {k : Nat} {wr : World} (h : RwR w br bb n f a s k wr) : RwR w br bb n f a s k wr.drew := ⟨h.1.only ((Only.refl (fun _ => False) wr).drew) (fun h => h) (fun h => h), h.2.drew⟩
theorem index_str (p : ByteArray) (l : List UInt8) (k : Nat) (hp : p = ⟨l.toArray⟩) (hk : k < l.length) (wv : World) :
    (Instr.index 9 (.string p) (.int .i64 (k : Int))).run Tryz.prog wv = .ok (.int .u8 ((l[k].toNat : Nat) : Int)) wv := by
  subst hp
  have hs : (ByteArray.mk l.toArray).size = l.length := by simp [ByteArray.size]
  rw [run_index_string wv 9 _ .i64 (k : Int) Tryz.underlying9, dif_pos (by omega)]
  simp only [Int.toNat_natCast]
  rfl
set_option maxRecDepth 100000 in
theorem refWrite_ok {w : World} {br bb n : Nat} {f : Nat → UInt8} (h : RefAt w br bb n f) (a : Nat) (s : List UInt8) (hin : a + s.length ≤ 4096 * n) :
    Calls Tryz.prog 29 #[.pointer (some ⟨br, 0, none⟩), .int .i64 (a : Int), .string ⟨s.toArray⟩] w fun e w' => e = .returned (.int .i64 0) ∧ RefAt w' br bb n (putF f a s) ∧ Only (fun k => k = bb) w w' := by
  obtain ⟨p, hp⟩ : ∃ p : ByteArray, p = ⟨s.toArray⟩ := ⟨_, rfl⟩
  rw [← hp]
  have hps : p.size = s.length := by rw [hp]; simp [ByteArray.size]
  have hn := h.top
  have HI := Vx.hid (inside_any h (a : Int) (s.length : Nat) (by omega))
  have e1 : insB n (a : Int) (s.length : Nat) = true := by simp [insB]; omega
  rw [e1] at HI
  have HP := Vx.hid hp
  have HIN : Hid (a + s.length ≤ 4096 * n ∧ n ≤ 256) := ⟨hin, hn⟩
  have H0 : Hid (RwR w br bb n f a s 0 w) := ⟨by rw [List.take_zero, putF_nil]; exact h, Only.refl _ _⟩
  clear h hp hin hn e1
  go_enter Tryz.func29, Tryz.ntmps29
  go_wp2_with fail
  refine HI.out.mono ?_
  rintro e w' ⟨rfl, h⟩
  have h3 := h.symm; clear h; subst h3
  go_wp2_with fail
  go_loopw [8] (fun d wr => ∃ k : Nat, d = .int .i64 (k : Int) ∧ k ≤ s.length ∧ Hid (RwR w br bb n f a s k wr)) (fun d _ => s.length - (intOf d).toNat)
  case atStart => exact ⟨0, rfl, by omega, H0⟩
  case round =>
    obtain ⟨k, rfl, hk, HW⟩ := hrel
    by_cases hlt : k < s.length
    · have h1 : (k : Int) < (s.length : Int) := by omega
      obtain ⟨hc1, ⟨v, hc2⟩, hf, hs⟩ := rw_step HW.out.drew hlt HIN.out.1
      have hix := fun wv => index_str p s k HP.out hlt wv
      have HS := Vx.hid hs
      have hw1 : IntKind.i64.wrap ((a + k : Nat) : Int) = ((a + k : Nat) : Int) := by have := HIN.out; rw [IntKind.wrap_i64]; omega
      obtain ⟨N, hN⟩ : ∃ N, N = 4096 * n := ⟨_, rfl⟩
      rw [← hN] at hc1
      have hi1 : 0 ≤ ((a + k : Nat) : Int) ∧ ((a + k : Nat) : Int) < (N : Int) := by have := HIN.out; omega
      generalize s[k] = sk at hix HS
      generalize hx : a + k = x at hw1 hi1 hc2 hf HS
      have hx2 : (a : Int) + (k : Int) = (x : Int) := by omega
      have hw9 : IntKind.i64.wrap ((k : Int) + 1) = (k : Int) + 1 := by have := HIN.out; rw [IntKind.wrap_i64]; omega
      clear hx hlt hs hN
      go_wp2_with fail
      go_region
      all_goals
        go_wp2_with fail
        go_roundw
        case rel => exact ⟨k + 1, by go_num, by omega, HS⟩
        case measure => simp only [intOf]; omega
    · obtain rfl : k = s.length := by omega
      have h1 : ¬ (s.length : Int) < (s.length : Int) := by omega
      clear hlt
      go_wp2_with fail
      all_goals
        go_ret
        obtain ⟨hr, ho⟩ := HW.out
        rw [List.take_length] at hr
        exact ⟨rfl, hr, ho⟩
theorem refWrite_any {w : World} {br bb n : Nat} {f : Nat → UInt8} (h : RefAt w br bb n f) (a : Int) (s : List UInt8) (hs : s.length ≤ 9223372036854775807) :
    Calls Tryz.prog 29 #[.pointer (some ⟨br, 0, none⟩), .int .i64 a, .string ⟨s.toArray⟩] w fun e w' => e = .returned (.int .i64 ((writeF f n a s).2 : Nat)) ∧ RefAt w' br bb n (writeF f n a s).1 ∧ Only (fun k => k = bb) w w' := by
  unfold writeF
  by_cases hi : insB n a (s.length : Nat) = true
  · obtain ⟨x, y, rfl, hy, hin⟩ := insB_nat hi
    rw [if_pos hi]
    exact refWrite_ok h x s (by omega)
  · rw [if_neg hi]
    obtain ⟨p, hp⟩ : ∃ p : ByteArray, p = ⟨s.toArray⟩ := ⟨_, rfl⟩
    rw [← hp]
    have hps : p.size = s.length := by rw [hp]; simp [ByteArray.size]
    have HI := Vx.hid (inside_any h a (s.length : Nat) (by omega))
    have hi' : insB n a (s.length : Nat) = false := by simpa using hi
    rw [hi'] at HI
    have HR := Vx.hid h
    clear h hi hi' hs hp
    go_enter Tryz.func29, Tryz.ntmps29
    go_wp2_with fail
    refine HI.out.mono ?_
    rintro e w' ⟨rfl, h⟩
    have h3 := h.symm; clear h; subst h3
    go_wp2_with fail
    all_goals
      go_ret
      exact ⟨rfl, HR.out, Only.refl _ _⟩
set_option maxRecDepth 100000 in
set_option maxHeartbeats 4000000 in
theorem refWord_any {w : World} {br bb n : Nat} {f : Nat → UInt8} (h : RefAt w br bb n f) (a : Int) :
    Calls Tryz.prog 30 #[.pointer (some ⟨br, 0, none⟩), .int .i64 a] w fun e w' => e = .returned (.tuple #[.int .i64 ((wordR f n a).1 : Nat), .int .i64 ((wordR f n a).2 : Nat)]) ∧ Only (fun _ => False) w w' := by
  have HI := Vx.hid (inside_any h a 4 (by decide))
  have hcr := h.cr
  have hn := h.top
  obtain ⟨N, hN⟩ : ∃ N, N = 4096 * n := ⟨_, rfl⟩
  rw [← hN] at hcr
  unfold wordR
  by_cases hi : insB n a 4 = true
  · rw [hi] at HI
    by_cases h4 : a.tmod 4 = 0
    · rw [if_pos ⟨hi, h4⟩]
      obtain ⟨x, y, rfl, hy, hin⟩ := insB_nat hi
      simp only [Int.toNat_natCast]
      have hxN : x + 4 ≤ N := by omega
      have c0 := h.cb (j := x) (by omega)
      have c1 := h.cb (j := x + 1) (by omega)
      have c2 := h.cb (j := x + 2) (by omega)
      have c3 := h.cb (j := x + 3) (by omega)
      have HWF : Hid (wordF f x = (f x).toNat + 256 * (f (x + 1)).toNat + 65536 * (f (x + 2)).toNat + 16777216 * (f (x + 3)).toNat) := rfl
      have l0 : ((f x).toNat : Int) < 256 := by have := (f x).toNat_lt; omega
      have l1 : ((f (x + 1)).toNat : Int) < 256 := by have := (f (x + 1)).toNat_lt; omega
      have l2 : ((f (x + 2)).toNat : Int) < 256 := by have := (f (x + 2)).toNat_lt; omega
      have l3 : ((f (x + 3)).toNat : Int) < 256 := by have := (f (x + 3)).toNat_lt; omega
      unfold byteV at c0 c1 c2 c3
      generalize wordF f x = WF at HWF
      generalize (f x).toNat = b0 at *
      generalize (f (x + 1)).toNat = b1 at *
      generalize (f (x + 2)).toNat = b2 at *
      generalize (f (x + 3)).toNat = b3 at *
      have i0 : 0 ≤ (x : Int) ∧ (x : Int) < (N : Int) := by omega
      have i1 : 0 ≤ (x : Int) + 1 ∧ (x : Int) + 1 < (N : Int) := by omega
      have i2 : 0 ≤ (x : Int) + 2 ∧ (x : Int) + 2 < (N : Int) := by omega
      have i3 : 0 ≤ (x : Int) + 3 ∧ (x : Int) + 3 < (N : Int) := by omega
      have j1 : (x : Int) + 1 < (N : Int) := by omega
      have j2 : (x : Int) + 2 < (N : Int) := by omega
      have j3 : (x : Int) + 3 < (N : Int) := by omega
      have j0 : (x : Int) < (N : Int) := by omega
      have t1 : ((x : Int) + 1).toNat = x + 1 := by omega
      have t2 : ((x : Int) + 2).toNat = x + 2 := by omega
      have t3 : ((x : Int) + 3).toNat = x + 3 := by omega
      have hNb : (N : Int) ≤ 1048576 := by omega
      clear h hi hin hy hn hN hxN
      go_enter Tryz.func30, Tryz.ntmps30
      go_wp2_with fail
      refine HI.out.mono ?_
      rintro e w' ⟨rfl, h⟩
      have h3 := h.symm; clear h; subst h3
      go_wp2_with fail
      go_quiet (fail)
      go_wp2_with fail
      go_ret2
      rw [HWF.out]
      refine ⟨?_, (Only.refl _ w).drewN nq⟩
      have e : ((b0 + 256 * b1 + 65536 * b2 + 16777216 * b3 : Nat) : Int) = (b0 : Int) + 256 * (b1 : Int) + 65536 * (b2 : Int) + 16777216 * (b3 : Int) := by omega
      rw [e]
      rfl
    · rw [if_neg (fun hh => h4 hh.2)]
      have h4' : ¬ a.tmod 4 = 0 := h4
      clear h hi hn hN
      go_enter Tryz.func30, Tryz.ntmps30
      go_wp2_with fail
      refine HI.out.mono ?_
      rintro e w' ⟨rfl, h⟩
      have h3 := h.symm; clear h; subst h3
      go_wp2_with fail
      all_goals
        go_ret2
        exact ⟨rfl, Only.refl _ _⟩
  · rw [if_neg (fun hh => hi hh.1)]
    have hi' : insB n a 4 = false := by simpa using hi
    rw [hi'] at HI
    clear h hi hi' hn hN
    go_enter Tryz.func30, Tryz.ntmps30
    go_wp2_with fail
    refine HI.out.mono ?_
    rintro e w' ⟨rfl, h⟩
    have h3 := h.symm; clear h; subst h3
    go_wp2_with fail
    all_goals
      go_ret2
      exact ⟨rfl, Only.refl _ _⟩
end Go.Proofs.YtflmobffeeocdaaGreatDoor

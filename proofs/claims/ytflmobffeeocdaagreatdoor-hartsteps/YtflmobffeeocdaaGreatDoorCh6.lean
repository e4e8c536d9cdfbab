import Derived.Test.YtflmobffeeocdaaGreatDoorCh5
/- Walks of the document's memory: Write, Word, four, SetWord. -/
namespace Go.Proofs.YtflmobffeeocdaaGreatDoor
open Go.ChangeShapes Go.WideShapes Go.ChangeAt Go.RowKit
open Go.Vx

def RwR (w : World) (br bb n : Nat) (f : Nat → UInt8) (a : Nat) (s : List UInt8) (k : Nat) (wr : World) : Prop := RefAt wr br bb n (putF f a (s.take k)) ∧ Only (fun k => k = bb) w wr
theorem rw_step {w wr : World} {br bb n : Nat} {f : Nat → UInt8} {a : Nat} {s : List UInt8} {k : Nat} (h : RwR w br bb n f a s k wr) (hk : k < s.length) (hin : a + s.length ≤ 4096 * n) :
    wr.cell? ⟨br, 0, none⟩ = some (.slice (some ⟨bb, 0, none⟩) (4096 * n) (4096 * n)) ∧ (∃ v, wr.cell? ⟨bb, a + k, none⟩ = some v) ∧ wr.frozen? ⟨bb, a + k, none⟩ = false ∧ RwR w br bb n f a s (k + 1) (wr.setCell ⟨bb, a + k, none⟩ (.int .u8 (s[k].toNat : Int))) := by
  obtain ⟨hr, ho⟩ := h
  obtain ⟨h1, h2⟩ := hr.set1 (a + k) s[k] (by omega)
  refine ⟨hr.cr, ⟨_, hr.cb (by omega)⟩, hr.fz _, ?_, ho.trans h2⟩
  rw [putF_one f a k s hk] at h1
  exact h1
theorem RwR.drew {w : World} {br bb n : Nat} {f : Nat → UInt8} {a : Nat} {s : List UInt8} {k : Nat} {wr : World} (h : RwR w br bb n f a s k wr) : RwR w br bb n f a s k wr.drew := ⟨h.1.only ((Only.refl (fun _ => False) wr).drew) (fun h => h) (fun h => h), h.2.drew⟩
theorem index_str (p : ByteArray) (l : List UInt8) (k : Nat) (hp : p = ⟨l.toArray⟩) (hk : k < l.length) (wv : World) :
    (Instr.index 9 (.string p) (.int .i64 (k : Int))).run Tryz.prog wv = .ok (.int .u8 ((l[k].toNat : Nat) : Int)) wv := by
  subst hp
  have hs : (ByteArray.mk l.toArray).size = l.length := by simp [ByteArray.size]
  rw [run_index_string wv 9 _ .i64 (k : Int) Tryz.underlying9, dif_pos (by omega)]
  simp only [Int.toNat_natCast]
  rfl
set_option maxRecDepth 100000 in
theorem refWrite_ok {w : World} {br bb n : Nat} {f : Nat → UInt8} (h : RefAt w br bb n f) (a : Nat) (s : List UInt8) (hin : a + s.length ≤ 4096 * n) :
    Calls Tryz.prog 29 #[.pointer (some ⟨br, 0, none⟩), .int .i64 (a : Int), .string ⟨s.toArray⟩] w fun e w' => e = .returned (.int .i64 0) ∧ RefAt w' br bb n (putF f a s) ∧ Only (fun k => k = bb) w w' := by
  obtain ⟨p, hp⟩ : ∃ p : ByteArray, p = ⟨s.toArray⟩ := ⟨_, rfl⟩
  rw [← hp]
  have hps : p.size = s.length := by rw [hp]; simp [ByteArray.size]
  have hn := h.top
  have HI := Vx.hid (inside_any h (a : Int) (s.length : Nat) (by omega))
  have e1 : insB n (a : Int) (s.length : Nat) = true := by simp [insB]; omega
  rw [e1] at HI
  have HP := Vx.hid hp
  have HIN : Hid (a + s.length ≤ 4096 * n ∧ n ≤ 256) := ⟨hin, hn⟩
  have H0 : Hid (RwR w br bb n f a s 0 w) := ⟨by rw [List.take_zero, putF_nil]; exact h, Only.refl _ _⟩
  clear h hp hin hn e1
  go_enter Tryz.func29, Tryz.ntmps29
  go_wp2_with fail
  refine HI.out.mono ?_
  rintro e w' ⟨rfl, h⟩
  have h3 := h.symm; clear h; subst h3
  go_wp2_with fail
  go_loopw [8] (fun d wr => ∃ k : Nat, d = .int .i64 (k : Int) ∧ k ≤ s.length ∧ Hid (RwR w br bb n f a s k wr)) (fun d _ => s.length - (intOf d).toNat)
  case atStart => exact ⟨0, rfl, by omega, H0⟩
  case round =>
    obtain ⟨k, rfl, hk, HW⟩ := hrel
    by_cases hlt : k < s.length
    · have h1 : (k : Int) < (s.length : Int) := by omega
      obtain ⟨hc1, ⟨v, hc2⟩, hf, hs⟩ := rw_step HW.out.drew hlt HIN.out.1
      have hix := fun wv => index_str p s k HP.out hlt wv
      have HS := Vx.hid hs
      have hw1 : IntKind.i64.wrap ((a + k : Nat) : Int) = ((a + k : Nat) : Int) := by have := HIN.out; rw [IntKind.wrap_i64]; omega
      obtain ⟨N, hN⟩ : ∃ N, N = 4096 * n := ⟨_, rfl⟩
      rw [← hN] at hc1
      have hi1 : 0 ≤ ((a + k : Nat) : Int) ∧ ((a + k : Nat) : Int) < (N : Int) := by have := HIN.out; omega
      generalize s[k] = sk at hix HS
      generalize hx : a + k = x at hw1 hi1 hc2 hf HS
      have hx2 : (a : Int) + (k : Int) = (x : Int) := by omega
      have hw9 : IntKind.i64.wrap ((k : Int) + 1) = (k : Int) + 1 := by have := HIN.out; rw [IntKind.wrap_i64]; omega
      clear hx hlt hs hN
      go_wp2_with fail
      go_region
      all_goals
        go_wp2_with fail
        go_roundw
        case rel => exact ⟨k + 1, by go_num, by omega, HS⟩
        case measure => simp only [intOf]; omega
    · obtain rfl : k = s.length := by omega
      have h1 : ¬ (s.length : Int) < (s.length : Int) := by omega
      clear hlt
      go_wp2_with fail
      all_goals
        go_ret
        obtain ⟨hr, ho⟩ := HW.out
        rw [List.take_length] at hr
        exact ⟨rfl, hr, ho⟩
theorem refWrite_any {w : World} {br bb n : Nat} {f : Nat → UInt8} (h : RefAt w br bb n f) (a : Int) (s : List UInt8) (hs : s.length ≤ 9223372036854775807) :
    Calls Tryz.prog 29 #[.pointer (some ⟨br, 0, none⟩), .int .i64 a, .string ⟨s.toArray⟩] w fun e w' => e = .returned (.int .i64 ((writeF f n a s).2 : Nat)) ∧ RefAt w' br bb n (writeF f n a s).1 ∧ Only (fun k => k = bb) w w' := by
  unfold writeF
  by_cases hi : insB n a (s.length : Nat) = true
  · obtain ⟨x, y, rfl, hy, hin⟩ := insB_nat hi
    rw [if_pos hi]
    exact refWrite_ok h x s (by omega)
  · rw [if_neg hi]
    obtain ⟨p, hp⟩ : ∃ p : ByteArray, p = ⟨s.toArray⟩ := ⟨_, rfl⟩
    rw [← hp]
    have hps : p.size = s.length := by rw [hp]; simp [ByteArray.size]
    have HI := Vx.hid (inside_any h a (s.length : Nat) (by omega))
    have hi' : insB n a (s.length : Nat) = false := by simpa using hi
    rw [hi'] at HI
    have HR := Vx.hid h
    clear h hi hi' hs hp
    go_enter Tryz.func29, Tryz.ntmps29
    go_wp2_with fail
    refine HI.out.mono ?_
    rintro e w' ⟨rfl, h⟩
    have h3 := h.symm; clear h; subst h3
    go_wp2_with fail
    all_goals
      go_ret
      exact ⟨rfl, HR.out, Only.refl _ _⟩
set_option maxRecDepth 100000 in
set_option maxHeartbeats 4000000 in
theorem refWord_any {w : World} {br bb n : Nat} {f : Nat → UInt8} (h : RefAt w br bb n f) (a : Int) :
    Calls Tryz.prog 30 #[.pointer (some ⟨br, 0, none⟩), .int .i64 a] w fun e w' => e = .returned (.tuple #[.int .i64 ((wordR f n a).1 : Nat), .int .i64 ((wordR f n a).2 : Nat)]) ∧ Only (fun _ => False) w w' := by
  have HI := Vx.hid (inside_any h a 4 (by decide))
  have hcr := h.cr
  have hn := h.top
  obtain ⟨N, hN⟩ : ∃ N, N = 4096 * n := ⟨_, rfl⟩
  rw [← hN] at hcr
  unfold wordR
  by_cases hi : insB n a 4 = true
  · rw [hi] at HI
    by_cases h4 : a.tmod 4 = 0
    · rw [if_pos ⟨hi, h4⟩]
      obtain ⟨x, y, rfl, hy, hin⟩ := insB_nat hi
      simp only [Int.toNat_natCast]
      have hxN : x + 4 ≤ N := by omega
      have c0 := h.cb (j := x) (by omega)
      have c1 := h.cb (j := x + 1) (by omega)
      have c2 := h.cb (j := x + 2) (by omega)
      have c3 := h.cb (j := x + 3) (by omega)
      have HWF : Hid (wordF f x = (f x).toNat + 256 * (f (x + 1)).toNat + 65536 * (f (x + 2)).toNat + 16777216 * (f (x + 3)).toNat) := rfl
      have l0 : ((f x).toNat : Int) < 256 := by have := (f x).toNat_lt; omega
      have l1 : ((f (x + 1)).toNat : Int) < 256 := by have := (f (x + 1)).toNat_lt; omega
      have l2 : ((f (x + 2)).toNat : Int) < 256 := by have := (f (x + 2)).toNat_lt; omega
      have l3 : ((f (x + 3)).toNat : Int) < 256 := by have := (f (x + 3)).toNat_lt; omega
      unfold byteV at c0 c1 c2 c3
      generalize wordF f x = WF at HWF
      generalize (f x).toNat = b0 at *
      generalize (f (x + 1)).toNat = b1 at *
      generalize (f (x + 2)).toNat = b2 at *
      generalize (f (x + 3)).toNat = b3 at *
      have i0 : 0 ≤ (x : Int) ∧ (x : Int) < (N : Int) := by omega
      have i1 : 0 ≤ (x : Int) + 1 ∧ (x : Int) + 1 < (N : Int) := by omega
      have i2 : 0 ≤ (x : Int) + 2 ∧ (x : Int) + 2 < (N : Int) := by omega
      have i3 : 0 ≤ (x : Int) + 3 ∧ (x : Int) + 3 < (N : Int) := by omega
      have j1 : (x : Int) + 1 < (N : Int) := by omega
      have j2 : (x : Int) + 2 < (N : Int) := by omega
      have j3 : (x : Int) + 3 < (N : Int) := by omega
      have j0 : (x : Int) < (N : Int) := by omega
      have t1 : ((x : Int) + 1).toNat = x + 1 := by omega
      have t2 : ((x : Int) + 2).toNat = x + 2 := by omega
      have t3 : ((x : Int) + 3).toNat = x + 3 := by omega
      have hNb : (N : Int) ≤ 1048576 := by omega
      clear h hi hin hy hn hN hxN
      go_enter Tryz.func30, Tryz.ntmps30
      go_wp2_with fail
      refine HI.out.mono ?_
      rintro e w' ⟨rfl, h⟩
      have h3 := h.symm; clear h; subst h3
      go_wp2_with fail
      go_quiet (fail)
      go_wp2_with fail
      go_ret2
      rw [HWF.out]
      refine ⟨?_, (Only.refl _ w).drewN nq⟩
      have e : ((b0 + 256 * b1 + 65536 * b2 + 16777216 * b3 : Nat) : Int) = (b0 : Int) + 256 * (b1 : Int) + 65536 * (b2 : Int) + 16777216 * (b3 : Int) := by omega
      rw [e]
      rfl
    · rw [if_neg (fun hh => h4 hh.2)]
      have h4' : ¬ a.tmod 4 = 0 := h4
      clear h hi hn hN
      go_enter Tryz.func30, Tryz.ntmps30
      go_wp2_with fail
      refine HI.out.mono ?_
      rintro e w' ⟨rfl, h⟩
      have h3 := h.symm; clear h; subst h3
      go_wp2_with fail
      all_goals
        go_ret2
        exact ⟨rfl, Only.refl _ _⟩
  · rw [if_neg (fun hh => hi hh.1)]
    have hi' : insB n a 4 = false := by simpa using hi
    rw [hi'] at HI
    clear h hi hi' hn hN
    go_enter Tryz.func30, Tryz.ntmps30
    go_wp2_with fail
    refine HI.out.mono ?_
    rintro e w' ⟨rfl, h⟩
    have h3 := h.symm; clear h; subst h3
    go_wp2_with fail
    all_goals
      go_ret2
      exact ⟨rfl, Only.refl _ _⟩
end Go.Proofs.YtflmobffeeocdaaGreatDoor

/- Walks of the document's memory: four, SetWord, Zero, Same. -/
namespace Go.Proofs.YtflmobffeeocdaaGreatDoor
open Go.ChangeShapes Go.WideShapes Go.ChangeAt Go.RowKit
open Go.Vx

theorem refFour_any (x : Nat) (hx : x < 4294967296) (w : World) :
    Calls Tryz.prog 59 #[.int .i64 (x : Int)] w fun e w' => e = .returned (.string ⟨(fourB x).toArray⟩) ∧ Only (fun _ => False) w w' := by
  obtain ⟨c0, e0⟩ : ∃ c, c = x % 256 := ⟨_, rfl⟩
  obtain ⟨c1, e1⟩ : ∃ c, c = x / 256 % 256 := ⟨_, rfl⟩
  obtain ⟨c2, e2⟩ : ∃ c, c = x / 65536 % 256 := ⟨_, rfl⟩
  obtain ⟨c3, e3⟩ : ∃ c, c = x / 16777216 % 256 := ⟨_, rfl⟩
  have v0 : (x : Int) % 256 = (c0 : Int) := by omega
  have v1 : (x : Int) / 256 % 256 = (c1 : Int) := by omega
  have v2 : (x : Int) / 65536 % 256 = (c2 : Int) := by omega
  have v3 : (x : Int) / 16777216 % 256 = (c3 : Int) := by omega
  have u0 : (c0 : Int) % 256 = (c0 : Int) := by omega
  have u1 : (c1 : Int) % 256 = (c1 : Int) := by omega
  have u2 : (c2 : Int) % 256 = (c2 : Int) := by omega
  have u3 : (c3 : Int) % 256 = (c3 : Int) := by omega
  have t0 : Int.tmod (x : Int) 256 = (c0 : Int) := by rw [Int.tmod_eq_emod_of_nonneg (by omega)]; omega
  have t1 : Int.tmod (Int.tdiv (x : Int) 256) 256 = (c1 : Int) := by rw [Int.tdiv_eq_ediv_of_nonneg (by omega), Int.tmod_eq_emod_of_nonneg (by omega)]; omega
  have t2 : Int.tmod (Int.tdiv (x : Int) 65536) 256 = (c2 : Int) := by rw [Int.tdiv_eq_ediv_of_nonneg (by omega), Int.tmod_eq_emod_of_nonneg (by omega)]; omega
  have t3 : Int.tmod (Int.tdiv (x : Int) 16777216) 256 = (c3 : Int) := by rw [Int.tdiv_eq_ediv_of_nonneg (by omega), Int.tmod_eq_emod_of_nonneg (by omega)]; omega
  have hcv := fun wv : World => run_convert_bytes_back (P := Tryz.prog) (wv.alloc (.cells #[.int .u8 (c0 : Int), .int .u8 (c1 : Int), .int .u8 (c2 : Int), .int .u8 (c3 : Int)] 5)) 66 9 5 ⟨wv.heap.size, 0, none⟩ 4 (fourB x) Tryz.underlying66 Tryz.underlying5 Tryz.underlying9 (fun j hj => by
    have hj4 : j < 4 := hj
    rw [addr_add, Nat.zero_add, cell_of_row _ _ j _ _ (0, 0) (heap_alloc_last wv _)]
    have hcs : j = 0 ∨ j = 1 ∨ j = 2 ∨ j = 3 := by omega
    rcases hcs with rfl | rfl | rfl | rfl
    · show some (Value.int .u8 (c0 : Int)) = some (.int .u8 ((UInt8.ofNat (x % 256)).toNat : Int)); rw [byte_of, ← e0]
    · show some (Value.int .u8 (c1 : Int)) = some (.int .u8 ((UInt8.ofNat (x / 256 % 256)).toNat : Int)); rw [byte_of, ← e1]
    · show some (Value.int .u8 (c2 : Int)) = some (.int .u8 ((UInt8.ofNat (x / 65536 % 256)).toNat : Int)); rw [byte_of, ← e2]
    · show some (Value.int .u8 (c3 : Int)) = some (.int .u8 ((UInt8.ofNat (x / 16777216 % 256)).toNat : Int)); rw [byte_of, ← e3])
  have hfl : (fourB x).length = 4 := rfl
  have hcv2 : (convert 66 9 (.slice (some ⟨w.heap.size, 0, none⟩) 4 4)).run Tryz.prog (w.alloc (.cells #[.int .u8 (c0 : Int), .int .u8 (c1 : Int), .int .u8 (c2 : Int), .int .u8 (c3 : Int)] 5)) = .ok (.string ⟨(fourB x).toArray⟩) (w.alloc (.cells #[.int .u8 (c0 : Int), .int .u8 (c1 : Int), .int .u8 (c2 : Int), .int .u8 (c3 : Int)] 5)) := hcv w
  generalize (fourB x).toArray = fx at hcv2
  have hxb : (x : Int) < 4294967296 := by omega
  clear hcv hfl e0 e1 e2 e3 hx
  go_enter Tryz.func59, Tryz.ntmps59
  go_wp2_with fail
  all_goals
    go_ret
    exact ⟨rfl, (Only.refl _ w).alloc _⟩
theorem refSetWord_any {w : World} {br bb n : Nat} {f : Nat → UInt8} (h : RefAt w br bb n f) (a : Int) (x : Nat) (hx : x < 4294967296) :
    Calls Tryz.prog 31 #[.pointer (some ⟨br, 0, none⟩), .int .i64 a, .int .i64 (x : Int)] w fun e w' => e = .returned (.int .i64 ((setWF f n a x).2 : Nat)) ∧ RefAt w' br bb n (setWF f n a x).1 ∧ Only (fun k => k = bb) w w' := by
  have HI := Vx.hid (inside_any h a 4 (by decide))
  have HR := Vx.hid h
  unfold setWF
  by_cases hi : insB n a 4 = true
  · rw [hi] at HI
    by_cases h4 : a.tmod 4 = 0
    · rw [if_pos ⟨hi, h4⟩]
      obtain ⟨y, z, rfl, hz, hin⟩ := insB_nat hi
      simp only [Int.toNat_natCast]
      have HF4 := Vx.hid (refFour_any x hx w)
      have HWR : Hid (∀ wv, Only (fun _ => False) w wv → Calls Tryz.prog 29 #[.pointer (some ⟨br, 0, none⟩), .int .i64 (y : Int), .string ⟨(fourB x).toArray⟩] wv fun e w' => e = .returned (.int .i64 0) ∧ Hid (RefAt w' br bb n (putF f y (fourB x)) ∧ Only (fun k => k = bb) w w')) := fun wv hv => by
        refine (refWrite_ok (h.only hv (fun h => h) (fun h => h)) y (fourB x) (by have : (fourB x).length = 4 := rfl; omega)).mono ?_
        rintro e w' ⟨rfl, h1, h2⟩
        exact ⟨rfl, h1, (hv.mono (fun _ _ h => h.elim)).trans h2⟩
      generalize (fourB x).toArray = fx at HF4 HWR
      clear h hi hin hz hx
      go_enter Tryz.func31, Tryz.ntmps31
      go_wp2_with fail
      refine HI.out.mono ?_
      rintro e w' ⟨rfl, h⟩
      have h3 := h.symm; clear h; subst h3
      go_wp2_with fail
      refine HF4.out.mono ?_
      rintro e w2 ⟨rfl, ho2⟩
      have HO2 := Vx.hid ho2
      clear ho2
      go_wp2_with fail
      refine (HWR.out w2 HO2.out).mono ?_
      rintro e w3 ⟨rfl, H3⟩
      go_wp2_with fail
      all_goals
        go_ret
        exact ⟨rfl, H3.out⟩
    · rw [if_neg (fun hh => h4 hh.2)]
      clear h hi
      go_enter Tryz.func31, Tryz.ntmps31
      go_wp2_with fail
      refine HI.out.mono ?_
      rintro e w' ⟨rfl, h⟩
      have h3 := h.symm; clear h; subst h3
      go_wp2_with fail
      all_goals
        go_ret
        exact ⟨rfl, HR.out, Only.refl _ _⟩
  · rw [if_neg (fun hh => hi hh.1)]
    have hi' : insB n a 4 = false := by simpa using hi
    rw [hi'] at HI
    clear h hi hi'
    go_enter Tryz.func31, Tryz.ntmps31
    go_wp2_with fail
    refine HI.out.mono ?_
    rintro e w' ⟨rfl, h⟩
    have h3 := h.symm; clear h; subst h3
    go_wp2_with fail
    all_goals
      go_ret
      exact ⟨rfl, HR.out, Only.refl _ _⟩
end Go.Proofs.YtflmobffeeocdaaGreatDoor

/- Walks of the document's memory: Zero, Same. -/
namespace Go.Proofs.YtflmobffeeocdaaGreatDoor
open Go.ChangeShapes Go.WideShapes Go.ChangeAt Go.RowKit
open Go.Vx

theorem nought_at (M k : Nat) (h : k < (noughts M).length) : (noughts M)[k] = 0 :=
  List.eq_of_mem_replicate (show (noughts M)[k] ∈ List.replicate M 0 from List.getElem_mem h)
set_option maxRecDepth 100000 in
theorem refZero_any {w : World} {br bb n : Nat} {f : Nat → UInt8} (h : RefAt w br bb n f) (p : Int) :
    Calls Tryz.prog 34 #[.pointer (some ⟨br, 0, none⟩), .int .i64 p] w fun e w' => e = .returned (.int .i64 ((zeroR f n p).2 : Nat)) ∧ RefAt w' br bb n (zeroR f n p).1 ∧ Only (fun k => k = bb) w w' := by
  have hcr := h.cr
  have hn := h.top
  obtain ⟨N, hN⟩ : ∃ N, N = 4096 * n := ⟨_, rfl⟩
  rw [← hN] at hcr
  have q1 : Int.tdiv (N : Int) 4096 = (n : Int) := by rw [Int.tdiv_eq_ediv_of_nonneg (by omega)]; omega
  have q2 : (N : Int) / 4096 = (n : Int) := by omega
  have q3 : IntKind.i64.wrap (n : Int) = (n : Int) := by rw [IntKind.wrap_i64]; omega
  unfold zeroR
  by_cases h0 : p < 0
  · have d0 : decide (p < 0) = true := decide_eq_true h0
    rw [if_neg (by simp [hasB]; omega)]
    have HR := Vx.hid h
    clear h hn hN
    go_enter Tryz.func34, Tryz.ntmps34
    go_wp2_with fail
    all_goals
      go_ret
      exact ⟨rfl, HR.out, Only.refl _ _⟩
  · have d0 : decide (p < 0) = false := decide_eq_false h0
    by_cases h1 : (n : Int) ≤ p
    · rw [if_neg (by simp [hasB]; omega)]
      have HR := Vx.hid h
      clear h hn hN
      go_enter Tryz.func34, Tryz.ntmps34
      go_wp2_with fail
      all_goals
        go_ret
        exact ⟨rfl, HR.out, Only.refl _ _⟩
    · obtain ⟨x, rfl⟩ : ∃ x : Nat, p = (x : Int) := ⟨p.toNat, by omega⟩
      rw [if_pos (by simp [hasB]; omega)]
      simp only [Int.toNat_natCast]
      obtain ⟨M, hM⟩ : ∃ M, M = 4096 := ⟨_, rfl⟩
      have H0 : Hid (RwR w br bb n f (4096 * x) (noughts M) 0 w) := ⟨by rw [List.take_zero, putF_nil]; exact h, Only.refl _ _⟩
      have HB : Hid (x < n ∧ n ≤ 256 ∧ N = 4096 * n ∧ M = 4096) := ⟨by omega, hn, hN, hM⟩
      have h1' : ¬ (n : Int) ≤ (x : Int) := h1
      have hw1 : IntKind.i64.wrap (4096 * (x : Int)) = 4096 * (x : Int) := by rw [IntKind.wrap_i64]; omega
      clear h hn hN hM h1
      go_enter Tryz.func34, Tryz.ntmps34
      go_wp2_with fail
      go_loopw [5] (fun d wr => ∃ k : Nat, d = .int .i64 (k : Int) ∧ k ≤ 4096 ∧ Hid (RwR w br bb n f (4096 * x) (noughts M) k wr)) (fun d _ => 4096 - (intOf d).toNat)
      case atStart => exact ⟨0, rfl, by omega, H0⟩
      case round =>
        obtain ⟨k, rfl, hk, HW⟩ := hrel
        by_cases hlt : k < 4096
        · have h2 : (k : Int) < 4096 := by omega
          have hkl : k < (noughts M).length := by rw [length_noughts]; have := HB.out; omega
          obtain ⟨hc1, ⟨v, hc2⟩, hf, hs⟩ := rw_step HW.out hkl (by rw [length_noughts]; have := HB.out; omega)
          rw [nought_at] at hs
          have HS := Vx.hid hs
          rw [← HB.out.2.2.1] at hc1
          have hi1 : 0 ≤ ((4096 * x + k : Nat) : Int) ∧ ((4096 * x + k : Nat) : Int) < (N : Int) := by have := HB.out; omega
          have hw2 : IntKind.i64.wrap ((4096 * x + k : Nat) : Int) = ((4096 * x + k : Nat) : Int) := by have := HB.out; rw [IntKind.wrap_i64]; omega
          have hx2 : 4096 * (x : Int) + (k : Int) = ((4096 * x + k : Nat) : Int) := by omega
          have hw9 : IntKind.i64.wrap ((k : Int) + 1) = (k : Int) + 1 := by rw [IntKind.wrap_i64]; omega
          generalize 4096 * x + k = y at hi1 hw2 hx2 hc2 hf HS
          clear hs hlt hkl
          go_wp2_with fail
          go_roundw
          case rel => exact ⟨k + 1, by go_num, by omega, HS⟩
          case measure => simp only [intOf]; omega
        · have h2 : ¬ (k : Int) < 4096 := by omega
          have HK : Hid (k = 4096) := by show k = 4096; omega
          clear hlt hk
          go_wp2_with fail
          all_goals
            go_ret
            obtain ⟨h5, h6⟩ := HW.out
            rw [HK.out] at h5
            have e : putF f (4096 * x) ((noughts M).take 4096) = zeroF f x := by
              rw [List.take_of_length_le (by rw [length_noughts]; have := HB.out; omega)]
              exact zeroF_put f x M HB.out.2.2.2
            rw [e] at h5
            exact ⟨rfl, h5, h6⟩
/-- What Same tells. -/
def sameR (f : Nat → UInt8) (n : Nat) (p q : Int) : Bool × Nat := if (hasB n p && hasB n q) = true then (sameB f p.toNat q.toNat, 0) else (false, 1)
theorem same_any {U : Nat → Prop} {w : World} {bm n : Nat} {f : Nat → UInt8} (h : MemAt U w bm n f) (p q : Int) :
    Calls Tryz.prog 35 #[.pointer (some ⟨bm, 0, none⟩), .int .i64 p, .int .i64 q] w fun e w' => e = .returned (.tuple #[.bool (sameR f n p q).1, .int .i64 ((sameR f n p q).2 : Nat)]) ∧ Only (fun _ => False) w w' := by
  unfold sameR
  by_cases hi : (hasB n p && hasB n q) = true
  · rw [if_pos hi]
    rw [Bool.and_eq_true] at hi
    obtain ⟨x, rfl, hx⟩ := hasB_nat hi.1
    obtain ⟨y, rfl, hy⟩ := hasB_nat hi.2
    simp only [Int.toNat_natCast]
    exact same_ok h x y hx hy
  · rw [if_neg hi]
    refine (same_no h p q (by simpa using hi)).mono ?_
    rintro e w' ⟨rfl, rfl⟩
    exact ⟨rfl, Only.refl _ _⟩
theorem sameB_iff (f : Nat → UInt8) (p q : Nat) : sameB f p q = true ↔ ∀ j, j < 4096 → f (4096 * p + j) = f (4096 * q + j) := by
  unfold sameB
  rw [List.all_eq_true]
  simp only [List.mem_range, beq_iff_eq]
set_option maxRecDepth 100000 in
theorem refSame_ok {w : World} {br bb n : Nat} {f : Nat → UInt8} (h : RefAt w br bb n f) (x y : Nat) (hx : x < n) (hy : y < n) :
    Calls Tryz.prog 36 #[.pointer (some ⟨br, 0, none⟩), .int .i64 (x : Int), .int .i64 (y : Int)] w fun e w' => e = .returned (.tuple #[.bool (sameB f x y), .int .i64 0]) ∧ Only (fun _ => False) w w' := by
  have hcr := h.cr
  have hn := h.top
  obtain ⟨N, hN⟩ : ∃ N, N = 4096 * n := ⟨_, rfl⟩
  rw [← hN] at hcr
  have q1 : Int.tdiv (N : Int) 4096 = (n : Int) := by rw [Int.tdiv_eq_ediv_of_nonneg (by omega)]; omega
  have q2 : (N : Int) / 4096 = (n : Int) := by omega
  have q3 : IntKind.i64.wrap (n : Int) = (n : Int) := by rw [IntKind.wrap_i64]; omega
  have d0 : decide ((x : Int) < 0) = false := decide_eq_false (by omega)
  have d1 : decide ((y : Int) < 0) = false := decide_eq_false (by omega)
  have d2 : decide ((n : Int) ≤ (x : Int)) = false := decide_eq_false (by omega)
  have d3 : ¬ (n : Int) ≤ (y : Int) := by omega
  have d2' : ¬ (n : Int) ≤ (x : Int) := by omega
  have HR := Vx.hid h
  have HB : Hid (x < n ∧ y < n ∧ n ≤ 256 ∧ N = 4096 * n) := ⟨hx, hy, hn, hN⟩
  have hw1 : IntKind.i64.wrap (4096 * (x : Int)) = 4096 * (x : Int) := by rw [IntKind.wrap_i64]; omega
  have hw2 : IntKind.i64.wrap (4096 * (y : Int)) = 4096 * (y : Int) := by rw [IntKind.wrap_i64]; omega
  clear h hn hN hx hy
  go_enter Tryz.func36, Tryz.ntmps36
  go_wp2_with fail
  go_loopw [9] (fun d wr => ∃ k : Nat, d = .int .i64 (k : Int) ∧ k ≤ 4096 ∧ Hid (∀ j, j < k → f (4096 * x + j) = f (4096 * y + j)) ∧ Hid (Only (fun _ => False) w wr)) (fun d _ => 4096 - (intOf d).toNat)
  case atStart => exact ⟨0, rfl, by omega, (fun j hj => by omega), Only.refl _ _⟩
  case round =>
    obtain ⟨k, rfl, hk, HE, HO⟩ := hrel
    by_cases hlt : k < 4096
    · have h2 : (k : Int) < 4096 := by omega
      have hR2 := HR.out.only HO.out (fun h => h) (fun h => h)
      have hc0 : wr.cell? ⟨br, 0, none⟩ = some (.slice (some ⟨bb, 0, none⟩) N N) := by rw [HB.out.2.2.2]; exact hR2.cr
      have hc1 : wr.cell? ⟨bb, 4096 * x + k, none⟩ = some (byteV (f (4096 * x + k))) := hR2.cb (by have := HB.out; omega)
      have hc2 : wr.cell? ⟨bb, 4096 * y + k, none⟩ = some (byteV (f (4096 * y + k))) := hR2.cb (by have := HB.out; omega)
      unfold byteV at hc1 hc2
      have hi1 : 0 ≤ ((4096 * x + k : Nat) : Int) ∧ ((4096 * x + k : Nat) : Int) < (N : Int) := by have := HB.out; omega
      have hi2 : 0 ≤ ((4096 * y + k : Nat) : Int) ∧ ((4096 * y + k : Nat) : Int) < (N : Int) := by have := HB.out; omega
      have hv1 : IntKind.i64.wrap ((4096 * x + k : Nat) : Int) = ((4096 * x + k : Nat) : Int) := by have := HB.out; rw [IntKind.wrap_i64]; omega
      have hv2 : IntKind.i64.wrap ((4096 * y + k : Nat) : Int) = ((4096 * y + k : Nat) : Int) := by have := HB.out; rw [IntKind.wrap_i64]; omega
      have hx1 : 4096 * (x : Int) + (k : Int) = ((4096 * x + k : Nat) : Int) := by omega
      have hx2 : 4096 * (y : Int) + (k : Int) = ((4096 * y + k : Nat) : Int) := by omega
      have hw9 : IntKind.i64.wrap ((k : Int) + 1) = (k : Int) + 1 := by rw [IntKind.wrap_i64]; omega
      have j1 : ((4096 * x + k : Nat) : Int) < (N : Int) := hi1.2
      have j2 : ((4096 * y + k : Nat) : Int) < (N : Int) := hi2.2
      have HF : Hid (∀ b : Bool, b = decide ((f (4096 * x + k)).toNat = (f (4096 * y + k)).toNat) → True) := fun _ _ => trivial
      by_cases he : (f (4096 * x + k)).toNat = (f (4096 * y + k)).toNat
      · have HE2 : Hid (∀ j, j < k + 1 → f (4096 * x + j) = f (4096 * y + j)) := fun j hj => by
          by_cases hjk : j < k
          · exact HE.out j hjk
          · obtain rfl : j = k := by omega
            exact UInt8.toNat_inj.1 he
        have e1 : ((f (4096 * x + k)).toNat : Int) = ((f (4096 * y + k)).toNat : Int) := by omega
        have e2 : (((f (4096 * x + k)).toNat : Int) != ((f (4096 * y + k)).toNat : Int)) = false := by simp [e1]
        rw [e1] at hc1 e2
        clear e1 HF hR2 he
        generalize (f (4096 * y + k)).toNat = v at hc1 hc2 e2
        generalize 4096 * x + k = a1 at hc1 hi1 hv1 hx1 j1
        generalize 4096 * y + k = a2 at hc2 hi2 hv2 hx2 j2
        clear hlt
        go_wp2_with fail
        go_quiet (fail)
        go_wp2_with fail
        all_goals
          go_roundw
          case rel => exact ⟨k + 1, by go_num, by omega, HE2, HO.out.drewN _⟩
          case measure => simp only [intOf]; omega
      · have HN : Hid (sameB f x y = false) := by
          show sameB f x y = false
          cases hsb : sameB f x y with
          | false => rfl
          | true => exact absurd (congrArg UInt8.toNat ((sameB_iff f x y).1 hsb k hlt)) he
        have e1 : ¬ ((f (4096 * x + k)).toNat : Int) = ((f (4096 * y + k)).toNat : Int) := by omega
        have e2 : (((f (4096 * x + k)).toNat : Int) != ((f (4096 * y + k)).toNat : Int)) = true := by rw [bne_iff_ne]; exact e1
        clear HF hR2
        generalize (f (4096 * y + k)).toNat = v at hc2 e1 e2 he
        generalize (f (4096 * x + k)).toNat = u at hc1 e1 e2 he
        generalize 4096 * x + k = a1 at hc1 hi1 hv1 hx1 j1
        generalize 4096 * y + k = a2 at hc2 hi2 hv2 hx2 j2
        clear hlt
        go_wp2_with fail
        go_quiet (fail)
        go_wp2_with fail
        all_goals
          go_ret2
          rw [HN.out]
          exact ⟨rfl, HO.out.drewN _⟩
    · obtain rfl : k = 4096 := by omega
      have HN : Hid (sameB f x y = true) := (sameB_iff f x y).2 HE.out
      clear hlt
      go_wp2_with fail
      all_goals
        go_ret2
        rw [HN.out]
        exact ⟨rfl, HO.out⟩
theorem refSame_any {w : World} {br bb n : Nat} {f : Nat → UInt8} (h : RefAt w br bb n f) (p q : Int) :
    Calls Tryz.prog 36 #[.pointer (some ⟨br, 0, none⟩), .int .i64 p, .int .i64 q] w fun e w' => e = .returned (.tuple #[.bool (sameR f n p q).1, .int .i64 ((sameR f n p q).2 : Nat)]) ∧ Only (fun _ => False) w w' := by
  unfold sameR
  by_cases hi : (hasB n p && hasB n q) = true
  · rw [if_pos hi]
    rw [Bool.and_eq_true] at hi
    obtain ⟨x, rfl, hx⟩ := hasB_nat hi.1
    obtain ⟨y, rfl, hy⟩ := hasB_nat hi.2
    simp only [Int.toNat_natCast]
    exact refSame_ok h x y hx hy
  · rw [if_neg hi]
    have hcr := h.cr
    have hn := h.top
    obtain ⟨N, hN⟩ : ∃ N, N = 4096 * n := ⟨_, rfl⟩
    rw [← hN] at hcr
    have q1 : Int.tdiv (N : Int) 4096 = (n : Int) := by rw [Int.tdiv_eq_ediv_of_nonneg (by omega)]; omega
    have q2 : (N : Int) / 4096 = (n : Int) := by omega
    have q3 : IntKind.i64.wrap (n : Int) = (n : Int) := by rw [IntKind.wrap_i64]; omega
    have hc : p < 0 ∨ (¬ p < 0 ∧ q < 0) ∨ (¬ p < 0 ∧ ¬ q < 0 ∧ (n : Int) ≤ p) ∨ (¬ p < 0 ∧ ¬ q < 0 ∧ ¬ (n : Int) ≤ p ∧ (n : Int) ≤ q) := by
      simp [hasB] at hi
      omega
    clear h hn hN hi
    rcases hc with h1 | ⟨h1, h2⟩ | ⟨h1, h2, h3⟩ | ⟨h1, h2, h3, h4⟩
    · have d1 : decide (p < 0) = true := decide_eq_true h1
      go_enter Tryz.func36, Tryz.ntmps36
      go_wp2_with fail
      all_goals
        go_ret2
        exact ⟨rfl, Only.refl _ _⟩
    · have d1 : decide (p < 0) = false := decide_eq_false h1
      have d2 : decide (q < 0) = true := decide_eq_true h2
      go_enter Tryz.func36, Tryz.ntmps36
      go_wp2_with fail
      all_goals
        go_ret2
        exact ⟨rfl, Only.refl _ _⟩
    · have d1 : decide (p < 0) = false := decide_eq_false h1
      have d2 : decide (q < 0) = false := decide_eq_false h2
      have d3 : decide ((n : Int) ≤ p) = true := decide_eq_true h3
      go_enter Tryz.func36, Tryz.ntmps36
      go_wp2_with fail
      all_goals
        go_ret2
        exact ⟨rfl, Only.refl _ _⟩
    · have d1 : decide (p < 0) = false := decide_eq_false h1
      have d2 : decide (q < 0) = false := decide_eq_false h2
      have d3 : decide ((n : Int) ≤ p) = false := decide_eq_false h3
      go_enter Tryz.func36, Tryz.ntmps36
      go_wp2_with fail
      all_goals
        go_ret2
        exact ⟨rfl, Only.refl _ _⟩
end Go.Proofs.YtflmobffeeocdaaGreatDoor

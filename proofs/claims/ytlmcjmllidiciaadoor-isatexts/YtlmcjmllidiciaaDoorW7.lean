/- A walk of the document's 'Encode'. -/
import Derived.Test.YtlmcjmllidiciaaDoorEncRef
import Derived.Test.YtlmcjmllidiciaaDoorW6
namespace Go.Proofs.YtlmcjmllidiciaaDoor
open Go.ChangeShapes Go.WideShapes Go.ChangeAt Go.RowKit
open Go.Vx (kindOf formOf ins insV zeroIns fits dec Ins wordOf pic encF)

/-- The counters have as many bits to go as the picture has signs. -/
def Cnt (l : List UInt8) (d s t : Int) : Prop := (l.count 68 : Int) ≤ d + 1 ∧ (l.count 83 : Int) ≤ s + 1 ∧ (l.count 84 : Int) ≤ t + 1

set_option maxHeartbeats 1000000 in
theorem refEncode_far (i : Ins) (h : ¬ (1 ≤ i.op ∧ i.op ≤ 48)) (w : World) :
    Calls Tryd.prog 10 #[insV i] w fun e w' => e = .returned (.tuple #[.int .i64 0, .int .i64 8]) ∧ Below w.heap.size w w' := by
  unfold insV
  by_cases h1 : i.op < 1
  · clear h
    go_enter Tryd.func10, Tryd.ntmps10
    go_wp2
    go_ret2
    exact ⟨rfl, (Below.refl _ _).alloc (Nat.le_refl _) _⟩
  · have h2 : 48 < i.op := by omega
    clear h
    go_enter Tryd.func10, Tryd.ntmps10
    go_wp2
    go_ret2
    exact ⟨rfl, (Below.refl _ _).alloc (Nat.le_refl _) _⟩

set_option maxRecDepth 20000 in
set_option maxHeartbeats 4000000 in
theorem refEncode_near (i : Ins) (h0 : 1 ≤ i.op) (h1 : i.op ≤ 48) (ok : Bool) (hok : ok = true → dec (wordOf i) = i) (hno : ok = false → dec (wordOf i) ≠ i) (w : World) :
    Calls Tryd.prog 10 #[insV i] w fun e w' => e = .returned (.tuple #[.int .i64 (if ok then wordOf i else 0), .int .i64 (if ok then 0 else 8)]) ∧ Below w.heap.size w w' := by
  have HOK : Hid (ok = true → dec (wordOf i) = i) := hok
  have HNO : Hid (ok = false → dec (wordOf i) ≠ i) := hno
  have HI : Hid (insV i = .agg #[.int .i64 i.op, .int .i64 i.rd, .int .i64 i.rs1, .int .i64 i.rs2, .int .i64 i.imm]) := rfl
  have HWB : Hid (0 ≤ wordOf i ∧ wordOf i < 4294967296) := Vx.word_bound i h0 h1
  clear hok hno
  rw [HI.out]
  go_enter Tryd.func10, Tryd.ntmps10
  go_wp2_with fail
  refine (picture_any i.op (by omega) h1 _).mono ?_
  rintro e w1 ⟨rfl, hb1⟩
  obtain ⟨hlen, hall⟩ := Vx.pic_signs i.op h0 h1
  have Hlen : Hid ((pic i.op).length = 32) := hlen
  have Hall : Hid ((pic i.op).all Vx.signOk = true) := hall
  clear hlen hall
  have hs1 : w.heap.size < w1.heap.size := by have := hb1.size; simp at this; omega
  have hc : ∀ o, w1.cell? ⟨w.heap.size, o, none⟩ = (w.alloc (.cells #[.int .i64 i.op, .int .i64 i.rd, .int .i64 i.rs1, .int .i64 i.rs2, .int .i64 i.imm] 24)).cell? ⟨w.heap.size, o, none⟩ := fun o => hb1.cell (p := ⟨w.heap.size, o, none⟩) (by simp)
  have HB1 : Hid (Below w.heap.size w w1) := ((Below.refl _ _).alloc (Nat.le_refl _) _).trans (hb1.mono (by simp))
  clear hb1
  obtain ⟨p, hp⟩ : ∃ p : ByteArray, p = ⟨(pic i.op).toArray⟩ := ⟨_, rfl⟩
  rw [← hp]
  have Hp : Hid (p = ⟨(pic i.op).toArray⟩) := hp
  clear hp
  go_wp2_with fail
  go_loop [5, 6, 7, 8, 9] (fun a5 a6 a7 a8 a9 => ∃ k : Nat, ∃ v d s t : Int, k ≤ 32 ∧ a9 = .int .i64 k ∧ a5 = .int .i64 v ∧ a6 = .int .i64 d ∧ a7 = .int .i64 s ∧ a8 = .int .i64 t ∧ Hid (encF i ((pic i.op).drop k) v d s t = wordOf i) ∧ 0 ≤ v ∧ v < 2 ^ k ∧ -40 + 32 - k ≤ d ∧ d ≤ 4 ∧ -40 + 32 - k ≤ s ∧ s ≤ 4 ∧ -40 + 32 - k ≤ t ∧ t ≤ 4 ∧ Hid (Cnt ((pic i.op).drop k) d s t)) (fun _ _ _ _ a9 => 32 - (intOf a9).toNat)
  case atStart =>
    have hcn := Vx.pic_counts i.op h0 h1
    exact ⟨0, 0, 4, 4, 4, by omega, rfl, rfl, rfl, rfl, rfl, Vx.enc_num i h0 h1, by omega, by decide, by omega, by omega, by omega, by omega, by omega, by omega, ⟨by simp only [List.drop_zero]; omega, by simp only [List.drop_zero]; omega, by simp only [List.drop_zero]; omega⟩⟩
  case round =>
    obtain ⟨k, v, d, s, t, hk, rfl, rfl, rfl, rfl, rfl, HN, v0, v1, d0, d1, s0, s1, t0, t1, HC⟩ := hrel
    have hpl := pow_le k hk
    have HV : Hid (v < 2 ^ k) := v1
    have v2 : v ≤ 4294967296 := by omega
    clear v1 hpl
    by_cases hlt : k < 32
    · obtain ⟨c, hcc⟩ : ∃ c, (pic i.op)[k]'(by rw [Hlen.out]; exact hlt) = c := ⟨_, rfl⟩
      have hsign : Vx.signOk c = true := by rw [← hcc]; exact List.all_eq_true.1 Hall.out _ (List.getElem_mem _)
      have hidx := index_sign p (pic i.op) k Hp.out (by rw [Hlen.out]; exact hlt)
      rw [List.drop_eq_getElem_cons (by rw [Hlen.out]; exact hlt)] at HN HC
      rw [hcc] at HN HC hidx
      clear hcc Hall Hp
      by_cases h68 : c = 68
      · subst h68
        have hcn : ((68 : UInt8).toNat : Int) = 68 := rfl
        rw [hcn] at hidx
        clear hcn hsign
        have hpos : 0 ≤ d := by have := HC.out.1; rw [List.count_cons_self] at this; omega
        obtain ⟨b, hbit⟩ : ∃ b, bits .and .i64 (i.rd / 2 ^ d.toNat) 1 = b := ⟨_, rfl⟩
        have hb2 : i.rd / 2 ^ d.toNat % 2 = b := by rw [← hbit, Vx.i64_and1]
        have hb3 : 0 ≤ b ∧ b ≤ 1 := by omega
        have HN2 : Hid (encF i ((pic i.op).drop (k + 1)) (2 * v + b) (d - 1) s t = wordOf i) := by
          have := HN.out
          rw [encF, hb2] at this
          exact this
        have HC2 : Hid (Cnt ((pic i.op).drop (k + 1)) (d - 1) s t) := by
          have := HC.out
          exact ⟨by have h := this.1; rw [List.count_cons_self] at h; omega, by have h := this.2.1; rw [List.count_cons_of_ne (by decide)] at h; exact h, by have h := this.2.2; rw [List.count_cons_of_ne (by decide)] at h; exact h⟩
        obtain ⟨hb3, hb4⟩ := hb3
        clear HN HC hb2
        go_wp2
        go_round
        case rel => exact ⟨k + 1, 2 * v + b, d - 1, s, t, by omega, by go_num, rfl, rfl, rfl, rfl, HN2, by omega, by rw [pow_next]; have := HV.out; omega, by omega, by omega, by omega, by omega, by omega, by omega, HC2⟩
        case measure => simp [intOf]; omega
      by_cases h83 : c = 83
      · subst h83
        have hcn : ((83 : UInt8).toNat : Int) = 83 := rfl
        rw [hcn] at hidx
        clear hcn hsign
        have hpos : 0 ≤ s := by have := HC.out.2.1; rw [List.count_cons_self] at this; omega
        obtain ⟨b, hbit⟩ : ∃ b, bits .and .i64 (i.rs1 / 2 ^ s.toNat) 1 = b := ⟨_, rfl⟩
        have hb2 : i.rs1 / 2 ^ s.toNat % 2 = b := by rw [← hbit, Vx.i64_and1]
        have hb3 : 0 ≤ b ∧ b ≤ 1 := by omega
        have HN2 : Hid (encF i ((pic i.op).drop (k + 1)) (2 * v + b) d (s - 1) t = wordOf i) := by
          have := HN.out
          rw [encF, hb2] at this
          exact this
        have HC2 : Hid (Cnt ((pic i.op).drop (k + 1)) d (s - 1) t) := by
          have := HC.out
          exact ⟨by have h := this.1; rw [List.count_cons_of_ne (by decide)] at h; exact h, by have h := this.2.1; rw [List.count_cons_self] at h; omega, by have h := this.2.2; rw [List.count_cons_of_ne (by decide)] at h; exact h⟩
        obtain ⟨hb3, hb4⟩ := hb3
        clear HN HC hb2
        go_wp2
        go_round
        case rel => exact ⟨k + 1, 2 * v + b, d, s - 1, t, by omega, by go_num, rfl, rfl, rfl, rfl, HN2, by omega, by rw [pow_next]; have := HV.out; omega, by omega, by omega, by omega, by omega, by omega, by omega, HC2⟩
        case measure => simp [intOf]; omega
      by_cases h84 : c = 84
      · subst h84
        have hcn : ((84 : UInt8).toNat : Int) = 84 := rfl
        rw [hcn] at hidx
        clear hcn hsign
        have hpos : 0 ≤ t := by have := HC.out.2.2; rw [List.count_cons_self] at this; omega
        obtain ⟨b, hbit⟩ : ∃ b, bits .and .i64 (i.rs2 / 2 ^ t.toNat) 1 = b := ⟨_, rfl⟩
        have hb2 : i.rs2 / 2 ^ t.toNat % 2 = b := by rw [← hbit, Vx.i64_and1]
        have hb3 : 0 ≤ b ∧ b ≤ 1 := by omega
        have HN2 : Hid (encF i ((pic i.op).drop (k + 1)) (2 * v + b) d s (t - 1) = wordOf i) := by
          have := HN.out
          rw [encF, hb2] at this
          exact this
        have HC2 : Hid (Cnt ((pic i.op).drop (k + 1)) d s (t - 1)) := by
          have := HC.out
          exact ⟨by have h := this.1; rw [List.count_cons_of_ne (by decide)] at h; exact h, by have h := this.2.1; rw [List.count_cons_of_ne (by decide)] at h; exact h, by have h := this.2.2; rw [List.count_cons_self] at h; omega⟩
        obtain ⟨hb3, hb4⟩ := hb3
        clear HN HC hb2
        go_wp2
        go_round
        case rel => exact ⟨k + 1, 2 * v + b, d, s, t - 1, by omega, by go_num, rfl, rfl, rfl, rfl, HN2, by omega, by rw [pow_next]; have := HV.out; omega, by omega, by omega, by omega, by omega, by omega, by omega, HC2⟩
        case measure => simp [intOf]; omega
      by_cases h48 : c = 48
      · subst h48
        have hcn : ((48 : UInt8).toNat : Int) = 48 := rfl
        rw [hcn] at hidx
        clear hcn hsign
        have HN2 : Hid (encF i ((pic i.op).drop (k + 1)) (2 * v) d s t = wordOf i) := HN.out
        have HC2 : Hid (Cnt ((pic i.op).drop (k + 1)) d s t) := by
          have := HC.out
          exact ⟨by have h := this.1; rw [List.count_cons_of_ne (by decide)] at h; exact h, by have h := this.2.1; rw [List.count_cons_of_ne (by decide)] at h; exact h, by have h := this.2.2; rw [List.count_cons_of_ne (by decide)] at h; exact h⟩
        clear HN HC
        go_wp2
        go_round
        case rel => exact ⟨k + 1, 2 * v, d, s, t, by omega, by go_num, by go_num, rfl, rfl, rfl, HN2, by omega, by rw [pow_next]; have := HV.out; omega, by omega, by omega, by omega, by omega, by omega, by omega, HC2⟩
        case measure => simp [intOf]; omega
      by_cases h49 : c = 49
      · subst h49
        have hcn : ((49 : UInt8).toNat : Int) = 49 := rfl
        rw [hcn] at hidx
        clear hcn hsign
        have HN2 : Hid (encF i ((pic i.op).drop (k + 1)) (2 * v + 1) d s t = wordOf i) := HN.out
        have HC2 : Hid (Cnt ((pic i.op).drop (k + 1)) d s t) := by
          have := HC.out
          exact ⟨by have h := this.1; rw [List.count_cons_of_ne (by decide)] at h; exact h, by have h := this.2.1; rw [List.count_cons_of_ne (by decide)] at h; exact h, by have h := this.2.2; rw [List.count_cons_of_ne (by decide)] at h; exact h⟩
        clear HN HC
        go_wp2
        go_round
        case rel => exact ⟨k + 1, 2 * v + 1, d, s, t, by omega, by go_num, by go_num, rfl, rfl, rfl, HN2, by omega, by rw [pow_next]; have := HV.out; omega, by omega, by omega, by omega, by omega, by omega, by omega, HC2⟩
        case measure => simp [intOf]; omega
      have hcc : 97 ≤ c.toNat ∧ c.toNat ≤ 117 := by
        simp only [Vx.signOk, h48, h49, h68, h83, h84, beq_iff_eq, Bool.or_eq_true, Bool.and_eq_true, decide_eq_true_eq, false_or] at hsign
        rw [UInt8.le_iff_toNat_le, UInt8.le_iff_toNat_le] at hsign
        exact hsign
      obtain ⟨b, hbit⟩ : ∃ b, bits .and .i64 (i.imm / 2 ^ (c.toNat - 97)) 1 = b := ⟨_, rfl⟩
      have hb2 : i.imm / 2 ^ (c.toNat - 97) % 2 = b := by rw [← hbit, Vx.i64_and1]
      have hb3 : 0 ≤ b ∧ b ≤ 1 := by omega
      have HN2 : Hid (encF i ((pic i.op).drop (k + 1)) (2 * v + b) d s t = wordOf i) := by
        have := HN.out
        rw [encF, if_neg h48, if_neg h49, if_neg h68, if_neg h83, if_neg h84, hb2] at this
        exact this
      have HC2 : Hid (Cnt ((pic i.op).drop (k + 1)) d s t) := by
        have := HC.out
        exact ⟨by have h := this.1; rw [List.count_cons_of_ne h68] at h; exact h, by have h := this.2.1; rw [List.count_cons_of_ne h83] at h; exact h, by have h := this.2.2; rw [List.count_cons_of_ne h84] at h; exact h⟩
      obtain ⟨hb3, hb4⟩ := hb3
      clear HN HC hb2 hsign h48 h49 h68 h83 h84
      generalize c.toNat = n at hcc hidx hbit
      obtain ⟨hn1, hn2⟩ := hcc
      have t1' : ((n : Int) == 48) = false := beq_eq_false_iff_ne.2 (by omega)
      have t2' : ((n : Int) == 49) = false := beq_eq_false_iff_ne.2 (by omega)
      have t3' : ((n : Int) == 68) = false := beq_eq_false_iff_ne.2 (by omega)
      have t4' : ((n : Int) == 83) = false := beq_eq_false_iff_ne.2 (by omega)
      have t5' : ((n : Int) == 84) = false := beq_eq_false_iff_ne.2 (by omega)
      go_wp2
      go_round
      case rel => exact ⟨k + 1, 2 * v + b, d, s, t, by omega, by go_num, rfl, rfl, rfl, rfl, HN2, by omega, by rw [pow_next]; have := HV.out; omega, by omega, by omega, by omega, by omega, by omega, by omega, HC2⟩
      case measure => simp [intOf]; omega
    · have hk32 : k = 32 := by omega
      subst hk32
      have Hv : Hid (v = wordOf i) := by
        have := HN.out
        rw [List.drop_of_length_le (by rw [Hlen.out]; exact Nat.le_refl _)] at this
        exact this
      clear HN HC
      obtain ⟨n, hnw⟩ := Int.eq_ofNat_of_zero_le HWB.out.1
      have hvn : v = (n : Int) := Hv.out.trans hnw
      have hn : n < 4294967296 := by have := HWB.out.2; omega
      have Hn : Hid (wordOf i = (n : Int)) := hnw
      clear hnw
      subst hvn
      clear v0 v2 HV Hv
      go_wp2_with fail
      refine (refDecode_any n hn _).mono ?_
      rintro e w2 ⟨rfl, hb2⟩
      have hs2 : w.heap.size < w2.heap.size := Nat.lt_of_lt_of_le hs1 hb2.size
      have hc2 : ∀ o, w2.cell? ⟨w.heap.size, o, none⟩ = (w.alloc (.cells #[.int .i64 i.op, .int .i64 i.rd, .int .i64 i.rs1, .int .i64 i.rs2, .int .i64 i.imm] 24)).cell? ⟨w.heap.size, o, none⟩ := by
        intro o
        rw [hb2.cell (p := ⟨w.heap.size, o, none⟩) hs1, hc o]
      have HB2 : Hid (Below w.heap.size w w2) := HB1.out.trans (hb2.mono (Nat.le_of_lt hs1))
      clear hb2 hc
      cases ok with
      | true =>
        have hd : dec (n : Int) = i := by rw [← Hn.out]; exact HOK.out rfl
        rw [hd]
        unfold insV
        clear hd
        go_wp2
        go_ret2
        refine ⟨?_, HB2.out.alloc (Nat.le_of_lt hs2) _⟩
        simp [Hn.out]
      | false =>
        have hd : dec (n : Int) ≠ i := by rw [← Hn.out]; exact HNO.out rfl
        have hne := ins_ne hd
        unfold insV
        clear hd
        rcases hne with hn0 | ⟨hn0, hn1⟩ | ⟨hn0, hn1, hn2⟩ | ⟨hn0, hn1, hn2, hn3⟩ | ⟨hn0, hn1, hn2, hn3, hn4⟩
        all_goals
          go_wp2
          go_ret2
          exact ⟨rfl, HB2.out.alloc (Nat.le_of_lt hs2) _⟩
end Go.Proofs.YtlmcjmllidiciaaDoor

/- AsmLabels: the walk. -/
import Derived.Test.YtmfookpigilccaaGreatDoorQ29
import Derived.Deep.RegionHeld3
namespace Go.Proofs.YtmfookpigilccaaGreatDoor
open Go.ChangeShapes Go.WideShapes Go.ChangeAt Go.RowKit Go.Maps
open Go.Vx (Only fourB wordOf insV jalL ecallL preL)

set_option maxRecDepth 100000 in
set_option maxHeartbeats 4000000 in
theorem asmLabels_walk (n : Int) (h0 : -9223372036854775808 ≤ n) (h1 : n ≤ 9223372036854775807) (bh : Bool) (mx : Int) (w : World) (hF : FormsAt w) (hm : MaxAt mx w) (hg : 1 < w.heap.size) :
    Calls Tryz.prog 5 #[.int .i64 n, .bool bh] w fun e w' => e = .returned (.bool true) ∧ Below w.heap.size w w' := by
  have HF : Hid (FormsAt w) := hF
  have HM : Hid (MaxAt mx w) := hm
  have hf1 := hF.1
  clear hF hm
  go_enter Tryz.func5, Tryz.ntmps5
  go_wp2_with fail
  refine (pick_any n h0 h1 _).mono ?_
  rintro e w1 ⟨⟨k, hk, rfl⟩, rfl⟩
  clear h0 h1
  go_wp2_with fail
  go_loopw [6, 7] (fun t k' wr => ∃ i : Nat, ∃ tl : List UInt8, i ≤ k ∧ t = .string ⟨tl.toArray⟩ ∧ k' = .int .i64 i ∧ Hid (tl = fillL i) ∧ tl.length = 6 * i ∧ wr = w1) (fun _ k' _ => k - (intOf k').toNat)
  case atStart => exact ⟨0, [], by omega, rfl, rfl, rfl, rfl, rfl⟩
  case round =>
    obtain ⟨i, tl, hik, rfl, rfl, HT, htl, rfl⟩ := hrel
    by_cases hlt : i < k
    · have h1 : (i : Int) < (k : Int) := by omega
      clear hlt
      go_wp2_with fail
      go_roundw
      case rel => exact ⟨i + 1, tl ++ [101, 99, 97, 108, 108, 10], by omega, congrArg Value.string (cat tl [101, 99, 97, 108, 108, 10]), by go_num, (by show _ = _; rw [HT.out, fill_succ]; rfl), by simp only [List.length_append, List.length_cons, List.length_nil]; omega, by trivial⟩
      case measure => simp [intOf]; omega
    · obtain rfl : i = k := by omega
      have h1 : ¬ (i : Int) < (i : Int) := by omega
      clear hlt
      have ht := HT.out
      cases bh with
      | false =>
        have HA : Hid (Calls Tryz.prog 6 #[.string (⟨#[106, 97, 108, 32, 120, 55, 44, 32, 116, 111, 10]⟩ ++ ⟨tl.toArray⟩ ++ ⟨#[116, 111, 58, 32, 101, 99, 97, 108, 108]⟩)] wr fun e w' => ∃ p : ByteArray, e = .returned (.tuple #[.string p, .int .i64 0, .int .i64 0]) ∧ Hid (p = ⟨(codeG (fun j => j == 0) (i + 1) (i + 2)).toArray⟩) ∧ p.size = 4 * (i + 2) ∧ Only (fun _ => False) wr w') := by
          have h := ahead_good i hk mx wr HM.out HF.out hg
          have e : (⟨#[106, 97, 108, 32, 120, 55, 44, 32, 116, 111, 10]⟩ ++ ⟨tl.toArray⟩ ++ ⟨#[116, 111, 58, 32, 101, 99, 97, 108, 108]⟩ : ByteArray) = ⟨(jalL ++ [10] ++ fillL i ++ (preL ++ ecallL)).toArray⟩ := by
            rw [← ht]; exact cat3 _ tl _
          rw [← e] at h
          exact h.mono fun e w' ⟨he, ho⟩ => ⟨_, he, rfl, by simp [ByteArray.size, codeG_len], ho⟩
        have HB : Hid (∀ wv : World, Below wr.heap.size wr wv → Calls Tryz.prog 6 #[.string (⟨#[106, 97, 108, 32, 120, 55, 44, 32, 116, 111, 10]⟩ ++ ⟨tl.toArray⟩)] wv fun e w' => e = .returned (.tuple #[.string ⟨#[]⟩, .int .i64 6, .int .i64 1]) ∧ Only (fun _ => False) wv w') := by
          intro wv hb
          have h := ahead_bad i hk mx wv (HM.out.below hb hg) (HF.out.below hf1 hb) (Nat.lt_of_lt_of_le hg hb.size)
          have e : (⟨#[106, 97, 108, 32, 120, 55, 44, 32, 116, 111, 10]⟩ ++ ⟨tl.toArray⟩ : ByteArray) = ⟨(jalL ++ [10] ++ fillL i).toArray⟩ := by
            rw [← ht]; exact cat _ tl
          rw [← e] at h
          exact h
        have HE : Hid (∀ wv : World, FormsAt wv → Calls Tryz.prog 11 #[.agg #[.int .i64 3, .int .i64 7, .int .i64 0, .int .i64 0, .int .i64 (4 * (i : Int) + 4)]] wv fun e w' => e = .returned (.tuple #[.int .u32 (((xw (fun j => j == 0) (i + 1) 0).toNat : Nat) : Int), .int .i64 0]) ∧ Below wv.heap.size wv w') := fun wv hv =>
          enc_jal (fun j => j == 0) (i + 1) 0 (4 * (i : Int) + 4) rfl (by omega) (by omega) (by omega) wv hv
        have HS : Hid (∀ (p : ByteArray), p = ⟨(codeG (fun j => j == 0) (i + 1) (i + 2)).toArray⟩ → ∀ wv, (Instr.slice 9 (.string p) (some (.int .i64 0)) (some (.int .i64 4)) none).run Tryz.prog wv = .ok (.string ⟨(fourB (xw (fun j => j == 0) (i + 1) 0).toNat).toArray⟩) wv) := fun p hp wv => by
          rw [hp]; exact four_at (fun j => j == 0) (i + 1) 0 (i + 2) (by omega) 4 rfl 0 rfl wv
        have HX : Hid (∀ wv, Calls Tryz.prog 9 #[.int .u32 (((xw (fun j => j == 0) (i + 1) 0).toNat : Nat) : Int)] wv fun e w' => e = .returned (.string ⟨(fourB (xw (fun j => j == 0) (i + 1) 0).toNat).toArray⟩) ∧ Below wv.heap.size wv w') := fun wv => fourX _ _ _ wv
        have hxb : (xw (fun j => j == 0) (i + 1) 0).toNat < 4294967296 := by have := xw_bound (fun j => j == 0) (i + 1) 0; omega
        generalize fourB (xw (fun j => j == 0) (i + 1) 0).toNat = q at *
        generalize (xw (fun j => j == 0) (i + 1) 0).toNat = x at *
        clear ht
        go_wp2_with fail
        refine HA.out.mono ?_
        rintro e w2 ⟨p, rfl, HP, hps, ho2⟩
        have HB2 : Hid (Below wr.heap.size wr w2) := below_of_only ho2
        clear ho2
        go_wp2_with fail
        refine (HE.out _ (HF.out.below hf1 HB2.out)).mono ?_
        rintro e w3 ⟨rfl, hb3⟩
        have HB3 : Hid (Below wr.heap.size wr w3) := HB2.out.trans (hb3.mono HB2.out.size)
        clear hb3
        go_wp2_with fail
        refine (HB.out _ HB3.out).mono ?_
        rintro e w4 ⟨rfl, ho4⟩
        have HB4 : Hid (Below wr.heap.size wr w4) := HB3.out.trans ((below_of_only ho4).mono HB3.out.size)
        clear ho4
        have hsl := HS.out p HP.out
        have hqq : (q == q) = true := by simp
        obtain ⟨m, hpm⟩ : ∃ m, p.size = m := ⟨_, rfl⟩
        have hge : (4 : Int) ≤ (m : Int) := by omega
        clear hps
        have hw4 : IntKind.i64.wrap 4 = 4 := by decide
        have hgd : decide ((4 : Int) ≤ (m : Int)) = true := by simpa using hge
        go_wp2_with fail
        go_region_held3 (fun wv => Hid (Below wr.heap.size wr wv)) (first | exact HB4.out.drew | exact HB4.out.drew.trans (hb5.mono HB4.out.size)) (first | (go_at_call 9; refine (HX.out _).mono ?_; rintro e w5 ⟨rfl, hb5⟩))
        all_goals
          go_wp2
          go_ret
          exact ⟨rfl, HB4.out.drew.trans (hb5.mono HB4.out.size)⟩
      | true =>
        have HA : Hid (Calls Tryz.prog 6 #[.string (⟨#[116, 111, 58, 32]⟩ ++ ⟨tl.toArray⟩ ++ ⟨#[106, 97, 108, 32, 120, 55, 44, 32, 116, 111]⟩)] wr fun e w' => ∃ p : ByteArray, e = .returned (.tuple #[.string p, .int .i64 0, .int .i64 0]) ∧ Hid (p = ⟨(codeG (fun j => j == i) 0 (i + 1)).toArray⟩) ∧ p.size = 4 * (i + 1) ∧ Only (fun _ => False) wr w') := by
          have h := behind_good i hk mx wr HM.out HF.out hg
          have e : (⟨#[116, 111, 58, 32]⟩ ++ ⟨tl.toArray⟩ ++ ⟨#[106, 97, 108, 32, 120, 55, 44, 32, 116, 111]⟩ : ByteArray) = ⟨(preL ++ fillL i ++ jalL).toArray⟩ := by
            rw [← ht]; exact cat3 _ tl _
          rw [← e] at h
          exact h.mono fun e w' ⟨he, ho⟩ => ⟨_, he, rfl, by simp [ByteArray.size, codeG_len], ho⟩
        have HB : Hid (∀ wv : World, Below wr.heap.size wr wv → Calls Tryz.prog 6 #[.string (⟨tl.toArray⟩ ++ ⟨#[106, 97, 108, 32, 120, 55, 44, 32, 116, 111]⟩)] wv fun e w' => e = .returned (.tuple #[.string ⟨#[]⟩, .int .i64 6, .int .i64 ((i : Int) + 1)]) ∧ Only (fun _ => False) wv w') := by
          intro wv hb
          have h := behind_bad i hk mx wv (HM.out.below hb hg) (HF.out.below hf1 hb) (Nat.lt_of_lt_of_le hg hb.size)
          have e : (⟨tl.toArray⟩ ++ ⟨#[106, 97, 108, 32, 120, 55, 44, 32, 116, 111]⟩ : ByteArray) = ⟨(fillL i ++ jalL).toArray⟩ := by
            rw [← ht]; exact cat tl _
          rw [← e] at h
          exact h
        have HE : Hid (∀ d : Int, d = -4 * (i : Int) → ∀ wv : World, FormsAt wv → Calls Tryz.prog 11 #[.agg #[.int .i64 3, .int .i64 7, .int .i64 0, .int .i64 0, .int .i64 d]] wv fun e w' => e = .returned (.tuple #[.int .u32 (((xw (fun j => j == i) 0 i).toNat : Nat) : Int), .int .i64 0]) ∧ Below wv.heap.size wv w') := fun d hd wv hv =>
          enc_jal (fun j => j == i) 0 i d (by simp) (by omega) (by omega) (by omega) wv hv
        have HS : Hid (∀ (p : ByteArray), p = ⟨(codeG (fun j => j == i) 0 (i + 1)).toArray⟩ → ∀ wv, (Instr.slice 9 (.string p) (some (.int .i64 (4 * (i : Int)))) (some (.int .i64 (4 * (i : Int) + 4))) none).run Tryz.prog wv = .ok (.string ⟨(fourB (xw (fun j => j == i) 0 i).toNat).toArray⟩) wv) := fun p hp wv => by
          rw [hp]; exact four_at (fun j => j == i) 0 i (i + 1) (by omega) _ rfl _ rfl wv
        have HX : Hid (∀ wv, Calls Tryz.prog 9 #[.int .u32 (((xw (fun j => j == i) 0 i).toNat : Nat) : Int)] wv fun e w' => e = .returned (.string ⟨(fourB (xw (fun j => j == i) 0 i).toNat).toArray⟩) ∧ Below wv.heap.size wv w') := fun wv => fourX _ _ _ wv
        have hxb : (xw (fun j => j == i) 0 i).toNat < 4294967296 := by have := xw_bound (fun j => j == i) 0 i; omega
        generalize fourB (xw (fun j => j == i) 0 i).toNat = q at *
        generalize (xw (fun j => j == i) 0 i).toNat = x at *
        clear ht
        go_wp2_with fail
        refine HA.out.mono ?_
        rintro e w2 ⟨p, rfl, HP, hps, ho2⟩
        have HB2 : Hid (Below wr.heap.size wr w2) := below_of_only ho2
        clear ho2
        go_wp2_with fail
        refine (HE.out _ (by omega) _ (HF.out.below hf1 HB2.out)).mono ?_
        rintro e w3 ⟨rfl, hb3⟩
        have HB3 : Hid (Below wr.heap.size wr w3) := HB2.out.trans (hb3.mono HB2.out.size)
        clear hb3
        go_wp2_with fail
        refine (HB.out _ HB3.out).mono ?_
        rintro e w4 ⟨rfl, ho4⟩
        have HB4 : Hid (Below wr.heap.size wr w4) := HB3.out.trans ((below_of_only ho4).mono HB3.out.size)
        clear ho4
        have hsl := HS.out p HP.out
        have hqq : (q == q) = true := by simp
        obtain ⟨m, hpm⟩ : ∃ m, p.size = m := ⟨_, rfl⟩
        have hge : 4 * (i : Int) + 4 ≤ (m : Int) := by omega
        have hz0 : 0 ≤ 4 * (i : Int) := by omega
        have hz1 : 4 * (i : Int) ≤ 3600 := by omega
        clear hps
        go_wp2_with fail
        generalize 4 * (i : Int) = z at hsl hge hz0 hz1 ⊢
        have hwz : IntKind.i64.wrap (z + 4) = z + 4 := by rw [IntKind.wrap_i64]; omega
        have hgd : decide (z + 4 ≤ (m : Int)) = true := by simpa using hge
        go_region_held3 (fun wv => Hid (Below wr.heap.size wr wv)) (first | exact HB4.out.drew | exact HB4.out.drew.trans (hb5.mono HB4.out.size)) (first | (go_at_call 9; refine (HX.out _).mono ?_; rintro e w5 ⟨rfl, hb5⟩))
        all_goals
          go_wp2
          go_ret
          exact ⟨rfl, HB4.out.drew.trans (hb5.mono HB4.out.size)⟩
end Go.Proofs.YtmfookpigilccaaGreatDoor

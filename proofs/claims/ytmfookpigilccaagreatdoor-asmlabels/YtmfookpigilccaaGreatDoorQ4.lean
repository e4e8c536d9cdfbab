/- Walks of package asm's reader: register, numberOf, number, target. -/
import Derived.Test.YtmfookpigilccaaGreatDoorQ3
import Derived.Test.YtmfookpigilccaaGreatDoorP1
import Derived.Test.YtmfookpigilccaaGreatDoorShelf
namespace Go.Proofs.YtmfookpigilccaaGreatDoor
open Go.ChangeShapes Go.WideShapes Go.ChangeAt Go.RowKit
open Go.Vx (tokB tokF spanN strV labB labN digitB Only)

theorem atoi_reg (n : Nat) (hn : n < 32) (w : World) :
    Calls Tryz.prog 96 #[.string ⟨(Lib.decDigits n).toArray⟩] w fun e w' => e = .returned (.tuple #[.int .i64 n, .nilIface]) ∧ Only (fun _ => False) w w' := by
  have hl : (ByteArray.mk (Lib.decDigits n).toArray).size ≤ 9223372036854775806 := by
    have : (ByteArray.mk (Lib.decDigits n).toArray).size = (Lib.decDigits n).length := by simp [ByteArray.size]
    rw [this, Lib.decDigits_length]
    have := nDigits_le n (by omega)
    omega
  refine (Tryz.strconv_Atoi_ok ⟨(Lib.decDigits n).toArray⟩ hl n (Vx.reg_atoi n hn) w).mono ?_
  rintro e w' ⟨rfl, rfl | ⟨t, rfl⟩⟩
  · exact ⟨rfl, Only.refl _ _⟩
  · exact ⟨rfl, Only.bytes _ _ _ _⟩
theorem parse_any (n : Nat) (hn : n < 18446744073709551616) (w : World) :
    Calls Tryz.prog 103 #[.string ⟨(Lib.decDigits n).toArray⟩, .int .i64 10, .int .i64 64] w fun e w' => e = .returned (.tuple #[.int .u64 n, .nilIface]) ∧ Only (fun _ => False) w w' := by
  have hl : (ByteArray.mk (Lib.decDigits n).toArray).size ≤ 9223372036854775806 := by
    have : (ByteArray.mk (Lib.decDigits n).toArray).size = (Lib.decDigits n).length := by simp [ByteArray.size]
    rw [this, Lib.decDigits_length]
    have := nDigits_le n hn
    omega
  refine (Tryz.strconv_ParseUint_10_at64_ok ⟨(Lib.decDigits n).toArray⟩ hl n (Vx.parse64 n hn) w).mono ?_
  rintro e w' ⟨rfl, rfl | rfl⟩
  · exact ⟨rfl, Only.refl _ _⟩
  · exact ⟨rfl, Only.bytes _ _ _ _⟩
theorem trim_any (l p : List UInt8) (w : World) :
    Calls Tryz.prog 97 #[.string ⟨l.toArray⟩, .string ⟨p.toArray⟩] w fun e w' => e = .returned (.string ⟨(Lib.trimPrefix l p).toArray⟩) ∧ w' = w := Tryz.strings_TrimPrefix ⟨l.toArray⟩ ⟨p.toArray⟩ w
theorem cutp_any (l p : List UInt8) (w : World) :
    Calls Tryz.prog 102 #[.string ⟨l.toArray⟩, .string ⟨p.toArray⟩] w fun e w' => e = .returned (.tuple #[.string ⟨(Lib.trimPrefix l p).toArray⟩, .bool (Lib.hasPrefix l p)]) ∧ w' = w := Tryz.strings_CutPrefix ⟨l.toArray⟩ ⟨p.toArray⟩ w

set_option maxRecDepth 100000 in
set_option maxHeartbeats 2000000 in
theorem register_ok (b n : Nat) (hn : n < 32) (ts : List (List UInt8)) (hl : ts.length ≤ 30000) (w : World) (h : RdAt w b ((120 :: Lib.decDigits n) :: ts)) :
    Calls Tryz.prog 81 #[.pointer (some ⟨b, 0, none⟩)] w fun e w' => e = .returned (.int .i64 n) ∧ RdAt w' b ts ∧ Only (fun k => k = b) w w' := by
  have HR : Hid (RdAt w b ((120 :: Lib.decDigits n) :: ts)) := h
  obtain ⟨ds, hds⟩ : ∃ ds, Lib.decDigits n = ds := ⟨_, rfl⟩
  have HDS : Hid (Lib.decDigits n = ds) := hds
  have HTX : Hid (Lib.trimPrefix (120 :: ds) [120] = ds) := Vx.trim_x ds
  have hdl : ds.length ≤ 20 := by rw [← hds, Lib.decDigits_length]; exact nDigits_le n (by omega)
  have h1 : ¬ (n : Int) < 0 := by omega
  have h2 : ¬ (31 : Int) < (n : Int) := by omega
  have hcat := cat [120] ds
  have hb : (120 :: ds == 120 :: ds) = true := by simp
  have hb2 : (120 :: ds != 120 :: ds) = false := by simp
  clear h hds
  go_enter Tryz.func81, Tryz.ntmps81
  go_wp2_with fail
  refine (next_some b _ ts hl _ HR.out).mono ?_
  rintro e w1 ⟨rfl, hr1, ho1⟩
  have H1 : Hid (RdAt w1 b ts ∧ Only (fun k => k = b) w w1) := ⟨hr1, ho1⟩
  rw [HDS.out]
  unfold strV
  clear hr1 ho1
  go_wp2_with fail
  refine (trim_any (120 :: ds) [120] _).mono ?_
  rintro e w2 ⟨rfl, rfl⟩
  rw [HTX.out]
  go_wp2_with fail
  have ha := atoi_reg n hn w2
  rw [HDS.out] at ha
  refine ha.mono ?_
  rintro e w3 ⟨rfl, ho3⟩
  have H3 : Hid (RdAt w3 b ts ∧ Only (fun k => k = b) w w3) := ⟨H1.out.1.only ho3 (fun _ _ h => h), H1.out.2.trans (ho3.mono fun _ _ h => h.elim)⟩
  clear ha ho3 H1
  go_wp2_with fail
  have hi := Tryz.strconv_Itoa_small n (by omega) w3
  rw [HDS.out] at hi
  refine hi.mono ?_
  rintro e w4 ⟨rfl, rfl⟩
  clear hi
  go_wp2
  go_ret
  exact ⟨rfl, H3.out⟩

set_option maxRecDepth 100000 in
set_option maxHeartbeats 2000000 in
theorem numberOf_ok (n : Int) (h0 : -4294967296 ≤ n) (h1 : n ≤ 4294967296) (w : World) :
    Calls Tryz.prog 95 #[.string ⟨(Lib.itoa n).toArray⟩] w fun e w' => e = .returned (.tuple #[.int .i64 n, .bool true]) ∧ Only (fun _ => False) w w' := by
  by_cases hneg : n < 0
  · obtain ⟨m, hm⟩ : ∃ m : Nat, n.natAbs = m := ⟨_, rfl⟩
    have hnm : n = -(m : Int) := by omega
    have hmb : m ≤ 4294967296 := by omega
    obtain ⟨ds, hds⟩ : ∃ ds, Lib.decDigits m = ds := ⟨_, rfl⟩
    have HDS : Hid (Lib.decDigits m = ds) := hds
    have hit : Lib.itoa n = 45 :: ds := by unfold Lib.itoa; rw [if_pos hneg, hm, hds]
    have hdl : ds.length ≤ 10 := by rw [← hds, Lib.decDigits_length]; exact Vx.nDigits_lt 9 m (by omega)
    have HT1 : Hid (Lib.trimPrefix (45 :: ds) [45] = ds) := Vx.trim_minus ds
    have HT2 : Hid (Lib.hasPrefix (45 :: ds) [45] = true) := Vx.has_minus ds
    have HT4 : Hid (Lib.hasPrefix ds [48, 120] = false) := by show _ = _; rw [← hds]; exact Vx.no_hex m
    have HT3 : Hid (Lib.trimPrefix ds [48, 120] = ds) := Vx.trim_no HT4.out
    rw [hit]
    have HNM : Hid (n = -(m : Int)) := hnm
    clear hit hds hnm hm hneg h0 h1
    go_enter Tryz.func95, Tryz.ntmps95
    go_wp2_with fail
    refine (cutp_any (45 :: ds) [45] _).mono ?_
    rintro e w2 ⟨rfl, rfl⟩
    rw [HT1.out, HT2.out]
    go_wp2_with fail
    refine (cutp_any ds [48, 120] _).mono ?_
    rintro e w2 ⟨rfl, rfl⟩
    rw [HT3.out, HT4.out]
    go_wp2_with fail
    have hp := parse_any m (by omega) w2
    rw [HDS.out] at hp
    refine hp.mono ?_
    rintro e w3 ⟨rfl, ho3⟩
    have H3 : Hid (Only (fun _ => False) w2 w3) := ho3
    clear hp ho3
    go_wp2
    go_ret2
    refine ⟨?_, H3.out⟩
    rw [HNM.out]; rfl
  · obtain ⟨m, hm⟩ : ∃ m : Nat, n.toNat = m := ⟨_, rfl⟩
    have hnm : n = (m : Int) := by omega
    have hmb : m ≤ 4294967296 := by omega
    obtain ⟨ds, hds⟩ : ∃ ds, Lib.decDigits m = ds := ⟨_, rfl⟩
    have HDS : Hid (Lib.decDigits m = ds) := hds
    have hit : Lib.itoa n = ds := by unfold Lib.itoa; rw [if_neg hneg, hm, hds]
    have hdl : ds.length ≤ 10 := by rw [← hds, Lib.decDigits_length]; exact Vx.nDigits_lt 9 m (by omega)
    have HT2 : Hid (Lib.hasPrefix ds [45] = false) := by show _ = _; rw [← hds]; exact Vx.no_minus m
    have HT1 : Hid (Lib.trimPrefix ds [45] = ds) := Vx.trim_no HT2.out
    have HT4 : Hid (Lib.hasPrefix ds [48, 120] = false) := by show _ = _; rw [← hds]; exact Vx.no_hex m
    have HT3 : Hid (Lib.trimPrefix ds [48, 120] = ds) := Vx.trim_no HT4.out
    rw [hit]
    have HNM : Hid (n = (m : Int)) := hnm
    clear hit hds hnm hm hneg h0 h1
    go_enter Tryz.func95, Tryz.ntmps95
    go_wp2_with fail
    refine (cutp_any ds [45] _).mono ?_
    rintro e w2 ⟨rfl, rfl⟩
    rw [HT1.out, HT2.out]
    go_wp2_with fail
    refine (cutp_any ds [48, 120] _).mono ?_
    rintro e w2 ⟨rfl, rfl⟩
    rw [HT3.out, HT4.out]
    go_wp2_with fail
    have hp := parse_any m (by omega) w2
    rw [HDS.out] at hp
    refine hp.mono ?_
    rintro e w3 ⟨rfl, ho3⟩
    have H3 : Hid (Only (fun _ => False) w2 w3) := ho3
    clear hp ho3
    go_wp2
    go_ret2
    refine ⟨?_, H3.out⟩
    rw [HNM.out]; rfl

theorem number_ok (b : Nat) (n : Int) (h0 : -4294967296 ≤ n) (h1 : n ≤ 4294967296) (ts : List (List UInt8)) (hl : ts.length ≤ 30000) (w : World) (h : RdAt w b (Lib.itoa n :: ts)) :
    Calls Tryz.prog 80 #[.pointer (some ⟨b, 0, none⟩)] w fun e w' => e = .returned (.int .i64 n) ∧ RdAt w' b ts ∧ Only (fun k => k = b) w w' := by
  have HR : Hid (RdAt w b (Lib.itoa n :: ts)) := h
  clear h
  go_enter Tryz.func80, Tryz.ntmps80
  go_wp2_with fail
  refine (next_some b _ ts hl _ HR.out).mono ?_
  rintro e w1 ⟨rfl, hr1, ho1⟩
  have H1 : Hid (RdAt w1 b ts ∧ Only (fun k => k = b) w w1) := ⟨hr1, ho1⟩
  unfold strV
  clear hr1 ho1
  go_wp2_with fail
  refine (numberOf_ok n h0 h1 _).mono ?_
  rintro e w3 ⟨rfl, ho3⟩
  have H3 : Hid (RdAt w3 b ts ∧ Only (fun k => k = b) w w3) := ⟨H1.out.1.only ho3 (fun _ _ h => h), H1.out.2.trans (ho3.mono fun _ _ h => h.elim)⟩
  clear ho3 H1
  go_wp2
  go_ret
  exact ⟨rfl, H3.out⟩
theorem target_num (b : Nat) (n : Int) (h0 : -4294967296 ≤ n) (h1 : n ≤ 4294967296) (ts : List (List UInt8)) (hl : ts.length ≤ 30000) (w : World) (h : RdAt w b (Lib.itoa n :: ts)) :
    Calls Tryz.prog 98 #[.pointer (some ⟨b, 0, none⟩)] w fun e w' => e = .returned (.tuple #[.int .i64 n, strV []]) ∧ RdAt w' b ts ∧ Only (fun k => k = b) w w' := by
  have HR : Hid (RdAt w b (Lib.itoa n :: ts)) := h
  clear h
  obtain ⟨c, l, hcl⟩ : ∃ c l, Lib.itoa n = c :: l := by
    cases hl : Lib.itoa n with
    | nil => unfold Lib.itoa at hl; split at hl; cases hl; exact absurd hl (Vx.dec_ne _)
    | cons c l => exact ⟨c, l, rfl⟩
  have HCL : Hid (Lib.itoa n = c :: l) := hcl
  have hlen : l.length ≤ 20000 := by
    have : (Lib.itoa n).length ≤ 21 := by
      unfold Lib.itoa
      split
      · have := nDigits_le n.natAbs (by omega); rw [List.length_cons, Lib.decDigits_length]; omega
      · have := nDigits_le n.toNat (by omega); rw [Lib.decDigits_length]; omega
    rw [hcl, List.length_cons] at this; omega
  have HLN : Hid (labN (c :: l) = false) := by show _ = _; rw [← hcl]; exact Vx.itoa_lab n
  clear hcl
  go_enter Tryz.func98, Tryz.ntmps98
  go_wp2_with fail
  refine (next_some b _ ts hl _ HR.out).mono ?_
  rintro e w1 ⟨rfl, hr1, ho1⟩
  have H1 : Hid (RdAt w1 b ts ∧ Only (fun k => k = b) w w1) := ⟨hr1, ho1⟩
  rw [HCL.out]
  unfold strV
  clear hr1 ho1
  go_wp2_with fail
  refine (isName_any c l hlen _).mono ?_
  rintro e w2 ⟨rfl, rfl⟩
  rw [HLN.out]
  go_wp2_with fail
  have hno := numberOf_ok n h0 h1 w2
  rw [HCL.out] at hno
  refine hno.mono ?_
  rintro e w3 ⟨rfl, ho3⟩
  have H3 : Hid (RdAt w3 b ts ∧ Only (fun k => k = b) w w3) := ⟨H1.out.1.only ho3 (fun _ _ h => h), H1.out.2.trans (ho3.mono fun _ _ h => h.elim)⟩
  clear ho3 H1 hno
  go_wp2
  go_ret2
  exact ⟨rfl, H3.out⟩
theorem target_lab (b : Nat) (c : UInt8) (l : List UInt8) (hn : labN (c :: l) = true) (hlen : l.length ≤ 20000) (ts : List (List UInt8)) (hl : ts.length ≤ 30000) (w : World) (h : RdAt w b ((c :: l) :: ts)) :
    Calls Tryz.prog 98 #[.pointer (some ⟨b, 0, none⟩)] w fun e w' => e = .returned (.tuple #[.int .i64 0, strV (c :: l)]) ∧ RdAt w' b ts ∧ Only (fun k => k = b) w w' := by
  have HR : Hid (RdAt w b ((c :: l) :: ts)) := h
  have HLN : Hid (labN (c :: l) = true) := hn
  clear h hn
  go_enter Tryz.func98, Tryz.ntmps98
  go_wp2_with fail
  refine (next_some b _ ts hl _ HR.out).mono ?_
  rintro e w1 ⟨rfl, hr1, ho1⟩
  have H1 : Hid (RdAt w1 b ts ∧ Only (fun k => k = b) w w1) := ⟨hr1, ho1⟩
  unfold strV
  clear hr1 ho1
  go_wp2_with fail
  refine (isName_any c l hlen _).mono ?_
  rintro e w2 ⟨rfl, rfl⟩
  rw [HLN.out]
  go_wp2
  go_ret2
  exact ⟨rfl, H1.out⟩
end Go.Proofs.YtmfookpigilccaaGreatDoor

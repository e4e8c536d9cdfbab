/- Walks of package asm's tokens. -/
import Derived.Test.YtmfookpigilccaaGreatDoorP0
import Derived.Lib.IndexBytes
namespace Go.Proofs.YtmfookpigilccaaGreatDoor
open Go.ChangeShapes Go.WideShapes Go.ChangeAt Go.RowKit
open Go.Vx (tokB tokF spanN strV labB labN digitB)

theorem isTokenByte_any (c : UInt8) (w : World) :
    Calls Tryz.prog 78 #[.int .u8 (c.toNat : Int)] w fun e w' => e = .returned (.bool (tokB c)) ∧ w' = w := by
  have HT : Hid (tokB c = _) := Vx.tokB_num c
  generalize c.toNat = n at HT
  generalize tokB c = b at HT
  go_enter Tryz.func78, Tryz.ntmps78
  go_wp2
  all_goals
    go_ret
    refine ⟨?_, rfl⟩
    rw [HT.out]
    refine ret_val (congrArg Value.bool ?_)
    rw [Bool.eq_iff_iff]
    simp
    omega
theorem isDigit_any (c : UInt8) (w : World) :
    Calls Tryz.prog 79 #[.int .u8 (c.toNat : Int)] w fun e w' => e = .returned (.bool (digitB c)) ∧ w' = w := by
  have HT : Hid (digitB c = (decide (48 ≤ (c.toNat : Int)) && decide ((c.toNat : Int) ≤ 57))) := by
    show digitB c = _
    unfold digitB
    rw [Bool.eq_iff_iff]
    simp [UInt8.le_iff_toNat_le]
    omega
  generalize c.toNat = n at HT
  generalize digitB c = b at HT
  go_enter Tryz.func79, Tryz.ntmps79
  go_wp2
  all_goals
    go_ret
    refine ⟨?_, rfl⟩
    rw [HT.out]
    refine ret_val (congrArg Value.bool ?_)
    rw [Bool.eq_iff_iff]
    simp
    omega
theorem Tryz.infoStr : (Tryz.prog.info? 9).map (fun i => (i.zero, i.size, i.bytes)) = some (some (.string ⟨#[]⟩), 1, 16) := by kernel_rfl
theorem extract_mid (l : List UInt8) (a n : Nat) : (⟨l.toArray⟩ : ByteArray).extract a (a + n) = ⟨((l.drop a).take n).toArray⟩ := by
  apply ByteArray.ext
  apply Array.ext'
  rw [Lib.extract_data]
  simp
theorem slice_at (p : ByteArray) (l : List UInt8) (hp : p = ⟨l.toArray⟩) (a b : Nat) (h1 : a ≤ b) (h2 : b ≤ l.length) (z : Int) (hz : z = (b : Int)) (wv : World) :
    (Instr.slice 9 (.string p) (some (.int .i64 (a : Int))) (some (.int .i64 z)) none).run Tryz.prog wv = .ok (.string ⟨((l.drop a).take (b - a)).toArray⟩) wv := by
  have hs : p.size = l.length := by rw [hp]; simp [ByteArray.size]
  have h := run_slice_string (P := Tryz.prog) wv 9 p .i64 .i64 (a : Int) z Tryz.underlying9 (by omega) (by omega) (by omega)
  rw [h, hz]
  have e := extract_mid l a (b - a)
  rw [← hp, show a + (b - a) = b by omega] at e
  simp only [Int.toNat_natCast, e]
/-- A round's growth of the row of tokens. -/
theorem tok_push {B : Nat} {w wr w2 : World} {v v' : Value} {xs : List (List UInt8)} {s : List UInt8} {o : Obj}
    (hB : Below B w wr) (hb : B ≤ wr.heap.size) (hown : wr.ownsRow B 9 1 v xs.length (xs.map strV))
    (hown' : w2.ownsRow B 9 1 v' (xs.length + 1) (xs.map strV ++ [strV s])) (hg : (wr.alloc o).grownBy w2 v.ownBlock) :
    w2.ownsRow B 9 1 v' (xs ++ [s]).length ((xs ++ [s]).map strV) ∧ Below B w w2 ∧ B ≤ w2.heap.size := by
  have hB2 : Below B w w2 := (hB.alloc hb o).grown hg (by simp; omega) (fun k hk => (hown.lt k hk).1)
  refine ⟨by simpa using hown', hB2, ?_⟩
  have := hg.size
  simp at this
  omega


set_option maxRecDepth 20000 in
set_option maxHeartbeats 1000000 in
theorem tokenLen_any (t : List UInt8) (ht : t.length ≤ 20000) (w : World) :
    Calls Tryz.prog 56 #[.string ⟨t.toArray⟩] w fun e w' => e = .returned (.int .i64 (max (spanN t) 1 : Nat)) ∧ w' = w := by
  obtain ⟨p, hp⟩ : ∃ p : ByteArray, p = ⟨t.toArray⟩ := ⟨_, rfl⟩
  have hps : p.size = t.length := by rw [hp]; simp [ByteArray.size]
  have Hp : Hid (p = ⟨t.toArray⟩) := hp
  obtain ⟨z, hz⟩ : ∃ z, spanN t = z := ⟨_, rfl⟩
  have hzt : z ≤ t.length := by rw [← hz]; exact Vx.spanN_le t
  have HZ : Hid (0 + spanN (t.drop 0) = z) := by show _ = _; simpa using hz
  rw [← hp, hz]
  clear hp hz
  go_enter Tryz.func56, Tryz.ntmps56
  go_wp2
  go_loop [3] (fun i => ∃ j : Nat, j ≤ z ∧ i = .int .i64 j ∧ Hid (j + spanN (t.drop j) = z)) (fun i => t.length - (intOf i).toNat)
  case atStart => exact ⟨0, by omega, rfl, HZ⟩
  case round =>
    obtain ⟨j, hjm, rfl, HJ⟩ := hrel
    by_cases hjt : j < t.length
    · obtain ⟨d, hd⟩ : ∃ d, t[j] = d := ⟨_, rfl⟩
      have hidx2 := index_sign p t j Hp.out hjt
      rw [hd] at hidx2
      have hr := HJ.out
      rw [Vx.spanN_step t j hjt, hd] at hr
      cases htb : tokB d with
      | true =>
        rw [htb, if_pos rfl] at hr
        have HTB : Hid (tokB d = true) := htb
        have HJ2 : Hid ((j + 1) + spanN (t.drop (j + 1)) = z) := by show _ = _; omega
        have hjz : j < z := by omega
        clear hd hr HJ htb
        go_wp2_with fail
        refine (isTokenByte_any d _).mono ?_
        rintro e w2 ⟨rfl, rfl⟩
        rw [HTB.out]
        go_wp2
        go_round
        case rel => exact ⟨j + 1, by omega, by go_num, HJ2⟩
        case measure => simp [intOf]; omega
      | false =>
        have HTB : Hid (tokB d = false) := htb
        have hjz : j = z := by rw [htb] at hr; simpa using hr
        subst hjz
        clear hd hr HJ htb
        go_wp2_with fail
        refine (isTokenByte_any d _).mono ?_
        rintro e w2 ⟨rfl, rfl⟩
        rw [HTB.out]
        go_wp2
        all_goals
          go_ret
          refine ⟨?_, rfl⟩
          refine ret_int ?_
          omega
    · have hjz : j = z := by omega
      subst hjz
      clear HJ
      go_wp2
      all_goals
        go_ret
        refine ⟨?_, rfl⟩
        refine ret_int ?_
        omega
end Go.Proofs.YtmfookpigilccaaGreatDoor

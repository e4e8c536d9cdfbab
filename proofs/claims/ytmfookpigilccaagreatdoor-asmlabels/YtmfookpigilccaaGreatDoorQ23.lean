/- AsmRound: the walk. -/
import Derived.Test.YtmfookpigilccaaGreatDoorQ22
namespace Go.Proofs.YtmfookpigilccaaGreatDoor
open Go.ChangeShapes Go.WideShapes Go.ChangeAt Go.RowKit Go.Maps
open Go.Vx (Only fourB)

theorem cat_nl (a b : List UInt8) : (⟨a.toArray⟩ : ByteArray) ++ ⟨b.toArray⟩ ++ ⟨#[10]⟩ = ⟨(a ++ b ++ [10]).toArray⟩ := by
  rw [cat a b]; exact cat (a ++ b) [10]
theorem below_of_only {w w' : World} (h : Only (fun _ => False) w w') : Below w.heap.size w w' := h.below (Nat.le_refl _) (fun _ _ h => h)
theorem MaxAt.below {mx : Int} {B : Nat} {w w' : World} (h : MaxAt mx w) (hb : Below B w w') (hB : 1 < B) : MaxAt mx w' := by
  unfold MaxAt
  rw [hb.cell (p := ⟨1, 0, none⟩) hB]
  exact h
set_option maxRecDepth 100000 in
set_option maxHeartbeats 4000000 in
theorem asmRound_walk (zs : List Nat) (hz : ∀ x ∈ zs, x < 4294967296) (pa : Option Addr) (cap : Nat) (hcap : zs.length ≤ cap) (hc63 : cap ≤ 9223372036854775807) (mx : Int) (w : World) (hcell : zs = [] ∨ ∃ a, pa = some a ∧ ∀ (j : Nat) (h : j < zs.length), w.cell? (a.add j) = some (.int .u32 (zs[j] : Int)))
    (hF : FormsAt w) (hP : PowAt w) (hm : MaxAt mx w) (hg : 1 < w.heap.size) :
    Calls Tryz.prog 4 #[.slice pa zs.length cap] w fun e w' => e = .returned (.bool true) ∧ Below w.heap.size w w' := by
  have HF : Hid (FormsAt w) := hF
  have HP : Hid (PowAt w) := hP
  have HM : Hid (MaxAt mx w) := hm
  have HZ : Hid (∀ x ∈ zs, x < 4294967296) := hz
  have HC : Hid (zs = [] ∨ ∃ a, pa = some a ∧ ∀ (j : Nat) (h : j < zs.length), w.cell? (a.add j) = some (.int .u32 (zs[j] : Int))) := hcell
  have hf1 := hF.1
  have hp1 := hP.size
  clear hF hP hm hz hcell
  obtain ⟨n, hn⟩ : ∃ n, zs.length = n := ⟨_, rfl⟩
  rw [hn]
  have HN : Hid (zs.length = n) := hn
  have hn63 : n ≤ 9223372036854775807 := by omega
  clear hn hcap
  go_enter Tryz.func4, Tryz.ntmps4
  go_wp2_with fail
  refine (text_any 5243027 (by decide) _ HF.out HP.out).mono ?_
  rintro e w1 ⟨rfl, hb1⟩
  have HB1 : Hid (Below w.heap.size w w1) := hb1
  have hs1 : w.heap.size ≤ w1.heap.size := hb1.size
  obtain ⟨ta, hta⟩ : ∃ ta, textW 5243027 = ta := ⟨_, rfl⟩
  have htl : ta.length ≤ 60 := by rw [← hta]; exact (plain_word 5243027 (by decide)).2.2
  have HTA : Hid (textW 5243027 = ta) := hta
  rw [hta]
  clear hb1 hta
  go_wp2_with fail
  refine (fourK_any 5243027 (by decide) _).mono ?_
  rintro e w2 ⟨rfl, hb2⟩
  have HB2 : Hid (Below w.heap.size w w2) := HB1.out.trans (hb2.mono hs1)
  have hs2 : w.heap.size ≤ w2.heap.size := Nat.le_trans hs1 hb2.size
  clear hb2
  go_wp2_with fail
  go_loopw [3, 4, 5] (fun t q k' wr => ∃ k : Nat, ∃ tl ql : List UInt8, k ≤ n ∧ k ≤ 300 ∧ t = .string ⟨tl.toArray⟩ ∧ q = .string ⟨ql.toArray⟩ ∧ k' = .int .i64 k ∧ Hid (tl = flatW (5243027 :: zs.take k) ∧ ql = flatB (5243027 :: zs.take k)) ∧ tl.length ≤ 61 * (k + 1) ∧ ql.length ≤ 4 * (k + 1) ∧ Below w.heap.size w wr ∧ w.heap.size ≤ wr.heap.size) (fun _ _ k' _ => n - (intOf k').toNat)
  case atStart =>
    refine ⟨0, ta ++ [10], fourB 5243027, by omega, by omega, ?_, rfl, rfl, ⟨?_, ?_⟩, by simp; omega, by show 4 ≤ _; omega, HB2.out, hs2⟩
    · exact congrArg Value.string (cat ta [10])
    · rw [← HTA.out]; simp [flatW]
    · simp [flatB]
  case round =>
    obtain ⟨k, tl, ql, hkn, hk3, rfl, rfl, rfl, HT, htl2, hql2, hbel, hbs⟩ := hrel
    have HB : Hid (Below w.heap.size w wr) := hbel
    clear hbel
    by_cases hlt : k < n ∧ k < 300
    · have h1 : (k : Int) < (n : Int) := by omega
      have h2 : (k : Int) < 300 := by omega
      have hidx : 0 ≤ (k : Int) ∧ (k : Int) < (n : Int) := by omega
      have hkz : k < zs.length := by have := HN.out; omega
      obtain ⟨a, rfl, hcz⟩ : ∃ a, pa = some a ∧ ∀ (j : Nat) (h : j < zs.length), w.cell? (a.add j) = some (.int .u32 (zs[j] : Int)) := by
        rcases HC.out with h | h
        · rw [h] at hkz; simp at hkz
        · exact h
      have hck := hcz k hkz
      have hblk : (a.add k).block < w.heap.size := World.block_lt_of_cell? w _ hck
      have hcr : wr.cell? (a.add k) = some (.int .u32 (zs[k] : Int)) := by rw [HB.out.cell hblk]; exact hck
      obtain ⟨x, hx⟩ : ∃ x, zs[k] = x := ⟨_, rfl⟩
      rw [hx] at hcr
      have hxl : x < 4294967296 := by rw [← hx]; exact HZ.out _ (List.getElem_mem _)
      have HTK : Hid (zs.take (k + 1) = zs.take k ++ [x]) := by show _ = _; rw [Vx.take_snoc zs k hkz, hx]
      clear hck hcz hx hlt
      go_wp2_with fail
      refine (text_any x hxl _ (HF.out.below hf1 HB.out) (HP.out.below HB.out hp1)).mono ?_
      rintro e w3 ⟨rfl, hb3⟩
      have HB3 : Hid (Below w.heap.size w w3) := HB.out.trans (hb3.mono hbs)
      have hs3 : w.heap.size ≤ w3.heap.size := Nat.le_trans hbs hb3.size
      have hc3 : w3.cell? (a.add k) = some (.int .u32 (x : Int)) := by rw [hb3.cell (Nat.lt_of_lt_of_le hblk hbs)]; exact hcr
      have hxt : (textW x).length ≤ 60 := (plain_word x hxl).2.2
      have HT3 : Hid (tl ++ textW x ++ [10] = flatW (5243027 :: zs.take (k + 1)) ∧ ql ++ fourB x = flatB (5243027 :: zs.take (k + 1))) := by
        obtain ⟨t1, t2⟩ := HT.out
        rw [HTK.out, t1, t2, ← List.cons_append, flatW_snoc, flatB_snoc]
        exact ⟨rfl, rfl⟩
      clear hb3 HT HTK
      generalize textW x = tx at *
      go_wp2_with fail
      refine (fourK_any x hxl _).mono ?_
      rintro e w4 ⟨rfl, hb4⟩
      have HB4 : Hid (Below w.heap.size w w4) := HB3.out.trans (hb4.mono hs3)
      have hs4 : w.heap.size ≤ w4.heap.size := Nat.le_trans hs3 hb4.size
      have hfl : (fourB x).length = 4 := rfl
      clear hb4 hc3
      generalize fourB x = fx at *
      go_wp2_with fail
      go_roundw
      case rel => exact ⟨k + 1, tl ++ tx ++ [10], ql ++ fx, by omega, by omega, congrArg Value.string (cat_nl tl tx), congrArg Value.string (cat ql fx), by go_num, HT3, by simp only [List.length_append, List.length_cons, List.length_nil]; omega, by simp only [List.length_append]; omega, HB4.out, hs4⟩
      case measure => simp [intOf]; omega
    · have hke : Hid (zs.take k = zs.take 300) := by
        show zs.take k = zs.take 300
        have hzn := HN.out
        by_cases h3 : k = 300
        · rw [h3]
        · rw [List.take_of_length_le (by omega), List.take_of_length_le (by omega)]
      have HWS : Hid (∀ y ∈ 5243027 :: zs.take k, y < 4294967296) := by
        intro y hy
        rw [List.mem_cons] at hy
        rcases hy with rfl | hy
        · decide
        · exact HZ.out y (List.mem_of_mem_take hy)
      obtain ⟨t1, t2⟩ := HT.out
      have HAS : Hid (Calls Tryz.prog 6 #[.string ⟨tl.toArray⟩] wr fun e w' => e = .returned (.tuple #[.string ⟨ql.toArray⟩, .int .i64 0, .int .i64 0]) ∧ Only (fun _ => False) wr w') := by
        have h := asm_words (5243027 :: zs.take k) (by simp) (by simp; omega) HWS.out mx wr (HM.out.below HB.out hg) (HF.out.below hf1 HB.out) (by omega)
        rw [← t1, ← t2] at h
        exact h
      clear t1 t2 HT
      have hqq : (ql == ql) = true := by simp
      by_cases h1 : (k : Int) < (n : Int)
      · have h2 : ¬ (k : Int) < 300 := by omega
        clear hlt
        go_wp2_with fail
        refine HAS.out.mono ?_
        rintro e w5 ⟨rfl, ho5⟩
        have HB5 : Hid (Below w.heap.size w w5) := HB.out.trans ((below_of_only ho5).mono hbs)
        clear ho5
        go_wp2_with fail
        go_ret
        exact ⟨rfl, HB5.out⟩
      · clear hlt
        go_wp2_with fail
        refine HAS.out.mono ?_
        rintro e w5 ⟨rfl, ho5⟩
        have HB5 : Hid (Below w.heap.size w w5) := HB.out.trans ((below_of_only ho5).mono hbs)
        clear ho5
        go_wp2_with fail
        go_ret
        exact ⟨rfl, HB5.out⟩
end Go.Proofs.YtmfookpigilccaaGreatDoor

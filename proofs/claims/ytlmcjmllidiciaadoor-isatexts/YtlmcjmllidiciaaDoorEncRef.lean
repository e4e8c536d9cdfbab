/- Plain mathematics: the word that a picture makes of an instruction. -/
import Derived.Test.YtlmcjmllidiciaaDoorEnc
namespace Go.Vx

def encF (i : Ins) : List UInt8 → Int → Int → Int → Int → Int
  | [], w, _, _, _ => w
  | c :: cs, w, d, s, t =>
    if c = 48 then encF i cs (2 * w) d s t
    else if c = 49 then encF i cs (2 * w + 1) d s t
    else if c = 68 then encF i cs (2 * w + i.rd / 2 ^ d.toNat % 2) (d - 1) s t
    else if c = 83 then encF i cs (2 * w + i.rs1 / 2 ^ s.toNat % 2) d (s - 1) t
    else if c = 84 then encF i cs (2 * w + i.rs2 / 2 ^ t.toNat % 2) d s (t - 1)
    else encF i cs (2 * w + i.imm / 2 ^ (c.toNat - 97) % 2) d s t

theorem int_mod_succ (y : Int) (n : Nat) : y % 2 ^ (n + 1) = y / 2 ^ n % 2 * 2 ^ n + y % 2 ^ n := by
  have hq : (0 : Int) < 2 ^ n := Int.pow_pos (by decide)
  rw [Int.pow_succ]
  generalize (2 : Int) ^ n = q at *
  have h1 := Int.mul_ediv_add_emod y q
  have h2 := Int.mul_ediv_add_emod (y / q) 2
  have h3 := Int.emod_nonneg y (Int.ne_of_gt hq)
  have h4 := Int.emod_lt_of_pos y hq
  have h5 : y / q % 2 = 0 ∨ y / q % 2 = 1 := by omega
  have e : y = (y / q % 2 * q + y % q) + q * 2 * (y / q / 2) := by
    conv => lhs; rw [← h1, ← h2]
    rw [Int.mul_add, ← Int.mul_assoc, Int.mul_comm q (y / q % 2)]
    omega
  conv => lhs; rw [e]
  rw [Int.add_mul_emod_self_left]
  apply Int.emod_eq_of_lt
  · rcases h5 with h | h <;> rw [h] <;> omega
  · rcases h5 with h | h <;> rw [h] <;> omega
theorem horner (w b r : Int) (n : Nat) : (2 * w + b) * 2 ^ n + r = w * 2 ^ (n + 1) + (b * 2 ^ n + r) := by
  rw [Int.add_mul, Int.pow_succ, Int.mul_comm (2 ^ n) 2, ← Int.mul_assoc, Int.mul_comm w 2]
  omega

theorem enc_rd (i : Ins) (cs : List UInt8) (s t : Int) (n : Nat) : ∀ w : Int, encF i (List.replicate n 68 ++ cs) w ((n : Int) - 1) s t = encF i cs (w * 2 ^ n + i.rd % 2 ^ n) (-1) s t := by
  induction n with
  | zero => intro w; simp [Int.emod_one]
  | succ n ih =>
    intro w
    have e : ((n + 1 : Nat) : Int) - 1 = n := by omega
    rw [List.replicate_succ, List.cons_append, encF, e]
    simp only [show ¬ ((68 : UInt8) = 48) by decide, show ¬ ((68 : UInt8) = 49) by decide, if_false, if_true, Int.toNat_natCast]
    rw [ih, horner, ← int_mod_succ]
theorem enc_rs1 (i : Ins) (cs : List UInt8) (d t : Int) (n : Nat) : ∀ w : Int, encF i (List.replicate n 83 ++ cs) w d ((n : Int) - 1) t = encF i cs (w * 2 ^ n + i.rs1 % 2 ^ n) d (-1) t := by
  induction n with
  | zero => intro w; simp [Int.emod_one]
  | succ n ih =>
    intro w
    have e : ((n + 1 : Nat) : Int) - 1 = n := by omega
    rw [List.replicate_succ, List.cons_append, encF, e]
    simp only [show ¬ ((83 : UInt8) = 48) by decide, show ¬ ((83 : UInt8) = 49) by decide, show ¬ ((83 : UInt8) = 68) by decide, if_false, if_true, Int.toNat_natCast]
    rw [ih, horner, ← int_mod_succ]
theorem enc_rs2 (i : Ins) (cs : List UInt8) (d s : Int) (n : Nat) : ∀ w : Int, encF i (List.replicate n 84 ++ cs) w d s ((n : Int) - 1) = encF i cs (w * 2 ^ n + i.rs2 % 2 ^ n) d s (-1) := by
  induction n with
  | zero => intro w; simp [Int.emod_one]
  | succ n ih =>
    intro w
    have e : ((n + 1 : Nat) : Int) - 1 = n := by omega
    rw [List.replicate_succ, List.cons_append, encF, e]
    simp only [show ¬ ((84 : UInt8) = 48) by decide, show ¬ ((84 : UInt8) = 49) by decide, show ¬ ((84 : UInt8) = 68) by decide, show ¬ ((84 : UInt8) = 83) by decide, if_false, if_true, Int.toNat_natCast]
    rw [ih, horner, ← int_mod_succ]
theorem enc_fix (i : Ins) (v : Nat) (cs : List UInt8) (d s t : Int) (n : Nat) : ∀ w : Int, encF i (fix n v ++ cs) w d s t = encF i cs (w * 2 ^ n + ((v % 2 ^ n : Nat) : Int)) d s t := by
  induction n with
  | zero => intro w; simp [fix, Nat.mod_one]
  | succ n ih =>
    intro w
    rw [fix, List.cons_append, encF]
    have hv : v / 2 ^ n % 2 = 0 ∨ v / 2 ^ n % 2 = 1 := by omega
    have em : ((v % 2 ^ (n + 1) : Nat) : Int) = ((v / 2 ^ n % 2 : Nat) : Int) * 2 ^ n + ((v % 2 ^ n : Nat) : Int) := by
      rw [mod_succ]; simp
    rw [em]
    rcases hv with h | h
    · rw [h]
      simp only [show ¬ ((0 : Nat) = 1) by decide, if_false, if_true]
      rw [ih]
      have := horner w 0 ((v % 2 ^ n : Nat) : Int) n
      rw [Int.add_zero] at this
      rw [this]
      rfl
    · rw [h]
      simp only [if_true, show ¬ ((49 : UInt8) = 48) by decide, if_false]
      rw [ih, horner]
      rfl
theorem enc_letters (i : Ins) (a : Nat) (cs : List UInt8) (d s t : Int) (m : Nat) (ha : a + m ≤ 26) : ∀ w : Int, encF i (letters a m ++ cs) w d s t = encF i cs (w * 2 ^ m + i.imm / 2 ^ a % 2 ^ m) d s t := by
  induction m with
  | zero => intro w; simp [letters, Int.emod_one]
  | succ m ih =>
    intro w
    have hc : (UInt8.ofNat (97 + a + m)).toNat = 97 + a + m := by
      rw [UInt8.toNat_ofNat']; exact Nat.mod_eq_of_lt (by omega)
    have hne : ∀ v : Nat, v < 97 → ¬ (UInt8.ofNat (97 + a + m) = UInt8.ofNat v) := by
      intro v hv h
      have := congrArg UInt8.toNat h
      rw [hc, UInt8.toNat_ofNat', Nat.mod_eq_of_lt (by omega)] at this
      omega
    rw [letters, List.cons_append, encF]
    rw [if_neg (show ¬ (UInt8.ofNat (97 + a + m) = 48) from hne 48 (by decide)), if_neg (show ¬ (UInt8.ofNat (97 + a + m) = 49) from hne 49 (by decide)), if_neg (show ¬ (UInt8.ofNat (97 + a + m) = 68) from hne 68 (by decide)), if_neg (show ¬ (UInt8.ofNat (97 + a + m) = 83) from hne 83 (by decide)), if_neg (show ¬ (UInt8.ofNat (97 + a + m) = 84) from hne 84 (by decide))]
    rw [ih (by omega), hc]
    have e1 : 97 + a + m - 97 = a + m := by omega
    rw [e1, horner, int_mod_succ (i.imm / 2 ^ a) m, Int.ediv_ediv_of_nonneg (Int.le_of_lt (Int.pow_pos (by decide))), ← Int.pow_add]

theorem enc_rd5 (i : Ins) (cs : List UInt8) (s t w : Int) : encF i (List.replicate 5 68 ++ cs) w 4 s t = encF i cs (w * 32 + i.rd % 32) (-1) s t := enc_rd i cs s t 5 w
theorem enc_rs15 (i : Ins) (cs : List UInt8) (d t w : Int) : encF i (List.replicate 5 83 ++ cs) w d 4 t = encF i cs (w * 32 + i.rs1 % 32) d (-1) t := enc_rs1 i cs d t 5 w
theorem enc_rs25 (i : Ins) (cs : List UInt8) (d s w : Int) : encF i (List.replicate 5 84 ++ cs) w d s 4 = encF i cs (w * 32 + i.rs2 % 32) d s (-1) := enc_rs2 i cs d s 5 w
theorem enc_kind (k f : Nat) (i : Ins) (hk : k ≤ 7) (hf : formOk k f = true) : encF i (picOf k f) 0 4 4 4 = f + regPart k i + spreadOf k (i.imm % 4294967296) := by
  have hk' : k = 0 ∨ k = 1 ∨ k = 2 ∨ k = 3 ∨ k = 4 ∨ k = 5 ∨ k = 6 ∨ k = 7 := by omega
  rcases hk' with rfl | rfl | rfl | rfl | rfl | rfl | rfl | rfl
  · simp only [formOk, beq_iff_eq] at hf
    simp only [picOf]
    rw [enc_fix]
    simp [encF, regPart, spreadOf]
    omega
  · simp only [formOk, beq_iff_eq] at hf
    simp only [picOf]
    rw [enc_letters _ _ _ _ _ _ _ (by decide), enc_rd5, enc_fix]
    simp only [encF]
    simp [regPart, spreadOf]
    omega
  · simp only [formOk, beq_iff_eq] at hf
    simp only [picOf]
    rw [enc_letters _ _ _ _ _ _ _ (by decide), enc_letters _ _ _ _ _ _ _ (by decide), enc_letters _ _ _ _ _ _ _ (by decide), enc_letters _ _ _ _ _ _ _ (by decide), enc_rd5, enc_fix]
    simp only [encF]
    simp [regPart, spreadOf]
    omega
  · simp only [formOk, beq_iff_eq] at hf
    simp only [picOf]
    rw [enc_letters _ _ _ _ _ _ _ (by decide), enc_rs15, enc_fix, enc_rd5, enc_fix]
    simp only [encF]
    simp [regPart, spreadOf]
    omega
  · simp only [formOk, beq_iff_eq] at hf
    simp only [picOf]
    rw [enc_fix, enc_letters _ _ _ _ _ _ _ (by decide), enc_rs15, enc_fix, enc_rd5, enc_fix]
    simp only [encF]
    simp [regPart, spreadOf]
    omega
  · simp only [formOk, beq_iff_eq] at hf
    simp only [picOf]
    rw [enc_fix, enc_rs25, enc_rs15, enc_fix, enc_rd5, enc_fix]
    simp only [encF]
    simp [regPart, spreadOf]
    omega
  · simp only [formOk, beq_iff_eq] at hf
    simp only [picOf]
    rw [enc_letters _ _ _ _ _ _ _ (by decide), enc_letters _ _ _ _ _ _ _ (by decide), enc_rs25, enc_rs15, enc_fix, enc_letters _ _ _ _ _ _ _ (by decide), enc_letters _ _ _ _ _ _ _ (by decide), enc_fix]
    simp only [encF]
    simp [regPart, spreadOf]
    omega
  · simp only [formOk, beq_iff_eq] at hf
    simp only [picOf]
    rw [enc_letters _ _ _ _ _ _ _ (by decide), enc_rs25, enc_rs15, enc_fix, enc_letters _ _ _ _ _ _ _ (by decide), enc_fix]
    simp only [encF]
    simp [regPart, spreadOf]
    omega
theorem enc_num (i : Ins) (h0 : 1 ≤ i.op) (h1 : i.op ≤ 48) : encF i (pic i.op) 0 4 4 4 = wordOf i := by
  rw [pic_eq i.op h0 h1, enc_kind _ _ _ (kindOf_le _) (form_ok i.op h0 h1)]
  rfl
theorem pics_counts : ∀ n : Fin 49, 1 ≤ n.val → (pics.getD n.val []).count 68 ≤ 5 ∧ (pics.getD n.val []).count 83 ≤ 5 ∧ (pics.getD n.val []).count 84 ≤ 5 := by decide +kernel
theorem pic_counts (op : Int) (h0 : 1 ≤ op) (h1 : op ≤ 48) : (pic op).count 68 ≤ 5 ∧ (pic op).count 83 ≤ 5 ∧ (pic op).count 84 ≤ 5 := pics_counts ⟨op.toNat, by omega⟩ (by show 1 ≤ op.toNat; omega)
end Go.Vx

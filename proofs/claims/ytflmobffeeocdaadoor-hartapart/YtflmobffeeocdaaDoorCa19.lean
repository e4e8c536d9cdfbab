import Derived.Test.YtflmobffeeocdaaDoorCa18
/- Plain mathematics of the document's pictures: what a picture makes of a word. -/
namespace Go.Vx

structure St where
  rd : Int
  rs1 : Int
  rs2 : Int
  imm : Int
  top : Int

/-- One sign of a picture, and the word's bit there. -/
def stepF (c : UInt8) (b : Int) (s : St) : Option St :=
  if c = 48 then (if b = 0 then some s else none)
  else if c = 49 then (if b = 1 then some s else none)
  else if c = 68 then some { s with rd := 2 * s.rd + b }
  else if c = 83 then some { s with rs1 := 2 * s.rs1 + b }
  else if c = 84 then some { s with rs2 := 2 * s.rs2 + b }
  else some { s with imm := s.imm + b * 2 ^ (c.toNat - 97), top := if s.top < (c.toNat : Int) - 97 then (c.toNat : Int) - 97 else s.top }
def goF (x : Nat) : List UInt8 → St → Option St
  | [], s => some s
  | c :: cs, s => match stepF c ((x / 2 ^ cs.length % 2 : Nat) : Int) s with
    | none => none
    | some s' => goF x cs s'
def s0 : St := ⟨0, 0, 0, 0, -1⟩

def fix : Nat → Nat → List UInt8
  | 0, _ => []
  | n + 1, v => (if v / 2 ^ n % 2 = 1 then 49 else 48) :: fix n v
def letters (a : Nat) : Nat → List UInt8
  | 0 => []
  | m + 1 => UInt8.ofNat (97 + a + m) :: letters a m
theorem fix_length (n v : Nat) : (fix n v).length = n := by
  induction n with
  | zero => rfl
  | succ n ih => simp [fix, ih]
theorem letters_length (a m : Nat) : (letters a m).length = m := by
  induction m with
  | zero => rfl
  | succ n ih => simp [letters, ih]

theorem mod_succ (y n : Nat) : y % 2 ^ (n + 1) = y / 2 ^ n % 2 * 2 ^ n + y % 2 ^ n := by
  rw [Nat.pow_succ, Nat.mod_mul, Nat.mul_comm, Nat.add_comm]

theorem go_rd (x : Nat) (cs : List UInt8) (n : Nat) : ∀ s : St, goF x (List.replicate n 68 ++ cs) s = goF x cs { s with rd := s.rd * 2 ^ n + ((x / 2 ^ cs.length % 2 ^ n : Nat) : Int) } := by
  induction n with
  | zero => intro s; simp [Nat.mod_one]
  | succ n ih =>
    intro s
    rw [List.replicate_succ, List.cons_append, goF]
    simp only [List.length_append, List.length_replicate, stepF]
    simp only [show ¬ ((68 : UInt8) = 48) by decide, show ¬ ((68 : UInt8) = 49) by decide, if_false, if_true]
    rw [ih, mod_succ, Nat.div_div_eq_div_mul, ← Nat.pow_add, Nat.add_comm cs.length n, Int.pow_succ]
    congr 2
    simp only [Int.natCast_add, Int.natCast_mul, Int.natCast_pow]
    rw [Int.add_mul, Int.mul_comm (2 ^ n) 2, ← Int.mul_assoc, Int.mul_comm s.rd 2, Int.add_assoc]
    rfl
theorem go_rs1 (x : Nat) (cs : List UInt8) (n : Nat) : ∀ s : St, goF x (List.replicate n 83 ++ cs) s = goF x cs { s with rs1 := s.rs1 * 2 ^ n + ((x / 2 ^ cs.length % 2 ^ n : Nat) : Int) } := by
  induction n with
  | zero => intro s; simp [Nat.mod_one]
  | succ n ih =>
    intro s
    rw [List.replicate_succ, List.cons_append, goF]
    simp only [List.length_append, List.length_replicate, stepF]
    simp only [show ¬ ((83 : UInt8) = 48) by decide, show ¬ ((83 : UInt8) = 49) by decide, show ¬ ((83 : UInt8) = 68) by decide, if_false, if_true]
    rw [ih, mod_succ, Nat.div_div_eq_div_mul, ← Nat.pow_add, Nat.add_comm cs.length n, Int.pow_succ]
    congr 2
    simp only [Int.natCast_add, Int.natCast_mul, Int.natCast_pow]
    rw [Int.add_mul, Int.mul_comm (2 ^ n) 2, ← Int.mul_assoc, Int.mul_comm s.rs1 2, Int.add_assoc]
    rfl
theorem go_rs2 (x : Nat) (cs : List UInt8) (n : Nat) : ∀ s : St, goF x (List.replicate n 84 ++ cs) s = goF x cs { s with rs2 := s.rs2 * 2 ^ n + ((x / 2 ^ cs.length % 2 ^ n : Nat) : Int) } := by
  induction n with
  | zero => intro s; simp [Nat.mod_one]
  | succ n ih =>
    intro s
    rw [List.replicate_succ, List.cons_append, goF]
    simp only [List.length_append, List.length_replicate, stepF]
    simp only [show ¬ ((84 : UInt8) = 48) by decide, show ¬ ((84 : UInt8) = 49) by decide, show ¬ ((84 : UInt8) = 68) by decide, show ¬ ((84 : UInt8) = 83) by decide, if_false, if_true]
    rw [ih, mod_succ, Nat.div_div_eq_div_mul, ← Nat.pow_add, Nat.add_comm cs.length n, Int.pow_succ]
    congr 2
    simp only [Int.natCast_add, Int.natCast_mul, Int.natCast_pow]
    rw [Int.add_mul, Int.mul_comm (2 ^ n) 2, ← Int.mul_assoc, Int.mul_comm s.rs2 2, Int.add_assoc]
    rfl
theorem go_fix (x v : Nat) (cs : List UInt8) (n : Nat) (s : St) : goF x (fix n v ++ cs) s = if x / 2 ^ cs.length % 2 ^ n = v % 2 ^ n then goF x cs s else none := by
  induction n with
  | zero => simp [fix, Nat.mod_one]
  | succ n ih =>
    rw [fix, List.cons_append, goF]
    have hL : (fix n v ++ cs).length = cs.length + n := by simp [fix_length, Nat.add_comm]
    rw [hL]
    rw [mod_succ (x / 2 ^ cs.length) n, mod_succ v n, Nat.div_div_eq_div_mul, ← Nat.pow_add]
    have h1 : x / 2 ^ cs.length % 2 ^ n < 2 ^ n := Nat.mod_lt _ (Nat.two_pow_pos n)
    have h2 : v % 2 ^ n < 2 ^ n := Nat.mod_lt _ (Nat.two_pow_pos n)
    generalize x / 2 ^ cs.length % 2 ^ n = A at *
    generalize v % 2 ^ n = B at *
    have hb : x / 2 ^ (cs.length + n) % 2 < 2 := Nat.mod_lt _ (by decide)
    have hv : v / 2 ^ n % 2 < 2 := Nat.mod_lt _ (by decide)
    generalize x / 2 ^ (cs.length + n) % 2 = b at *
    generalize v / 2 ^ n % 2 = d at *
    generalize 2 ^ n = q at *
    have hb' : b = 0 ∨ b = 1 := by omega
    have hd' : d = 0 ∨ d = 1 := by omega
    rcases hb' with rfl | rfl <;> rcases hd' with rfl | rfl
    · simp [stepF, ih]
    · simp only [stepF]
      have : ¬ (0 * q + A = 1 * q + B) := by omega
      rw [if_neg this]
      simp
    · simp only [stepF]
      have : ¬ (1 * q + A = 0 * q + B) := by omega
      rw [if_neg this]
      simp
    · simp only [stepF]
      by_cases hAB : A = B
      · subst hAB
        simp [ih]
      · have : ¬ (1 * q + A = 1 * q + B) := by omega
        rw [if_neg this]
        simp [ih, hAB]
theorem go_letters (x a : Nat) (cs : List UInt8) (m : Nat) (ha : a + m ≤ 26) : ∀ s : St, goF x (letters a m ++ cs) s = goF x cs { s with imm := s.imm + ((x / 2 ^ cs.length % 2 ^ m * 2 ^ a : Nat) : Int), top := if m = 0 then s.top else if s.top < (a : Int) + m - 1 then (a : Int) + m - 1 else s.top } := by
  induction m with
  | zero => intro s; simp [letters, Nat.mod_one]
  | succ m ih =>
    intro s
    have hc : (UInt8.ofNat (97 + a + m)).toNat = 97 + a + m := by
      rw [UInt8.toNat_ofNat']; exact Nat.mod_eq_of_lt (by omega)
    have hne : ∀ v : Nat, v < 97 → ¬ (UInt8.ofNat (97 + a + m) = UInt8.ofNat v) := by
      intro v hv h
      have := congrArg UInt8.toNat h
      rw [hc, UInt8.toNat_ofNat', Nat.mod_eq_of_lt (by omega)] at this
      omega
    rw [letters, List.cons_append, goF]
    have hL : (letters a m ++ cs).length = cs.length + m := by simp [letters_length, Nat.add_comm]
    rw [hL]
    simp only [stepF]
    rw [if_neg (show ¬ (UInt8.ofNat (97 + a + m) = 48) from hne 48 (by decide)), if_neg (show ¬ (UInt8.ofNat (97 + a + m) = 49) from hne 49 (by decide)), if_neg (show ¬ (UInt8.ofNat (97 + a + m) = 68) from hne 68 (by decide)), if_neg (show ¬ (UInt8.ofNat (97 + a + m) = 83) from hne 83 (by decide)), if_neg (show ¬ (UInt8.ofNat (97 + a + m) = 84) from hne 84 (by decide))]
    simp only [hc]
    rw [ih (by omega), mod_succ, Nat.div_div_eq_div_mul, ← Nat.pow_add]
    have e1 : 97 + a + m - 97 = m + a := by omega
    rw [e1]
    congr 2
    · generalize x / 2 ^ (cs.length + m) % 2 = b
      generalize x / 2 ^ cs.length % 2 ^ m = A
      rw [Nat.add_mul, Nat.mul_assoc, ← Nat.pow_add]
      simp only [Int.natCast_add, Int.natCast_mul, Int.natCast_pow]
      rw [Int.add_assoc]
      rfl
    · have e2 : ((97 + a + m : Nat) : Int) - 97 = (a : Int) + m := by omega
      rw [e2]
      have e3 : (a : Int) + ((m + 1 : Nat) : Int) - 1 = a + m := by omega
      rw [e3, if_neg (Nat.succ_ne_zero m)]
      by_cases h0 : m = 0
      · rw [if_pos h0]
      · rw [if_neg h0]
        dsimp only
        split <;> split <;> omega

abbrev rep (n : Nat) (c : UInt8) : List UInt8 := List.replicate n c
def picOf (k f : Nat) : List UInt8 :=
  match k with
  | 1 => letters 0 20 ++ (List.replicate 5 68 ++ (fix 7 f ++ []))
  | 2 => letters 20 1 ++ (letters 1 10 ++ (letters 11 1 ++ (letters 12 8 ++ (List.replicate 5 68 ++ (fix 7 f ++ [])))))
  | 3 => letters 0 12 ++ (List.replicate 5 83 ++ (fix 3 (f / 4096) ++ (List.replicate 5 68 ++ (fix 7 f ++ []))))
  | 4 => fix 7 (f / 33554432) ++ (letters 0 5 ++ (List.replicate 5 83 ++ (fix 3 (f / 4096) ++ (List.replicate 5 68 ++ (fix 7 f ++ [])))))
  | 5 => fix 7 (f / 33554432) ++ (List.replicate 5 84 ++ (List.replicate 5 83 ++ (fix 3 (f / 4096) ++ (List.replicate 5 68 ++ (fix 7 f ++ [])))))
  | 6 => letters 12 1 ++ (letters 5 6 ++ (List.replicate 5 84 ++ (List.replicate 5 83 ++ (fix 3 (f / 4096) ++ (letters 1 4 ++ (letters 11 1 ++ (fix 7 f ++ [])))))))
  | 7 => letters 5 7 ++ (List.replicate 5 84 ++ (List.replicate 5 83 ++ (fix 3 (f / 4096) ++ (letters 0 5 ++ (fix 7 f ++ [])))))
  | _ => fix 32 f ++ []
theorem pics_eq : ∀ n : Fin 49, 1 ≤ n.val → pics.getD n.val [] = picOf (kinds.getD n.val 0) (forms.getD n.val 0) := by decide +kernel
theorem pic_eq (op : Int) (h0 : 1 ≤ op) (h1 : op ≤ 48) : pic op = picOf (kindOf op) (formOf op) := by
  have := pics_eq ⟨op.toNat, by omega⟩ (by show 1 ≤ op.toNat; omega)
  exact this
/-- What the bits of a form are, by its kind. -/
def formOk (k f : Nat) : Bool :=
  match k with
  | 1 => f == f % 128
  | 2 => f == f % 128
  | 3 => f == f / 4096 % 8 * 4096 + f % 128
  | 4 => f == f / 33554432 % 128 * 33554432 + f / 4096 % 8 * 4096 + f % 128
  | 5 => f == f / 33554432 % 128 * 33554432 + f / 4096 % 8 * 4096 + f % 128
  | 6 => f == f / 4096 % 8 * 4096 + f % 128
  | 7 => f == f / 4096 % 8 * 4096 + f % 128
  | _ => f == f % 4294967296
theorem forms_ok : ∀ n : Fin 49, formOk (kinds.getD n.val 0) (forms.getD n.val 0) = true := by decide +kernel
theorem form_ok (op : Int) (h0 : 1 ≤ op) (h1 : op ≤ 48) : formOk (kindOf op) (formOf op) = true := forms_ok ⟨op.toNat, by omega⟩
theorem kinds_signed : ∀ n : Fin 49, (decide (n.val < 25) || decide (27 < n.val)) = (kinds.getD n.val 0 != 4) := by decide +kernel
theorem kind_signed (op : Int) (h0 : 1 ≤ op) (h1 : op ≤ 48) : (decide (op < 25) || decide (27 < op)) = (kindOf op != 4) := by
  have := kinds_signed ⟨op.toNat, by omega⟩
  have e1 : decide (op < 25) = decide (op.toNat < 25) := by rw [Bool.eq_iff_iff]; simp
  have e2 : decide (27 < op) = decide (27 < op.toNat) := by rw [Bool.eq_iff_iff]; simp
  rw [e1, e2]; exact this

theorem mask_a (x : Nat) : x &&& 127 = x % 128 := nat_mask 7 x
theorem mask_b (x : Nat) : x &&& 28799 = x / 4096 % 8 * 4096 + x % 128 := by
  have e := nat_and_cons 12 x 7 127 (by decide)
  have e2 := nat_mask 3 (x / 4096)
  have e3 := nat_mask 7 (x % 4096)
  simp only [Nat.reducePow, Nat.reduceMul, Nat.reduceAdd, Nat.reduceSub] at e e2 e3
  rw [e, e2, e3]; omega
theorem mask_c (x : Nat) : x &&& 4261441663 = x / 33554432 % 128 * 33554432 + x / 4096 % 8 * 4096 + x % 128 := by
  have e := nat_and_cons 25 x 127 28799 (by decide)
  have e2 := nat_mask 7 (x / 33554432)
  simp only [Nat.reducePow, Nat.reduceMul, Nat.reduceAdd, Nat.reduceSub] at e e2
  rw [e, e2, mask_b]; omega
theorem mask_d (x : Nat) (hx : x < 4294967296) : x &&& 4294967295 = x := by
  have := nat_mask 32 x
  simp only [Nat.reducePow, Nat.reduceSub] at this
  rw [this]; omega

theorem ite_and {α : Type} (p q : Prop) [Decidable p] [Decidable q] (a b : α) : (if p then (if q then a else b) else b) = if p ∧ q then a else b := by
  by_cases hp : p <;> by_cases hq : q <;> simp [hp, hq]

/-- What a word of a kind gives. -/
def stOf (k x : Nat) : St :=
  match k with
  | 1 => ⟨(x / 128 % 32 : Nat), 0, 0, (x / 4096 % 1048576 : Nat), 19⟩
  | 2 => ⟨(x / 128 % 32 : Nat), 0, 0, (x / 2147483648 % 2 * 1048576 + x / 2097152 % 1024 * 2 + x / 1048576 % 2 * 2048 + x / 4096 % 256 * 4096 : Nat), 20⟩
  | 3 => ⟨(x / 128 % 32 : Nat), (x / 32768 % 32 : Nat), 0, (x / 1048576 % 4096 : Nat), 11⟩
  | 4 => ⟨(x / 128 % 32 : Nat), (x / 32768 % 32 : Nat), 0, (x / 1048576 % 32 : Nat), 4⟩
  | 5 => ⟨(x / 128 % 32 : Nat), (x / 32768 % 32 : Nat), (x / 1048576 % 32 : Nat), 0, -1⟩
  | 6 => ⟨0, (x / 32768 % 32 : Nat), (x / 1048576 % 32 : Nat), (x / 2147483648 % 2 * 4096 + x / 33554432 % 64 * 32 + x / 256 % 16 * 2 + x / 128 % 2 * 2048 : Nat), 12⟩
  | 7 => ⟨0, (x / 32768 % 32 : Nat), (x / 1048576 % 32 : Nat), (x / 33554432 % 128 * 32 + x / 128 % 32 : Nat), 11⟩
  | _ => ⟨0, 0, 0, 0, -1⟩

theorem go_kind (k f x : Nat) (hk : k ≤ 7) (hx : x < 4294967296) (hf : formOk k f = true) : goF x (picOf k f) s0 = if x &&& fixMask k = f then some (stOf k x) else none := by
  have hk' : k = 0 ∨ k = 1 ∨ k = 2 ∨ k = 3 ∨ k = 4 ∨ k = 5 ∨ k = 6 ∨ k = 7 := by omega
  rcases hk' with rfl | rfl | rfl | rfl | rfl | rfl | rfl | rfl
  · have hm : fixMask 0 = 4294967295 := rfl
    simp only [formOk, beq_iff_eq] at hf
    rw [hm, mask_d x hx]
    simp only [picOf, go_fix, List.length_nil, Nat.reducePow, Nat.div_one, goF, stOf, s0]
    have : (x % 4294967296 = f % 4294967296) ↔ (x = f) := by omega
    simp only [this]
  · have hm : fixMask 1 = 127 := rfl
    simp only [formOk, beq_iff_eq] at hf
    rw [hm, mask_a]
    simp only [picOf]
    rw [go_letters _ _ _ _ (by decide), go_rd, go_fix]
    simp only [List.length_append, List.length_replicate, fix_length, List.length_nil, Nat.reduceAdd, Nat.reducePow, Nat.div_one, goF, stOf, s0]
    have h : (x % 128 = f % 128) ↔ (x % 128 = f) := by omega
    simp only [h]
    simp
  · have hm : fixMask 2 = 127 := rfl
    simp only [formOk, beq_iff_eq] at hf
    rw [hm, mask_a]
    simp only [picOf]
    rw [go_letters _ _ _ _ (by decide), go_letters _ _ _ _ (by decide), go_letters _ _ _ _ (by decide), go_letters _ _ _ _ (by decide), go_rd, go_fix]
    simp only [List.length_append, List.length_replicate, fix_length, letters_length, List.length_nil, Nat.reduceAdd, Nat.reducePow, Nat.div_one, goF, stOf, s0]
    have h : (x % 128 = f % 128) ↔ (x % 128 = f) := by omega
    simp only [h]
    simp
  · have hm : fixMask 3 = 28799 := rfl
    simp only [formOk, beq_iff_eq] at hf
    rw [hm, mask_b]
    simp only [picOf]
    rw [go_letters _ _ _ _ (by decide), go_rs1, go_fix, go_rd, go_fix]
    simp only [List.length_append, List.length_replicate, fix_length, List.length_nil, Nat.reduceAdd, Nat.reducePow, Nat.div_one, goF, stOf, s0]
    rw [ite_and]
    have h : (x / 4096 % 8 = f / 4096 % 8 ∧ x % 128 = f % 128) ↔ (x / 4096 % 8 * 4096 + x % 128 = f) := by omega
    simp only [h]
    simp
  · have hm : fixMask 4 = 4261441663 := rfl
    simp only [formOk, beq_iff_eq] at hf
    rw [hm, mask_c]
    simp only [picOf]
    rw [go_fix, go_letters _ _ _ _ (by decide), go_rs1, go_fix, go_rd, go_fix]
    simp only [List.length_append, List.length_replicate, fix_length, letters_length, List.length_nil, Nat.reduceAdd, Nat.reducePow, Nat.div_one, goF, stOf, s0]
    rw [ite_and, ite_and]
    have h : ((x / 33554432 % 128 = f / 33554432 % 128 ∧ x / 4096 % 8 = f / 4096 % 8) ∧ x % 128 = f % 128) ↔ (x / 33554432 % 128 * 33554432 + x / 4096 % 8 * 4096 + x % 128 = f) := by omega
    simp only [h]
    simp
  · have hm : fixMask 5 = 4261441663 := rfl
    simp only [formOk, beq_iff_eq] at hf
    rw [hm, mask_c]
    simp only [picOf]
    rw [go_fix, go_rs2, go_rs1, go_fix, go_rd, go_fix]
    simp only [List.length_append, List.length_replicate, fix_length, List.length_nil, Nat.reduceAdd, Nat.reducePow, Nat.div_one, goF, stOf, s0]
    rw [ite_and, ite_and]
    have h : ((x / 33554432 % 128 = f / 33554432 % 128 ∧ x / 4096 % 8 = f / 4096 % 8) ∧ x % 128 = f % 128) ↔ (x / 33554432 % 128 * 33554432 + x / 4096 % 8 * 4096 + x % 128 = f) := by omega
    simp only [h]
    simp
  · have hm : fixMask 6 = 28799 := rfl
    simp only [formOk, beq_iff_eq] at hf
    rw [hm, mask_b]
    simp only [picOf]
    rw [go_letters _ _ _ _ (by decide), go_letters _ _ _ _ (by decide), go_rs2, go_rs1, go_fix, go_letters _ _ _ _ (by decide), go_letters _ _ _ _ (by decide), go_fix]
    simp only [List.length_append, List.length_replicate, fix_length, letters_length, List.length_nil, Nat.reduceAdd, Nat.reducePow, Nat.div_one, goF, stOf, s0]
    rw [ite_and]
    have h : (x / 4096 % 8 = f / 4096 % 8 ∧ x % 128 = f % 128) ↔ (x / 4096 % 8 * 4096 + x % 128 = f) := by omega
    simp only [h]
    simp
  · have hm : fixMask 7 = 28799 := rfl
    simp only [formOk, beq_iff_eq] at hf
    rw [hm, mask_b]
    simp only [picOf]
    rw [go_letters _ _ _ _ (by decide), go_rs2, go_rs1, go_fix, go_letters _ _ _ _ (by decide), go_fix]
    simp only [List.length_append, List.length_replicate, fix_length, letters_length, List.length_nil, Nat.reduceAdd, Nat.reducePow, Nat.div_one, goF, stOf, s0]
    rw [ite_and]
    have h : (x / 4096 % 8 = f / 4096 % 8 ∧ x % 128 = f % 128) ↔ (x / 4096 % 8 * 4096 + x % 128 = f) := by omega
    simp only [h]
    simp

def finImm (op : Int) (s : St) : Int :=
  if (decide (op < 25) || decide (27 < op)) = true ∧ 0 ≤ s.top ∧ s.imm / 2 ^ s.top.toNat % 2 = 1 then s.imm - 2 * 2 ^ s.top.toNat else s.imm
def insOf (op : Int) (s : St) : Ins := ⟨op, s.rd, s.rs1, s.rs2, finImm op s⟩
theorem insOf_kind (op : Int) (x : Nat) (h0 : 1 ≤ op) (h1 : op ≤ 48) (hx : x < 4294967296) : insOf op (stOf (kindOf op) x) = ins op x := by
  have hs := kind_signed op h0 h1
  have hk := kindOf_le op
  unfold insOf finImm ins
  rw [hs]
  generalize kindOf op = k at *
  have hk' : k = 0 ∨ k = 1 ∨ k = 2 ∨ k = 3 ∨ k = 4 ∨ k = 5 ∨ k = 6 ∨ k = 7 := by omega
  rcases hk' with rfl | rfl | rfl | rfl | rfl | rfl | rfl | rfl
  all_goals
    simp only [stOf, rdF, rs1F, rs2F, gatherOf]
    simp
  · split <;> omega
  · have h1 : (x : Int) / 2147483648 % 2 = (x : Int) / 2147483648 := by omega
    have a1 : 0 ≤ (x : Int) / 2147483648 ∧ (x : Int) / 2147483648 ≤ 1 := by omega
    have a2 : 0 ≤ (x : Int) / 2097152 % 1024 ∧ (x : Int) / 2097152 % 1024 < 1024 := by omega
    have a3 : 0 ≤ (x : Int) / 1048576 % 2 ∧ (x : Int) / 1048576 % 2 < 2 := by omega
    have a4 : 0 ≤ (x : Int) / 4096 % 256 ∧ (x : Int) / 4096 % 256 < 256 := by omega
    rw [h1]
    generalize (x : Int) / 2147483648 = A at *
    generalize (x : Int) / 2097152 % 1024 = B at *
    generalize (x : Int) / 1048576 % 2 = C at *
    generalize (x : Int) / 4096 % 256 = D at *
    split <;> omega
  · split <;> omega
  · have h1 : (x : Int) / 2147483648 % 2 = (x : Int) / 2147483648 := by omega
    have a1 : 0 ≤ (x : Int) / 2147483648 ∧ (x : Int) / 2147483648 ≤ 1 := by omega
    have a2 : 0 ≤ (x : Int) / 33554432 % 64 ∧ (x : Int) / 33554432 % 64 < 64 := by omega
    have a3 : 0 ≤ (x : Int) / 256 % 16 ∧ (x : Int) / 256 % 16 < 16 := by omega
    have a4 : 0 ≤ (x : Int) / 128 % 2 ∧ (x : Int) / 128 % 2 < 2 := by omega
    rw [h1]
    generalize (x : Int) / 2147483648 = A at *
    generalize (x : Int) / 33554432 % 64 = B at *
    generalize (x : Int) / 256 % 16 = C at *
    generalize (x : Int) / 128 % 2 = D at *
    split <;> omega
  · have h1 : (x : Int) / 33554432 % 128 = (x : Int) / 33554432 := by omega
    have h2 : (x : Int) / 2147483648 = (x : Int) / 33554432 / 64 := by omega
    have a1 : 0 ≤ (x : Int) / 33554432 ∧ (x : Int) / 33554432 < 128 := by omega
    have a2 : 0 ≤ (x : Int) / 128 % 32 ∧ (x : Int) / 128 % 32 < 32 := by omega
    rw [h1, h2]
    generalize (x : Int) / 33554432 = A at *
    generalize (x : Int) / 128 % 32 = B at *
    split <;> omega
theorem drawn_num (op : Int) (x : Nat) (h0 : 1 ≤ op) (h1 : op ≤ 48) (hx : x < 4294967296) : goF x (pic op) s0 = if fits op x = true then some (stOf (kindOf op) x) else none := by
  rw [pic_eq op h0 h1, go_kind _ _ _ (kindOf_le op) hx (form_ok op h0 h1)]
  unfold fits
  simp
def signOk (c : UInt8) : Bool := c == 48 || c == 49 || c == 68 || c == 83 || c == 84 || (decide (97 ≤ c) && decide (c ≤ 117))
theorem pics_signs : ∀ n : Fin 49, 1 ≤ n.val → (pics.getD n.val []).length = 32 ∧ (pics.getD n.val []).all signOk = true := by decide +kernel
theorem pic_signs (op : Int) (h0 : 1 ≤ op) (h1 : op ≤ 48) : (pic op).length = 32 ∧ (pic op).all signOk = true := pics_signs ⟨op.toNat, by omega⟩ (by show 1 ≤ op.toNat; omega)
theorem i64_and1 (y : Int) : bits .and .i64 y 1 = y % 2 := by
  show IntKind.i64.wrap ((BitVec.ofInt 64 y &&& BitVec.ofInt 64 1).toNat : Int) = y % 2
  have e1 : (BitVec.ofInt 64 1).toNat = 1 := by decide
  rw [BitVec.toNat_and, e1, Nat.and_one_is_mod, BitVec.toNat_ofInt, IntKind.wrap_i64]
  omega
end Go.Vx

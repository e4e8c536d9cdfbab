/- Plain facts: the text of a word is read as that word. -/
import Derived.Test.YtmfookpigilccaaGreatDoorW12
import Derived.Test.YtmfookpigilccaaGreatDoorQ11
namespace Go.Vx
/-- Nothing of a token is at the front. -/
def NT (l : List UInt8) : Prop := ∀ c, l.head? = some c → tokB c = false
theorem takeWhile_run : ∀ (r l : List UInt8), (∀ c ∈ r, tokB c = true) → NT l → (r ++ l).takeWhile tokB = r ∧ (r ++ l).dropWhile tokB = l
  | [], l, _, h => by
    cases l with
    | nil => exact ⟨rfl, rfl⟩
    | cons c l =>
      have := h c rfl
      simp [this]
  | b :: r, l, hr, h => by
    obtain ⟨h1, h2⟩ := takeWhile_run r l (fun c hc => hr c (List.mem_cons_of_mem _ hc)) h
    have hb := hr b (List.mem_cons_self ..)
    rw [List.cons_append, List.takeWhile_cons, List.dropWhile_cons, if_pos hb, if_pos hb, h1, h2]
    exact ⟨rfl, rfl⟩
theorem tok_run (b : UInt8) (r l : List UInt8) (hr : ∀ c ∈ b :: r, tokB c = true) (h : NT l) : tokF ((b :: r) ++ l) = (b :: r) :: tokF l := by
  obtain ⟨h1, h2⟩ := takeWhile_run r l (fun c hc => hr c (List.mem_cons_of_mem _ hc)) h
  have hb := hr b (List.mem_cons_self ..)
  have hn : b ≠ 35 := fun e => by subst e; exact absurd hb (by decide)
  rw [List.cons_append, Vx.tokF_cons, if_neg hn, if_pos hb, h1, h2]
theorem tok_blank (l : List UInt8) : tokF (32 :: l) = tokF l := by
  rw [Vx.tokF_cons, if_neg (by decide), if_neg (by decide), if_pos (Or.inl rfl)]
theorem tok_sign (c : UInt8) (l : List UInt8) (h1 : c ≠ 35) (h2 : tokB c = false) (h3 : ¬ (c = 32 ∨ c = 9)) : tokF (c :: l) = [c] :: tokF l := by
  rw [Vx.tokF_cons, if_neg h1, if_neg (by simp [h2]), if_neg h3]
theorem dig_tok (c : UInt8) (h : 48 ≤ c.toNat ∧ c.toNat ≤ 57) : tokB c = true := by
  rw [tokB_num]
  simp
  omega
theorem itoa_tok (n : Int) : ∀ c ∈ Lib.itoa n, tokB c = true := by
  intro c hc
  unfold Lib.itoa at hc
  split at hc
  · rw [List.mem_cons] at hc
    rcases hc with rfl | hc
    · decide
    · exact dig_tok c (dec_digits _ c hc)
  · exact dig_tok c (dec_digits _ c hc)
theorem itoa_cons (n : Int) : ∃ c l, Lib.itoa n = c :: l ∧ c ≠ 58 := by
  unfold Lib.itoa
  split
  · exact ⟨45, _, rfl, by decide⟩
  · cases hl : Lib.decDigits n.toNat with
    | nil => exact absurd hl (dec_ne _)
    | cons c l =>
      refine ⟨c, l, rfl, fun e => ?_⟩
      have := (dec_digits n.toNat c (by rw [hl]; exact List.mem_cons_self ..)).2
      rw [e] at this
      exact absurd this (by decide)
theorem regB_T (n : Int) (h : RegOk n) : regB n = regT n := by
  unfold regB regT Lib.itoa
  rw [if_neg (by have := h.1; omega)]
theorem reg_tok (n : Int) : ∀ c ∈ regB n, tokB c = true := by
  intro c hc
  unfold regB at hc
  rw [List.mem_cons] at hc
  rcases hc with rfl | hc
  · decide
  · exact itoa_tok n c hc
theorem tok_itoa (n : Int) (l : List UInt8) (h : NT l) : tokF (Lib.itoa n ++ l) = Lib.itoa n :: tokF l := by
  obtain ⟨c, r, hcr, _⟩ := itoa_cons n
  have ht := itoa_tok n
  rw [hcr] at ht ⊢
  exact tok_run c r l ht h
theorem tok_reg (n : Int) (l : List UInt8) (h : NT l) : tokF (regB n ++ l) = regB n :: tokF l := tok_run 120 (Lib.itoa n) l (reg_tok n) h
/-- An operand's text as tokens. -/
theorem tok_opd (i : Ins) (c : UInt8) (hc : letOk c) (h1 : RegOk i.rd) (h2 : RegOk i.rs1) (h3 : RegOk i.rs2) (l : List UInt8) (h : NT l) : tokF (opd i c ++ l) = opT i [] c ++ tokF l := by
  rcases hc with rfl | rfl | rfl | rfl | rfl | rfl
  · show tokF (regB i.rd ++ l) = [regT i.rd] ++ tokF l
    rw [tok_reg _ _ h, regB_T _ h1]; rfl
  · show tokF (regB i.rs1 ++ l) = [regT i.rs1] ++ tokF l
    rw [tok_reg _ _ h, regB_T _ h2]; rfl
  · show tokF (regB i.rs2 ++ l) = [regT i.rs2] ++ tokF l
    rw [tok_reg _ _ h, regB_T _ h3]; rfl
  · show tokF (Lib.itoa i.imm ++ l) = [Lib.itoa i.imm] ++ tokF l
    rw [tok_itoa _ _ h]; rfl
  · show tokF (Lib.itoa i.imm ++ l) = [Lib.itoa i.imm] ++ tokF l
    rw [tok_itoa _ _ h]; rfl
  · show tokF ((Lib.itoa i.imm ++ ([40] ++ regB i.rs1 ++ [41])) ++ l) = [Lib.itoa i.imm, [40], regT i.rs1, [41]] ++ tokF l
    have e : (Lib.itoa i.imm ++ ([40] ++ regB i.rs1 ++ [41])) ++ l = Lib.itoa i.imm ++ (40 :: (regB i.rs1 ++ (41 :: l))) := by simp
    rw [e, tok_itoa _ _ (fun c hc => by cases hc; decide), tok_sign 40 _ (by decide) (by decide) (by decide), tok_reg _ _ (fun c hc => by cases hc; decide), tok_sign 41 _ (by decide) (by decide) (by decide), regB_T _ h2]
    rfl
theorem tail_nt (i : Ins) (cs : List UInt8) : NT (tailF i [44, 32] cs) := by
  cases cs with
  | nil => intro c hc; cases hc
  | cons d cs => intro c hc; cases hc; decide
theorem tok_tail (i : Ins) (h1 : RegOk i.rd) (h2 : RegOk i.rs1) (h3 : RegOk i.rs2) : ∀ cs : List UInt8, (∀ c ∈ cs, letOk c) → tokF (tailF i [44, 32] cs) = argT i [] false cs ∧ tokF (tailF i [32] cs) = argT i [] true cs
  | [], _ => by simp [tailF, argT, Vx.tokF_nil]
  | c :: cs, hc => by
    obtain ⟨ih, _⟩ := tok_tail i h1 h2 h3 cs (fun x hx => hc x (List.mem_cons_of_mem _ hx))
    have ho := tok_opd i c (hc c (List.mem_cons_self ..)) h1 h2 h3 _ (tail_nt i cs)
    constructor
    · rw [tailF, argT]
      have e : [44, 32] ++ opd i c ++ tailF i [44, 32] cs = 44 :: 32 :: (opd i c ++ tailF i [44, 32] cs) := by simp
      rw [e, tok_sign 44 _ (by decide) (by decide) (by decide), tok_blank, ho, ih]
      rfl
    · rw [tailF, argT]
      have e : [32] ++ opd i c ++ tailF i [44, 32] cs = 32 :: (opd i c ++ tailF i [44, 32] cs) := by simp
      rw [e, tok_blank, ho, ih]
      rfl
theorem name_tok (op : Int) (h0 : 1 ≤ op) (h1 : op ≤ 48) : (∀ c ∈ nameB op, tokB c = true) ∧ nameB op ≠ [] ∧ (nameB op).length ≤ 6 := by
  have h : ∀ k : Fin 48, (∀ c ∈ nameB ((k.val : Int) + 1), tokB c = true) ∧ nameB ((k.val : Int) + 1) ≠ [] ∧ (nameB ((k.val : Int) + 1)).length ≤ 6 := by decide +kernel
  have h' := h ⟨(op - 1).toNat, by omega⟩
  have e : (((op - 1).toNat : Nat) : Int) + 1 = op := by omega
  simp only [e] at h'
  exact h'
theorem tok_full (i : Ins) (h0 : 1 ≤ i.op) (h1 : i.op ≤ 48) (r1 : RegOk i.rd) (r2 : RegOk i.rs1) (r3 : RegOk i.rs2) : tokF (fullT i) = nameB i.op :: argT i [] true (shapeB i.op) := by
  obtain ⟨n1, n2, _⟩ := name_tok i.op h0 h1
  unfold fullT
  cases hn : nameB i.op with
  | nil => exact absurd hn n2
  | cons b r =>
    rw [hn] at n1
    rw [tok_run b r _ n1 (fun c hc => by
      cases hs : shapeB i.op with
      | nil => rw [hs] at hc; cases hc
      | cons d cs => rw [hs] at hc; cases hc; decide), (tok_tail i r1 r2 r3 _ (shape_let i.op).2).2]
/-- Kinds and shapes, together. -/
theorem kind_shape (op : Int) (h0 : 1 ≤ op) (h1 : op ≤ 48) : (kindOf op, shapeB op) ∈ [(1, [100, 105]), (2, [100, 106]), (3, [100, 109]), (6, [115, 116, 106]), (7, [116, 109]), (3, [100, 115, 105]), (4, [100, 115, 105]), (5, [100, 115, 116]), (0, ([] : List UInt8))] := by
  have h : ∀ k : Fin 48, (kindOf ((k.val : Int) + 1), shapeB ((k.val : Int) + 1)) ∈ [(1, [100, 105]), (2, [100, 106]), (3, [100, 109]), (6, [115, 116, 106]), (7, [116, 109]), (3, [100, 115, 105]), (4, [100, 115, 105]), (5, [100, 115, 116]), (0, ([] : List UInt8))] := by decide +kernel
  have h' := h ⟨(op - 1).toNat, by omega⟩
  have e : (((op - 1).toNat : Nat) : Int) + 1 = op := by omega
  simp only [e] at h'
  exact h'
theorem fold_ins (op x : Int) (h0 : 1 ≤ op) (h1 : op ≤ 48) : (shapeB op).foldl (putI (ins op x) []) (⟨op, 0, 0, 0, 0⟩, []) = (ins op x, []) := by
  have h := kind_shape op h0 h1
  unfold ins
  generalize kindOf op = k at h ⊢
  generalize shapeB op = sh at h ⊢
  simp only [List.mem_cons, Prod.mk.injEq, List.not_mem_nil, or_false] at h
  rcases h with ⟨rfl, rfl⟩ | ⟨rfl, rfl⟩ | ⟨rfl, rfl⟩ | ⟨rfl, rfl⟩ | ⟨rfl, rfl⟩ | ⟨rfl, rfl⟩ | ⟨rfl, rfl⟩ | ⟨rfl, rfl⟩ | ⟨rfl, rfl⟩ <;> rfl
theorem gather_bound (k : Nat) (hk : k ≤ 7) (x : Int) (h0 : 0 ≤ x) (h1 : x < 4294967296) : -1048576 ≤ gatherOf k x ∧ gatherOf k x ≤ 1048575 := by
  have hk' : k = 0 ∨ k = 1 ∨ k = 2 ∨ k = 3 ∨ k = 4 ∨ k = 5 ∨ k = 6 ∨ k = 7 := by omega
  rcases hk' with rfl | rfl | rfl | rfl | rfl | rfl | rfl | rfl <;> simp only [gatherOf] <;> omega
theorem ins_arg (op x : Int) (h0 : 1 ≤ op) (h1 : op ≤ 48) (h2 : 0 ≤ x) (h3 : x < 4294967296) : ArgOk (ins op x) [] := by
  have hg := gather_bound _ (kindOf_le op) x h2 h3
  refine ⟨h0, h1, ?_, ?_, ?_, ?_, ?_, Or.inl rfl, fold_ins op x h0 h1⟩
  · show RegOk (rdF _ x); unfold rdF RegOk; split <;> omega
  · show RegOk (rs1F _ x); unfold rs1F RegOk; split <;> omega
  · show RegOk (rs2F _ x); unfold rs2F RegOk; split <;> omega
  · show -4294967296 ≤ gatherOf _ x; omega
  · show gatherOf _ x ≤ 4294967296; omega
end Go.Vx

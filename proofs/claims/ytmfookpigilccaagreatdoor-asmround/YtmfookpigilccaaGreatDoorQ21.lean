/- The texts of words, line by line, as package asm takes them. -/
import Derived.Test.YtmfookpigilccaaGreatDoorP3
import Derived.Test.YtmfookpigilccaaGreatDoorQ20
import Derived.Test.YtmfookpigilccaaGreatDoorGood
namespace Go.Proofs.YtmfookpigilccaaGreatDoor
open Go.ChangeShapes Go.WideShapes Go.ChangeAt Go.RowKit Go.Maps
open Go.Vx (strV labN tokB Only Ins insV ins Stm stToks stOk stLen wordOf dec tokF fourB accT lenT joinB zeroIns fullT tailF opd nameB shapeB argT opT regT regB ArgOk RegOk InsSmall Small gatherOf kindOf letOk)

/-- The text of a word; what its line says. -/
def textW (x : Nat) : List UInt8 := if (dec x).op = 0 then wordT x else fullT (dec x)
def stmW (x : Nat) : Stm := if (dec x).op = 0 then .word x else .ins (dec x) []
theorem word_cases (x : Nat) (hx : x < 4294967296) : (dec x = zeroIns ∧ textW x = wordT x ∧ stmW x = .word x) ∨ (Good (dec x) ∧ wordOf (dec x) = x ∧ ArgOk (dec x) [] ∧ InsSmall (dec x) ∧ (-1048576 ≤ (dec x).imm ∧ (dec x).imm ≤ 1048575) ∧ textW x = fullT (dec x) ∧ stmW x = .ins (dec x) []) := by
  rcases find_cases x 48 1 with h | ⟨o, h1, h2, h3, h4⟩
  · have hd : dec x = zeroIns := h
    exact Or.inl ⟨hd, by unfold textW; rw [hd, if_pos (show zeroIns.op = 0 from rfl)], by unfold stmW; rw [hd, if_pos (show zeroIns.op = 0 from rfl)]⟩
  · right
    have hd : dec x = ins o x := h4
    have hw := Vx.word_ins o x h1 (by omega) hx h3
    have hne : ¬ (dec x).op = 0 := by rw [hd]; show ¬ o = 0; omega
    have ha := Vx.ins_arg o x h1 (by omega) (by omega) (by omega)
    have hg := Vx.gather_bound _ (Vx.kindOf_le o) x (by omega) (by omega)
    refine ⟨⟨?_, ?_, ?_⟩, ?_, ?_, ?_, ?_, by unfold textW; rw [if_neg hne], by unfold stmW; rw [if_neg hne]⟩
    · rw [hd]; exact h1
    · rw [hd]; show o ≤ 48; omega
    · rw [hd, hw, hd]
    · rw [hd, hw]
    · rw [hd]; exact ha
    · rw [hd]
      have r1 := ha.rd
      have r2 := ha.rs1
      have r3 := ha.rs2
      exact ⟨⟨by show -4294967296 < o; omega, by show o < 4294967296; omega⟩, ⟨by have := r1.1; omega, by have := r1.2; omega⟩, ⟨by have := r2.1; omega, by have := r2.2; omega⟩, ⟨by have := r3.1; omega, by have := r3.2; omega⟩, ⟨by show -4294967296 < gatherOf _ _; omega, by show gatherOf _ _ < 4294967296; omega⟩⟩
    · rw [hd]; exact hg
theorem text_any (x : Nat) (hx : x < 4294967296) (w : World) (hF : FormsAt w) (hP : PowAt w) :
    Calls Tryz.prog 8 #[.int .u32 (x : Int)] w fun e w' => e = .returned (.string ⟨(textW x).toArray⟩) ∧ Below w.heap.size w w' := by
  rcases word_cases x hx with ⟨h1, h2, _⟩ | ⟨h1, _, _, h4, _, h5, _⟩
  · rw [h2]; exact text_word x hx h1 w hF hP
  · rw [h5]; exact text_ins x hx (dec x) rfl h1.1 h1.2.1 h4 w hF hP
theorem tok_word (x : Nat) (hx : x < 4294967296) : tokF (textW x) = stToks (stmW x) := by
  rcases word_cases x hx with ⟨_, h2, h3⟩ | ⟨h1, _, h3, _, _, h5, h6⟩
  · rw [h2, h3]
    have e : wordT x = [46, 119, 111, 114, 100] ++ (32 :: (Lib.itoa (x : Int) ++ [])) := by
      unfold wordT; rw [Lib.itoa_nonneg]; simp
    rw [e, Vx.tok_run 46 [119, 111, 114, 100] _ (by decide) (fun c hc => by cases hc; decide), Vx.tok_blank, Vx.tok_itoa _ _ (fun c hc => by cases hc)]
    simp [Vx.tokF_nil, stToks]
  · rw [h5, h6]
    exact Vx.tok_full (dec x) h1.1 h1.2.1 h3.rd h3.rs1 h3.rs2
theorem ok_word (x : Nat) (hx : x < 4294967296) : stOk (stmW x) := by
  rcases word_cases x hx with ⟨_, _, h3⟩ | ⟨_, _, h3, _, _, _, h6⟩
  · rw [h3]; exact hx
  · rw [h6]; exact h3
theorem enc_word (x : Nat) (hx : x < 4294967296) (D : DataW Unit) (a : Nat) : StEnc D a (stmW x) [(x : Int)] := by
  rcases word_cases x hx with ⟨_, _, h3⟩ | ⟨h1, h2, _, _, _, _, h6⟩
  · rw [h3]; exact ⟨hx, rfl⟩
  · rw [h6]; exact ⟨h1.1, h1.2.1, h1.2.2, by rw [h2]⟩
theorem arg_first (i : Ins) (op : Int) (t : List UInt8) (h : (argT i [] true (shapeB op))[0]? = some t) : t ≠ [58] := by
  have hl := (Vx.shape_let op).2
  cases hs : shapeB op with
  | nil => rw [hs] at h; cases h
  | cons c cs =>
    rw [hs] at h hl
    rw [argT] at h
    obtain ⟨ci, li, hci, hne⟩ := Vx.itoa_cons i.imm
    rcases hl c (List.mem_cons_self ..) with rfl | rfl | rfl | rfl | rfl | rfl
    · cases h; intro e; cases e
    · cases h; intro e; cases e
    · cases h; intro e; cases e
    · cases h; rw [hci]; intro e; exact hne (List.cons.inj e).1
    · cases h; rw [if_pos rfl, hci]; intro e; exact hne (List.cons.inj e).1
    · cases h; rw [hci]; intro e; exact hne (List.cons.inj e).1
theorem lab_word (x : Nat) (hx : x < 4294967296) : (∀ t, (stToks (stmW x))[1]? = some t → t ≠ [58]) ∧ (stToks (stmW x)).length ≤ 30 := by
  rcases word_cases x hx with ⟨_, _, h3⟩ | ⟨_, _, _, _, _, _, h6⟩
  · rw [h3]
    refine ⟨fun t ht => ?_, by simp [stToks]⟩
    obtain ⟨ci, li, hci, hne⟩ := Vx.itoa_cons (x : Int)
    cases ht
    rw [hci]; intro e; exact hne (List.cons.inj e).1
  · rw [h6]
    refine ⟨fun t ht => arg_first _ _ t ht, ?_⟩
    have h1 := Vx.argT_len (dec x) [] true (shapeB (dec x).op)
    have h2 := (Vx.shape_let (dec x).op).1
    simp only [stToks, List.length_cons]
    omega
/-- The bytes that a word's text may hold. -/
def plainB (c : UInt8) : Prop := tokB c = true ∨ c = 32 ∨ c = 44 ∨ c = 40 ∨ c = 41
theorem plain_ne {c : UInt8} (h : plainB c) : c ≠ 10 ∧ c ≠ 35 := by
  rcases h with h | rfl | rfl | rfl | rfl
  · exact ⟨fun e => by subst e; exact absurd h (by decide), fun e => by subst e; exact absurd h (by decide)⟩
  · decide
  · decide
  · decide
  · decide
theorem opd_plain (i : Ins) (c : UInt8) : ∀ b ∈ opd i c, plainB b := by
  intro b hb
  unfold opd at hb
  split at hb
  · exact Or.inl (Vx.reg_tok _ b hb)
  split at hb
  · exact Or.inl (Vx.reg_tok _ b hb)
  split at hb
  · exact Or.inl (Vx.reg_tok _ b hb)
  split at hb
  · simp only [List.mem_append, List.mem_singleton] at hb
    rcases hb with hb | (hb | hb) | hb
    · exact Or.inl (Vx.itoa_tok _ b hb)
    · exact Or.inr (Or.inr (Or.inr (Or.inl hb)))
    · exact Or.inl (Vx.reg_tok _ b hb)
    · exact Or.inr (Or.inr (Or.inr (Or.inr hb)))
  · exact Or.inl (Vx.itoa_tok _ b hb)
theorem tail_plain (i : Ins) : ∀ (cs btw : List UInt8), (∀ b ∈ btw, plainB b) → ∀ b ∈ tailF i btw cs, plainB b
  | [], _, _, b, hb => by simp [tailF] at hb
  | c :: cs, btw, hbt, b, hb => by
    rw [tailF, List.mem_append, List.mem_append] at hb
    rcases hb with (hb | hb) | hb
    · exact hbt b hb
    · exact opd_plain i c b hb
    · exact tail_plain i cs [44, 32] (fun b hb => by simp at hb; rcases hb with rfl | rfl; exact Or.inr (Or.inr (Or.inl rfl)); exact Or.inr (Or.inl rfl)) b hb
theorem itoa_short (n : Int) (h0 : -1048576 ≤ n) (h1 : n ≤ 1048575) : (Lib.itoa n).length ≤ 8 := by
  unfold Lib.itoa
  split
  · have := Vx.nDigits_lt 6 n.natAbs (by omega)
    rw [List.length_cons, Lib.decDigits_length]; omega
  · have := Vx.nDigits_lt 6 n.toNat (by omega)
    rw [Lib.decDigits_length]; omega
theorem reg_short (n : Int) (h : RegOk n) : (regB n).length ≤ 3 := by
  have h0 := h.1
  have h1 := h.2
  unfold regB Lib.itoa
  rw [if_neg (by omega)]
  have := Vx.nDigits_lt 1 n.toNat (by omega)
  rw [List.length_cons, Lib.decDigits_length]; omega
theorem opd_short (i : Ins) (ha : ArgOk i []) (hi : -1048576 ≤ i.imm ∧ i.imm ≤ 1048575) (c : UInt8) : (opd i c).length ≤ 13 := by
  have r1 := reg_short _ ha.rd
  have r2 := reg_short _ ha.rs1
  have r3 := reg_short _ ha.rs2
  have r4 := itoa_short _ hi.1 hi.2
  unfold opd
  split
  · omega
  split
  · omega
  split
  · omega
  split
  · simp only [List.length_append, List.length_cons, List.length_nil]; omega
  · omega
theorem tail_short (i : Ins) (ha : ArgOk i []) (hi : -1048576 ≤ i.imm ∧ i.imm ≤ 1048575) : ∀ (cs btw : List UInt8), btw.length ≤ 2 → (tailF i btw cs).length ≤ 15 * cs.length
  | [], _, _ => by simp [tailF]
  | c :: cs, btw, hb => by
    have h1 := tail_short i ha hi cs [44, 32] (by decide)
    have h2 := opd_short i ha hi c
    simp only [tailF, List.length_append, List.length_cons]
    omega
theorem plain_word (x : Nat) (hx : x < 4294967296) : (10 : UInt8) ∉ textW x ∧ (35 : UInt8) ∉ textW x ∧ (textW x).length ≤ 60 := by
  have h : (∀ b ∈ textW x, plainB b) ∧ (textW x).length ≤ 60 := by
    rcases word_cases x hx with ⟨_, h2, _⟩ | ⟨h1, _, h3, _, hi, h5, _⟩
    · rw [h2]
      unfold wordT
      refine ⟨fun b hb => ?_, ?_⟩
      · rw [List.mem_append] at hb
        rcases hb with hb | hb
        · have : ∀ b ∈ ([46, 119, 111, 114, 100, 32] : List UInt8), tokB b = true ∨ b = 32 := by decide
          rcases this b hb with h | h
          · exact Or.inl h
          · exact Or.inr (Or.inl h)
        · exact Or.inl (Vx.dig_tok b (Vx.dec_digits _ b hb))
      · rw [List.length_append, Lib.decDigits_length]
        have := nDigits_le x (by omega)
        simp; omega
    · rw [h5]
      unfold fullT
      obtain ⟨n1, _, n3⟩ := Vx.name_tok (dec x).op h1.1 h1.2.1
      refine ⟨fun b hb => ?_, ?_⟩
      · rw [List.mem_append] at hb
        rcases hb with hb | hb
        · exact Or.inl (n1 b hb)
        · exact tail_plain _ _ [32] (fun b hb => by simp at hb; exact Or.inr (Or.inl hb)) b hb
      · have h2 := tail_short (dec x) h3 hi (shapeB (dec x).op) [32] (by decide)
        have h4 := (Vx.shape_let (dec x).op).1
        rw [List.length_append]; omega
  exact ⟨fun hb => (plain_ne (h.1 _ hb)).1 rfl, fun hb => (plain_ne (h.1 _ hb)).2 rfl, h.2⟩
end Go.Proofs.YtmfookpigilccaaGreatDoor

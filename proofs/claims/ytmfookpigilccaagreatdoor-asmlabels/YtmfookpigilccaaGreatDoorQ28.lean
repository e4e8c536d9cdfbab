/- AsmLabels: the four texts, assembled. -/
import Derived.Test.YtmfookpigilccaaGreatDoorQ27
import Derived.Test.YtmfookpigilccaaGreatDoorQ22
namespace Go.Proofs.YtmfookpigilccaaGreatDoor
open Go.ChangeShapes Go.WideShapes Go.ChangeAt Go.RowKit Go.Maps
open Go.Vx (strV labN Only Ins insV Stm stToks stOk stLen wordOf dec tokF fourB accT lenT joinB jalL ecallL preL JS ES)

theorem acc_at (ss : List Stm) (a k : Nat) (hk : k < (accT ss a).length) : ((accT ss a)[k]).2 = a + lenT (ss.take k) ∧ ((accT ss a)[k]).1 = ss[k]'(by rw [Vx.accT_len] at hk; exact hk) := by
  induction ss generalizing a k with
  | nil => simp [accT] at hk
  | cons s ss ih =>
    cases k with
    | zero => exact ⟨by simp [accT, lenT], by simp [accT]⟩
    | succ k =>
      have h := ih (a + stLen s) k (by simpa [accT] using hk)
      simp only [accT, List.getElem_cons_succ, List.take_succ_cons, lenT]
      exact ⟨by rw [h.1]; omega, h.2⟩
/-- One word a line. -/
theorem len_four (ss : List Stm) (h : ∀ s ∈ ss, s = JS ∨ s = ES) : lenT ss = 4 * ss.length := by
  induction ss with
  | nil => rfl
  | cons s ss ih =>
    have h1 := ih (fun x hx => h x (List.mem_cons_of_mem _ hx))
    have h2 : stLen s = 4 := by rcases h s (List.mem_cons_self ..) with rfl | rfl <;> rfl
    simp only [lenT, List.length_cons, h1, h2]; omega
def EcI : Ins := ⟨39, 0, 0, 0, 0⟩
def JalI (d : Int) : Ins := ⟨3, 7, 0, 0, d⟩
theorem ec_bound : 0 ≤ wordOf EcI ∧ wordOf EcI < 4294967296 := Vx.word_bound EcI (by decide) (by decide)
theorem jal_bound (d : Int) : 0 ≤ wordOf (JalI d) ∧ wordOf (JalI d) < 4294967296 := Vx.word_bound (JalI d) (by show (1 : Int) ≤ 3; decide) (by show (3 : Int) ≤ 48; decide)
/-- The word of a line: a jump to line i0, or an ecall. -/
def xw (js : Nat → Bool) (i0 j : Nat) : Int := if js j then wordOf (JalI (4 * (i0 : Int) - 4 * (j : Int))) else wordOf EcI
theorem xw_bound (js : Nat → Bool) (i0 j : Nat) : 0 ≤ xw js i0 j ∧ xw js i0 j < 4294967296 := by
  unfold xw; split
  · exact jal_bound _
  · exact ec_bound
def codeG (js : Nat → Bool) (i0 k : Nat) : List UInt8 := (List.range k).flatMap fun j => fourB (xw js i0 j).toNat
theorem codeG_succ (js : Nat → Bool) (i0 k : Nat) : codeG js i0 (k + 1) = codeG js i0 k ++ fourB (xw js i0 k).toNat := by
  unfold codeG; rw [List.range_succ, List.flatMap_append]; simp
theorem codeG_len (js : Nat → Bool) (i0 k : Nat) : (codeG js i0 k).length = 4 * k := by
  induction k with
  | zero => rfl
  | succ k ih => rw [codeG_succ, List.length_append, ih]; show 4 * k + 4 = _; omega
/-- The four bytes of line j. -/
theorem codeG_at (js : Nat → Bool) (i0 j N : Nat) (h : j < N) : ((codeG js i0 N).drop (4 * j)).take 4 = fourB (xw js i0 j).toNat := by
  induction N with
  | zero => omega
  | succ N ih =>
    rw [codeG_succ]
    have hl := codeG_len js i0 N
    by_cases hj : j < N
    · rw [List.drop_append_of_le_length (by omega), List.take_append_of_le_length (by rw [List.length_drop]; omega)]
      exact ih hj
    · have : j = N := by omega
      subst this
      rw [List.drop_append, List.drop_of_length_le (by omega)]
      rw [show 4 * j - (codeG js i0 j).length = 0 by omega]
      rfl
theorem asm_good (srcs : List (List UInt8)) (N : Nat) (hN : srcs.length = N) (js : Nat → Bool) (i0 : Nat) (hi0 : i0 < N) (hN9 : N ≤ 901) (hsize : (joinB srcs).length ≤ 20000)
    (hpl : ∀ k, k < N → k ≠ i0 → srcs[k]? = some (if js k then jalL else ecallL)) (hll : srcs[i0]? = some (preL ++ (if js i0 then jalL else ecallL)))
    (mx : Int) (w : World) (hm : MaxAt mx w) (hF : FormsAt w) (hg : 1 < w.heap.size) :
    Calls Tryz.prog 6 #[.string ⟨(joinB srcs).toArray⟩] w fun e w' => e = .returned (.tuple #[.string ⟨(codeG js i0 N).toArray⟩, .int .i64 0, .int .i64 0]) ∧ Only (fun _ => False) w w' := by
  obtain ⟨sts, hsts⟩ : ∃ sts, (List.range N).map (fun k => if js k then JS else ES) = sts := ⟨_, rfl⟩
  have hsl : sts.length = N := by rw [← hsts]; simp
  have hsk : ∀ k (hk : k < sts.length), sts[k] = if js k then JS else ES := by
    intro k hk; subst hsts; simp
  have hall : ∀ s ∈ sts, s = JS ∨ s = ES := by
    intro s hs
    rw [← hsts, List.mem_map] at hs
    obtain ⟨k, _, rfl⟩ := hs
    cases js k
    · exact Or.inr rfl
    · exact Or.inl rfl
  have hat : ∀ k, k ≤ N → lenT (sts.take k) = 4 * k := fun k hk => by
    rw [len_four _ (fun s hs => hall s (List.mem_of_mem_take hs)), List.length_take]; omega
  have hA : Asm srcs sts (nL (some i0)) (DL sts (some i0)) := by
    refine asm_build srcs sts (some i0) (by omega) (fun e => by rw [e] at hN; simp at hN; omega) (by omega) hsize ?_ ?_
    · intro k hk hne
      have h := hpl k (by omega) (fun e => hne (by rw [e]))
      rw [List.getElem?_eq_getElem hk] at h
      rw [Option.some.inj h, hsk]
      cases js k
      · exact pl_ecall
      · exact pl_jal
    · intro k hk he
      obtain rfl : i0 = k := Option.some.inj he
      rw [List.getElem?_eq_getElem hk] at hll
      rw [Option.some.inj hll, hsk]
      cases js i0
      · exact ll_ecall
      · exact ll_jal
  have hD : DL sts (some i0) srcs.length = (DataW.map []).put (.string [116, 111]) (.lit (.int .i64 ((4 * i0 : Nat) : Int))) := by
    simp only [DL, hN, if_pos hi0, hat i0 (by omega)]
  have h := assemble_ok srcs sts (nL (some i0)) (DL sts (some i0)) hA (fun k => [xw js i0 k]) (fun k => Nat.le_refl _) (fun k x hx => by
      obtain rfl := List.mem_singleton.1 hx
      exact xw_bound js i0 k) ?_ ?_ (codeG js i0) rfl (fun k => by rw [codeG_succ]; simp [wordsB]) (fun k hk => by rw [codeG_len]; omega) (fun e => by
      have := codeG_len js i0 sts.length
      rw [e] at this
      simp at this
      omega) mx w hm hF hg
  · rw [hsl] at h
    exact h
  · intro k hk
    have hk2 : k < N := by rw [Vx.accT_len] at hk; omega
    obtain ⟨a1, a2⟩ := acc_at sts 0 k hk
    rw [a1, a2, hsk, hat k (by omega), hD]
    unfold xw
    cases js k
    · exact ⟨by decide, by decide, ecall_dec, rfl⟩
    · refine ⟨by decide, by decide, by decide, 4 * i0, by omega, rfl, rfl, ?_, ?_⟩
      · have := jal_dec (((4 * i0 : Nat) : Int) - ((0 + 4 * k : Nat) : Int)) (by omega) (by omega) (by omega)
        exact this
      · have e : ((4 * i0 : Nat) : Int) - ((0 + 4 * k : Nat) : Int) = 4 * (i0 : Int) - 4 * (k : Int) := by omega
        show [wordOf (JalI (4 * (i0 : Int) - 4 * (k : Int)))] = [wordOf (JalI (((4 * i0 : Nat) : Int) - ((0 + 4 * k : Nat) : Int)))]
        rw [e]
  · intro k hk
    have hk2 : k < N := by rw [Vx.accT_len] at hk; omega
    rw [(acc_at sts 0 k hk).1, hat k (by omega)]
    omega
theorem asm_bad (srcs : List (List UInt8)) (sts : List Stm) (hlen : sts.length = srcs.length) (hne : srcs ≠ []) (hfew : srcs.length ≤ 950) (hsize : (joinB srcs).length ≤ 20000) (jn : Nat) (hj : jn < srcs.length)
    (hpl : ∀ k (hk : k < srcs.length), PlainLine (srcs[k]) (sts[k]'(by omega))) (hES : ∀ k (_ : k < jn), sts[k]'(by omega) = ES) (hJ : sts[jn]'(by omega) = JS)
    (mx : Int) (w : World) (hm : MaxAt mx w) (hF : FormsAt w) (hg : 1 < w.heap.size) :
    Calls Tryz.prog 6 #[.string ⟨(joinB srcs).toArray⟩] w fun e w' => e = .returned (.tuple #[.string ⟨#[]⟩, .int .i64 6, .int .i64 ((jn : Int) + 1)]) ∧ Only (fun _ => False) w w' := by
  have hA : Asm srcs sts (nL none) (DL sts none) := asm_build srcs sts none hlen hne hfew hsize (fun k hk _ => hpl k hk) (fun k hk h => by cases h)
  obtain ⟨cF, hcF⟩ : ∃ cF : Nat → List UInt8, (fun k => (List.range k).flatMap fun _ => fourB (wordOf EcI).toNat) = cF := ⟨_, rfl⟩
  have hcl : ∀ k, (cF k).length = 4 * k := by
    intro k
    rw [← hcF]
    induction k with
    | zero => rfl
    | succ k ih =>
      show ((List.range (k + 1)).flatMap _).length = _
      rw [List.range_succ, List.flatMap_append, List.length_append]
      have : ((List.range k).flatMap fun _ => fourB (wordOf EcI).toNat).length = 4 * k := ih
      rw [this]
      show 4 * k + 4 = _
      omega
  refine assemble_name srcs sts (nL none) (DL sts none) hA (fun k => [wordOf EcI]) (fun k => Nat.le_refl _) (fun k x hx => by
      obtain rfl := List.mem_singleton.1 hx
      exact ec_bound) jn (by rw [Vx.accT_len]; omega) ?_ ?_ cF (by rw [← hcF]; rfl) (fun k => by rw [← hcF]; simp [List.range_succ, wordsB]) (fun k hk => by rw [hcl]; omega) (JalI 0) 116 [111] (by decide) ?_ rfl mx w hm hF hg
  · intro k hk
    rw [(acc_at sts 0 k (by rw [Vx.accT_len]; omega)).2, hES k hk]
    exact ⟨by decide, by decide, ecall_dec, rfl⟩
  · intro k hk
    rw [(acc_at sts 0 k hk).1]
    have := Vx.lenT_le (sts.take k)
    rw [List.length_take] at this
    omega
  · rw [(acc_at sts 0 jn (by rw [Vx.accT_len]; omega)).2, hJ]
    rfl
def fillL (k : Nat) : List UInt8 := (List.replicate k (ecallL ++ [10])).flatten
theorem fill_len (k : Nat) : (fillL k).length = 6 * k := by
  unfold fillL
  induction k with
  | zero => rfl
  | succ k ih => rw [List.replicate_succ, List.flatten_cons, List.length_append, ih]; show 6 + _ = _; omega
theorem fill_succ (k : Nat) : fillL (k + 1) = fillL k ++ (ecallL ++ [10]) := by
  unfold fillL
  rw [List.replicate_succ', List.flatten_append]
  simp
theorem ahead_good (k : Nat) (hk : k < 900) (mx : Int) (w : World) (hm : MaxAt mx w) (hF : FormsAt w) (hg : 1 < w.heap.size) :
    Calls Tryz.prog 6 #[.string ⟨(jalL ++ [10] ++ fillL k ++ (preL ++ ecallL)).toArray⟩] w fun e w' => e = .returned (.tuple #[.string ⟨(codeG (fun j => j == 0) (k + 1) (k + 2)).toArray⟩, .int .i64 0, .int .i64 0]) ∧ Only (fun _ => False) w w' := by
  have hj : joinB (jalL :: (List.replicate k ecallL ++ [preL ++ ecallL])) = jalL ++ [10] ++ fillL k ++ (preL ++ ecallL) := by
    rw [Vx.join_cons _ _ (by simp), Vx.join_rep]
    simp [fillL]
  have h := asm_good (jalL :: (List.replicate k ecallL ++ [preL ++ ecallL])) (k + 2) (by simp) (fun j => j == 0) (k + 1) (by omega) (by omega) (by
      rw [hj]; simp only [List.length_append, fill_len]; show 10 + 1 + 6 * k + (4 + 5) ≤ _; omega) (fun j hjN hne => ?_) ?_ mx w hm hF hg
  · rw [hj] at h; exact h
  · cases j with
    | zero => rfl
    | succ j =>
      rw [List.getElem?_cons_succ, List.getElem?_append_left (by rw [List.length_replicate]; omega), List.getElem?_replicate_of_lt (by omega)]
      rfl
  · rw [List.getElem?_cons_succ, List.getElem?_append_right (by rw [List.length_replicate]; omega), List.length_replicate]
    simp
theorem ahead_bad (k : Nat) (hk : k < 900) (mx : Int) (w : World) (hm : MaxAt mx w) (hF : FormsAt w) (hg : 1 < w.heap.size) :
    Calls Tryz.prog 6 #[.string ⟨(jalL ++ [10] ++ fillL k).toArray⟩] w fun e w' => e = .returned (.tuple #[.string ⟨#[]⟩, .int .i64 6, .int .i64 1]) ∧ Only (fun _ => False) w w' := by
  have hj : joinB (jalL :: (List.replicate k ecallL ++ [[]])) = jalL ++ [10] ++ fillL k := by
    rw [Vx.join_cons _ _ (by simp), Vx.join_rep]
    simp [fillL]
  have h := asm_bad (jalL :: (List.replicate k ecallL ++ [[]])) (JS :: (List.replicate k ES ++ [.no])) (by simp) (by simp) (by simp; omega) (by
      rw [hj]; simp only [List.length_append, fill_len]; show 10 + 1 + 6 * k ≤ _; omega) 0 (by simp) (fun j hjN => ?_) (fun j h => by omega) rfl mx w hm hF hg
  · rw [hj] at h; exact h
  · cases j with
    | zero => exact pl_jal
    | succ j =>
      have hjN2 : j < k + 1 := by simpa using hjN
      rw [List.getElem_cons_succ, List.getElem_cons_succ]
      by_cases hjk : j < k
      · rw [List.getElem_append_left (by simpa using hjk), List.getElem_append_left (by simpa using hjk), List.getElem_replicate, List.getElem_replicate]
        exact pl_ecall
      · obtain rfl : j = k := by omega
        rw [List.getElem_append_right (by simp), List.getElem_append_right (by simp)]
        simp only [List.length_replicate, Nat.sub_self, List.getElem_cons_zero]
        exact pl_none
theorem behind_bad (k : Nat) (hk : k < 900) (mx : Int) (w : World) (hm : MaxAt mx w) (hF : FormsAt w) (hg : 1 < w.heap.size) :
    Calls Tryz.prog 6 #[.string ⟨(fillL k ++ jalL).toArray⟩] w fun e w' => e = .returned (.tuple #[.string ⟨#[]⟩, .int .i64 6, .int .i64 ((k : Int) + 1)]) ∧ Only (fun _ => False) w w' := by
  have hj : joinB (List.replicate k ecallL ++ [jalL]) = fillL k ++ jalL := by
    rw [Vx.join_rep]; rfl
  have h := asm_bad (List.replicate k ecallL ++ [jalL]) (List.replicate k ES ++ [JS]) (by simp) (by simp) (by simp; omega) (by
      rw [hj]; simp only [List.length_append, fill_len]; show 6 * k + 10 ≤ _; omega) k (by simp) (fun j hjN => ?_) (fun j h => ?_) ?_ mx w hm hF hg
  · rw [hj] at h; exact h
  · have hjN2 : j < k + 1 := by simpa using hjN
    by_cases hjk : j < k
    · rw [List.getElem_append_left (by simpa using hjk), List.getElem_append_left (by simpa using hjk), List.getElem_replicate, List.getElem_replicate]
      exact pl_ecall
    · obtain rfl : j = k := by omega
      rw [List.getElem_append_right (by simp), List.getElem_append_right (by simp)]
      simp only [List.length_replicate, Nat.sub_self, List.getElem_cons_zero]
      exact pl_jal
  · rw [List.getElem_append_left (by simpa using h), List.getElem_replicate]
  · rw [List.getElem_append_right (by simp)]; simp
theorem behind_good (k : Nat) (hk : k < 900) (mx : Int) (w : World) (hm : MaxAt mx w) (hF : FormsAt w) (hg : 1 < w.heap.size) :
    Calls Tryz.prog 6 #[.string ⟨(preL ++ fillL k ++ jalL).toArray⟩] w fun e w' => e = .returned (.tuple #[.string ⟨(codeG (fun j => j == k) 0 (k + 1)).toArray⟩, .int .i64 0, .int .i64 0]) ∧ Only (fun _ => False) w w' := by
  have hj : joinB (List.replicate k ecallL ++ [jalL]) = fillL k ++ jalL := by
    rw [Vx.join_rep]; rfl
  obtain ⟨d, ds, hd⟩ : ∃ d ds, List.replicate k ecallL ++ [jalL] = d :: ds := by
    cases e : List.replicate k ecallL ++ [jalL] with
    | nil => simp at e
    | cons d ds => exact ⟨d, ds, rfl⟩
  have hdk : ∀ j, j < k + 1 → (d :: ds)[j]? = some (if (j == k) then jalL else ecallL) := by
    intro j hjk
    rw [← hd]
    by_cases h : j < k
    · rw [List.getElem?_append_left (by simpa using h), List.getElem?_replicate_of_lt h]
      simp [show j ≠ k by omega]
    · obtain rfl : j = k := by omega
      rw [List.getElem?_append_right (by simp)]
      simp
  have hl : (d :: ds).length = k + 1 := by rw [← hd]; simp
  have hj2 : joinB ((preL ++ d) :: ds) = preL ++ fillL k ++ jalL := by
    rw [Vx.join_head, ← hd, hj, List.append_assoc]
  have h := asm_good ((preL ++ d) :: ds) (k + 1) (by simpa using hl) (fun j => j == k) 0 (by omega) (by omega) (by
      rw [hj2]; simp only [List.length_append, fill_len]; show 4 + 6 * k + 10 ≤ _; omega) (fun j hjN hne => ?_) ?_ mx w hm hF hg
  · rw [hj2] at h; exact h
  · cases j with
    | zero => exact absurd rfl hne
    | succ j => exact hdk (j + 1) hjN
  · have h0 := hdk 0 (by omega)
    rw [List.getElem?_cons_zero] at h0 ⊢
    rw [Option.some.inj h0]
end Go.Proofs.YtmfookpigilccaaGreatDoor

import Derived.Test.YtfgdlbclmihghaaDoorCk17
import Derived.Test.YtfgdlbclmihghaaDoorCk2
/- Chapter 7, the document's store: Below. -/
namespace Go.Proofs.YtfgdlbclmihghaaDoor
open Go.ChangeShapes Go.WideShapes Go.ChangeAt Go.RowKit
open Go.Vx
set_option linter.unusedVariables false

def BelowL (bs : List (Int × Int)) (es : List En) (D : Nat) (s : Sl) : List Sl := match fullF bs es s with | .ok _ => belN es (D + 1) s | .error _ => []
theorem Below_ok {U : Nat → Prop} {w : World} {rb : Nat} {vb ve : Value} {bs : List (Int × Int)} {es : List En} (h : RsAt U w rb vb ve bs es) (r : Sl → Nat) (D : Nat) (hr : ∀ e ∈ es, r e.from' < r e.at') (hD : ∀ e ∈ es, r e.at' ≤ D) (hL : ∀ d s, (belN es d s).length ≤ 1000000) (s : Sl) :
    Calls Tryd.prog 39 #[.pointer (some ⟨rb, 0, none⟩), .agg #[.int .i64 s.1, .int .i64 s.2]] w fun e w' => ∃ v, e = .returned (.tuple #[v, .int .i64 (fullE (fullF bs es s))]) ∧ OwnL slL w' w.heap.size 62 v (BelowL bs es D s) ∧ Only (fun _ => False) w w' := by
  have HBE := Vx.hid (fun wv (hv : Only (fun _ => False) w wv) => below_ok r D hr hD hL (D + 1) s wv (h.quiet hv) (by omega))
  obtain ⟨s1, s2⟩ := s
  have HFU : Hid (∀ wv, Only (fun _ => False) w wv → Calls Tryd.prog 63 #[.pointer (some ⟨rb, 0, none⟩), .agg #[.int .i64 s1, .int .i64 s2]] wv fun e w' => e = .returned (.tuple #[.int .i64 (fullI (fullF bs es (s1, s2))), .int .i64 (fullE (fullF bs es (s1, s2)))]) ∧ Only (fun _ => False) wv w') := fun wv hv => full_ok (h.quiet hv) (s1, s2)
  obtain ⟨w1, hw1⟩ : ∃ w1, w1 = w.alloc (.cells #[.int .i64 s1, .int .i64 s2] 62) := ⟨_, rfl⟩
  have hon : Only (fun _ => False) w w1 := by rw [hw1]; exact (Only.refl _ w).alloc _
  have bS : w1.heap[w.heap.size]? = some (.cells #[.int .i64 s1, .int .i64 s2] 62 (0, 0)) := by rw [hw1]; exact heap_alloc_last w _
  obtain ⟨sb, hsb⟩ : ∃ sb, sb = w.heap.size := ⟨_, rfl⟩
  rw [← hsb] at bS
  obtain ⟨⟨S0, S1⟩, _⟩ := slot_cells bS
  have HB := Vx.hid (⟨bS, hon⟩ : _ ∧ _)
  clear h hr hD hL bS hon
  dsimp only
  rcases full_cases bs es (s1, s2) with ⟨i, hf, hi⟩ | hf | hf
  · have HL : Hid (BelowL bs es D (s1, s2) = belN es (D + 1) (s1, s2)) := by show BelowL _ _ _ _ = _; unfold BelowL; rw [hf]
    have HE : Hid (fullE (fullF bs es (s1, s2)) = 0) := by show fullE _ = _; rw [hf]; rfl
    rw [hf] at HFU
    simp only [fullI, fullE] at HFU
    clear hf hi
    go_enter Tryd.func39, Tryd.ntmps39
    go_upto_region 1 with fail
    rw [← hw1, ← hsb]
    clear hw1 hsb
    go_wp2_with fail
    refine (HFU.out _ HB.out.2).mono ?_
    rintro e w2 ⟨rfl, h2⟩
    obtain ⟨⟨S02, S12⟩, _⟩ := slot_cells ((h2.block sb (lt_of_some HB.out.1) (fun h => h)).trans HB.out.1)
    have H2 := Vx.hid (HB.out.2.trans h2)
    clear h2 HFU
    go_wp2_with fail
    refine (HBE.out _ H2.out).mono ?_
    rintro e w3 ⟨v, rfl, hv, h3⟩
    have H3 := Vx.hid (⟨hv, h3⟩ : _ ∧ _)
    clear hv h3
    go_wp2_with fail
    all_goals
      go_ret2
      exact ⟨v, by rw [HE.out]; rfl, by rw [HL.out]; exact own_base H3.out.1 H2.out.size, H2.out.trans H3.out.2⟩
  · have HL : Hid (BelowL bs es D (s1, s2) = []) := by show BelowL _ _ _ _ = _; unfold BelowL; rw [hf]
    have HE : Hid (fullE (fullF bs es (s1, s2)) = 9) := by show fullE _ = _; rw [hf]; rfl
    rw [hf] at HFU
    simp only [fullI, fullE] at HFU
    clear hf HBE
    go_enter Tryd.func39, Tryd.ntmps39
    go_upto_region 1 with fail
    rw [← hw1, ← hsb]
    clear hw1 hsb
    go_wp2_with fail
    refine (HFU.out _ HB.out.2).mono ?_
    rintro e w2 ⟨rfl, h2⟩
    have H2 := Vx.hid (HB.out.2.trans h2)
    clear h2 HFU
    go_wp2_with fail
    all_goals
      go_ret2
      exact ⟨.slice none 0 0, by rw [HE.out]; rfl, by rw [HL.out]; exact OwnL.nil _ _ _ _, H2.out⟩
  · have HL : Hid (BelowL bs es D (s1, s2) = []) := by show BelowL _ _ _ _ = _; unfold BelowL; rw [hf]
    have HE : Hid (fullE (fullF bs es (s1, s2)) = 11) := by show fullE _ = _; rw [hf]; rfl
    rw [hf] at HFU
    simp only [fullI, fullE] at HFU
    clear hf HBE
    go_enter Tryd.func39, Tryd.ntmps39
    go_upto_region 1 with fail
    rw [← hw1, ← hsb]
    clear hw1 hsb
    go_wp2_with fail
    refine (HFU.out _ HB.out.2).mono ?_
    rintro e w2 ⟨rfl, h2⟩
    have H2 := Vx.hid (HB.out.2.trans h2)
    clear h2 HFU
    go_wp2_with fail
    all_goals
      go_ret2
      exact ⟨.slice none 0 0, by rw [HE.out]; rfl, by rw [HL.out]; exact OwnL.nil _ _ _ _, H2.out⟩
end Go.Proofs.YtfgdlbclmihghaaDoor

/- Chapter 7, pure: what is below a slot is told once each. -/
namespace Go.Vx
set_option linter.unusedVariables false
/-- A slot lies below another. -/
def Bel (es : List En) (s t : Sl) : Prop := ∀ p : Sl → Prop, (∀ e ∈ es, e.from' = s → p e.at') → (∀ e ∈ es, p e.from' → p e.at') → p t
theorem Bel.one {es : List En} (e : En) (he : e ∈ es) : Bel es e.from' e.at' := fun p h1 h2 => h1 e he rfl
theorem Bel.step {es : List En} {s : Sl} (e : En) (h : Bel es s e.from') (he : e ∈ es) : Bel es s e.at' := fun p h1 h2 => h2 e he (h p h1 h2)
theorem Bel.ind {es : List En} {s t : Sl} (h : Bel es s t) (p : Sl → Prop) (h1 : ∀ e ∈ es, e.from' = s → p e.at') (h2 : ∀ e ∈ es, Bel es s e.from' → p e.from' → p e.at') : p t :=
  (h (fun x => Bel es s x ∧ p x) (fun e he hf => ⟨hf ▸ Bel.one e he, h1 e he hf⟩) (fun e he hp => ⟨Bel.step e hp.1 he, h2 e he hp.1 hp.2⟩)).2
theorem Bel.ahead {es : List En} {t : Sl} (e : En) (he : e ∈ es) (h : Bel es e.at' t) : Bel es e.from' t :=
  h.ind (fun x => Bel es e.from' x) (fun e2 h2 hf => Bel.step e2 (by rw [hf]; exact Bel.one e he) h2) (fun e2 h2 _ ih => Bel.step e2 ih h2)
theorem Bel.rank {es : List En} {r : Sl → Nat} (hr : ∀ e ∈ es, r e.from' < r e.at') {s t : Sl} (h : Bel es s t) : r s < r t :=
  h.ind (fun x => r s < r x) (fun e he hf => hf ▸ hr e he) (fun e he _ ih => Nat.lt_trans ih (hr e he))
/-- Each slot stands once. -/
def Once (es : List En) : Prop := ∀ e ∈ es, ∀ e2 ∈ es, e.at' = e2.at' → e = e2
theorem Bel.last {es : List En} (ho : Once es) {s : Sl} {e : En} (he : e ∈ es) (h : Bel es s e.at') : s = e.from' ∨ Bel es s e.from' := by
  refine h.ind (fun x => ∀ e ∈ es, e.at' = x → s = e.from' ∨ Bel es s e.from') (fun e2 h2 hf e he ht => ?_) (fun e2 h2 h1 _ e he ht => ?_) e he rfl
  · rw [ho e he e2 h2 ht]; exact Or.inl hf.symm
  · rw [ho e he e2 h2 ht]; exact Or.inr h1
/-- Of two that a slot is below, one is below the other. -/
theorem Bel.two {es : List En} (ho : Once es) {a b t : Sl} (h1 : a = t ∨ Bel es a t) (h2 : b = t ∨ Bel es b t) : a = b ∨ Bel es a b ∨ Bel es b a := by
  rcases h1 with rfl | h1
  · rcases h2 with rfl | h2
    · exact Or.inl rfl
    · exact Or.inr (Or.inr h2)
  · refine h1.ind (fun t => (b = t ∨ Bel es b t) → a = b ∨ Bel es a b ∨ Bel es b a) (fun e he hf h2 => ?_) (fun e he h3 ih h2 => ?_) h2
    · rcases h2 with h2 | h2
      · exact Or.inr (Or.inl (by rw [h2, ← hf]; exact Bel.one e he))
      · rcases Bel.last ho he h2 with h3 | h3
        · exact Or.inl (by rw [h3, hf])
        · exact Or.inr (Or.inr (by rw [← hf]; exact h3))
    · rcases h2 with h2 | h2
      · exact Or.inr (Or.inl (by rw [h2]; exact Bel.step e h3 he))
      · exact ih (by rcases Bel.last ho he h2 with h4 | h4; exact Or.inl h4; exact Or.inr h4)
theorem nodup_le {α : Type} [DecidableEq α] : ∀ (l m : List α), l.Nodup → (∀ x ∈ l, x ∈ m) → l.length ≤ m.length
  | [], m, _, _ => Nat.zero_le _
  | x :: l, m, hn, hs => by
    rw [List.nodup_cons] at hn
    have hx := hs x (by simp)
    have h1 := nodup_le l (m.erase x) hn.2 (fun y hy => by
      have hyx : y ≠ x := fun e => hn.1 (by rw [← e]; exact hy)
      exact (List.mem_erase_of_ne hyx).2 (hs y (by simp [hy])))
    rw [List.length_erase_of_mem hx] at h1
    have : 0 < m.length := List.length_pos_of_mem hx
    rw [List.length_cons]
    omega
end Go.Vx
namespace Go.Proofs.YtfgdlbclmihghaaDoor
open Go.Vx
set_option linter.unusedVariables false
theorem belN_bel (es : List En) : ∀ (d : Nat) (s t : Sl), t ∈ belN es d s → Bel es s t
  | 0, s, t, h => by cases h
  | d + 1, s, t, h => by
    unfold belN at h
    rw [List.mem_flatMap] at h
    obtain ⟨e, he, h⟩ := h
    by_cases hf : e.from' = s
    · rw [if_pos hf, List.mem_cons] at h
      rcases h with rfl | h
      · rw [← hf]; exact Bel.one e he
      · rw [← hf]; exact Bel.ahead e he (belN_bel es d e.at' t h)
    · rw [if_neg hf] at h; cases h
theorem belN_mem (es : List En) : ∀ (d : Nat) (s t : Sl), t ∈ belN es d s → t ∈ es.map (·.at')
  | 0, s, t, h => by cases h
  | d + 1, s, t, h => by
    unfold belN at h
    rw [List.mem_flatMap] at h
    obtain ⟨e, he, h⟩ := h
    by_cases hf : e.from' = s
    · rw [if_pos hf, List.mem_cons] at h
      rcases h with rfl | h
      · exact List.mem_map.2 ⟨e, he, rfl⟩
      · exact belN_mem es d e.at' t h
    · rw [if_neg hf] at h; cases h
theorem belN_nodup (es : List En) (ho : Once es) (hn : (es.map (·.at')).Nodup) (r : Sl → Nat) (hr : ∀ e ∈ es, r e.from' < r e.at') : ∀ (d : Nat) (s : Sl), (belN es d s).Nodup
  | 0, s => List.nodup_nil
  | d + 1, s => by
    unfold belN
    have hp : (es.flatMap fun e => if e.from' = s then e.at' :: belN es d e.at' else []).Pairwise (· ≠ ·) := by
      rw [List.pairwise_flatMap]
      refine ⟨fun e he => ?_, ?_⟩
      · by_cases hf : e.from' = s
        · rw [if_pos hf]
          have h1 := belN_nodup es ho hn r hr d e.at'
          refine List.pairwise_cons.2 ⟨fun t ht hE => ?_, h1⟩
          have h2 := (belN_bel es d e.at' t ht).rank hr
          rw [hE] at h2
          omega
        · rw [if_neg hf]; exact List.Pairwise.nil
      · have hn2 : es.Pairwise (fun a b => a.at' ≠ b.at') := List.pairwise_map.1 hn
        refine hn2.imp_of_mem (fun {a b} ha hb hab x hx y hy hxy => ?_)
        by_cases hfa : a.from' = s
        · by_cases hfb : b.from' = s
          · rw [if_pos hfa, List.mem_cons] at hx
            rw [if_pos hfb, List.mem_cons] at hy
            subst hxy
            have h1 : a.at' = x ∨ Bel es a.at' x := hx.imp (fun h => h.symm) (fun h => belN_bel es d _ _ h)
            have h2 : b.at' = x ∨ Bel es b.at' x := hy.imp (fun h => h.symm) (fun h => belN_bel es d _ _ h)
            rcases Bel.two ho h1 h2 with h | h | h
            · exact hab h
            · have h3 := Bel.last ho hb h
              have h4 := hr a ha
              rw [hfb] at h3
              rw [hfa] at h4
              rcases h3 with h3 | h3
              · rw [h3] at h4; omega
              · have := h3.rank hr; omega
            · have h3 := Bel.last ho ha h
              have h4 := hr b hb
              rw [hfa] at h3
              rw [hfb] at h4
              rcases h3 with h3 | h3
              · rw [h3] at h4; omega
              · have := h3.rank hr; omega
          · rw [if_neg hfb] at hy; cases hy
        · rw [if_neg hfa] at hx; cases hx
    exact hp
theorem belN_len (es : List En) (ho : Once es) (hn : (es.map (·.at')).Nodup) (r : Sl → Nat) (hr : ∀ e ∈ es, r e.from' < r e.at') (d : Nat) (s : Sl) : (belN es d s).length ≤ es.length := by
  have h1 := nodup_le _ _ (belN_nodup es ho hn r hr d s) (belN_mem es d s)
  rw [List.length_map] at h1
  exact h1
end Go.Proofs.YtfgdlbclmihghaaDoor

/- Chapter 7, the document's: digitsOf. -/
namespace Go.Proofs.YtfgdlbclmihghaaDoor
open Go.ChangeShapes Go.WideShapes Go.ChangeAt Go.RowKit
open Go.Vx
set_option linter.unusedVariables false

/-- Some bits of a number. -/
def digF (a left n : Nat) : Nat := a / 2 ^ (left - n) % 2 ^ n
theorem pow_le32 (k : Nat) (h : k ≤ 32) : 2 ^ k ≤ 4294967296 := Nat.pow_le_pow_right (by decide) h
set_option maxHeartbeats 2000000 in
theorem digitsOf_ok (a left n : Nat) (ha : a < 4294967296) (hn : n ≤ left) (hl : left ≤ 32) (w : World) : Calls Tryd.prog 69 #[.int .i64 (a : Int), .int .i64 (left : Int), .int .i64 (n : Int)] w fun e w' => e = .returned (.int .i64 (digF a left n : Nat)) ∧ w' = w := by
  obtain ⟨D, hD⟩ : ∃ D, D = left - n := ⟨_, rfl⟩
  have hdl : IntKind.i64.wrap ((left : Int) - (n : Int)) = (D : Int) := by rw [IntKind.wrap_i64]; omega
  have hD32 : D ≤ 32 := by omega
  have HD : Hid (digF a left n = a / 2 ^ D % 2 ^ n) := by show digF a left n = _; unfold digF; rw [hD]
  clear hD
  go_enter Tryd.func69, Tryd.ntmps69
  go_wp2_with fail
  go_loopw [7, 8] (fun v d wr => ∃ k V : Nat, v = .int .i64 (V : Int) ∧ d = .int .i64 (k : Int) ∧ k ≤ D ∧ V < 4294967296 ∧ Hid (V = a / 2 ^ k) ∧ wr = w) (fun _ d _ => D - (intOf d).toNat)
  case atStart => exact ⟨0, a, rfl, rfl, by omega, ha, (show a = a / 2 ^ 0 by simp), rfl⟩
  case round =>
    obtain ⟨k, V, rfl, rfl, hk, hV, HV, rfl⟩ := hrel
    by_cases hlt : k < D
    · have h1 : (k : Int) < (D : Int) := by omega
      have hwk : IntKind.i64.wrap ((k : Int) + 1) = (k : Int) + 1 := by rw [IntKind.wrap_i64]; omega
      obtain ⟨V2, hV2⟩ : ∃ V2, V2 = V / 2 := ⟨_, rfl⟩
      have q0 : Int.tdiv (V : Int) 2 = (V2 : Int) := by rw [Int.tdiv_eq_ediv_of_nonneg (by omega)]; omega
      have q0' : (V : Int) / 2 = (V2 : Int) := by omega
      have q1 : IntKind.i64.wrap (V2 : Int) = (V2 : Int) := by rw [IntKind.wrap_i64]; omega
      have hV3 : V2 < 4294967296 := by omega
      have HV2 : Hid (V2 = a / 2 ^ (k + 1)) := by show V2 = _; rw [hV2, HV.out, Nat.div_div_eq_div_mul, Nat.pow_succ]
      clear hlt hV2 HV
      go_wp2_with fail
      go_roundw
      case rel => exact ⟨k + 1, V2, rfl, by go_num, by omega, hV3, HV2, trivial⟩
      case measure => simp only [intOf]; omega
    · obtain rfl : k = D := by omega
      have h1 : ¬ (k : Int) < (k : Int) := by omega
      clear hlt
      go_wp2_with fail
      go_loopw [9, 10] (fun p d wx => ∃ i p' : Nat, p = .int .i64 (p' : Int) ∧ d = .int .i64 (i : Int) ∧ i ≤ n ∧ p' ≤ 4294967296 ∧ Hid (p' = 2 ^ i) ∧ wx = wr) (fun _ d _ => n - (intOf d).toNat)
      case atStart => exact ⟨0, 1, rfl, rfl, by omega, by omega, rfl, rfl⟩
      case round =>
        obtain ⟨i, p', rfl, rfl, hi, hp, HP, rfl⟩ := hrel
        by_cases hlt : i < n
        · have h2 : (i : Int) < (n : Int) := by omega
          have hwi : IntKind.i64.wrap ((i : Int) + 1) = (i : Int) + 1 := by rw [IntKind.wrap_i64]; omega
          have hwp : IntKind.i64.wrap (2 * (p' : Int)) = 2 * (p' : Int) := by rw [IntKind.wrap_i64]; omega
          have hp2 : 2 * p' ≤ 4294967296 := by
            have h3 := pow_le32 (i + 1) (by omega)
            rw [Nat.pow_succ] at h3
            have h4 := HP.out
            omega
          have HP2 : Hid (2 * p' = 2 ^ (i + 1)) := by show 2 * p' = _; rw [HP.out, Nat.pow_succ]; omega
          clear hlt HP
          go_wp2_with fail
          go_roundw
          case rel => exact ⟨i + 1, 2 * p', by go_num, by go_num, by omega, hp2, HP2, trivial⟩
          case measure => simp only [intOf]; omega
        · obtain rfl : i = n := by omega
          have h2 : ¬ (i : Int) < (i : Int) := by omega
          have hp0 : 0 < p' := by rw [HP.out]; exact Nat.pow_pos (by decide)
          have hpn : ((p' : Int) == 0) = false := beq_eq_false_iff_ne.2 (by omega)
          have hpn2 : ¬ (p' : Int) = 0 := by omega
          obtain ⟨M, hM⟩ : ∃ M, M = V % p' := ⟨_, rfl⟩
          have hml : M < 4294967296 := by have := Nat.mod_le V p'; omega
          have r0 : Int.tmod (V : Int) (p' : Int) = (M : Int) := by rw [Int.tmod_eq_emod_of_nonneg (by omega), hM]; omega
          have r0' : (V : Int) % (p' : Int) = (M : Int) := by rw [hM]; omega
          have r1 : IntKind.i64.wrap (M : Int) = (M : Int) := by rw [IntKind.wrap_i64]; omega
          have HF : Hid (digF a left i = M) := by show digF a left i = M; rw [HD.out, hM, HP.out, HV.out]
          clear hlt hM hp0
          go_wp2_with fail
          all_goals
            go_ret
            exact ⟨by rw [HF.out]; rfl, rfl⟩
end Go.Proofs.YtfgdlbclmihghaaDoor

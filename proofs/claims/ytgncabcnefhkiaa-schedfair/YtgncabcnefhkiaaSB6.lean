/- Chapter 9, the document's scheduler: first: who is to run. -/
import Derived.Test.YtgncabcnefhkiaaSB5
namespace Go.Vx
/-- The better one so far. -/
def bestS (es : List Et) (d : Int) (b : Option Nat) (i : Nat) : Option Nat :=
  if (es.getD i .df).dom ≠ d ∨ (es.getD i .df).came = 0 then b else match b with
  | none => some i
  | some j => if (es.getD j .df).prio < (es.getD i .df).prio ∨ ((es.getD i .df).prio = (es.getD j .df).prio ∧ (es.getD i .df).came < (es.getD j .df).came) then some i else some j
def bestN (es : List Et) (d : Int) : Nat → Option Nat
  | 0 => none
  | k + 1 => bestS es d (bestN es d k) k
def bestF (es : List Et) (d : Int) : Option Nat := bestN es d es.length
theorem bestN_lt (es : List Et) (d : Int) : ∀ k j, bestN es d k = some j → j < k
  | 0, j, h => by cases h
  | k + 1, j, h => by
    unfold bestN bestS at h
    split at h
    · have := bestN_lt es d k j h; omega
    · split at h
      · injection h with h; omega
      · rename_i b hb
        have := bestN_lt es d k b hb
        split at h <;> (injection h with h; omega)
end Go.Vx
namespace Go.Proofs.Ytgncabcnefhkiaa
open Go.ChangeShapes Go.WideShapes Go.ChangeAt Go.RowKit
open Go.Vx
set_option linter.unusedVariables false
variable {U V S : Nat → Prop} {w w2 w3 : World} {sb : Nat} {vt vl : Value} {ts : List (Int × Int)} {t : Nat} {lf : Int} {es : List Et} {ck : Nat}

set_option maxRecDepth 100000 in
set_option maxHeartbeats 4000000 in
theorem sfirst_ok (h : SdAt U w sb vt vl ts t lf es ck) (d : Int) : Calls Try.prog 55 #[.pointer (some ⟨sb, 0, none⟩), .int .i64 d] w fun e w' => e = .returned (.int .i64 (idI (bestF es d))) ∧ Only (fun _ => False) w w' := by
  have HH := Vx.hid h
  obtain ⟨q, c, hvl, _⟩ := h.l.form
  obtain ⟨N, hN⟩ : ∃ N, N = es.length := ⟨_, rfl⟩
  rw [← hN] at hvl
  subst hvl
  have HN := Vx.hid hN
  have hn := h.nl
  rw [← hN] at hn
  clear h hN
  go_enter Try.func55, Try.ntmps55
  go_wp2_with fail
  go_loopw [5, 6, 7] (fun b i _ wr => ∃ k : Nat, i = .int .i64 (k : Int) ∧ k ≤ N ∧ b = .int .i64 (idI (bestN es d k)) ∧ Hid (Only (fun _ => False) w wr)) (fun _ i _ _ => N - (RowKit.intOf i).toNat)
  case atStart => exact ⟨0, rfl, by omega, rfl, Only.refl _ _⟩
  case round =>
    obtain ⟨k, rfl, hk, rfl, HW⟩ := hrel
    have hq := HH.out.quiet HW.out
    have c3 := hq.c3
    by_cases hlt : k < N
    · have h1 : (k : Int) < (N : Int) := by omega
      have hidx : 0 ≤ (k : Int) ∧ (k : Int) < (N : Int) := by omega
      have hwk : IntKind.i64.wrap ((k : Int) + 1) = (k : Int) + 1 := by rw [IntKind.wrap_i64]; omega
      have hkl : k < es.length := by have := HN.out; omega
      obtain ⟨g, rfl⟩ : ∃ g, q = some ⟨g, 0, none⟩ := by
        obtain ⟨g, c2, he⟩ := hq.formL (by omega)
        injection he with he
        exact ⟨g, he⟩
      obtain ⟨b0, b1, b2, b3, b4⟩ := hq.e5 k hkl
      have HST : Hid (bestN es d (k + 1) = bestS es d (bestN es d k) k) := rfl
      have HLT := Vx.hid (bestN_lt es d k)
      have hgk : es.getD k .df = es[k] := getD_et hkl
      have HE5 : Hid (∀ j, j < N → ∃ hj : j < es.length, E5 wr g j es[j] ∧ es.getD j .df = es[j]) := fun j hj => ⟨by have := HN.out; omega, hq.e5 j _, getD_et _⟩
      have HK1 : Hid (k + 1 ≤ N) := hlt
      obtain ⟨w5, hw5⟩ : ∃ w5, w5 = wr.alloc (.cells #[.int .i64 es[k].num, .int .i64 es[k].dom, .int .i64 es[k].prio, .int .i64 es[k].left, .int .i64 es[k].came] 104) := ⟨_, rfl⟩
      have ho5 : Only (fun _ => False) wr w5 := by rw [hw5]; exact (Only.refl _ wr).alloc _
      have HW5 := Vx.hid (HW.out.trans ho5)
      have hz : w5.heap[wr.heap.size]? = some (.cells #[.int .i64 es[k].num, .int .i64 es[k].dom, .int .i64 es[k].prio, .int .i64 es[k].left, .int .i64 es[k].came] 104 (0, 0)) := by rw [hw5]; exact heap_alloc_last _ _
      obtain ⟨E, hE⟩ : ∃ E, E = wr.heap.size := ⟨_, rfl⟩
      rw [← hE] at hz
      have z1 : w5.cell? ⟨E, 1, none⟩ = some (.int .i64 es[k].dom) := (cell_of_row _ _ 1 _ _ (0, 0) hz).trans rfl
      have z2 : w5.cell? ⟨E, 2, none⟩ = some (.int .i64 es[k].prio) := (cell_of_row _ _ 2 _ _ (0, 0) hz).trans rfl
      have z4 : w5.cell? ⟨E, 4, none⟩ = some (.int .i64 es[k].came) := (cell_of_row _ _ 4 _ _ (0, 0) hz).trans rfl
      have d3 := (hq.quiet ho5).c3
      have HE6 : Hid (∀ j, j < N → ∃ hj : j < es.length, E5 w5 g j es[j] ∧ es.getD j .df = es[j]) := fun j hj => ⟨by have := HN.out; omega, (hq.quiet ho5).e5 j _, getD_et _⟩
      clear hlt hz ho5 HE5
      go_upto_region 6 with fail
      rw [← hw5, ← hE]
      clear hw5 hE b0 b1 b2 b3 b4 c3
      have HST2 : Hid (bestN es d (k + 1) = if es[k].dom ≠ d ∨ es[k].came = 0 then bestN es d k else match bestN es d k with
        | none => some k
        | some j => if (es.getD j .df).prio < es[k].prio ∨ (es[k].prio = (es.getD j .df).prio ∧ es[k].came < (es.getD j .df).came) then some k else some j) := by
        show _ = _
        rw [HST.out]
        unfold bestS
        rw [hgk]
      clear HST hgk hq
      generalize es[k].dom = xd at z1 HST2
      generalize es[k].prio = xp at z2 HST2
      generalize es[k].came = xc at z4 HST2
      try clear hkl
      by_cases g1 : xd = d
      · subst g1
        by_cases g2 : xc = 0
        · subst g2
          rw [if_pos (Or.inr rfl)] at HST2
          go_wp2_with fail
          go_roundw
          case rel => exact ⟨k + 1, by go_num, HK1.out, by rw [HST2.out], HW5⟩
          case measure => have := HK1.out; simp only [RowKit.intOf]; omega
        · have g2' : (xc == 0) = false := beq_eq_false_iff_ne.2 g2
          rw [if_neg (by intro hh; rcases hh with hh | hh; exact hh rfl; exact g2 hh)] at HST2
          cases hb : bestN es xd k with
          | none =>
            rw [hb] at HST2
            have e0 : idI (none : Option Nat) = -1 := rfl
            rw [e0]
            clear e0 hb
            go_wp2_with fail
            go_quiet (fail)
            go_wp2_with fail
            go_roundw
            case rel => exact ⟨k + 1, by go_num, HK1.out, by rw [HST2.out]; rfl, HW5.out.trans ((Only.refl _ _).drewN _)⟩
            case measure => have := HK1.out; simp only [RowKit.intOf]; omega
          | some j =>
            rw [hb] at HST2
            dsimp only at HST2
            have hjk := HLT.out j hb
            obtain ⟨hj, hE5, hgj⟩ := HE6.out j (by omega)
            rw [hgj] at HST2
            have p2 := hE5.c2
            have p4 := hE5.c4
            have e0 : idI (some j) = (j : Int) := rfl
            rw [e0]
            have hjx : 0 ≤ (j : Int) ∧ (j : Int) < (N : Int) := by omega
            have hjn : ¬ (j : Int) < 0 := by omega
            have hjn' : decide ((j : Int) < 0) = false := decide_eq_false hjn
            generalize es[j].prio = yp at p2 HST2
            generalize es[j].came = yc at p4 HST2
            clear e0 hb hE5 hgj hjk hj
            by_cases g3 : yp < xp
            · rw [if_pos (Or.inl g3)] at HST2
              have g3' : decide (yp < xp) = true := decide_eq_true g3
              go_wp2_with fail
              go_quiet (fail)
              go_wp2_with fail
              go_roundw
              case rel => exact ⟨k + 1, by go_num, HK1.out, by rw [HST2.out]; rfl, HW5.out.trans ((Only.refl _ _).drewN _)⟩
              case measure => have := HK1.out; simp only [RowKit.intOf]; omega
            · have g3' : decide (yp < xp) = false := decide_eq_false g3
              by_cases g4 : xp = yp
              · subst g4
                by_cases g5 : xc < yc
                · rw [if_pos (Or.inr ⟨rfl, g5⟩)] at HST2
                  have g5' : decide (xc < yc) = true := decide_eq_true g5
                  go_wp2_with fail
                  go_quiet (fail)
                  go_wp2_with fail
                  go_roundw
                  case rel => exact ⟨k + 1, by go_num, HK1.out, by rw [HST2.out]; rfl, HW5.out.trans ((Only.refl _ _).drewN _)⟩
                  case measure => have := HK1.out; simp only [RowKit.intOf]; omega
                · rw [if_neg (by intro hh; rcases hh with hh | hh; exact g3 hh; exact g5 hh.2)] at HST2
                  have g5' : decide (xc < yc) = false := decide_eq_false g5
                  go_wp2_with fail
                  go_quiet (fail)
                  go_wp2_with fail
                  go_roundw
                  case rel => exact ⟨k + 1, by go_num, HK1.out, by rw [HST2.out]; rfl, HW5.out.trans ((Only.refl _ _).drewN _)⟩
                  case measure => have := HK1.out; simp only [RowKit.intOf]; omega
              · have g4' : (xp == yp) = false := beq_eq_false_iff_ne.2 g4
                rw [if_neg (by intro hh; rcases hh with hh | hh; exact g3 hh; exact g4 hh.1)] at HST2
                go_wp2_with fail
                go_quiet (fail)
                go_wp2_with fail
                go_roundw
                case rel => exact ⟨k + 1, by go_num, HK1.out, by rw [HST2.out]; rfl, HW5.out.trans ((Only.refl _ _).drewN _)⟩
                case measure => have := HK1.out; simp only [RowKit.intOf]; omega
      · have g1' : (xd == d) = false := beq_eq_false_iff_ne.2 g1
        have g1'' : (xd != d) = true := by simpa using g1
        rw [if_pos (Or.inl g1)] at HST2
        go_wp2_with fail
        go_roundw
        case rel => exact ⟨k + 1, by go_num, HK1.out, by rw [HST2.out], HW5⟩
        case measure => have := HK1.out; simp only [RowKit.intOf]; omega
    · obtain rfl : k = N := by omega
      have h1 : ¬ (k : Int) < (k : Int) := by omega
      have HF : Hid (bestF es d = bestN es d k) := by show _ = _; unfold bestF; rw [← HN.out]
      clear hlt hq
      go_wp2_with fail
      all_goals
        go_ret
        exact ⟨by rw [HF.out]; rfl, HW.out⟩
end Go.Proofs.Ytgncabcnefhkiaa

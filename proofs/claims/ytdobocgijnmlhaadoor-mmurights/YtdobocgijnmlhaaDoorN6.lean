/- MmuRights' walk. -/
import Derived.Test.YtdobocgijnmlhaaDoorN5
import Derived.Test.YtdobocgijnmlhaaDoorPat
namespace Go.Proofs.YtdobocgijnmlhaaDoor
open Go.ChangeShapes Go.WideShapes Go.ChangeAt Go.RowKit
open Go.Vx

/-- What a walk that ends well says. -/
theorem walk_cases (f : Nat → UInt8) (n : Nat) (root : Int) (va u : Nat) (hu : u < 3) :
    ((walkF f n root va u).2 ≠ -1 ∧ (walkF f n root va u).1 = 0) ∨
    ((walkF f n root va u).2 = -1 ∧ (leafF f n root va).2.2 = 0 ∧ okB u (leafF f n root va).1 = true ∧ wholeB (leafF f n root va).1 (leafF f n root va).2.1 = true ∧ (walkF f n root va u).1 = (leafF f n root va).1 / 1024 * 4096 + va % (leafF f n root va).2.1 ∧ (walkF f n root va u).1 < 4096 * n) := by
  have e : walkF f n root va u = if (leafF f n root va).2.2 ≠ 0 then (0, ((accC u : Nat) : Int)) else endF n u va (leafF f n root va).1 (leafF f n root va).2.1 := by
    unfold walkF
    rw [if_neg (by omega)]
    rfl
  have ha : (accC u : Int) ≠ -1 := by omega
  have hp : (pageC u : Int) ≠ -1 := by omega
  rw [e]
  split
  · exact Or.inl ⟨ha, rfl⟩
  · rename_i h0
    unfold endF
    split
    · exact Or.inl ⟨hp, rfl⟩
    · rename_i h1
      split
      · exact Or.inl ⟨ha, rfl⟩
      · rename_i h2
        have h1' : (okB u (leafF f n root va).1 && wholeB (leafF f n root va).1 (leafF f n root va).2.1) = true := by simpa using h1
        rw [Bool.and_eq_true] at h1'
        exact Or.inr ⟨rfl, by omega, h1'.1, h1'.2, rfl, by show (leafF f n root va).1 / 1024 * 4096 + va % (leafF f n root va).2.1 < 4096 * n; omega⟩
theorem ok_store_load (e : Nat) (h : okB 2 e = true) : okB 1 e = true := by
  unfold okB rightN at *
  simp only [Bool.and_eq_true, Bool.or_eq_true, Bool.not_eq_true', decide_eq_true_eq, decide_eq_false_iff_not] at *
  simp only [show ¬ (2 : Nat) = 0 by decide, show ¬ (2 : Nat) = 1 by decide, show ¬ (1 : Nat) = 0 by decide, if_false, if_true] at *
  omega
theorem walk_load (f : Nat → UInt8) (n : Nat) (root : Int) (va : Nat) (h : (walkF f n root va 2).2 = -1) : walkF f n root va 1 = walkF f n root va 2 := by
  have e : ∀ u : Nat, u < 3 → walkF f n root va u = if (leafF f n root va).2.2 ≠ 0 then (0, ((accC u : Nat) : Int)) else endF n u va (leafF f n root va).1 (leafF f n root va).2.1 := fun u hu => by
    unfold walkF
    rw [if_neg (by omega)]
    rfl
  rcases walk_cases f n root va 2 (by decide) with ⟨h1, _⟩ | ⟨_, h2, h3, h4, h5, h6⟩
  · exact absurd h h1
  · have e1 := e 1 (by decide)
    have e2 := e 2 (by decide)
    rw [if_neg (by omega)] at e1 e2
    rw [h5] at h6
    unfold endF at e1 e2
    rw [if_neg (by rw [ok_store_load _ h3, h4]; decide), if_neg (by omega)] at e1
    rw [if_neg (by rw [h3, h4]; decide), if_neg (by omega)] at e2
    rw [show ((1 : Nat) : Int) = 1 from rfl] at e1
    rw [show ((2 : Nat) : Int) = 2 from rfl] at e2
    rw [e1, e2]
theorem walk_same (f : Nat → UInt8) (n : Nat) (root : Int) (va u v : Nat) (hu : u < 3) (hv : v < 3) (h1 : (walkF f n root va u).2 = -1) (h2 : (walkF f n root va v).2 = -1) : (walkF f n root va u).1 = (walkF f n root va v).1 := by
  rcases walk_cases f n root va u hu with ⟨h3, _⟩ | ⟨_, _, _, _, h5, _⟩
  · exact absurd h1 h3
  · rcases walk_cases f n root va v hv with ⟨h3, _⟩ | ⟨_, _, _, _, h6, _⟩
    · exact absurd h2 h3
    · rw [h5, h6]
theorem walk_byte (f : Nat → UInt8) (n : Nat) (root : Int) (va u : Nat) (hu : u < 3) : ((walkF f n root va u).2 ≠ -1 → (walkF f n root va u).1 = 0) ∧ ((walkF f n root va u).2 = -1 → (walkF f n root va u).1 < 4096 * n ∧ (walkF f n root va u).1 % 4096 = va % 4096) := by
  rcases walk_cases f n root va u hu with ⟨h3, h4⟩ | ⟨h3, _, _, _, h5, h6⟩
  · exact ⟨fun _ => h4, fun h => absurd h h3⟩
  · refine ⟨fun h => absurd h3 h, fun _ => ⟨h6, ?_⟩⟩
    rw [h5]
    rcases leaf_size f n root va with hs | hs <;> rw [hs] <;> omega
theorem landed_any (pa va : Nat) (c : Int) (hva : va < 4294967296) (h0 : c ≠ -1 → pa = 0) (h1 : c = -1 → pa < 24576 ∧ pa % 4096 = va % 4096) (w : World) :
    Calls Tryd.prog 11 #[.int .i64 (pa : Int), .int .i64 c, .int .u32 (va : Int)] w fun x w' => x = .returned (.bool true) ∧ w' = w := by
  by_cases hc : c = -1
  · obtain ⟨h2, h3⟩ := h1 hc
    subst hc
    have t1 : Int.tmod (pa : Int) 4096 = ((va % 4096 : Nat) : Int) := by rw [Int.tmod_eq_emod_of_nonneg (by omega)]; omega
    have t1' : (pa : Int) % 4096 = ((va % 4096 : Nat) : Int) := by omega
    have t2 : Int.tmod (va : Int) 4096 = ((va % 4096 : Nat) : Int) := by rw [Int.tmod_eq_emod_of_nonneg (by omega)]; omega
    have t2' : (va : Int) % 4096 = ((va % 4096 : Nat) : Int) := by omega
    have hb : va % 4096 < 4096 := by omega
    have w1 : IntKind.i64.wrap ((va % 4096 : Nat) : Int) = ((va % 4096 : Nat) : Int) := by rw [IntKind.wrap_i64]; omega
    generalize va % 4096 = r at t1 t1' t2 t2' hb w1
    have d1 : (pa : Int) < 24576 := by omega
    have d2 : 0 ≤ (pa : Int) := by omega
    clear h0 h1 h2 h3 hva hb
    go_enter Tryd.func11, Tryd.ntmps11
    go_wp2_with fail
    all_goals
      go_ret
      refine ⟨?_, rfl⟩
      first | rfl | (simp <;> omega)
  · obtain rfl := h0 hc
    clear h0 h1
    go_enter Tryd.func11, Tryd.ntmps11
    go_wp2_with fail
    all_goals
      go_ret
      exact ⟨rfl, rfl⟩
/-- What a round of MmuRights leaves. -/
def RightR (W : World) (bm : Nat) (wr : World) : Prop := (∃ f, MemAt (fun k => k < W.heap.size) wr bm 6 f) ∧ Below W.heap.size W wr
theorem right_write {W : World} {bm : Nat} {wr : World} (h : RightR W bm wr) (a : Nat) (s : List UInt8) :
    Calls Tryd.prog 8 #[.pointer (some ⟨bm, 0, none⟩), .int .i64 (a : Int), .string ⟨s.toArray⟩] wr fun e w2 => ∃ c : Int, e = .returned (.int .i64 c) ∧ Hid (RightR W bm w2) := by
  obtain ⟨⟨f, hm⟩, hb⟩ := h
  by_cases hin : a + s.length ≤ 4096 * 6
  · obtain ⟨bp, q, hm⟩ := hm
    refine (write_ok hm a s hin).mono ?_
    rintro e w2 ⟨rfl, hm2, ho⟩
    exact ⟨_, rfl, ⟨_, hm2⟩, hb.trans (ho.below hb.size (fun k hk hn => hn hk))⟩
  · refine (write_no hm (a : Int) s ?_).mono ?_
    · unfold insB
      have : ¬ ((s.length : Nat) : Int) ≤ ((6 : Nat) : Int) * 4096 - (a : Int) := by omega
      simp only [decide_eq_false this, Bool.and_false]
    · rintro e w2 ⟨rfl, rfl⟩
      exact ⟨_, rfl, ⟨f, hm⟩, hb⟩
theorem RightR.drew {W : World} {bm : Nat} {wr : World} (h : RightR W bm wr) : RightR W bm wr.drew := by
  obtain ⟨⟨f, hm⟩, hb⟩ := h
  exact ⟨⟨f, hm.only ((Only.refl (fun _ => False) wr).drew) (fun _ h _ => h.elim)⟩, ⟨hb.os, hb.tape, hb.output, hb.size, hb.block⟩⟩
end Go.Proofs.YtdobocgijnmlhaaDoor

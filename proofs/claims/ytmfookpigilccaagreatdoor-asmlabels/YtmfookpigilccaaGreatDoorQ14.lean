/- The state of package asm's program while a text is read. -/
import Derived.Test.YtmfookpigilccaaGreatDoorQ13
import Derived.Test.YtmfookpigilccaaGreatDoorQ6
namespace Go.Proofs.YtmfookpigilccaaGreatDoor
open Go.ChangeShapes Go.WideShapes Go.ChangeAt Go.RowKit Go.Maps
open Go.Vx (strV labN Only Ins insV Stm stToks stOk stLen wordOf dec tokF)

def lineC (x : Stm × Nat) : List Value := [stV x.1, .int .i64 (x.2 : Int)]
/-- What is read of a text till now: the lines, the labels, the bytes. -/
structure PrAt (w : World) (pb mb base : Nat) (acc : List (Stm × Nat)) (n : Nat) (D : DataW Unit) (L : Nat) : Prop where
  pbB : pb < base
  mbB : mb < base
  ne : pb ≠ mb
  baseS : base ≤ w.heap.size
  lines : ∃ p k c, w.cell? ⟨pb, 0, none⟩ = some (.slice p k c) ∧ w.ownsRow base 81 2 (.slice p k c) acc.length (acc.flatMap lineC)
  c1 : w.cell? ⟨pb, 1, none⟩ = some (.map (some mb))
  c2 : w.cell? ⟨pb, 2, none⟩ = some (.int .i64 (L : Int))
  fz : ∀ o, w.frozen? ⟨pb, o, none⟩ = false
  map : MapAt w mb n D
/-- The blocks that reading a line may write. -/
def PrOwn (pb mb : Nat) (w : World) (b : Nat) : Prop := b = pb ∨ b = mb ∨ ∃ v, w.cell? ⟨pb, 0, none⟩ = some v ∧ v.ownBlock = some b
theorem slice_shape {w : World} {base : Nat} {e : TypeId} {size : Nat} {v : Value} {n : Nat} {xs : List Value} (h : w.ownsRow base e size v n xs) : ∃ p k c, v = .slice p k c := by
  rcases h.2 with ⟨rfl, _⟩ | ⟨g, cap, cur, rfl, _⟩
  · exact ⟨_, _, _, rfl⟩
  · exact ⟨_, _, _, rfl⟩
theorem row_only {S : Nat → Prop} {w w' : World} {base : Nat} {e : TypeId} {size : Nat} {v : Value} {n : Nat} {xs : List Value} (h : w.ownsRow base e size v n xs) (ho : Only S w w') (hS : ∀ b, v.ownBlock = some b → ¬ S b) : w'.ownsRow base e size v n xs := by
  refine ⟨h.1, ?_⟩
  rcases h.2 with hn | ⟨g, cap, cur, rfl, hb, hgg, rest⟩
  · exact .inl hn
  · refine .inr ⟨g, cap, cur, rfl, hb, ?_, rest⟩
    rw [ho.block g (Array.getElem?_eq_some_iff.1 hgg).1 (hS g rfl)]
    exact hgg
theorem PrAt.only {S : Nat → Prop} {w w' : World} {pb mb base : Nat} {acc : List (Stm × Nat)} {n : Nat} {D : DataW Unit} {L : Nat} (h : PrAt w pb mb base acc n D L) (ho : Only S w w') (hS : ∀ b, PrOwn pb mb w b → ¬ S b) : PrAt w' pb mb base acc n D L ∧ ∀ b, PrOwn pb mb w' b ↔ PrOwn pb mb w b := by
  have hpl : pb < w.heap.size := Nat.lt_of_lt_of_le h.pbB h.baseS
  have hpn : ¬ S pb := hS pb (Or.inl rfl)
  have hc : ∀ o, w'.cell? ⟨pb, o, none⟩ = w.cell? ⟨pb, o, none⟩ := fun o => ho.cell (p := ⟨pb, o, none⟩) hpl hpn
  obtain ⟨p, k, c, h0, hr⟩ := h.lines
  refine ⟨⟨h.pbB, h.mbB, h.ne, Nat.le_trans h.baseS ho.size, ⟨p, k, c, by rw [hc]; exact h0, row_only hr ho (fun b hb => hS b (Or.inr (Or.inr ⟨_, h0, hb⟩)))⟩, by rw [hc]; exact h.c1, by rw [hc]; exact h.c2, fun o => by rw [ho.frozen (p := ⟨pb, o, none⟩) hpl hpn]; exact h.fz o, h.map.only ho (hS mb (Or.inr (Or.inl rfl)))⟩, fun b => ?_⟩
  unfold PrOwn
  rw [hc]
theorem PrAt.own_lt {w : World} {pb mb base : Nat} {acc : List (Stm × Nat)} {n : Nat} {D : DataW Unit} {L : Nat} (h : PrAt w pb mb base acc n D L) (b : Nat) (hb : PrOwn pb mb w b) : b < w.heap.size ∧ (b = pb ∨ b = mb ∨ base ≤ b) := by
  have hs := h.baseS
  have h1 := h.pbB
  have h2 := h.mbB
  rcases hb with rfl | rfl | ⟨v, hv, hvb⟩
  · exact ⟨by omega, Or.inl rfl⟩
  · exact ⟨by omega, Or.inr (Or.inl rfl)⟩
  · obtain ⟨p, k, c, h0, hr⟩ := h.lines
    rw [h0] at hv
    obtain rfl := Option.some.inj hv
    have := hr.lt b hvb
    exact ⟨this.2, Or.inr (Or.inr this.1)⟩
theorem PrAt.setLen {w : World} {pb mb base : Nat} {acc : List (Stm × Nat)} {n : Nat} {D : DataW Unit} {L : Nat} (h : PrAt w pb mb base acc n D L) (L' : Nat) (v : Int) (hv : v = (L' : Int)) : PrAt (w.setCell ⟨pb, 2, none⟩ (.int .i64 v)) pb mb base acc n D L' ∧ ∀ b, PrOwn pb mb (w.setCell ⟨pb, 2, none⟩ (.int .i64 v)) b ↔ PrOwn pb mb w b := by
  subst hv
  have hpb := h.pbB
  have ho : Only (fun x => x = pb) w (w.setCell ⟨pb, 2, none⟩ (.int .i64 (L' : Int))) := Only.setCell (S := fun x => x = pb) (Only.refl _ _) (p := ⟨pb, 2, none⟩) (Or.inl rfl) _
  obtain ⟨p, k, c, h0, hr⟩ := h.lines
  have h0' : (w.setCell ⟨pb, 2, none⟩ (.int .i64 (L' : Int))).cell? ⟨pb, 0, none⟩ = w.cell? ⟨pb, 0, none⟩ := other (by simp)
  refine ⟨⟨h.pbB, h.mbB, h.ne, by rw [size_set]; exact h.baseS, ⟨p, k, c, by rw [h0']; exact h0, row_only hr ho (fun b hb e => by have := (hr.lt b hb).1; omega)⟩, by rw [other (by simp)]; exact h.c1, same h.c2, fun o => frz_set _ _ _ _ (h.fz o), h.map.only ho (fun e => h.ne e.symm)⟩, fun b => ?_⟩
  unfold PrOwn
  rw [h0']
/-- A line more. -/
theorem PrAt.grow {w wa w4 : World} {pb mb base : Nat} {acc : List (Stm × Nat)} {n : Nat} {D : DataW Unit} {L : Nat} (h : PrAt w pb mb base acc n D L) (x : Stm × Nat) {p : Option Addr} {k c : Nat} (h0 : w.cell? ⟨pb, 0, none⟩ = some (.slice p k c))
    (ha : Only (fun _ => False) w wa) (hg : wa.grownBy w4 (Value.slice p k c).ownBlock) {p' : Option Addr} {k' c' : Nat} (hown : w4.ownsRow base 81 2 (.slice p' k' c') (acc.length + 1) (acc.flatMap lineC ++ lineC x)) (hloc : (Value.slice p' k' c').ownBlock = (Value.slice p k c).ownBlock ∨ (Value.slice p' k' c').ownBlock = some wa.heap.size) :
    w4.cell? ⟨pb, 0, none⟩ = some (.slice p k c) ∧ (∀ o, w4.frozen? ⟨pb, o, none⟩ = false) ∧ PrAt (w4.setCell ⟨pb, 0, none⟩ (.slice p' k' c')) pb mb base (acc ++ [x]) n D L ∧ Only (PrOwn pb mb w) w (w4.setCell ⟨pb, 0, none⟩ (.slice p' k' c')) ∧ ∀ b, PrOwn pb mb (w4.setCell ⟨pb, 0, none⟩ (.slice p' k' c')) b → PrOwn pb mb w b ∨ w.heap.size ≤ b := by
  obtain ⟨p0, k0, c0, h0', hr⟩ := h.lines
  rw [h0] at h0'
  obtain ⟨rfl, rfl, rfl⟩ : p = p0 ∧ k = k0 ∧ c = c0 := by simpa using h0'
  have hpb := h.pbB
  have hmb := h.mbB
  have hbs := h.baseS
  have hne := h.ne
  have hob : ∀ b, (Value.slice p k c).ownBlock = some b → base ≤ b := fun b hb => (hr.lt b hb).1
  have g4 : Only (fun x => (Value.slice p k c).ownBlock = some x) w w4 := (ha.mono fun _ _ h => h.elim).trans (Only.of_grown hg (fun k hk => hk))
  have npb : ¬ (Value.slice p k c).ownBlock = some pb := fun e => by have := hob pb e; omega
  have nmb : ¬ (Value.slice p k c).ownBlock = some mb := fun e => by have := hob mb e; omega
  have hc : ∀ o, w4.cell? ⟨pb, o, none⟩ = w.cell? ⟨pb, o, none⟩ := fun o => g4.cell (p := ⟨pb, o, none⟩) (by show pb < _; omega) npb
  have hf : ∀ o, w4.frozen? ⟨pb, o, none⟩ = false := fun o => by rw [g4.frozen (p := ⟨pb, o, none⟩) (by show pb < _; omega) npb]; exact h.fz o
  have ho : Only (fun x => x = pb) w4 (w4.setCell ⟨pb, 0, none⟩ (.slice p' k' c')) := Only.setCell (S := fun x => x = pb) (Only.refl _ _) (p := ⟨pb, 0, none⟩) (Or.inl rfl) _
  have s4 := g4.size
  have hc4 : w4.cell? ⟨pb, 0, none⟩ = some (.slice p k c) := by rw [hc]; exact h0
  refine ⟨hc4, hf, ⟨h.pbB, h.mbB, hne, by rw [size_set]; omega, ⟨p', k', c', same hc4, ?_⟩, by rw [other (by simp), hc]; exact h.c1, by rw [other (by simp), hc]; exact h.c2, fun o => frz_set _ _ _ _ (hf o), (h.map.only g4 nmb).only ho (fun e => hne e.symm)⟩, ?_, fun b hb => ?_⟩
  · have := row_only hown ho (fun b hb e => by have := (hown.lt b hb).1; omega)
    simpa using this
  · refine (Only.trans (S := PrOwn pb mb w) (g4.mono fun b _ hb => Or.inr (Or.inr ⟨_, h0, hb⟩)) (ho.mono fun b _ hb => ?_))
    exact Or.inl hb
  · rcases hb with hb | hb | ⟨v, hv, hvb⟩
    · exact Or.inl (Or.inl hb)
    · exact Or.inl (Or.inr (Or.inl hb))
    · rw [same hc4] at hv
      obtain rfl := Option.some.inj hv
      rcases hloc with e | e
      · rw [e] at hvb; exact Or.inl (Or.inr (Or.inr ⟨_, h0, hvb⟩))
      · rw [e] at hvb
        obtain rfl := Option.some.inj hvb
        exact Or.inr ha.size
/-- A slice of strings of one's own, as the reader takes it. -/
theorem own_sl {w : World} {base B : Nat} {v : Value} {ts : List (List UInt8)} (h : w.ownsRow base 9 1 v ts.length (ts.map strV)) (hB : w.heap.size ≤ B) : SlStr w B v ts := by
  rcases h.2 with ⟨rfl, hn⟩ | ⟨g, cap, cur, rfl, hb, hgg, hnc, _, hcs, htk⟩
  · exact ⟨_, _, _, rfl, hn.symm, Nat.le_refl _, Or.inl (List.length_eq_zero_iff.1 hn)⟩
  · refine ⟨_, _, _, rfl, rfl, hnc, Or.inr ⟨g, 0, rfl, Nat.lt_of_lt_of_le (Array.getElem?_eq_some_iff.1 hgg).1 hB, fun j hj => ?_⟩⟩
    have h1 : (cur.toList.take (ts.length * 1))[j]? = some (strV ts[j]) := by
      rw [htk, List.getElem?_map, List.getElem?_eq_getElem hj]; rfl
    rw [List.getElem?_take, if_pos (by omega), Array.getElem?_toList] at h1
    rw [Nat.zero_add]
    unfold World.cell?
    simp only [hgg]
    exact h1
end Go.Proofs.YtmfookpigilccaaGreatDoor

import Derived.Test.YtgncabcnefhkiaaCs34
import Derived.Test.YtgncabcnefhkiaaCs36
import Derived.Test.YtgncabcnefhkiaaCs39
/- SchedScripts: both pools, a third one and the books in one world. -/
namespace Go.Proofs.Ytgncabcnefhkiaa
open Go.ChangeShapes Go.WideShapes Go.ChangeAt Go.RowKit
open Go.Vx
set_option linter.unusedVariables false

/-- A scheduler's state. -/
structure SS where
  t : Nat
  lf : Int
  es : List Et
  ck : Nat
def ztS : List (Int × Int) := [(1, 1)]
def XcS (U : Nat → Prop) (w : World) (xb : Nat) (ts : List (Int × Int)) (s : SS) : Prop := XcAt U w xb ts s.t s.lf s.es s.ck
def SdS (U : Nat → Prop) (w : World) (sb : Nat) (ts : List (Int × Int)) (s : SS) : Prop := SdX U w sb ts s.t s.lf s.es s.ck
theorem XcS.step {U V S : Nat → Prop} {w w2 : World} {xb : Nat} {ts : List (Int × Int)} {s : SS} (h : XcS U w xb ts s) (ho : Only S w w2) (hS : ∀ k, k < w.heap.size → S k → U k) (hV : ∀ k, V k → U k ∨ (w.heap.size ≤ k ∧ k < w2.heap.size)) : XcS V w2 xb ts s := XcAt.step h ho hS hV
theorem SdS.step {U V S : Nat → Prop} {w w2 : World} {sb : Nat} {ts : List (Int × Int)} {s : SS} (h : SdS U w sb ts s) (ho : Only S w w2) (hS : ∀ k, k < w.heap.size → S k → U k) (hV : ∀ k, V k → U k ∨ (w.heap.size ≤ k ∧ k < w2.heap.size)) : SdS V w2 sb ts s := by
  obtain ⟨vt, vl, h⟩ := h
  exact ⟨vt, vl, h.step ho hS hV⟩

/-- All of it. -/
structure SlC (W : World) (xb rb zb bb : Nat) (ts : List (Int × Int)) (sz : SS) (X R Z B : Nat → Prop) (sx sr : SS) (cs : Array Value) (V : Nat → Value) (L : Nat → List Sh) (wr : World) : Prop where
  x : XcS (fun k => k < wr.heap.size ∧ ¬ X k) wr xb ts sx
  r : SdS (fun k => k < wr.heap.size ∧ ¬ R k) wr rb ts sr
  z : XcS (fun k => k < wr.heap.size ∧ ¬ Z k) wr zb ztS sz
  b : Bk6 B wr bb 0 45 cs V L
  dX : ∀ k, X k → W.heap.size ≤ k ∧ k < wr.heap.size ∧ ¬ R k ∧ ¬ Z k ∧ ¬ B k ∧ k ≠ bb
  dR : ∀ k, R k → W.heap.size ≤ k ∧ k < wr.heap.size ∧ ¬ Z k ∧ ¬ B k ∧ k ≠ bb
  dZ : ∀ k, Z k → W.heap.size ≤ k ∧ k < wr.heap.size ∧ ¬ B k ∧ k ≠ bb
  dB : ∀ k, B k → W.heap.size ≤ k ∧ k < wr.heap.size ∧ k ≠ bb
  wb : W.heap.size ≤ bb
  be : Below W.heap.size W wr
variable {W w2 : World} {xb rb zb bb : Nat} {ts : List (Int × Int)} {sz : SS} {X R Z B S : Nat → Prop} {sx sr sx2 sr2 : SS} {cs cs2 : Array Value} {V V2 : Nat → Value} {L L2 : Nat → List Sh} {wr : World}
theorem SlC.quiet (h : SlC W xb rb zb bb ts sz X R Z B sx sr cs V L wr) (ho : Only (fun _ => False) wr w2) : SlC W xb rb zb bb ts sz X R Z B sx sr cs V L w2 := by
  have hs := ho.size
  have key : ∀ {k : Nat} {P : Prop}, (k < w2.heap.size ∧ P) → (k < wr.heap.size ∧ P) ∨ (wr.heap.size ≤ k ∧ k < w2.heap.size) := fun {k P} hk => by
    by_cases h1 : k < wr.heap.size
    · exact Or.inl ⟨h1, hk.2⟩
    · exact Or.inr ⟨by omega, hk.1⟩
  exact ⟨h.x.step ho (fun _ _ h => h.elim) (fun k hk => key hk), h.r.step ho (fun _ _ h => h.elim) (fun k hk => key hk), h.z.step ho (fun _ _ h => h.elim) (fun k hk => key hk), h.b.only ho (fun _ _ h => h) (fun h => h),
    fun k hk => by have := h.dX k hk; exact ⟨this.1, by omega, this.2.2⟩, fun k hk => by have := h.dR k hk; exact ⟨this.1, by omega, this.2.2⟩, fun k hk => by have := h.dZ k hk; exact ⟨this.1, by omega, this.2.2⟩, fun k hk => by have := h.dB k hk; exact ⟨this.1, by omega, this.2.2⟩, h.wb, h.be.trans (ho.below h.be.size (fun _ _ h => h))⟩
/-- A call of the program's store. -/
theorem SlC.xcall (h : SlC W xb rb zb bb ts sz X R Z B sx sr cs V L wr) (hx : XcS (fun k => k < wr.heap.size ∧ ¬ X k) w2 xb ts sx2) (ho0 : Only (fun k => ¬ (k < wr.heap.size ∧ ¬ X k)) wr w2) :
    SlC W xb rb zb bb ts sz (fun k => X k ∨ (wr.heap.size ≤ k ∧ k < w2.heap.size)) R Z B sx2 sr cs V L w2 := by
  have hs := ho0.size
  have hbl := lt_of_some h.b.bl
  have ho : Only X wr w2 := ⟨ho0.os, ho0.tape, ho0.output, ho0.size, fun k hk hn => ho0.block k hk (fun h2 => h2 ⟨hk, hn⟩)⟩
  refine ⟨hx.step (Only.refl (fun _ => False) _) (fun _ _ h => h.elim) (fun k hk => Or.inl ⟨?_, fun h1 => hk.2 (Or.inl h1)⟩), h.r.step ho (fun k hk h1 => ⟨hk, (h.dX k h1).2.2.1⟩) (fun k hk => ?_), h.z.step ho (fun k hk h1 => ⟨hk, (h.dX k h1).2.2.2.1⟩) (fun k hk => ?_), h.b.only ho (fun k hk h1 => (h.dX k h1).2.2.2.2.1 hk) (fun h1 => (h.dX bb h1).2.2.2.2.2 rfl), fun k hk => ?_, fun k hk => ?_, fun k hk => ?_, fun k hk => ?_, h.wb, h.be.trans (ho.below h.be.size (fun k hk h1 => by have := (h.dX k h1).1; omega))⟩
  · have h2 := hk.1
    have h3 : ¬ (wr.heap.size ≤ k ∧ k < w2.heap.size) := fun h4 => hk.2 (Or.inr h4)
    omega
  · by_cases h1 : k < wr.heap.size
    · exact Or.inl ⟨h1, hk.2⟩
    · exact Or.inr ⟨by omega, hk.1⟩
  · by_cases h1 : k < wr.heap.size
    · exact Or.inl ⟨h1, hk.2⟩
    · exact Or.inr ⟨by omega, hk.1⟩
  · rcases hk with hk | hk
    · have := h.dX k hk; exact ⟨this.1, by omega, this.2.2⟩
    · have h1 := h.be.size
      refine ⟨by omega, hk.2, fun h2 => ?_, fun h2 => ?_, fun h2 => ?_, fun h2 => ?_⟩
      · have := (h.dR k h2).2.1; omega
      · have := (h.dZ k h2).2.1; omega
      · have := (h.dB k h2).2.1; omega
      · omega
  · have := h.dR k hk; exact ⟨this.1, by omega, this.2.2⟩
  · have := h.dZ k hk; exact ⟨this.1, by omega, this.2.2⟩
  · have := h.dB k hk; exact ⟨this.1, by omega, this.2.2⟩
/-- A call of the document's. -/
theorem SlC.rcall (h : SlC W xb rb zb bb ts sz X R Z B sx sr cs V L wr) (hr : SdS (fun k => k < wr.heap.size ∧ ¬ R k) w2 rb ts sr2) (ho0 : Only (fun k => ¬ (k < wr.heap.size ∧ ¬ R k)) wr w2) :
    SlC W xb rb zb bb ts sz X (fun k => R k ∨ (wr.heap.size ≤ k ∧ k < w2.heap.size)) Z B sx sr2 cs V L w2 := by
  have hs := ho0.size
  have hbl := lt_of_some h.b.bl
  have ho : Only R wr w2 := ⟨ho0.os, ho0.tape, ho0.output, ho0.size, fun k hk hn => ho0.block k hk (fun h2 => h2 ⟨hk, hn⟩)⟩
  refine ⟨h.x.step ho (fun k hk h1 => ⟨hk, fun h2 => (h.dX k h2).2.2.1 h1⟩) (fun k hk => ?_), hr.step (Only.refl (fun _ => False) _) (fun _ _ h => h.elim) (fun k hk => Or.inl ⟨?_, fun h1 => hk.2 (Or.inl h1)⟩), h.z.step ho (fun k hk h1 => ⟨hk, (h.dR k h1).2.2.1⟩) (fun k hk => ?_), h.b.only ho (fun k hk h1 => (h.dR k h1).2.2.2.1 hk) (fun h1 => (h.dR bb h1).2.2.2.2 rfl), fun k hk => ?_, fun k hk => ?_, fun k hk => ?_, fun k hk => ?_, h.wb, h.be.trans (ho.below h.be.size (fun k hk h1 => by have := (h.dR k h1).1; omega))⟩
  · by_cases h1 : k < wr.heap.size
    · exact Or.inl ⟨h1, hk.2⟩
    · exact Or.inr ⟨by omega, hk.1⟩
  · have h2 := hk.1
    have h3 : ¬ (wr.heap.size ≤ k ∧ k < w2.heap.size) := fun h4 => hk.2 (Or.inr h4)
    omega
  · by_cases h1 : k < wr.heap.size
    · exact Or.inl ⟨h1, hk.2⟩
    · exact Or.inr ⟨by omega, hk.1⟩
  · have := h.dX k hk
    refine ⟨this.1, by omega, fun h2 => ?_, this.2.2.2⟩
    rcases h2 with h2 | h2
    · exact this.2.2.1 h2
    · omega
  · rcases hk with hk | hk
    · have := h.dR k hk; exact ⟨this.1, by omega, this.2.2⟩
    · have h1 := h.be.size
      refine ⟨by omega, hk.2, fun h2 => ?_, fun h2 => ?_, fun h2 => ?_⟩
      · have := (h.dZ k h2).2.1; omega
      · have := (h.dB k h2).2.1; omega
      · omega
  · have := h.dZ k hk; exact ⟨this.1, by omega, this.2.2⟩
  · have := h.dB k hk; exact ⟨this.1, by omega, this.2.2⟩
/-- A list that goes into the books. -/
theorem SlC.book {l : Value} (h : SlC W xb rb zb bb ts sz X R Z B sx sr cs V L wr) (hb : Bk6 (fun k => B k ∨ l.ownBlock = some k ∨ (wr.heap.size ≤ k ∧ k < w2.heap.size)) w2 bb 0 45 cs2 V2 L2) (ho : Only (fun k => B k ∨ l.ownBlock = some k ∨ k = bb) wr w2)
    (hl : ∀ k, l.ownBlock = some k → W.heap.size ≤ k ∧ k < wr.heap.size ∧ ¬ X k ∧ ¬ R k ∧ ¬ Z k ∧ k ≠ bb) :
    SlC W xb rb zb bb ts sz X R Z (fun k => B k ∨ l.ownBlock = some k ∨ (wr.heap.size ≤ k ∧ k < w2.heap.size)) sx sr cs2 V2 L2 w2 := by
  have hs := ho.size
  have hwb := h.wb
  have hbl := lt_of_some h.b.bl
  have hbX : ∀ k, (B k ∨ l.ownBlock = some k ∨ k = bb) → W.heap.size ≤ k ∧ ¬ X k ∧ ¬ R k ∧ ¬ Z k := fun k hk => by
    rcases hk with hk | hk | hk
    · exact ⟨(h.dB k hk).1, fun h1 => (h.dX k h1).2.2.2.2.1 hk, fun h1 => (h.dR k h1).2.2.2.1 hk, fun h1 => (h.dZ k h1).2.2.1 hk⟩
    · have := hl k hk; exact ⟨this.1, this.2.2.1, this.2.2.2.1, this.2.2.2.2.1⟩
    · subst hk; exact ⟨hwb, fun h1 => (h.dX k h1).2.2.2.2.2 rfl, fun h1 => (h.dR k h1).2.2.2.2 rfl, fun h1 => (h.dZ k h1).2.2.2 rfl⟩
  have hnB : ∀ k, (k < wr.heap.size) → ¬ B k → l.ownBlock ≠ some k → ¬ (B k ∨ l.ownBlock = some k ∨ (wr.heap.size ≤ k ∧ k < w2.heap.size)) := fun k h1 h2 h3 h4 => by
    rcases h4 with h4 | h4 | h4
    · exact h2 h4
    · exact h3 h4
    · omega
  have cut : ∀ {k : Nat} {P : Prop}, (k < w2.heap.size ∧ P) → (k < wr.heap.size ∧ P) ∨ (wr.heap.size ≤ k ∧ k < w2.heap.size) := fun {k P} hk => by
    by_cases h1 : k < wr.heap.size
    · exact Or.inl ⟨h1, hk.2⟩
    · exact Or.inr ⟨by omega, hk.1⟩
  refine ⟨h.x.step ho (fun k hk h1 => ⟨hk, (hbX k h1).2.1⟩) (fun k hk => cut hk), h.r.step ho (fun k hk h1 => ⟨hk, (hbX k h1).2.2.1⟩) (fun k hk => cut hk), h.z.step ho (fun k hk h1 => ⟨hk, (hbX k h1).2.2.2⟩) (fun k hk => cut hk), hb, fun k hk => ?_, fun k hk => ?_, fun k hk => ?_, fun k hk => ?_, h.wb, h.be.trans (ho.below h.be.size (fun k hk h1 => by have := (hbX k h1).1; omega))⟩
  · have := h.dX k hk
    exact ⟨this.1, by omega, this.2.2.1, this.2.2.2.1, hnB k this.2.1 this.2.2.2.2.1 (fun h1 => (hl k h1).2.2.1 hk), this.2.2.2.2.2⟩
  · have := h.dR k hk
    exact ⟨this.1, by omega, this.2.2.1, hnB k this.2.1 this.2.2.2.1 (fun h1 => (hl k h1).2.2.2.1 hk), this.2.2.2.2⟩
  · have := h.dZ k hk
    exact ⟨this.1, by omega, hnB k this.2.1 this.2.2.1 (fun h1 => (hl k h1).2.2.2.2.1 hk), this.2.2.2⟩
  · have h1 := h.be.size
    rcases hk with hk | hk | hk
    · have := h.dB k hk; exact ⟨this.1, by omega, this.2.2⟩
    · have := hl k hk; exact ⟨this.1, by omega, this.2.2.2.2.2⟩
    · exact ⟨by omega, hk.2, by omega⟩
end Go.Proofs.Ytgncabcnefhkiaa

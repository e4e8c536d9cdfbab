import Derived.Test.YtbmchgjilkoplaaDoorCq26
import Derived.Test.YtbmchgjilkoplaaDoorCq3
import Derived.Test.YtbmchgjilkoplaaDoorCq8
import Derived.Test.YtbmchgjilkoplaaDoorCq9
import Derived.Test.YtbmchgjilkoplaaDoorCq10
import Derived.Test.YtbmchgjilkoplaaDoorCq37
/- Both stores stay where others write. -/
namespace Go.Proofs.YtbmchgjilkoplaaDoor
open Go.ChangeShapes Go.WideShapes Go.ChangeAt Go.RowKit
open Go.Vx
set_option linter.unusedVariables false
variable {U V S : Nat → Prop} {w w2 : World} {bs : List (Int × Int)} {es : List En}

theorem RcAt.step {rb : Nat} (h : RcAt U w rb bs es) (ho : Only S w w2) (hS : ∀ k, k < w.heap.size → S k → U k) (hV : ∀ k, V k → U k ∨ (w.heap.size ≤ k ∧ k < w2.heap.size)) : RcAt V w2 rb bs es := by
  obtain ⟨vb, ve, h⟩ := h
  have hb : ∀ k, vb.ownBlock = some k → k < w.heap.size := fun k hk => by
    obtain ⟨_, ⟨cur, hc⟩, _⟩ := h.b.blk hk
    exact lt_of_some hc
  have he : ∀ k, ve.ownBlock = some k → k < w.heap.size := fun k hk => by
    obtain ⟨_, ⟨cur, hc⟩, _⟩ := h.e.blk hk
    exact lt_of_some hc
  have hr := lt_of_some h.r
  have h2 := h.aside ho (fun s => h.ur (hS _ hr s)) (fun k hk s => h.ub k hk (hS _ (hb k hk) s)) (fun k hk s => h.ue k hk (hS _ (he k hk) s))
  refine ⟨vb, ve, h2.r, h2.b, h2.e, fun hv => ?_, fun k hk hv => ?_, fun k hk hv => ?_, fun k hv => ?_, h2.nb, h2.ne⟩
  · rcases hV _ hv with h3 | h3
    · exact h.ur h3
    · omega
  · rcases hV _ hv with h3 | h3
    · exact h.ub k hk h3
    · have := hb k hk; omega
  · rcases hV _ hv with h3 | h3
    · exact h.ue k hk h3
    · have := he k hk; omega
  · rcases hV _ hv with h3 | h3
    · exact Nat.lt_of_lt_of_le (h.low k h3) ho.size
    · exact h3.2
theorem XcAt.step {xb : Nat} (h : XcAt U w xb bs es) (ho : Only S w w2) (hS : ∀ k, k < w.heap.size → S k → U k) (hV : ∀ k, V k → U k ∨ (w.heap.size ≤ k ∧ k < w2.heap.size)) : XcAt V w2 xb bs es := by
  obtain ⟨mb, D, G, h, h2⟩ := h
  have hn := lt_of_some h.ns
  have hx := lt_of_some h.x
  have hm := h.m.lt
  refine ⟨mb, D, G, h.aside ho (fun s => h.un (hS _ hn s)) (fun s => h.ux (hS _ hx s)) (fun s => h.um (hS _ hm s)) (fun k hk s => h.ug k hk (hS _ (h.glt hk) s)) (fun hv => ?_) (fun hv => ?_) (fun hv => ?_) (fun k hk hv => ?_) (fun k hv => ?_), h2⟩
  · rcases hV _ hv with h3 | h3
    · exact h.un h3
    · omega
  · rcases hV _ hv with h3 | h3
    · exact h.ux h3
    · omega
  · rcases hV _ hv with h3 | h3
    · exact h.um h3
    · omega
  · rcases hV _ hv with h3 | h3
    · exact h.ug k hk h3
    · have := h.glt hk; omega
  · rcases hV _ hv with h3 | h3
    · exact Nat.lt_of_lt_of_le (h.low k h3) ho.size
    · exact h3.2
theorem XcAt.nsl {xb : Nat} (h : XcAt U w xb bs es) : NsAt w := by
  obtain ⟨_, _, _, h, _⟩ := h
  exact h.ns
end Go.Proofs.YtbmchgjilkoplaaDoor

/- CapsScripts: both stores, a third one and the books in one world. -/
namespace Go.Proofs.YtbmchgjilkoplaaDoor
open Go.ChangeShapes Go.WideShapes Go.ChangeAt Go.RowKit
open Go.Vx
set_option linter.unusedVariables false
variable {U V S : Nat → Prop} {w w2 : World} {bs : List (Int × Int)} {es : List En}

/-- All of it. -/
structure CsR (W : World) (xb rb zb bb : Nat) (X R Z B : Nat → Prop) (bx : List (Int × Int)) (ex : List En) (br : List (Int × Int)) (er : List En) (vs : Value) (ss : List Sh) (ve : Value) (ls : List Sh) (wr : World) : Prop where
  x : XcAt (fun k => k < wr.heap.size ∧ ¬ X k ∧ k ≠ 0) wr xb bx ex
  r : RcAt (fun k => k < wr.heap.size ∧ ¬ R k) wr rb br er
  z : XcAt (fun k => k < wr.heap.size ∧ ¬ Z k ∧ k ≠ 0) wr zb [(1, 2)] []
  b : Bks B wr bb (.pointer (some ⟨xb, 0, none⟩)) (.pointer (some ⟨rb, 0, none⟩)) vs ss ve ls
  dX : ∀ k, X k → W.heap.size ≤ k ∧ k < wr.heap.size ∧ ¬ R k ∧ ¬ Z k ∧ ¬ B k ∧ k ≠ bb
  dR : ∀ k, R k → W.heap.size ≤ k ∧ k < wr.heap.size ∧ ¬ Z k ∧ ¬ B k ∧ k ≠ bb
  dZ : ∀ k, Z k → W.heap.size ≤ k ∧ k < wr.heap.size ∧ ¬ B k ∧ k ≠ bb
  dB : ∀ k, B k → W.heap.size ≤ k ∧ k < wr.heap.size ∧ k ≠ bb
  wb : W.heap.size ≤ bb
  nW : NsAt W
  be : Below W.heap.size W wr
variable {W : World} {xb rb zb bb : Nat} {X R Z B : Nat → Prop} {bx br bx2 br2 : List (Int × Int)} {ex er ex2 er2 : List En} {vs ve vs2 ve2 : Value} {ss ls ss2 ls2 : List Sh} {wr : World}
theorem CsR.nsl (h : CsR W xb rb zb bb X R Z B bx ex br er vs ss ve ls wr) : 0 < W.heap.size := lt_of_some h.nW
theorem CsR.quiet (h : CsR W xb rb zb bb X R Z B bx ex br er vs ss ve ls wr) (ho : Only (fun _ => False) wr w2) : CsR W xb rb zb bb X R Z B bx ex br er vs ss ve ls w2 := by
  have hs := ho.size
  have key : ∀ {k : Nat} {P : Prop}, (k < w2.heap.size ∧ P) → (k < wr.heap.size ∧ P) ∨ (wr.heap.size ≤ k ∧ k < w2.heap.size) := fun {k P} hk => by
    by_cases h1 : k < wr.heap.size
    · exact Or.inl ⟨h1, hk.2⟩
    · exact Or.inr ⟨by omega, hk.1⟩
  exact ⟨h.x.step ho (fun _ _ h => h.elim) (fun k hk => key hk), h.r.step ho (fun _ _ h => h.elim) (fun k hk => key hk), h.z.step ho (fun _ _ h => h.elim) (fun k hk => key hk), h.b.only ho (fun _ _ h => h) (fun h => h),
    fun k hk => by have := h.dX k hk; exact ⟨this.1, by omega, this.2.2⟩, fun k hk => by have := h.dR k hk; exact ⟨this.1, by omega, this.2.2⟩, fun k hk => by have := h.dZ k hk; exact ⟨this.1, by omega, this.2.2⟩, fun k hk => by have := h.dB k hk; exact ⟨this.1, by omega, this.2.2⟩, h.wb, h.nW, h.be.trans (ho.below h.be.size (fun _ _ h => h))⟩
/-- A call of the program's store. -/
theorem CsR.xcall (h : CsR W xb rb zb bb X R Z B bx ex br er vs ss ve ls wr) (hx : XcAt (fun k => k < wr.heap.size ∧ ¬ X k ∧ k ≠ 0) w2 xb bx2 ex2) (ho0 : Only (fun k => ¬ (k < wr.heap.size ∧ ¬ X k ∧ k ≠ 0)) wr w2) :
    CsR W xb rb zb bb (fun k => X k ∨ (wr.heap.size ≤ k ∧ k < w2.heap.size)) R Z B bx2 ex2 br er vs ss ve ls w2 := by
  have hs := ho0.size
  have hnl := h.nsl
  have hbl := lt_of_some h.b.bl
  have ho : Only X wr w2 := ⟨ho0.os, ho0.tape, ho0.output, ho0.size, fun k hk hn => by
    by_cases h1 : k = 0
    · subst h1
      rw [hx.nsl, h.x.nsl]
    · exact ho0.block k hk (fun h2 => h2 ⟨hk, hn, h1⟩)⟩
  have hns : ∀ k, X k → k ≠ 0 := fun k hk e => by have := (h.dX k hk).1; omega
  refine ⟨hx.step (Only.refl (fun _ => False) _) (fun _ _ h => h.elim) (fun k hk => Or.inl ⟨?_, fun h1 => hk.2.1 (Or.inl h1), hk.2.2⟩), h.r.step ho (fun k hk h1 => ⟨hk, (h.dX k h1).2.2.1⟩) (fun k hk => ?_), h.z.step ho (fun k hk h1 => ⟨hk, (h.dX k h1).2.2.2.1, hns k h1⟩) (fun k hk => ?_), h.b.only ho (fun k hk h1 => (h.dX k h1).2.2.2.2.1 hk) (fun h1 => (h.dX bb h1).2.2.2.2.2 rfl), fun k hk => ?_, fun k hk => ?_, fun k hk => ?_, fun k hk => ?_, h.wb, h.nW, h.be.trans (ho.below h.be.size (fun k hk h1 => by have := (h.dX k h1).1; omega))⟩
  · have h2 := hk.1
    have h3 : ¬ (wr.heap.size ≤ k ∧ k < w2.heap.size) := fun h4 => hk.2.1 (Or.inr h4)
    omega
  · by_cases h1 : k < wr.heap.size
    · exact Or.inl ⟨h1, hk.2⟩
    · exact Or.inr ⟨by omega, hk.1⟩
  · by_cases h1 : k < wr.heap.size
    · exact Or.inl ⟨h1, hk.2⟩
    · exact Or.inr ⟨by omega, hk.1⟩
  · rcases hk with hk | hk
    · have := h.dX k hk; exact ⟨this.1, by omega, this.2.2⟩
    · have h1 := h.be.size
      refine ⟨by omega, hk.2, fun h2 => ?_, fun h2 => ?_, fun h2 => ?_, fun h2 => ?_⟩
      · have := (h.dR k h2).2.1; omega
      · have := (h.dZ k h2).2.1; omega
      · have := (h.dB k h2).2.1; omega
      · omega
  · have := h.dR k hk; exact ⟨this.1, by omega, this.2.2⟩
  · have := h.dZ k hk; exact ⟨this.1, by omega, this.2.2⟩
  · have := h.dB k hk; exact ⟨this.1, by omega, this.2.2⟩
/-- A call of the document's. -/
theorem CsR.rcall (h : CsR W xb rb zb bb X R Z B bx ex br er vs ss ve ls wr) (hr : RcAt (fun k => k < wr.heap.size ∧ ¬ R k) w2 rb br2 er2) (ho0 : Only (fun k => ¬ (k < wr.heap.size ∧ ¬ R k)) wr w2) :
    CsR W xb rb zb bb X (fun k => R k ∨ (wr.heap.size ≤ k ∧ k < w2.heap.size)) Z B bx ex br2 er2 vs ss ve ls w2 := by
  have hs := ho0.size
  have hnl := h.nsl
  have hbl := lt_of_some h.b.bl
  have ho : Only R wr w2 := ⟨ho0.os, ho0.tape, ho0.output, ho0.size, fun k hk hn => ho0.block k hk (fun h2 => h2 ⟨hk, hn⟩)⟩
  have hns : ∀ k, R k → k ≠ 0 := fun k hk e => by have := (h.dR k hk).1; omega
  refine ⟨h.x.step ho (fun k hk h1 => ⟨hk, fun h2 => (h.dX k h2).2.2.1 h1, hns k h1⟩) (fun k hk => ?_), hr.step (Only.refl (fun _ => False) _) (fun _ _ h => h.elim) (fun k hk => Or.inl ⟨?_, fun h1 => hk.2 (Or.inl h1)⟩), h.z.step ho (fun k hk h1 => ⟨hk, (h.dR k h1).2.2.1, hns k h1⟩) (fun k hk => ?_), h.b.only ho (fun k hk h1 => (h.dR k h1).2.2.2.1 hk) (fun h1 => (h.dR bb h1).2.2.2.2 rfl), fun k hk => ?_, fun k hk => ?_, fun k hk => ?_, fun k hk => ?_, h.wb, h.nW, h.be.trans (ho.below h.be.size (fun k hk h1 => by have := (h.dR k h1).1; omega))⟩
  · by_cases h1 : k < wr.heap.size
    · exact Or.inl ⟨h1, hk.2⟩
    · exact Or.inr ⟨by omega, hk.1⟩
  · have h2 := hk.1
    have h3 : ¬ (wr.heap.size ≤ k ∧ k < w2.heap.size) := fun h4 => hk.2 (Or.inr h4)
    omega
  · by_cases h1 : k < wr.heap.size
    · exact Or.inl ⟨h1, hk.2⟩
    · exact Or.inr ⟨by omega, hk.1⟩
  · have := h.dX k hk
    refine ⟨this.1, by omega, fun h2 => ?_, this.2.2.2⟩
    rcases h2 with h2 | h2
    · exact this.2.2.1 h2
    · omega
  · rcases hk with hk | hk
    · have := h.dR k hk; exact ⟨this.1, by omega, this.2.2⟩
    · have h1 := h.be.size
      refine ⟨by omega, hk.2, fun h2 => ?_, fun h2 => ?_, fun h2 => ?_⟩
      · have := (h.dZ k h2).2.1; omega
      · have := (h.dB k h2).2.1; omega
      · omega
  · have := h.dZ k hk; exact ⟨this.1, by omega, this.2.2⟩
  · have := h.dB k hk; exact ⟨this.1, by omega, this.2.2⟩
/-- A list that goes into the books. -/
theorem CsR.book {l : Value} (h : CsR W xb rb zb bb X R Z B bx ex br er vs ss ve ls wr) (hb : Bks (fun k => B k ∨ l.ownBlock = some k ∨ (wr.heap.size ≤ k ∧ k < w2.heap.size)) w2 bb (.pointer (some ⟨xb, 0, none⟩)) (.pointer (some ⟨rb, 0, none⟩)) vs2 ss2 ve2 ls2) (ho : Only (fun k => B k ∨ l.ownBlock = some k ∨ k = bb) wr w2)
    (hl : ∀ k, l.ownBlock = some k → W.heap.size ≤ k ∧ k < wr.heap.size ∧ ¬ X k ∧ ¬ R k ∧ ¬ Z k ∧ k ≠ bb) :
    CsR W xb rb zb bb X R Z (fun k => B k ∨ l.ownBlock = some k ∨ (wr.heap.size ≤ k ∧ k < w2.heap.size)) bx ex br er vs2 ss2 ve2 ls2 w2 := by
  have hs := ho.size
  have hnl := h.nsl
  have hwb := h.wb
  have hbl := lt_of_some h.b.bl
  have hbX : ∀ k, (B k ∨ l.ownBlock = some k ∨ k = bb) → W.heap.size ≤ k ∧ ¬ X k ∧ ¬ R k ∧ ¬ Z k := fun k hk => by
    rcases hk with hk | hk | hk
    · exact ⟨(h.dB k hk).1, fun h1 => (h.dX k h1).2.2.2.2.1 hk, fun h1 => (h.dR k h1).2.2.2.1 hk, fun h1 => (h.dZ k h1).2.2.1 hk⟩
    · have := hl k hk; exact ⟨this.1, this.2.2.1, this.2.2.2.1, this.2.2.2.2.1⟩
    · subst hk; exact ⟨hwb, fun h1 => (h.dX k h1).2.2.2.2.2 rfl, fun h1 => (h.dR k h1).2.2.2.2 rfl, fun h1 => (h.dZ k h1).2.2.2 rfl⟩
  have hnB : ∀ k, (k < wr.heap.size) → ¬ B k → l.ownBlock ≠ some k → ¬ (B k ∨ l.ownBlock = some k ∨ (wr.heap.size ≤ k ∧ k < w2.heap.size)) := fun k h1 h2 h3 h4 => by
    rcases h4 with h4 | h4 | h4
    · exact h2 h4
    · exact h3 h4
    · omega
  have cut : ∀ {k : Nat} {P : Prop}, (k < w2.heap.size ∧ P) → (k < wr.heap.size ∧ P) ∨ (wr.heap.size ≤ k ∧ k < w2.heap.size) := fun {k P} hk => by
    by_cases h1 : k < wr.heap.size
    · exact Or.inl ⟨h1, hk.2⟩
    · exact Or.inr ⟨by omega, hk.1⟩
  refine ⟨h.x.step ho (fun k hk h1 => ⟨hk, (hbX k h1).2.1, fun e => by have := (hbX k h1).1; omega⟩) (fun k hk => cut hk), h.r.step ho (fun k hk h1 => ⟨hk, (hbX k h1).2.2.1⟩) (fun k hk => cut hk), h.z.step ho (fun k hk h1 => ⟨hk, (hbX k h1).2.2.2, fun e => by have := (hbX k h1).1; omega⟩) (fun k hk => cut hk), hb, fun k hk => ?_, fun k hk => ?_, fun k hk => ?_, fun k hk => ?_, h.wb, h.nW, h.be.trans (ho.below h.be.size (fun k hk h1 => by have := (hbX k h1).1; omega))⟩
  · have := h.dX k hk
    exact ⟨this.1, by omega, this.2.2.1, this.2.2.2.1, hnB k this.2.1 this.2.2.2.2.1 (fun h1 => (hl k h1).2.2.1 hk), this.2.2.2.2.2⟩
  · have := h.dR k hk
    exact ⟨this.1, by omega, this.2.2.1, hnB k this.2.1 this.2.2.2.1 (fun h1 => (hl k h1).2.2.2.1 hk), this.2.2.2.2⟩
  · have := h.dZ k hk
    exact ⟨this.1, by omega, hnB k this.2.1 this.2.2.1 (fun h1 => (hl k h1).2.2.2.2.1 hk), this.2.2.2⟩
  · have h1 := h.be.size
    rcases hk with hk | hk | hk
    · have := h.dB k hk; exact ⟨this.1, by omega, this.2.2⟩
    · have := hl k hk; exact ⟨this.1, by omega, this.2.2.2.2.2⟩
    · exact ⟨by omega, hk.2, by omega⟩
end Go.Proofs.YtbmchgjilkoplaaDoor

import Derived.Test.YtdpgdjpphnbfnaaCi22
import Derived.Test.YtdpgdjpphnbfnaaCi25
/- IpcScripts: both pools, a third one and the books in one world. -/
namespace Go.Proofs.Ytdpgdjpphnbfnaa
open Go.ChangeShapes Go.WideShapes Go.ChangeAt Go.RowKit
open Go.Vx
set_option linter.unusedVariables false

/-- All of it. -/
structure IlC (W : World) (xb rb zb bb : Nat) (sz : Bs) (X R Z B : Nat → Prop) (sx sr : Bs) (cs : Array Value) (V : Nat → Value) (L : Nat → List Sh) (wr : World) : Prop where
  x : XbX (fun k => k < wr.heap.size ∧ ¬ X k) wr xb sx
  r : RbX (fun k => k < wr.heap.size ∧ ¬ R k) wr rb sr
  z : XbX (fun k => k < wr.heap.size ∧ ¬ Z k) wr zb sz
  b : Bk6 B wr bb 0 47 cs V L
  dX : ∀ k, X k → W.heap.size ≤ k ∧ k < wr.heap.size ∧ ¬ R k ∧ ¬ Z k ∧ ¬ B k ∧ k ≠ bb
  dR : ∀ k, R k → W.heap.size ≤ k ∧ k < wr.heap.size ∧ ¬ Z k ∧ ¬ B k ∧ k ≠ bb
  dZ : ∀ k, Z k → W.heap.size ≤ k ∧ k < wr.heap.size ∧ ¬ B k ∧ k ≠ bb
  dB : ∀ k, B k → W.heap.size ≤ k ∧ k < wr.heap.size ∧ k ≠ bb
  wb : W.heap.size ≤ bb
  be : Below W.heap.size W wr
variable {W w2 : World} {xb rb zb bb : Nat} {sz : Bs} {X R Z B S : Nat → Prop} {sx sr sx2 sr2 : Bs} {cs cs2 : Array Value} {V V2 : Nat → Value} {L L2 : Nat → List Sh} {wr : World}
theorem IlC.quiet (h : IlC W xb rb zb bb sz X R Z B sx sr cs V L wr) (ho : Only (fun _ => False) wr w2) : IlC W xb rb zb bb sz X R Z B sx sr cs V L w2 := by
  have hs := ho.size
  have key : ∀ {k : Nat} {P : Prop}, (k < w2.heap.size ∧ P) → (k < wr.heap.size ∧ P) ∨ (wr.heap.size ≤ k ∧ k < w2.heap.size) := fun {k P} hk => by
    by_cases h1 : k < wr.heap.size
    · exact Or.inl ⟨h1, hk.2⟩
    · exact Or.inr ⟨by omega, hk.1⟩
  exact ⟨h.x.step ho (fun _ _ h => h.elim) (fun k hk => key hk), h.r.step ho (fun _ _ h => h.elim) (fun k hk => key hk), h.z.step ho (fun _ _ h => h.elim) (fun k hk => key hk), h.b.only ho (fun _ _ h => h) (fun h => h),
    fun k hk => by have := h.dX k hk; exact ⟨this.1, by omega, this.2.2⟩, fun k hk => by have := h.dR k hk; exact ⟨this.1, by omega, this.2.2⟩, fun k hk => by have := h.dZ k hk; exact ⟨this.1, by omega, this.2.2⟩, fun k hk => by have := h.dB k hk; exact ⟨this.1, by omega, this.2.2⟩, h.wb, h.be.trans (ho.below h.be.size (fun _ _ h => h))⟩
/-- A call of the program's store. -/
theorem IlC.xcall (h : IlC W xb rb zb bb sz X R Z B sx sr cs V L wr) (hx : XbX (fun k => k < wr.heap.size ∧ ¬ X k) w2 xb sx2) (ho0 : Only (fun k => ¬ (k < wr.heap.size ∧ ¬ X k)) wr w2) :
    IlC W xb rb zb bb sz (fun k => X k ∨ (wr.heap.size ≤ k ∧ k < w2.heap.size)) R Z B sx2 sr cs V L w2 := by
  have hs := ho0.size
  have hbl := lt_of_some h.b.bl
  have ho : Only X wr w2 := ⟨ho0.os, ho0.tape, ho0.output, ho0.size, fun k hk hn => ho0.block k hk (fun h2 => h2 ⟨hk, hn⟩)⟩
  refine ⟨hx.step (Only.refl (fun _ => False) _) (fun _ _ h => h.elim) (fun k hk => Or.inl ⟨?_, fun h1 => hk.2 (Or.inl h1)⟩), h.r.step ho (fun k hk h1 => ⟨hk, (h.dX k h1).2.2.1⟩) (fun k hk => ?_), h.z.step ho (fun k hk h1 => ⟨hk, (h.dX k h1).2.2.2.1⟩) (fun k hk => ?_), h.b.only ho (fun k hk h1 => (h.dX k h1).2.2.2.2.1 hk) (fun h1 => (h.dX bb h1).2.2.2.2.2 rfl), fun k hk => ?_, fun k hk => ?_, fun k hk => ?_, fun k hk => ?_, h.wb, h.be.trans (ho.below h.be.size (fun k hk h1 => by have := (h.dX k h1).1; omega))⟩
  · have h2 := hk.1
    have h3 : ¬ (wr.heap.size ≤ k ∧ k < w2.heap.size) := fun h4 => hk.2 (Or.inr h4)
    omega
  · by_cases h1 : k < wr.heap.size
    · exact Or.inl ⟨h1, hk.2⟩
    · exact Or.inr ⟨by omega, hk.1⟩
  · by_cases h1 : k < wr.heap.size
    · exact Or.inl ⟨h1, hk.2⟩
    · exact Or.inr ⟨by omega, hk.1⟩
  · rcases hk with hk | hk
    · have := h.dX k hk; exact ⟨this.1, by omega, this.2.2⟩
    · have h1 := h.be.size
      refine ⟨by omega, hk.2, fun h2 => ?_, fun h2 => ?_, fun h2 => ?_, fun h2 => ?_⟩
      · have := (h.dR k h2).2.1; omega
      · have := (h.dZ k h2).2.1; omega
      · have := (h.dB k h2).2.1; omega
      · omega
  · have := h.dR k hk; exact ⟨this.1, by omega, this.2.2⟩
  · have := h.dZ k hk; exact ⟨this.1, by omega, this.2.2⟩
  · have := h.dB k hk; exact ⟨this.1, by omega, this.2.2⟩
/-- A call of the document's. -/
theorem IlC.rcall (h : IlC W xb rb zb bb sz X R Z B sx sr cs V L wr) (hr : RbX (fun k => k < wr.heap.size ∧ ¬ R k) w2 rb sr2) (ho0 : Only (fun k => ¬ (k < wr.heap.size ∧ ¬ R k)) wr w2) :
    IlC W xb rb zb bb sz X (fun k => R k ∨ (wr.heap.size ≤ k ∧ k < w2.heap.size)) Z B sx sr2 cs V L w2 := by
  have hs := ho0.size
  have hbl := lt_of_some h.b.bl
  have ho : Only R wr w2 := ⟨ho0.os, ho0.tape, ho0.output, ho0.size, fun k hk hn => ho0.block k hk (fun h2 => h2 ⟨hk, hn⟩)⟩
  refine ⟨h.x.step ho (fun k hk h1 => ⟨hk, fun h2 => (h.dX k h2).2.2.1 h1⟩) (fun k hk => ?_), hr.step (Only.refl (fun _ => False) _) (fun _ _ h => h.elim) (fun k hk => Or.inl ⟨?_, fun h1 => hk.2 (Or.inl h1)⟩), h.z.step ho (fun k hk h1 => ⟨hk, (h.dR k h1).2.2.1⟩) (fun k hk => ?_), h.b.only ho (fun k hk h1 => (h.dR k h1).2.2.2.1 hk) (fun h1 => (h.dR bb h1).2.2.2.2 rfl), fun k hk => ?_, fun k hk => ?_, fun k hk => ?_, fun k hk => ?_, h.wb, h.be.trans (ho.below h.be.size (fun k hk h1 => by have := (h.dR k h1).1; omega))⟩
  · by_cases h1 : k < wr.heap.size
    · exact Or.inl ⟨h1, hk.2⟩
    · exact Or.inr ⟨by omega, hk.1⟩
  · have h2 := hk.1
    have h3 : ¬ (wr.heap.size ≤ k ∧ k < w2.heap.size) := fun h4 => hk.2 (Or.inr h4)
    omega
  · by_cases h1 : k < wr.heap.size
    · exact Or.inl ⟨h1, hk.2⟩
    · exact Or.inr ⟨by omega, hk.1⟩
  · have := h.dX k hk
    refine ⟨this.1, by omega, fun h2 => ?_, this.2.2.2⟩
    rcases h2 with h2 | h2
    · exact this.2.2.1 h2
    · omega
  · rcases hk with hk | hk
    · have := h.dR k hk; exact ⟨this.1, by omega, this.2.2⟩
    · have h1 := h.be.size
      refine ⟨by omega, hk.2, fun h2 => ?_, fun h2 => ?_, fun h2 => ?_⟩
      · have := (h.dZ k h2).2.1; omega
      · have := (h.dB k h2).2.1; omega
      · omega
  · have := h.dZ k hk; exact ⟨this.1, by omega, this.2.2⟩
  · have := h.dB k hk; exact ⟨this.1, by omega, this.2.2⟩
/-- A list that goes into the books. -/
theorem IlC.book {l : Value} (h : IlC W xb rb zb bb sz X R Z B sx sr cs V L wr) (hb : Bk6 (fun k => B k ∨ l.ownBlock = some k ∨ (wr.heap.size ≤ k ∧ k < w2.heap.size)) w2 bb 0 47 cs2 V2 L2) (ho : Only (fun k => B k ∨ l.ownBlock = some k ∨ k = bb) wr w2)
    (hl : ∀ k, l.ownBlock = some k → W.heap.size ≤ k ∧ k < wr.heap.size ∧ ¬ X k ∧ ¬ R k ∧ ¬ Z k ∧ k ≠ bb) :
    IlC W xb rb zb bb sz X R Z (fun k => B k ∨ l.ownBlock = some k ∨ (wr.heap.size ≤ k ∧ k < w2.heap.size)) sx sr cs2 V2 L2 w2 := by
  have hs := ho.size
  have hwb := h.wb
  have hbl := lt_of_some h.b.bl
  have hbX : ∀ k, (B k ∨ l.ownBlock = some k ∨ k = bb) → W.heap.size ≤ k ∧ ¬ X k ∧ ¬ R k ∧ ¬ Z k := fun k hk => by
    rcases hk with hk | hk | hk
    · exact ⟨(h.dB k hk).1, fun h1 => (h.dX k h1).2.2.2.2.1 hk, fun h1 => (h.dR k h1).2.2.2.1 hk, fun h1 => (h.dZ k h1).2.2.1 hk⟩
    · have := hl k hk; exact ⟨this.1, this.2.2.1, this.2.2.2.1, this.2.2.2.2.1⟩
    · subst hk; exact ⟨hwb, fun h1 => (h.dX k h1).2.2.2.2.2 rfl, fun h1 => (h.dR k h1).2.2.2.2 rfl, fun h1 => (h.dZ k h1).2.2.2 rfl⟩
  have hnB : ∀ k, (k < wr.heap.size) → ¬ B k → l.ownBlock ≠ some k → ¬ (B k ∨ l.ownBlock = some k ∨ (wr.heap.size ≤ k ∧ k < w2.heap.size)) := fun k h1 h2 h3 h4 => by
    rcases h4 with h4 | h4 | h4
    · exact h2 h4
    · exact h3 h4
    · omega
  have cut : ∀ {k : Nat} {P : Prop}, (k < w2.heap.size ∧ P) → (k < wr.heap.size ∧ P) ∨ (wr.heap.size ≤ k ∧ k < w2.heap.size) := fun {k P} hk => by
    by_cases h1 : k < wr.heap.size
    · exact Or.inl ⟨h1, hk.2⟩
    · exact Or.inr ⟨by omega, hk.1⟩
  refine ⟨h.x.step ho (fun k hk h1 => ⟨hk, (hbX k h1).2.1⟩) (fun k hk => cut hk), h.r.step ho (fun k hk h1 => ⟨hk, (hbX k h1).2.2.1⟩) (fun k hk => cut hk), h.z.step ho (fun k hk h1 => ⟨hk, (hbX k h1).2.2.2⟩) (fun k hk => cut hk), hb, fun k hk => ?_, fun k hk => ?_, fun k hk => ?_, fun k hk => ?_, h.wb, h.be.trans (ho.below h.be.size (fun k hk h1 => by have := (hbX k h1).1; omega))⟩
  · have := h.dX k hk
    exact ⟨this.1, by omega, this.2.2.1, this.2.2.2.1, hnB k this.2.1 this.2.2.2.2.1 (fun h1 => (hl k h1).2.2.1 hk), this.2.2.2.2.2⟩
  · have := h.dR k hk
    exact ⟨this.1, by omega, this.2.2.1, hnB k this.2.1 this.2.2.2.1 (fun h1 => (hl k h1).2.2.2.1 hk), this.2.2.2.2⟩
  · have := h.dZ k hk
    exact ⟨this.1, by omega, hnB k this.2.1 this.2.2.1 (fun h1 => (hl k h1).2.2.2.2.1 hk), this.2.2.2⟩
  · have h1 := h.be.size
    rcases hk with hk | hk | hk
    · have := h.dB k hk; exact ⟨this.1, by omega, this.2.2⟩
    · have := hl k hk; exact ⟨this.1, by omega, this.2.2.2.2.2⟩
    · exact ⟨by omega, hk.2, by omega⟩
end Go.Proofs.Ytdpgdjpphnbfnaa

/- IpcScripts: a step under way. -/
namespace Go.Proofs.Ytdpgdjpphnbfnaa
open Go.ChangeShapes Go.WideShapes Go.ChangeAt Go.RowKit
open Go.Vx
set_option linter.unusedVariables false

/-- A step under way: F are blocks of its own, with what lies in them. -/
def IlI (W : World) (xb rb zb bb : Nat) (sz : Bs) (Z B : Nat → Prop) (cs : Array Value) (V : Nat → Value) (L : Nat → List Sh) (F : List (Nat × Obj)) (sx sr : Bs) (wv : World) : Prop :=
  ∃ X R, IlC W xb rb zb bb sz X R Z B sx sr cs V L wv ∧ ∀ p ∈ F, wv.heap[p.1]? = some p.2 ∧ ¬ X p.1 ∧ ¬ R p.1 ∧ ¬ Z p.1 ∧ ¬ B p.1 ∧ p.1 ≠ bb ∧ W.heap.size ≤ p.1
variable {W : World} {xb rb zb bb : Nat} {sz : Bs} {Z B : Nat → Prop} {sx sr sx2 sr2 : Bs} {cs : Array Value} {V : Nat → Value} {L : Nat → List Sh} {wv w2 : World} {F : List (Nat × Obj)}
theorem IlI.quiet (h : IlI W xb rb zb bb sz Z B cs V L F sx sr wv) (ho : Only (fun _ => False) wv w2) : IlI W xb rb zb bb sz Z B cs V L F sx sr w2 := by
  obtain ⟨X, R, h, hF⟩ := h
  exact ⟨X, R, h.quiet ho, fun p hp => ⟨Only.keep ho (hF p hp).1 (fun h => h), (hF p hp).2⟩⟩
theorem IlI.alloc (h : IlI W xb rb zb bb sz Z B cs V L F sx sr wv) (o : Obj) : IlI W xb rb zb bb sz Z B cs V L ((wv.heap.size, o) :: F) sx sr (wv.alloc o) := by
  obtain ⟨X, R, h, hF⟩ := h
  have ho : Only (fun _ => False) wv (wv.alloc o) := (Only.refl _ _).alloc o
  refine ⟨X, R, h.quiet ho, fun p hp => ?_⟩
  rcases List.mem_cons.1 hp with rfl | hp
  · have hb := lt_of_some h.b.bl
    refine ⟨heap_alloc_last wv o, fun h1 => ?_, fun h1 => ?_, fun h1 => ?_, fun h1 => ?_, ?_, h.be.size⟩
    · have := (h.dX _ h1).2.1; exact absurd this (Nat.lt_irrefl _)
    · have := (h.dR _ h1).2.1; exact absurd this (Nat.lt_irrefl _)
    · have := (h.dZ _ h1).2.1; exact absurd this (Nat.lt_irrefl _)
    · have := (h.dB _ h1).2.1; exact absurd this (Nat.lt_irrefl _)
    · show wv.heap.size ≠ bb; omega
  · exact ⟨Only.keep ho (hF p hp).1 (fun h => h), (hF p hp).2⟩
theorem IlI.more (h : IlI W xb rb zb bb sz Z B cs V L F sx sr wv) {b : Nat} {o : Obj} (hb : wv.heap[b]? = some o) (hq : ∃ w0, IlI W xb rb zb bb sz Z B cs V L F sx sr w0 ∧ Only (fun _ => False) w0 wv ∧ w0.heap.size ≤ b) : IlI W xb rb zb bb sz Z B cs V L ((b, o) :: F) sx sr wv := by
  obtain ⟨w0, ⟨X, R, h, hF⟩, ho, hl⟩ := hq
  refine ⟨X, R, h.quiet ho, fun p hp => ?_⟩
  rcases List.mem_cons.1 hp with rfl | hp
  · have hbb := lt_of_some h.b.bl
    have hw := h.be.size
    refine ⟨hb, fun h1 => ?_, fun h1 => ?_, fun h1 => ?_, fun h1 => ?_, ?_, ?_⟩
    · have := (h.dX _ h1).2.1; simp only at this; omega
    · have := (h.dR _ h1).2.1; simp only at this; omega
    · have := (h.dZ _ h1).2.1; simp only at this; omega
    · have := (h.dB _ h1).2.1; simp only at this; omega
    · show b ≠ bb; omega
    · show W.heap.size ≤ b; omega
  · exact ⟨Only.keep ho (hF p hp).1 (fun h => h), (hF p hp).2⟩
theorem IlI.at (h : IlI W xb rb zb bb sz Z B cs V L F sx sr wv) {b : Nat} {o : Obj} (hm : (b, o) ∈ F) : wv.heap[b]? = some o := by
  obtain ⟨X, R, _, hF⟩ := h
  exact (hF _ hm).1
/-- A call of the program's store. -/
theorem IlI.xcall {f : FuncId} {args : Array Value} {v : Value} (h : IlI W xb rb zb bb sz Z B cs V L F sx sr wv) (hc : ∀ U, XbX U wv xb sx → Calls Try.prog f args wv fun e w' => e = .returned v ∧ XbX U w' xb sx2 ∧ Only (fun k => ¬ U k) wv w') :
    Calls Try.prog f args wv fun e w' => e = .returned v ∧ Hid (IlI W xb rb zb bb sz Z B cs V L F sx2 sr w') := by
  obtain ⟨X, R, h, hF⟩ := h
  refine (hc _ h.x).mono ?_
  rintro e w' ⟨rfl, hx, ho⟩
  refine ⟨rfl, _, R, h.xcall hx ho, fun p hp => ?_⟩
  obtain ⟨h1, h2, h3, h4⟩ := hF p hp
  have hl := lt_of_some h1
  refine ⟨Only.keep ho h1 (fun h5 => h5 ⟨hl, h2⟩), fun h5 => ?_, h3, h4⟩
  rcases h5 with h5 | h5
  · exact h2 h5
  · omega
/-- A call of the document's. -/
theorem IlI.rcall {f : FuncId} {args : Array Value} {v : Value} (h : IlI W xb rb zb bb sz Z B cs V L F sx sr wv) (hc : ∀ U, RbX U wv rb sr → Calls Try.prog f args wv fun e w' => e = .returned v ∧ RbX U w' rb sr2 ∧ Only (fun k => ¬ U k) wv w') :
    Calls Try.prog f args wv fun e w' => e = .returned v ∧ Hid (IlI W xb rb zb bb sz Z B cs V L F sx sr2 w') := by
  obtain ⟨X, R, h, hF⟩ := h
  refine (hc _ h.r).mono ?_
  rintro e w' ⟨rfl, hr, ho⟩
  refine ⟨rfl, X, _, h.rcall hr ho, fun p hp => ?_⟩
  obtain ⟨h1, h2, h3, h4⟩ := hF p hp
  have hl := lt_of_some h1
  refine ⟨Only.keep ho h1 (fun h5 => h5 ⟨hl, h3⟩), h2, fun h5 => ?_, h4⟩
  rcases h5 with h5 | h5
  · exact h3 h5
  · omega
/-- A block of its own is written anew. -/
theorem IlI.upd (h : IlI W xb rb zb bb sz Z B cs V L F sx sr wv) {b : Nat} {o o2 : Obj} (hm : (b, o) ∈ F) (ho : Only (fun k => k = b) wv w2) (hb : w2.heap[b]? = some o2) : IlI W xb rb zb bb sz Z B cs V L ((b, o2) :: F.filter fun p => decide (p.1 ≠ b)) sx sr w2 := by
  obtain ⟨X, R, h, hF⟩ := h
  obtain ⟨g1, g2, g3, g4, g5, g6, g7⟩ := hF _ hm
  simp only at g1 g2 g3 g4 g5 g6 g7
  have hs := ho.size
  have cut : ∀ {k : Nat} {P : Prop}, (k < w2.heap.size ∧ P) → (k < wv.heap.size ∧ P) ∨ (wv.heap.size ≤ k ∧ k < w2.heap.size) := fun {k P} hk => by
    by_cases h1 : k < wv.heap.size
    · exact Or.inl ⟨h1, hk.2⟩
    · exact Or.inr ⟨by omega, hk.1⟩
  refine ⟨X, R, ⟨h.x.step ho (fun k hk h1 => by subst h1; exact ⟨hk, g2⟩) (fun k hk => cut hk), h.r.step ho (fun k hk h1 => by subst h1; exact ⟨hk, g3⟩) (fun k hk => cut hk), h.z.step ho (fun k hk h1 => by subst h1; exact ⟨hk, g4⟩) (fun k hk => cut hk), h.b.only ho (fun k hk h1 => by subst h1; exact g5 hk) (fun h1 => g6 h1.symm), fun k hk => by have := h.dX k hk; exact ⟨this.1, by omega, this.2.2⟩, fun k hk => by have := h.dR k hk; exact ⟨this.1, by omega, this.2.2⟩, fun k hk => by have := h.dZ k hk; exact ⟨this.1, by omega, this.2.2⟩, fun k hk => by have := h.dB k hk; exact ⟨this.1, by omega, this.2.2⟩, h.wb, h.be.trans (ho.below h.be.size (fun k hk h1 => by omega))⟩, fun p hp => ?_⟩
  rcases List.mem_cons.1 hp with rfl | hp
  · exact ⟨hb, g2, g3, g4, g5, g6, g7⟩
  · obtain ⟨h1, h2⟩ := List.mem_filter.1 hp
    exact ⟨Only.keep ho (hF p h1).1 (by simpa using h2), (hF p h1).2⟩
end Go.Proofs.Ytdpgdjpphnbfnaa

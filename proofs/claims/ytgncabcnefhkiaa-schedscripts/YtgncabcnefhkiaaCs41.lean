import Derived.Test.YtgncabcnefhkiaaCs40
/- SchedScripts: a step under way. -/
namespace Go.Proofs.Ytgncabcnefhkiaa
open Go.ChangeShapes Go.WideShapes Go.ChangeAt Go.RowKit
open Go.Vx
set_option linter.unusedVariables false

/-- A step under way: F are blocks of its own, with what lies in them. -/
def SlI (W : World) (xb rb zb bb : Nat) (ts : List (Int × Int)) (sz : SS) (Z B : Nat → Prop) (cs : Array Value) (V : Nat → Value) (L : Nat → List Sh) (F : List (Nat × Obj)) (sx sr : SS) (wv : World) : Prop :=
  ∃ X R, SlC W xb rb zb bb ts sz X R Z B sx sr cs V L wv ∧ ∀ p ∈ F, wv.heap[p.1]? = some p.2 ∧ ¬ X p.1 ∧ ¬ R p.1 ∧ ¬ Z p.1 ∧ ¬ B p.1 ∧ p.1 ≠ bb ∧ W.heap.size ≤ p.1
variable {W : World} {xb rb zb bb : Nat} {ts : List (Int × Int)} {sz : SS} {Z B : Nat → Prop} {sx sr sx2 sr2 : SS} {cs : Array Value} {V : Nat → Value} {L : Nat → List Sh} {wv w2 : World} {F : List (Nat × Obj)}
theorem SlI.quiet (h : SlI W xb rb zb bb ts sz Z B cs V L F sx sr wv) (ho : Only (fun _ => False) wv w2) : SlI W xb rb zb bb ts sz Z B cs V L F sx sr w2 := by
  obtain ⟨X, R, h, hF⟩ := h
  exact ⟨X, R, h.quiet ho, fun p hp => ⟨Only.keep ho (hF p hp).1 (fun h => h), (hF p hp).2⟩⟩
theorem SlI.alloc (h : SlI W xb rb zb bb ts sz Z B cs V L F sx sr wv) (o : Obj) : SlI W xb rb zb bb ts sz Z B cs V L ((wv.heap.size, o) :: F) sx sr (wv.alloc o) := by
  obtain ⟨X, R, h, hF⟩ := h
  have ho : Only (fun _ => False) wv (wv.alloc o) := (Only.refl _ _).alloc o
  refine ⟨X, R, h.quiet ho, fun p hp => ?_⟩
  rcases List.mem_cons.1 hp with rfl | hp
  · have hb := lt_of_some h.b.bl
    refine ⟨heap_alloc_last wv o, fun h1 => ?_, fun h1 => ?_, fun h1 => ?_, fun h1 => ?_, ?_, h.be.size⟩
    · have := (h.dX _ h1).2.1; exact absurd this (Nat.lt_irrefl _)
    · have := (h.dR _ h1).2.1; exact absurd this (Nat.lt_irrefl _)
    · have := (h.dZ _ h1).2.1; exact absurd this (Nat.lt_irrefl _)
    · have := (h.dB _ h1).2.1; exact absurd this (Nat.lt_irrefl _)
    · show wv.heap.size ≠ bb; omega
  · exact ⟨Only.keep ho (hF p hp).1 (fun h => h), (hF p hp).2⟩
theorem SlI.more (h : SlI W xb rb zb bb ts sz Z B cs V L F sx sr wv) {b : Nat} {o : Obj} (hb : wv.heap[b]? = some o) (hq : ∃ w0, SlI W xb rb zb bb ts sz Z B cs V L F sx sr w0 ∧ Only (fun _ => False) w0 wv ∧ w0.heap.size ≤ b) : SlI W xb rb zb bb ts sz Z B cs V L ((b, o) :: F) sx sr wv := by
  obtain ⟨w0, ⟨X, R, h, hF⟩, ho, hl⟩ := hq
  refine ⟨X, R, h.quiet ho, fun p hp => ?_⟩
  rcases List.mem_cons.1 hp with rfl | hp
  · have hbb := lt_of_some h.b.bl
    have hw := h.be.size
    refine ⟨hb, fun h1 => ?_, fun h1 => ?_, fun h1 => ?_, fun h1 => ?_, ?_, ?_⟩
    · have := (h.dX _ h1).2.1; simp only at this; omega
    · have := (h.dR _ h1).2.1; simp only at this; omega
    · have := (h.dZ _ h1).2.1; simp only at this; omega
    · have := (h.dB _ h1).2.1; simp only at this; omega
    · show b ≠ bb; omega
    · show W.heap.size ≤ b; omega
  · exact ⟨Only.keep ho (hF p hp).1 (fun h => h), (hF p hp).2⟩
theorem SlI.at (h : SlI W xb rb zb bb ts sz Z B cs V L F sx sr wv) {b : Nat} {o : Obj} (hm : (b, o) ∈ F) : wv.heap[b]? = some o := by
  obtain ⟨X, R, _, hF⟩ := h
  exact (hF _ hm).1
/-- A call of the program's store. -/
theorem SlI.xcall {f : FuncId} {args : Array Value} {v : Value} (h : SlI W xb rb zb bb ts sz Z B cs V L F sx sr wv) (hc : ∀ U, XcS U wv xb ts sx → Calls Try.prog f args wv fun e w' => e = .returned v ∧ XcS U w' xb ts sx2 ∧ Only (fun k => ¬ U k) wv w') :
    Calls Try.prog f args wv fun e w' => e = .returned v ∧ Hid (SlI W xb rb zb bb ts sz Z B cs V L F sx2 sr w') := by
  obtain ⟨X, R, h, hF⟩ := h
  refine (hc _ h.x).mono ?_
  rintro e w' ⟨rfl, hx, ho⟩
  refine ⟨rfl, _, R, h.xcall hx ho, fun p hp => ?_⟩
  obtain ⟨h1, h2, h3, h4⟩ := hF p hp
  have hl := lt_of_some h1
  refine ⟨Only.keep ho h1 (fun h5 => h5 ⟨hl, h2⟩), fun h5 => ?_, h3, h4⟩
  rcases h5 with h5 | h5
  · exact h2 h5
  · omega
/-- A call of the document's. -/
theorem SlI.rcall {f : FuncId} {args : Array Value} {v : Value} (h : SlI W xb rb zb bb ts sz Z B cs V L F sx sr wv) (hc : ∀ U, SdS U wv rb ts sr → Calls Try.prog f args wv fun e w' => e = .returned v ∧ SdS U w' rb ts sr2 ∧ Only (fun k => ¬ U k) wv w') :
    Calls Try.prog f args wv fun e w' => e = .returned v ∧ Hid (SlI W xb rb zb bb ts sz Z B cs V L F sx sr2 w') := by
  obtain ⟨X, R, h, hF⟩ := h
  refine (hc _ h.r).mono ?_
  rintro e w' ⟨rfl, hr, ho⟩
  refine ⟨rfl, X, _, h.rcall hr ho, fun p hp => ?_⟩
  obtain ⟨h1, h2, h3, h4⟩ := hF p hp
  have hl := lt_of_some h1
  refine ⟨Only.keep ho h1 (fun h5 => h5 ⟨hl, h3⟩), h2, fun h5 => ?_, h4⟩
  rcases h5 with h5 | h5
  · exact h3 h5
  · omega
/-- A block of its own is written anew. -/
theorem SlI.upd (h : SlI W xb rb zb bb ts sz Z B cs V L F sx sr wv) {b : Nat} {o o2 : Obj} (hm : (b, o) ∈ F) (ho : Only (fun k => k = b) wv w2) (hb : w2.heap[b]? = some o2) : SlI W xb rb zb bb ts sz Z B cs V L ((b, o2) :: F.filter fun p => decide (p.1 ≠ b)) sx sr w2 := by
  obtain ⟨X, R, h, hF⟩ := h
  obtain ⟨g1, g2, g3, g4, g5, g6, g7⟩ := hF _ hm
  simp only at g1 g2 g3 g4 g5 g6 g7
  have hs := ho.size
  have cut : ∀ {k : Nat} {P : Prop}, (k < w2.heap.size ∧ P) → (k < wv.heap.size ∧ P) ∨ (wv.heap.size ≤ k ∧ k < w2.heap.size) := fun {k P} hk => by
    by_cases h1 : k < wv.heap.size
    · exact Or.inl ⟨h1, hk.2⟩
    · exact Or.inr ⟨by omega, hk.1⟩
  refine ⟨X, R, ⟨h.x.step ho (fun k hk h1 => by subst h1; exact ⟨hk, g2⟩) (fun k hk => cut hk), h.r.step ho (fun k hk h1 => by subst h1; exact ⟨hk, g3⟩) (fun k hk => cut hk), h.z.step ho (fun k hk h1 => by subst h1; exact ⟨hk, g4⟩) (fun k hk => cut hk), h.b.only ho (fun k hk h1 => by subst h1; exact g5 hk) (fun h1 => g6 h1.symm), fun k hk => by have := h.dX k hk; exact ⟨this.1, by omega, this.2.2⟩, fun k hk => by have := h.dR k hk; exact ⟨this.1, by omega, this.2.2⟩, fun k hk => by have := h.dZ k hk; exact ⟨this.1, by omega, this.2.2⟩, fun k hk => by have := h.dB k hk; exact ⟨this.1, by omega, this.2.2⟩, h.wb, h.be.trans (ho.below h.be.size (fun k hk h1 => by omega))⟩, fun p hp => ?_⟩
  rcases List.mem_cons.1 hp with rfl | hp
  · exact ⟨hb, g2, g3, g4, g5, g6, g7⟩
  · obtain ⟨h1, h2⟩ := List.mem_filter.1 hp
    exact ⟨Only.keep ho (hF p h1).1 (by simpa using h2), (hF p h1).2⟩
end Go.Proofs.Ytgncabcnefhkiaa

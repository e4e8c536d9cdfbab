/- The relation of a script's loop. -/
import Derived.Test.YtflmobffeeocdaaGreatDoorV7
import Derived.Test.YtflmobffeeocdaaGreatDoorV3
import Derived.Test.YtflmobffeeocdaaGreatDoorV4
namespace Go.Proofs.YtflmobffeeocdaaGreatDoor
open Go.ChangeShapes Go.WideShapes Go.ChangeAt Go.RowKit
open Go.Vx

theorem moves_any {U : Nat → Prop} {w : World} {sb bm br bb n : Nat} {f : Nat → UInt8} (h : StAt U w sb bm br bb n f f) (K A B C D : Int) (hK : K ≤ 7) (hA : I64 A) (hB : I64 B) (s : List UInt8) (hs : s.length ≤ 9223372036854775807) :
    Calls Tryz.prog 12 #[.pointer (some ⟨sb, 0, none⟩), .agg (opv K A B C D ⟨s.toArray⟩)] w fun e w' => e = .returned (.bool true) ∧ MvR U w sb bm br bb n w' := by
  have hc : K < 2 ∨ K = 2 ∨ K = 3 ∨ K = 4 ∨ K = 5 ∨ K = 6 ∨ K = 7 := by omega
  rcases hc with hc | rfl | rfl | rfl | rfl | rfl | rfl
  · exact moves_other h K A B C D (Or.inl hc) s
  · exact moves_read h A B C D hA hB s hs
  · exact moves_write h A B C D hA hB s hs
  · exact moves_word h A B C D hA hB s hs
  · exact moves_set h A B C D hA hB s hs
  · exact moves_zero h A B C D hA hB s hs
  · exact moves_same h A B C D hA hB s hs
/-- The blocks of a memory of three pages. -/
def OwnM (bz bpz : Nat) (qz : Nat → Option Nat) (k : Nat) : Prop := k = bz ∨ k = bpz ∨ ∃ i, i < 3 ∧ qz i = some k
theorem MemIs.keep {U : Nat → Prop} {w w' : World} {bz bpz : Nat} {qz : Nat → Option Nat} {f : Nat → UInt8} (h : MemIs U w bz bpz 3 qz f) (hs : w.heap.size ≤ w'.heap.size) (hk : ∀ k, OwnM bz bpz qz k → w'.heap[k]? = w.heap[k]?) : MemIs U w' bz bpz 3 qz f :=
  ⟨h.pos, h.top, by rw [hk _ (Or.inl rfl)]; exact h.m, by rw [hk _ (Or.inr (Or.inl rfl))]; exact h.p, h.nil, fun i hi b hb => by rw [hk b (Or.inr (Or.inr ⟨i, hi, hb⟩))]; exact h.pg i hi b hb, h.inj, h.um, h.up, h.ug, fun k hu => Nat.lt_of_lt_of_le (h.low k hu) hs⟩
theorem MemIs.own_lt {U : Nat → Prop} {w : World} {bz bpz : Nat} {qz : Nat → Option Nat} {f : Nat → UInt8} (h : MemIs U w bz bpz 3 qz f) {k : Nat} (hk : OwnM bz bpz qz k) : k < w.heap.size := by
  rcases hk with rfl | rfl | ⟨i, hi, hq⟩
  · exact lt_of_some h.m
  · exact lt_of_some h.p
  · exact lt_of_some (h.pg i hi k hq)
theorem MemIs.own_out {U : Nat → Prop} {w : World} {bz bpz : Nat} {qz : Nat → Option Nat} {f : Nat → UInt8} (h : MemIs U w bz bpz 3 qz f) {k : Nat} (hk : OwnM bz bpz qz k) : ¬ U k := by
  rcases hk with rfl | rfl | ⟨i, hi, hq⟩
  · exact h.um
  · exact h.up
  · exact h.ug i k hi hq
/-- What a script's step may not touch. -/
def BaseU (W : World) (sb bz bpz : Nat) (qz : Nat → Option Nat) (k : Nat) : Prop := k < W.heap.size ∨ k = sb ∨ OwnM bz bpz qz k
structure ScR (W : World) (sb bz bpz : Nat) (qz : Nat → Option Nat) (fz : Nat → UInt8) (wr : World) : Prop where
  ex : ∃ Uc bm br bb n f, StAt Uc wr sb bm br bb n f f ∧ (∀ k, BaseU W sb bz bpz qz k → Uc k) ∧ ¬ BaseU W sb bz bpz qz bb
  sat : SbAt wr sb
  z : MemIs (fun _ => False) wr bz bpz 3 qz fz
  be : Below W.heap.size W wr
  wsb : W.heap.size ≤ sb
  nz : ¬ OwnM bz bpz qz sb
theorem ScR.quiet {W : World} {sb bz bpz : Nat} {qz : Nat → Option Nat} {fz : Nat → UInt8} {wr wx : World} (h : ScR W sb bz bpz qz fz wr) (ho : Only (fun _ => False) wr wx) : ScR W sb bz bpz qz fz wx := by
  obtain ⟨Uc, bm, br, bb, n, f, h1, h2, h3⟩ := h.ex
  exact ⟨⟨Uc, bm, br, bb, n, f, h1.only ho, h2, h3⟩, h.sat.only ho (fun h => h), h.z.keep ho.size (fun k hk => ho.block k (h.z.own_lt hk) (fun h => h)), h.be.trans (ho.below h.be.size (fun _ _ h => h)), h.wsb, h.nz⟩
/-- A step that keeps the base. -/
theorem ScR.step {W : World} {sb bz bpz : Nat} {qz : Nat → Option Nat} {fz : Nat → UInt8} {wr wx : World} (h : ScR W sb bz bpz qz fz wr) {S : Nat → Prop} (ho : Only S wr wx) (hS : ∀ k, BaseU W sb bz bpz qz k → S k → k = sb) (hsb : SbAt wx sb) (hex : ∃ Uc bm br bb n f, StAt Uc wx sb bm br bb n f f ∧ (∀ k, BaseU W sb bz bpz qz k → Uc k) ∧ ¬ BaseU W sb bz bpz qz bb) : ScR W sb bz bpz qz fz wx := by
  refine ⟨hex, hsb, h.z.keep ho.size (fun k hk => ho.block k (h.z.own_lt hk) (fun hs => ?_)), h.be.trans (ho.below h.be.size (fun k hk hs => ?_)), h.wsb, h.nz⟩
  · have := hS k (Or.inr (Or.inr hk)) hs
    subst this
    exact h.nz hk
  · have := hS k (Or.inl hk) hs
    have := h.wsb
    omega
theorem ScR.moved {W : World} {sb bz bpz : Nat} {qz : Nat → Option Nat} {fz : Nat → UInt8} {wr wx : World} (h : ScR W sb bz bpz qz fz wr) {Uc : Nat → Prop} {bm br bb n : Nat} (h2 : ∀ k, BaseU W sb bz bpz qz k → Uc k) (h3 : ¬ BaseU W sb bz bpz qz bb) (hm : MvR Uc wr sb bm br bb n wx) : ScR W sb bz bpz qz fz wx := by
  obtain ⟨⟨f, hst⟩, ho⟩ := hm
  have hS : ∀ k, BaseU W sb bz bpz qz k → (¬ Uc k ∨ k = bb) → k = sb := fun k hk hs => by
    rcases hs with hs | hs
    · exact absurd (h2 k hk) hs
    · subst hs; exact absurd hk h3
  refine h.step ho hS (h.sat.only ho (fun hs => ?_)) ⟨Uc, bm, br, bb, n, f, hst, h2, h3⟩
  rcases hs with hs | hs
  · exact hs (h2 sb (Or.inr (Or.inl rfl)))
  · exact h3 (by rw [← hs]; exact Or.inr (Or.inl rfl))
theorem ScR.begun {W : World} {sb bz bpz : Nat} {qz : Nat → Option Nat} {fz : Nat → UInt8} {wr wx : World} (h : ScR W sb bz bpz qz fz wr) {n : Nat} (hb : BgR (BaseU W sb bz bpz qz) wr sb n wx) : ScR W sb bz bpz qz fz wx := by
  obtain ⟨bm, br, bb, h1, h2, hst, hsb, ho⟩ := hb
  refine h.step ho (fun k _ hs => hs) hsb ⟨_, bm, br, bb, n, _, hst, fun k hk => Or.inl (Or.inl hk), fun hk => ?_⟩
  rcases hk with hk | hk | hk
  · have := h.be.size
    omega
  · have := h.sat.lt
    omega
  · have := h.z.own_lt hk
    omega
theorem ScR.base {W : World} {sb bz bpz : Nat} {qz : Nat → Option Nat} {fz : Nat → UInt8} {wr : World} (h : ScR W sb bz bpz qz fz wr) : ∀ k, BaseU W sb bz bpz qz k → k < wr.heap.size := fun k hk => by
  rcases hk with hk | hk | hk
  · exact Nat.lt_of_lt_of_le hk h.be.size
  · rw [hk]; exact h.sat.lt
  · exact h.z.own_lt hk
/-- begin, at any number. -/
theorem ScR.begin {W : World} {sb bz bpz : Nat} {qz : Nat → Option Nat} {fz : Nat → UInt8} {wr : World} (h : ScR W sb bz bpz qz fz wr) (n : Int) :
    Calls Tryz.prog 8 #[.pointer (some ⟨sb, 0, none⟩), .int .i64 n] wr fun e w' => e = .returned (.bool true) ∧ ScR W sb bz bpz qz fz w' := by
  by_cases hn : n < 1 ∨ 256 < n
  · refine (begin_no n hn).mono ?_
    rintro e w' ⟨rfl, rfl⟩
    exact ⟨rfl, h⟩
  · obtain ⟨m, rfl⟩ : ∃ m : Nat, n = (m : Int) := ⟨n.toNat, by omega⟩
    refine (begin_ok (U := BaseU W sb bz bpz qz) h.sat (Or.inr (Or.inl rfl)) h.base m (by omega) (by omega)).mono ?_
    rintro e w' ⟨rfl, hb⟩
    exact ⟨rfl, h.begun hb⟩
theorem ScR.moves {W : World} {sb bz bpz : Nat} {qz : Nat → Option Nat} {fz : Nat → UInt8} {wr : World} (h : ScR W sb bz bpz qz fz wr) (K A B C D : Int) (hK : K ≤ 7) (hA : I64 A) (hB : I64 B) (s : List UInt8) (hs : s.length ≤ 9223372036854775807) :
    Calls Tryz.prog 12 #[.pointer (some ⟨sb, 0, none⟩), .agg (opv K A B C D ⟨s.toArray⟩)] wr fun e w' => e = .returned (.bool true) ∧ ScR W sb bz bpz qz fz w' := by
  obtain ⟨Uc, bm, br, bb, n, f, h1, h2, h3⟩ := h.ex
  refine (moves_any h1 K A B C D hK hA hB s hs).mono ?_
  rintro e w' ⟨rfl, hm⟩
  exact ⟨rfl, h.moved h2 h3 hm⟩
theorem ScR.reads {W : World} {sb bz bpz : Nat} {qz : Nat → Option Nat} {fz : Nat → UInt8} {wr : World} (h : ScR W sb bz bpz qz fz wr) :
    Calls Tryz.prog 15 #[.pointer (some ⟨sb, 68, none⟩)] wr fun e w' => e = .returned (.bool true) ∧ w' = wr := reads_ok h.sat.bk
theorem ScR.whole {W : World} {sb bz bpz : Nat} {qz : Nat → Option Nat} {fz : Nat → UInt8} {wr : World} (h : ScR W sb bz bpz qz fz wr) :
    Calls Tryz.prog 17 #[.pointer (some ⟨sb, 0, none⟩)] wr fun e w' => e = .returned (.bool true) ∧ ScR W sb bz bpz qz fz w' := by
  obtain ⟨Uc, bm, br, bb, n, f, h1, h2, h3⟩ := h.ex
  refine (whole_ok h1).mono ?_
  rintro e w' ⟨rfl, ho⟩
  exact ⟨rfl, h.quiet ho⟩
theorem ScR.drew {W : World} {sb bz bpz : Nat} {qz : Nat → Option Nat} {fz : Nat → UInt8} {wr : World} (h : ScR W sb bz bpz qz fz wr) : ScR W sb bz bpz qz fz wr.drew := h.quiet ((Only.refl _ _).drew)
/-- The three that stand ahead of the loop. -/
theorem ScR.start {W w1 w2 w3 : World} {sb bz bpz : Nat} {qz : Nat → Option Nat} {fz : Nat → UInt8} (hw : W.heap.size ≤ sb) (h0 : ∃ w0, Only (fun _ => False) W w0 ∧ w0.heap.size = sb + 1 ∧ BgR (fun k => k < W.heap.size ∨ k = sb) w0 sb 4 w1)
    (ho2 : Only (fun _ => False) w1 w2) (ho3 : Only (fun k => ¬ k < w1.heap.size) w2 w3) (hz : MemIs (fun k => k < w1.heap.size) w3 bz bpz 3 qz fz) : ScR W sb bz bpz qz fz w3 := by
  obtain ⟨w0, hW, hs0, bm, br, bb, hb1, hb2, hst, hsb, ho1⟩ := h0
  have hz' : MemIs (fun _ => False) w3 bz bpz 3 qz fz := ⟨hz.pos, hz.top, hz.m, hz.p, hz.nil, hz.pg, hz.inj, fun h => h, fun h => h, fun _ _ _ _ h => h, fun _ h => h.elim⟩
  have hout : ∀ k, OwnM bz bpz qz k → w1.heap.size ≤ k := fun k hk => by have := hz.own_out hk; omega
  have hbel : Below w1.heap.size w1 w3 := (ho2.below (Nat.le_refl _) (fun _ _ h => h)).trans (ho3.below ho2.size (fun k hk hn => hn hk))
  have hsl := hsb.lt
  have hbb : bb < w1.heap.size := lt_of_some hst.r.b
  have hbr : br < w1.heap.size := lt_of_some hst.r.r
  have hc : ∀ b j, b < w1.heap.size → w3.cell? ⟨b, j, none⟩ = w1.cell? ⟨b, j, none⟩ := fun b j hb => hbel.cell (p := ⟨b, j, none⟩) hb
  obtain ⟨bp, q, hm⟩ := hst.m
  have hk : ∀ b o, w1.heap[b]? = some o → w3.heap[b]? = some o := fun b o hb => by rw [hbel.block b (lt_of_some hb)]; exact hb
  have hu : ∀ b o, w1.heap[b]? = some o → ¬ ((((b < W.heap.size ∨ b = sb) ∨ b = bb) ∨ b = br)) → ¬ ((((b < W.heap.size ∨ b = sb) ∨ b = bb) ∨ b = br) ∨ OwnM bz bpz qz b) := fun b o hb hn h => by
    rcases h with h | h
    · exact hn h
    · have := hout b h
      have := lt_of_some hb
      omega
  refine ⟨⟨fun k => (((k < W.heap.size ∨ k = sb) ∨ k = bb) ∨ k = br) ∨ OwnM bz bpz qz k, bm, br, bb, 4, fun _ => 0, ⟨?_, ?_, Nat.lt_of_lt_of_le hsl hbel.size, ?_, ?_, Or.inl (Or.inl (Or.inl (Or.inr rfl))), Or.inl (Or.inr rfl), Or.inl (Or.inl (Or.inr rfl)), hst.ne⟩, ?_, ?_⟩, ?_, hz', ?_, hw, ?_⟩
  · rw [hc sb 0 hsl]; exact hst.c0
  · rw [hc sb 1 hsl]; exact hst.c1
  · exact ⟨bp, q, hm.pos, hm.top, hk _ _ hm.m, hk _ _ hm.p, hm.nil, fun i hi b hb => hk _ _ (hm.pg i hi b hb), hm.inj, hu _ _ hm.m hm.um, hu _ _ hm.p hm.up, fun i b hi hb => hu _ _ (hm.pg i hi b hb) (hm.ug i b hi hb), fun k hk => by
      rcases hk with hk | hk
      · exact Nat.lt_of_lt_of_le (hm.low k hk) hbel.size
      · exact hz.own_lt hk⟩
  · exact ⟨hst.r.pos, hst.r.top, hk _ _ hst.r.r, hk _ _ hst.r.b⟩
  · intro k hk
    rcases hk with hk | hk | hk
    · exact Or.inl (Or.inl (Or.inl (Or.inl hk)))
    · exact Or.inl (Or.inl (Or.inl (Or.inr hk)))
    · exact Or.inr hk
  · intro hk
    rcases hk with hk | hk | hk
    · have := hW.size
      omega
    · omega
    · have := hout bb hk
      omega
  · obtain ⟨cs, h1, h2, h3⟩ := hsb
    exact ⟨cs, hk _ _ h1, h2, h3⟩
  · have hW1 : Below W.heap.size W w1 := (hW.below (Nat.le_refl _) (fun _ _ h => h)).trans (ho1.below hW.size (fun k hk hs => by omega))
    exact hW1.trans (hbel.mono hW1.size)
  · intro hk
    have := hout sb hk
    omega
end Go.Proofs.YtflmobffeeocdaaGreatDoor

import Derived.Test.YtbmchgjilkoplaaDoorCq41
import Derived.Test.YtbmchgjilkoplaaDoorCq42
import Derived.Test.YtbmchgjilkoplaaDoorCq45
import Derived.Test.YtbmchgjilkoplaaDoorCq46
import Derived.Test.YtbmchgjilkoplaaDoorCq48
import Derived.Test.YtbmchgjilkoplaaDoorCq49
import Derived.Test.YtbmchgjilkoplaaDoorCq52
import Derived.Test.YtbmchgjilkoplaaDoorCq35
import Derived.Test.YtbmchgjilkoplaaDoorCq19
import Derived.ProofKit
import Derived.LaidMore
import Derived.OpenShut
import Derived.Stop.Joined
import Derived.SevenTiedAt
import Derived.Deep.Strs
import Derived.Test.YtbmchgjilkoplaaDoorCq26
import Derived.Test.YtbmchgjilkoplaaDoorCards
import Derived.Test.YtbmchgjilkoplaaDoorTie
import Derived.HandedShaped
/- CapsScripts: what stands between the steps; one step of either sort; the beginning. -/
namespace Go.Proofs.YtbmchgjilkoplaaDoor
open Go.ChangeShapes Go.WideShapes Go.ChangeAt Go.RowKit
open Go.Vx
set_option linter.unusedVariables false
variable {W : World} {xb rb zb bb : Nat} {X R Z Bk : Nat → Prop} {bs : List (Int × Int)} {es : List En} {vs ve : Value} {ss ls : List Sh} {wr w2 : World} {n m p q : Nat}

/-- Between the steps. -/
def SwR (W : World) (xb rb zb bb : Nat) (n m p q : Nat) (w' : World) : Prop := ∃ X R Z B bs es vs ss ve ls, CsR W xb rb zb bb X R Z B bs es bs es vs ss ve ls w' ∧ bs.length ≤ n ∧ es.length ≤ m ∧ N77 bs ∧ ss.length ≤ p ∧ ls.length ≤ q
theorem SwR.be (h : SwR W xb rb zb bb n m p q wr) : Below W.heap.size W wr := by
  obtain ⟨X, R, Z, B, bs, es, vs, ss, ve, ls, h, _⟩ := h
  exact h.be
theorem SwR.quiet (h : SwR W xb rb zb bb n m p q wr) (ho : Only (fun _ => False) wr w2) : SwR W xb rb zb bb n m p q w2 := by
  obtain ⟨X, R, Z, B, bs, es, vs, ss, ve, ls, h, h2⟩ := h
  exact ⟨X, R, Z, B, bs, es, vs, ss, ve, ls, h.quiet ho, h2⟩
theorem SwR.mono {n2 m2 p2 q2 : Nat} (h : SwR W xb rb zb bb n m p q wr) (a : n ≤ n2) (b : m ≤ m2) (c : p ≤ p2) (d : q ≤ q2) : SwR W xb rb zb bb n2 m2 p2 q2 wr := by
  obtain ⟨X, R, Z, B, bs, es, vs, ss, ve, ls, h, h1, h2, h3, h4, h5⟩ := h
  exact ⟨X, R, Z, B, bs, es, vs, ss, ve, ls, h, by omega, by omega, h3, by omega, by omega⟩
theorem PsR.sw {W : World} {xb rb zb bb : Nat} {Z Bk : Nat → Prop} {vs ve : Value} {ss ls : List Sh} {n m n2 m2 p2 q2 : Nat} {wr : World} (h : PsR W xb rb zb bb Z Bk vs ss ve ls n m wr) (a : n ≤ n2) (b : m ≤ m2) (c : ss.length ≤ p2) (d : ls.length ≤ q2) : SwR W xb rb zb bb n2 m2 p2 q2 wr := by
  obtain ⟨X, R, bs, es, h, h1, h2, h3⟩ := h
  exact ⟨X, R, Z, Bk, bs, es, vs, ss, ve, ls, h, by omega, by omega, h3, c, d⟩
theorem TsR.sw {W : World} {xb rb zb bb : Nat} {Z : Nat → Prop} {bs : List (Int × Int)} {es : List En} {n m n2 m2 p2 q2 : Nat} {wr : World} (h : TsR W xb rb zb bb Z bs es bs es n m wr) (hN : N77 bs) (a : bs.length ≤ n2) (b : es.length ≤ m2) (c : n ≤ p2) (d : m ≤ q2) : SwR W xb rb zb bb n2 m2 p2 q2 wr := by
  obtain ⟨X, R, B, vs, ss, ve, ls, h, h1, h2⟩ := h
  exact ⟨X, R, Z, B, bs, es, vs, ss, ve, ls, h, a, b, hN, by omega, by omega⟩
/-- A step that changes. -/
theorem SwR.puts (h : SwR W xb rb zb bb n m p q wr) (hn : n < 1000000) (hm : m < 1000000) (K A B C E : Int) (iA : I64 A) (iB : I64 B) (iC : I64 C) (s : ByteArray) :
    Calls Tryd.prog 8 #[.pointer (some ⟨bb, 0, none⟩), .agg #[.int .i64 K, .int .i64 A, .int .i64 B, .int .i64 C, .int .i64 E, .string s]] wr fun e w' => e = .returned (.bool true) ∧ SwR W xb rb zb bb (n + 1) (m + 1) p q w' := by
  obtain ⟨X, R, Z, Bk, bs, es, vs, ss, ve, ls, h, h1, h2, hN, h4, h5⟩ := h
  have fin : ∀ {w' : World}, PsR W xb rb zb bb Z Bk vs ss ve ls (bs.length + 1) (es.length + 1) w' → SwR W xb rb zb bb (n + 1) (m + 1) p q w' := fun h => h.sw (by omega) (by omega) h4 h5
  by_cases k1 : K = 1
  · subst k1; exact (puts_make h A B C E iA iB iC s (by omega) (by omega) hN).mono (fun _ _ h => ⟨h.1, fin h.2⟩)
  by_cases k2 : K = 2
  · subst k2; exact (puts_drop h A B C E iA iB iC s (by omega) (by omega) hN).mono (fun _ _ h => ⟨h.1, fin h.2⟩)
  by_cases k4 : K = 4
  · subst k4; exact (puts_put h A B C E iA iB iC s (by omega) (by omega) hN).mono (fun _ _ h => ⟨h.1, fin h.2⟩)
  by_cases k6 : K = 6
  · subst k6; exact (puts_change h A B C E iA iB iC s (by omega) (by omega) hN).mono (fun _ _ h => ⟨h.1, fin h.2⟩)
  by_cases k8 : K = 8
  · subst k8; exact (puts_take h A B C E iA iB iC s (by omega) (by omega) hN).mono (fun _ _ h => ⟨h.1, fin h.2⟩)
  by_cases k9 : K = 9
  · subst k9; exact (puts_move h A B C E iA iB iC s (by omega) (by omega) hN).mono (fun _ _ h => ⟨h.1, fin h.2⟩)
  exact (puts_other h A B C E iA iB iC s (by omega) (by omega) hN k1 k2 k4 k6 k8 k9).mono (fun _ _ h => ⟨h.1, h.2.sw (by omega) (by omega) h4 h5⟩)
/-- A step that tells. -/
theorem SwR.tells (h : SwR W xb rb zb bb n m p q wr) (hn : n < 1000000) (hm : m < 1000000) (hp : p ≤ 1000000) (hq : q ≤ 1000000) (K A B C E : Int) (iA : I64 A) (iB : I64 B) (iC : I64 C) (s : ByteArray) :
    Calls Tryd.prog 9 #[.pointer (some ⟨bb, 0, none⟩), .agg #[.int .i64 K, .int .i64 A, .int .i64 B, .int .i64 C, .int .i64 E, .string s]] wr fun e w' => e = .returned (.bool true) ∧ SwR W xb rb zb bb (n + 1) (m + 1) (p + 2) (q + 2) w' := by
  obtain ⟨X, R, Z, Bk, bs, es, vs, ss, ve, ls, h, h1, h2, hN, h4, h5⟩ := h
  have fin : ∀ {w' : World}, PsR W xb rb zb bb Z Bk vs ss ve ls (bs.length + 1) (es.length + 1) w' → SwR W xb rb zb bb (n + 1) (m + 1) (p + 2) (q + 2) w' := fun h => h.sw (by omega) (by omega) (by omega) (by omega)
  have fin2 : ∀ {w' : World}, TsR W xb rb zb bb Z bs es bs es (ss.length + 2) (ls.length + 2) w' → SwR W xb rb zb bb (n + 1) (m + 1) (p + 2) (q + 2) w' := fun h => h.sw hN (by omega) (by omega) (by omega) (by omega)
  by_cases k3 : K = 3
  · subst k3; exact (tells_size h A B C E iA iB iC s (by omega) (by omega) hN).mono (fun _ _ h => ⟨h.1, fin h.2⟩)
  by_cases k5 : K = 5
  · subst k5; exact (tells_get h A B C E iA iB iC s (by omega) (by omega) hN).mono (fun _ _ h => ⟨h.1, fin h.2⟩)
  by_cases k7 : K = 7
  · subst k7; exact (tells_from h A B C E iA iB iC s (by omega) (by omega) hN).mono (fun _ _ h => ⟨h.1, fin h.2⟩)
  by_cases k10 : K = 10
  · subst k10; exact (tells_below h A B C E iA iB iC s (by omega) (by omega) hN (by omega)).mono (fun _ _ h => ⟨h.1, fin2 h.2⟩)
  by_cases k11 : K = 11
  · subst k11; exact (tells_holders h A B C E iA iB iC s (by omega) (by omega) hN (by omega)).mono (fun _ _ h => ⟨h.1, fin2 h.2⟩)
  by_cases k12 : K = 12
  · subst k12; exact (tells_entries h A B C E iA iB iC s (by omega) (by omega) hN (by omega)).mono (fun _ _ h => ⟨h.1, fin2 h.2⟩)
  by_cases k13 : K = 13
  · subst k13; exact (tells_look h A B C E iA iB iC s (by omega) (by omega) hN).mono (fun _ _ h => ⟨h.1, fin h.2⟩)
  exact (tells_other h A B C E iA iB iC s (by omega) (by omega) hN k3 k5 k7 k10 k11 k12 k13).mono (fun _ _ h => ⟨h.1, h.2.sw (by omega) (by omega) (by omega) (by omega)⟩)
/-- All that is there, at the end. -/
theorem SwR.entries (h : SwR W xb rb zb bb n m p q wr) (hm : m ≤ 1000000) (hq : q ≤ 1000000) :
    Calls Tryd.prog 10 #[.pointer (some ⟨bb, 0, none⟩)] wr fun e w' => e = .returned (.bool true) ∧ SwR W xb rb zb bb n m (p + 2) (q + 2) w' := by
  obtain ⟨X, R, Z, Bk, bs, es, vs, ss, ve, ls, h, h1, h2, hN, h4, h5⟩ := h
  exact (entries_ok (F := []) ⟨X, R, h, fun p hp => by cases hp⟩ (by omega) (by omega)).mono (fun _ _ h => ⟨h.1, h.2.sw hN (by omega) (by omega) (by omega) (by omega)⟩)
theorem SwR.reads (h : SwR W xb rb zb bb n m p q wr) (hp : p ≤ 1000000) (hq : q ≤ 1000000) :
    Calls Tryd.prog 11 #[.pointer (some ⟨bb, 2, none⟩)] wr fun e w' => e = .returned (.bool true) ∧ w' = wr := by
  obtain ⟨X, R, Z, Bk, bs, es, vs, ss, ve, ls, h, h1, h2, hN, h4, h5⟩ := h
  exact reads_ok h.b (by omega) (by omega)
theorem boxF77 : ∀ {bs : List (Int × Int)} (k : Nat), N77 bs → idxF (fun b => decide (b.1 = 77)) bs k = none
  | [], k, _ => rfl
  | b :: bs, k, h => by
    unfold idxF
    rw [if_neg (by simpa using h b List.mem_cons_self)]
    exact boxF77 (k + 1) (fun c hc => h c (List.mem_cons_of_mem _ hc))
theorem make77 {bs : List (Int × Int)} (h : N77 bs) : makeE bs 77 2 = 0 ∧ makeL bs 77 2 = bs ++ [(77, 2)] := by
  have h1 : makeE bs 77 2 = 0 := by
    unfold makeE
    rw [if_neg (by decide)]
    unfold boxF
    rw [boxF77 0 h]
  exact ⟨h1, by unfold makeL; rw [if_pos h1]⟩
/-- The last box, and what is told of the two. -/
structure LstR (W : World) (xb zb : Nat) (wr : World) : Prop where
  x : ∃ U bs es, XcAt U wr xb bs es ∧ sizeR bs 77 = (2, 0)
  z : ∃ U es, XcAt U wr zb [(1, 2)] es
  be : Below W.heap.size W wr
theorem SwR.last (h : SwR W xb rb zb bb n m p q wr) (hn : n < 1000000) :
    Calls Tryd.prog 7 #[.pointer (some ⟨xb, 0, none⟩), .int .i64 77, .int .i64 2] wr fun e w' => e = .returned (.int .i64 0) ∧ Hid (LstR W xb zb w') := by
  obtain ⟨X, R, Z, Bk, bs, es, vs, ss, ve, ls, h, h1, h2, hN, h4, h5⟩ := h
  obtain ⟨e1, e2⟩ := make77 hN
  refine (xmake_ok h.x 77 2 (by unfold I64; omega) (by omega)).mono ?_
  rintro e w' ⟨rfl, hx, ho⟩
  rw [e1]
  refine ⟨rfl, ?_⟩
  have hc := h.xcall hx ho
  rw [e2] at hx
  refine ⟨⟨_, _, _, hx, ?_⟩, ⟨_, _, hc.z⟩, hc.be⟩
  have hnd : ((bs ++ [((77 : Int), (2 : Int))]).map (·.1)).Nodup := by
    obtain ⟨_, _, _, h6, _⟩ := hx
    exact h6.nd
  unfold sizeR
  rw [sizeF_make hnd, if_pos rfl]
theorem LstR.sizeX (h : LstR W xb zb wr) : Calls Tryd.prog 12 #[.pointer (some ⟨xb, 0, none⟩), .int .i64 77] wr fun e w' => e = .returned (.tuple #[.int .i64 2, .int .i64 0]) ∧ w' = wr := by
  obtain ⟨U, bs, es, ⟨mb, D, G, hx, _⟩, hs⟩ := h.x
  refine (xsize_ok hx 77 (by unfold I64; omega)).mono ?_
  rintro e w' ⟨rfl, rfl⟩
  rw [hs]
  exact ⟨rfl, rfl⟩
theorem LstR.sizeZ (h : LstR W xb zb wr) : Calls Tryd.prog 12 #[.pointer (some ⟨zb, 0, none⟩), .int .i64 1] wr fun e w' => e = .returned (.tuple #[.int .i64 2, .int .i64 0]) ∧ w' = wr := by
  obtain ⟨U, es, ⟨mb, D, G, hx, _⟩⟩ := h.z
  refine (xsize_ok hx 1 (by unfold I64; omega)).mono ?_
  rintro e w' ⟨rfl, rfl⟩
  have hs : sizeR [((1 : Int), (2 : Int))] 1 = (2, 0) := by decide
  rw [hs]
  exact ⟨rfl, rfl⟩
/-- The beginning: both stores, the books and the third store. -/
theorem SwR.start {w1 w3 w4 : World} (hW : NsAt W) (hx : XcAt (fun k => k < W.heap.size ∧ k ≠ 0) w1 xb [] []) (ho1 : Only (fun _ => False) W w1)
    (ho2 : Only (fun _ => False) w1 w2) (hr : w2.heap[rb]? = some (.cells #[.slice none 0 0, .slice none 0 0] 30 (0, 0)))
    (hb : w2.heap[bb]? = some (.cells #[.pointer (some ⟨xb, 0, none⟩), .pointer (some ⟨rb, 0, none⟩), .slice none 0 0, .slice none 0 0, .slice none 0 0, .slice none 0 0, .slice none 0 0, .slice none 0 0] 40 (0, 0)))
    (hrl : w1.heap.size ≤ rb) (hbl : w1.heap.size ≤ bb) (hne : rb ≠ bb)
    (ho3 : Only (fun _ => False) w2 w3) (hz3 : XcAt (fun k => k < w2.heap.size ∧ k ≠ 0) w3 zb [] [])
    (hz : XcAt (fun k => k < w2.heap.size ∧ k ≠ 0) w4 zb [(1, 2)] []) (ho4 : Only (fun k => ¬ (k < w2.heap.size ∧ k ≠ 0)) w3 w4) :
    SwR W xb rb zb bb 0 0 0 0 w4 := by
  have hnl : 0 < W.heap.size := lt_of_some hW
  have s1 := ho1.size
  have s2 := ho2.size
  have s3 := ho3.size
  have s4 := ho4.size
  have hrs := lt_of_some hr
  have hbs := lt_of_some hb
  have o4 : Only (fun k => w2.heap.size ≤ k) w3 w4 := ⟨ho4.os, ho4.tape, ho4.output, ho4.size, fun k hk hn => by
    by_cases h1 : k = 0
    · subst h1
      rw [hz.nsl, hz3.nsl]
    · exact ho4.block k hk (fun h2 => h2 ⟨by omega, h1⟩)⟩
  have o24 : Only (fun k => w2.heap.size ≤ k) w2 w4 := (ho3.mono (fun _ _ h => h.elim)).trans o4
  have o14 : Only (fun k => w2.heap.size ≤ k) w1 w4 := (ho2.mono (fun _ _ h => h.elim)).trans o24
  have o04 : Only (fun k => w2.heap.size ≤ k) W w4 := (ho1.mono (fun _ _ h => h.elim)).trans o14
  refine ⟨fun k => W.heap.size ≤ k ∧ k < w1.heap.size, fun k => k = rb, fun k => w2.heap.size ≤ k ∧ k < w4.heap.size, fun _ => False, [], [], .slice none 0 0, [], .slice none 0 0, [], ⟨?_, ?_, ?_, ?_, ?_, ?_, ?_, ?_, ?_, hW, ?_⟩, Nat.le_refl _, Nat.le_refl _, (fun b hb => by cases hb), Nat.le_refl _, Nat.le_refl _⟩
  · refine hx.step o14 (fun k h1 h2 => ?_) (fun k h1 => ?_)
    · omega
    · by_cases h2 : k < W.heap.size
      · exact Or.inl ⟨h2, h1.2.2⟩
      · have h3 := h1.2.1
        exact Or.inr ⟨by omega, h1.1⟩
  · exact ⟨.slice none 0 0, .slice none 0 0, Only.keep o24 hr (fun h => by omega), OwnL.nil _ _ _ _, OwnL.nil _ _ _ _, fun h => h.2 rfl, fun k hk => (by cases hk), fun k hk => (by cases hk), fun k hk => hk.1, by simp, by simp⟩
  · refine hz.step (Only.refl (fun _ => False) _) (fun _ _ h => h.elim) (fun k h1 => Or.inl ⟨?_, h1.2.2⟩)
    have h3 := h1.2.1
    have h4 := h1.1
    omega
  · exact ⟨Only.keep o24 hb (fun h => by omega), BkG.nil _ _ _ _ _, BkG.nil _ _ _ _ _, fun h => h⟩
  · intro k hk
    exact ⟨hk.1, by omega, by omega, by omega, fun h => h, by omega⟩
  · intro k hk
    subst hk
    exact ⟨by omega, by omega, by omega, fun h => h, hne⟩
  · intro k hk
    exact ⟨by omega, hk.2, fun h => h, by omega⟩
  · intro k hk
    exact hk.elim
  · omega
  · exact o04.below (Nat.le_refl _) (fun k hk h => by omega)
end Go.Proofs.YtbmchgjilkoplaaDoor

/- A script as an argument. -/
namespace Go.Proofs.YtbmchgjilkoplaaDoor
open Go.ChangeShapes Go.WideShapes Go.ChangeAt Go.RowKit Go.Deep
open Go.Vx

structure Stp where
  k : Int
  a : Int
  b : Int
  c : Int
  d : Int
  s : List UInt8
def Stp.ok (z : Stp) : Prop := I64 z.k ∧ I64 z.a ∧ I64 z.b ∧ I64 z.c ∧ I64 z.d ∧ z.s.length ≤ 9223372036854775807
/-- A script, where it lies. -/
def ScAt (w : World) (pa : Option Addr) (zs : List Stp) : Prop :=
  zs = [] ∨ ∃ ab ao, pa = some ⟨ab, ao, none⟩ ∧ ∀ (j : Nat) (h : j < zs.length), w.cell? ⟨ab, ao + j * 6, none⟩ = some (.int .i64 (zs[j]).k) ∧ w.cell? ⟨ab, ao + j * 6 + 1, none⟩ = some (.int .i64 (zs[j]).a) ∧ w.cell? ⟨ab, ao + j * 6 + 2, none⟩ = some (.int .i64 (zs[j]).b) ∧ w.cell? ⟨ab, ao + j * 6 + 3, none⟩ = some (.int .i64 (zs[j]).c) ∧ w.cell? ⟨ab, ao + j * 6 + 4, none⟩ = some (.int .i64 (zs[j]).d) ∧ w.cell? ⟨ab, ao + j * 6 + 5, none⟩ = some (.string ⟨(zs[j]).s.toArray⟩)
theorem six_of {α : Type} : ∀ (l : List α), l.length = 6 → ∃ a b c d e f, l = [a, b, c, d, e, f]
  | [a, b, c, d, e, f], _ => ⟨a, b, c, d, e, f, rfl⟩
  | [], h => by simp at h
  | [_], h => by simp at h
  | [_, _], h => by simp at h
  | [_, _, _], h => by simp at h
  | [_, _, _, _], h => by simp at h
  | [_, _, _, _, _], h => by simp at h
  | _ :: _ :: _ :: _ :: _ :: _ :: _ :: _, h => by simp at h
theorem cOp : Tryd.prog.cellsOf 45 = 6 := by kernel_rfl
theorem open_ops {H : Type} {enc : TypeId × Value → H} {W : World} {a0 : Option Addr} {len cap fuel : Nat} {x : DataW H × List MemPlace} (hf : DataW.trod enc Tryd.prog W 0 (fun _ => true) true fuel 22 (Value.slice a0 len cap).cells.toList = some x) :
    ∃ zs : List Stp, zs.length = len ∧ len ≤ cap ∧ cap ≤ maxLen ∧ ScAt W a0 zs ∧ ∀ z ∈ zs, z.ok := by
  rcases open_slice Tryd.underlying22 hf with ⟨hc, _⟩ | ⟨a, len', cap', m, n, D, Pl, hc, _, hl, hm, hmm, _, hx⟩
  · simp [Value.cells] at hc
    obtain ⟨rfl, rfl, rfl⟩ := hc
    exact ⟨[], rfl, Nat.le_refl _, by decide, Or.inl rfl, by simp⟩
  · simp [Value.cells] at hc
    obtain ⟨rfl, rfl, rfl⟩ := hc
    simp only [if_true] at hmm
    subst hmm
    have each : ∀ i, i < m → ∃ z : Stp, z.ok ∧ W.cell? (a.add (i * 6)) = some (.int .i64 z.k) ∧ W.cell? (a.add (i * 6 + 1)) = some (.int .i64 z.a) ∧ W.cell? (a.add (i * 6 + 2)) = some (.int .i64 z.b) ∧ W.cell? (a.add (i * 6 + 3)) = some (.int .i64 z.c) ∧ W.cell? (a.add (i * 6 + 4)) = some (.int .i64 z.d) ∧ W.cell? (a.add (i * 6 + 5)) = some (.string ⟨z.s.toArray⟩) := by
      intro i hi
      obtain ⟨cs', h1, h2⟩ := hx i hi
      rw [cOp] at h1
      obtain ⟨_, hlen, hcell⟩ := World.cells?_some h1
      obtain ⟨xs, k, hk, hxy, _, hxl, hfld⟩ := DataW.trod_struct Tryd.underlying45 h2
      obtain ⟨y0, y1, y2, y3, y4, y5, rfl⟩ := six_of xs hxl
      obtain ⟨v0, v1, v2, v3, v4, v5, rfl⟩ := six_of cs' hlen
      have g0 := hfld 0 _ rfl
      have g1 := hfld 1 _ rfl
      have g2 := hfld 2 _ rfl
      have g3 := hfld 3 _ rfl
      have g4 := hfld 4 _ rfl
      have g5 := hfld 5 _ rfl
      simp [cInt, cStr] at g0 g1 g2 g3 g4 g5
      obtain ⟨n0, q0, _, b0⟩ := DataW.trod_int Tryd.underlying3 g0
      obtain ⟨n1, q1, _, b1⟩ := DataW.trod_int Tryd.underlying3 g1
      obtain ⟨n2, q2, _, b2⟩ := DataW.trod_int Tryd.underlying3 g2
      obtain ⟨n3, q3, _, b3⟩ := DataW.trod_int Tryd.underlying3 g3
      obtain ⟨n4, q4, _, b4⟩ := DataW.trod_int Tryd.underlying3 g4
      obtain ⟨t, q5, _, b5⟩ := DataW.trod_string Tryd.underlying9 g5
      simp only [List.cons.injEq, and_true] at q0 q1 q2 q3 q4 q5
      subst q0 q1 q2 q3 q4 q5
      have e0 := hcell 0 (by decide)
      have e1 := hcell 1 (by decide)
      have e2 := hcell 2 (by decide)
      have e3 := hcell 3 (by decide)
      have e4 := hcell 4 (by decide)
      have e5 := hcell 5 (by decide)
      rw [add_add] at e0 e1 e2 e3 e4 e5
      refine ⟨⟨n0, n1, n2, n3, n4, t.data.toList⟩, ⟨bounds_i64 b0, bounds_i64 b1, bounds_i64 b2, bounds_i64 b3, bounds_i64 b4, ?_⟩, by simpa using e0, by simpa using e1, by simpa using e2, by simpa using e3, by simpa using e4, ?_⟩
      · show t.data.toList.length ≤ 9223372036854775807
        rw [Array.length_toList]
        exact b5
      · rw [show (⟨t.data.toList.toArray⟩ : ByteArray) = t by simp only [Array.toArray_toList]]
        simpa using e5
    haveI : Inhabited Stp := ⟨⟨0, 0, 0, 0, 0, []⟩⟩
    obtain ⟨Z, hZ⟩ := choose_lt each
    refine ⟨(List.range len).map Z, by simp, hl, hm, ?_, ?_⟩
    · by_cases hz : len = 0
      · subst hz
        exact Or.inl rfl
      · right
        obtain ⟨ab, ao, sp⟩ := a
        have hspot : sp = none := by simpa [Addr.add] using World.cell?_spot (hZ 0 (by omega)).2.1
        subst hspot
        refine ⟨ab, ao, rfl, fun j hj => ?_⟩
        have hj' : j < len := by simpa using hj
        have hh := (hZ j (by omega)).2
        simp only [addr_add, ← Nat.add_assoc] at hh
        simp only [List.getElem_map, List.getElem_range]
        exact hh
    · intro z hz
      simp only [List.mem_map, List.mem_range] at hz
      obtain ⟨i, hi, rfl⟩ := hz
      exact (hZ i (by omega)).1
end Go.Proofs.YtbmchgjilkoplaaDoor

/- From the listed variable and the world's shape to what the walks ask. -/
namespace Go.Vx
variable {H : Type} {enc : TypeId × Value → H}
theorem handed_shaped_and {a : Assume} {C : Checked} {os : Os} {f : FuncId} {fn : Func} {s : ChangeSpec} {conds : List PathCond} {apart fresh handsOn again : Bool} {X : World → Array Value → Prop}
    (hX : ∀ (w w' : World) (args : Array Value), w.heap = w'.heap → X w args → X w' args)
    (own : ownKnob C.prog.godebug = none) (started : os.Started) (noInit : C.prog.inits.idxOf? f = none) (hfn : C.prog.funcs[f]? = some fn)
    (witness : ∃ (w : World) (tape : Tape) (i : Input), w.os = os ∧ (w.forCall tape i).Shaped C.prog ∧ i.vars = [] ∧ Input.okWide C.prog (w.forCall tape i) .any w.heap.size f i ∧
      ((s.pre enc C.prog fn conds apart (w.forCall tape i).memory i.args ∧ X (w.forCall tape i).memory i.args) ∧ sizedMet enc C.prog fn (OpenSpec.ofChange s) apart (w.forCall tape i).memory i.args) ∧ a.holds C.prog (lone (Frame.enter C.prog f i.args .normal) [] (w.forCall tape i)))
    (contract : ∀ (W : World) (base : Nat) (args : Array Value) (ds gs : List (DataW H)) (before : List MemPlace),
      (∀ (j : Nat) t v, fn.params[j]? = some t → args[j]? = some v → Value.okWide C.prog W .any base t v) →
      DataW.Whole enc C.prog fn.params.toList s.vars apart W args.toList ds gs before → X W args → W.ShapedOpen C.prog →
      Calls C.prog f args W fun e W' => ∃ v, e = .returned v ∧ s.post enc C.prog fn apart fresh handsOn again W args v W') :
    ReturnsInHanded a C os f .any (fun w args => (s.pre enc C.prog fn conds apart w args ∧ X w args) ∧ sizedMet enc C.prog fn (OpenSpec.ofChange s) apart w args) (s.post enc C.prog fn apart fresh handsOn again) := by
  refine returnsInHanded_of_calls own started noInit witness ?_
  intro w tape i _ hsh _ hok hpre _
  obtain ⟨_, _, _, fn', hfn', _, _, _, _, hval⟩ := hok
  have e : fn' = fn := Option.some.inj (hfn'.symm.trans hfn)
  subst e
  obtain ⟨⟨⟨ds, gs, before, hw, _⟩, hx⟩, _⟩ := hpre
  have hw' := DataW.Whole.of_heap (w' := w.forCall tape i) (by rfl) hw
  refine (contract (w.forCall tape i) w.heap.size i.args ds gs before hval hw' (hX _ _ _ (by rfl) hx) hsh).mono fun e W' ⟨v, he, hp⟩ => ?_
  subst he
  exact ChangeSpec.post_blind hp
end Go.Vx
namespace Go.Proofs.YtbmchgjilkoplaaDoor
open Go.ChangeShapes Go.WideShapes Go.ChangeAt Go.RowKit Go.Deep
open Go.Vx

abbrev laid1 : List (String × DataW Unit) := [("vault/caps.noSlot", Rows.laid_vault_caps_noSlot)]
theorem gNs : Tryd.prog.globalNamed "vault/caps.noSlot" = some 0 := by kernel_rfl
theorem tNs : (Tryd.prog.globals[0]?).map (·.type) = some 62 := by kernel_rfl
theorem two_of {α : Type} : ∀ (l : List α), l.length = 2 → ∃ a b, l = [a, b]
  | [a, b], _ => ⟨a, b, rfl⟩
  | [], h => by simp at h
  | [_], h => by simp at h
  | _ :: _ :: _ :: _, h => by simp at h
theorem ns_cells {W : World} {fuel : Nat} {sp : Nat → Bool} {enc : TypeId × Value → Unit} {base : Nat} {held : Bool} {v0 v1 : Value} {q : List MemPlace}
    (h : DataW.trod enc Tryd.prog W base sp held fuel 62 [v0, v1] = some (Rows.laid_vault_caps_noSlot, q)) : v0 = .int .i64 (-1) ∧ v1 = .int .i64 (-1) := by
  obtain ⟨xs, k, hk, hxy, _, hxl, hfld⟩ := DataW.trod_struct Tryd.underlying62 h
  obtain ⟨y0, y1, rfl⟩ := two_of xs hxl
  have g0 := hfld 0 _ rfl
  have g1 := hfld 1 _ rfl
  simp [cInt] at g0 g1
  obtain ⟨n0, q0, d0, b0⟩ := DataW.trod_int Tryd.underlying3 g0
  obtain ⟨n1, q1, d1, b1⟩ := DataW.trod_int Tryd.underlying3 g1
  simp only [List.cons.injEq, and_true] at q0 q1
  subst q0 q1
  simp only [Prod.mk.injEq, Rows.laid_vault_caps_noSlot, List.map_cons, List.map_nil, DataW.agg.injEq, List.cons.injEq, and_true] at hxy
  obtain ⟨⟨h0, h1⟩, _⟩ := hxy
  rw [d0] at h0
  rw [d1] at h1
  simp only [DataW.lit.injEq, Lit.int.injEq, true_and] at h0 h1
  rw [← h0, ← h1]
  exact ⟨rfl, rfl⟩
theorem nsAt_of {W : World} (h : laidMetH Tryd.prog laid1 W) (hs : W.ShapedOpen Tryd.prog) : NsAt W := by
  rw [MakeChecks.laidMetH_plain _ _ _ (by kernel_rfl)] at h
  obtain ⟨ps, ⟨g0, t0, cs0, f0, p0, q0, hg0, ht0, hv0, hd0, _⟩, _⟩ := h
  obtain rfl := Option.some.inj (gNs.symm.trans hg0)
  obtain rfl := Option.some.inj (tNs.symm.trans ht0)
  obtain ⟨cs, hb, hsz, _⟩ := hs.1 0 #[.int .i64 0, .int .i64 0] 62 (by decide) (by kernel_rfl)
  have hv : W.var? Tryd.prog "vault/caps.noSlot" = some cs := by
    simp only [World.var?, gNs, Option.bind_some, hb]
  rw [hv] at hv0
  injection hv0 with hv0
  subst hv0
  have hl : cs.toList.length = 2 := by simpa using hsz
  obtain ⟨v0, v1, hvv⟩ := two_of _ hl
  rw [hvv] at hd0
  obtain ⟨rfl, rfl⟩ := ns_cells hd0
  have hcs : cs = #[.int .i64 (-1), .int .i64 (-1)] := by
    apply Array.toList_inj.1
    rw [hvv]
  unfold NsAt
  rw [hb, hcs]
/-- The door's own heap meets the condition. -/
theorem laid1_met (os : Os) (args : Array Value) : laidMetH Tryd.prog laid1 ((World.doorLaid Tryd.prog 400 os).forCall (fun _ _ => 0) ⟨#[], args, []⟩).memory :=
  laidMetH_of_parts3 (fuel := 8) (laidMet_of_run' 8 (by kernel_rfl) (by kernel_rfl)) (by kernel_rfl) (by kernel_rfl)
end Go.Proofs.YtbmchgjilkoplaaDoor

/- A script as an argument (chapter 7). -/

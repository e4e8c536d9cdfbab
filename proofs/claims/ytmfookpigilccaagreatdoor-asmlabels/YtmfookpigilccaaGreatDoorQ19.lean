/- The two passes of package asm's Assemble. -/
import Derived.Test.YtmfookpigilccaaGreatDoorQ18
import Derived.Test.YtmfookpigilccaaGreatDoorP2
namespace Go.Vx
/-- Lines with the bytes ahead of each. -/
def accT : List Stm → Nat → List (Stm × Nat)
  | [], _ => []
  | s :: ss, a => (s, a) :: accT ss (a + stLen s)
def lenT : List Stm → Nat
  | [] => 0
  | s :: ss => stLen s + lenT ss
theorem accT_snoc : ∀ (ss : List Stm) (s : Stm) (a : Nat), accT (ss ++ [s]) a = accT ss a ++ [(s, a + lenT ss)]
  | [], s, a => by simp [accT, lenT]
  | x :: ss, s, a => by
    rw [List.cons_append, accT, accT_snoc ss s]
    simp only [accT, lenT, List.cons_append]
    rw [Nat.add_assoc]
theorem lenT_snoc : ∀ (ss : List Stm) (s : Stm), lenT (ss ++ [s]) = lenT ss + stLen s
  | [], s => by simp [lenT]
  | x :: ss, s => by rw [List.cons_append, lenT, lenT_snoc ss s, lenT]; omega
theorem accT_len : ∀ (ss : List Stm) (a : Nat), (accT ss a).length = ss.length
  | [], _ => rfl
  | s :: ss, a => by simp [accT, accT_len ss]
theorem lenT_le : ∀ ss : List Stm, lenT ss ≤ 4 * ss.length
  | [] => Nat.le_refl _
  | s :: ss => by
    have := lenT_le ss
    have h : stLen s ≤ 4 := by cases s using Vx.Stm.cs <;> simp [stLen]
    simp only [lenT, List.length_cons]; omega
theorem take_snoc {α : Type} (l : List α) (k : Nat) (h : k < l.length) : l.take (k + 1) = l.take k ++ [l[k]] := by
  rw [List.take_add_one, List.getElem?_eq_getElem h]; rfl
end Go.Vx
namespace Go.Proofs.YtmfookpigilccaaGreatDoor
open Go.ChangeShapes Go.WideShapes Go.ChangeAt Go.RowKit Go.Maps
open Go.Vx (strV labN Only Ins insV Stm stToks stOk stLen wordOf dec tokF fourB accT lenT joinB)

/-- The first pass, behind k lines. -/
structure One (mx : Int) (pb mb base sb rb : Nat) (srcs : List (List UInt8)) (sts : List Stm) (nF : Nat → Nat) (DF : Nat → DataW Unit) (k : Nat) (w : World) : Prop where
  pr : PrAt w pb mb base (accT (sts.take k) 0) (nF k) (DF k) (lenT (sts.take k))
  src : SrcAt w sb rb srcs
  max : MaxAt mx w
/-- Where the first pass's things lie. -/
structure Places (pb mb base sb rb : Nat) : Prop where
  s1 : sb < base
  s2 : sb ≠ pb
  s3 : sb ≠ mb
  r1 : rb < base
  r2 : rb ≠ pb
  r3 : rb ≠ mb
  g1 : 1 < base
  g2 : 1 ≠ pb
  g3 : 1 ≠ mb
theorem SrcAt.only {S : Nat → Prop} {w w' : World} {sb rb : Nat} {srcs : List (List UInt8)} (h : SrcAt w sb rb srcs) (ho : Only S w w') (hs : sb < w.heap.size) (hr : rb < w.heap.size) (h1 : ¬ S sb) (h2 : ¬ S rb) : SrcAt w' sb rb srcs :=
  ⟨by rw [ho.cell (p := ⟨sb, 0, none⟩) hs h1]; exact h.sb, fun j hj => by rw [ho.cell (p := ⟨rb, j, none⟩) hr h2]; exact h.rb j hj⟩
theorem One.kept {mx : Int} {pb mb base sb rb : Nat} {srcs : List (List UInt8)} {sts : List Stm} {nF : Nat → Nat} {DF : Nat → DataW Unit} (hpl : Places pb mb base sb rb) {S : Nat → Prop} {k : Nat} {w w' : World} (h : One mx pb mb base sb rb srcs sts nF DF k w) (ho : Only S w w') (h1 : ¬ S sb) (h2 : ¬ S rb) (h3 : ¬ S 1) : SrcAt w' sb rb srcs ∧ MaxAt mx w' := by
  have hb := h.pr.baseS
  have q1 := hpl.s1
  have q2 := hpl.r1
  have q3 := hpl.g1
  refine ⟨h.src.only ho (by omega) (by omega) h1 h2, ?_⟩
  unfold MaxAt
  rw [ho.cell (p := ⟨1, 0, none⟩) (by show 1 < _; omega) h3]
  exact h.max
theorem pass1 {mx : Int} {pb mb base sb rb : Nat} {srcs : List (List UInt8)} {sts : List Stm} {nF : Nat → Nat} {DF : Nat → DataW Unit} (hpl : Places pb mb base sb rb) (B0 : Nat) (hB : base ≤ B0) : Pass B0 (One mx pb mb base sb rb srcs sts nF DF) (PrOwn pb mb) := by
  refine ⟨fun k w w' h ho => ?_, fun k w h b hb => (h.pr.own_lt b hb).1⟩
  obtain ⟨p1, o1⟩ := h.pr.only ho (fun b hb hs => hs.2 hb)
  obtain ⟨q1, q2⟩ := h.kept hpl ho (fun hs => by have := hs.1; have := hpl.s1; omega) (fun hs => by have := hs.1; have := hpl.r1; omega) (fun hs => by have := hs.1; have := hpl.g1; omega)
  exact ⟨⟨p1, q1, q2⟩, fun b hb => (o1 b).1 hb⟩
theorem notOwn {w : World} {pb mb base b : Nat} {acc : List (Stm × Nat)} {n : Nat} {D : DataW Unit} {L : Nat} (h : PrAt w pb mb base acc n D L) (h1 : b < base) (h2 : b ≠ pb) (h3 : b ≠ mb) : ¬ PrOwn pb mb w b := fun hb => by
  rcases (h.own_lt b hb).2 with e | e | e
  · exact h2 e
  · exact h3 e
  · omega
/-- One line of the first pass. -/
theorem step1 {mx : Int} {pb mb base sb rb : Nat} {srcs : List (List UInt8)} {sts : List Stm} {nF : Nat → Nat} {DF : Nat → DataW Unit} (hpl : Places pb mb base sb rb) (hlen : sts.length = srcs.length) (k : Nat) (hk : k < srcs.length)
    (hread : ∀ w, One mx pb mb base sb rb srcs sts nF DF k w → Calls Tryz.prog 16 #[.pointer (some ⟨pb, 0, none⟩), .string ⟨(srcs[k]).toArray⟩] w fun e w' => e = .returned (.tuple #[]) ∧ PrAt w' pb mb base (accT (sts.take k) 0 ++ [(sts[k]'(by omega), lenT (sts.take k))]) (nF (k + 1)) (DF (k + 1)) (lenT (sts.take k) + stLen (sts[k]'(by omega))) ∧ Only (PrOwn pb mb w) w w' ∧ ∀ b, b < w.heap.size → PrOwn pb mb w' b → PrOwn pb mb w b)
    (w : World) (h : One mx pb mb base sb rb srcs sts nF DF k w) :
    Calls Tryz.prog 15 #[.int .i64 k, .pointer (some ⟨pb, 0, none⟩), .pointer (some ⟨sb, 0, none⟩)] w fun e w' => e = .returned (.tuple #[]) ∧ One mx pb mb base sb rb srcs sts nF DF (k + 1) w' ∧ Only (PrOwn pb mb w) w w' ∧ ∀ b, b < w.heap.size → PrOwn pb mb w' b → PrOwn pb mb w b := by
  refine close_1 pb sb rb k srcs hk w h.src _ ((hread w h).mono ?_)
  rintro e w' ⟨rfl, hp, ho, hb⟩
  obtain ⟨q1, q2⟩ := h.kept hpl ho (notOwn h.pr hpl.s1 hpl.s2 hpl.s3) (notOwn h.pr hpl.r1 hpl.r2 hpl.r3) (notOwn h.pr hpl.g1 hpl.g2 hpl.g3)
  refine ⟨rfl, ⟨?_, q1, q2⟩, ho, hb⟩
  rw [Vx.take_snoc sts k (by omega), Vx.accT_snoc, Vx.lenT_snoc, Nat.zero_add]
  exact hp

/-- The second pass, behind k lines. -/
structure Two (pb mb base cb : Nat) (acc : List (Stm × Nat)) (n : Nat) (D : DataW Unit) (L : Nat) (cF : Nat → List UInt8) (k : Nat) (w : World) : Prop where
  pr : PrAt w pb mb base acc n D L
  forms : FormsAt w
  code : CodeAt w cb (cF k)
  low : ∀ b, PrOwn pb mb w b → b < cb
theorem pass2 {pb mb base cb : Nat} {acc : List (Stm × Nat)} {n : Nat} {D : DataW Unit} {L : Nat} {cF : Nat → List UInt8} (hf : 0 < cb) (B0 : Nat) (hB : cb ≤ B0) : Pass B0 (Two pb mb base cb acc n D L cF) (CodeOwn cb) := by
  refine ⟨fun k w w' h ho => ?_, fun k w h b hb => (h.code.own_lt b hb).1⟩
  obtain ⟨p1, o1⟩ := h.pr.only ho (fun b hb hs => by have := h.low b hb; have := hs.1; omega)
  obtain ⟨p2, o2⟩ := h.code.only ho (fun b hb hs => hs.2 hb)
  exact ⟨⟨p1, h.forms.only ho (fun hs => by have := hs.1; omega), p2, fun b hb => h.low b ((o1 b).1 hb)⟩, fun b hb => (o2 b).1 hb⟩
theorem step2 {pb mb base cb : Nat} {acc : List (Stm × Nat)} {n : Nat} {D : DataW Unit} {L : Nat} {cF : Nat → List UInt8} (hf : 0 < cb) (k : Nat) (hk : k < acc.length) (xs : List Int) (hxl : xs.length ≤ 1) (hat : (acc[k]).2 ≤ 1000000)
    (he : StEnc D (acc[k]).2 (acc[k]).1 xs) (hxs : ∀ x ∈ xs, 0 ≤ x ∧ x < 4294967296) (hcF : cF (k + 1) = cF k ++ wordsB xs) (hcl : (cF k).length ≤ 1000000) (w : World) (h : Two pb mb base cb acc n D L cF k w) :
    Calls Tryz.prog 17 #[.int .i64 k, .pointer (some ⟨cb, 0, none⟩), .pointer (some ⟨pb, 0, none⟩)] w fun e w' => e = .returned (.tuple #[]) ∧ Two pb mb base cb acc n D L cF (k + 1) w' ∧ Only (CodeOwn cb w) w w' ∧ ∀ b, b < w.heap.size → CodeOwn cb w' b → CodeOwn cb w b := by
  have hwl : (wordsB xs).length ≤ 4 := by
    match xs, hxl with
    | [], _ => simp [wordsB]
    | [x], _ => simp [wordsB, fourB]
  refine (close_2 cb pb k (cF k) (wordsB xs) hwl hcl w h.code (fun w2 h2 => ?_)).mono ?_
  · obtain ⟨p2, _⟩ := h.pr.only h2 (fun _ _ h => h)
    exact bytes_ok pb mb base acc n D L k hk xs hat he hxs w2 p2 (h.forms.only h2 (fun h => h))
  · rintro e w' ⟨rfl, hc, ho, hb⟩
    obtain ⟨p1, o1⟩ := h.pr.only ho (fun b hb hs => by have := h.low b hb; have := (h.code.own_lt b hs).2; omega)
    refine ⟨rfl, ⟨p1, h.forms.only ho (fun hs => by have := (h.code.own_lt _ hs).2; omega), ?_, fun b hb => h.low b ((o1 b).1 hb)⟩, ho, hb⟩
    rw [hcF]
    exact hc
end Go.Proofs.YtmfookpigilccaaGreatDoor

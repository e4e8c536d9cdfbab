import Derived.Test.YtbmchgjilkoplaaDoorCk47
/- CapsTree, CapsRevoked: what grown holds on the way. -/
namespace Go.Proofs.YtbmchgjilkoplaaDoor
open Go.ChangeShapes Go.WideShapes Go.ChangeAt Go.RowKit
open Go.Vx
set_option linter.unusedVariables false
variable {V : Nat → Prop} {W : World} {xb ob : Nat} {bs bs2 : List (Int × Int)} {es es2 : List En} {f g : Nat → Int} {wr w2 : World} {m : Nat}

theorem XcAt.ns {U : Nat → Prop} {w : World} (h : XcAt U w xb bs es) : NsAt w := by
  obtain ⟨_, _, _, h, _⟩ := h
  exact h.ns
theorem XcAt.only {U S : Nat → Prop} {w w2 : World} (h : XcAt U w xb bs es) (ho : Only S w w2) (hS : ∀ k, k < w.heap.size → S k → U k) : XcAt U w2 xb bs es := by
  obtain ⟨mb, D, G, h, h2⟩ := h
  exact ⟨mb, D, G, h.only ho hS, h2⟩
theorem XcAt.wf {U : Nat → Prop} {w : World} (h : XcAt U w xb bs es) : Wf bs es ∧ Wx bs es := by
  obtain ⟨_, _, _, _, h1, h2, _⟩ := h
  exact ⟨h1, h2⟩
theorem XcAt.less {U U2 : Nat → Prop} {w : World} (h : XcAt U w xb bs es) (hu : ∀ k, U2 k → U k) : XcAt U2 w xb bs es := by
  obtain ⟨mb, D, G, h, h2⟩ := h
  exact ⟨mb, D, G, h.less hu, h2⟩
/-- The store and the row. -/
structure GwX (V : Nat → Prop) (W : World) (xb : Nat) (bs : List (Int × Int)) (es : List En) (f : Nat → Int) (wr : World) : Prop where
  s : XcAt V wr xb bs es
  u : UpAt wr (W.heap.size + 1) f
  z : UpAt wr W.heap.size (fun _ => 0)
  vu : V (W.heap.size + 1)
  vz : V W.heap.size
  vb : ∀ k, k < W.heap.size → k ≠ 0 → V k
  be : Below W.heap.size W wr
theorem GwX.call (h : GwX V W xb bs es f wr) (hs : XcAt V w2 xb bs2 es2) (ho : Only (fun k => ¬ V k) wr w2) : GwX V W xb bs2 es2 f w2 := by
  have ho2 : Only (fun k => ¬ V k ∧ k ≠ 0) wr w2 := ⟨ho.os, ho.tape, ho.output, ho.size, fun k hk hn => by
    by_cases h1 : k = 0
    · subst h1
      rw [hs.ns, h.s.ns]
    · exact ho.block k hk (fun h2 => hn ⟨h2, h1⟩)⟩
  exact ⟨hs, h.u.only ho (fun h1 => h1 h.vu), h.z.only ho (fun h1 => h1 h.vz), h.vu, h.vz, h.vb, h.be.trans (ho2.below h.be.size (fun k hk hn => hn.1 (h.vb k hk hn.2)))⟩
theorem GwX.upd (h : GwX V W xb bs es f wr) (hu : UpAt w2 (W.heap.size + 1) g) (ho : Only (fun k => k = W.heap.size + 1) wr w2) : GwX V W xb bs es g w2 :=
  ⟨h.s.only ho (fun k _ hk => by rw [hk]; exact h.vu), hu, h.z.only ho (fun h1 => by omega), h.vu, h.vz, h.vb, h.be.trans (ho.below h.be.size (fun k hk hs => by omega))⟩
theorem GwX.set (h : GwX V W xb bs es f wr) (k : Nat) (x : Int) : GwX V W xb bs es (fun j => if j = k then x else f j) (wr.setCell ⟨W.heap.size + 1, k, none⟩ (.int .i64 x)) :=
  h.upd (h.u.store k x) (only_cell wr _ k _)
theorem GwX.same (h : GwX V W xb bs es f wr) (hg : ∀ j, j < 32 → f j = g j) : GwX V W xb bs es g wr := ⟨h.s, h.u.same hg, h.z, h.vu, h.vz, h.vb, h.be⟩
theorem GwX.quiet (h : GwX V W xb bs es f wr) (ho : Only (fun _ => False) wr w2) : GwX V W xb bs es f w2 :=
  ⟨h.s.quiet ho, h.u.only ho (fun h => h), h.z.only ho (fun h => h), h.vu, h.vz, h.vb, h.be.trans (ho.below h.be.size (fun _ _ h => h))⟩
theorem GwX.obj (h : GwX V W xb bs es f wr) (o : Obj) : GwX (fun k => V k ∨ k = wr.heap.size) W xb bs es f (wr.alloc o) := by
  have ho : Only (fun _ => False) wr (wr.alloc o) := (Only.refl _ _).alloc o
  have h2 := h.quiet ho
  obtain ⟨mb, D, G, hs, hr⟩ := h.s
  refine ⟨⟨mb, D, G, (hs.more ho).less (fun k hk => ?_), hr⟩, h2.u, h2.z, Or.inl h.vu, Or.inl h.vz, fun k hk hn => Or.inl (h.vb k hk hn), h2.be⟩
  rcases hk with hk | hk
  · exact Or.inl hk
  · refine Or.inr ⟨by omega, ?_⟩
    rw [hk]
    simp
/-- And the object. -/
structure GwO (V : Nat → Prop) (W : World) (xb ob : Nat) (es : List En) (f : Nat → Int) (m : Nat) (wr : World) : Prop where
  g : GwX V W xb two16 es f wr
  vo : V ob
  ne : ob ≠ W.heap.size + 1
  o : wr.heap[ob]? = some (.cells #[.int .i64 7, .int .i64 9] 60 (0, 0))
  k7 : K7 es
  ln : es.length ≤ m + 1
theorem GwO.call (h : GwO V W xb ob es f m wr) (hs : XcAt V w2 xb two16 es2) (ho : Only (fun k => ¬ V k) wr w2) {m2 : Nat} (h7 : K7 es2) (hl : es2.length ≤ m2 + 1) : GwO V W xb ob es2 f m2 w2 :=
  ⟨h.g.call hs ho, h.vo, h.ne, Only.keep ho h.o (fun h1 => h1 h.vo), h7, hl⟩
theorem GwO.upd (h : GwO V W xb ob es f m wr) (hu : UpAt w2 (W.heap.size + 1) g) (ho : Only (fun k => k = W.heap.size + 1) wr w2) : GwO V W xb ob es g m w2 :=
  ⟨h.g.upd hu ho, h.vo, h.ne, Only.keep ho h.o h.ne, h.k7, h.ln⟩
theorem GwO.set (h : GwO V W xb ob es f m wr) (k : Nat) (x : Int) : GwO V W xb ob es (fun j => if j = k then x else f j) m (wr.setCell ⟨W.heap.size + 1, k, none⟩ (.int .i64 x)) :=
  h.upd (h.g.u.store k x) (only_cell wr _ k _)
theorem GwO.same (h : GwO V W xb ob es f m wr) (hg : ∀ j, j < 32 → f j = g j) : GwO V W xb ob es g m wr := ⟨h.g.same hg, h.vo, h.ne, h.o, h.k7, h.ln⟩
theorem GwO.quiet (h : GwO V W xb ob es f m wr) (ho : Only (fun _ => False) wr w2) : GwO V W xb ob es f m w2 :=
  ⟨h.g.quiet ho, h.vo, h.ne, Only.keep ho h.o (fun h => h), h.k7, h.ln⟩
theorem GwO.one (h : GwO V W xb ob es f m wr) : GwO V W xb ob es f (m + 1) wr := ⟨h.g, h.vo, h.ne, h.o, h.k7, by have := h.ln; omega⟩
theorem gu7 : GuOk cp7 := by unfold GuOk cp7; decide
/-- Put, told by the row. -/
theorem GwO.put (h : GwO V W xb ob es (uF es) m wr) (hm : m < 1000) (n k : Nat) (hn : n < 32) (hk : k < 32) :
    Calls Tryd.prog 28 #[.pointer (some ⟨xb, 0, none⟩), .agg #[.int .i64 (plcN n).1, .int .i64 (plcN n).2], .agg #[.int .i64 7, .int .i64 9, .int .i64 7, .int .u32 0, .int .u32 0, .int .i64 0, .int .i64 0, .int .u32 0], .agg #[.int .i64 (plcN k).1, .int .i64 (plcN k).2]] wr fun e w' =>
      e = .returned (.int .i64 (putE two16 es (plcN n) cp7 (plcN k))) ∧ (putE two16 es (plcN n) cp7 (plcN k) ≠ 0 → GwO V W xb ob es (uF es) (m + 1) w') ∧
      (putE two16 es (plcN n) cp7 (plcN k) = 0 → ∃ es2, GwO V W xb ob es2 (uF es2) (m + 1) (w'.setCell ⟨W.heap.size + 1, n, none⟩ (.int .i64 (k : Int)))) ∧ UpAt w' (W.heap.size + 1) (uF es) := by
  refine (xput_ok h.g.s (plcN n) cp7 (plcN k) (plc_i64 n hn).1 (plc_i64 k hk).1 (by unfold I64 cp7; decide) gu7 (by have := h.ln; omega)).mono ?_
  rintro e w' ⟨rfl, hs, ho⟩
  obtain ⟨hf, hx⟩ := h.g.s.wf
  have h7 := h.k7.put two16 (plcN n) (plcN k)
  have hl := put_len (bs := two16) (es := es) (plcN n) (plcN k) cp7
  have hln := h.ln
  refine ⟨rfl, fun hz => ?_, fun hz => ⟨putL two16 es (plcN n) cp7 (plcN k), ?_⟩, h.g.u.only ho (fun h1 => h1 h.g.vu)⟩
  · rw [put_keep hz] at hs
    exact (h.call hs ho h.k7 (by omega))
  · exact ((h.call hs ho h7 (by omega) (m2 := m + 1)).set n (k : Int)).same (fun j _ => (uF_put hf hx hk hz j).symm)
/-- Move. -/
theorem GwO.move (h : GwO V W xb ob es (uF es) m wr) (n k : Nat) (hn : n < 32) (hk : k < 32) :
    Calls Tryd.prog 35 #[.pointer (some ⟨xb, 0, none⟩), .agg #[.int .i64 (plcN k).1, .int .i64 (plcN k).2], .agg #[.int .i64 (plcN n).1, .int .i64 (plcN n).2]] wr fun e w' =>
      e = .returned (.int .i64 (moveE two16 es (plcN k) (plcN n))) ∧ (moveE two16 es (plcN k) (plcN n) ≠ 0 → GwO V W xb ob es (uF es) (m + 1) w') ∧
      (moveE two16 es (plcN k) (plcN n) = 0 → UpAt w' (W.heap.size + 1) (uF es) ∧ ∀ w3, UpAt w3 (W.heap.size + 1) (movF (uF es) k (n : Int)) → Only (fun k => k = W.heap.size + 1) w' w3 → UpAt w3 (W.heap.size + 1) (movF (uF es) k (n : Int)) ∧ ∃ es2, GwO V W xb ob es2 (uF es2) (m + 1) (w3.setCell ⟨W.heap.size + 1, n, none⟩ (.int .i64 (uF es k)))) := by
  refine (xmove_ok h.g.s (plcN k) (plcN n) (plc_i64 k hk).1 (plc_i64 n hn).1).mono ?_
  rintro e w' ⟨rfl, hs, ho⟩
  obtain ⟨hf, hx⟩ := h.g.s.wf
  have h7 := h.k7.move (bs := two16) (plcN k) (plcN n)
  have hl := move_len (bs := two16) (es := es) (plcN k) (plcN n)
  have hln := h.ln
  refine ⟨rfl, fun hz => ?_, fun hz => ?_⟩
  · have he : moveL two16 es (plcN k) (plcN n) = es := by
      unfold moveE at hz
      unfold moveL
      cases hfu : fullF two16 es (plcN k) with
      | error e => rfl
      | ok i =>
        rw [hfu] at hz
        dsimp only at hz ⊢
        rw [if_neg hz]
    rw [he] at hs
    exact h.call hs ho h.k7 (by omega)
  · rcases full16 es k hk with ⟨i, hi⟩ | hi
    · rcases full16 es n hn with ⟨j, hj⟩ | hj
      · rw [move16_full hi hj] at hz; cases hz
      · refine ⟨h.g.u.only ho (fun h1 => h1 h.g.vu), fun w3 hu ho3 => ⟨hu, moveL two16 es (plcN k) (plcN n), ?_⟩⟩
        refine ((((h.call hs ho h7 (by omega) (m2 := m + 1)).upd hu ho3).set n (uF es k))).same (fun j _ => ?_)
        rw [uF_move hf hx hk hi hj j]
        by_cases h1 : j = n
        · rw [if_pos h1, if_pos h1]
        · rw [if_neg h1, if_neg h1]
          rfl
    · rw [move16_none _ hi] at hz; cases hz
/-- Take. -/
theorem GwO.take (h : GwO V W xb ob es (uF es) m wr) (k : Nat) (hk : k < 32) :
    Calls Tryd.prog 22 #[.pointer (some ⟨xb, 0, none⟩), .agg #[.int .i64 (plcN k).1, .int .i64 (plcN k).2]] wr fun e w' =>
      ∃ c, e = .returned (.tuple #[c, .int .i64 (fullE (fullF two16 es (plcN k)))]) ∧ (fullF two16 es (plcN k) = .error 11 → GwO V W xb ob es (uF es) (m + 1) w') ∧
      (∀ i, fullF two16 es (plcN k) = .ok i → UpAt w' (W.heap.size + 1) (uF es) ∧ ∀ w3, UpAt w3 (W.heap.size + 1) (movF (uF es) k (uF es k)) → Only (fun k => k = W.heap.size + 1) w' w3 → ∃ es2, GwO V W xb ob es2 (uF es2) (m + 1) w3) := by
  refine (xtake_ok h.g.s (plcN k) (plc_i64 k hk).1).mono ?_
  rintro e w' ⟨rfl, hs, ho⟩
  obtain ⟨hf, hx⟩ := h.g.s.wf
  have h7 := h.k7.take two16 (plcN k)
  have hl := take_len two16 es (plcN k)
  have hln := h.ln
  refine ⟨_, by rw [show (takeR two16 es (plcN k)).2 = _ from getF_e two16 es (plcN k)], fun hz => ?_, fun i hi => ?_⟩
  · have he : takeL two16 es (plcN k) = es := by unfold takeL; rw [hz]
    rw [he] at hs
    exact h.call hs ho h.k7 (by omega)
  · refine ⟨h.g.u.only ho (fun h1 => h1 h.g.vu), fun w3 hu ho3 => ⟨takeL two16 es (plcN k), ?_⟩⟩
    refine (((h.call hs ho h7 (by omega) (m2 := m + 1)).upd hu ho3)).same (fun j _ => ?_)
    rw [uF_take hf hx hk hi j]
    rfl
end Go.Proofs.YtbmchgjilkoplaaDoor

/- An instruction as an argument: opened and shut. -/
import Derived.Test.YtlmcjmllidiciaaDoorLaid
import Derived.Test.YtlmcjmllidiciaaDoorCards
import Derived.Test.YtlmcjmllidiciaaDoorTie
import Derived.SevenTiedAt
import Derived.Lib.SmallJoins
namespace Go.Proofs.YtlmcjmllidiciaaDoor
open Go.ChangeShapes Go.WideShapes Go.ChangeAt Go.RowKit Go.Joins
open Go.Vx (insV Ins)
theorem c24 : Tryd.prog.cellsOf 24 = 5 := by kernel_rfl
theorem c3 : Tryd.prog.cellsOf 3 = 1 := by kernel_rfl
def insD {H : Type} (i : Ins) : DataW H := .agg [.lit (.int .i64 i.op), .lit (.int .i64 i.rd), .lit (.int .i64 i.rs1), .lit (.int .i64 i.rs2), .lit (.int .i64 i.imm)]
def InsWf (i : Ins) : Prop := (Lit.int .i64 i.op).wf = true ∧ (Lit.int .i64 i.rd).wf = true ∧ (Lit.int .i64 i.rs1).wf = true ∧ (Lit.int .i64 i.rs2).wf = true ∧ (Lit.int .i64 i.imm).wf = true

theorem open_ins {H : Type} {enc : TypeId × Value → H} {w : World} {base : Nat} {spare : Nat → Bool} {held : Bool} {r : Reach} {b0 : Nat} {v : Value} {d : DataW H} {p : List MemPlace}
    (hv : Value.okWide Tryd.prog w r b0 24 v) (h : DataW.Trod enc Tryd.prog w base spare held 24 v d p) : ∃ i : Ins, v = insV i ∧ d = insD i ∧ p = [] ∧ InsWf i := by
  obtain ⟨cs, rfl, hsz⟩ := okWide_struct Tryd.underlying24 hv
  rw [c24] at hsz
  obtain ⟨fuel, hf⟩ := h
  obtain ⟨xs, n, _, hx, _, hlen, hel⟩ := DataW.trod_struct Tryd.underlying24 hf
  obtain ⟨l⟩ := cs
  match l, hsz with
  | [v0, v1, v2, v3, v4], _ =>
    match xs, hlen with
    | [y0, y1, y2, y3, y4], _ =>
      have e0 := hel 0 _ rfl
      have e1 := hel 1 _ rfl
      have e2 := hel 2 _ rfl
      have e3 := hel 3 _ rfl
      have e4 := hel 4 _ rfl
      obtain ⟨a0, f0, g0, w0⟩ := DataW.trod_int Tryd.underlying3 e0
      obtain ⟨a1, f1, g1, w1⟩ := DataW.trod_int Tryd.underlying3 e1
      obtain ⟨a2, f2, g2, w2⟩ := DataW.trod_int Tryd.underlying3 e2
      obtain ⟨a3, f3, g3, w3⟩ := DataW.trod_int Tryd.underlying3 e3
      obtain ⟨a4, f4, g4, w4⟩ := DataW.trod_int Tryd.underlying3 e4
      simp [c3, Value.cells] at f0 f1 f2 f3 f4
      subst f0 f1 f2 f3 f4 g0 g1 g2 g3 g4
      simp at hx
      exact ⟨⟨a0, a1, a2, a3, a4⟩, rfl, hx.1, hx.2, w0, w1, w2, w3, w4⟩
theorem shut_ins {H : Type} {enc : TypeId × Value → H} {w : World} {base : Nat} {spare : Nat → Bool} {held : Bool} (i : Ins) (h : InsWf i) : DataW.Trod enc Tryd.prog w base spare held 24 (insV i) (insD i) [] := by
  obtain ⟨w0, w1, w2, w3, w4⟩ := h
  have := trod_struct_mk (enc := enc) (w := w) (base := base) (spare := spare) (held := held) (n := 1) (cs := [.int .i64 i.op, .int .i64 i.rd, .int .i64 i.rs1, .int .i64 i.rs2, .int .i64 i.imm])
    (xs := [(.lit (.int .i64 i.op), []), (.lit (.int .i64 i.rd), []), (.lit (.int .i64 i.rs1), []), (.lit (.int .i64 i.rs2), []), (.lit (.int .i64 i.imm), [])]) Tryd.underlying24 (by rw [c24]; rfl)
    (by simp [c3, trod_int_mk (P := Tryd.prog) 0 Tryd.underlying3 w0, trod_int_mk (P := Tryd.prog) 0 Tryd.underlying3 w1, trod_int_mk (P := Tryd.prog) 0 Tryd.underlying3 w2, trod_int_mk (P := Tryd.prog) 0 Tryd.underlying3 w3, trod_int_mk (P := Tryd.prog) 0 Tryd.underlying3 w4])
  exact ⟨2, this⟩
end Go.Proofs.YtlmcjmllidiciaaDoor

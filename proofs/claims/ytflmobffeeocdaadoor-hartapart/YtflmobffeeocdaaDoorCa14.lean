import Derived.Test.YtflmobffeeocdaaDoorCa13
import Derived.ProofKit
import Derived.LaidMore
import Derived.OpenShut
import Derived.Stop.Joined
import Derived.Test.YtflmobffeeocdaaDoorCa3
import Derived.Test.YtflmobffeeocdaaDoorCa1
/- From the tied condition to the table of forms. -/
namespace Go.Proofs.YtflmobffeeocdaaDoor
open Go.ChangeShapes Go.WideShapes Go.ChangeAt Go.RowKit
open Go.Vx (kindOf formOf kinds forms)

theorem ownI : ownKnob Tryd.prog.godebug = none := by kernel_rfl
theorem gForms : Tryd.prog.globalNamed "vault/isa.forms" = some 0 := by kernel_rfl
theorem tForms : (Tryd.prog.globals[0]?).map (·.type) = some 102 := by kernel_rfl
theorem c39 : Tryd.prog.cellsOf 101 = 2 := by kernel_rfl
theorem c37 : Tryd.prog.cellsOf 99 = 1 := by kernel_rfl
theorem c22 : Tryd.prog.cellsOf 23 = 1 := by kernel_rfl
theorem forms_datum : (Rows.laid_vault_isa_forms : DataW Unit) = .agg ((List.range 49).map fun i => .agg [.lit (.int .i64 (kinds.getD i 0 : Nat)), .lit (.int .u32 (forms.getD i 0 : Nat))]) := by kernel_rfl

theorem forms_cells {W : World} {fuel : Nat} {sp : Nat → Bool} {enc : TypeId × Value → Unit} {base : Nat} {held : Bool} {cs : Array Value} {q : List MemPlace}
    (h : DataW.trod enc Tryd.prog W base sp held fuel 102 cs.toList = some (Rows.laid_vault_isa_forms, q)) (i : Nat) (hi : i < 49) :
    cs[i * 2]? = some (.int .i64 (kinds.getD i 0 : Nat)) ∧ cs[i * 2 + 1]? = some (.int .u32 (forms.getD i 0 : Nat)) := by
  obtain ⟨xs, m, _, hx, _, hlen, hel⟩ := DataW.trod_array Tryd.underlying102 h
  rw [forms_datum] at hx
  simp only [Prod.mk.injEq, DataW.agg.injEq] at hx
  have hy := hel i hi
  have hd : (xs.map (·.1))[i]? = some (.agg [.lit (.int .i64 (kinds.getD i 0 : Nat)), .lit (.int .u32 (forms.getD i 0 : Nat))]) := by
    rw [← hx.1, List.getElem?_map, List.getElem?_range hi]
    rfl
  rw [List.getElem?_map] at hd
  rw [List.getElem?_eq_getElem (by omega)] at hy hd
  simp only [Option.map_some, Option.some.injEq] at hd
  generalize xs[i] = y at hy hd
  rw [c39] at hy
  obtain ⟨y0, y1, n, hyy, _, e0, e1⟩ := trod_struct2 Tryd.underlying101 hy
  subst hyy
  simp only [DataW.agg.injEq, List.cons.injEq, and_true] at hd
  obtain ⟨d0, d1⟩ := hd
  simp only [c37, c22] at e0 e1
  obtain ⟨a, ea, rfl, _⟩ := DataW.trod_int Tryd.underlying99 e0
  obtain ⟨b, eb, rfl, _⟩ := DataW.trod_int Tryd.underlying23 e1
  simp only [DataW.lit.injEq, Lit.int.injEq, true_and] at d0 d1
  subst d0 d1
  constructor
  · have := congrArg (·[0]?) ea
    simpa [List.getElem?_take, List.getElem?_drop] using this
  · have := congrArg (·[0]?) eb
    simpa [List.getElem?_take, List.getElem?_drop] using this

/-- The variable's cells are the table's. -/
theorem formsAt_of_cells {W : World} {cs : Array Value} (hv : W.var? Tryd.prog "vault/isa.forms" = some cs)
    (h : ∀ i, i < 49 → cs[i * 2]? = some (.int .i64 (kinds.getD i 0 : Nat)) ∧ cs[i * 2 + 1]? = some (.int .u32 (forms.getD i 0 : Nat))) : FormsAt W := by
  have hc := World.var?_cell gForms hv
  refine ⟨?_, fun op h0 h1 => ?_⟩
  · have h1 := (h 0 (by omega)).1
    have h2 := hc 0
    rw [show cs[0]? = some (.int .i64 (kinds.getD 0 0 : Nat)) from h1] at h2
    rcases Nat.lt_or_ge 0 W.heap.size with h3 | h3
    · exact h3
    · have : W.heap[0]? = none := Array.getElem?_eq_none h3
      simp [World.cell?, this] at h2
  · rw [hc, hc]
    exact h op.toNat (by omega)

theorem formsAt_of_laid {W : World} (h : laidMetH Tryd.prog [("vault/isa.forms", Rows.laid_vault_isa_forms)] W) : FormsAt W := by
  rw [MakeChecks.laidMetH_plain _ _ _ (by kernel_rfl)] at h
  obtain ⟨ps, ⟨g0, t0, cs0, f0, p0, q0, hg0, ht0, hv0, hd0, _⟩, _⟩ := h
  obtain rfl := Option.some.inj (gForms.symm.trans hg0)
  obtain rfl := Option.some.inj (tForms.symm.trans ht0)
  exact formsAt_of_cells hv0 (forms_cells hd0)
end Go.Proofs.YtflmobffeeocdaaDoor

/- Chapter 6's numbers: pure. -/
namespace Go.Vx
/-- A number of 32 bits as one with a sign. -/
def sgn (a : Nat) : Int := if 2147483648 ≤ a then (a : Int) - 4294967296 else (a : Int)
/-- Modulo 2 to the power 32. -/
def m32 (v : Int) : Nat := (v % 4294967296).toNat
theorem m32_lt (v : Int) : m32 v < 4294967296 := by unfold m32; omega
theorem m32_cast (v : Int) : ((m32 v : Nat) : Int) = v % 4294967296 := by unfold m32; omega
theorem m32_self (a : Nat) (h : a < 4294967296) : m32 (a : Int) = a := by unfold m32; omega
theorem tmod32 (v : Int) : (0 ≤ v ∧ Int.tmod v 4294967296 = v % 4294967296) ∨ (v < 0 ∧ Int.tmod v 4294967296 = -((-v) % 4294967296)) := by
  by_cases hv : 0 ≤ v
  · exact Or.inl ⟨hv, Int.tmod_eq_emod_of_nonneg hv⟩
  · refine Or.inr ⟨by omega, ?_⟩
    rw [← Int.tmod_eq_emod_of_nonneg (by omega), Int.neg_tmod, Int.neg_neg]
def takesF (op a b : Nat) : Bool := if op = 5 then decide (a = b) else if op = 6 then decide (a ≠ b) else if op = 7 then decide (sgn a < sgn b) else if op = 8 then decide (sgn b ≤ sgn a) else if op = 9 then decide (a < b) else decide (b ≤ a)
def bytesF (op : Nat) : Nat := if op = 13 ∨ op = 18 then 4 else if op = 12 ∨ op = 15 ∨ op = 17 then 2 else 1
def sumsF (op a b : Nat) : Nat :=
  if op = 28 then m32 ((a : Int) + b) else if op = 29 then m32 ((a : Int) - b) else if op = 30 then m32 ((a : Int) * 2 ^ (b % 32)) else if op = 31 then (if sgn a < sgn b then 1 else 0) else if op = 32 then (if a < b then 1 else 0)
  else if op = 33 then a ^^^ b else if op = 34 then a / 2 ^ (b % 32) else if op = 35 then m32 (sgn a / 2 ^ (b % 32)) else if op = 36 then a ||| b else a &&& b
theorem wrap_small (n : Int) (h0 : 0 ≤ n) (h1 : n < 2 ^ 32) : IntKind.i64.wrap n = n := by
  rw [IntKind.wrap_i64]; omega
theorem ofInt64 (a : Nat) (h : a < 4294967296) : (BitVec.ofInt 64 (a : Int)).toNat = a := by
  rw [BitVec.toNat_ofInt]; omega
theorem i64_nats (a b : Nat) (ha : a < 4294967296) (hb : b < 4294967296) : bits .xor .i64 (a : Int) (b : Int) = ((a ^^^ b : Nat) : Int) ∧ bits .or .i64 (a : Int) (b : Int) = ((a ||| b : Nat) : Int) ∧ bits .and .i64 (a : Int) (b : Int) = ((a &&& b : Nat) : Int) := by
  have h := bits_nat .i64 32 (by decide) wrap_small a b ha hb
  refine ⟨?_, h.2, h.1⟩
  have hx : a ^^^ b < 2 ^ 32 := Nat.xor_lt_two_pow (by omega) (by omega)
  show IntKind.i64.wrap ((BitVec.ofInt 64 (a : Int) ^^^ BitVec.ofInt 64 (b : Int)).toNat : Int) = _
  rw [BitVec.toNat_xor, ofInt64 a ha, ofInt64 b hb, IntKind.wrap_i64]
  omega
/-- The upper half of a product. -/
def highF (a b : Int) : Nat := m32 (a * b / 4294967296)
theorem mul_bound {A c X Y : Int} (h0 : -X ≤ A) (h1 : A ≤ X) (c0 : 0 ≤ c) (c1 : c ≤ Y) (hX : 0 ≤ X) : -(X * Y) ≤ A * c ∧ A * c ≤ X * Y := by
  have u1 : A * c ≤ X * c := Int.mul_le_mul_of_nonneg_right h1 c0
  have u2 : X * c ≤ X * Y := Int.mul_le_mul_of_nonneg_left c1 hX
  have u3 : -X * c ≤ A * c := Int.mul_le_mul_of_nonneg_right h0 c0
  have u4 : -X * c = -(X * c) := Int.neg_mul X c
  omega
theorem high_eq (A B : Int) : (A * (B / 65536) + A * (B % 65536) / 65536) / 65536 = A * B / 4294967296 := by
  have h : A * B = 65536 * (A * (B / 65536)) + A * (B % 65536) := by
    have e : B = 65536 * (B / 65536) + B % 65536 := by omega
    have : A * (65536 * (B / 65536) + B % 65536) = 65536 * (A * (B / 65536)) + A * (B % 65536) := by
      rw [Int.mul_add, Int.mul_left_comm]
    rw [← this, ← e]
  rw [h]
  generalize A * (B / 65536) = P
  generalize A * (B % 65536) = Q
  omega
def prodF (op a b : Nat) : Nat :=
  if op = 41 then m32 ((a : Int) * b) else if op = 42 then highF (sgn a) (sgn b) else if op = 43 then highF (sgn a) b else if op = 44 then highF a b
  else if b = 0 then (if op ≤ 46 then 4294967295 else a) else if op = 45 then m32 (Int.tdiv (sgn a) (sgn b)) else if op = 46 then a / b else if op = 47 then m32 (Int.tmod (sgn a) (sgn b)) else a % b
theorem sgn_bounds (a : Nat) (h : a < 4294967296) : -2147483648 ≤ sgn a ∧ sgn a < 2147483648 := by
  unfold sgn
  split <;> omega
theorem sgn_zero (a : Nat) (h : a < 4294967296) (h0 : a ≠ 0) : sgn a ≠ 0 := by
  unfold sgn
  split <;> omega
theorem low_eq (a b : Nat) : m32 (((m32 ((a : Int) * ((b / 65536 : Nat) : Int)) % 65536 : Nat) : Int) * 65536 + (a : Int) * ((b % 65536 : Nat) : Int)) = m32 ((a : Int) * b) := by
  have h : (a : Int) * b = 65536 * ((a : Int) * ((b / 65536 : Nat) : Int)) + (a : Int) * ((b % 65536 : Nat) : Int) := by
    have e : (b : Int) = 65536 * ((b / 65536 : Nat) : Int) + ((b % 65536 : Nat) : Int) := by omega
    have : (a : Int) * (65536 * ((b / 65536 : Nat) : Int) + ((b % 65536 : Nat) : Int)) = 65536 * ((a : Int) * ((b / 65536 : Nat) : Int)) + (a : Int) * ((b % 65536 : Nat) : Int) := by
      rw [Int.mul_add, Int.mul_left_comm]
    rw [← this, ← e]
  rw [h]
  generalize (a : Int) * ((b / 65536 : Nat) : Int) = P
  generalize (a : Int) * ((b % 65536 : Nat) : Int) = Q
  unfold m32
  omega
theorem tdiv_bound (x y : Int) (h0 : -2147483648 ≤ x) (h1 : x < 2147483648) : -2147483648 ≤ Int.tdiv x y ∧ Int.tdiv x y ≤ 2147483648 := by
  have h := Int.natAbs_tdiv_le_natAbs x y
  omega
end Go.Vx

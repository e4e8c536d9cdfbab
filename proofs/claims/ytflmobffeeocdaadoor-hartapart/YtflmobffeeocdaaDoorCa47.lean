import Derived.Test.YtflmobffeeocdaaDoorCa18
import Derived.Test.YtflmobffeeocdaaDoorCa11
import Derived.Test.YtflmobffeeocdaaDoorCa46
import Derived.Deep.Slices
import Derived.Carry
import Derived.Test.YtflmobffeeocdaaDoorCa33
import Derived.Test.YtflmobffeeocdaaDoorCa34
import Derived.Test.YtflmobffeeocdaaDoorCa22
/- HartApart: a context as an argument; five arguments. -/
namespace Go.Proofs.YtflmobffeeocdaaDoor
open Go.ChangeShapes Go.WideShapes Go.ChangeAt Go.RowKit Go.Deep
open Go.Vx

theorem cCtx : Tryd.prog.cellsOf 26 = 33 := by kernel_rfl
theorem cRegs : Tryd.prog.cellsOf 24 = 32 := by kernel_rfl
set_option maxRecDepth 100000 in
theorem open_ctx {H : Type} {enc : TypeId × Value → H} {w : World} {base : Nat} {spare : Nat → Bool} {held : Bool} {r : Reach} {b0 : Nat} {v : Value} {d : DataW H} {p : List MemPlace}
    (hv : Value.okWide Tryd.prog w r b0 26 v) (h : DataW.Trod enc Tryd.prog w base spare held 26 v d p) : ∃ (R : Nat → Nat) (pc : Nat), v = .agg (ctxL R pc).toArray ∧ (∀ i, i < 32 → R i < 4294967296) ∧ pc < 4294967296 := by
  obtain ⟨cs, rfl, hsz⟩ := okWide_struct Tryd.underlying26 hv
  rw [cCtx] at hsz
  obtain ⟨fuel, hf⟩ := h
  obtain ⟨y0, y1, n, _, _, e0, e1⟩ := trod_struct2 Tryd.underlying26 hf
  · dsimp only [Value.cells] at e0 e1
    rw [cRegs] at e0
    obtain ⟨ys, m, _, _, _, hl2, hel2⟩ := DataW.trod_array Tryd.underlying24 e0
    have each : ∀ i, i < 32 → ∃ a : Nat, cs[i]? = some (.int .u32 (a : Int)) ∧ a < 4294967296 := by
      intro i hi
      have hy := hel2 i hi
      rw [List.getElem?_eq_getElem (by omega)] at hy
      generalize ys[i] = y at hy
      rw [cU32] at hy
      obtain ⟨a, ea, _, wa⟩ := DataW.trod_int Tryd.underlying23 hy
      obtain ⟨l0, l1⟩ := bounds_u32 wa
      obtain ⟨x, rfl⟩ := Int.eq_ofNat_of_zero_le l0
      have := congrArg (·[0]?) ea
      refine ⟨x, ?_, by omega⟩
      simpa [List.getElem?_take, List.getElem?_drop, hi] using this
    have hpc : ∃ a : Nat, cs[32]? = some (.int .u32 (a : Int)) ∧ a < 4294967296 := by
      have hy := e1
      rw [cU32] at hy
      obtain ⟨a, ea, _, wa⟩ := DataW.trod_int Tryd.underlying23 hy
      obtain ⟨l0, l1⟩ := bounds_u32 wa
      obtain ⟨x, rfl⟩ := Int.eq_ofNat_of_zero_le l0
      have := congrArg (·[0]?) ea
      refine ⟨x, ?_, by omega⟩
      simpa [List.getElem?_take, List.getElem?_drop] using this
    obtain ⟨R, hR⟩ := choose_lt each
    obtain ⟨pc, hp, hp2⟩ := hpc
    refine ⟨R, pc, ?_, fun i hi => (hR i hi).2, hp2⟩
    congr 1
    refine Array.ext_getElem? (fun j => ?_)
    rw [show (ctxL R pc).toArray[j]? = (ctxL R pc)[j]? from List.getElem?_toArray]
    by_cases h1 : j < 32
    · rw [ctxL_r _ _ _ h1, (hR j h1).1]
    · by_cases h2 : j = 32
      · subst h2; rw [ctxL_p, hp]
      · rw [List.getElem?_eq_none (by rw [length_ctxL]; omega), Array.getElem?_eq_none (by omega)]
section
variable {H : Type} {enc : TypeId × Value → H} {P : Program} {w : World} {base : Nat} {spare : Nat → Bool} {held : Bool}
theorem trodAll_five {t t1 t2 t3 t4 : TypeId} {args : Array Value} {ds : List (DataW H)} {ps : List MemPlace} (h : DataW.TrodAll enc P w base spare held [t, t1, t2, t3, t4] args.toList ds ps) :
    ∃ v v1 v2 v3 v4 d d1 d2 d3 d4 p p1 p2 p3 p4, args = #[v, v1, v2, v3, v4] ∧ ds = [d, d1, d2, d3, d4] ∧ ps = p ++ (p1 ++ (p2 ++ (p3 ++ p4))) ∧ DataW.Trod enc P w base spare held t v d p ∧ DataW.Trod enc P w base spare held t1 v1 d1 p1 ∧ DataW.Trod enc P w base spare held t2 v2 d2 p2 ∧ DataW.Trod enc P w base spare held t3 v3 d3 p3 ∧ DataW.Trod enc P w base spare held t4 v4 d4 p4 := by
  obtain ⟨v, vs, d, ds', p, q, hargs, rfl, rfl, hd, hr⟩ := trodAll_cons h
  obtain ⟨v1, vs1, d1, ds1, p1, q1, rfl, rfl, rfl, hd1, hr1⟩ := trodAll_cons hr
  obtain ⟨v2, vs2, d2, ds2, p2, q2, rfl, rfl, rfl, hd2, hr2⟩ := trodAll_cons hr1
  obtain ⟨v3, vs3, d3, ds3, p3, q3, rfl, rfl, rfl, hd3, hr3⟩ := trodAll_cons hr2
  obtain ⟨v4, vs4, d4, ds4, p4, q4, rfl, rfl, rfl, hd4, hr4⟩ := trodAll_cons hr3
  obtain ⟨rfl, rfl, rfl⟩ := trodAll_nil hr4
  exact ⟨v, v1, v2, v3, v4, d, d1, d2, d3, d4, p, p1, p2, p3, p4, by cases args; simp_all, rfl, by simp, hd, hd1, hd2, hd3, hd4⟩
theorem trodAll_mk5 {t t1 t2 t3 t4 : TypeId} {v v1 v2 v3 v4 : Value} {d d1 d2 d3 d4 : DataW H} {p p1 p2 p3 p4 : List MemPlace} (h : DataW.Trod enc P w base spare held t v d p) (h1 : DataW.Trod enc P w base spare held t1 v1 d1 p1) (h2 : DataW.Trod enc P w base spare held t2 v2 d2 p2) (h3 : DataW.Trod enc P w base spare held t3 v3 d3 p3) (h4 : DataW.Trod enc P w base spare held t4 v4 d4 p4) :
    DataW.TrodAll enc P w base spare held [t, t1, t2, t3, t4] [v, v1, v2, v3, v4] [d, d1, d2, d3, d4] (p ++ (p1 ++ (p2 ++ (p3 ++ p4)))) := ⟨p, _, h, trodAll_mk4 h1 h2 h3 h4, rfl⟩
end
end Go.Proofs.YtflmobffeeocdaaDoor

/- A list of lays as an argument. -/
namespace Go.Proofs.YtflmobffeeocdaaDoor
open Go.ChangeShapes Go.WideShapes Go.ChangeAt Go.RowKit Go.Deep
open Go.Vx

theorem three_of {α : Type} : ∀ (l : List α), l.length = 3 → ∃ a b c, l = [a, b, c]
  | [a, b, c], _ => ⟨a, b, c, rfl⟩
  | [], h => by simp at h
  | [_], h => by simp at h
  | [_, _], h => by simp at h
  | _ :: _ :: _ :: _ :: _, h => by simp at h
theorem cLay : Tryd.prog.cellsOf 29 = 3 := by kernel_rfl
theorem open_lays {H : Type} {enc : TypeId × Value → H} {W : World} {a0 : Option Addr} {len cap fuel : Nat} {x : DataW H × List MemPlace} (hf : DataW.trod enc Tryd.prog W 0 (fun _ => true) true fuel 22 (Value.slice a0 len cap).cells.toList = some x) :
    ∃ zs : List (Int × Int × Int), zs.length = len ∧ len ≤ cap ∧ cap ≤ maxLen ∧ LaAt W a0 zs ∧ ∀ z ∈ zs, in64 z.1 ∧ in64 z.2.1 ∧ in64 z.2.2 := by
  rcases open_slice Tryd.underlying22 hf with ⟨hc, _⟩ | ⟨a, len', cap', m, n, D, Pl, hc, _, hl, hm, hmm, _, hx⟩
  · simp [Value.cells] at hc
    obtain ⟨rfl, rfl, rfl⟩ := hc
    exact ⟨[], rfl, Nat.le_refl _, by decide, Or.inl rfl, by simp⟩
  · simp [Value.cells] at hc
    obtain ⟨rfl, rfl, rfl⟩ := hc
    simp only [if_true] at hmm
    subst hmm
    have each : ∀ i, i < m → ∃ z : Int × Int × Int, (in64 z.1 ∧ in64 z.2.1 ∧ in64 z.2.2) ∧ W.cell? (a.add (i * 3)) = some (.int .i64 z.1) ∧ W.cell? (a.add (i * 3 + 1)) = some (.int .i64 z.2.1) ∧ W.cell? (a.add (i * 3 + 2)) = some (.int .i64 z.2.2) := by
      intro i hi
      obtain ⟨cs', h1, h2⟩ := hx i hi
      rw [cLay] at h1
      obtain ⟨_, hlen, hcell⟩ := World.cells?_some h1
      obtain ⟨xs, k, hk, hxy, _, hxl, hfld⟩ := DataW.trod_struct Tryd.underlying29 h2
      obtain ⟨y0, y1, y2, rfl⟩ := three_of xs hxl
      obtain ⟨v0, v1, v2, rfl⟩ := three_of cs' hlen
      have g0 := hfld 0 _ rfl
      have g1 := hfld 1 _ rfl
      have g2 := hfld 2 _ rfl
      simp [cInt] at g0 g1 g2
      obtain ⟨n0, q0, _, b0⟩ := DataW.trod_int Tryd.underlying3 g0
      obtain ⟨n1, q1, _, b1⟩ := DataW.trod_int Tryd.underlying3 g1
      obtain ⟨n2, q2, _, b2⟩ := DataW.trod_int Tryd.underlying3 g2
      simp only [List.cons.injEq, and_true] at q0 q1 q2
      subst q0 q1 q2
      have e0 := hcell 0 (by decide)
      have e1 := hcell 1 (by decide)
      have e2 := hcell 2 (by decide)
      rw [add_add] at e0 e1 e2
      exact ⟨⟨n0, n1, n2⟩, ⟨bounds_i64 b0, bounds_i64 b1, bounds_i64 b2⟩, by simpa using e0, by simpa using e1, by simpa using e2⟩
    haveI : Inhabited (Int × Int × Int) := ⟨⟨0, 0, 0⟩⟩
    obtain ⟨Z, hZ⟩ := choose_lt each
    refine ⟨(List.range len).map Z, by simp, hl, hm, ?_, ?_⟩
    · by_cases hz : len = 0
      · subst hz
        exact Or.inl rfl
      · right
        obtain ⟨ab, ao, sp⟩ := a
        have hspot : sp = none := by simpa [Addr.add] using World.cell?_spot (hZ 0 (by omega)).2.1
        subst hspot
        refine ⟨ab, ao, rfl, fun j hj => ?_⟩
        have hj' : j < len := by simpa using hj
        have hh := (hZ j (by omega)).2
        simp only [addr_add, ← Nat.add_assoc] at hh
        simp only [List.getElem_map, List.getElem_range]
        exact hh
    · intro z hz
      simp only [List.mem_map, List.mem_range] at hz
      obtain ⟨i, hi, rfl⟩ := hz
      exact (hZ i (by omega)).1
end Go.Proofs.YtflmobffeeocdaaDoor

/- HartApart, pure: a step reads and writes mapped frames alone. -/
namespace Go.Proofs.YtflmobffeeocdaaDoor
open Go.ChangeShapes Go.WideShapes Go.ChangeAt Go.RowKit
open Go.Vx

/-- Is a page mapped for stores? -/
def Wr (H : Nat → Nat × Nat) (p : Nat) : Prop := ∃ v, v < 12 ∧ mayU 2 (H v).2 = true ∧ (H v).1 = p
/-- Two memories that differ in frames alone that are not mapped; the first as it was but in frames that are mapped for stores. -/
structure Ag (H : Nat → Nat × Nat) (f0 f1 f2 : Nat → UInt8) : Prop where
  t1 : Tabs H f1
  t2 : Tabs H f2
  ag : ∀ v, v < 12 → (H v).2 ≠ 0 → ∀ i, i < 4096 → f1 (4096 * (H v).1 + i) = f2 (4096 * (H v).1 + i)
  keep : ∀ x, ¬ Wr H (x / 4096) → f1 x = f0 x
theorem mayU_pos {u r : Nat} (h : mayU u r = true) : r ≠ 0 := by
  rintro rfl
  unfold mayU at h
  have := of_decide_eq_true h
  simp at this
theorem place_same {H : Nat → Nat × Nat} {f0 f1 f2 : Nat → UInt8} (hok : ∀ v, v < 12 → okE (H v)) (h : Ag H f0 f1 f2) (va : Nat) (hva : va < 4294967296) (len u : Nat) (hl : len = 1 ∨ len = 2 ∨ len = 4) (hu : u < 3) :
    placeF f2 12 1 va len u = placeF f1 12 1 va len u ∧ ∀ p, placeF f1 12 1 va len u = .ok p → ∃ v i, v < 12 ∧ mayU u (H v).2 = true ∧ p = 4096 * (H v).1 + i ∧ i + len ≤ 4096 := by
  rw [place_at h.t1 hok va hva len u hu, place_at h.t2 hok va hva len u hu]
  refine ⟨rfl, fun p hp => ?_⟩
  by_cases h1 : va % len ≠ 0
  · rw [if_pos h1] at hp; cases hp
  · rw [if_neg h1] at hp
    by_cases h2 : va / 4096 < 12 ∧ mayU u (H (va / 4096)).2 = true
    · rw [if_pos h2] at hp
      injection hp with hp
      refine ⟨va / 4096, va % 4096, h2.1, h2.2, hp.symm, ?_⟩
      rcases hl with rfl | rfl | rfl <;> omega
    · rw [if_neg h2] at hp; cases hp
theorem Ag.word {H : Nat → Nat × Nat} {f0 f1 f2 : Nat → UInt8} (h : Ag H f0 f1 f2) {v i : Nat} (hv : v < 12) (h0 : (H v).2 ≠ 0) (hi : i + 4 ≤ 4096) : wordF f2 (4096 * (H v).1 + i) = wordF f1 (4096 * (H v).1 + i) := by
  unfold wordF
  have a0 := h.ag v hv h0 i (by omega)
  have a1 := h.ag v hv h0 (i + 1) (by omega)
  have a2 := h.ag v hv h0 (i + 2) (by omega)
  have a3 := h.ag v hv h0 (i + 3) (by omega)
  simp only [← Nat.add_assoc] at a1 a2 a3
  rw [a0, a1, a2, a3]
theorem Ag.part {H : Nat → Nat × Nat} {f0 f1 f2 : Nat → UInt8} (h : Ag H f0 f1 f2) {v i len : Nat} (hv : v < 12) (h0 : (H v).2 ≠ 0) (hl : len = 1 ∨ len = 2 ∨ len = 4) (hi : i + len ≤ 4096) : partF f2 (4096 * (H v).1 + i) len = partF f1 (4096 * (H v).1 + i) len := by
  rcases hl with rfl | rfl | rfl
  · show (f2 _).toNat = (f1 _).toNat
    rw [h.ag v hv h0 i (by omega)]
  · show (f2 _).toNat + 256 * (f2 _).toNat = (f1 _).toNat + 256 * (f1 _).toNat
    have a1 := h.ag v hv h0 (i + 1) (by omega)
    rw [← Nat.add_assoc] at a1
    rw [h.ag v hv h0 i (by omega), a1]
  · exact h.word hv h0 hi
theorem Ag.put {H : Nat → Nat × Nat} {f0 f1 f2 : Nat → UInt8} (hok : ∀ v, v < 12 → okE (H v)) (h : Ag H f0 f1 f2) {v i : Nat} {s : List UInt8} (hv : v < 12) (hw : mayU 2 (H v).2 = true) (hi : i + s.length ≤ 4096) : Ag H f0 (putF f1 (4096 * (H v).1 + i) s) (putF f2 (4096 * (H v).1 + i) s) := by
  have h4 : 4 ≤ (H v).1 := by
    rcases hok v hv with e | ⟨e, _⟩
    · exact absurd (by rw [e]) (mayU_pos hw)
    · exact e
  refine ⟨fun x hx => ?_, fun x hx => ?_, fun v' hv' h0 j hj => ?_, fun x hx => ?_⟩
  · unfold putF; rw [if_neg (by omega)]; exact h.t1 x hx
  · unfold putF; rw [if_neg (by omega)]; exact h.t2 x hx
  · unfold putF
    split
    · rfl
    · exact h.ag v' hv' h0 j hj
  · unfold putF
    rw [if_neg ?_]
    · exact h.keep x hx
    · intro hr
      exact hx ⟨v, hv, hw, by omega⟩
theorem bytes_three (op : Nat) : bytesF op = 1 ∨ bytesF op = 2 ∨ bytesF op = 4 := by
  unfold bytesF
  split
  · exact Or.inr (Or.inr rfl)
  · split
    · exact Or.inr (Or.inl rfl)
    · exact Or.inl rfl
/-- What both make. -/
def Alike (H : Nat → Nat × Nat) (f0 : Nat → UInt8) (r1 r2 : StepR) : Prop :=
  (∃ c t, r1 = .error (c, t) ∧ r2 = .error (c, t)) ∨ ∃ g1 g2 R' pc', r1 = .ok (g1, R', pc') ∧ r2 = .ok (g2, R', pc') ∧ Ag H f0 g1 g2
theorem exe_apart {H : Nat → Nat × Nat} {f0 f1 f2 : Nat → UInt8} (hok : ∀ v, v < 12 → okE (H v)) (h : Ag H f0 f1 f2) (R : Nat → Nat) (pc op rd a b : Nat) (imm : Int) : Alike H f0 (exeF f1 12 1 R pc op rd a b imm) (exeF f2 12 1 R pc op rd a b imm) := by
  unfold exeF
  by_cases h39 : op = 39
  · rw [if_pos h39, if_pos h39]; exact Or.inl ⟨8, 0, rfl, rfl⟩
  rw [if_neg h39, if_neg h39]
  by_cases h40 : op = 40
  · rw [if_pos h40, if_pos h40]; exact Or.inl ⟨3, pc, rfl, rfl⟩
  rw [if_neg h40, if_neg h40]
  by_cases hld : 11 ≤ op ∧ op ≤ 15
  · rw [if_pos hld, if_pos hld]
    obtain ⟨e, hp⟩ := place_same hok h (m32 ((a : Int) + imm)) (m32_lt _) (bytesF op) 1 (bytes_three op) (by decide)
    rw [e]
    cases hq : placeF f1 12 1 (m32 ((a : Int) + imm)) (bytesF op) 1 with
    | error c => exact Or.inl ⟨c.1, c.2, rfl, rfl⟩
    | ok p =>
      obtain ⟨v, i, hv, hm, rfl, hi⟩ := hp p hq
      refine Or.inr ⟨f1, f2, _, _, rfl, ?_, h⟩
      show Except.ok _ = _
      rw [h.part hv (mayU_pos hm) (bytes_three op) hi]
  rw [if_neg hld, if_neg hld]
  by_cases hst : 16 ≤ op ∧ op ≤ 18
  · rw [if_pos hst, if_pos hst]
    obtain ⟨e, hp⟩ := place_same hok h (m32 ((a : Int) + imm)) (m32_lt _) (bytesF op) 2 (bytes_three op) (by decide)
    rw [e]
    cases hq : placeF f1 12 1 (m32 ((a : Int) + imm)) (bytesF op) 2 with
    | error c => exact Or.inl ⟨c.1, c.2, rfl, rfl⟩
    | ok p =>
      obtain ⟨v, i, hv, hm, rfl, hi⟩ := hp p hq
      refine Or.inr ⟨_, _, _, _, rfl, rfl, h.put hok hv hm ?_⟩
      rw [List.length_take]
      omega
  rw [if_neg hst, if_neg hst]
  unfold plainG
  by_cases hd : toF op a b imm pc % 4 ≠ 0
  · rw [if_pos hd, if_pos hd]; exact Or.inl ⟨0, _, rfl, rfl⟩
  · rw [if_neg hd, if_neg hd]; exact Or.inr ⟨f1, f2, _, _, rfl, rfl, h⟩
/-- One step of both. -/
theorem step_apart {H : Nat → Nat × Nat} {f0 f1 f2 : Nat → UInt8} (hok : ∀ v, v < 12 → okE (H v)) (h : Ag H f0 f1 f2) (R : Nat → Nat) (pc : Nat) (hpc : pc < 4294967296) : Alike H f0 (stepF f1 12 1 R pc) (stepF f2 12 1 R pc) := by
  unfold stepF
  obtain ⟨e, hp⟩ := place_same hok h pc hpc 4 0 (Or.inr (Or.inr rfl)) (by decide)
  rw [e]
  cases hq : placeF f1 12 1 pc 4 0 with
  | error c => exact Or.inl ⟨c.1, c.2, rfl, rfl⟩
  | ok p =>
    obtain ⟨v, i, hv, hm, rfl, hi⟩ := hp p hq
    unfold decG
    dsimp only
    rw [h.word hv (mayU_pos hm) hi]
    by_cases h0 : (dec (wordF f1 (4096 * (H v).1 + i) : Nat)).op = 0
    · rw [if_pos h0, if_pos h0]; exact Or.inl ⟨2, _, rfl, rfl⟩
    · rw [if_neg h0, if_neg h0]
      exact exe_apart hok h R pc _ _ _ _ _
end Go.Proofs.YtflmobffeeocdaaDoor

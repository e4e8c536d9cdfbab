import Derived.Test.YtgncabcnefhkiaaCs16
import Derived.Test.YtgncabcnefhkiaaCs17
import Derived.Test.YtgncabcnefhkiaaCs18
/- Chapter 9, the program's scheduler: where it lies; what stays; a look into the map. -/
namespace Go.Vx
/-- Pointers in a row. -/
def prL : Lay Nat := ⟨fun g => [.pointer (some ⟨g, 0, none⟩)], 1, fun _ => rfl, fun a u hu => by simp only [List.mem_cons, List.not_mem_nil, or_false] at hu; subst hu; rfl, by decide⟩
end Go.Vx
namespace Go.Proofs.Ytgncabcnefhkiaa
open Go.ChangeShapes Go.WideShapes Go.ChangeAt Go.RowKit
open Go.Vx
set_option linter.unusedVariables false

/-- A pointer, as an element of a map. -/
def RP (v : Value) : Option (DataW Value × List MemPlace) := match v with | .pointer p => some (.held (.pointer p), []) | _ => none
theorem rp_inv {v : Value} {y : DataW Value × List MemPlace} (h : RP v = some y) : ∃ p, v = .pointer p ∧ y = (.held (.pointer p), []) := by
  unfold RP at h
  split at h
  · injection h with h; exact ⟨_, rfl, h.symm⟩
  · cases h
theorem rp_zero (w : World) : (zeroValue 76).run Try.prog w = .ok (.pointer none) w := by kernel_rfl
/-- A runner's cells. -/
def rnC (e : Et) : Array Value := #[.int .i64 e.num, .int .i64 e.dom, .int .i64 e.prio, .bool (decide (e.came ≠ 0)), .int .i64 e.left]
def xsC (vt : Value) (t : Nat) (lf : Int) (mb : Nat) (vq : List Value) : Array Value := (vt :: .int .i64 (t : Int) :: .int .i64 lf :: .map (some mb) :: vq).toArray
/-- What a look into the map tells. -/
def rnV (G : Int → Nat) (es : List Et) (k : Int) : Value := match fnF es k with | some _ => .pointer (some ⟨G k, 0, none⟩) | none => .pointer none
def qv (vq : List Value) (j : Nat) : Value := vq.getD j (.slice none 0 0)
/-- The turns, and where they stand. -/
structure TsOk (ts : List (Int × Int)) (t : Nat) (lf : Int) : Prop where
  n1 : 1 ≤ ts.length
  n2 : ts.length ≤ 16
  ok : ∀ x ∈ ts, tuB x = true
  tl : t < ts.length
  l0 : 0 ≤ lf
  l1 : lf ≤ 1000
/-- The program's scheduler; U: blocks that are none of its own; G: where a thread's runner lies; Q: the queues. -/
structure XsAt (U : Nat → Prop) (w : World) (xb mb : Nat) (D : DataW Value) (G : Int → Nat) (vt : Value) (vq : List Value) (ts : List (Int × Int)) (t : Nat) (lf : Int) (es : List Et) (Q : Nat → List Int) : Prop where
  x : w.heap[xb]? = some (.cells (xsC vt t lf mb vq) 71 (0, 0))
  lq : vq.length = 64
  t' : OwnL slL w 0 34 vt ts
  m : w.ownsMap Try.prog 3 RP mb es.length D
  hs : ∀ k, I64 k → Maps.has D (.int .i64 k) = (fnF es k).isSome
  ha : ∀ k i z, fnF es k = some i → D.atKey (.int .i64 k) z = .held (.pointer (some ⟨G k, 0, none⟩))
  rn : ∀ e ∈ es, w.heap[G e.num]? = some (.cells (rnC e) 78 (0, 0))
  gi : ∀ e ∈ es, ∀ f ∈ es, G e.num = G f.num → e.num = f.num
  qs : ∀ j, j < 64 → OwnL prL w 0 76 (qv vq j) ((Q j).map G)
  qd : ∀ i j k, i < 64 → j < 64 → (qv vq i).ownBlock = some k → (qv vq j).ownBlock = some k → i = j
  ux : ¬ U xb
  ut : ∀ k, vt.ownBlock = some k → ¬ U k
  um : ¬ U mb
  ur : ∀ e ∈ es, ¬ U (G e.num)
  uq : ∀ j k, j < 64 → (qv vq j).ownBlock = some k → ¬ U k
  low : ∀ k, U k → k < w.heap.size
  nl : es.length ≤ 1000000
  ix : ∀ e ∈ es, I64 e.num
variable {U V S : Nat → Prop} {w w2 : World} {xb mb : Nat} {D : DataW Value} {G : Int → Nat} {vt : Value} {vq : List Value} {ts : List (Int × Int)} {t : Nat} {lf : Int} {es : List Et} {Q : Nat → List Int}

theorem mp_owns {n : Nat} (h : w.ownsMap Try.prog 3 RP mb n D) (ho : Only S w w2) (hb : ¬ S mb) : w2.ownsMap Try.prog 3 RP mb n D := by
  have hml := h.lt
  obtain ⟨e, clock, hb2, F, hs, hD⟩ := h
  exact ⟨e, clock, (ho.block mb hml hb).trans hb2, F, hs, hD⟩
theorem mp_ne {j n : Nat} {c : Array Value} {t : TypeId} {fr : Nat × Nat} (h : w.heap[j]? = some (.cells c t fr)) (h2 : w.ownsMap Try.prog 3 RP mb n D) : j ≠ mb := by
  obtain ⟨es, clock, hb, _⟩ := h2
  rintro rfl
  rw [h] at hb
  cases hb
theorem XsAt.aside (h : XsAt U w xb mb D G vt vq ts t lf es Q) (ho : Only S w w2) (s1 : ¬ S xb) (s2 : ¬ S mb) (s3 : ∀ k, vt.ownBlock = some k → ¬ S k) (s4 : ∀ e ∈ es, ¬ S (G e.num)) (s5 : ∀ j k, j < 64 → (qv vq j).ownBlock = some k → ¬ S k)
    (v1 : ¬ V xb) (v2 : ¬ V mb) (v3 : ∀ k, vt.ownBlock = some k → ¬ V k) (v4 : ∀ e ∈ es, ¬ V (G e.num)) (v5 : ∀ j k, j < 64 → (qv vq j).ownBlock = some k → ¬ V k) (vl : ∀ k, V k → k < w2.heap.size) : XsAt V w2 xb mb D G vt vq ts t lf es Q :=
  ⟨Only.keep ho h.x s1, h.lq, h.t'.kept ho s3, mp_owns h.m ho s2, h.hs, h.ha, fun e he => Only.keep ho (h.rn e he) (s4 e he), h.gi, fun j hj => (h.qs j hj).kept ho (fun k hk => s5 j k hj hk), h.qd, v1, v3, v2, v4, v5, vl, h.nl, h.ix⟩
theorem XsAt.step (h : XsAt U w xb mb D G vt vq ts t lf es Q) (ho : Only S w w2) (hS : ∀ k, k < w.heap.size → S k → U k) (hV : ∀ k, V k → U k ∨ (w.heap.size ≤ k ∧ k < w2.heap.size)) : XsAt V w2 xb mb D G vt vq ts t lf es Q := by
  have l1 := lt_of_some h.x
  have l2 := h.m.lt
  have l3 : ∀ k, vt.ownBlock = some k → k < w.heap.size := fun k hk => (own_lt h.t' hk).2
  have l4 : ∀ e ∈ es, G e.num < w.heap.size := fun e he => lt_of_some (h.rn e he)
  have l5 : ∀ j k, j < 64 → (qv vq j).ownBlock = some k → k < w.heap.size := fun j k hj hk => (own_lt (h.qs j hj) hk).2
  have hv : ∀ k, k < w.heap.size → ¬ U k → ¬ V k := fun k hk hu hv => by
    rcases hV k hv with h3 | h3
    · exact hu h3
    · omega
  exact h.aside ho (fun s => h.ux (hS _ l1 s)) (fun s => h.um (hS _ l2 s)) (fun k hk s => h.ut k hk (hS _ (l3 k hk) s)) (fun e he s => h.ur e he (hS _ (l4 e he) s)) (fun j k hj hk s => h.uq j k hj hk (hS _ (l5 j k hj hk) s))
    (hv _ l1 h.ux) (hv _ l2 h.um) (fun k hk => hv _ (l3 k hk) (h.ut k hk)) (fun e he => hv _ (l4 e he) (h.ur e he)) (fun j k hj hk => hv _ (l5 j k hj hk) (h.uq j k hj hk)) (fun k hk => by
    rcases hV k hk with h3 | h3
    · exact Nat.lt_of_lt_of_le (h.low k h3) ho.size
    · exact h3.2)
theorem XsAt.quiet (h : XsAt U w xb mb D G vt vq ts t lf es Q) (ho : Only (fun _ => False) w w2) : XsAt U w2 xb mb D G vt vq ts t lf es Q := h.step ho (fun _ _ h => h.elim) (fun _ h => Or.inl h)
theorem XsAt.c0 (h : XsAt U w xb mb D G vt vq ts t lf es Q) : w.cell? ⟨xb, 0, none⟩ = some vt := (cell_of_row _ _ 0 _ _ (0, 0) h.x).trans rfl
theorem XsAt.c1 (h : XsAt U w xb mb D G vt vq ts t lf es Q) : w.cell? ⟨xb, 1, none⟩ = some (.int .i64 (t : Int)) := (cell_of_row _ _ 1 _ _ (0, 0) h.x).trans rfl
theorem XsAt.c2 (h : XsAt U w xb mb D G vt vq ts t lf es Q) : w.cell? ⟨xb, 2, none⟩ = some (.int .i64 lf) := (cell_of_row _ _ 2 _ _ (0, 0) h.x).trans rfl
theorem XsAt.c3 (h : XsAt U w xb mb D G vt vq ts t lf es Q) : w.cell? ⟨xb, 3, none⟩ = some (.map (some mb)) := (cell_of_row _ _ 3 _ _ (0, 0) h.x).trans rfl
theorem qv_at (vq : List Value) (j : Nat) (hj : j < vq.length) : vq[j]? = some (qv vq j) := by
  unfold qv
  rw [List.getD_eq_getElem?_getD, List.getElem?_eq_getElem hj]
  rfl
theorem XsAt.cq (h : XsAt U w xb mb D G vt vq ts t lf es Q) (j : Nat) (hj : j < 64) : w.cell? ⟨xb, 4 + j, none⟩ = some (qv vq j) := by
  refine (cell_of_row _ _ (4 + j) _ _ (0, 0) h.x).trans ?_
  unfold xsC
  rw [List.getElem?_toArray, Nat.add_comm]
  exact qv_at vq j (by rw [h.lq]; exact hj)
theorem XsAt.fz (h : XsAt U w xb mb D G vt vq ts t lf es Q) (j : Nat) : w.frozen? ⟨xb, j, none⟩ = false := by
  have := h.x
  simp [World.frozen?, this]
theorem XsAt.look (h : XsAt U w xb mb D G vt vq ts t lf es Q) (k : Int) (hk : I64 k) :
    (Instr.lookup 64 (.map (some mb)) (.int .i64 k) false).run Try.prog w = .ok (rnV G es k) w := by
  have hz : RP (.pointer none) = some (.held (.pointer none), []) := rfl
  obtain ⟨v, ps, hr, hv⟩ := h.m.lookup (t := 64) (e := 76) mi_keyed Try.underlying64 (rp_zero w) hz (mi_key hk)
  have hD : D.atKey (.int .i64 k) (.held (.pointer none)) = .held (rnV G es k) := by
    unfold rnV
    cases hs : fnF es k with
    | some n => exact h.ha k n _ hs
    | none => exact Maps.atKey_of_not_has (by rw [h.hs k hk, hs]; rfl) _
  rw [hD] at hv
  obtain ⟨p, rfl, he⟩ := rp_inv hv
  simp only [Prod.mk.injEq, DataW.held.injEq] at he
  rw [hr, he.1]
/-- A runner where it lies. -/
structure R5 (w : World) (g : Nat) (e : Et) : Prop where
  c0 : w.cell? ⟨g, 0, none⟩ = some (.int .i64 e.num)
  c1 : w.cell? ⟨g, 1, none⟩ = some (.int .i64 e.dom)
  c2 : w.cell? ⟨g, 2, none⟩ = some (.int .i64 e.prio)
  c3 : w.cell? ⟨g, 3, none⟩ = some (.bool (decide (e.came ≠ 0)))
  c4 : w.cell? ⟨g, 4, none⟩ = some (.int .i64 e.left)
  fz : ∀ j, w.frozen? ⟨g, j, none⟩ = false
theorem r5_of {g : Nat} {e : Et} (h : w.heap[g]? = some (.cells (rnC e) 78 (0, 0))) : R5 w g e :=
  ⟨(cell_of_row _ _ 0 _ _ (0, 0) h).trans rfl, (cell_of_row _ _ 1 _ _ (0, 0) h).trans rfl, (cell_of_row _ _ 2 _ _ (0, 0) h).trans rfl, (cell_of_row _ _ 3 _ _ (0, 0) h).trans rfl, (cell_of_row _ _ 4 _ _ (0, 0) h).trans rfl, fun j => by simp [World.frozen?, h]⟩
theorem XsAt.r5 (h : XsAt U w xb mb D G vt vq ts t lf es Q) {n : Int} {i : Nat} (hi : fnF es n = some i) : ∃ hl : i < es.length, es[i].num = n ∧ R5 w (G n) es[i] ∧ rnV G es n = .pointer (some ⟨G n, 0, none⟩) := by
  obtain ⟨hl, hn⟩ := fnF_at hi
  refine ⟨hl, hn, ?_, by unfold rnV; rw [hi]⟩
  have := h.rn _ (List.getElem_mem hl)
  rw [hn] at this
  exact r5_of this
/-- The queues are what the threads say. -/
def QOk (es : List Et) (Q : Nat → List Int) : Prop := ∀ j, j < 64 → NQ es ((j / 8 : Nat) : Int) ((j % 8 : Nat) : Int) (Q j)
/-- The program's scheduler, but for where its parts lie. -/
def XgAt (U : Nat → Prop) (w : World) (xb : Nat) (G : Int → Nat) (ts : List (Int × Int)) (t : Nat) (lf : Int) (es : List Et) (ck : Nat) : Prop := SWf es ck ∧ TsOk ts t lf ∧ ∃ mb D vt vq Q, QOk es Q ∧ XsAt U w xb mb D G vt vq ts t lf es Q
def XcAt (U : Nat → Prop) (w : World) (xb : Nat) (ts : List (Int × Int)) (t : Nat) (lf : Int) (es : List Et) (ck : Nat) : Prop := ∃ G, XgAt U w xb G ts t lf es ck
theorem XgAt.step {ck : Nat} (h : XgAt U w xb G ts t lf es ck) (ho : Only S w w2) (hS : ∀ k, k < w.heap.size → S k → U k) (hV : ∀ k, V k → U k ∨ (w.heap.size ≤ k ∧ k < w2.heap.size)) : XgAt V w2 xb G ts t lf es ck := by
  obtain ⟨a, b, mb, D, vt, vq, Q, q, h⟩ := h
  exact ⟨a, b, mb, D, vt, vq, Q, q, h.step ho hS hV⟩
theorem XgAt.quiet {ck : Nat} (h : XgAt U w xb G ts t lf es ck) (ho : Only (fun _ => False) w w2) : XgAt U w2 xb G ts t lf es ck := h.step ho (fun _ _ h => h.elim) (fun _ h => Or.inl h)
theorem XcAt.step {ck : Nat} (h : XcAt U w xb ts t lf es ck) (ho : Only S w w2) (hS : ∀ k, k < w.heap.size → S k → U k) (hV : ∀ k, V k → U k ∨ (w.heap.size ≤ k ∧ k < w2.heap.size)) : XcAt V w2 xb ts t lf es ck := by
  obtain ⟨G, h⟩ := h
  exact ⟨G, h.step ho hS hV⟩
theorem XcAt.quiet {ck : Nat} (h : XcAt U w xb ts t lf es ck) (ho : Only (fun _ => False) w w2) : XcAt U w2 xb ts t lf es ck := h.step ho (fun _ _ h => h.elim) (fun _ h => Or.inl h)
theorem XcAt.wf {ck : Nat} (h : XcAt U w xb ts t lf es ck) : SWf es ck := by obtain ⟨G, h⟩ := h; exact h.1
theorem XcAt.tsOk {ck : Nat} (h : XcAt U w xb ts t lf es ck) : TsOk ts t lf := by obtain ⟨G, h⟩ := h; exact h.2.1
end Go.Proofs.Ytgncabcnefhkiaa

import Derived.Test.YtbmchgjilkoplaaDoorCk1
import Derived.Deep.AppendLies
import Derived.Deep.DeepAppendRoom
import Derived.Laws.OwnMore
/- Rows of one's own, append onto them: for lists of any struct. -/
namespace Go.Vx
set_option linter.unusedVariables false
/-- append onto a row of one's own: it lies where it lay, or all that was stays as it was. -/
theorem run_append_keep {P : Program} (w : World) (t ty : TypeId) (base : Nat) (e : TypeId) (i : TypeInfo) (z : Value) (size bytes : Nat) (ht : P.underlying t = some (.slice e)) (hi : P.info? e = some i) (hz : i.zero = some z)
    (hsize : i.size = size) (hby : i.bytes = bytes) (hzs : z.cells.size = size) (hsz : 0 < size)
    (v : Value) (n : Nat) (xs : List Value) (hown : w.ownsRow base e size v n xs)
    (ad : Addr) (m c : Nat) (news : List Value) (hl : news.length = m * size) (hnews : ∀ j u, news[j]? = some u → w.cell? (ad.add j) = some u) (h1 : ∀ u ∈ news, u.oneCell' = true)
    (hm : 0 < m) (h63 : n + m ≤ maxLen) (hbytes : (n + m) * bytes ≤ 140737488355328) (hbase : base ≤ w.heap.size) :
    ∃ g cap w', (Builtin.append_ #[t, t] ty #[v, .slice (some ad) m c]).run P w = .ok (.slice (some ⟨g, 0, none⟩) (n + m) cap) w' ∧
      w'.ownsRow base e size (.slice (some ⟨g, 0, none⟩) (n + m) cap) (n + m) (xs ++ news) ∧ ((v.ownBlock = some g ∧ w.grownBy w' (some g)) ∨ (g = w.heap.size ∧ w.grownBy w' none)) ∧ g < w'.heap.size := by
  obtain ⟨g, cap, w', hr, h2, h3, h4, h5⟩ := run_append_lies (P := P) w t ty base e i z size bytes ht hi hz hsize hby hzs hsz v n xs hown ad m c news hl hnews h1 hm h63 hbytes hbase _ rfl
  rcases hown.2 with ⟨rfl, rfl⟩ | ⟨g0, cap0, cur, rfl, hb0, hg0, hnc, hcm, hcs, htake⟩
  · refine ⟨g, cap, w', hr, h2, Or.inr ⟨?_, h3⟩, h5⟩
    rcases h4 with h4 | h4
    · cases h4
    · exact h4
  · by_cases hroom : n + m ≤ cap0
    · obtain ⟨w1, hr1, k1, k2⟩ := run_append_own_spare (P := P) w base t ty e i size ht hi hsize g0 n cap0 xs hown ad m c news hl hnews h1 hroom
      exact ⟨g0, cap0, w1, hr1, k1, Or.inl ⟨rfl, k2⟩, (k1.lt g0 rfl).2⟩
    · subst hsize
      subst hby
      have hg := run_append_grow (P := P) w t ty e i z ht hi hz ⟨g0, 0, none⟩ n cap0 xs hown.1 (hown.cells (g := g0) rfl) ad m c news hl hnews (by omega) (by simp only [maxLen] at h63; omega) (growslice_fits (by omega) hbytes)
      rw [hr] at hg
      injection hg with hv hw
      injection hv with ha _ hc
      injection ha with ha
      injection ha with ha _ _
      refine ⟨g, cap, w', hr, h2, Or.inr ⟨ha, ?_⟩, h5⟩
      rw [hw]
      exact ⟨rfl, rfl, rfl, by simp, fun k hk _ => RowKit.Below.heap_alloc w.drew _ _ hk⟩
theorem wpList_append_keep {P : Program} (w : World) {ops : Array Oper} {rest : List Oper} {o : Oper} {a : Act} {Q : Exit → Act → World → Prop} (hgd : o.guard = none) (s x : Operand) (t : TypeId)
    (ho : o.op = .call { callee := .builtin .append, args := #[s, x], argTypes := #[t, t] })
    (base : Nat) (e : TypeId) (i : TypeInfo) (z : Value) (size bytes : Nat) (ht : P.underlying t = some (.slice e)) (hi : P.info? e = some i) (hz : i.zero = some z)
    (hsize : i.size = size) (hby : i.bytes = bytes) (hzs : z.cells.size = size) (hsz : 0 < size)
    (v : Value) (n : Nat) (xs : List Value) (hs : a.eval s = v) (hown : w.ownsRow base e size v n xs)
    (ad : Addr) (m c : Nat) (news : List Value) (hx : a.eval x = .slice (some ad) m c) (hl : news.length = m * size) (hnews : ∀ j u, news[j]? = some u → w.cell? (ad.add j) = some u) (h1 : ∀ u ∈ news, u.oneCell' = true)
    (hm : 0 < m) (h63 : n + m ≤ maxLen) (hbytes : (n + m) * bytes ≤ 140737488355328) (hbase : base ≤ w.heap.size)
    (h : ∀ g cap w', w'.ownsRow base e size (.slice (some ⟨g, 0, none⟩) (n + m) cap) (n + m) (xs ++ news) → ((v.ownBlock = some g ∧ w.grownBy w' (some g)) ∨ (g = w.heap.size ∧ w.grownBy w' none)) → g < w'.heap.size → wpList P ops Q rest (a.put o.dst (.slice (some ⟨g, 0, none⟩) (n + m) cap)) w') : wpList P ops Q (o :: rest) a w := by
  refine wpList_plain hgd fun K hK => ?_
  obtain ⟨g, cap, w', hr, h2, h3, h4⟩ := run_append_keep (P := P) w t o.type base e i z size bytes ht hi hz hsize hby hzs hsz v n xs hown ad m c news hl hnews h1 hm h63 hbytes hbase
  unfold Oper.wp execOp
  simp only [ho, resolve, invoke, builtin, Sem.run_bind, Sem.run_pure, Result.andThen_ok, List.map_toArray, List.map_cons, List.map_nil, hs, hx, hr]
  exact hK _ _ (h g cap w' h2 h3 h4)
theorem Only.grown {S : Nat → Prop} {w0 w w' : World} {row : Option Nat} (h : Only S w0 w) (hg : w.grownBy w' row) (hr : ∀ k, row = some k → S k ∨ w0.heap.size ≤ k) : Only S w0 w' :=
  ⟨hg.os.trans h.os, hg.tape.trans h.tape, hg.output.trans h.output, Nat.le_trans h.size hg.size, fun k hk hn => (hg.block k (Nat.lt_of_lt_of_le hk h.size) (fun e => by
    rcases hr k e.symm with h1 | h1
    · exact hn h1
    · omega)).trans (h.block k hk hn)⟩
theorem Only.both {w w' : World} (h : Only (fun _ => False) w w') : w.grownBy w' none := ⟨h.os, h.tape, h.output, h.size, fun k hk _ => h.block k hk (fun h => h)⟩
/-- How things of a kind lie in cells. -/
structure Lay (α : Type) where
  cf : α → List Value
  sz : Nat
  len : ∀ a, (cf a).length = sz
  one : ∀ a, ∀ u ∈ cf a, u.oneCell' = true
  pos : 0 < sz
variable {α : Type}
def fl (L : Lay α) (xs : List α) : List Value := xs.flatMap L.cf
theorem fl_cons (L : Lay α) (a : α) (xs : List α) : fl L (a :: xs) = L.cf a ++ fl L xs := by simp [fl]
theorem fl_app (L : Lay α) (xs ys : List α) : fl L (xs ++ ys) = fl L xs ++ fl L ys := by simp [fl]
theorem fl_one (L : Lay α) (a : α) : fl L [a] = L.cf a := by simp [fl]
theorem length_fl (L : Lay α) (xs : List α) : (fl L xs).length = xs.length * L.sz := by
  induction xs with
  | nil => simp [fl]
  | cons a xs ih => rw [fl_cons, List.length_append, ih, L.len, List.length_cons, Nat.add_mul]; omega
theorem get_fl (L : Lay α) (xs : List α) (k j : Nat) (hk : k < xs.length) (hj : j < L.sz) : (fl L xs)[k * L.sz + j]? = (L.cf xs[k])[j]? := by
  induction xs generalizing k with
  | nil => simp at hk
  | cons a xs ih =>
    rw [fl_cons]
    cases k with
    | zero =>
      rw [List.getElem?_append_left (by rw [L.len]; omega)]
      simp
    | succ k =>
      have e : (k + 1) * L.sz + j - (L.cf a).length = k * L.sz + j := by rw [L.len, Nat.add_mul]; omega
      rw [List.getElem?_append_right (by rw [L.len, Nat.add_mul]; omega), e, ih k (by simpa using hk)]
      rfl
theorem one_fl (L : Lay α) (xs : List α) : ∀ u ∈ fl L xs, u.oneCell' = true := by
  intro u hu
  simp only [fl, List.mem_flatMap] at hu
  obtain ⟨a, _, ha⟩ := hu
  exact L.one a u ha
/-- Some cells of a row put anew: one thing's. -/
theorem fl_set (L : Lay α) (xs : List α) (k : Nat) (y : α) (hk : k < xs.length) (zs : List Value) (hz : zs.length = (fl L xs).length) (hin : ∀ j, j < L.sz → zs[k * L.sz + j]? = (L.cf y)[j]?) (hout : ∀ i, (i < k * L.sz ∨ k * L.sz + L.sz ≤ i) → zs[i]? = (fl L xs)[i]?) : zs = fl L (xs.set k y) := by
  apply List.ext_getElem?
  intro i
  have hp := L.pos
  by_cases hi : i < xs.length * L.sz
  · have hd : i / L.sz < xs.length := (Nat.div_lt_iff_lt_mul hp).2 hi
    have hm : i % L.sz < L.sz := Nat.mod_lt _ hp
    have ei : i / L.sz * L.sz + i % L.sz = i := by rw [Nat.mul_comm]; exact Nat.div_add_mod i L.sz
    have h2 := get_fl L (xs.set k y) (i / L.sz) (i % L.sz) (by simpa using hd) hm
    rw [ei] at h2
    rw [h2]
    by_cases hq : i / L.sz = k
    · have hg : (xs.set k y)[i / L.sz]'(by simpa using hd) = y := by simp [hq]
      have h3 := hin (i % L.sz) hm
      rw [← hq, ei] at h3
      rw [hg, h3]
    · have hg : (xs.set k y)[i / L.sz]'(by simpa using hd) = xs[i / L.sz] := by rw [List.getElem_set, if_neg (fun e => hq e.symm)]
      have h1 := get_fl L xs (i / L.sz) (i % L.sz) hd hm
      rw [ei] at h1
      rw [hg, ← h1]
      refine hout i ?_
      by_cases hc : i < k * L.sz
      · exact Or.inl hc
      · right
        have hk2 : k ≤ i / L.sz := (Nat.le_div_iff_mul_le hp).2 (by omega)
        have hk3 : k + 1 ≤ i / L.sz := by omega
        have := (Nat.le_div_iff_mul_le hp).1 hk3
        rw [Nat.add_mul] at this
        omega
  · rw [List.getElem?_eq_none (by rw [hz, length_fl]; omega), List.getElem?_eq_none (by rw [length_fl, List.length_set]; omega)]
/-- A list that is one's own. -/
def OwnL (L : Lay α) (w : World) (base : Nat) (e : TypeId) (v : Value) (xs : List α) : Prop := w.ownsRow base e L.sz v xs.length (fl L xs)
theorem OwnL.kept {L : Lay α} {S : Nat → Prop} {w w' : World} {base : Nat} {e : TypeId} {v : Value} {xs : List α} (h : OwnL L w base e v xs) (ho : Only S w w') (hS : ∀ k, v.ownBlock = some k → ¬ S k) : OwnL L w' base e v xs := by
  refine ⟨h.1, h.2.imp (fun h => h) (fun ⟨g, cap, cur, a, b, c, d⟩ => ⟨g, cap, cur, a, b, ?_, d⟩)⟩
  rw [ho.block g (lt_of_some c) (hS g (by rw [a]; rfl))]
  exact c
theorem OwnL.nil (L : Lay α) (w : World) (base : Nat) (e : TypeId) : OwnL L w base e (.slice none 0 0) [] := World.ownsRow_nil _ _ _ _
theorem OwnL.form {L : Lay α} {w : World} {base : Nat} {e : TypeId} {v : Value} {xs : List α} (h : OwnL L w base e v xs) : ∃ p c, v = .slice p xs.length c ∧ xs.length ≤ c ∧ c ≤ maxLen ∧ (0 < xs.length → ∃ g, p = some ⟨g, 0, none⟩ ∧ base ≤ g ∧ g < w.heap.size ∧ v.ownBlock = some g) := by
  rcases h.2 with ⟨hv, h0⟩ | ⟨g, cap, cur, hv, hb, hg, hnc, hcm, _⟩
  · exact ⟨none, 0, by rw [hv, h0], by omega, by decide, fun h => by omega⟩
  · exact ⟨_, cap, hv, hnc, hcm, fun _ => ⟨g, rfl, hb, lt_of_some hg, by rw [hv]; rfl⟩⟩
theorem OwnL.cell {L : Lay α} {w : World} {base g n c : Nat} {e : TypeId} {xs : List α} (h : OwnL L w base e (.slice (some ⟨g, 0, none⟩) n c) xs) (k j : Nat) (hk : k < xs.length) (hj : j < L.sz) : w.cell? ⟨g, k * L.sz + j, none⟩ = (L.cf xs[k])[j]? := by
  have hn : n = xs.length := by
    rcases h.2 with ⟨hv, h0⟩ | ⟨g', cap, cur, hv, _⟩
    · simp at hv
    · simp at hv; exact hv.2.1
  subst hn
  have hlt : k * L.sz + j < xs.length * L.sz := by
    have : (k + 1) * L.sz ≤ xs.length * L.sz := Nat.mul_le_mul_right _ hk
    rw [Nat.add_mul] at this
    omega
  rw [World.ownsRow.cellAt h (k * L.sz + j) hlt, get_fl L xs k j hk hj]
theorem OwnL.fz {L : Lay α} {w : World} {base g n c : Nat} {e : TypeId} {xs : List α} (h : OwnL L w base e (.slice (some ⟨g, 0, none⟩) n c) xs) (j : Nat) : w.frozen? ⟨g, j, none⟩ = false := by
  have hn : n = xs.length := by
    rcases h.2 with ⟨hv, h0⟩ | ⟨g', cap, cur, hv, _⟩
    · simp at hv
    · simp at hv; exact hv.2.1
  subst hn
  exact World.ownsRow.frozenAt h j
end Go.Vx

/- Chapter 7, pure: boxes and entries, and what the document's calls make of them. -/
namespace Go.Vx
set_option linter.unusedVariables false
/-- A slot: its box, its index. -/
abbrev Sl := Int × Int
/-- A capability. -/
structure Cp where
  kind : Int
  num : Int
  rights : Int
  badge : Int
  guard : Int
  gbits : Int
  root : Int
  va : Int
def Cp.df : Cp := ⟨0, 0, 0, 0, 0, 0, 0, 0⟩
/-- A slot with what is in it, and from where that comes. -/
structure En where
  at' : Sl
  cap : Cp
  from' : Sl
def En.df : En := ⟨(0, 0), .df, (0, 0)⟩
def slC (s : Sl) : List Value := [.int .i64 s.1, .int .i64 s.2]
def cpC (c : Cp) : List Value := [.int .i64 c.kind, .int .i64 c.num, .int .i64 c.rights, .int .u32 c.badge, .int .u32 c.guard, .int .i64 c.gbits, .int .i64 c.root, .int .u32 c.va]
def enC (e : En) : List Value := slC e.at' ++ cpC e.cap ++ slC e.from'
theorem enC_eq (e : En) : enC e = [.int .i64 e.at'.1, .int .i64 e.at'.2, .int .i64 e.cap.kind, .int .i64 e.cap.num, .int .i64 e.cap.rights, .int .u32 e.cap.badge, .int .u32 e.cap.guard, .int .i64 e.cap.gbits, .int .i64 e.cap.root, .int .u32 e.cap.va, .int .i64 e.from'.1, .int .i64 e.from'.2] := rfl
def slL : Lay Sl := ⟨slC, 2, fun _ => rfl, fun a u hu => by simp only [slC, List.mem_cons, List.not_mem_nil, or_false] at hu; rcases hu with rfl | rfl <;> rfl, by decide⟩
def enL : Lay En := ⟨enC, 12, fun _ => rfl, fun a u hu => by
  rw [enC_eq] at hu
  simp only [List.mem_cons, List.not_mem_nil, or_false] at hu
  rcases hu with rfl | rfl | rfl | rfl | rfl | rfl | rfl | rfl | rfl | rfl | rfl | rfl <;> rfl, by decide⟩
/-- A box: its number, its slots. -/
def bxL : Lay (Int × Int) := slL
def twoB (n : Int) : Bool := decide (n = 1 ∨ n = 2 ∨ n = 4 ∨ n = 8 ∨ n = 16 ∨ n = 32 ∨ n = 64)
def aheadB (a b : Sl) : Bool := decide (a.1 < b.1 ∨ (a.1 = b.1 ∧ a.2 < b.2))
/-- The first that is so, from k on. -/
def idxF {α : Type} (p : α → Bool) : List α → Nat → Option Nat
  | [], _ => none
  | a :: l, k => if p a then some k else idxF p l (k + 1)
def idI (o : Option Nat) : Int := match o with | some k => k | none => -1
theorem idxF_lt {α : Type} {p : α → Bool} : ∀ {l : List α} {k i : Nat}, idxF p l k = some i → k ≤ i ∧ i < k + l.length
  | [], k, i, h => by cases h
  | a :: l, k, i, h => by
    unfold idxF at h
    by_cases hp : p a = true
    · rw [if_pos hp] at h; injection h with h; subst h; simp
    · rw [if_neg hp] at h
      have := idxF_lt h
      simp only [List.length_cons]
      omega
theorem idxF_get {α : Type} {p : α → Bool} : ∀ {l : List α} {k i : Nat} (h : idxF p l k = some i), ∃ (hi : i - k < l.length), p (l[i - k]) = true
  | [], k, i, h => by cases h
  | a :: l, k, i, h => by
    unfold idxF at h
    by_cases hp : p a = true
    · rw [if_pos hp] at h; injection h with h; subst h; exact ⟨by simp, by simpa using hp⟩
    · rw [if_neg hp] at h
      have h1 := idxF_lt h
      obtain ⟨h2, h3⟩ := idxF_get h
      have e : i - k = (i - (k + 1)) + 1 := by omega
      refine ⟨by simp only [List.length_cons]; omega, ?_⟩
      have : (a :: l)[i - k]'(by simp only [List.length_cons]; omega) = l[i - (k + 1)] := by simp only [e, List.getElem_cons_succ]
      rw [this]; exact h3
theorem idxF_none {α : Type} {p : α → Bool} : ∀ {l : List α} {k : Nat}, idxF p l k = none → ∀ a ∈ l, p a = false
  | [], k, h, a, ha => by cases ha
  | b :: l, k, h, a, ha => by
    unfold idxF at h
    by_cases hp : p b = true
    · rw [if_pos hp] at h; cases h
    · rw [if_neg hp] at h
      rcases List.mem_cons.1 ha with rfl | ha
      · simpa using hp
      · exact idxF_none h a ha
/-- What is still to be looked at from k on. -/
theorem idxF_step {α : Type} {p : α → Bool} (l : List α) (k : Nat) (hk : k < l.length) : idxF p (l.drop k) k = if p l[k] then some k else idxF p (l.drop (k + 1)) (k + 1) := by
  rw [List.drop_eq_getElem_cons hk]
  rfl
theorem idxF_end {α : Type} {p : α → Bool} (l : List α) : idxF p (l.drop l.length) l.length = none := by
  rw [List.drop_length]; rfl
def boxF (bs : List (Int × Int)) (n : Int) : Option Nat := idxF (fun b => decide (b.1 = n)) bs 0
def entF (es : List En) (s : Sl) : Option Nat := idxF (fun e => decide (e.at' = s)) es 0
/-- A box's slots. -/
def sizeF (bs : List (Int × Int)) (n : Int) : Option Int := (boxF bs n).map fun i => (bs.getD i (0, 0)).2
/-- A slot called for as full: where it is, or the error. -/
def fullF (bs : List (Int × Int)) (es : List En) (s : Sl) : Except Int Nat :=
  match sizeF bs s.1 with
  | none => .error 9
  | some n => if s.2 < 0 ∨ n ≤ s.2 then .error 9 else match entF es s with
    | none => .error 11
    | some i => .ok i
def fullE (r : Except Int Nat) : Int := match r with | .ok _ => 0 | .error e => e
def fullI (r : Except Int Nat) : Int := match r with | .ok i => i | .error _ => 0
def freeF (bs : List (Int × Int)) (es : List En) (s : Sl) : Int := match fullF bs es s with | .ok _ => 10 | .error e => if e = 11 then 0 else e
end Go.Vx

import Derived.Test.YtbmchgjilkoplaaDoorCq1
import Derived.Deep.AppendLies
import Derived.Deep.DeepAppendRoom
import Derived.Laws.OwnMore
/- Rows of one's own, append onto them: for lists of any struct. -/
namespace Go.Vx
set_option linter.unusedVariables false
/-- append onto a row of one's own: it lies where it lay, or all that was stays as it was. -/
theorem run_append_keep {P : Program} (w : World) (t ty : TypeId) (base : Nat) (e : TypeId) (i : TypeInfo) (z : Value) (size bytes : Nat) (ht : P.underlying t = some (.slice e)) (hi : P.info? e = some i) (hz : i.zero = some z)
    (hsize : i.size = size) (hby : i.bytes = bytes) (hzs : z.cells.size = size) (hsz : 0 < size)
    (v : Value) (n : Nat) (xs : List Value) (hown : w.ownsRow base e size v n xs)
    (ad : Addr) (m c : Nat) (news : List Value) (hl : news.length = m * size) (hnews : ∀ j u, news[j]? = some u → w.cell? (ad.add j) = some u) (h1 : ∀ u ∈ news, u.oneCell' = true)
    (hm : 0 < m) (h63 : n + m ≤ maxLen) (hbytes : (n + m) * bytes ≤ 140737488355328) (hbase : base ≤ w.heap.size) :
    ∃ g cap w', (Builtin.append_ #[t, t] ty #[v, .slice (some ad) m c]).run P w = .ok (.slice (some ⟨g, 0, none⟩) (n + m) cap) w' ∧
      w'.ownsRow base e size (.slice (some ⟨g, 0, none⟩) (n + m) cap) (n + m) (xs ++ news) ∧ ((v.ownBlock = some g ∧ w.grownBy w' (some g)) ∨ (g = w.heap.size ∧ w.grownBy w' none)) ∧ g < w'.heap.size := by
  obtain ⟨g, cap, w', hr, h2, h3, h4, h5⟩ := run_append_lies (P := P) w t ty base e i z size bytes ht hi hz hsize hby hzs hsz v n xs hown ad m c news hl hnews h1 hm h63 hbytes hbase _ rfl
  rcases hown.2 with ⟨rfl, rfl⟩ | ⟨g0, cap0, cur, rfl, hb0, hg0, hnc, hcm, hcs, htake⟩
  · refine ⟨g, cap, w', hr, h2, Or.inr ⟨?_, h3⟩, h5⟩
    rcases h4 with h4 | h4
    · cases h4
    · exact h4
  · by_cases hroom : n + m ≤ cap0
    · obtain ⟨w1, hr1, k1, k2⟩ := run_append_own_spare (P := P) w base t ty e i size ht hi hsize g0 n cap0 xs hown ad m c news hl hnews h1 hroom
      exact ⟨g0, cap0, w1, hr1, k1, Or.inl ⟨rfl, k2⟩, (k1.lt g0 rfl).2⟩
    · subst hsize
      subst hby
      have hg := run_append_grow (P := P) w t ty e i z ht hi hz ⟨g0, 0, none⟩ n cap0 xs hown.1 (hown.cells (g := g0) rfl) ad m c news hl hnews (by omega) (by simp only [maxLen] at h63; omega) (growslice_fits (by omega) hbytes)
      rw [hr] at hg
      injection hg with hv hw
      injection hv with ha _ hc
      injection ha with ha
      injection ha with ha _ _
      refine ⟨g, cap, w', hr, h2, Or.inr ⟨ha, ?_⟩, h5⟩
      rw [hw]
      exact ⟨rfl, rfl, rfl, by simp, fun k hk _ => RowKit.Below.heap_alloc w.drew _ _ hk⟩
theorem wpList_append_keep {P : Program} (w : World) {ops : Array Oper} {rest : List Oper} {o : Oper} {a : Act} {Q : Exit → Act → World → Prop} (hgd : o.guard = none) (s x : Operand) (t : TypeId)
    (ho : o.op = .call { callee := .builtin .append, args := #[s, x], argTypes := #[t, t] })
    (base : Nat) (e : TypeId) (i : TypeInfo) (z : Value) (size bytes : Nat) (ht : P.underlying t = some (.slice e)) (hi : P.info? e = some i) (hz : i.zero = some z)
    (hsize : i.size = size) (hby : i.bytes = bytes) (hzs : z.cells.size = size) (hsz : 0 < size)
    (v : Value) (n : Nat) (xs : List Value) (hs : a.eval s = v) (hown : w.ownsRow base e size v n xs)
    (ad : Addr) (m c : Nat) (news : List Value) (hx : a.eval x = .slice (some ad) m c) (hl : news.length = m * size) (hnews : ∀ j u, news[j]? = some u → w.cell? (ad.add j) = some u) (h1 : ∀ u ∈ news, u.oneCell' = true)
    (hm : 0 < m) (h63 : n + m ≤ maxLen) (hbytes : (n + m) * bytes ≤ 140737488355328) (hbase : base ≤ w.heap.size)
    (h : ∀ g cap w', w'.ownsRow base e size (.slice (some ⟨g, 0, none⟩) (n + m) cap) (n + m) (xs ++ news) → ((v.ownBlock = some g ∧ w.grownBy w' (some g)) ∨ (g = w.heap.size ∧ w.grownBy w' none)) → g < w'.heap.size → wpList P ops Q rest (a.put o.dst (.slice (some ⟨g, 0, none⟩) (n + m) cap)) w') : wpList P ops Q (o :: rest) a w := by
  refine wpList_plain hgd fun K hK => ?_
  obtain ⟨g, cap, w', hr, h2, h3, h4⟩ := run_append_keep (P := P) w t o.type base e i z size bytes ht hi hz hsize hby hzs hsz v n xs hown ad m c news hl hnews h1 hm h63 hbytes hbase
  unfold Oper.wp execOp
  simp only [ho, resolve, invoke, builtin, Sem.run_bind, Sem.run_pure, Result.andThen_ok, List.map_toArray, List.map_cons, List.map_nil, hs, hx, hr]
  exact hK _ _ (h g cap w' h2 h3 h4)
theorem Only.grown {S : Nat → Prop} {w0 w w' : World} {row : Option Nat} (h : Only S w0 w) (hg : w.grownBy w' row) (hr : ∀ k, row = some k → S k ∨ w0.heap.size ≤ k) : Only S w0 w' :=
  ⟨hg.os.trans h.os, hg.tape.trans h.tape, hg.output.trans h.output, Nat.le_trans h.size hg.size, fun k hk hn => (hg.block k (Nat.lt_of_lt_of_le hk h.size) (fun e => by
    rcases hr k e.symm with h1 | h1
    · exact hn h1
    · omega)).trans (h.block k hk hn)⟩
theorem Only.both {w w' : World} (h : Only (fun _ => False) w w') : w.grownBy w' none := ⟨h.os, h.tape, h.output, h.size, fun k hk _ => h.block k hk (fun h => h)⟩
/-- How things of a kind lie in cells. -/
structure Lay (α : Type) where
  cf : α → List Value
  sz : Nat
  len : ∀ a, (cf a).length = sz
  one : ∀ a, ∀ u ∈ cf a, u.oneCell' = true
  pos : 0 < sz
variable {α : Type}
def fl (L : Lay α) (xs : List α) : List Value := xs.flatMap L.cf
theorem fl_cons (L : Lay α) (a : α) (xs : List α) : fl L (a :: xs) = L.cf a ++ fl L xs := by simp [fl]
theorem fl_app (L : Lay α) (xs ys : List α) : fl L (xs ++ ys) = fl L xs ++ fl L ys := by simp [fl]
theorem fl_one (L : Lay α) (a : α) : fl L [a] = L.cf a := by simp [fl]
theorem length_fl (L : Lay α) (xs : List α) : (fl L xs).length = xs.length * L.sz := by
  induction xs with
  | nil => simp [fl]
  | cons a xs ih => rw [fl_cons, List.length_append, ih, L.len, List.length_cons, Nat.add_mul]; omega
theorem get_fl (L : Lay α) (xs : List α) (k j : Nat) (hk : k < xs.length) (hj : j < L.sz) : (fl L xs)[k * L.sz + j]? = (L.cf xs[k])[j]? := by
  induction xs generalizing k with
  | nil => simp at hk
  | cons a xs ih =>
    rw [fl_cons]
    cases k with
    | zero =>
      rw [List.getElem?_append_left (by rw [L.len]; omega)]
      simp
    | succ k =>
      have e : (k + 1) * L.sz + j - (L.cf a).length = k * L.sz + j := by rw [L.len, Nat.add_mul]; omega
      rw [List.getElem?_append_right (by rw [L.len, Nat.add_mul]; omega), e, ih k (by simpa using hk)]
      rfl
theorem one_fl (L : Lay α) (xs : List α) : ∀ u ∈ fl L xs, u.oneCell' = true := by
  intro u hu
  simp only [fl, List.mem_flatMap] at hu
  obtain ⟨a, _, ha⟩ := hu
  exact L.one a u ha
/-- Some cells of a row put anew: one thing's. -/
theorem fl_set (L : Lay α) (xs : List α) (k : Nat) (y : α) (hk : k < xs.length) (zs : List Value) (hz : zs.length = (fl L xs).length) (hin : ∀ j, j < L.sz → zs[k * L.sz + j]? = (L.cf y)[j]?) (hout : ∀ i, (i < k * L.sz ∨ k * L.sz + L.sz ≤ i) → zs[i]? = (fl L xs)[i]?) : zs = fl L (xs.set k y) := by
  apply List.ext_getElem?
  intro i
  have hp := L.pos
  by_cases hi : i < xs.length * L.sz
  · have hd : i / L.sz < xs.length := (Nat.div_lt_iff_lt_mul hp).2 hi
    have hm : i % L.sz < L.sz := Nat.mod_lt _ hp
    have ei : i / L.sz * L.sz + i % L.sz = i := by rw [Nat.mul_comm]; exact Nat.div_add_mod i L.sz
    have h2 := get_fl L (xs.set k y) (i / L.sz) (i % L.sz) (by simpa using hd) hm
    rw [ei] at h2
    rw [h2]
    by_cases hq : i / L.sz = k
    · have hg : (xs.set k y)[i / L.sz]'(by simpa using hd) = y := by simp [hq]
      have h3 := hin (i % L.sz) hm
      rw [← hq, ei] at h3
      rw [hg, h3]
    · have hg : (xs.set k y)[i / L.sz]'(by simpa using hd) = xs[i / L.sz] := by rw [List.getElem_set, if_neg (fun e => hq e.symm)]
      have h1 := get_fl L xs (i / L.sz) (i % L.sz) hd hm
      rw [ei] at h1
      rw [hg, ← h1]
      refine hout i ?_
      by_cases hc : i < k * L.sz
      · exact Or.inl hc
      · right
        have hk2 : k ≤ i / L.sz := (Nat.le_div_iff_mul_le hp).2 (by omega)
        have hk3 : k + 1 ≤ i / L.sz := by omega
        have := (Nat.le_div_iff_mul_le hp).1 hk3
        rw [Nat.add_mul] at this
        omega
  · rw [List.getElem?_eq_none (by rw [hz, length_fl]; omega), List.getElem?_eq_none (by rw [length_fl, List.length_set]; omega)]
/-- A list that is one's own. -/
def OwnL (L : Lay α) (w : World) (base : Nat) (e : TypeId) (v : Value) (xs : List α) : Prop := w.ownsRow base e L.sz v xs.length (fl L xs)
theorem OwnL.kept {L : Lay α} {S : Nat → Prop} {w w' : World} {base : Nat} {e : TypeId} {v : Value} {xs : List α} (h : OwnL L w base e v xs) (ho : Only S w w') (hS : ∀ k, v.ownBlock = some k → ¬ S k) : OwnL L w' base e v xs := by
  refine ⟨h.1, h.2.imp (fun h => h) (fun ⟨g, cap, cur, a, b, c, d⟩ => ⟨g, cap, cur, a, b, ?_, d⟩)⟩
  rw [ho.block g (lt_of_some c) (hS g (by rw [a]; rfl))]
  exact c
theorem OwnL.nil (L : Lay α) (w : World) (base : Nat) (e : TypeId) : OwnL L w base e (.slice none 0 0) [] := World.ownsRow_nil _ _ _ _
theorem OwnL.form {L : Lay α} {w : World} {base : Nat} {e : TypeId} {v : Value} {xs : List α} (h : OwnL L w base e v xs) : ∃ p c, v = .slice p xs.length c ∧ xs.length ≤ c ∧ c ≤ maxLen ∧ (0 < xs.length → ∃ g, p = some ⟨g, 0, none⟩ ∧ base ≤ g ∧ g < w.heap.size ∧ v.ownBlock = some g) := by
  rcases h.2 with ⟨hv, h0⟩ | ⟨g, cap, cur, hv, hb, hg, hnc, hcm, _⟩
  · exact ⟨none, 0, by rw [hv, h0], by omega, by decide, fun h => by omega⟩
  · exact ⟨_, cap, hv, hnc, hcm, fun _ => ⟨g, rfl, hb, lt_of_some hg, by rw [hv]; rfl⟩⟩
theorem OwnL.cell {L : Lay α} {w : World} {base g n c : Nat} {e : TypeId} {xs : List α} (h : OwnL L w base e (.slice (some ⟨g, 0, none⟩) n c) xs) (k j : Nat) (hk : k < xs.length) (hj : j < L.sz) : w.cell? ⟨g, k * L.sz + j, none⟩ = (L.cf xs[k])[j]? := by
  have hn : n = xs.length := by
    rcases h.2 with ⟨hv, h0⟩ | ⟨g', cap, cur, hv, _⟩
    · simp at hv
    · simp at hv; exact hv.2.1
  subst hn
  have hlt : k * L.sz + j < xs.length * L.sz := by
    have : (k + 1) * L.sz ≤ xs.length * L.sz := Nat.mul_le_mul_right _ hk
    rw [Nat.add_mul] at this
    omega
  rw [World.ownsRow.cellAt h (k * L.sz + j) hlt, get_fl L xs k j hk hj]
theorem OwnL.fz {L : Lay α} {w : World} {base g n c : Nat} {e : TypeId} {xs : List α} (h : OwnL L w base e (.slice (some ⟨g, 0, none⟩) n c) xs) (j : Nat) : w.frozen? ⟨g, j, none⟩ = false := by
  have hn : n = xs.length := by
    rcases h.2 with ⟨hv, h0⟩ | ⟨g', cap, cur, hv, _⟩
    · simp at hv
    · simp at hv; exact hv.2.1
  subst hn
  exact World.ownsRow.frozenAt h j
end Go.Vx

/- append onto lists of one's own, of any kind: one thing, many, none. -/
namespace Go.Vx
set_option linter.unusedVariables false
variable {α : Type}
/-- What a kind is to the program: its slice's type, its own, its nought, its size. -/
structure Kind (P : Program) (L : Lay α) (t e : TypeId) : Prop where
  ht : P.underlying t = some (.slice e)
  hi : ∃ (i : TypeInfo) (z : Value), P.info? e = some i ∧ i.zero = some z ∧ i.size = L.sz ∧ i.bytes ≤ 1000 ∧ z.cells.size = L.sz
theorem run_append_none {P : Program} {L : Lay α} {t e : TypeId} (hk : Kind P L t e) (w : World) (ty : TypeId) (p : Option Addr) (n cap : Nat) (h : n ≤ cap) (q : Option Addr) (c : Nat) : (Builtin.append_ #[t, t] ty #[.slice p n cap, .slice q 0 c]).run P w = .ok (.slice p n cap) w := by
  obtain ⟨i, z, hi, hz, hs, hb, hzs⟩ := hk.hi
  have hf : (Builtin.firstCells L.sz 0 (.slice q 0 c)).run P w = .ok #[] w := by
    cases q with
    | none => simp [Builtin.firstCells]
    | some a => simp [Builtin.firstCells, loadCells, loadCellsFrom]
  have hf2 : (Builtin.firstCells i.size 0 (.slice q 0 c)).run P w = .ok #[] w := by rw [hs]; exact hf
  cases p with
  | none => simp [Builtin.append_, run_underlying hk.ht, sizeOf, typeInfo, hi, Builtin.lenOf, h, hf2]
  | some a => simp [Builtin.append_, run_underlying hk.ht, sizeOf, typeInfo, hi, Builtin.lenOf, h, hf2, storeCells]
/-- append of many: where it lies, what is kept. -/
theorem run_append_many {P : Program} {L : Lay α} {t e : TypeId} (hk : Kind P L t e) (w : World) (ty : TypeId) (base : Nat) (v : Value) (xs : List α) (hown : OwnL L w base e v xs) (q : Option Addr) (c : Nat) (ys : List α)
    (hq : 0 < ys.length → ∃ ad, q = some ad ∧ ∀ j u, (fl L ys)[j]? = some u → w.cell? (ad.add j) = some u) (hlen : xs.length + ys.length ≤ 10000000) (hbase : base ≤ w.heap.size) :
    ∃ v' w', (Builtin.append_ #[t, t] ty #[v, .slice q ys.length c]).run P w = .ok v' w' ∧ OwnL L w' base e v' (xs ++ ys) ∧ Only (fun k => v.ownBlock = some k) w w' ∧ (v'.ownBlock = v.ownBlock ∨ ∃ g, v'.ownBlock = some g ∧ w.heap.size ≤ g ∧ Only (fun _ => False) w w') := by
  by_cases h0 : ys.length = 0
  · have hy : ys = [] := List.length_eq_zero_iff.1 h0
    subst hy
    obtain ⟨p, cap, rfl, hnc, _, _⟩ := hown.form
    refine ⟨_, w, run_append_none hk w ty p xs.length cap hnc q c, by rw [List.append_nil]; exact hown, Only.refl _ w, Or.inl rfl⟩
  · obtain ⟨ad, rfl, had⟩ := hq (by omega)
    obtain ⟨i, z, hi, hz, hs, hb, hzs⟩ := hk.hi
    have hbytes : (xs.length + ys.length) * i.bytes ≤ 140737488355328 := Nat.le_trans (Nat.mul_le_mul hlen hb) (by decide)
    obtain ⟨g, cap, w', hr, h2, h3, h4⟩ := run_append_keep (P := P) w t ty base e i z L.sz i.bytes hk.ht hi hz hs rfl hzs L.pos v xs.length (fl L xs) hown ad ys.length c (fl L ys) (length_fl L ys) had (one_fl L ys) (by omega) (by unfold maxLen; omega) hbytes hbase
    refine ⟨_, w', hr, ?_, ?_, ?_⟩
    · show w'.ownsRow _ _ _ _ (xs ++ ys).length _
      rw [fl_app, List.length_append]
      exact h2
    · rcases h3 with ⟨h3, h5⟩ | ⟨h3, h5⟩
      · exact Only.grown (Only.refl _ w) h5 (fun k hk => Or.inl (by rw [h3, hk]))
      · exact Only.grown (Only.refl _ w) h5 (fun k hk => by cases hk)
    · rcases h3 with ⟨h3, h5⟩ | ⟨h3, h5⟩
      · exact Or.inl h3.symm
      · exact Or.inr ⟨g, rfl, by omega, Only.grown (Only.refl _ w) h5 (fun k hk => by cases hk)⟩
theorem wpList_append_many {P : Program} {L : Lay α} {t e : TypeId} (hk : Kind P L t e) (w : World) {ops : Array Oper} {rest : List Oper} {o : Oper} {a : Act} {Q : Exit → Act → World → Prop} (hgd : o.guard = none) (s x : Operand)
    (ho : o.op = .call { callee := .builtin .append, args := #[s, x], argTypes := #[t, t] }) (base : Nat) (v : Value) (xs : List α) (hs : a.eval s = v) (hown : OwnL L w base e v xs) (q : Option Addr) (c n : Nat) (ys : List α) (hx : a.eval x = .slice q n c) (hn : n = ys.length)
    (hq : 0 < ys.length → ∃ ad, q = some ad ∧ ∀ j u, (fl L ys)[j]? = some u → w.cell? (ad.add j) = some u) (hlen : xs.length + ys.length ≤ 10000000) (hbase : base ≤ w.heap.size)
    (h : ∀ v' w', OwnL L w' base e v' (xs ++ ys) → Only (fun k => v.ownBlock = some k) w w' → (v'.ownBlock = v.ownBlock ∨ ∃ g, v'.ownBlock = some g ∧ w.heap.size ≤ g ∧ Only (fun _ => False) w w') → wpList P ops Q rest (a.put o.dst v') w') : wpList P ops Q (o :: rest) a w := by
  subst hn
  refine wpList_plain hgd fun K hK => ?_
  obtain ⟨v', w', hr, h2, h3, h4⟩ := run_append_many hk w o.type base v xs hown q c ys hq hlen hbase
  unfold Oper.wp execOp
  simp only [ho, resolve, invoke, builtin, Sem.run_bind, Sem.run_pure, Result.andThen_ok, List.map_toArray, List.map_cons, List.map_nil, hs, hx, hr]
  exact hK _ _ (h v' w' h2 h3 h4)
/-- append of one thing that was laid into a block of its own. -/
theorem wpList_append_one {P : Program} {L : Lay α} {t e : TypeId} (hk : Kind P L t e) (w : World) {ops : Array Oper} {rest : List Oper} {o : Oper} {a : Act} {Q : Exit → Act → World → Prop} (hgd : o.guard = none) (s x : Operand)
    (ho : o.op = .call { callee := .builtin .append, args := #[s, x], argTypes := #[t, t] }) (base : Nat) (v : Value) (xs : List α) (hs : a.eval s = v) (hown : OwnL L w base e v xs) (y : α) (e' : TypeId) (ya : Array Value) (hya : ya = (L.cf y).toArray) {b : Nat} (hb : b = w.heap.size) (hx : a.eval x = .slice (some ⟨b, 0, none⟩) 1 1) (hlen : xs.length + 1 ≤ 10000000) (hbase : base ≤ w.heap.size)
    (h : ∀ v' w', OwnL L w' base e v' (xs ++ [y]) → Only (fun k => v.ownBlock = some k) w w' → (v'.ownBlock = v.ownBlock ∨ ∃ g, v'.ownBlock = some g ∧ w.heap.size ≤ g ∧ Only (fun _ => False) w w') → wpList P ops Q rest (a.put o.dst v') w') : wpList P ops Q (o :: rest) a (w.alloc (.cells ya e')) := by
  subst hb
  have ha : Only (fun _ => False) w (w.alloc (.cells ya e')) := (Only.refl _ w).alloc _
  refine wpList_append_many hk _ hgd s x ho base v xs hs (hown.kept ha (fun _ _ h => h)) (some ⟨w.heap.size, 0, none⟩) 1 1 [y] hx rfl (fun _ => ⟨_, rfl, fun j u hj => ?_⟩) hlen (Nat.le_trans hbase ha.size) (fun v' w' h1 h2 h3 => ?_)
  · rw [fl_one] at hj
    rw [addr_add, Nat.zero_add, cell_of_row _ _ j _ _ (0, 0) (heap_alloc_last w _), hya]
    simpa using hj
  · refine h v' w' h1 ((ha.mono (fun _ _ h => h.elim)).trans h2) ?_
    rcases h3 with h3 | ⟨g, h3, h4, h5⟩
    · exact Or.inl h3
    · exact Or.inr ⟨g, h3, Nat.le_trans ha.size h4, ha.trans h5⟩
theorem get_part (L : Lay α) (xs : List α) (a : Nat) (j : Nat) : (fl L (xs.drop a))[j]? = (fl L xs)[a * L.sz + j]? := by
  have e : fl L xs = fl L (xs.take a) ++ fl L (xs.drop a) := by rw [← fl_app, List.take_append_drop]
  by_cases ha : a ≤ xs.length
  · have hl : (fl L (xs.take a)).length = a * L.sz := by rw [length_fl, List.length_take, Nat.min_eq_left ha]
    rw [e, List.getElem?_append_right (by omega), hl]
    congr 1
    omega
  · have h1 : (fl L (xs.drop a)).length = 0 := by rw [length_fl, List.length_drop, show xs.length - a = 0 by omega, Nat.zero_mul]
    have h2 : (fl L xs).length ≤ a * L.sz + j := by
      rw [length_fl]
      have : xs.length * L.sz ≤ a * L.sz := Nat.mul_le_mul_right _ (by omega)
      omega
    rw [List.getElem?_eq_none (by omega), List.getElem?_eq_none h2]
/-- A part of a list of one's own, as it lies. -/
theorem OwnL.part {L : Lay α} {w : World} {base g n c : Nat} {e : TypeId} {xs : List α} (h : OwnL L w base e (.slice (some ⟨g, 0, none⟩) n c) xs) (a m : Nat) (j : Nat) (u : Value) (hj : (fl L ((xs.drop a).take m))[j]? = some u) : w.cell? ((⟨g, a * L.sz, none⟩ : Addr).add j) = some u := by
  have hn : n = xs.length := by
    rcases h.2 with ⟨hv, h0⟩ | ⟨g', cap, cur, hv, _⟩
    · simp at hv
    · simp at hv; exact hv.2.1
  subst hn
  have hj2 : (fl L (xs.drop a))[j]? = some u := by
    have e : fl L (xs.drop a) = fl L ((xs.drop a).take m) ++ fl L ((xs.drop a).drop m) := by rw [← fl_app, List.take_append_drop]
    rw [e, List.getElem?_append_left (List.getElem?_eq_some_iff.1 hj).1]
    exact hj
  rw [get_part] at hj2
  have hlt : a * L.sz + j < xs.length * L.sz := by
    have := (List.getElem?_eq_some_iff.1 hj2).1
    rw [length_fl] at this
    exact this
  rw [addr_add, World.ownsRow.cellAt h _ hlt]
  exact hj2
/-- What changes new blocks alone. -/
theorem Only.beyond {S : Nat → Prop} {a b c : World} (h : Only (fun _ => False) a b) (h2 : Only S b c) (hS : ∀ k, S k → a.heap.size ≤ k) : Only (fun _ => False) a c :=
  ⟨h2.os.trans h.os, h2.tape.trans h.tape, h2.output.trans h.output, Nat.le_trans h.size h2.size, fun k hk _ => (h2.block k (Nat.lt_of_lt_of_le hk h.size) (fun e => by have := hS k e; omega)).trans (h.block k hk (fun h => h))⟩
theorem Only.newer {S : Nat → Prop} {a b c : World} {z : Nat} (h : Only S a b) (h2 : Only (fun k => k = z) b c) (hz : a.heap.size ≤ z) : Only S a c :=
  ⟨h2.os.trans h.os, h2.tape.trans h.tape, h2.output.trans h.output, Nat.le_trans h.size h2.size, fun k hk hn => (h2.block k (Nat.lt_of_lt_of_le hk h.size) (fun e => by omega)).trans (h.block k hk hn)⟩
theorem only_set12 (w : World) (g : Nat) (a0 a1 a2 a3 a4 a5 a6 a7 a8 a9 a10 a11 : Value) : Only (fun k => k = g) w ((((((((((((w.setCell ⟨g, 0, none⟩ a0).setCell ⟨g, 1, none⟩ a1).setCell ⟨g, 2, none⟩ a2).setCell ⟨g, 3, none⟩ a3).setCell ⟨g, 4, none⟩ a4).setCell ⟨g, 5, none⟩ a5).setCell ⟨g, 6, none⟩ a6).setCell ⟨g, 7, none⟩ a7).setCell ⟨g, 8, none⟩ a8).setCell ⟨g, 9, none⟩ a9).setCell ⟨g, 10, none⟩ a10).setCell ⟨g, 11, none⟩ a11) :=
  ((((((((((((Only.refl (fun k => k = g) w).setCell (p := ⟨g, 0, none⟩) (Or.inl rfl) a0).setCell (p := ⟨g, 1, none⟩) (Or.inl rfl) a1).setCell (p := ⟨g, 2, none⟩) (Or.inl rfl) a2).setCell (p := ⟨g, 3, none⟩) (Or.inl rfl) a3).setCell (p := ⟨g, 4, none⟩) (Or.inl rfl) a4).setCell (p := ⟨g, 5, none⟩) (Or.inl rfl) a5).setCell (p := ⟨g, 6, none⟩) (Or.inl rfl) a6).setCell (p := ⟨g, 7, none⟩) (Or.inl rfl) a7).setCell (p := ⟨g, 8, none⟩) (Or.inl rfl) a8).setCell (p := ⟨g, 9, none⟩) (Or.inl rfl) a9).setCell (p := ⟨g, 10, none⟩) (Or.inl rfl) a10).setCell (p := ⟨g, 11, none⟩) (Or.inl rfl) a11
end Go.Vx

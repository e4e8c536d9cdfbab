/- Lists of mappings: pure facts; append, and where the new slice lies. -/
import Derived.Test.YtflmobffeeocdaaGreatDoorK3
import Derived.Deep.AppendLies
import Derived.Deep.DeepAppendRoom
import Derived.Laws.OwnMore
namespace Go.Vx
/-- append onto a row of one's own: it lies where it lay, or all that was stays as it was. -/
theorem run_append_keep {P : Program} (w : World) (t ty : TypeId) (base : Nat) (e : TypeId) (i : TypeInfo) (z : Value) (size bytes : Nat) (ht : P.underlying t = some (.slice e)) (hi : P.info? e = some i) (hz : i.zero = some z)
    (hsize : i.size = size) (hby : i.bytes = bytes) (hzs : z.cells.size = size) (hsz : 0 < size)
    (v : Value) (n : Nat) (xs : List Value) (hown : w.ownsRow base e size v n xs)
    (ad : Addr) (m c : Nat) (news : List Value) (hl : news.length = m * size) (hnews : ∀ j u, news[j]? = some u → w.cell? (ad.add j) = some u) (h1 : ∀ u ∈ news, u.oneCell' = true)
    (hm : 0 < m) (h63 : n + m ≤ maxLen) (hbytes : (n + m) * bytes ≤ 140737488355328) (hbase : base ≤ w.heap.size) :
    ∃ g cap w', (Builtin.append_ #[t, t] ty #[v, .slice (some ad) m c]).run P w = .ok (.slice (some ⟨g, 0, none⟩) (n + m) cap) w' ∧
      w'.ownsRow base e size (.slice (some ⟨g, 0, none⟩) (n + m) cap) (n + m) (xs ++ news) ∧ ((v.ownBlock = some g ∧ w.grownBy w' (some g)) ∨ (g = w.heap.size ∧ w.grownBy w' none)) ∧ g < w'.heap.size := by
  obtain ⟨g, cap, w', hr, h2, h3, h4, h5⟩ := run_append_lies (P := P) w t ty base e i z size bytes ht hi hz hsize hby hzs hsz v n xs hown ad m c news hl hnews h1 hm h63 hbytes hbase _ rfl
  rcases hown.2 with ⟨rfl, rfl⟩ | ⟨g0, cap0, cur, rfl, hb0, hg0, hnc, hcm, hcs, htake⟩
  · refine ⟨g, cap, w', hr, h2, Or.inr ⟨?_, h3⟩, h5⟩
    rcases h4 with h4 | h4
    · cases h4
    · exact h4
  · by_cases hroom : n + m ≤ cap0
    · obtain ⟨w1, hr1, k1, k2⟩ := run_append_own_spare (P := P) w base t ty e i size ht hi hsize g0 n cap0 xs hown ad m c news hl hnews h1 hroom
      exact ⟨g0, cap0, w1, hr1, k1, Or.inl ⟨rfl, k2⟩, (k1.lt g0 rfl).2⟩
    · subst hsize
      subst hby
      have hg := run_append_grow (P := P) w t ty e i z ht hi hz ⟨g0, 0, none⟩ n cap0 xs hown.1 (hown.cells (g := g0) rfl) ad m c news hl hnews (by omega) (by simp only [maxLen] at h63; omega) (growslice_fits (by omega) hbytes)
      rw [hr] at hg
      injection hg with hv hw
      injection hv with ha _ hc
      injection ha with ha
      injection ha with ha _ _
      refine ⟨g, cap, w', hr, h2, Or.inr ⟨ha, ?_⟩, h5⟩
      rw [hw]
      exact ⟨rfl, rfl, rfl, by simp, fun k hk _ => RowKit.Below.heap_alloc w.drew _ _ hk⟩
theorem wpList_append_keep {P : Program} (w : World) {ops : Array Oper} {rest : List Oper} {o : Oper} {a : Act} {Q : Exit → Act → World → Prop} (hgd : o.guard = none) (s x : Operand) (t : TypeId)
    (ho : o.op = .call { callee := .builtin .append, args := #[s, x], argTypes := #[t, t] })
    (base : Nat) (e : TypeId) (i : TypeInfo) (z : Value) (size bytes : Nat) (ht : P.underlying t = some (.slice e)) (hi : P.info? e = some i) (hz : i.zero = some z)
    (hsize : i.size = size) (hby : i.bytes = bytes) (hzs : z.cells.size = size) (hsz : 0 < size)
    (v : Value) (n : Nat) (xs : List Value) (hs : a.eval s = v) (hown : w.ownsRow base e size v n xs)
    (ad : Addr) (m c : Nat) (news : List Value) (hx : a.eval x = .slice (some ad) m c) (hl : news.length = m * size) (hnews : ∀ j u, news[j]? = some u → w.cell? (ad.add j) = some u) (h1 : ∀ u ∈ news, u.oneCell' = true)
    (hm : 0 < m) (h63 : n + m ≤ maxLen) (hbytes : (n + m) * bytes ≤ 140737488355328) (hbase : base ≤ w.heap.size)
    (h : ∀ g cap w', w'.ownsRow base e size (.slice (some ⟨g, 0, none⟩) (n + m) cap) (n + m) (xs ++ news) → ((v.ownBlock = some g ∧ w.grownBy w' (some g)) ∨ (g = w.heap.size ∧ w.grownBy w' none)) → g < w'.heap.size → wpList P ops Q rest (a.put o.dst (.slice (some ⟨g, 0, none⟩) (n + m) cap)) w') : wpList P ops Q (o :: rest) a w := by
  refine wpList_plain hgd fun K hK => ?_
  obtain ⟨g, cap, w', hr, h2, h3, h4⟩ := run_append_keep (P := P) w t o.type base e i z size bytes ht hi hz hsize hby hzs hsz v n xs hown ad m c news hl hnews h1 hm h63 hbytes hbase
  unfold Oper.wp execOp
  simp only [ho, resolve, invoke, builtin, Sem.run_bind, Sem.run_pure, Result.andThen_ok, List.map_toArray, List.map_cons, List.map_nil, hs, hx, hr]
  exact hK _ _ (h g cap w' h2 h3 h4)
/-- A mapping's cells. -/
def cells3 (m : Int × Int × Int) : List Value := [.int .u32 m.1, .int .i64 m.2.1, .int .i64 m.2.2]
def flat (ms : List (Int × Int × Int)) : List Value := ms.flatMap cells3
theorem flat_app (a b : List (Int × Int × Int)) : flat (a ++ b) = flat a ++ flat b := by simp [flat]
theorem flat_one (m : Int × Int × Int) : flat [m] = cells3 m := by simp [flat]
theorem length_flat (ms : List (Int × Int × Int)) : (flat ms).length = ms.length * 3 := by
  induction ms with
  | nil => rfl
  | cons m ms ih =>
    have : flat (m :: ms) = cells3 m ++ flat ms := by simp [flat]
    rw [this, List.length_append, ih, List.length_cons, show (cells3 m).length = 3 from rfl]
    omega
theorem get_flat (ms : List (Int × Int × Int)) (k j : Nat) (hk : k < ms.length) (hj : j < 3) : (flat ms)[k * 3 + j]? = (cells3 ms[k])[j]? := by
  induction ms generalizing k with
  | nil => simp at hk
  | cons m ms ih =>
    have e : flat (m :: ms) = cells3 m ++ flat ms := by simp [flat]
    rw [e]
    cases k with
    | zero =>
      rw [List.getElem?_append_left (by show 0 * 3 + j < 3; omega)]
      simp
    | succ k =>
      rw [List.getElem?_append_right (by show 3 ≤ _; omega), show (k + 1) * 3 + j - (cells3 m).length = k * 3 + j from by show (k + 1) * 3 + j - 3 = _; omega, ih k (by simpa using hk)]
      rfl
theorem oneCell_flat (ms : List (Int × Int × Int)) : ∀ u ∈ flat ms, u.oneCell' = true := by
  intro u hu
  simp only [flat, List.mem_flatMap] at hu
  obtain ⟨m, _, hm⟩ := hu
  simp only [cells3, List.mem_cons, List.not_mem_nil, or_false] at hm
  rcases hm with rfl | rfl | rfl <;> rfl
/-- The tables of a root, of the first k places. -/
def tabsF (f : Nat → UInt8) (n root k : Nat) : List (Int × Int × Int) := (List.range k).filterMap fun i => (tabF f n root (4194304 * i)).map fun p => (((4194304 * i : Nat) : Int), ((p : Nat) : Int), (0 : Int))
theorem tabsF_succ (f : Nat → UInt8) (n root k : Nat) : tabsF f n root (k + 1) = tabsF f n root k ++ (match tabF f n root (4194304 * k) with | some p => [(((4194304 * k : Nat) : Int), ((p : Nat) : Int), (0 : Int))] | none => []) := by
  unfold tabsF
  rw [List.range_succ, List.filterMap_append]
  congr 1
  simp only [List.filterMap_cons, List.filterMap_nil]
  cases tabF f n root (4194304 * k) <;> rfl
theorem tabsF_len (f : Nat → UInt8) (n root k : Nat) : (tabsF f n root k).length ≤ k := by
  unfold tabsF
  exact Nat.le_trans (List.length_filterMap_le _ _) (by simp)
theorem tabsF_mem {f : Nat → UInt8} {n root k : Nat} {t : Int × Int × Int} (h : t ∈ tabsF f n root k) : ∃ i p : Nat, i < k ∧ p < n ∧ t = (((4194304 * i : Nat) : Int), ((p : Nat) : Int), (0 : Int)) := by
  unfold tabsF at h
  simp only [List.mem_filterMap, List.mem_range, Option.map_eq_some_iff] at h
  obtain ⟨i, hi, p, hp, rfl⟩ := h
  exact ⟨i, p, hi, tabF_lt hp, rfl⟩
/-- The frames of a table, of the first k places. -/
def frmsF (f : Nat → UInt8) (a p k : Nat) : List (Int × Int × Int) := (List.range k).filterMap fun i => if wordF f (4096 * p + i * 4) % 2 = 1 then some (((4194304 * a + 4096 * i : Nat) : Int), ((wordF f (4096 * p + i * 4) / 1024 : Nat) : Int), ((wordF f (4096 * p + i * 4) / 2 % 8 : Nat) : Int)) else none
theorem frmsF_succ (f : Nat → UInt8) (a p k : Nat) : frmsF f a p (k + 1) = frmsF f a p k ++ (if wordF f (4096 * p + k * 4) % 2 = 1 then [(((4194304 * a + 4096 * k : Nat) : Int), ((wordF f (4096 * p + k * 4) / 1024 : Nat) : Int), ((wordF f (4096 * p + k * 4) / 2 % 8 : Nat) : Int))] else []) := by
  unfold frmsF
  rw [List.range_succ, List.filterMap_append]
  congr 1
  simp only [List.filterMap_cons, List.filterMap_nil]
  by_cases h : wordF f (4096 * p + k * 4) % 2 = 1
  · rw [if_pos h, if_pos h]
  · rw [if_neg h, if_neg h]
theorem frmsF_len (f : Nat → UInt8) (a p k : Nat) : (frmsF f a p k).length ≤ k := by
  unfold frmsF
  exact Nat.le_trans (List.length_filterMap_le _ _) (by simp)
/-- The frames of some tables. -/
def mapsF (f : Nat → UInt8) (ts : List (Int × Int × Int)) : List (Int × Int × Int) := ts.flatMap fun t => frmsF f (t.1.toNat / 4194304) t.2.1.toNat 1024
theorem mapsF_app (f : Nat → UInt8) (a b : List (Int × Int × Int)) : mapsF f (a ++ b) = mapsF f a ++ mapsF f b := by simp [mapsF]
theorem mapsF_one (f : Nat → UInt8) (t : Int × Int × Int) : mapsF f [t] = frmsF f (t.1.toNat / 4194304) t.2.1.toNat 1024 := by
  unfold mapsF
  rw [List.flatMap_cons, List.flatMap_nil, List.append_nil]
theorem mapsF_len (f : Nat → UInt8) (ts : List (Int × Int × Int)) : (mapsF f ts).length ≤ ts.length * 1024 := by
  induction ts with
  | nil => simp [mapsF]
  | cons t ts ih =>
    have e : mapsF f (t :: ts) = frmsF f (t.1.toNat / 4194304) t.2.1.toNat 1024 ++ mapsF f ts := by simp [mapsF]
    have := frmsF_len f (t.1.toNat / 4194304) t.2.1.toNat 1024
    rw [e, List.length_append, List.length_cons]
    omega
theorem mapsF_take (f : Nat → UInt8) (ts : List (Int × Int × Int)) (j : Nat) (hj : j < ts.length) : mapsF f (ts.take (j + 1)) = mapsF f (ts.take j) ++ frmsF f (ts[j].1.toNat / 4194304) ts[j].2.1.toNat 1024 := by
  rw [List.take_succ_eq_append_getElem hj, mapsF_app, mapsF_one]
end Go.Vx

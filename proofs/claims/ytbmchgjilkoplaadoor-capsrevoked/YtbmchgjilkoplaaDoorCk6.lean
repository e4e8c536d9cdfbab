import Derived.Test.YtbmchgjilkoplaaDoorCk5
import Derived.Test.YtbmchgjilkoplaaDoorCk2
/- Chapter 7, the document's store: From. -/
namespace Go.Proofs.YtbmchgjilkoplaaDoor
open Go.ChangeShapes Go.WideShapes Go.ChangeAt Go.RowKit
open Go.Vx
set_option linter.unusedVariables false

theorem slot_cells {w : World} {rc : Nat} {a0 a1 : Value} (h : w.heap[rc]? = some (.cells #[a0, a1] 62 (0, 0))) : (w.cell? ⟨rc, 0, none⟩ = some a0 ∧ w.cell? ⟨rc, 1, none⟩ = some a1) ∧ ∀ j, w.frozen? ⟨rc, j, none⟩ = false :=
  ⟨⟨(cell_of_row _ _ 0 _ _ (0, 0) h).trans rfl, (cell_of_row _ _ 1 _ _ (0, 0) h).trans rfl⟩, fun j => by simp [World.frozen?, h]⟩
set_option maxHeartbeats 1000000 in
theorem from_ok {U : Nat → Prop} {w : World} {rb : Nat} {vb ve : Value} {bs : List (Int × Int)} {es : List En} (h : RsAt U w rb vb ve bs es) (s : Sl) : Calls Tryd.prog 38 #[.pointer (some ⟨rb, 0, none⟩), .agg #[.int .i64 s.1, .int .i64 s.2]] w fun e w' => e = .returned (.tuple #[slV (fromF bs es s).1, .int .i64 (fromF bs es s).2]) ∧ Only (fun _ => False) w w' := by
  obtain ⟨s1, s2⟩ := s
  have HFU : Hid (∀ wv, Only (fun _ => False) w wv → Calls Tryd.prog 62 #[.pointer (some ⟨rb, 0, none⟩), .agg #[.int .i64 s1, .int .i64 s2]] wv fun e w' => e = .returned (.tuple #[.int .i64 (fullI (fullF bs es (s1, s2))), .int .i64 (fullE (fullF bs es (s1, s2)))]) ∧ Only (fun _ => False) wv w') := fun wv hv => full_ok (h.quiet hv) (s1, s2)
  have HO : Hid (∀ o p, Only (fun _ => False) w ((w.alloc o).alloc p)) := fun o p => ((Only.refl _ w).alloc _).alloc _
  have HH := Vx.hid h
  clear h
  dsimp only
  rcases full_cases bs es (s1, s2) with ⟨i, hf, hi⟩ | hf | hf
  · obtain ⟨hil, _⟩ := entF_at hi
    have HG : Hid (fromF bs es (s1, s2) = (es[i].from', 0)) := by show fromF bs es (s1, s2) = _; unfold fromF; rw [hf]; simp [hil]
    rw [hf] at HFU
    simp only [fullI, fullE] at HFU
    clear hf hi
    go_enter Tryd.func38, Tryd.ntmps38
    go_wp2_with fail
    refine (HFU.out _ (HO.out _ _)).mono ?_
    rintro e w2 ⟨rfl, hq⟩
    have hO2 := (HO.out (.cells #[.int .i64 s1, .int .i64 s2] 62) (.cells #[.int .i64 0, .int .i64 0] 62)).trans hq
    have hz := new_second hq
    have hrl : w.heap.size ≤ w.heap.size + 1 := by omega
    have HO2 := Vx.hid (⟨hO2, hrl⟩ : _ ∧ _)
    obtain ⟨g, c, hve, hE⟩ := (HH.out.quiet hO2).e12 i hil
    have c1 := (HH.out.quiet hO2).c1
    rw [hve] at c1
    obtain ⟨⟨z0, z1⟩, zf⟩ := slot_cells hz
    obtain ⟨_, _, _, _, _, _, _, _, _, _, k0, k1⟩ := hE
    obtain ⟨N, hN⟩ : ∃ N, N = es.length := ⟨_, rfl⟩
    rw [← hN] at c1 hil
    generalize es[i].from' = cp at k0 k1 HG
    obtain ⟨d0, d1⟩ := cp
    dsimp only at k0 k1
    have hidx : 0 ≤ (i : Int) ∧ (i : Int) < (N : Int) := by omega
    obtain ⟨rc, hrc⟩ : ∃ rc, rc = w.heap.size + 1 := ⟨_, rfl⟩
    rw [← hrc] at z0 z1 zf HO2 ⊢
    clear hq hz hve hN hil HFU HH hO2 HO hrc hrl
    go_wp2_with fail
    refine bodyPost_ret (v := .tuple #[slV (d0, d1), .int .i64 0]) ?_ rfl ⟨by rw [HG.out], ?_⟩
    · simp [results, Tryd.results38, go_sem, slV, z0, z1]
    · repeat' (first | refine Only.setCell ?_ (Or.inr HO2.out.2) _ | exact HO2.out.1)
  · have HG : Hid (fromF bs es (s1, s2) = ((-1, -1), 9)) := by show fromF bs es (s1, s2) = _; unfold fromF; rw [hf]
    rw [hf] at HFU
    simp only [fullI, fullE] at HFU
    clear hf HH
    go_enter Tryd.func38, Tryd.ntmps38
    go_wp2_with fail
    refine (HFU.out _ (HO.out _ _)).mono ?_
    rintro e w2 ⟨rfl, hq⟩
    have HQ := Vx.hid hq
    clear hq HFU
    go_wp2_with fail
    refine (nowhere_ok _).mono ?_
    rintro e w3 ⟨rfl, hq3⟩
    have hq := HQ.out.trans hq3
    have hO2 := (HO.out (.cells #[.int .i64 s1, .int .i64 s2] 62) (.cells #[.int .i64 0, .int .i64 0] 62)).trans hq
    have hz := new_second hq
    have hrl : w.heap.size ≤ w.heap.size + 1 := by omega
    have HO2 := Vx.hid (⟨hO2, hrl⟩ : _ ∧ _)
    obtain ⟨⟨z0, z1⟩, zf⟩ := slot_cells hz
    obtain ⟨rc, hrc⟩ : ∃ rc, rc = w.heap.size + 1 := ⟨_, rfl⟩
    rw [← hrc] at z0 z1 zf HO2 ⊢
    clear hq hq3 hz hO2 HO hrc hrl HQ
    go_wp2_with fail
    refine bodyPost_ret (v := .tuple #[slV (-1, -1), .int .i64 9]) ?_ rfl ⟨by rw [HG.out], ?_⟩
    · simp [results, Tryd.results38, go_sem, slV, z0, z1]
    · repeat' (first | refine Only.setCell ?_ (Or.inr HO2.out.2) _ | exact HO2.out.1)
  · have HG : Hid (fromF bs es (s1, s2) = ((-1, -1), 11)) := by show fromF bs es (s1, s2) = _; unfold fromF; rw [hf]
    rw [hf] at HFU
    simp only [fullI, fullE] at HFU
    clear hf HH
    go_enter Tryd.func38, Tryd.ntmps38
    go_wp2_with fail
    refine (HFU.out _ (HO.out _ _)).mono ?_
    rintro e w2 ⟨rfl, hq⟩
    have HQ := Vx.hid hq
    clear hq HFU
    go_wp2_with fail
    refine (nowhere_ok _).mono ?_
    rintro e w3 ⟨rfl, hq3⟩
    have hq := HQ.out.trans hq3
    have hO2 := (HO.out (.cells #[.int .i64 s1, .int .i64 s2] 62) (.cells #[.int .i64 0, .int .i64 0] 62)).trans hq
    have hz := new_second hq
    have hrl : w.heap.size ≤ w.heap.size + 1 := by omega
    have HO2 := Vx.hid (⟨hO2, hrl⟩ : _ ∧ _)
    obtain ⟨⟨z0, z1⟩, zf⟩ := slot_cells hz
    obtain ⟨rc, hrc⟩ : ∃ rc, rc = w.heap.size + 1 := ⟨_, rfl⟩
    rw [← hrc] at z0 z1 zf HO2 ⊢
    clear hq hq3 hz hO2 HO hrc hrl HQ
    go_wp2_with fail
    refine bodyPost_ret (v := .tuple #[slV (-1, -1), .int .i64 11]) ?_ rfl ⟨by rw [HG.out], ?_⟩
    · simp [results, Tryd.results38, go_sem, slV, z0, z1]
    · repeat' (first | refine Only.setCell ?_ (Or.inr HO2.out.2) _ | exact HO2.out.1)
end Go.Proofs.YtbmchgjilkoplaaDoor

/- append onto lists of one's own, of any kind: one thing, many, none. -/
namespace Go.Vx
set_option linter.unusedVariables false
variable {α : Type}
/-- What a kind is to the program: its slice's type, its own, its nought, its size. -/
structure Kind (P : Program) (L : Lay α) (t e : TypeId) : Prop where
  ht : P.underlying t = some (.slice e)
  hi : ∃ (i : TypeInfo) (z : Value), P.info? e = some i ∧ i.zero = some z ∧ i.size = L.sz ∧ i.bytes ≤ 1000 ∧ z.cells.size = L.sz
theorem run_append_none {P : Program} {L : Lay α} {t e : TypeId} (hk : Kind P L t e) (w : World) (ty : TypeId) (p : Option Addr) (n cap : Nat) (h : n ≤ cap) (q : Option Addr) (c : Nat) : (Builtin.append_ #[t, t] ty #[.slice p n cap, .slice q 0 c]).run P w = .ok (.slice p n cap) w := by
  obtain ⟨i, z, hi, hz, hs, hb, hzs⟩ := hk.hi
  have hf : (Builtin.firstCells L.sz 0 (.slice q 0 c)).run P w = .ok #[] w := by
    cases q with
    | none => simp [Builtin.firstCells]
    | some a => simp [Builtin.firstCells, loadCells, loadCellsFrom]
  have hf2 : (Builtin.firstCells i.size 0 (.slice q 0 c)).run P w = .ok #[] w := by rw [hs]; exact hf
  cases p with
  | none => simp [Builtin.append_, run_underlying hk.ht, sizeOf, typeInfo, hi, Builtin.lenOf, h, hf2]
  | some a => simp [Builtin.append_, run_underlying hk.ht, sizeOf, typeInfo, hi, Builtin.lenOf, h, hf2, storeCells]
/-- append of many: where it lies, what is kept. -/
theorem run_append_many {P : Program} {L : Lay α} {t e : TypeId} (hk : Kind P L t e) (w : World) (ty : TypeId) (base : Nat) (v : Value) (xs : List α) (hown : OwnL L w base e v xs) (q : Option Addr) (c : Nat) (ys : List α)
    (hq : 0 < ys.length → ∃ ad, q = some ad ∧ ∀ j u, (fl L ys)[j]? = some u → w.cell? (ad.add j) = some u) (hlen : xs.length + ys.length ≤ 10000000) (hbase : base ≤ w.heap.size) :
    ∃ v' w', (Builtin.append_ #[t, t] ty #[v, .slice q ys.length c]).run P w = .ok v' w' ∧ OwnL L w' base e v' (xs ++ ys) ∧ Only (fun k => v.ownBlock = some k) w w' ∧ (v'.ownBlock = v.ownBlock ∨ ∃ g, v'.ownBlock = some g ∧ w.heap.size ≤ g ∧ Only (fun _ => False) w w') := by
  by_cases h0 : ys.length = 0
  · have hy : ys = [] := List.length_eq_zero_iff.1 h0
    subst hy
    obtain ⟨p, cap, rfl, hnc, _, _⟩ := hown.form
    refine ⟨_, w, run_append_none hk w ty p xs.length cap hnc q c, by rw [List.append_nil]; exact hown, Only.refl _ w, Or.inl rfl⟩
  · obtain ⟨ad, rfl, had⟩ := hq (by omega)
    obtain ⟨i, z, hi, hz, hs, hb, hzs⟩ := hk.hi
    have hbytes : (xs.length + ys.length) * i.bytes ≤ 140737488355328 := Nat.le_trans (Nat.mul_le_mul hlen hb) (by decide)
    obtain ⟨g, cap, w', hr, h2, h3, h4⟩ := run_append_keep (P := P) w t ty base e i z L.sz i.bytes hk.ht hi hz hs rfl hzs L.pos v xs.length (fl L xs) hown ad ys.length c (fl L ys) (length_fl L ys) had (one_fl L ys) (by omega) (by unfold maxLen; omega) hbytes hbase
    refine ⟨_, w', hr, ?_, ?_, ?_⟩
    · show w'.ownsRow _ _ _ _ (xs ++ ys).length _
      rw [fl_app, List.length_append]
      exact h2
    · rcases h3 with ⟨h3, h5⟩ | ⟨h3, h5⟩
      · exact Only.grown (Only.refl _ w) h5 (fun k hk => Or.inl (by rw [h3, hk]))
      · exact Only.grown (Only.refl _ w) h5 (fun k hk => by cases hk)
    · rcases h3 with ⟨h3, h5⟩ | ⟨h3, h5⟩
      · exact Or.inl h3.symm
      · exact Or.inr ⟨g, rfl, by omega, Only.grown (Only.refl _ w) h5 (fun k hk => by cases hk)⟩
theorem wpList_append_many {P : Program} {L : Lay α} {t e : TypeId} (hk : Kind P L t e) (w : World) {ops : Array Oper} {rest : List Oper} {o : Oper} {a : Act} {Q : Exit → Act → World → Prop} (hgd : o.guard = none) (s x : Operand)
    (ho : o.op = .call { callee := .builtin .append, args := #[s, x], argTypes := #[t, t] }) (base : Nat) (v : Value) (xs : List α) (hs : a.eval s = v) (hown : OwnL L w base e v xs) (q : Option Addr) (c n : Nat) (ys : List α) (hx : a.eval x = .slice q n c) (hn : n = ys.length)
    (hq : 0 < ys.length → ∃ ad, q = some ad ∧ ∀ j u, (fl L ys)[j]? = some u → w.cell? (ad.add j) = some u) (hlen : xs.length + ys.length ≤ 10000000) (hbase : base ≤ w.heap.size)
    (h : ∀ v' w', OwnL L w' base e v' (xs ++ ys) → Only (fun k => v.ownBlock = some k) w w' → (v'.ownBlock = v.ownBlock ∨ ∃ g, v'.ownBlock = some g ∧ w.heap.size ≤ g ∧ Only (fun _ => False) w w') → wpList P ops Q rest (a.put o.dst v') w') : wpList P ops Q (o :: rest) a w := by
  subst hn
  refine wpList_plain hgd fun K hK => ?_
  obtain ⟨v', w', hr, h2, h3, h4⟩ := run_append_many hk w o.type base v xs hown q c ys hq hlen hbase
  unfold Oper.wp execOp
  simp only [ho, resolve, invoke, builtin, Sem.run_bind, Sem.run_pure, Result.andThen_ok, List.map_toArray, List.map_cons, List.map_nil, hs, hx, hr]
  exact hK _ _ (h v' w' h2 h3 h4)
/-- append of one thing that was laid into a block of its own. -/
theorem wpList_append_one {P : Program} {L : Lay α} {t e : TypeId} (hk : Kind P L t e) (w : World) {ops : Array Oper} {rest : List Oper} {o : Oper} {a : Act} {Q : Exit → Act → World → Prop} (hgd : o.guard = none) (s x : Operand)
    (ho : o.op = .call { callee := .builtin .append, args := #[s, x], argTypes := #[t, t] }) (base : Nat) (v : Value) (xs : List α) (hs : a.eval s = v) (hown : OwnL L w base e v xs) (y : α) (e' : TypeId) (ya : Array Value) (hya : ya = (L.cf y).toArray) {b : Nat} (hb : b = w.heap.size) (hx : a.eval x = .slice (some ⟨b, 0, none⟩) 1 1) (hlen : xs.length + 1 ≤ 10000000) (hbase : base ≤ w.heap.size)
    (h : ∀ v' w', OwnL L w' base e v' (xs ++ [y]) → Only (fun k => v.ownBlock = some k) w w' → (v'.ownBlock = v.ownBlock ∨ ∃ g, v'.ownBlock = some g ∧ w.heap.size ≤ g ∧ Only (fun _ => False) w w') → wpList P ops Q rest (a.put o.dst v') w') : wpList P ops Q (o :: rest) a (w.alloc (.cells ya e')) := by
  subst hb
  have ha : Only (fun _ => False) w (w.alloc (.cells ya e')) := (Only.refl _ w).alloc _
  refine wpList_append_many hk _ hgd s x ho base v xs hs (hown.kept ha (fun _ _ h => h)) (some ⟨w.heap.size, 0, none⟩) 1 1 [y] hx rfl (fun _ => ⟨_, rfl, fun j u hj => ?_⟩) hlen (Nat.le_trans hbase ha.size) (fun v' w' h1 h2 h3 => ?_)
  · rw [fl_one] at hj
    rw [addr_add, Nat.zero_add, cell_of_row _ _ j _ _ (0, 0) (heap_alloc_last w _), hya]
    simpa using hj
  · refine h v' w' h1 ((ha.mono (fun _ _ h => h.elim)).trans h2) ?_
    rcases h3 with h3 | ⟨g, h3, h4, h5⟩
    · exact Or.inl h3
    · exact Or.inr ⟨g, h3, Nat.le_trans ha.size h4, ha.trans h5⟩
theorem get_part (L : Lay α) (xs : List α) (a : Nat) (j : Nat) : (fl L (xs.drop a))[j]? = (fl L xs)[a * L.sz + j]? := by
  have e : fl L xs = fl L (xs.take a) ++ fl L (xs.drop a) := by rw [← fl_app, List.take_append_drop]
  by_cases ha : a ≤ xs.length
  · have hl : (fl L (xs.take a)).length = a * L.sz := by rw [length_fl, List.length_take, Nat.min_eq_left ha]
    rw [e, List.getElem?_append_right (by omega), hl]
    congr 1
    omega
  · have h1 : (fl L (xs.drop a)).length = 0 := by rw [length_fl, List.length_drop, show xs.length - a = 0 by omega, Nat.zero_mul]
    have h2 : (fl L xs).length ≤ a * L.sz + j := by
      rw [length_fl]
      have : xs.length * L.sz ≤ a * L.sz := Nat.mul_le_mul_right _ (by omega)
      omega
    rw [List.getElem?_eq_none (by omega), List.getElem?_eq_none h2]
/-- A part of a list of one's own, as it lies. -/
theorem OwnL.part {L : Lay α} {w : World} {base g n c : Nat} {e : TypeId} {xs : List α} (h : OwnL L w base e (.slice (some ⟨g, 0, none⟩) n c) xs) (a m : Nat) (j : Nat) (u : Value) (hj : (fl L ((xs.drop a).take m))[j]? = some u) : w.cell? ((⟨g, a * L.sz, none⟩ : Addr).add j) = some u := by
  have hn : n = xs.length := by
    rcases h.2 with ⟨hv, h0⟩ | ⟨g', cap, cur, hv, _⟩
    · simp at hv
    · simp at hv; exact hv.2.1
  subst hn
  have hj2 : (fl L (xs.drop a))[j]? = some u := by
    have e : fl L (xs.drop a) = fl L ((xs.drop a).take m) ++ fl L ((xs.drop a).drop m) := by rw [← fl_app, List.take_append_drop]
    rw [e, List.getElem?_append_left (List.getElem?_eq_some_iff.1 hj).1]
    exact hj
  rw [get_part] at hj2
  have hlt : a * L.sz + j < xs.length * L.sz := by
    have := (List.getElem?_eq_some_iff.1 hj2).1
    rw [length_fl] at this
    exact this
  rw [addr_add, World.ownsRow.cellAt h _ hlt]
  exact hj2
/-- What changes new blocks alone. -/
theorem Only.beyond {S : Nat → Prop} {a b c : World} (h : Only (fun _ => False) a b) (h2 : Only S b c) (hS : ∀ k, S k → a.heap.size ≤ k) : Only (fun _ => False) a c :=
  ⟨h2.os.trans h.os, h2.tape.trans h.tape, h2.output.trans h.output, Nat.le_trans h.size h2.size, fun k hk _ => (h2.block k (Nat.lt_of_lt_of_le hk h.size) (fun e => by have := hS k e; omega)).trans (h.block k hk (fun h => h))⟩
theorem Only.newer {S : Nat → Prop} {a b c : World} {z : Nat} (h : Only S a b) (h2 : Only (fun k => k = z) b c) (hz : a.heap.size ≤ z) : Only S a c :=
  ⟨h2.os.trans h.os, h2.tape.trans h.tape, h2.output.trans h.output, Nat.le_trans h.size h2.size, fun k hk hn => (h2.block k (Nat.lt_of_lt_of_le hk h.size) (fun e => by omega)).trans (h.block k hk hn)⟩
theorem only_set12 (w : World) (g : Nat) (a0 a1 a2 a3 a4 a5 a6 a7 a8 a9 a10 a11 : Value) : Only (fun k => k = g) w ((((((((((((w.setCell ⟨g, 0, none⟩ a0).setCell ⟨g, 1, none⟩ a1).setCell ⟨g, 2, none⟩ a2).setCell ⟨g, 3, none⟩ a3).setCell ⟨g, 4, none⟩ a4).setCell ⟨g, 5, none⟩ a5).setCell ⟨g, 6, none⟩ a6).setCell ⟨g, 7, none⟩ a7).setCell ⟨g, 8, none⟩ a8).setCell ⟨g, 9, none⟩ a9).setCell ⟨g, 10, none⟩ a10).setCell ⟨g, 11, none⟩ a11) :=
  ((((((((((((Only.refl (fun k => k = g) w).setCell (p := ⟨g, 0, none⟩) (Or.inl rfl) a0).setCell (p := ⟨g, 1, none⟩) (Or.inl rfl) a1).setCell (p := ⟨g, 2, none⟩) (Or.inl rfl) a2).setCell (p := ⟨g, 3, none⟩) (Or.inl rfl) a3).setCell (p := ⟨g, 4, none⟩) (Or.inl rfl) a4).setCell (p := ⟨g, 5, none⟩) (Or.inl rfl) a5).setCell (p := ⟨g, 6, none⟩) (Or.inl rfl) a6).setCell (p := ⟨g, 7, none⟩) (Or.inl rfl) a7).setCell (p := ⟨g, 8, none⟩) (Or.inl rfl) a8).setCell (p := ⟨g, 9, none⟩) (Or.inl rfl) a9).setCell (p := ⟨g, 10, none⟩) (Or.inl rfl) a10).setCell (p := ⟨g, 11, none⟩) (Or.inl rfl) a11
end Go.Vx

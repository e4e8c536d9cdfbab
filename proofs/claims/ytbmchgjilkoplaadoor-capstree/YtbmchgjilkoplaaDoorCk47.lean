import Derived.Test.YtbmchgjilkoplaaDoorCk45
import Derived.Test.YtbmchgjilkoplaaDoorCk46
import Derived.Deep.WholeRow
import Derived.Laws.NewBlocks
/- CapsTree, CapsRevoked: the row of numbers; has, moved. -/
namespace Go.Vx
/-- A load whose outcome is known, as one step of a region that draws. -/
theorem step_load {P : Program} {ops : Array Oper} {o : Oper} {a : Act} {w : World} {K : Act → World → Prop} {Q : Exit → Act → World → Prop} {E : Prop} (hg : o.guard = none) (t : TypeId) (x : Operand) (hop : o.op = .load t x) (ad : Addr) (hx : a.eval x = .pointer (some ad)) (v : Value)
    (hrun : (Instr.loadAt t (.pointer (some ad))).run P w = .ok v w) (h : K (a.put o.dst v) w) : if Region.wanted o (yielded ops a.tmps) = true then Oper.wp P o a w K Q else E := by
  have hw : Region.wanted o (yielded ops a.tmps) = true := by simp [Region.wanted, hg]
  rw [if_pos hw]
  unfold Oper.wp
  simp [execOp, hop, hx, hrun, Result.andThen]
  exact h
/-- A store whose outcome is known, as one step of a region that draws. -/
theorem step_store {P : Program} {ops : Array Oper} {o : Oper} {a : Act} {w : World} {K : Act → World → Prop} {Q : Exit → Act → World → Prop} {E : Prop} (hg : o.guard = none) (t : TypeId) (x y : Operand) (hop : o.op = .store t x y) (hd : o.dst = none) (ad : Addr) (hx : a.eval x = .pointer (some ad)) (v : Value) (hy : a.eval y = v) (w' : World)
    (hrun : (Instr.storeAt t (.pointer (some ad)) v).run P w = .ok () w') (h : K a w') : if Region.wanted o (yielded ops a.tmps) = true then Oper.wp P o a w K Q else E := by
  have hw : Region.wanted o (yielded ops a.tmps) = true := by simp [Region.wanted, hg]
  rw [if_pos hw]
  unfold Oper.wp
  simp [execOp, hop, hx, hy, hrun, Result.andThen]
  rw [Oper.upon_skip, hd]
  exact h
/-- Three results, the second of them an array in a block. -/
theorem results_tct {P : Program} {fn : Func} {p q u : Tmp} {ty : TypeId} (h : fn.results = #[.tmp p, .cell q ty, .tmp u]) (tmps : Array Value) (w : World) (g : Nat) (t : TypeId) (cs : Array Value) (fr : Nat × Nat) (d : TypeDesc)
    (hp : tmps.getD q undef = .pointer (some ⟨g, 0, none⟩)) (hg : w.heap[g]? = some (.cells cs t fr))
    (hu : P.underlying ty = some d) (hd : (match d with | .struct _ | .array _ _ => true | _ => false) = true) (hi : (P.info? ty).map (·.size) = some cs.size) :
    (results fn tmps).run P w = .ok (.tuple #[tmps.getD p undef, .agg cs, tmps.getD u undef]) w := by
  have hp' : tmps[q]?.getD undef = .pointer (some ⟨g, 0, none⟩) := by simpa using hp
  simp [results, h, hp', asAddr, run_loadVar_row w g t ty cs fr d hg hu hd hi]
end Go.Vx
namespace Go.Proofs.YtbmchgjilkoplaaDoor
open Go.ChangeShapes Go.WideShapes Go.ChangeAt Go.RowKit
open Go.Vx
set_option linter.unusedVariables false

def upL (f : Nat → Int) : List Value := (List.range 32).map fun j => .int .i64 (f j)
theorem length_upL (f : Nat → Int) : (upL f).length = 32 := by simp [upL]
theorem get_upL (f : Nat → Int) (j : Nat) (h : j < 32) : (upL f)[j]? = some (.int .i64 (f j)) := by simp [upL, h]
theorem oneCell_up (f : Nat → Int) : ∀ v ∈ upL f, v.oneCell' = true := by
  intro v hv
  simp only [upL, List.mem_map] at hv
  obtain ⟨b, _, rfl⟩ := hv
  rfl
theorem upL_same {f g : Nat → Int} (h : ∀ j, j < 32 → f j = g j) : upL f = upL g := by
  unfold upL
  refine List.map_congr_left fun j hj => ?_
  rw [h j (List.mem_range.1 hj)]
theorem upL_set (f : Nat → Int) (k : Nat) (x : Int) : (upL f).set k (.int .i64 x) = upL (fun j => if j = k then x else f j) := by
  apply List.ext_getElem?
  intro j
  rw [List.getElem?_set, length_upL]
  by_cases hj : j < 32
  · rw [get_upL _ _ hj, get_upL _ _ hj]
    by_cases h2 : k = j
    · subst h2
      rw [if_pos rfl, if_pos hj, if_pos rfl]
    · rw [if_neg h2, if_neg (fun h => h2 h.symm)]
  · rw [List.getElem?_eq_none (l := upL _) (by rw [length_upL]; omega), List.getElem?_eq_none (l := upL _) (by rw [length_upL]; omega)]
    split
    · rw [if_neg (by omega)]
    · rfl
/-- The row, where it lies. -/
structure UpAt (w : World) (ub : Nat) (f : Nat → Int) : Prop where
  b : w.heap[ub]? = some (.cells (upL f).toArray 52 (0, 0))
theorem UpAt.only {S : Nat → Prop} {w w' : World} {ub : Nat} {f : Nat → Int} (h : UpAt w ub f) (ho : Only S w w') (hS : ¬ S ub) : UpAt w' ub f := ⟨by rw [ho.block ub (lt_of_some h.b) hS]; exact h.b⟩
theorem UpAt.same {w : World} {ub : Nat} {f g : Nat → Int} (h : UpAt w ub f) (hfg : ∀ j, j < 32 → f j = g j) : UpAt w ub g := ⟨by rw [← upL_same hfg]; exact h.b⟩
theorem UpAt.cell {w : World} {ub : Nat} {f : Nat → Int} (h : UpAt w ub f) (j : Nat) (hj : j < 32) : w.cell? ⟨ub, j, none⟩ = some (.int .i64 (f j)) := by
  rw [cell_of_row _ _ j _ _ (0, 0) h.b]
  simpa using get_upL f j hj
theorem UpAt.fz {w : World} {ub : Nat} {f : Nat → Int} (h : UpAt w ub f) (j : Nat) : w.frozen? ⟨ub, j, none⟩ = false := by
  have h1 := h.b
  simp [World.frozen?, h1]
theorem UpAt.store {w : World} {ub : Nat} {f : Nat → Int} (h : UpAt w ub f) (k : Nat) (x : Int) : UpAt (w.setCell ⟨ub, k, none⟩ (.int .i64 x)) ub (fun j => if j = k then x else f j) := ⟨by
  rw [heap_setCell_same w ub k _ _ (.int .i64 x) h.b, ← upL_set f k x]
  simp⟩
theorem only_cell (w : World) (g k : Nat) (x : Value) : Only (fun j => j = g) w (w.setCell ⟨g, k, none⟩ x) := Only.setCell (S := fun k => k = g) (Only.refl _ w) (Or.inl rfl) _
theorem infoUp : (Tryd.prog.info? 52).map (·.size) = some 32 := by kernel_rfl
theorem undUp : Tryd.prog.underlying 52 = some (.array 32 3) := by kernel_rfl
theorem load_up {w : World} {ub : Nat} {f : Nat → Int} (h : UpAt w ub f) : (Instr.loadAt 52 (.pointer (some ⟨ub, 0, none⟩))).run Tryd.prog w = .ok (.agg (upL f).toArray) w := by
  simp only [Instr.loadAt, Instr.sureAddr, Sem.run_bind, Sem.run_pure, Result.andThen]
  exact run_loadVar_row w ub 52 52 _ (0, 0) _ h.b undUp rfl (by rw [infoUp, List.size_toArray, length_upL])
theorem store_up {w : World} {ub : Nat} {f g : Nat → Int} (h : UpAt w ub f) : (Instr.storeAt 52 (.pointer (some ⟨ub, 0, none⟩)) (.agg (upL g).toArray)).run Tryd.prog w = .ok () (w.setRow ub (upL g).toArray) := by
  simp only [Instr.storeAt, Instr.sureAddr, Sem.run_bind, Sem.run_pure, Result.andThen]
  exact run_storeVar_row w ub 52 52 _ _ h.b (by rw [infoUp, List.size_toArray, length_upL]) (by rw [List.size_toArray, List.size_toArray, length_upL, length_upL]) (by simpa using oneCell_up g)
theorem UpAt.row {w : World} {ub : Nat} {f : Nat → Int} (h : UpAt w ub f) (g : Nat → Int) : UpAt (w.setRow ub (upL g).toArray) ub g := ⟨by
  have h1 := h.b
  obtain ⟨hl, hv⟩ := Array.getElem?_eq_some_iff.1 h1
  simp only [World.setRow, Array.getElem?_modify, h1]
  simp⟩
/-- What moved makes of the row. -/
def movF (f : Nat → Int) (a : Nat) (t : Int) (j : Nat) : Int := if j = a then -2 else if f j = a then t else f j
/-- The same, where the first k were looked at. -/
def movK (f : Nat → Int) (a : Nat) (t : Int) (k j : Nat) : Int := if j = a then -2 else if j < k ∧ f j = a then t else f j
set_option maxHeartbeats 1000000 in
theorem moved_ok {w : World} {ub : Nat} {f : Nat → Int} (h : UpAt w ub f) (a : Nat) (ha : a < 32) (t : Int) : Calls Tryd.prog 49 #[.pointer (some ⟨ub, 0, none⟩), .int .i64 (a : Int), .int .i64 t] w fun e w' => e = .returned (.tuple #[]) ∧ UpAt w' ub (movF f a t) ∧ Only (fun k => k = ub) w w' := by
  have c0 := h.cell a ha
  have f0 := h.fz a
  have HS : Hid (UpAt (w.setCell ⟨ub, a, none⟩ (.int .i64 (-2))) ub (movK f a t 0)) := (h.store a (-2)).same fun j hj => by
    unfold movK
    by_cases h1 : j = a
    · rw [if_pos h1, if_pos h1]
    · rw [if_neg h1, if_neg h1, if_neg (by omega)]
  have HO := Vx.hid (only_cell w ub a (.int .i64 (-2)))
  have hid1 : 0 ≤ (a : Int) ∧ (a : Int) < 32 := by omega
  clear h
  go_enter Tryd.func49, Tryd.ntmps49
  go_wp2_with fail
  go_loopw [6] (fun d wr => ∃ k : Nat, d = .int .i64 (k : Int) ∧ k ≤ 32 ∧ Hid (UpAt wr ub (movK f a t k)) ∧ Hid (Only (fun k => k = ub) w wr)) (fun d _ => 32 - (intOf d).toNat)
  case atStart => exact ⟨0, rfl, by omega, HS, HO⟩
  case round =>
    clear c0 f0 HS HO
    obtain ⟨k, rfl, hk, HU, HO⟩ := hrel
    by_cases hlt : k < 32
    · have h1 : (k : Int) < 32 := by omega
      have hidk : 0 ≤ (k : Int) ∧ (k : Int) < 32 := by omega
      have hwk : IntKind.i64.wrap ((k : Int) + 1) = (k : Int) + 1 := by rw [IntKind.wrap_i64]; omega
      have c1 := HU.out.cell k hlt
      have f1 := HU.out.fz k
      have HNX : Hid (¬ movK f a t k k = (a : Int) → ∀ j, movK f a t k j = movK f a t (k + 1) j) := fun hn j => by
        unfold movK at hn ⊢
        by_cases h2 : j = a
        · rw [if_pos h2, if_pos h2]
        · rw [if_neg h2, if_neg h2]
          by_cases h3 : j < k ∧ f j = a
          · rw [if_pos h3, if_pos ⟨by omega, h3.2⟩]
          · rw [if_neg h3, if_neg]
            rintro ⟨h4, h5⟩
            have h6 : j = k := by
              by_cases h7 : j < k
              · exact absurd ⟨h7, h5⟩ h3
              · omega
            subst h6
            rw [if_neg h2, if_neg (by omega)] at hn
            exact hn h5
      have HNY : Hid (movK f a t k k = (a : Int) → ∀ j, (if j = k then t else movK f a t k j) = movK f a t (k + 1) j) := fun hy j => by
        unfold movK at hy ⊢
        by_cases hka : k = a
        · rw [if_pos hka] at hy; omega
        · rw [if_neg hka, if_neg (by omega)] at hy
          by_cases h1 : j = k
          · subst h1
            rw [if_pos rfl, if_neg hka, if_pos ⟨by omega, hy⟩]
          · rw [if_neg h1]
            by_cases h2 : j = a
            · rw [if_pos h2, if_pos h2]
            · rw [if_neg h2, if_neg h2]
              by_cases h3 : j < k ∧ f j = a
              · rw [if_pos h3, if_pos ⟨by omega, h3.2⟩]
              · rw [if_neg h3, if_neg]
                rintro ⟨h4, h5⟩
                exact h3 ⟨by omega, h5⟩
      generalize hx : movK f a t k k = x at c1 HNX HNY
      clear hx hlt
      by_cases hxa : x = (a : Int)
      · subst hxa
        have HU2 : Hid (UpAt (wr.setCell ⟨ub, k, none⟩ (.int .i64 t)) ub (movK f a t (k + 1))) := (HU.out.store k t).same fun j _ => HNY.out rfl j
        have HO2 : Hid (Only (fun k => k = ub) w (wr.setCell ⟨ub, k, none⟩ (.int .i64 t))) := HO.out.trans (only_cell wr ub k (.int .i64 t))
        clear HNX HNY
        go_wp2_with fail
        go_roundw
        case rel => exact ⟨k + 1, by go_num, by omega, HU2, HO2⟩
        case measure => simp only [intOf]; omega
      · have e1 : (x == (a : Int)) = false := beq_eq_false_iff_ne.2 hxa
        have HU2 : Hid (UpAt wr ub (movK f a t (k + 1))) := HU.out.same fun j _ => HNX.out hxa j
        clear HNX HNY
        go_wp2_with fail
        go_roundw
        case rel => exact ⟨k + 1, by go_num, by omega, HU2, HO⟩
        case measure => simp only [intOf]; omega
    · obtain rfl : k = 32 := by omega
      have HF : Hid (UpAt wr ub (movF f a t)) := HU.out.same fun j hj => by
        unfold movK movF
        by_cases h1 : j = a
        · rw [if_pos h1, if_pos h1]
        · rw [if_neg h1, if_neg h1]
          by_cases h2 : f j = a
          · rw [if_pos h2, if_pos ⟨hj, h2⟩]
          · rw [if_neg h2, if_neg (fun h => h2 h.2)]
      clear hlt
      go_wp2_with fail
      all_goals
        refine bodyPost_end (results_none Tryd.results49 _ _ _) rfl ?_
        exact ⟨rfl, HF.out, HO.out⟩
theorem LieL.take {α : Type} {L : Lay α} {w : World} {p : Option Addr} {n c : Nat} {xs : List α} (h : LieL L w (.slice p n c) xs) (i : Nat) (hi : i ≤ xs.length) : LieL L w (.slice p i c) (xs.take i) := by
  obtain ⟨p2, c2, he, hn, h⟩ := h
  injection he with h1 h2 h3
  subst h1 h2 h3
  have hl : (xs.take i).length = i := by rw [List.length_take]; omega
  refine ⟨p, c, by rw [hl], by omega, fun k hk => ?_⟩
  obtain ⟨g, hg, hc⟩ := h k (by omega)
  refine ⟨g, hg, fun j hj => ?_⟩
  rw [hc j hj, List.getElem_take]
theorem LieL.quiet {α : Type} {L : Lay α} {w w2 : World} {v : Value} {xs : List α} (h : LieL L w v xs) (ho : Only (fun _ => False) w w2) (hz : ∀ a : α, 0 < (L.cf a).length) (h0 : 0 < L.sz) : LieL L w2 v xs := by
  obtain ⟨p, c, rfl, hn, h⟩ := h
  refine ⟨p, c, rfl, hn, fun k hk => ?_⟩
  obtain ⟨g, rfl, hc⟩ := h k hk
  refine ⟨g, rfl, fun j hj => ?_⟩
  rw [← hc j hj]
  have h1 := hc 0 h0
  rw [List.getElem?_eq_getElem (hz xs[k])] at h1
  exact ho.cell (p := ⟨g, k * L.sz + j, none⟩) (World.block_lt_of_cell? w ⟨g, k * L.sz + 0, none⟩ h1 : g < _) (fun h => h)
theorem LieL.slq {w w2 : World} {v : Value} {xs : List Sl} (h : LieL slL w v xs) (ho : Only (fun _ => False) w w2) : LieL slL w2 v xs := h.quiet ho (fun a => by show 0 < (slC a).length; simp [slC]) (by decide)
theorem LieL.enq {w w2 : World} {v : Value} {xs : List En} (h : LieL enL w v xs) (ho : Only (fun _ => False) w w2) : LieL enL w2 v xs := h.quiet ho (fun a => by show 0 < (enC a).length; rw [enC_eq]; simp) (by decide)
set_option maxHeartbeats 1000000 in
theorem has_ok {w : World} {v : Value} {xs : List Sl} (h : LieL slL w v xs) (s : Sl) : Calls Tryd.prog 20 #[v, .agg #[.int .i64 s.1, .int .i64 s.2]] w fun e w' => e = .returned (.bool (decide (s ∈ xs))) ∧ Only (fun _ => False) w w' := by
  obtain ⟨s1, s2⟩ := s
  obtain ⟨w1, hw1⟩ : ∃ w1, w1 = w.alloc (.cells #[.int .i64 s1, .int .i64 s2] 62) := ⟨_, rfl⟩
  have ho : Only (fun _ => False) w w1 := by rw [hw1]; exact (Only.refl _ w).alloc _
  have h1 := h.slq ho
  obtain ⟨p, c, rfl, hn, hb⟩ := h1
  have HB := Vx.hid hb
  have HO := Vx.hid ho
  have hsl : w1.heap[w.heap.size]? = some (.cells #[.int .i64 s1, .int .i64 s2] 62 (0, 0)) := by rw [hw1]; exact heap_alloc_last _ _
  obtain ⟨⟨k0, k1⟩, _⟩ := slot_cells hsl
  clear h hb ho hsl
  obtain ⟨N, hN⟩ : ∃ N, N = xs.length := ⟨_, rfl⟩
  have HN := Vx.hid hN
  rw [← hN] at hn ⊢
  clear hN
  dsimp only
  go_enter Tryd.func20, Tryd.ntmps20
  go_wp2_with fail
  rw [← hw1]
  obtain ⟨sb, hsb⟩ : ∃ sb, sb = w.heap.size := ⟨_, rfl⟩
  rw [← hsb] at k0 k1 ⊢
  clear hw1 hsb
  go_loopw [5] (fun d wr => ∃ k : Nat, d = .int .i64 (k : Int) ∧ k ≤ N ∧ Hid ((s1, s2) ∈ xs ↔ (s1, s2) ∈ xs.drop k) ∧ ∃ j, wr = w1.drewN j) (fun d _ => N - (intOf d).toNat)
  case atStart => exact ⟨0, rfl, by omega, (show (s1, s2) ∈ xs ↔ (s1, s2) ∈ xs.drop 0 by rw [List.drop_zero]), 0, rfl⟩
  case round =>
    obtain ⟨k, rfl, hk, HQ, j, rfl⟩ := hrel
    by_cases hlt : k < N
    · have hlb : k < xs.length := by have := HN.out; omega
      have h1 : (k : Int) < (N : Int) := by omega
      have hidx : 0 ≤ (k : Int) ∧ (k : Int) < (N : Int) := by omega
      have hwk : IntKind.i64.wrap ((k : Int) + 1) = (k : Int) + 1 := by rw [IntKind.wrap_i64]; omega
      obtain ⟨g, rfl, b⟩ := HB.out k hlb
      have b0 := b 0 (by decide)
      have b1 := b 1 (by decide)
      have hq := HQ.out
      rw [List.drop_eq_getElem_cons hlb] at hq
      generalize xs[k] = z at b0 b1 hq
      obtain ⟨z1, z2⟩ := z
      replace b0 : w1.cell? ⟨g, k * 2, none⟩ = some (.int .i64 z1) := b0
      replace b1 : w1.cell? ⟨g, k * 2 + 1, none⟩ = some (.int .i64 z2) := b1
      clear b
      by_cases e1 : z1 = s1
      · subst e1
        by_cases e2 : z2 = s2
        · subst e2
          have HE : Hid (decide ((z1, z2) ∈ xs) = true) := decide_eq_true (hq.2 (by simp))
          clear hq hlt HQ
          go_wp2_with fail
          go_quiet (fail)
          go_wp2_with fail
          all_goals
            go_ret
            exact ⟨by rw [HE.out]; rfl, HO.out.trans (by repeat' (first | exact Only.refl _ _ | refine Only.drewN ?_ _ | refine Only.drew ?_))⟩
        · have HE : Hid ((z1, s2) ∈ xs ↔ (z1, s2) ∈ xs.drop (k + 1)) := hq.trans (by rw [List.mem_cons]; exact ⟨fun h => h.resolve_left (fun h => e2 (congrArg Prod.snd h).symm), Or.inr⟩)
          have e3 : (z2 == s2) = false := beq_eq_false_iff_ne.2 e2
          clear hq hlt HQ
          go_wp2_with fail
          go_quiet (fail)
          go_wp2_with fail
          go_roundw
          case rel => exact ⟨k + 1, by go_num, by omega, HE, _, rfl⟩
          case measure => simp only [intOf]; omega
      · have HE : Hid ((s1, s2) ∈ xs ↔ (s1, s2) ∈ xs.drop (k + 1)) := hq.trans (by rw [List.mem_cons]; exact ⟨fun h => h.resolve_left (fun h => e1 (congrArg Prod.fst h).symm), Or.inr⟩)
        have e3 : (z1 == s1) = false := beq_eq_false_iff_ne.2 e1
        clear hq hlt HQ
        go_wp2_with fail
        go_quiet (fail)
        go_wp2_with fail
        go_roundw
        case rel => exact ⟨k + 1, by go_num, by omega, HE, _, rfl⟩
        case measure => simp only [intOf]; omega
    · obtain rfl : k = N := by omega
      have h1 : ¬ (k : Int) < (k : Int) := by omega
      have HE : Hid (decide ((s1, s2) ∈ xs) = false) := decide_eq_false (fun h => by
        have h2 := HQ.out.1 h
        rw [HN.out, List.drop_length] at h2
        cases h2)
      clear hlt
      go_wp2_with fail
      all_goals
        go_ret
        exact ⟨by rw [HE.out]; rfl, HO.out.trans ((Only.refl _ _).drewN _)⟩
end Go.Proofs.YtbmchgjilkoplaaDoor

import Derived.Test.YtbbabpgmclhinaaCs7
import Derived.Test.YtbbabpgmclhinaaCs1
import Derived.Test.YtbbabpgmclhinaaCs3
import Derived.Deep.RegionLaw
/- Chapter 8, the document's pool: NewPool, Add. -/
namespace Go.Proofs.Ytbbabpgmclhinaa
open Go.ChangeShapes Go.WideShapes Go.ChangeAt Go.RowKit
open Go.Vx
set_option linter.unusedVariables false
variable {U S : Nat → Prop} {w w2 : World} {pb : Nat} {P : Int} {vo vr : Value} {os rs : List (Int × Int)}

theorem obK : Kind Try.prog slL 55 33 := kind_of (z := .agg #[.int .i64 0, .int .i64 0]) (b := 16) Try.underlying55 (by kernel_rfl) rfl (by decide)
theorem rgK : Kind Try.prog slL 68 104 := kind_of (z := .agg #[.int .i64 0, .int .i64 0]) (b := 16) Try.underlying68 (by kernel_rfl) rfl (by decide)
/-- Some pool of the document's. -/
def PcAt (U : Nat → Prop) (w : World) (pb : Nat) (P : Int) (os rs : List (Int × Int)) : Prop := ∃ vo vr, PoAt U w pb P vo vr os rs
/-- Others in the place of these. -/
theorem PoAt.setO {w3 : World} {v' : Value} {xs' : List (Int × Int)} (h : PoAt U w pb P vo vr os rs) (ho : OwnL slL w3 0 33 v' xs') (hon : Only (fun k => vo.ownBlock = some k) w w3) (hl : ∀ k, v'.ownBlock = some k → vo.ownBlock = some k ∨ w.heap.size ≤ k) (hn : xs'.length ≤ 1000000) :
    (∃ x, w3.cell? ⟨pb, 1, none⟩ = some x) ∧ w3.frozen? ⟨pb, 1, none⟩ = false ∧ PoAt U (w3.setCell ⟨pb, 1, none⟩ v') pb P v' vr xs' rs ∧ Only (fun k => ¬ U k) w (w3.setCell ⟨pb, 1, none⟩ v') := by
  have n1 : ∀ k, vo.ownBlock = some k → k ≠ pb := fun k hk => by
    obtain ⟨cur, hc⟩ := own_tag h.o hk
    exact tag_ne hc h.r (by decide)
  have n2 : ∀ k j, vo.ownBlock = some k → vr.ownBlock = some j → k ≠ j := fun k j hk hj => by
    obtain ⟨cur, hc⟩ := own_tag h.o hk
    obtain ⟨cur2, hc2⟩ := own_tag h.g hj
    exact tag_ne hc hc2 (by decide)
  have n3 : ∀ j, vr.ownBlock = some j → j ≠ pb := fun j hj => by
    obtain ⟨cur2, hc2⟩ := own_tag h.g hj
    exact tag_ne hc2 h.r (by decide)
  have hr3 : w3.heap[pb]? = some (.cells #[.int .i64 P, vo, vr] 70 (0, 0)) := by rw [hon.block pb (lt_of_some h.r) (fun e => n1 pb e rfl)]; exact h.r
  have hne' : ∀ k, v'.ownBlock = some k → k ≠ pb := fun k hk => by
    obtain ⟨cur, hc⟩ := own_tag ho hk
    exact tag_ne hc hr3 (by decide)
  have hs : Only (fun k => k = pb) w3 (w3.setCell ⟨pb, 1, none⟩ v') := Only.setCell (S := fun k => k = pb) (Only.refl _ w3) (Or.inl rfl) _
  have he3 : OwnL slL w3 0 104 vr rs := h.g.kept hon (fun k hk e => n2 k k e hk rfl)
  refine ⟨⟨vo, (cell_of_row _ _ 1 _ _ (0, 0) hr3).trans rfl⟩, by simp [World.frozen?, hr3], ⟨?_, ho.kept hs hne', he3.kept hs (fun k hk e => n3 k hk e), h.ur, ?_, h.ug, fun k hk => Nat.lt_of_lt_of_le (h.low k hk) (Nat.le_trans hon.size hs.size), hn, h.ng⟩, ?_⟩
  · rw [heap_setCell_same _ _ 1 _ _ v' hr3]; rfl
  · intro k hk
    rcases hl k hk with hl | hl
    · exact h.uo k hl
    · intro hu
      have := h.low k hu
      omega
  · refine (hon.mono (fun k _ hk => h.uo k hk)).trans ?_
    exact hs.mono (fun k _ hk => by subst hk; exact h.ur)
/-- Others in the place of these. -/
theorem PoAt.setG {w3 : World} {v' : Value} {xs' : List (Int × Int)} (h : PoAt U w pb P vo vr os rs) (ho : OwnL slL w3 0 104 v' xs') (hon : Only (fun k => vr.ownBlock = some k) w w3) (hl : ∀ k, v'.ownBlock = some k → vr.ownBlock = some k ∨ w.heap.size ≤ k) (hn : xs'.length ≤ 1000000) :
    (∃ x, w3.cell? ⟨pb, 2, none⟩ = some x) ∧ w3.frozen? ⟨pb, 2, none⟩ = false ∧ PoAt U (w3.setCell ⟨pb, 2, none⟩ v') pb P vo v' os xs' ∧ Only (fun k => ¬ U k) w (w3.setCell ⟨pb, 2, none⟩ v') := by
  have n1 : ∀ k, vr.ownBlock = some k → k ≠ pb := fun k hk => by
    obtain ⟨cur, hc⟩ := own_tag h.g hk
    exact tag_ne hc h.r (by decide)
  have n2 : ∀ k j, vr.ownBlock = some k → vo.ownBlock = some j → k ≠ j := fun k j hk hj => by
    obtain ⟨cur, hc⟩ := own_tag h.g hk
    obtain ⟨cur2, hc2⟩ := own_tag h.o hj
    exact tag_ne hc hc2 (by decide)
  have n3 : ∀ j, vo.ownBlock = some j → j ≠ pb := fun j hj => by
    obtain ⟨cur2, hc2⟩ := own_tag h.o hj
    exact tag_ne hc2 h.r (by decide)
  have hr3 : w3.heap[pb]? = some (.cells #[.int .i64 P, vo, vr] 70 (0, 0)) := by rw [hon.block pb (lt_of_some h.r) (fun e => n1 pb e rfl)]; exact h.r
  have hne' : ∀ k, v'.ownBlock = some k → k ≠ pb := fun k hk => by
    obtain ⟨cur, hc⟩ := own_tag ho hk
    exact tag_ne hc hr3 (by decide)
  have hs : Only (fun k => k = pb) w3 (w3.setCell ⟨pb, 2, none⟩ v') := Only.setCell (S := fun k => k = pb) (Only.refl _ w3) (Or.inl rfl) _
  have he3 : OwnL slL w3 0 33 vo os := h.o.kept hon (fun k hk e => n2 k k e hk rfl)
  refine ⟨⟨vr, (cell_of_row _ _ 2 _ _ (0, 0) hr3).trans rfl⟩, by simp [World.frozen?, hr3], ⟨?_, he3.kept hs (fun k hk e => n3 k hk e), ho.kept hs hne', h.ur, h.uo, ?_, fun k hk => Nat.lt_of_lt_of_le (h.low k hk) (Nat.le_trans hon.size hs.size), h.no, hn⟩, ?_⟩
  · rw [heap_setCell_same _ _ 2 _ _ v' hr3]; rfl
  · intro k hk
    rcases hl k hk with hl | hl
    · exact h.ug k hl
    · intro hu
      have := h.low k hu
      omega
  · refine (hon.mono (fun k _ hk => h.ug k hk)).trans ?_
    exact hs.mono (fun k _ hk => by subst hk; exact h.ur)
theorem newPool_bad (n : Int) (h : n < 1 ∨ 256 < n) (w : World) : Calls Try.prog 7 #[.int .i64 n] w fun e w' => e = .returned (.tuple #[.pointer none, .int .i64 1]) ∧ w' = w := by
  by_cases h1 : n < 1
  · clear h
    go_enter Try.func7, Try.ntmps7
    go_wp2_with fail
    all_goals
      go_ret2
      exact ⟨rfl, rfl⟩
  · have h2 : 256 < n := by omega
    clear h
    go_enter Try.func7, Try.ntmps7
    go_wp2_with fail
    all_goals
      go_ret2
      exact ⟨rfl, rfl⟩
theorem newPool_ok (n : Int) (h : 1 ≤ n ∧ n ≤ 256) (w : World) : Calls Try.prog 7 #[.int .i64 n] w fun e w' => ∃ pb, e = .returned (.tuple #[.pointer (some ⟨pb, 0, none⟩), .int .i64 0]) ∧ w.heap.size ≤ pb ∧ PcAt (fun k => k < w.heap.size) w' pb n [] [] ∧ Only (fun _ => False) w w' := by
  have h1 : ¬ n < 1 := by omega
  have h2 : ¬ 256 < n := by omega
  have HR : Hid (PcAt (fun k => k < w.heap.size) (w.alloc (.cells #[.int .i64 n, .slice none 0 0, .slice none 0 0] 70)) w.heap.size n [] []) :=
    ⟨.slice none 0 0, .slice none 0 0, heap_alloc_last _ _, OwnL.nil _ _ _ _, OwnL.nil _ _ _ _, fun h => absurd h (Nat.lt_irrefl _), fun k hk => (by cases hk), fun k hk => (by cases hk), fun k hk => by simp; omega, by simp, by simp⟩
  have HO : Hid (∀ o, Only (fun _ => False) w (w.alloc o)) := fun o => (Only.refl _ w).alloc _
  clear h
  go_enter Try.func7, Try.ntmps7
  go_wp2_with fail
  all_goals
    go_ret2
    exact ⟨_, rfl, Nat.le_refl _, HR.out, HO.out _⟩
def addE (P : Int) (os rs : List (Int × Int)) (o : Int × Int) : Int :=
  if o.1 < 1 ∨ 8 < o.1 then 12 else if o.2 < 0 ∨ (o.1 = 1 ∧ 2304 ≤ o.2) then 1 else if pgA o % pgN o ≠ 0 ∨ P - pgN o < pgA o then 1
  else if (os.any (meetB o) || rs.any (fun r => meetB o (1, r.1))) = true then 7 else 0
def addO (P : Int) (os rs : List (Int × Int)) (o : Int × Int) : List (Int × Int) := if addE P os rs o = 0 ∧ o.1 ≠ 1 then os ++ [o] else os
def addG (P : Int) (os rs : List (Int × Int)) (o : Int × Int) : List (Int × Int) := if addE P os rs o = 0 ∧ o.1 = 1 then rs ++ [(o.2, 0)] else rs
theorem add_keep (o : Int × Int) (h : addE P os rs o ≠ 0) : addO P os rs o = os ∧ addG P os rs o = rs := ⟨if_neg (fun e => h e.1), if_neg (fun e => h e.1)⟩
end Go.Proofs.Ytbbabpgmclhinaa

/- The law's pick and near. -/
namespace Go.Proofs.Ytbbabpgmclhinaa
open Go.ChangeShapes Go.WideShapes Go.ChangeAt Go.RowKit
open Go.Vx

/-- The number that pick makes. -/
def pickL (n : Int) (m : Nat) : Nat := (if n < 0 then (-(n + 1)).toNat else n.toNat) % m
theorem pickL_any (m : Nat) (hm : 1 ≤ m) (hm2 : m ≤ 4398046511104) (n : Int) (h0 : -9223372036854775808 ≤ n) (h1 : n ≤ 9223372036854775807) (w : World) :
    Calls Try.prog 20 #[.int .i64 n, .int .i64 (m : Int)] w fun e w' => e = .returned (.int .i64 (pickL n m : Nat)) ∧ w' = w := by
  have hz : ¬ (m : Int) = 0 := by omega
  have hz1 : ¬ (m : Int) = -1 := by omega
  by_cases hn : n < 0
  · have hr : -(n + 1).tmod (m : Int) = (pickL n m : Nat) := by
      rw [← Int.neg_tmod, Int.tmod_eq_emod_of_nonneg (by omega)]
      unfold pickL
      rw [if_pos hn, Int.natCast_emod, Int.toNat_of_nonneg (by omega)]
    have HR := Vx.hid hr
    clear hr
    generalize pickL n m = k at HR
    go_enter Try.func20, Try.ntmps20
    go_wp2
    all_goals
      go_ret
      refine ⟨?_, rfl⟩
      show Ending.returned (Value.int .i64 (-(n + 1).tmod (m : Int))) = _
      rw [HR.out]
  · have hr : n.tmod (m : Int) = (pickL n m : Nat) := by
      rw [Int.tmod_eq_emod_of_nonneg (by omega)]
      unfold pickL
      rw [if_neg hn, Int.natCast_emod, Int.toNat_of_nonneg (by omega)]
    have hk : (pickL n m) < m := Nat.mod_lt _ (by omega)
    generalize pickL n m = k at hr hk
    have hw3 : IntKind.i64.wrap (k : Int) = (k : Int) := by rw [IntKind.wrap_i64]; omega
    go_enter Try.func20, Try.ntmps20
    go_wp2
    all_goals
      go_ret
      first | exact ⟨rfl, rfl⟩ | skip
/-- A number of 64 bits. -/
def I64 (n : Int) : Prop := -9223372036854775808 ≤ n ∧ n ≤ 9223372036854775807
def nearF (c : Int) (n : Nat) : Int := if c.tmod 31 = 30 then c else (pickL c (n + 2) : Nat) - 1
theorem near_i64 {c : Int} (h : I64 c) (n : Nat) (hn : n ≤ 1048576) : I64 (nearF c n) := by
  unfold nearF
  split
  · exact h
  · have : pickL c (n + 2) < n + 2 := Nat.mod_lt _ (by omega)
    unfold I64
    omega
theorem near_any (c : Int) (h : I64 c) (n : Nat) (hn : n ≤ 1048576) (w : World) :
    Calls Try.prog 5 #[.int .i64 c, .int .i64 (n : Int)] w fun e w' => e = .returned (.int .i64 (nearF c n)) ∧ w' = w := by
  obtain ⟨h0, h1⟩ := h
  by_cases h3 : c.tmod 31 = 30
  · have HN : Hid (nearF c n = c) := if_pos h3
    go_enter Try.func5, Try.ntmps5
    go_wp2_with fail
    all_goals
      go_ret
      rw [HN.out]
      exact ⟨rfl, rfl⟩
  · have HN : Hid (nearF c n = (pickL c (n + 2) : Nat) - 1) := if_neg h3
    have HP := Vx.hid (pickL_any (n + 2) (by omega) (by omega) c h0 h1)
    have hk : pickL c (n + 2) < n + 2 := Nat.mod_lt _ (by omega)
    generalize pickL c (n + 2) = k at HP HN hk
    obtain ⟨m, hm⟩ : ∃ m, m = n + 2 := ⟨_, rfl⟩
    rw [← hm] at HP
    have e1 : (n : Int) + 2 = (m : Int) := by omega
    have w1 : IntKind.i64.wrap (m : Int) = (m : Int) := by rw [IntKind.wrap_i64]; omega
    have w2 : IntKind.i64.wrap ((k : Int) - 1) = (k : Int) - 1 := by rw [IntKind.wrap_i64]; omega
    clear hm hk
    go_enter Try.func5, Try.ntmps5
    go_wp2_with fail
    refine (HP.out _).mono ?_
    rintro e w' ⟨rfl, h⟩
    have h3 := h.symm; clear h; subst h3
    go_wp2_with fail
    all_goals
      go_ret
      rw [HN.out]
      exact ⟨rfl, rfl⟩
end Go.Proofs.Ytbbabpgmclhinaa

/- append as a step of a region that draws. -/
namespace Go.Vx
set_option linter.unusedVariables false
variable {α : Type}
theorem step_append_one {P : Program} {L : Lay α} {t e : TypeId} (hk : Kind P L t e) {w : World} {ops : Array Oper} {o : Oper} {a : Act} {K : Act → World → Prop} {Q : Exit → Act → World → Prop} {E : Prop} (hgd : o.guard = none) (s x : Operand)
    (ho : o.op = .call { callee := .builtin .append, args := #[s, x], argTypes := #[t, t] }) (base : Nat) (v : Value) (xs : List α) (hs : a.eval s = v) (hown : OwnL L w base e v xs) (y : α) (b n c : Nat) (hx : a.eval x = .slice (some ⟨b, 0, none⟩) 1 c) (hy : ∀ j u, (L.cf y)[j]? = some u → w.cell? ⟨b, j, none⟩ = some u) (hlen : xs.length + 1 ≤ 10000000) (hbase : base ≤ w.heap.size)
    (h : ∀ v' w', OwnL L w' base e v' (xs ++ [y]) → Only (fun k => v.ownBlock = some k) w w' → (v'.ownBlock = v.ownBlock ∨ ∃ g, v'.ownBlock = some g ∧ w.heap.size ≤ g ∧ Only (fun _ => False) w w') → K (a.put o.dst v') w') : if Region.wanted o (yielded ops a.tmps) = true then Oper.wp P o a w K Q else E := by
  have hw : Region.wanted o (yielded ops a.tmps) = true := by simp [Region.wanted, hgd]
  rw [if_pos hw]
  obtain ⟨v', w', hr, h2, h3, h4⟩ := run_append_many hk w o.type base v xs hown (some ⟨b, 0, none⟩) c [y] (fun _ => ⟨_, rfl, fun j u hj => by rw [addr_add, Nat.zero_add]; exact hy j u (by rw [fl_one] at hj; exact hj)⟩) hlen hbase
  have hr' : (Builtin.append_ #[t, t] o.type #[v, .slice (some ⟨b, 0, none⟩) 1 c]).run P w = .ok v' w' := hr
  unfold Oper.wp execOp
  simp only [ho, resolve, invoke, builtin, Sem.run_bind, Sem.run_pure, Result.andThen_ok, List.map_toArray, List.map_cons, List.map_nil, hs, hx, hr']
  exact h v' w' h2 h3 h4
theorem step_callx {P : Program} {ops : Array Oper} {o : Oper} {a : Act} {w : World} {K : Act → World → Prop} {Q : Exit → Act → World → Prop} {E : Prop} {R : Ending → World → Prop}
    (hg : o.guard = none) (f : FuncId) (args : Array Operand) (ats : Array TypeId) (hop : o.op = Op.call { callee := Callee.value (.func f), args := args, argTypes := ats }) (vals : Array Value) (hv : args.map a.eval = vals)
    (hcf : (callFunc f vals).run P w = .ok (.enter f vals) w) (hC : Calls P f vals w R) (hR : ∀ e w', R e w' → ∃ v, e = .returned v ∧ K (a.put o.dst v) w') :
    if Region.wanted o (yielded ops a.tmps) = true then Oper.wp P o a w K Q else E := by
  have hw : Region.wanted o (yielded ops a.tmps) = true := by simp [Region.wanted, hg]
  rw [if_pos hw]
  unfold Oper.wp
  simp [execOp, hop, resolve, invoke, hv, hcf, Act.eval, Deferred.ofValue]
  refine hC.mono ?_
  intro e w' h
  obtain ⟨v, rfl, hk⟩ := hR e w' h
  exact hk
theorem only_set8 (w : World) (g : Nat) (a0 a1 a2 a3 a4 a5 a6 a7 : Value) : Only (fun k => k = g) w ((((((((w.setCell ⟨g, 0, none⟩ a0).setCell ⟨g, 1, none⟩ a1).setCell ⟨g, 2, none⟩ a2).setCell ⟨g, 3, none⟩ a3).setCell ⟨g, 4, none⟩ a4).setCell ⟨g, 5, none⟩ a5).setCell ⟨g, 6, none⟩ a6).setCell ⟨g, 7, none⟩ a7) :=
  ((((((((Only.refl (fun k => k = g) w).setCell (p := ⟨g, 0, none⟩) (Or.inl rfl) a0).setCell (p := ⟨g, 1, none⟩) (Or.inl rfl) a1).setCell (p := ⟨g, 2, none⟩) (Or.inl rfl) a2).setCell (p := ⟨g, 3, none⟩) (Or.inl rfl) a3).setCell (p := ⟨g, 4, none⟩) (Or.inl rfl) a4).setCell (p := ⟨g, 5, none⟩) (Or.inl rfl) a5).setCell (p := ⟨g, 6, none⟩) (Or.inl rfl) a6).setCell (p := ⟨g, 7, none⟩) (Or.inl rfl) a7
end Go.Vx

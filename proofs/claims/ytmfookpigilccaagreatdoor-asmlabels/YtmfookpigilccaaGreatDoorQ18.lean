/- Walks of the two closures of package asm's Assemble. -/
import Derived.Test.YtmfookpigilccaaGreatDoorQ15
import Derived.Test.YtmfookpigilccaaGreatDoorQ17
import Derived.Test.YtmfookpigilccaaGreatDoorQ8
namespace Go.Vx
/-- A call of a function by its contract, as one step of a region that draws. -/
theorem step_call {P : Program} {ops : Array Oper} {o : Oper} {a : Act} {w : World} {K : Act → World → Prop} {Q : Exit → Act → World → Prop} {E : Prop} {R : Ending → World → Prop}
    (hg : o.guard = none) (f : FuncId) (args : Array Operand) (ats : Array TypeId) (hop : o.op = Op.call { callee := Callee.value (.func f), args := args, argTypes := ats }) (vals : Array Value) (hv : args.map a.eval = vals)
    (hcf : (callFunc f vals).run P w = .ok (.enter f vals) w) (hC : Calls P f vals w R) (hR : ∀ e w', R e w' → ∃ v, e = .returned v ∧ K (a.put o.dst v) w') :
    if Region.wanted o (yielded ops a.tmps) = true then Oper.wp P o a w K Q else E := by
  have hw : Region.wanted o (yielded ops a.tmps) = true := by simp [Region.wanted, hg]
  rw [if_pos hw]
  unfold Oper.wp
  simp [execOp, hop, resolve, invoke, hv, hcf, Act.eval, Deferred.ofValue]
  refine hC.mono ?_
  intro e w' h
  obtain ⟨v, rfl, hk⟩ := hR e w' h
  exact hk
theorem add_off (g j : Nat) : (⟨g, 0, none⟩ : Addr).add j = ⟨g, j, none⟩ := by unfold Addr.add; split <;> simp_all
/-- append of one's own row, or of nil, onto one's own row, as one step of a region that draws. -/
theorem step_append_rows {P : Program} {ops : Array Oper} {o : Oper} {a : Act} {w : World} {K : Act → World → Prop} {Q : Exit → Act → World → Prop} {E : Prop}
    (hg : o.guard = none) (s x : Operand) (t : TypeId) (hop : o.op = Op.call { callee := Callee.builtin Builtin.append, args := #[s, x], argTypes := #[t, t] })
    (base : Nat) (e : TypeId) (i : TypeInfo) (z : Value) (size bytes : Nat) (h1 : P.underlying t = some (.slice e)) (h2 : P.info? e = some i) (h3 : i.zero = some z) (h4 : i.size = size) (h5 : i.bytes = bytes) (h6 : z.cells.size = size) (h7 : 0 < size)
    (v : Value) (n : Nat) (xs : List Value) (hs : a.eval s = v) (hown : w.ownsRow base e size v n xs)
    (sv : Value) (B m : Nat) (news : List Value) (hx : a.eval x = sv) (hsrc : w.ownsRow B e size sv m news) (h1c : ∀ u ∈ news, u.oneCell' = true)
    (b1 : n + m ≤ maxLen) (b2 : (n + m) * bytes ≤ 140737488355328) (hb : base ≤ w.heap.size)
    (hK : ∀ v' w', w'.ownsRow base e size v' (n + m) (xs ++ news) → w.grownBy w' v.ownBlock → (v'.ownBlock = v.ownBlock ∨ v'.ownBlock = some w.heap.size) → K (a.put o.dst v') w') :
    if Region.wanted o (yielded ops a.tmps) = true then Oper.wp P o a w K Q else E := by
  rcases hsrc.2 with ⟨rfl, rfl⟩ | ⟨g, cap, cur, rfl, rest⟩
  · have hw : Region.wanted o (yielded ops a.tmps) = true := by simp [Region.wanted, hg]
    rw [if_pos hw]
    have hrun := run_append_owned_none (P := P) (w := w) base t o.type e i size h1 h2 v n xs hown
    have hnil : news = [] := List.length_eq_zero_iff.1 (by rw [hsrc.1]; omega)
    subst hnil
    unfold Oper.wp
    simp [execOp, hop, resolve, invoke, builtin, hs, hx, hrun, Result.andThen]
    exact hK v w (by simpa using hown) ⟨rfl, rfl, rfl, Nat.le_refl _, fun _ _ _ => rfl⟩ (Or.inl rfl)
  · refine step_append_own hg s x t hop base e i z size bytes h1 h2 h3 h4 h5 h6 h7 v n xs hs hown ⟨g, 0, none⟩ m cap news hx hsrc.1 (fun j u hj => ?_) h1c b1 b2 hb hK
    rw [add_off, World.ownsRow.cellAt hsrc j (by rw [← hsrc.1]; exact (List.getElem?_eq_some_iff.1 hj).1)]
    exact hj
end Go.Vx
namespace Go.Proofs.YtmfookpigilccaaGreatDoor
open Go.ChangeShapes Go.WideShapes Go.ChangeAt Go.RowKit Go.Maps
open Go.Vx (strV labN Only Ins insV Stm stToks stOk stLen wordOf dec tokF fourB)

/-- The lines of the text, where they lie. -/
structure SrcAt (w : World) (sb rb : Nat) (srcs : List (List UInt8)) : Prop where
  sb : w.cell? ⟨sb, 0, none⟩ = some (.slice (some ⟨rb, 0, none⟩) srcs.length srcs.length)
  rb : ∀ (j : Nat) (h : j < srcs.length), w.cell? ⟨rb, j, none⟩ = some (.string ⟨(srcs[j]).toArray⟩)
theorem close_1 (pb sb rb k : Nat) (srcs : List (List UInt8)) (hk : k < srcs.length) (w : World) (hs : SrcAt w sb rb srcs) (R : World → Prop)
    (h : Calls Tryz.prog 16 #[.pointer (some ⟨pb, 0, none⟩), .string ⟨(srcs[k]).toArray⟩] w fun e w' => e = .returned (.tuple #[]) ∧ R w') :
    Calls Tryz.prog 15 #[.int .i64 k, .pointer (some ⟨pb, 0, none⟩), .pointer (some ⟨sb, 0, none⟩)] w fun e w' => e = .returned (.tuple #[]) ∧ R w' := by
  have H : Hid (Calls Tryz.prog 16 #[.pointer (some ⟨pb, 0, none⟩), .string ⟨(srcs[k]).toArray⟩] w fun e w' => e = .returned (.tuple #[]) ∧ R w') := h
  have h1 := hs.sb
  have h2 := hs.rb k hk
  obtain ⟨s, hsr⟩ : ∃ s, srcs[k] = s := ⟨_, rfl⟩
  rw [hsr] at h2 H
  have hidx : 0 ≤ (k : Int) ∧ (k : Int) < (srcs.length : Int) := by omega
  clear h hs hsr
  go_enter Tryz.func15, Tryz.ntmps15
  go_wp2_with fail
  refine H.out.mono ?_
  rintro e w1 ⟨rfl, hR⟩
  have HR : Hid (R w1) := hR
  clear hR
  go_wp2_with fail
  first | go_end0 | refine bodyPost_ret (results_none rfl _ _ _) rfl ?_
  exact ⟨rfl, HR.out⟩

/-- The code that is made till now. -/
structure CodeAt (w : World) (cb : Nat) (bs : List UInt8) : Prop where
  lt : cb < w.heap.size
  cell : ∃ p k c, w.cell? ⟨cb, 0, none⟩ = some (.slice p k c) ∧ w.ownsRow (cb + 1) 5 1 (.slice p k c) bs.length (bs.map u8V)
  fz : w.frozen? ⟨cb, 0, none⟩ = false
def CodeOwn (cb : Nat) (w : World) (b : Nat) : Prop := b = cb ∨ ∃ v, w.cell? ⟨cb, 0, none⟩ = some v ∧ v.ownBlock = some b
theorem CodeAt.only {S : Nat → Prop} {w w' : World} {cb : Nat} {bs : List UInt8} (h : CodeAt w cb bs) (ho : Only S w w') (hS : ∀ b, CodeOwn cb w b → ¬ S b) : CodeAt w' cb bs ∧ ∀ b, CodeOwn cb w' b ↔ CodeOwn cb w b := by
  have hc : w'.cell? ⟨cb, 0, none⟩ = w.cell? ⟨cb, 0, none⟩ := ho.cell (p := ⟨cb, 0, none⟩) h.lt (hS cb (Or.inl rfl))
  obtain ⟨p, k, c, h0, hr⟩ := h.cell
  refine ⟨⟨Nat.lt_of_lt_of_le h.lt ho.size, ⟨p, k, c, by rw [hc]; exact h0, row_only hr ho (fun b hb => hS b (Or.inr ⟨_, h0, hb⟩))⟩, by rw [ho.frozen (p := ⟨cb, 0, none⟩) h.lt (hS cb (Or.inl rfl))]; exact h.fz⟩, fun b => ?_⟩
  unfold CodeOwn
  rw [hc]
theorem CodeAt.own_lt {w : World} {cb : Nat} {bs : List UInt8} (h : CodeAt w cb bs) (b : Nat) (hb : CodeOwn cb w b) : b < w.heap.size ∧ cb ≤ b := by
  rcases hb with rfl | ⟨v, hv, hvb⟩
  · exact ⟨h.lt, Nat.le_refl _⟩
  · obtain ⟨p, k, c, h0, hr⟩ := h.cell
    rw [h0] at hv
    obtain rfl := Option.some.inj hv
    have := hr.lt b hvb
    exact ⟨this.2, by omega⟩
set_option maxRecDepth 100000 in
set_option maxHeartbeats 2000000 in
theorem close_2 (cb pb k : Nat) (bs xs : List UInt8) (hxs : xs.length ≤ 4) (hbs : bs.length ≤ 1000000) (w : World) (hc : CodeAt w cb bs)
    (h : ∀ w2, Only (fun _ => False) w w2 → Calls Tryz.prog 18 #[.pointer (some ⟨pb, 0, none⟩), .int .i64 k] w2 fun e w' => ∃ v, e = .returned v ∧ w'.ownsRow w2.heap.size 5 1 v xs.length (xs.map u8V) ∧ Only (fun _ => False) w2 w') :
    Calls Tryz.prog 17 #[.int .i64 k, .pointer (some ⟨cb, 0, none⟩), .pointer (some ⟨pb, 0, none⟩)] w fun e w' => e = .returned (.tuple #[]) ∧ CodeAt w' cb (bs ++ xs) ∧ Only (CodeOwn cb w) w w' ∧ ∀ b, b < w.heap.size → CodeOwn cb w' b → CodeOwn cb w b := by
  obtain ⟨p, n, c, h0, hr⟩ := hc.cell
  have HC : Hid (CodeAt w cb bs) := hc
  have hlt := hc.lt
  have hff := hc.fz
  have hcf : ∀ args wv, (callFunc 18 args).run Tryz.prog wv = .ok (.enter 18 args) wv := fun _ _ => by simp [go_sem]
  obtain ⟨i0, hi, hz0, hz1, hz2⟩ := info_parts infoByte
  have HB : Hid (Calls Tryz.prog 18 #[.pointer (some ⟨pb, 0, none⟩), .int .i64 k] w.drew fun e w' => ∃ p1 n1 c1, e = .returned (.slice p1 n1 c1) ∧ w'.cell? ⟨cb, 0, none⟩ = some (.slice p n c) ∧ Hid (w'.ownsRow w.heap.size 5 1 (.slice p1 n1 c1) xs.length (xs.map u8V) ∧ w'.ownsRow (cb + 1) 5 1 (.slice p n c) bs.length (bs.map u8V) ∧ Only (fun _ => False) w w' ∧ cb + 1 ≤ w'.heap.size)) := by
    refine (h w.drew (Only.refl _ w).drew).mono ?_
    rintro e w' ⟨v, rfl, h1, h2⟩
    have h2' : Only (fun _ => False) w w' := ⟨h2.os, h2.tape, h2.output, h2.size, h2.block⟩
    obtain ⟨p1, n1, c1, rfl⟩ := slice_shape h1
    refine ⟨p1, n1, c1, rfl, ?_, h1, row_only hr h2' (fun _ _ h => h), h2', by have := h2'.size; omega⟩
    rw [h2'.cell (p := ⟨cb, 0, none⟩) hlt (fun h => h)]
    exact h0
  have HL : Hid (bs.length + xs.length ≤ maxLen ∧ (bs.length + xs.length) * 1 ≤ 140737488355328 ∧ ∀ u ∈ xs.map u8V, u.oneCell' = true) := by
    refine ⟨by unfold maxLen; omega, by omega, fun u hu => ?_⟩
    rw [List.mem_map] at hu
    obtain ⟨x, _, rfl⟩ := hu
    rfl
  have HG : Hid (∀ w1 w4 v', Only (fun _ => False) w w1 → w1.grownBy w4 (Value.slice p n c).ownBlock → w4.ownsRow (cb + 1) 5 1 v' (bs.length + xs.length) (bs.map u8V ++ xs.map u8V) → (v'.ownBlock = (Value.slice p n c).ownBlock ∨ v'.ownBlock = some w1.heap.size) → ∃ p' k' c', v' = .slice p' k' c' ∧ w4.cell? ⟨cb, 0, none⟩ = some (.slice p n c) ∧ w4.frozen? ⟨cb, 0, none⟩ = false ∧
      Hid (CodeAt (w4.setCell ⟨cb, 0, none⟩ (.slice p' k' c')) cb (bs ++ xs) ∧ Only (CodeOwn cb w) w (w4.setCell ⟨cb, 0, none⟩ (.slice p' k' c')) ∧ ∀ b, b < w.heap.size → CodeOwn cb (w4.setCell ⟨cb, 0, none⟩ (.slice p' k' c')) b → CodeOwn cb w b)) := by
    intro w1 w4 v' ho hg hown' hloc
    obtain ⟨p', k', c', rfl⟩ := slice_shape hown'
    have hob : ∀ b, (Value.slice p n c).ownBlock = some b → cb + 1 ≤ b := fun b hb => (hr.lt b hb).1
    have g4 : Only (fun x => (Value.slice p n c).ownBlock = some x) w w4 := (ho.mono fun _ _ h => h.elim).trans (Only.of_grown hg (fun k hk => hk))
    have ncb : ¬ (Value.slice p n c).ownBlock = some cb := fun e => by have := hob cb e; omega
    have hc4 : w4.cell? ⟨cb, 0, none⟩ = some (.slice p n c) := by rw [g4.cell (p := ⟨cb, 0, none⟩) hlt ncb]; exact h0
    have hf4 : w4.frozen? ⟨cb, 0, none⟩ = false := by rw [g4.frozen (p := ⟨cb, 0, none⟩) hlt ncb]; exact HC.out.fz
    have o5 : Only (fun x => x = cb) w4 (w4.setCell ⟨cb, 0, none⟩ (.slice p' k' c')) := Only.setCell (S := fun x => x = cb) (Only.refl _ _) (p := ⟨cb, 0, none⟩) (Or.inl rfl) _
    have s4 := g4.size
    refine ⟨p', k', c', rfl, hc4, hf4, ⟨by rw [size_set]; omega, ⟨p', k', c', same hc4, ?_⟩, frz_set _ _ _ _ hf4⟩, ?_, fun b hb hbo => ?_⟩
    · have := row_only hown' o5 (fun b hb e => by have := (hown'.lt b hb).1; omega)
      simpa using this
    · exact (g4.mono fun b _ hb => Or.inr ⟨_, h0, hb⟩).trans (o5.mono fun b _ hb => Or.inl hb)
    · rcases hbo with hbo | ⟨v, hv, hvb⟩
      · exact Or.inl hbo
      · rw [same hc4] at hv
        obtain rfl := Option.some.inj hv
        rcases hloc with e | e
        · rw [e] at hvb; exact Or.inr ⟨_, h0, hvb⟩
        · rw [e] at hvb
          obtain rfl := Option.some.inj hvb
          have := ho.size
          omega
  clear hr h hc
  go_enter Tryz.func17, Tryz.ntmps17
  go_region_law (first | (refine Vx.step_append_rows rfl (.tmp 4) (.tmp 6) 47 rfl (cb + 1) 5 i0 (.int .u8 0) 1 1 Tryz.underlying47 hi hz0 hz1 hz2 rfl (by decide) (.slice p n c) bs.length (bs.map u8V) (by simp [Act.eval]) H1.out.2.1 _ _ xs.length (xs.map u8V) rfl H1.out.1 HL.out.2.2 HL.out.1 HL.out.2.1 H1.out.2.2.2 ?_; intro v' w4 hown' hgrow' hloc'; obtain ⟨p', k', c', rfl, hg1, hg2, HG3⟩ := HG.out w1 w4 v' H1.out.2.2.1 hgrow' hown' hloc') | (refine Vx.step_call rfl 18 #[.tmp 2, .tmp 5] #[42, 3] rfl #[.pointer (some ⟨pb, 0, none⟩), .int .i64 k] (by simp [Act.eval, Act.put]) (hcf _ _) HB.out ?_; rintro e w1 ⟨p1, n1, c1, rfl, hcc1, H1⟩; refine ⟨_, rfl, ?_⟩))
  all_goals first | go_end0 | refine bodyPost_ret (results_none rfl _ _ _) rfl ?_
  all_goals exact ⟨rfl, HG3.out⟩
end Go.Proofs.YtmfookpigilccaaGreatDoor

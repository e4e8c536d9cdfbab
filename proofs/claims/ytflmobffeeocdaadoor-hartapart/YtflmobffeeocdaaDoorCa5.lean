import Derived.Test.YtflmobffeeocdaaDoorCa4
import Derived.Deep.RegionLaw
import Derived.Deep.CutRange
/- Walks of package mem: Write. -/
namespace Go.Vx
/-- A call of a function by its contract, as one step of a region that draws. -/
theorem step_call {P : Program} {ops : Array Oper} {o : Oper} {a : Act} {w : World} {K : Act → World → Prop} {Q : Exit → Act → World → Prop} {E : Prop} {R : Ending → World → Prop}
    (hg : o.guard = none) (f : FuncId) (args : Array Operand) (ats : Array TypeId) (hop : o.op = Op.call { callee := Callee.value (.func f), args := args, argTypes := ats }) (vals : Array Value) (hv : args.map a.eval = vals)
    (hcf : (callFunc f vals).run P w = .ok (.enter f vals) w) (hC : Calls P f vals w R) (hR : ∀ e w', R e w' → ∃ v, e = .returned v ∧ K (a.put o.dst v) w') :
    if Region.wanted o (yielded ops a.tmps) = true then Oper.wp P o a w K Q else E := by
  have hw : Region.wanted o (yielded ops a.tmps) = true := by simp [Region.wanted, hg]
  rw [if_pos hw]
  unfold Oper.wp
  simp [execOp, hop, resolve, invoke, hv, hcf, Act.eval, Deferred.ofValue]
  refine hC.mono ?_
  intro e w' h
  obtain ⟨v, rfl, hk⟩ := hR e w' h
  exact hk
theorem str_cells (s : List UInt8) (m : Nat) : (((⟨s.toArray⟩ : ByteArray).extract 0 m).data.map fun b => Value.int .u8 (b.toNat : Int)).toList = (s.take m).map byteV := by
  have h : ((⟨s.toArray⟩ : ByteArray).extract 0 m).data.toList = s.take m := by
    rw [ByteArray.data_extract]
    simp
  rw [Array.toList_map, h]
  rfl
/-- copy out of a string. -/
theorem run_copy_str {P : Program} (w : World) (dT sT ty elem : TypeId) (g o dLen dCap : Nat) (s : List UInt8) (cur : List Value) (t : TypeId) (hu : P.underlying dT = some (.slice elem)) (hs : (P.info? elem).map (·.size) = some 1)
    (hg : w.heap[g]? = some (.cells cur.toArray t (0, 0))) (hfit : o + (s.take dLen).length ≤ cur.length) :
    (Builtin.copy_ #[dT, sT] ty #[.slice (some ⟨g, o, none⟩) dLen dCap, .string ⟨s.toArray⟩]).run P w = .ok (goInt ((s.take dLen).length : Nat)) (w.setRow g (splice cur o ((s.take dLen).map byteV)).toArray) := by
  have hm : Nat.min (ByteArray.mk s.toArray).size dLen = (s.take dLen).length := by
    rw [List.length_take]
    show min _ _ = _
    have : (ByteArray.mk s.toArray).size = s.length := by simp [ByteArray.size]
    rw [this]; omega
  have hcs : (s.take (s.take dLen).length) = s.take dLen := by
    rw [List.length_take]
    apply List.take_eq_take_iff.2
    omega
  have hst := run_storeCells_at P g o t ((s.take dLen).map byteV) 0 cur.toArray w hg (by simpa using hfit) (oneCell_bytes _)
  have hso : (sizeOf elem).run P w = .ok 1 w := by
    cases hq : P.info? elem with
    | none => simp [hq] at hs
    | some i => simp [hq] at hs; simp [sizeOf, typeInfo, hq, hs]
  have h3 : ((s.take (s.take dLen).length).map byteV) = (s.take dLen).map byteV := by rw [hcs]
  simp only [Builtin.copy_, List.getElem?_toArray, List.getElem?_cons_zero, List.getElem?_cons_succ, Sem.run_bind, run_underlying hu, Result.andThen, Builtin.lenOf, Sem.run_pure, Builtin.firstCells, hso, hm]
  rw [str_cells, h3, hst]
  simp only [splice, List.append_assoc, Nat.add_zero, List.length_map]
/-- The same as one step of a region that draws. -/
theorem step_copy_str {P : Program} {ops : Array Oper} {o : Oper} {a : Act} {w : World} {K : Act → World → Prop} {Q : Exit → Act → World → Prop} {E : Prop} (hgd : o.guard = none) (d x : Operand) (dT sT : TypeId)
    (ho : o.op = .call { callee := .builtin .copy, args := #[d, x], argTypes := #[dT, sT] }) (elem : TypeId) (hu : P.underlying dT = some (.slice elem)) (hsz : (P.info? elem).map (·.size) = some 1)
    (g off dLen dCap : Nat) (s : List UInt8) (hd : a.eval d = .slice (some ⟨g, off, none⟩) dLen dCap) (hs : a.eval x = .string ⟨s.toArray⟩)
    (cur : List Value) (t : TypeId) (hg : w.heap[g]? = some (.cells cur.toArray t (0, 0))) (hfit : off + (s.take dLen).length ≤ cur.length)
    (c : Nat) (hc : (s.take dLen).length = c) (R : World → Prop) (hR : R (w.setRow g (splice cur off ((s.take dLen).map byteV)).toArray)) (h : ∀ w', R w' → K (a.put o.dst (goInt c)) w') :
    if Region.wanted o (yielded ops a.tmps) = true then Oper.wp P o a w K Q else E := by
  have hw : Region.wanted o (yielded ops a.tmps) = true := by simp [Region.wanted, hgd]
  rw [if_pos hw]
  have hrun := run_copy_str (P := P) w dT sT o.type elem g off dLen dCap s cur t hu hsz hg hfit
  rw [hc] at hrun
  generalize w.setRow g (splice cur off ((s.take dLen).map byteV)).toArray = w2 at hrun hR
  unfold Oper.wp
  simp [execOp, ho, resolve, invoke, builtin, hd, hs, hrun, Result.andThen]
  exact h _ hR
end Go.Vx
namespace Go.Proofs.YtflmobffeeocdaaDoor
open Go.ChangeShapes Go.WideShapes Go.ChangeAt Go.RowKit
open Go.Vx

theorem sizeByte : (Tryd.prog.info? 5).map (·.size) = some 1 := by kernel_rfl
/-- A world with bytes in a page. -/
theorem MemIs.put {U : Nat → Prop} {w : World} {bm bp n : Nat} {q : Nat → Option Nat} {f : Nat → UInt8} (h : MemIs U w bm bp n q f) {p b : Nat} (hp : p < n) (hq : q p = some b) (o : Nat) (t : List UInt8) (ht : o + t.length ≤ 4096) :
    MemIs U (w.setRow b (rowV (putF f (4096 * p + o) t) (4096 * p) 4096).toArray) bm bp n q (putF f (4096 * p + o) t) ∧ Only (fun k => ¬ U k) w (w.setRow b (rowV (putF f (4096 * p + o) t) (4096 * p) 4096).toArray) := by
  have hn : ∀ k x, w.heap[k]? = some x → k ≠ b → (w.setRow b (rowV (putF f (4096 * p + o) t) (4096 * p) 4096).toArray).heap[k]? = some x := fun k x hk hne => by
    rw [setRow_other w b k _ hne]; exact hk
  have hne := h.pne hp hq
  refine ⟨⟨h.pos, h.top, hn _ _ h.m hne.1.symm, hn _ _ h.p hne.2.symm, ?_, ?_, h.inj, h.um, h.up, h.ug, ?_⟩, (Only.refl _ w).setRow (Or.inl (h.ug p b hp hq)) _⟩
  · intro i hi hqi j hj
    have hip : i ≠ p := fun e => by rw [e, hq] at hqi; cases hqi
    rw [← h.nil i hi hqi j hj]
    unfold putF
    rw [if_neg]
    omega
  · intro i hi c hc
    by_cases hip : i = p
    · subst hip
      obtain rfl : b = c := by rw [hq] at hc; simpa using hc
      exact setRow_heap w b _ _ _ _ (h.pg i hi b hq)
    · have hcb : c ≠ b := fun e => hip (h.inj i p b hi hp (by rw [hc, e]) hq)
      rw [row_out f (4096 * i) 4096 (4096 * p + o) t (by rcases Nat.lt_or_gt_of_ne hip with h1 | h1 <;> omega)]
      exact hn _ _ (h.pg i hi c hc) hcb
  · intro k hk
    have := h.low k hk
    simp [World.setRow]
    omega
theorem page_from (b o : Nat) (ho : o < 4096) (w : World) : (Instr.sliceAt 79 (.pointer (some ⟨b, 0, none⟩)) (some (.int .i64 (o : Int))) none none).run Tryd.prog w = .ok (.slice (some ⟨b, o, none⟩) (4096 - o) (4096 - o)) w := by
  have h0 : ¬ 4096 = o := by omega
  have hl : Tryd.prog.arrayLen 79 = 4096 := by kernel_rfl
  have he : Tryd.prog.elem 79 = 5 := by kernel_rfl
  have hu : Tryd.prog.underlying 79 = some (.array (Tryd.prog.arrayLen 79) (Tryd.prog.elem 79)) := by kernel_rfl
  have hsz : (sizeOf 5).run Tryd.prog w = .ok 1 w := by
    have := sizeByte
    cases hq : Tryd.prog.info? 5 with
    | none => rw [hq] at this; simp at this
    | some i => rw [hq] at this; simp at this; simp [sizeOf, typeInfo, hq, this]
  rw [run_sliceAt_array_l w 79 ⟨b, 0, none⟩ hu .i64 (o : Int) (by omega) (by rw [hl]; omega), he, hsz, hl]
  simp [slicedAt, h0, Addr.add]
  omega
theorem str_from (p : ByteArray) (s : List UInt8) (hp : p = ⟨s.toArray⟩) (k : Nat) (hk : k ≤ s.length) (w : World) : (Instr.slice 9 (.string p) (some (.int .i64 (k : Int))) none none).run Tryd.prog w = .ok (.string ⟨(s.drop k).toArray⟩) w := by
  subst hp
  have hs : (ByteArray.mk s.toArray).size = s.length := by simp [ByteArray.size]
  rw [run_slice_string_l w 9 _ Tryd.underlying9 .i64 (k : Int) (by omega) (by omega)]
  simp only [Int.toNat_natCast]
  have : (ByteArray.mk s.toArray).extract k (ByteArray.mk s.toArray).size = ⟨(s.drop k).toArray⟩ := by
    rw [hs]
    apply ByteArray.ext
    rw [ByteArray.data_extract]
    apply Array.ext'
    simp
    exact List.take_of_length_le (by simp)
  rw [this]
end Go.Proofs.YtflmobffeeocdaaDoor

/- Walks of package mem: Write. -/
namespace Go.Proofs.YtflmobffeeocdaaDoor
open Go.ChangeShapes Go.WideShapes Go.ChangeAt Go.RowKit
open Go.Vx

theorem write_no {U : Nat → Prop} {w : World} {bm n : Nat} {f : Nat → UInt8} (h : MemAt U w bm n f) (a : Int) (s : List UInt8) (hi : insB n a (s.length : Nat) = false) :
    Calls Tryd.prog 6 #[.pointer (some ⟨bm, 0, none⟩), .int .i64 a, .string ⟨s.toArray⟩] w fun e w' => e = .returned (.int .i64 1) ∧ w' = w := by
  obtain ⟨p, hp⟩ : ∃ p : ByteArray, p = ⟨s.toArray⟩ := ⟨_, rfl⟩
  rw [← hp]
  have hps : p.size = s.length := by rw [hp]; simp [ByteArray.size]
  have HC : Hid (Calls Tryd.prog 14 #[.pointer (some ⟨bm, 0, none⟩), .int .i64 a, .int .i64 (s.length : Nat)] w fun e w' => e = .returned (.bool false) ∧ w' = w) := by
    refine (holds_any h a (s.length : Nat)).mono ?_
    rintro e w' ⟨rfl, rfl⟩
    rw [hi]
    exact ⟨rfl, rfl⟩
  clear h hi hp
  go_enter Tryd.func6, Tryd.ntmps6
  go_wp2_with fail
  refine HC.out.mono ?_
  rintro e w' ⟨rfl, rfl⟩
  go_wp2_with fail
  all_goals
    go_ret
    exact ⟨rfl, rfl⟩
/-- What a round of Write leaves. -/
def WrR (U : Nat → Prop) (w : World) (bm bp n : Nat) (f : Nat → UInt8) (at' : Nat) (s : List UInt8) (k : Nat) (wr : World) : Prop := (∃ q, MemIs U wr bm bp n q (putF f at' (s.take k))) ∧ Only (fun k => ¬ U k) w wr
theorem WrR.drew {U : Nat → Prop} {w : World} {bm bp n : Nat} {f : Nat → UInt8} {at' : Nat} {s : List UInt8} {k : Nat} {wr : World} (h : WrR U w bm bp n f at' s k wr) : WrR U w bm bp n f at' s k wr.drew := by
  obtain ⟨⟨q, hm⟩, ho⟩ := h
  exact ⟨⟨q, hm.only ((Only.refl (fun _ => False) wr).drew) (fun _ h _ => h.elim)⟩, ho.drew⟩
theorem wr_step {U : Nat → Prop} {w wr : World} {bm bp n : Nat} {f : Nat → UInt8} {at' : Nat} {s : List UInt8} {k : Nat} (h : WrR U w bm bp n f at' s k wr) (hk : k < s.length) (hin : at' + s.length ≤ 4096 * n) (p o : Nat) (hpo : at' + k = 4096 * p + o) (ho : o < 4096) :
    Calls Tryd.prog 16 #[.pointer (some ⟨bm, 0, none⟩), .int .i64 (p : Int)] wr fun e w2 => ∃ (b : Nat) (cur : List Value), e = .returned (.pointer (some ⟨b, 0, none⟩)) ∧ Hid (w2.heap[b]? = some (.cells cur.toArray 79 (0, 0)) ∧ cur.length = 4096 ∧
      WrR U w bm bp n f at' s (k + ((s.drop k).take (4096 - o)).length) (w2.setRow b (splice cur o (((s.drop k).take (4096 - o)).map byteV)).toArray)) := by
  obtain ⟨⟨q, hm⟩, ho1⟩ := h
  have hp : p < n := by omega
  refine (made_any hm p hp).mono ?_
  rintro e w2 ⟨b, q', rfl, hm2, hq2, ho2⟩
  refine ⟨b, rowV (putF f at' (s.take k)) (4096 * p) 4096, rfl, hm2.pg p hp b hq2, length_rowV _ _ _, ?_⟩
  have hl : o + ((s.drop k).take (4096 - o)).length ≤ 4096 := by rw [List.length_take]; omega
  rw [splice_row _ _ _ _ _ hl]
  obtain ⟨h1, h2⟩ := hm2.put hp hq2 o ((s.drop k).take (4096 - o)) hl
  refine ⟨⟨q', ?_⟩, (ho1.trans ho2).trans h2⟩
  have e := putF_two f at' k (4096 - o) s (by omega)
  rw [hpo] at e
  rw [e] at h1
  rw [e]
  have e2 : s.take (k + ((s.drop k).take (4096 - o)).length) = s.take (k + (4096 - o)) := by
    apply List.take_eq_take_iff.2
    rw [List.length_take, List.length_drop]
    omega
  rw [e2]
  exact h1
set_option maxRecDepth 100000 in
theorem write_ok {U : Nat → Prop} {w : World} {bm bp n : Nat} {q : Nat → Option Nat} {f : Nat → UInt8} (h : MemIs U w bm bp n q f) (at' : Nat) (s : List UInt8) (hin : at' + s.length ≤ 4096 * n) :
    Calls Tryd.prog 6 #[.pointer (some ⟨bm, 0, none⟩), .int .i64 (at' : Int), .string ⟨s.toArray⟩] w fun e w' => e = .returned (.int .i64 0) ∧ MemAt U w' bm n (putF f at' s) ∧ Only (fun k => ¬ U k) w w' := by
  obtain ⟨p, hp⟩ : ∃ p : ByteArray, p = ⟨s.toArray⟩ := ⟨_, rfl⟩
  rw [← hp]
  have hps : p.size = s.length := by rw [hp]; simp [ByteArray.size]
  have hn := h.top
  have HC : Hid (Calls Tryd.prog 14 #[.pointer (some ⟨bm, 0, none⟩), .int .i64 (at' : Int), .int .i64 (s.length : Nat)] w fun e w' => e = .returned (.bool true) ∧ w' = w) := by
    refine (holds_any ⟨bp, q, h⟩ (at' : Int) (s.length : Nat)).mono ?_
    rintro e w' ⟨rfl, rfl⟩
    have : insB n (at' : Int) (s.length : Nat) = true := by simp [insB]; omega
    rw [this]
    exact ⟨rfl, rfl⟩
  have HP : Hid (p = ⟨s.toArray⟩) := hp
  have HIN : Hid (at' + s.length ≤ 4096 * n ∧ n ≤ 256) := ⟨hin, hn⟩
  have H0 : Hid (WrR U w bm bp n f at' s 0 w) := ⟨⟨q, by rw [List.take_zero, putF_nil]; exact h⟩, Only.refl _ _⟩
  clear h hp hin hn
  go_enter Tryd.func6, Tryd.ntmps6
  go_wp2_with fail
  refine HC.out.mono ?_
  rintro e w' ⟨rfl, h⟩
  have h2 := h.symm; clear h; subst h2
  go_wp2_with fail
  go_loopw [7] (fun d wr => ∃ k : Nat, d = .int .i64 (k : Int) ∧ k ≤ s.length ∧ Hid (WrR U w bm bp n f at' s k wr)) (fun d _ => s.length - (intOf d).toNat)
  case atStart => exact ⟨0, rfl, by omega, H0⟩
  case round =>
    obtain ⟨k, rfl, hk, HW⟩ := hrel
    by_cases hlt : k < s.length
    · have h1 : (k : Int) < (s.length : Int) := by omega
      have hw1 : IntKind.i64.wrap ((at' : Int) + (k : Int)) = ((at' + k : Nat) : Int) := by have := HIN.out; rw [IntKind.wrap_i64]; omega
      have HSP : Hid (∀ wv, Calls Tryd.prog 15 #[.int .i64 ((at' + k : Nat) : Int)] wv fun e w' => e = .returned (.tuple #[.int .i64 (((at' + k) / 4096 : Nat) : Int), .int .i64 (((at' + k) % 4096 : Nat) : Int)]) ∧ w' = wv) := fun wv => split_any (at' + k) (by have := HIN.out; omega) wv
      have HPO : Hid (at' + k = 4096 * ((at' + k) / 4096) + (at' + k) % 4096 ∧ (at' + k) % 4096 < 4096) := ⟨by omega, by omega⟩
      generalize (at' + k) / 4096 = pg at HSP HPO
      generalize (at' + k) % 4096 = o at HSP HPO
      generalize hx : at' + k = x at hw1 HSP
      clear hx
      have HST := Vx.hid (wr_step HW.out.drew hlt HIN.out.1 pg o HPO.out.1 HPO.out.2)
      have hpf := fun b wv => page_from b o HPO.out.2 wv
      have hsf := fun wv => str_from p s HP.out k hk wv
      generalize hc : ((s.drop k).take (4096 - o)).length = c at HST
      have hc0 : 0 < c := by rw [← hc, List.length_take, List.length_drop]; have := HPO.out.2; omega
      have hcs : k + c ≤ s.length := by rw [← hc, List.length_take, List.length_drop]; omega
      have HCC : Hid (((s.drop k).take (4096 - o)).length = c) := hc
      have hw2 : IntKind.i64.wrap ((k : Int) + (c : Int)) = ((k + c : Nat) : Int) := by have := HIN.out; rw [IntKind.wrap_i64]; omega
      clear hlt hc hk
      go_wp2_with fail
      refine (HSP.out _).mono ?_
      rintro e w' ⟨rfl, h⟩
      have h2 := h.symm; clear h; subst h2
      go_wp2_with fail
      go_region_law (first | (refine Vx.step_copy_str rfl (.tmp 33) (.tmp 36) 57 9 rfl 5 Tryd.underlying57 sizeByte b o (4096 - o) (4096 - o) (s.drop k) (by simp [Act.eval, Act.put]) (by simp [Act.eval, Act.put]) cur 79 HB.out.1 (by rw [HB.out.2.1, HCC.out]; have := HCC.out; rw [List.length_take] at this; omega) c HCC.out (fun wx => Hid (WrR U w bm bp n f at' s (k + c) wx)) HB.out.2.2 ?_; intro w3 HW3) | (refine Vx.step_call rfl 16 #[.tmp 28, .tmp 29] #[27, 3] rfl #[.pointer (some ⟨bm, 0, none⟩), .int .i64 pg] (by simp [Act.eval, Act.put]) (by simp [go_sem]) HST.out ?_; rintro e w2 ⟨b, cur, rfl, HB⟩; refine ⟨_, rfl, ?_⟩))
      all_goals
        go_wp2_with fail
        go_roundw
        case rel => exact ⟨_, _, _, _, _, _, _, _, _, _, _, _, _, _, _, _, _, _, _, _, _, _, _, _, _, _, ⟨k + c, rfl, hcs, HW3⟩, rfl⟩
        case measure => show s.length - (intOf (.int .i64 ((k : Int) + (c : Int)))).toNat < s.length - (intOf (.int .i64 (k : Int))).toNat; simp only [intOf]; omega
    · obtain rfl : k = s.length := by omega
      have h1 : ¬ (s.length : Int) < (s.length : Int) := by omega
      clear hlt
      go_wp2_with fail
      all_goals
        go_ret
        obtain ⟨⟨q', hm⟩, ho⟩ := HW.out
        rw [List.take_length] at hm
        exact ⟨rfl, ⟨bp, q', hm⟩, ho⟩
end Go.Proofs.YtflmobffeeocdaaDoor

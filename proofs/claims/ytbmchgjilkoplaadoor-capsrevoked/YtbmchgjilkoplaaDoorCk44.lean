import Derived.Test.YtbmchgjilkoplaaDoorCk43
/- Chapter 7, the program's store: Below. -/
namespace Go.Proofs.YtbmchgjilkoplaaDoor
open Go.ChangeShapes Go.WideShapes Go.ChangeAt Go.RowKit
open Go.Vx
set_option linter.unusedVariables false
variable {U : Nat → Prop} {w : World} {xb mb : Nat} {D : DataW Value} {G : Int → Nat} {bs : List (Int × Int)} {es : List En} {Q : Sl → Pl}

theorem CoR.look {w0 : World} {mx cb n : Nat} {Dc : DataW Value} {V : Sl → Value} {pre : List En} {W : World} (h : CoR w0 mx cb n Dc V pre W) (s : Sl) (hs : SlI s) : (Instr.lookup 109 (.map (some cb)) (.agg #[.int .i64 s.1, .int .i64 s.2]) false).run Tryd.prog W = .ok (V s) W := by
  have hz : RH (.slice none 0 0) = some (.held (.slice none 0 0), []) := rfl
  obtain ⟨v, ps, hr, hv⟩ := h.m.lookup (t := 109) (e := 57) keyedS Tryd.underlying109 (zeroSls W) hz (keyS hs)
  rw [h.at' s hs] at hv
  obtain ⟨p, n, c, rfl, he⟩ := RH_inv hv
  simp only [Prod.mk.injEq, DataW.held.injEq] at he
  rw [hr, he.1]
theorem CoR.quiet {w0 : World} {mx cb n : Nat} {Dc : DataW Value} {V : Sl → Value} {pre : List En} {W W2 : World} (h : CoR w0 mx cb n Dc V pre W) (ho : Only (fun _ => False) W W2) : CoR w0 mx cb n Dc V pre W2 :=
  ⟨h.on.trans ho, by rw [ho.block mx (lt_of_some h.bx) (fun h => h)]; exact h.bx, ownsS_only h.m ho (fun h => h), h.at', fun s => (h.ow s).kept ho (fun _ _ h => h), h.dj, h.ge, h.le⟩
theorem at_sli {bs : List (Int × Int)} {es : List En} (hf : Wf bs es) (hx : Wx bs es) {e : En} (he : e ∈ es) : SlI e.at' := by
  obtain ⟨b, hb, h1, h2, h3⟩ := hx.ix e he
  have h4 := two_in (hf.bn b hb).1
  refine ⟨by rw [← h1]; exact hx.ib b hb, ?_⟩
  unfold I64
  omega
theorem from_sli {bs : List (Int × Int)} {es : List En} (hf : Wf bs es) (hx : Wx bs es) {e : En} (he : e ∈ es) : SlI e.from' := by
  rcases hf.fr e he with h | ⟨e2, h2, h3⟩
  · rw [h]; unfold SlI I64; omega
  · rw [← h3]; exact at_sli hf hx h2
def lenV (v : Value) : Nat := match v with | .slice _ n _ => n | _ => 0
/-- append as a step of a region that draws, its run known. -/
theorem step_append_run {P : Program} {ops : Array Oper} {o : Oper} {a : Act} {w : World} {K : Act → World → Prop} {Q : Exit → Act → World → Prop} {E : Prop} (hgd : o.guard = none) (s x : Operand) (t : TypeId)
    (ho : o.op = .call { callee := .builtin .append, args := #[s, x], argTypes := #[t, t] }) (v xv v2 : Value) (w2 : World) (hs : a.eval s = v) (hx : a.eval x = xv) (hr : (Builtin.append_ #[t, t] o.type #[v, xv]).run P w = .ok v2 w2) (h : K (a.put o.dst v2) w2) : if Region.wanted o (yielded ops a.tmps) = true then Oper.wp P o a w K Q else E := by
  have hw : Region.wanted o (yielded ops a.tmps) = true := by simp [Region.wanted, hgd]
  rw [if_pos hw]
  unfold Oper.wp execOp
  simp only [ho, resolve, invoke, builtin, Sem.run_bind, Sem.run_pure, Result.andThen_ok, List.map_toArray, List.map_cons, List.map_nil, hs, hx, hr]
  exact h
theorem slice_to (g M c m : Nat) (hm : m ≤ c) : ∀ wv, (Instr.slice 57 (.slice (some ⟨g, 0, none⟩) M c) none (some (.int .i64 (m : Int))) none).run Tryd.prog wv = .ok (.slice (some ⟨g, 0, none⟩) m c) wv := by
  intro wv
  have h1 : 0 ≤ (m : Int) ∧ (m : Int) ≤ (c : Int) := by omega
  simp [Instr.slice, Instr.sliceBounds, Instr.sliceBound, run_underlying Tryd.underlying57, asIntOf, h1, hm, Result.andThen, addr_add]
/-- What stands between the rounds of Below. -/
structure BeR (w3 : World) (v : Value) (ls : List Sl) (u : Value) (st : List Sl) (wr : World) : Prop where
  on : Only (fun _ => False) w3 wr
  lv : OwnL slL wr w3.heap.size 62 v ls
  sv : OwnL slL wr w3.heap.size 62 u st
  dj : ∀ k, v.ownBlock = some k → u.ownBlock = some k → False
theorem BeR.quiet {w3 : World} {v : Value} {ls : List Sl} {u : Value} {st : List Sl} {wr wx : World} (h : BeR w3 v ls u st wr) (ho : Only (fun _ => False) wr wx) : BeR w3 v ls u st wx :=
  ⟨h.on.trans ho, h.lv.kept ho (fun _ _ h => h), h.sv.kept ho (fun _ _ h => h), h.dj⟩
theorem BeR.list {w3 : World} {v v2 : Value} {ls ls2 : List Sl} {u : Value} {st : List Sl} {wr wx : World} (h : BeR w3 v ls u st wr) (ho : OwnL slL wx w3.heap.size 62 v2 ls2) (hon : Only (fun k => v.ownBlock = some k) wr wx) (hl : v2.ownBlock = v.ownBlock ∨ ∃ g, v2.ownBlock = some g ∧ wr.heap.size ≤ g ∧ Only (fun _ => False) wr wx) : BeR w3 v2 ls2 u st wx :=
  ⟨h.on.beyond hon (fun k hk => (own_lt h.lv hk).1), ho, h.sv.kept hon (fun k hk e => h.dj k e hk), fun k h1 h2 => by
    rcases lies_of hl k h1 with h3 | h3
    · exact h.dj k h3 h2
    · have := (own_lt h.sv h2).2; omega⟩
theorem BeR.stack {w3 : World} {v : Value} {ls : List Sl} {u u1 u2 : Value} {st st2 : List Sl} {wr wx : World} (h : BeR w3 v ls u st wr) (hu : u1.ownBlock = u.ownBlock) (ho : OwnL slL wx w3.heap.size 62 u2 st2) (hon : Only (fun k => u1.ownBlock = some k) wr wx) (hl : u2.ownBlock = u1.ownBlock ∨ ∃ g, u2.ownBlock = some g ∧ wr.heap.size ≤ g ∧ Only (fun _ => False) wr wx) : BeR w3 v ls u2 st2 wx := by
  rw [hu] at hon hl
  exact ⟨h.on.beyond hon (fun k hk => (own_lt h.sv hk).1), h.lv.kept hon (fun k hk e => h.dj k hk e), ho, fun k h1 h2 => by
    rcases lies_of hl k h2 with h3 | h3
    · exact h.dj k h1 h3
    · have := (own_lt h.lv h1).2; omega⟩
set_option maxRecDepth 100000 in
set_option maxHeartbeats 4000000 in
theorem xbelow_ok (hc : XcAt U w xb bs es) (r : Sl → Nat) (D : Nat) (hr : ∀ e ∈ es, r e.from' < r e.at') (hD : ∀ e ∈ es, r e.at' ≤ D) (hL : ∀ d s, (belN es d s).length ≤ 1000000) (s : Sl) (hsi : I64 s.1) :
    Calls Tryd.prog 19 #[.pointer (some ⟨xb, 0, none⟩), .agg #[.int .i64 s.1, .int .i64 s.2]] w fun e w' => ∃ v, e = .returned (.tuple #[v, .int .i64 (fullE (fullF bs es s))]) ∧ OwnL slL w' w.heap.size 62 v (BelowL bs es D s) ∧ Only (fun _ => False) w w' := by
  have HC := Vx.hid hc
  obtain ⟨mb, D0, G, h, hf, hx, hl⟩ := hc
  have HO : Hid (∀ o, Only (fun _ => False) w (w.alloc o)) := fun o => (Only.refl _ w).alloc o
  rcases h.full hf hx s hsi with ⟨k, n, i, hk, hn, hlt, hfi, hkd, hcall⟩ | ⟨er, hfi, her, hcall⟩
  · obtain ⟨hi, hE, hp⟩ := plF_full hf hfi
    have hs : SlI s := by rw [← hE]; exact at_sli hf hx (List.getElem_mem hi)
    have HCO : Hid (∀ w2, Only (fun _ => False) w w2 → Calls Tryd.prog 53 #[.pointer (some ⟨xb, 0, none⟩)] w2 fun e w' => ∃ mx cb n Dc V, e = .returned (.map (some cb)) ∧ CoR w2 mx cb n Dc V es.reverse w') := fun w2 ho => comers_ok (HC.out.quiet ho) (fun e he => from_sli hf hx he)
    have HSI : Hid (∀ e ∈ es, SlI e.at') := fun e he => at_sli hf hx he
    have HS := Vx.hid hs
    have HE : Hid (fullE (fullF bs es s) = 0) := by show fullE (fullF bs es s) = 0; rw [hfi]; rfl
    have HBL : Hid (BelowL bs es D s = belN es (D + 1) s) := by show BelowL bs es D s = _; unfold BelowL; rw [hfi]
    have HTOT : Hid (∀ t, belN es (D + 1) t = (comF es t).flatMap fun t => t :: belN es (D + 1) t) := fun t => belN_all hr hD t
    have HLEN := Vx.hid (hL (D + 1) s)
    have HLL := Vx.hid hl
    have HFU := Vx.hid hcall
    obtain ⟨s1, s2⟩ := s
    dsimp only at hk
    subst hk
    clear h hf hx hl hn hlt hfi hkd hcall hE hp hi hsi hr hD hL hs
    dsimp only at HFU ⊢
    go_enter Tryd.func19, Tryd.ntmps19
    go_wp2_with fail
    refine (HFU.out _ (HO.out _)).mono ?_
    rintro e w2 ⟨rfl, hq⟩
    have hO2 := (HO.out (.cells #[.int .i64 s1, .int .i64 (k : Int)] 62)).trans hq
    have hsb : w2.heap[w.heap.size]? = some (.cells #[.int .i64 s1, .int .i64 (k : Int)] 62 (0, 0)) := Only.keep hq (heap_alloc_last w _) (fun h => h)
    have HO2 := Vx.hid hO2
    have HSB := Vx.hid hsb
    clear hq hO2 hsb HO HFU
    go_wp2_with fail
    refine (HCO.out _ HO2.out).mono ?_
    rintro e w3 ⟨mx, cb, nn, Dc, V, rfl, hco⟩
    have hsb := Only.keep hco.on HSB.out (fun h => h)
    obtain ⟨⟨y0, y1⟩, _⟩ := slot_cells hsb
    have hlk := hco.look (s1, (k : Int)) HS.out
    have HCL := Vx.hid (clone_ok (hco.ow (s1, (k : Int))) (by have h1 := comF_len es.reverse (s1, (k : Int)); have h2 := HLL.out; rw [List.length_reverse] at h1; omega))
    have HCR := Vx.hid hco
    obtain ⟨ab, hab⟩ : ∃ ab, ab = w.heap.size := ⟨_, rfl⟩
    rw [← hab] at y0 y1 ⊢
    clear hco hsb hab HCO HSB
    go_wp2_with fail
    refine HCL.out.mono ?_
    rintro e w4 ⟨u0, rfl, hu0, ho4⟩
    have HB0 : Hid (BeR w3 (.slice none 0 0) [] u0 (comF es.reverse (s1, (k : Int))) w4) := ⟨ho4, OwnL.nil _ _ _ _, hu0, fun k h => by cases h⟩
    obtain ⟨tot, htot⟩ : ∃ tot, tot = belN es (D + 1) (s1, (k : Int)) := ⟨_, rfl⟩
    have HST0 : Hid ([] ++ stkF (belN es (D + 1)) (comF es.reverse (s1, (k : Int))) = tot) := by
      show [] ++ stkF _ _ = _
      rw [List.nil_append, htot, HTOT.out (s1, (k : Int)), comF_rev]
      unfold stkF
      rw [List.reverse_reverse]
    have HTM : Hid (∀ t ∈ tot, SlI t) := fun t ht => by
      rw [htot] at ht
      obtain ⟨e, he, rfl⟩ := List.mem_map.1 (belN_mem es _ _ t ht)
      exact HSI.out e he
    rw [← htot] at HBL HLEN
    have HSZ : Hid (w.heap.size ≤ w3.heap.size) := Nat.le_trans HO2.out.size HCR.out.on.size
    have HO3 : Hid (Only (fun _ => False) w w3) := HO2.out.trans HCR.out.on
    clear hu0 ho4 HCL htot hlk y0 y1
    go_wp2_with fail
    go_loopw [9, 10, 11, 12] (fun v u _ _ wr => ∃ ls st, Hid (ls ++ stkF (belN es (D + 1)) st = tot) ∧ Hid (BeR w3 v ls u st wr)) (fun v _ _ _ _ => tot.length + 1 - lenV v)
    case atStart => exact ⟨[], _, HST0, HB0⟩
    case round =>
      clear HB0 HST0
      obtain ⟨ls, st, HT, HB⟩ := hrel
      obtain ⟨pv, cv, hvf, _⟩ := HB.out.lv.form
      obtain ⟨pu, cu, huf, huc, hum, hug⟩ := HB.out.sv.form
      have hlt1 : ls.length ≤ tot.length := by rw [← HT.out, List.length_append]; omega
      have hlt2 : st.length ≤ tot.length := by
        have := stk_len (belN es (D + 1)) st
        rw [← HT.out, List.length_append]; omega
      have hlen := HLEN.out
      rcases List.eq_nil_or_concat st with rfl | ⟨s0, nx, rfl⟩
      · have HFIN : Hid (ls = tot) := by
          have := HT.out
          rw [stk_nil, List.append_nil] at this
          exact this
        obtain ⟨m, hm⟩ : ∃ m, m = ls.length := ⟨_, rfl⟩
        rw [← hm] at hvf
        subst hvf
        simp only [List.length_nil] at huf
        subst huf
        clear hm hug hlt1 hlt2
        go_wp2_with fail
        go_ret2
        exact ⟨_, by rw [HE.out]; try rfl, by rw [HBL.out, ← HFIN.out]; exact own_base HB.out.lv HSZ.out, HO3.out.trans HB.out.on⟩
      · obtain ⟨g, rfl, hg1, hg2, hg3⟩ := hug (by simp)
        rw [List.concat_eq_append] at HT HB huf huc hlt2
        obtain ⟨m, hm⟩ : ∃ m, m = s0.length := ⟨_, rfl⟩
        have hl1 : (s0 ++ [nx]).length = m + 1 := by rw [hm]; simp
        rw [hl1] at huf huc hlt2
        subst huf
        have HM := Vx.hid hm
        have hmm : m < (s0 ++ [nx]).length := by omega
        have hgm : (s0 ++ [nx])[m] = nx := by subst hm; simp
        have hc0 : wr.cell? ⟨g, m * 2, none⟩ = some (.int .i64 nx.1) := by
          have h1 := HB.out.sv.cell m 0 hmm (by decide)
          rw [hgm] at h1
          exact h1
        have hc1 : wr.cell? ⟨g, m * 2 + 1, none⟩ = some (.int .i64 nx.2) := by
          have h1 := HB.out.sv.cell m 1 hmm (by decide)
          rw [hgm] at h1
          exact h1
        have hidx : 0 ≤ (m : Int) ∧ (m : Int) < (m : Int) + 1 := by omega
        have hwm : IntKind.i64.wrap ((m : Int) + 1 - 1) = (m : Int) := by rw [IntKind.wrap_i64]; omega
        have hpos : (0 : Int) < (m : Int) + 1 := by omega
        have HNX : Hid (SlI nx) := by
          have hmem : nx ∈ tot := by rw [← HT.out, stk_push]; simp
          exact HTM.out nx hmem
        obtain ⟨n1, n2⟩ := nx
        dsimp only at hc0 hc1
        have HLE : Hid (ls.length + 1 ≤ 10000000) := by show ls.length + 1 ≤ 10000000; omega
        obtain ⟨q, hq⟩ : ∃ q, q = ls.length := ⟨_, rfl⟩
        rw [← hq] at hvf
        subst hvf
        have HQ := Vx.hid hq
        clear hm hl1 hmm hgm hq hg3 hum
        go_upto_region 10 with fail
        obtain ⟨wA, hwA⟩ : ∃ wA, wA = wr.alloc (.cells #[.int .i64 n1, .int .i64 n2] 62) := ⟨_, rfl⟩
        rw [← hwA]
        have hOA : Only (fun _ => False) wr wA := by rw [hwA]; exact (Only.refl _ wr).alloc _
        have hnb : wA.heap[wr.heap.size]? = some (.cells #[.int .i64 n1, .int .i64 n2] 62 (0, 0)) := by rw [hwA]; exact heap_alloc_last wr _
        obtain ⟨⟨b0, b1⟩, _⟩ := slot_cells hnb
        have HBA := Vx.hid (HB.out.quiet hOA)
        have HBS : Hid (w3.heap.size ≤ wA.heap.size) := HBA.out.on.size
        obtain ⟨nb, hnb2⟩ : ∃ nb, nb = wr.heap.size := ⟨_, rfl⟩
        have HNV : Hid (∀ k, (Value.slice pv q cv).ownBlock = some k → nb ≠ k) := fun k hk e => by
          have := (own_lt HB.out.lv hk).2
          omega
        rw [← hnb2] at b0 b1 hnb ⊢
        have HNB := Vx.hid hnb
        clear hwA hOA hnb hnb2 hc0 hc1 hg1 hg2
        go_upto_region 11 with (at_builtin; refine wpList_append_one slK _ rfl _ _ rfl w3.heap.size (.slice pv q cv) ls rfl HBA.out.lv (n1, n2) _ _ rfl rfl rfl HLE.out HBS.out ?_; intro v1 w5 hv1 hv2 hv3)
        have hnb5 := Only.keep hv2 HNB.out (fun e => HNV.out nb e rfl)
        have hB5 := HBA.out.list hv1 hv2 hv3
        obtain ⟨p1, c1, hv1f, _⟩ := hv1.form
        have hq1 : (ls ++ [(n1, n2)]).length = q + 1 := by rw [List.length_append, ← HQ.out]; rfl
        rw [hq1] at hv1f
        subst hv1f
        have HB5 := Vx.hid hB5
        have hco5 := HCR.out.quiet hB5.on
        have hd : Only (fun _ => False) w5 w5.drew := (Only.refl _ w5).drew
        have hcut : OwnL slL w5.drew w3.heap.size 62 (.slice (some ⟨g, 0, none⟩) m cu) s0 := by
          have h1 := hB5.sv
          have e1 : m + 1 = (s0 ++ [((n1, n2) : Sl)]).length := by rw [HM.out]; simp
          rw [e1] at h1
          have h2 := OwnL.cut h1
          rw [← HM.out] at h2
          exact h2.kept hd (fun _ _ h => h)
        have hcoD := hco5.quiet hd
        have hlk := hcoD.look (n1, n2) HNX.out
        obtain ⟨pn, cn, hvn, _, _, hgn⟩ := (hcoD.ow (n1, n2)).form
        obtain ⟨u2, w6, hrun, ow6, on6, lies6⟩ := run_append_many slK w5.drew 57 w3.heap.size (.slice (some ⟨g, 0, none⟩) m cu) s0 hcut pn cn (comF es.reverse (n1, n2)) (fun h0 => by
          obtain ⟨gn, rfl, _⟩ := hgn h0
          refine ⟨_, rfl, fun j x hj => ?_⟩
          have how := hcoD.ow (n1, n2)
          rw [hvn] at how
          rw [addr_add, Nat.zero_add]
          have hj2 := (List.getElem?_eq_some_iff.1 hj).1
          rw [World.ownsRow.cellAt how j (by rw [length_fl] at hj2; exact hj2)]
          exact hj) (by have h1 := comF_len es.reverse (n1, n2); have h2 := HLL.out; rw [List.length_reverse] at h1; have h3 := HM.out; omega) (by have := hB5.on.size; exact this)
        rw [← hvn] at hrun
        have HRUN := Vx.hid hrun
        have HB6 := Vx.hid (BeR.stack (hB5.quiet hd) (u1 := .slice (some ⟨g, 0, none⟩) m cu) rfl ow6 on6 lies6)
        obtain ⟨p2, c2, hu2f, _⟩ := ow6.form
        generalize hL2 : (s0 ++ comF es.reverse (n1, n2)).length = L2 at hu2f
        subst hu2f
        have HT6 : Hid ((ls ++ [((n1, n2) : Sl)]) ++ stkF (belN es (D + 1)) (s0 ++ comF es.reverse (n1, n2)) = tot) := by
          show _ = tot
          rw [← HT.out, stk_push, stk_app, comF_rev]
          unfold stkF
          rw [List.reverse_reverse, ← HTOT.out (n1, n2)]
          simp
        obtain ⟨⟨b0, b1⟩, _⟩ := slot_cells hnb5
        have hslc := slice_to g (m + 1) cu m (by omega)
        clear hv1 hv2 hv3 hB5 hco5 hd hcut hcoD hvn hgn hrun ow6 on6 lies6 hL2 hnb5 hq1
        go_region_law (refine step_append_run rfl (.tmp 44) (.tmp 47) 57 rfl (.slice (some ⟨g, 0, none⟩) m cu) (V (n1, n2)) (.slice p2 L2 c2) w6 (by first | rfl | simp [Act.eval, go_sem]) (by first | rfl | simp [Act.eval, go_sem]) HRUN.out ?_)
        all_goals
          go_wp2_with fail
          go_roundw
          case rel => exact ⟨_, _, HT6, HB6⟩
          case measure =>
            simp only [lenV]
            have := HQ.out
            omega
  · have HE : Hid (fullE (fullF bs es s) = er) := by show fullE (fullF bs es s) = er; rw [hfi]; rfl
    have HBL : Hid (BelowL bs es D s = []) := by show BelowL bs es D s = []; unfold BelowL; rw [hfi]
    have her2 : (er == 0) = false := beq_eq_false_iff_ne.2 her
    have her3 : (er != 0) = true := by simp [bne, her2]
    have HFU := Vx.hid hcall
    obtain ⟨s1, s2⟩ := s
    clear h hf hx hl hfi hcall hsi hr hD hL her HC
    dsimp only at HFU ⊢
    go_enter Tryd.func19, Tryd.ntmps19
    go_wp2_with fail
    refine (HFU.out _ (HO.out _)).mono ?_
    rintro e w2 ⟨rfl, hq⟩
    have HO2 := Vx.hid ((HO.out (.cells #[.int .i64 s1, .int .i64 s2] 62)).trans hq)
    clear hq HO HFU
    go_wp2_with fail
    all_goals
      go_ret2
      exact ⟨.slice none 0 0, by rw [HE.out]; try rfl, by rw [HBL.out]; exact OwnL.nil _ _ _ _, HO2.out⟩
end Go.Proofs.YtbmchgjilkoplaaDoor

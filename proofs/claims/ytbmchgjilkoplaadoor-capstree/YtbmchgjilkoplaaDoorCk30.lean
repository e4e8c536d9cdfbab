import Derived.Test.YtbmchgjilkoplaaDoorCk29
import Derived.Deep.RegionLaw
/- Chapter 7, the program's store: New, Make. -/
namespace Go.Proofs.YtbmchgjilkoplaaDoor
open Go.ChangeShapes Go.WideShapes Go.ChangeAt Go.RowKit
open Go.Vx
set_option linter.unusedVariables false
variable {U : Nat → Prop} {w : World} {xb mb : Nat} {D : DataW Value} {G : Int → Nat} {bs : List (Int × Int)} {es : List En} {Q : Sl → Pl}

theorem sizeF_iff (hn : (bs.map (·.1)).Nodup) (k m : Int) : sizeF bs k = some m ↔ (k, m) ∈ bs :=
  ⟨size_mem, fun h => (mem_size hn h).1⟩
theorem sizeF_make {num n : Int} (hn : ((bs ++ [(num, n)]).map (·.1)).Nodup) (k : Int) : sizeF (bs ++ [(num, n)]) k = if k = num then some n else sizeF bs k := by
  have hb : (bs.map (·.1)).Nodup := List.Nodup.sublist (List.Sublist.map _ (List.sublist_append_left _ _)) hn
  by_cases hk : k = num
  · rw [if_pos hk, hk]
    exact (sizeF_iff hn num n).2 (by simp)
  · rw [if_neg hk]
    apply Option.ext
    intro m
    rw [sizeF_iff hn, sizeF_iff hb, List.mem_append]
    constructor
    · rintro (h | h)
      · exact h
      · simp only [List.mem_cons, Prod.mk.injEq, List.not_mem_nil, or_false] at h
        exact absurd h.1 hk
    · exact Or.inl
theorem sizeF_drop {num : Int} {i : Nat} (hn : (bs.map (·.1)).Nodup) (hi : boxF bs num = some i) (k : Int) : sizeF (bs.eraseIdx i) k = if k = num then none else sizeF bs k := by
  obtain ⟨hil, h1, h2⟩ := boxF_at hi
  have hb : ((bs.eraseIdx i).map (·.1)).Nodup := List.Nodup.sublist (List.Sublist.map _ (List.eraseIdx_sublist bs i)) hn
  apply Option.ext
  intro m
  rw [sizeF_iff hb]
  by_cases hk : k = num
  · rw [if_pos hk]
    refine ⟨fun h => ?_, fun h => by cases h⟩
    exfalso
    obtain ⟨j, hj, hE⟩ := List.getElem_of_mem h
    have hlen : (bs.eraseIdx i).length = bs.length - 1 := List.length_eraseIdx_of_lt hil
    rw [List.getElem_eraseIdx] at hE
    have hp := List.pairwise_iff_getElem.1 hn
    split at hE
    · rename_i hji
      have := hp j i (by simp; omega) (by simpa using hil) hji
      rw [List.getElem_map, List.getElem_map, hE, h1] at this
      exact this hk
    · rename_i hji
      have := hp i (j + 1) (by simpa using hil) (by simp; omega) (by omega)
      rw [List.getElem_map, List.getElem_map, hE, h1] at this
      exact this hk.symm
  · rw [if_neg hk, sizeF_iff hn]
    refine ⟨List.mem_of_mem_eraseIdx, fun h => ?_⟩
    obtain ⟨j, hj, hE⟩ := List.getElem_of_mem h
    have hji : j ≠ i := fun e => by subst e; rw [hE] at h1; exact hk h1
    rw [List.mem_iff_getElem?]
    by_cases h7 : j < i
    · exact ⟨j, by rw [List.getElem?_eraseIdx, if_pos h7, List.getElem?_eq_getElem hj, hE]⟩
    · exact ⟨j - 1, by rw [List.getElem?_eraseIdx, if_neg (by omega), show j - 1 + 1 = j by omega, List.getElem?_eq_getElem hj, hE]⟩
/-- A new box's cells. -/
def zrow (n : Nat) : List Pl := rowQ (fun _ => zeroPl) 0 n
theorem pl_info : (Tryd.prog.info? 105).map (fun i => (i.zero, i.size, i.bytes)) = some (some (.agg #[.int .i64 0, .int .i64 0, .int .i64 0, .int .u32 0, .int .u32 0, .int .i64 0, .int .i64 0, .int .u32 0, .int .i64 0, .int .i64 0]), 10, 72) := by kernel_rfl
theorem zrow_len (n : Nat) : (zrow n).length = n := rowQ_len _ _ _
theorem zrow_at (n k : Nat) (hk : k < (zrow n).length) : (zrow n)[k] = zeroPl := rowQ_at _ _ _ _ hk
theorem made_pls (n : Nat) : madeCells #[.int .i64 0, .int .i64 0, .int .i64 0, .int .u32 0, .int .u32 0, .int .i64 0, .int .i64 0, .int .u32 0, .int .i64 0, .int .i64 0] (n * 10) = (fl plL (zrow n)).toArray := by
  obtain ⟨Z, hZ⟩ : ∃ Z : Array Value, Z = #[.int .i64 0, .int .i64 0, .int .i64 0, .int .u32 0, .int .u32 0, .int .i64 0, .int .i64 0, .int .u32 0, .int .i64 0, .int .i64 0] := ⟨_, rfl⟩
  rw [← hZ]
  have hs : Z.size = 10 := by rw [hZ]; rfl
  apply Array.ext'
  apply List.ext_getElem?
  intro j
  have hl : (fl plL (zrow n)).length = n * 10 := by rw [length_fl, zrow_len]; rfl
  by_cases hj : j < n * 10
  · have h1 : j / 10 < (zrow n).length := by rw [zrow_len]; omega
    have h2 := get_fl plL (zrow n) (j / 10) (j % 10) h1 (Nat.mod_lt _ (by decide))
    have e : j / 10 * plL.sz + j % 10 = j := by show j / 10 * 10 + j % 10 = j; omega
    rw [e, zrow_at] at h2
    rw [List.toList_toArray, h2]
    simp only [madeCells, Array.toList_map, Array.toList_range, List.getElem?_map, List.getElem?_range hj, Option.map_some, hs]
    have hm : j % 10 = 0 ∨ j % 10 = 1 ∨ j % 10 = 2 ∨ j % 10 = 3 ∨ j % 10 = 4 ∨ j % 10 = 5 ∨ j % 10 = 6 ∨ j % 10 = 7 ∨ j % 10 = 8 ∨ j % 10 = 9 := by omega
    rcases hm with h | h | h | h | h | h | h | h | h | h <;> rw [h, hZ] <;> rfl
  · rw [List.getElem?_eq_none (by simp [madeCells]; omega), List.toList_toArray, List.getElem?_eq_none (by omega)]
theorem make_pls (n : Nat) (h : n ≤ 1000) (w : World) : (Instr.makeSlice 80 (.int .i64 (n : Int)) (.int .i64 (n : Int))).run Tryd.prog w = .ok (.slice (some ⟨w.heap.size, 0, none⟩) n n) (w.alloc (.cells (fl plL (zrow n)).toArray 105)) := by
  have hi := pl_info
  cases hq : Tryd.prog.info? 105 with
  | none => rw [hq] at hi; simp at hi
  | some i =>
    rw [hq] at hi
    simp only [Option.map_some, Option.some.injEq, Prod.mk.injEq] at hi
    have := run_make (P := Tryd.prog) w 80 105 i _ Tryd.underlying80 hq hi.1 .i64 .i64 n n (by omega) (by omega) (by rw [hi.2.2]; omega) (by omega)
    rw [this, hi.2.1]
    simp only [Int.toNat_natCast, Value.cells]
    rw [made_pls]
theorem and_two : ∀ m : Nat, m < 65 → 1 ≤ m → (bits BinOp.and IntKind.i64 (m : Int) ((m : Int) - 1) != 0) = !twoB (m : Int) := by decide
/-- A store into a map, as a step of a region that draws. -/
theorem step_mapUp {P : Program} {ops : Array Oper} {o : Oper} {a : Act} {w : World} {K : Act → World → Prop} {Q : Exit → Act → World → Prop} {E : Prop} (hg : o.guard = none) (m x v : Operand) (t : TypeId) (hop : o.op = Op.mapUpdate t m x v)
    (k e : TypeId) (Kk : Maps.Keyed P k) (ht : P.underlying t = some (.map k e)) {R : Value → Option (DataW Value × List MemPlace)} (b n : Nat) (D : DataW Value)
    (hm : a.eval m = .map (some b)) (hown : w.ownsMap P k R b n D) (hn : n < maxLen) (key val : Value) (kl : Lit) (hx : a.eval x = key) (hv : a.eval v = val) (hkey : keyOf P k key = some kl)
    (d : DataW Value) (ps : List MemPlace) (hval : R val = some (d, ps))
    (hK : ∀ w', w'.ownsMap P k R b (n + 1) (D.put kl d) → w.grownBy w' (some b) → K (a.put o.dst undef) w') : if Region.wanted o (yielded ops a.tmps) = true then Oper.wp P o a w K Q else E := by
  have hw : Region.wanted o (yielded ops a.tmps) = true := by simp [Region.wanted, hg]
  rw [if_pos hw]
  obtain ⟨w', hrun, r1, r2⟩ := hown.update Kk ht hn hkey hval
  unfold Oper.wp
  simp [execOp, hop, hm, hx, hv, hrun, Result.andThen]
  exact hK _ r1 r2
theorem plF_nobox (hx : Wx bs es) {num : Int} (hn : sizeF bs num = none) (i : Int) : plF es (num, i) = zeroPl := by
  refine plF_none fun e he hE => ?_
  obtain ⟨b, hb, h1, _⟩ := hx.ix e he
  have := (mem_size hx.nd hb).1
  rw [h1, hE] at this
  simp only at this
  rw [hn] at this
  cases this
theorem is_key (k : Int) (hk : I64 k) : WideAt.IsKeyLit (.int .i64 k) := keyedI.key (keyI hk)
/-- One box more. -/
theorem XsAt.made {w3 w4 : World} (h : XsAt U w xb mb D G bs Q) {num : Int} {m g : Nat} (hnum : I64 num) (hno : sizeF bs num = none) (h1 : 1 ≤ m) (h2 : m ≤ 64) (hQ : ∀ i, Q (num, i) = zeroPl) (hnd : ((bs ++ [(num, (m : Int))]).map (·.1)).Nodup) (hlen : bs.length < 1000000)
    (ho : Only (fun _ => False) w w4) (hg : w.heap.size ≤ g) (hr : OwnL plL w4 0 105 (.slice (some ⟨g, 0, none⟩) m m) (zrow m))
    (hm : w3.ownsMap Tryd.prog 3 RH mb (bs.length + 1) (D.put (.int .i64 num) (.held (.slice (some ⟨g, 0, none⟩) m m)))) (hgr : w4.grownBy w3 (some mb)) :
    XsAt U w3 xb mb (D.put (.int .i64 num) (.held (.slice (some ⟨g, 0, none⟩) m m))) (fun k => if k = num then g else G k) (bs ++ [(num, (m : Int))]) Q ∧ Only (fun j => ¬ U j) w w3 := by
  have h4 := h.quiet ho
  have ho3 : Only (fun j => j = mb) w4 w3 := ⟨hgr.os, hgr.tape, hgr.output, hgr.size, fun k hk hn => hgr.block k hk (fun e => hn (by injection e))⟩
  have hmd : Maps.IsMap D := h.m.isMap
  have hsz := sizeF_make hnd
  have htag : ∀ k n, sizeF bs k = some n → G k ≠ mb := fun k n hk => (h4.sep (b := k) (by rw [hk]; rfl)).2.2.1
  have hgt : g ≠ mb := by
    obtain ⟨cur, hc⟩ := own_tag hr (k := g) rfl
    exact map_ne hc h4.m
  have hglt : ∀ k n, sizeF bs k = some n → G k ≠ g := fun k n hk e => by
    have := h.glt (k := k) (by rw [hk]; rfl)
    omega
  have hnek : ∀ k, k ≠ num → (Lit.int .i64 k) ≠ (Lit.int .i64 num) := fun k hk e => hk (by injection e)
  refine ⟨⟨?_, ?_, by rw [List.length_append]; exact hm, fun k hk => ?_, fun k n z hk => ?_, fun k n hk => ?_, fun j k hj hk e => ?_, h.un, h.ux, h.um, fun k hk => ?_, fun j hj => Nat.lt_of_lt_of_le (h.low j hj) (Nat.le_trans ho.size ho3.size), fun k n hk => ?_, hnd, fun b hb => ?_, by rw [List.length_append]; exact hlen⟩, ?_⟩
  · rw [ho3.block _ (lt_of_some h4.ns) (fun e => map_ne h4.ns h4.m e)]; exact h4.ns
  · rw [ho3.block _ (lt_of_some h4.x) (fun e => map_ne h4.x h4.m e)]; exact h4.x
  · rw [hsz k]
    by_cases hkn : k = num
    · rw [if_pos hkn, hkn]; exact Maps.has_put_same hmd (is_key num hnum) _
    · rw [if_neg hkn, Maps.has_put_other (hnek k hkn)]; exact h.hs k hk
  · rw [hsz k] at hk
    by_cases hkn : k = num
    · rw [if_pos hkn] at hk
      injection hk with hk
      subst hk
      rw [if_pos hkn, hkn]
      exact Maps.atKey_put_same hmd (is_key num hnum) _ z
    · rw [if_neg hkn] at hk
      rw [if_neg hkn, Maps.atKey_put_other (hnek k hkn)]
      exact h.ha k n z hk
  · rw [hsz k] at hk
    by_cases hkn : k = num
    · rw [if_pos hkn] at hk
      injection hk with hk
      subst hk
      rw [if_pos hkn, hkn]
      have e : rowQ Q num (m : Int).toNat = zrow m := by
        rw [Int.toNat_natCast]
        unfold zrow rowQ
        simp only [hQ]
      rw [e]
      refine hr.kept ho3 (fun j hj => ?_)
      have : g = j := by simpa [Value.ownBlock] using hj
      rw [← this]; exact hgt
    · rw [if_neg hkn] at hk
      rw [if_neg hkn]
      refine (h4.bl k n hk).kept ho3 (fun j hj => ?_)
      have : G k = j := by simpa [Value.ownBlock] using hj
      rw [← this]; exact htag k n hk
  · rw [hsz] at hj hk
    try dsimp only at e
    by_cases h5 : j = num
    · by_cases h6 : k = num
      · rw [h5, h6]
      · rw [if_pos h5, if_neg h6] at e
        rw [if_neg h6] at hk
        obtain ⟨n, hn⟩ := Option.isSome_iff_exists.1 hk
        exact absurd e.symm (hglt k n hn)
    · rw [if_neg h5] at hj e
      obtain ⟨n, hn⟩ := Option.isSome_iff_exists.1 hj
      by_cases h6 : k = num
      · rw [if_pos h6] at e
        exact absurd e (hglt j n hn)
      · rw [if_neg h6] at e hk
        exact h.gi j k hj hk e
  · rw [hsz] at hk
    try dsimp only
    by_cases h6 : k = num
    · rw [if_pos h6]
      intro hu
      have := h.low g hu
      omega
    · rw [if_neg h6] at hk ⊢
      exact h.ug k hk
  · rw [hsz] at hk
    by_cases h6 : k = num
    · rw [if_pos h6] at hk
      injection hk with hk
      omega
    · rw [if_neg h6] at hk
      exact h.bn k n hk
  · rcases List.mem_append.1 hb with hb | hb
    · exact h.ib b hb
    · simp only [List.mem_cons, List.not_mem_nil, or_false] at hb
      subst hb; exact hnum
  · exact (ho.mono (fun _ _ h => h.elim)).trans (ho3.mono (fun j _ hj => by subst hj; exact h.um))
end Go.Proofs.YtbmchgjilkoplaaDoor

/- Chapter 7, the program's store: New, Make. -/
namespace Go.Proofs.YtbmchgjilkoplaaDoor
open Go.ChangeShapes Go.WideShapes Go.ChangeAt Go.RowKit
open Go.Vx
set_option linter.unusedVariables false
variable {U : Nat → Prop} {w : World} {xb mb : Nat} {D : DataW Value} {G : Int → Nat} {bs : List (Int × Int)} {es : List En} {Q : Sl → Pl}

theorem make_arg {num n : Int} (h : num < 0 ∨ twoB n = false) : makeE bs num n = 1 := if_pos h
theorem make_keep {num n : Int} (h : makeE bs num n ≠ 0) : makeL bs num n = bs := by unfold makeL; rw [if_neg h]
theorem two_in {n : Int} (h : twoB n = true) : 1 ≤ n ∧ n ≤ 64 := by
  have := of_decide_eq_true h
  omega
set_option maxHeartbeats 1000000 in
theorem xmake_ok (hc : XcAt U w xb bs es) (num n : Int) (hnum : I64 num) (hlen : bs.length < 1000000) : Calls Tryd.prog 7 #[.pointer (some ⟨xb, 0, none⟩), .int .i64 num, .int .i64 n] w fun e w' => e = .returned (.int .i64 (makeE bs num n)) ∧ XcAt U w' xb (makeL bs num n) es ∧ Only (fun k => ¬ U k) w w' := by
  have HR : Hid (makeE bs num n ≠ 0 → XcAt U w xb (makeL bs num n) es) := fun hp => by rw [make_keep hp]; exact hc
  by_cases h1 : num < 0
  · have HE : Hid (makeE bs num n = 1) := make_arg (Or.inl h1)
    clear hc
    go_enter Tryd.func7, Tryd.ntmps7
    go_wp2_with fail
    all_goals
      go_ret
      exact ⟨by rw [HE.out]; try rfl, HR.out (by rw [HE.out]; decide), Only.refl _ _⟩
  · by_cases h2 : n < 1
    · have HE : Hid (makeE bs num n = 1) := make_arg (Or.inr (decide_eq_false (by omega)))
      clear hc
      go_enter Tryd.func7, Tryd.ntmps7
      go_wp2_with fail
      all_goals
        go_ret
        exact ⟨by rw [HE.out]; try rfl, HR.out (by rw [HE.out]; decide), Only.refl _ _⟩
    · by_cases h3 : 64 < n
      · have HE : Hid (makeE bs num n = 1) := make_arg (Or.inr (decide_eq_false (by omega)))
        clear hc
        go_enter Tryd.func7, Tryd.ntmps7
        go_wp2_with fail
        all_goals
          go_ret
          exact ⟨by rw [HE.out]; try rfl, HR.out (by rw [HE.out]; decide), Only.refl _ _⟩
      · obtain ⟨m, rfl⟩ : ∃ m : Nat, n = (m : Int) := ⟨n.toNat, by omega⟩
        have h4 := and_two m (by omega) (by omega)
        have hw1 : IntKind.i64.wrap ((m : Int) - 1) = (m : Int) - 1 := by rw [IntKind.wrap_i64]; omega
        cases ht : twoB (m : Int) with
        | false =>
          have HE : Hid (makeE bs num m = 1) := make_arg (Or.inr ht)
          rw [ht] at h4
          have h5 : (bits BinOp.and IntKind.i64 (m : Int) ((m : Int) - 1) != 0) = true := h4
          clear hc ht h4
          go_enter Tryd.func7, Tryd.ntmps7
          go_wp2_with fail
          all_goals
            go_ret
            exact ⟨by rw [HE.out]; try rfl, HR.out (by rw [HE.out]; decide), Only.refl _ _⟩
        | true =>
          rw [ht] at h4
          have h5 : (bits BinOp.and IntKind.i64 (m : Int) ((m : Int) - 1) != 0) = false := h4
          have HC := Vx.hid hc
          obtain ⟨mb, D, G, h, hf, hx, hl⟩ := hc
          have c0 := h.c0
          have hlk := (h.look num hnum).2
          have hmm := make_pls m (by omega)
          cases hs : sizeF bs num with
          | some q =>
            have HE : Hid (makeE bs num m = 7) := by
              show makeE bs num m = 7
              unfold makeE
              rw [if_neg (by rw [ht]; simp; omega)]
              cases hb : boxF bs num with
              | none => rw [sizeF_none hb] at hs; cases hs
              | some i => rfl
            rw [lookV_some hs, hs] at hlk
            have hl2 : (Instr.lookup 77 (.map (some mb)) (.int .i64 num) true).run Tryd.prog w = .ok (.tuple #[.slice (some ⟨G num, 0, none⟩) q.toNat q.toNat, .bool true]) w := hlk
            clear ht h4 h hf hx hl hlk hs hmm
            go_enter Tryd.func7, Tryd.ntmps7
            go_wp2_with fail
            all_goals
              go_ret
              exact ⟨by rw [HE.out]; try rfl, HR.out (by rw [HE.out]; decide), Only.refl _ _⟩
          | none =>
            have hbx : boxF bs num = none := by
              cases hb : boxF bs num with
              | none => rfl
              | some i =>
                obtain ⟨_, _, h7⟩ := boxF_at hb
                rw [hs] at h7; cases h7
            have HE : Hid (makeE bs num m = 0) := by
              show makeE bs num m = 0
              unfold makeE
              rw [if_neg (by rw [ht]; simp; omega), hbx]
            have HL : Hid (makeL bs num m = bs ++ [(num, (m : Int))]) := by show makeL bs num m = _; unfold makeL; rw [HE.out]; rfl
            have hxm := hx.make num m hnum
            have hwm := hf.make num m
            rw [HL.out] at hxm hwm
            have hxl : xb < w.heap.size := lt_of_some h.x
            have HF : Hid (∀ w3, w3.ownsMap Tryd.prog 3 RH mb (bs.length + 1) (D.put (.int .i64 num) (.held (.slice (some ⟨w.heap.size, 0, none⟩) m m))) → (w.alloc (.cells (fl plL (zrow m)).toArray 105)).drew.grownBy w3 (some mb) → XcAt U w3 xb (bs ++ [(num, (m : Int))]) es ∧ Only (fun j => ¬ U j) w w3) := fun w3 hm hgr => by
              have h9 : (w.alloc (.cells (fl plL (zrow m)).toArray 105)).drew.heap[w.heap.size]? = some (.cells (fl plL (zrow m)).toArray 105 (0, 0)) := heap_alloc_last w _
              have hr : OwnL plL ((w.alloc (.cells (fl plL (zrow m)).toArray 105)).drew) 0 105 (.slice (some ⟨w.heap.size, 0, none⟩) m m) (zrow m) := by
                refine ⟨by rw [length_fl], Or.inr ⟨w.heap.size, m, _, by rw [zrow_len], Nat.zero_le _, h9, Nat.le_of_eq (zrow_len m), by unfold maxLen; omega, ?_, ?_⟩⟩
                · simp only [List.size_toArray]; rw [length_fl, zrow_len]
                · rw [List.toList_toArray, ← length_fl, List.take_length]
              obtain ⟨h6, h7⟩ := h.made hnum hs (by omega) (by omega) (plF_nobox hx hs) hxm.nd hlen (((Only.refl _ w).alloc _).drew) (Nat.le_refl _) hr hm hgr
              exact ⟨⟨mb, _, _, h6, hwm, hxm, hl⟩, h7⟩
            have HX := Vx.hid h
            have HLN := Vx.hid hlen
            have HK := Vx.hid hnum
            rw [lookV_none hs, hs] at hlk
            have hl2 : (Instr.lookup 77 (.map (some mb)) (.int .i64 num) true).run Tryd.prog w = .ok (.tuple #[.slice none 0 0, .bool false]) w := hlk
            clear ht h4 h hf hx hl hlk hs hxm hwm hbx hlen hnum
            go_enter Tryd.func7, Tryd.ntmps7
            go_wp2_with fail
            obtain ⟨w3, hrun, hm3, hg3⟩ := (HX.out.quiet (((Only.refl _ w).alloc (.cells (fl plL (zrow m)).toArray 105)).drew)).m.update (t := 77) (e := 80) keyedI Tryd.underlying77 (by have := HLN.out; unfold maxLen; omega) (keyI HK.out) (val := .slice (some ⟨w.heap.size, 0, none⟩) m m) (d := .held (.slice (some ⟨w.heap.size, 0, none⟩) m m)) (ps := []) rfl
            have HF3 := Vx.hid (HF.out w3 hm3 hg3)
            clear hm3 hg3
            go_region
            all_goals
              go_wp2_with fail
              go_ret
              exact ⟨by rw [HE.out]; try rfl, by rw [HL.out]; exact HF3.out.1, HF3.out.2⟩
end Go.Proofs.YtbmchgjilkoplaaDoor

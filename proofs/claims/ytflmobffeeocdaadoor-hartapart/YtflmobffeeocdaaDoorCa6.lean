import Derived.Test.YtflmobffeeocdaaDoorCa5
/- Walks of package mem: Read. -/
namespace Go.Vx
/-- copy from cells that are known into a row, as one step of a region that draws. -/
theorem step_copy_row {P : Program} {ops : Array Oper} {o : Oper} {a : Act} {w : World} {K : Act → World → Prop} {Q : Exit → Act → World → Prop} {E : Prop} (hgd : o.guard = none) (d x : Operand) (dT sT : TypeId)
    (ho : o.op = .call { callee := .builtin .copy, args := #[d, x], argTypes := #[dT, sT] }) (elem : TypeId) (hu : P.underlying dT = some (.slice elem)) (hsz : (P.info? elem).map (·.size) = some 1)
    (g off dLen dCap : Nat) (ad : Addr) (sLen sCap : Nat) (hd : a.eval d = .slice (some ⟨g, off, none⟩) dLen dCap) (hs : a.eval x = .slice (some ad) sLen sCap)
    (cur : List Value) (t : TypeId) (hg : w.heap[g]? = some (.cells cur.toArray t (0, 0))) (cs : List Value) (hn : cs.length = Nat.min sLen dLen) (hsrc : ∀ j v, cs[j]? = some v → w.cell? (ad.add j) = some v) (h1 : ∀ v ∈ cs, v.oneCell' = true)
    (hfit : off + cs.length ≤ cur.length) (c : Nat) (hc : cs.length = c) (R : World → Prop) (hR : R (w.setRow g (splice cur off cs).toArray)) (h : ∀ w', R w' → K (a.put o.dst (goInt c)) w') :
    if Region.wanted o (yielded ops a.tmps) = true then Oper.wp P o a w K Q else E := by
  have hw : Region.wanted o (yielded ops a.tmps) = true := by simp [Region.wanted, hgd]
  rw [if_pos hw]
  have hrun := run_copy_row (P := P) w dT sT o.type elem g off dLen dCap ad sLen sCap cur.toArray t cs hu hsz hg hn hsrc (by simpa using hfit) h1
  rw [hc] at hrun
  unfold splice at hR
  have e : cur.toArray.toList.take off ++ cs ++ cur.toArray.toList.drop (off + c) = cur.take off ++ (cs ++ cur.drop (off + cs.length)) := by rw [hc, List.append_assoc]
  rw [e] at hrun
  generalize w.setRow g (cur.take off ++ (cs ++ cur.drop (off + cs.length))).toArray = w2 at hrun hR
  unfold Oper.wp
  simp [execOp, ho, resolve, invoke, builtin, hd, hs, hrun, Result.andThen]
  exact h _ hR
end Go.Vx
namespace Go.Proofs.YtflmobffeeocdaaDoor
open Go.ChangeShapes Go.WideShapes Go.ChangeAt Go.RowKit
open Go.Vx

theorem read_no {U : Nat → Prop} {w : World} {bm n : Nat} {f : Nat → UInt8} (h : MemAt U w bm n f) (a k : Int) (hi : insB n a k = false) :
    Calls Tryd.prog 7 #[.pointer (some ⟨bm, 0, none⟩), .int .i64 a, .int .i64 k] w fun e w' => e = .returned (.tuple #[.string ⟨#[]⟩, .int .i64 1]) ∧ w' = w := by
  have HC : Hid (Calls Tryd.prog 14 #[.pointer (some ⟨bm, 0, none⟩), .int .i64 a, .int .i64 k] w fun e w' => e = .returned (.bool false) ∧ w' = w) := by
    refine (holds_any h a k).mono ?_
    rintro e w' ⟨rfl, rfl⟩
    rw [hi]
    exact ⟨rfl, rfl⟩
  clear h hi
  go_enter Tryd.func7, Tryd.ntmps7
  go_wp2_with fail
  refine HC.out.mono ?_
  rintro e w' ⟨rfl, rfl⟩
  go_wp2_with fail
  all_goals
    go_ret2
    exact ⟨rfl, rfl⟩
/-- What a round of Read leaves. -/
def RdR (w : World) (g : Nat) (s : List UInt8) (k : Nat) (wr : World) : Prop :=
  wr.heap[g]? = some (.cells (rowV (putF (fun _ => 0) 0 (s.take k)) 0 s.length).toArray 5 (0, 0)) ∧ Only (fun _ => False) w wr
theorem bytes_from (g n k : Nat) (hk : k < n) (w : World) : (Instr.slice 57 (.slice (some ⟨g, 0, none⟩) n n) (some (.int .i64 (k : Int))) none none).run Tryd.prog w = .ok (.slice (some ⟨g, k, none⟩) (n - k) (n - k)) w := by
  have h0 : ¬ n = k := by omega
  have hu : Tryd.prog.underlying 57 = some (.slice (Tryd.prog.elem 57)) := by kernel_rfl
  have he : Tryd.prog.elem 57 = 5 := by kernel_rfl
  have hsz : (sizeOf 5).run Tryd.prog w = .ok 1 w := by
    have := sizeByte
    cases hq : Tryd.prog.info? 5 with
    | none => rw [hq] at this; simp at this
    | some i => rw [hq] at this; simp at this; simp [sizeOf, typeInfo, hq, this]
  rw [run_slice_l w 57 (some ⟨g, 0, none⟩) n n hu .i64 (k : Int) (by omega) (by omega), he, hsz]
  simp [sliced, h0, Addr.add]
  omega
theorem rd_step {U : Nat → Prop} {w wr : World} {bm n : Nat} {f : Nat → UInt8} {g at' N k : Nat} (hgw : g = w.heap.size) (hm : MemAt U w bm n f) (h : RdR w g (rowL f at' N) k wr) (hk : k < N) (hin : at' + N ≤ 4096 * n) (p o : Nat) (hpo : at' + k = 4096 * p + o) (ho : o < 4096) :
    Calls Tryd.prog 17 #[.pointer (some ⟨bm, 0, none⟩), .int .i64 (p : Int)] wr fun e w2 => ∃ (b : Nat) (cur cs : List Value), e = .returned (.pointer (some ⟨b, 0, none⟩)) ∧ Hid (w2.heap[g]? = some (.cells cur.toArray 5 (0, 0)) ∧ cur.length = N ∧
      cs.length = min (4096 - o) (N - k) ∧ (∀ j v, cs[j]? = some v → w2.cell? ((⟨b, o, none⟩ : Addr).add j) = some v) ∧ (∀ v ∈ cs, v.oneCell' = true) ∧ RdR w g (rowL f at' N) (k + cs.length) (w2.setRow g (splice cur k cs).toArray)) := by
  obtain ⟨hg, ho1⟩ := h
  have hp : p < n := by omega
  refine (seen_any (hm.only ho1 (fun _ h _ => h.elim)) p hp).mono ?_
  rintro e w2 ⟨b, rfl, hb, ho2⟩
  have hg2 : w2.heap[g]? = some (.cells (rowV (putF (fun _ => 0) 0 ((rowL f at' N).take k)) 0 N).toArray 5 (0, 0)) := by
    rw [ho2.block g (lt_of_some hg) (fun h => h), hg, length_rowL]
  refine ⟨b, rowV (putF (fun _ => 0) 0 ((rowL f at' N).take k)) 0 N, rowV f (4096 * p + o) (min (4096 - o) (N - k)), rfl, hg2, length_rowV _ _ _, length_rowV _ _ _, ?_, oneCell_row _ _ _, ?_⟩
  · intro j v hj
    have hjl : j < min (4096 - o) (N - k) := by
      have := (List.getElem?_eq_some_iff.1 hj).1
      rwa [length_rowV] at this
    rw [get_rowV _ _ _ _ hjl] at hj
    have hadd : (⟨b, o, none⟩ : Addr).add j = ⟨b, o + j, none⟩ := by unfold Addr.add; split <;> simp_all
    rw [hadd, cell_of_row _ _ (o + j) _ _ (0, 0) hb]
    have := get_rowV f (4096 * p) 4096 (o + j) (by omega)
    rw [← Nat.add_assoc] at this
    rw [← hj]
    simpa using this
  · have h1 : rowV f (4096 * p + o) (min (4096 - o) (N - k)) = (((rowL f at' N).drop k).take (4096 - o)).map byteV := by
      rw [rowL_drop, hpo]
      have : (rowL f (4096 * p + o) (N - k)).take (4096 - o) = rowL f (4096 * p + o) (min (4096 - o) (N - k)) := by
        apply List.ext_getElem?
        intro j
        rw [List.getElem?_take]
        by_cases h1 : j < 4096 - o
        · rw [if_pos h1]
          by_cases h2 : j < N - k
          · rw [get_rowL _ _ _ _ h2, get_rowL _ _ _ _ (by omega)]
          · rw [List.getElem?_eq_none (by rw [length_rowL]; omega), List.getElem?_eq_none (by rw [length_rowL]; omega)]
        · rw [if_neg h1, List.getElem?_eq_none (by rw [length_rowL]; omega)]
      rw [this]
      rfl
    have hl : (((rowL f at' N).drop k).take (4096 - o)).length = min (4096 - o) (N - k) := by
      rw [List.length_take, List.length_drop, length_rowL]
    rw [h1, splice_row _ 0 N k _ (by rw [hl]; omega), List.length_map, hl]
    have e := putF_two (fun _ => 0) 0 k (4096 - o) (rowL f at' N) (by rw [length_rowL]; omega)
    rw [e]
    have e2 : (rowL f at' N).take (k + min (4096 - o) (N - k)) = (rowL f at' N).take (k + (4096 - o)) := by
      apply List.take_eq_take_iff.2
      rw [length_rowL]
      omega
    refine ⟨?_, (ho1.trans ho2).setRow (Or.inr (by omega)) _⟩
    rw [e2, length_rowL]
    exact setRow_heap w2 g _ _ _ _ hg2
theorem rd_fit {k N o b g : Nat} {w2 : World} {cur cs : List Value} {R : Prop} (h : k < N ∧ o < 4096)
    (hb : w2.heap[g]? = some (.cells cur.toArray 5 (0, 0)) ∧ cur.length = N ∧ cs.length = min (4096 - o) (N - k) ∧ (∀ j v, cs[j]? = some v → w2.cell? ((⟨b, o, none⟩ : Addr).add j) = some v) ∧ (∀ v ∈ cs, v.oneCell' = true) ∧ R) : k + cs.length ≤ cur.length ∧ 0 < cs.length ∧ k + cs.length ≤ N := by
  obtain ⟨_, h1, h2, _⟩ := hb
  rw [h1, h2]; omega
theorem rd_wrap {at' N n k c : Nat} (h : at' + N ≤ 4096 * n ∧ n ≤ 256) (hc : k + c ≤ N) : IntKind.i64.wrap ((k : Int) + (c : Int)) = ((k + c : Nat) : Int) := by
  rw [IntKind.wrap_i64]; omega
theorem RdR.drew {w : World} {g : Nat} {s : List UInt8} {k : Nat} {wr : World} (h : RdR w g s k wr) : RdR w g s k wr.drew := ⟨h.1, h.2.drew⟩
theorem rd_end {w wr : World} {g : Nat} {s : List UInt8} (h : RdR w g s s.length wr) : (convert 57 9 (.slice (some ⟨g, 0, none⟩) s.length s.length)).run Tryd.prog wr = .ok (.string ⟨s.toArray⟩) wr := by
  refine run_convert_bytes_back (P := Tryd.prog) _ 57 9 5 ⟨g, 0, none⟩ s.length s Tryd.underlying57 Tryd.underlying5 Tryd.underlying9 (fun j hj => ?_)
  have hadd : (⟨g, 0, none⟩ : Addr).add j = ⟨g, j, none⟩ := by unfold Addr.add; split <;> simp_all
  rw [hadd, cell_of_row _ _ j _ _ (0, 0) h.1]
  have := get_rowV (putF (fun _ => 0) 0 (s.take s.length)) 0 s.length j hj
  rw [List.take_length] at this ⊢
  have e : putF (fun _ => 0) 0 s (0 + j) = s[j] := by
    unfold putF
    rw [if_pos (by omega)]
    simp [hj]
  rw [e] at this
  simpa [byteV] using this
set_option maxRecDepth 100000 in
theorem read_ok {U : Nat → Prop} {w : World} {bm n : Nat} {f : Nat → UInt8} (h : MemAt U w bm n f) (at' N : Nat) (hin : at' + N ≤ 4096 * n) :
    Calls Tryd.prog 7 #[.pointer (some ⟨bm, 0, none⟩), .int .i64 (at' : Int), .int .i64 (N : Int)] w fun e w' => e = .returned (.tuple #[.string ⟨(rowL f at' N).toArray⟩, .int .i64 0]) ∧ Only (fun _ => False) w w' := by
  have hn : n ≤ 256 := by obtain ⟨bp, q, h⟩ := h; exact h.top
  have HC : Hid (Calls Tryd.prog 14 #[.pointer (some ⟨bm, 0, none⟩), .int .i64 (at' : Int), .int .i64 (N : Int)] w fun e w' => e = .returned (.bool true) ∧ w' = w) := by
    refine (holds_any h (at' : Int) (N : Int)).mono ?_
    rintro e w' ⟨rfl, rfl⟩
    have : insB n (at' : Int) (N : Int) = true := by simp [insB]; omega
    rw [this]
    exact ⟨rfl, rfl⟩
  have HM : Hid (MemAt U w bm n f) := h
  have HIN : Hid (at' + N ≤ 4096 * n ∧ n ≤ 256) := ⟨hin, hn⟩
  have hmk := make_bytes N (by omega) w
  have H0 : Hid (RdR w w.heap.size (rowL f at' N) 0 (w.alloc (.cells (rowV (fun _ => 0) 0 N).toArray 5))) := by
    refine ⟨?_, (Only.refl _ w).alloc _⟩
    rw [List.take_zero, putF_nil, length_rowL]
    exact heap_alloc_last _ _
  have HLN : Hid ((rowL f at' N).length = N) := length_rowL _ _ _
  clear h hin hn
  generalize hg : w.heap.size = g at H0 hmk
  have HG : Hid (g = w.heap.size) := hg.symm
  clear hg
  go_enter Tryd.func7, Tryd.ntmps7
  go_wp2_with fail
  refine HC.out.mono ?_
  rintro e w' ⟨rfl, h⟩
  have h2 := h.symm; clear h; subst h2
  go_wp2_with fail
  go_loopw [9] (fun d wr => ∃ k : Nat, d = .int .i64 (k : Int) ∧ k ≤ N ∧ Hid (RdR w g (rowL f at' N) k wr)) (fun d _ => N - (intOf d).toNat)
  case atStart => exact ⟨0, rfl, by omega, H0⟩
  case round =>
    obtain ⟨k, rfl, hk, HW⟩ := hrel
    by_cases hlt : k < N
    · have h1 : (k : Int) < (N : Int) := by omega
      have hw1 : IntKind.i64.wrap ((at' : Int) + (k : Int)) = ((at' + k : Nat) : Int) := by have := HIN.out; rw [IntKind.wrap_i64]; omega
      have HSP : Hid (∀ wv, Calls Tryd.prog 15 #[.int .i64 ((at' + k : Nat) : Int)] wv fun e w' => e = .returned (.tuple #[.int .i64 (((at' + k) / 4096 : Nat) : Int), .int .i64 (((at' + k) % 4096 : Nat) : Int)]) ∧ w' = wv) := fun wv => split_any (at' + k) (by have := HIN.out; omega) wv
      have HPO : Hid (at' + k = 4096 * ((at' + k) / 4096) + (at' + k) % 4096 ∧ (at' + k) % 4096 < 4096) := ⟨by omega, by omega⟩
      generalize (at' + k) / 4096 = pg at HSP HPO
      generalize (at' + k) % 4096 = o at HSP HPO
      generalize hx : at' + k = x at hw1 HSP
      clear hx
      have HST := Vx.hid (rd_step HG.out HM.out HW.out.drew hlt HIN.out.1 pg o HPO.out.1 HPO.out.2)
      have hpf := fun b wv => page_from b o HPO.out.2 wv
      have hsf := fun wv => bytes_from g N k hlt wv
      have HCK : Hid (k < N ∧ o < 4096) := ⟨hlt, HPO.out.2⟩
      clear hlt hk
      go_wp2_with fail
      refine (HSP.out _).mono ?_
      rintro e w' ⟨rfl, h⟩
      have h2 := h.symm; clear h; subst h2
      go_wp2_with fail
      go_region_law (first | (refine Vx.step_copy_row rfl (.tmp 32) (.tmp 38) 57 57 rfl 5 Tryd.underlying57 sizeByte g k (N - k) (N - k) ⟨b, o, none⟩ (4096 - o) (4096 - o) (by simp [Act.eval, Act.put]) (by simp [Act.eval, Act.put]) cur 5 HB.out.1 cs HB.out.2.2.1 HB.out.2.2.2.1 HB.out.2.2.2.2.1 hfit c HCC.out (fun wx => Hid (RdR w g (rowL f at' N) (k + c) wx)) HRR.out ?_; intro w3 HW3) | (refine Vx.step_call rfl 17 #[.tmp 33, .tmp 34] #[27, 3] rfl #[.pointer (some ⟨bm, 0, none⟩), .int .i64 pg] (by simp [Act.eval, Act.put]) (by simp [go_sem]) HST.out ?_; rintro e w2 ⟨b, cur, cs, rfl, HB⟩; obtain ⟨hfit, hc0, hcN⟩ := rd_fit HCK.out HB.out; have HRR := Vx.hid HB.out.2.2.2.2.2; obtain ⟨c, hc⟩ : ∃ c, cs.length = c := ⟨_, rfl⟩; rw [hc] at HRR hc0 hcN; have HCC := Vx.hid hc; clear hc; have hw2 := rd_wrap HIN.out hcN; refine ⟨_, rfl, ?_⟩))
      all_goals
        go_wp2_with fail
        go_roundw
        case rel => exact ⟨_, _, _, _, _, _, _, _, _, _, _, _, _, _, _, _, _, _, _, _, _, _, _, _, _, ⟨k + c, rfl, hcN, HW3⟩, rfl⟩
        case measure => show N - (intOf (.int .i64 ((k : Int) + (c : Int)))).toNat < N - (intOf (.int .i64 (k : Int))).toNat; simp only [intOf]; omega
    · obtain rfl : k = N := by omega
      have h1 : ¬ (k : Int) < (k : Int) := by omega
      have hcv : (convert 57 9 (.slice (some ⟨g, 0, none⟩) k k)).run Tryd.prog wr = .ok (.string ⟨(rowL f at' k).toArray⟩) wr := by
        have h0 := HLN.out
        have h2 := HW.out
        rw [← h0] at h2
        have := rd_end (s := rowL f at' k) (by rw [h0] at h2; rw [h0]; exact h2)
        rw [h0] at this
        exact this
      clear hlt
      go_wp2_with fail
      all_goals
        go_ret2
        exact ⟨rfl, HW.out.2⟩
end Go.Proofs.YtflmobffeeocdaaDoor

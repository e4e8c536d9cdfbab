import Derived.Test.YtgncabcnefhkiaaCs45
import Derived.Test.YtgncabcnefhkiaaCs46
import Derived.Test.YtgncabcnefhkiaaCs47
import Derived.Test.YtgncabcnefhkiaaCs48
import Derived.Test.YtgncabcnefhkiaaCs33
import Derived.Laws.CopyOwn
import Derived.Laws.CopyRow
import Derived.Laws.MakeOwn
import Derived.Carry
/- SchedScripts: turned: a step. -/
namespace Go.Proofs.Ytgncabcnefhkiaa
open Go.ChangeShapes Go.WideShapes Go.ChangeAt Go.RowKit
open Go.Vx
set_option linter.unusedVariables false
variable {W : World} {xb rb zb bb : Nat} {ts : List (Int × Int)} {sz s : SS} {X R Z Bk : Nat → Prop} {cs : Array Value} {V : Nat → Value} {L : Nat → List Sh} {wr : World}

/-- One step. -/
theorem SlR.turned {n : Nat} (h : SlR W xb rb zb bb ts sz n wr) (hn : n ≤ 300000) (K A B C E : Int) (iA : I64 A) (iB : I64 B) (iC : I64 C) (st : ByteArray) :
    Calls Try.prog 12 #[.pointer (some ⟨xb, 0, none⟩), .pointer (some ⟨rb, 0, none⟩), .pointer (some ⟨bb, 0, none⟩), .agg #[.int .i64 K, .int .i64 A, .int .i64 B, .int .i64 C, .int .i64 E, .string st]] wr fun e w' => e = .returned (.bool true) ∧ SlR W xb rb zb bb ts sz (n + 1) w' := by
  obtain ⟨X, R, Z, Bk, s, cs, V, L, h, hL, h1, h2⟩ := h
  by_cases k1 : K = 1
  · subst k1; exact trd_add h A B C E iA iB iC st hL hn h1 h2
  by_cases k2 : K = 2
  · subst k2; exact trd_rem h A B C E iA iB iC st hL hn h1 h2
  by_cases k3 : K = 3
  · subst k3; exact trd_ready h A B C E iA iB iC st hL hn h1 h2
  by_cases k4 : K = 4
  · subst k4; exact trd_block h A B C E iA iB iC st hL hn h1 h2
  by_cases k5 : K = 5
  · subst k5; exact trd_yield h A B C E iA iB iC st hL hn h1 h2
  by_cases k6 : K = 6
  · subst k6; exact trd_prio h A B C E iA iB iC st hL hn h1 h2
  by_cases k7 : K = 7
  · subst k7; exact trd_next h A B C E iA iB iC st hL hn h1 h2
  by_cases k8 : K = 8
  · subst k8; exact trd_turn h A B C E iA iB iC st hL hn h1 h2
  by_cases k9 : K = 9
  · subst k9; exact trd_queue h A B C E iA iB iC st hL hn h1 h2
  by_cases k10 : K = 10
  · subst k10; exact trd_see h A B C E iA iB iC st hL hn h1 h2
  exact trd_other h A B C E iA iB iC st hL hn h1 h2 k1 k2 k3 k4 k5 k6 k7 k8 k9 k10
end Go.Proofs.Ytgncabcnefhkiaa

/- Chapter 9, the law's own: copy of elements of several cells; lent. -/
namespace Go.Vx
theorem run_copy_wide {P : Program} (w : World) (dT sT ty elem : TypeId) (s g o dLen dCap : Nat) (a : Addr) (sLen sCap : Nat) (cur : Array Value) (t : TypeId) (cs : List Value)
    (hu : P.underlying dT = some (.slice elem)) (hs : (P.info? elem).map (·.size) = some s)
    (hg : w.heap[g]? = some (.cells cur t (0, 0))) (hn : cs.length = Nat.min sLen dLen * s)
    (hsrc : ∀ j v, cs[j]? = some v → w.cell? (a.add j) = some v) (hfit : o + cs.length ≤ cur.size) (h1 : ∀ v ∈ cs, v.oneCell' = true) :
    (Builtin.copy_ #[dT, sT] ty #[.slice (some ⟨g, o, none⟩) dLen dCap, .slice (some a) sLen sCap]).run P w =
      .ok (goInt (Nat.min sLen dLen)) (w.setRow g (cur.toList.take o ++ cs ++ cur.toList.drop (o + cs.length)).toArray) := by
  have hl := run_loadCells_list (P := P) w a cs hsrc
  have hst := run_storeCells_at P g o t cs 0 cur w hg (by simpa using hfit) h1
  cases hq : P.info? elem with
  | none => simp [hq] at hs
  | some i =>
    have hi : i.size = s := by simpa [hq] using hs
    simp [Builtin.copy_, run_underlying hu, Builtin.lenOf, Builtin.firstCells, sizeOf, typeInfo, hq, hi, ← hn, hl, hst]
theorem run_copy_zero {P : Program} (w : World) (dT sT ty elem : TypeId) (s : Nat) (d a : Option Addr) (dLen dCap sLen sCap : Nat) (hu : P.underlying dT = some (.slice elem)) (hs : (P.info? elem).map (·.size) = some s) (hn : Nat.min sLen dLen = 0) :
    (Builtin.copy_ #[dT, sT] ty #[.slice d dLen dCap, .slice a sLen sCap]).run P w = .ok (goInt 0) w := by
  cases hq : P.info? elem with
  | none => simp [hq] at hs
  | some i =>
    have hl : ∀ (x : Addr), (loadCells x 0).run P w = .ok #[] w := fun x => by simpa using run_loadCells_list (P := P) w x [] (by simp)
    cases d <;> cases a <;> simp [Builtin.copy_, run_underlying hu, Builtin.lenOf, Builtin.firstCells, sizeOf, typeInfo, hq, hn, storeCells, hl]
theorem wpList_copy_wide {P : Program} {w : World} {ops : Array Oper} {rest : List Oper} {o : Oper} {a : Act} {Q : Exit → Act → World → Prop} (hgd : o.guard = none) (d s : Operand) (dT sT : TypeId)
    (ho : o.op = .call { callee := .builtin .copy, args := #[d, s], argTypes := #[dT, sT] }) (elem : TypeId) (sz : Nat) (hu : P.underlying dT = some (.slice elem)) (hsz : (P.info? elem).map (·.size) = some sz) (hsp : 0 < sz)
    (dp sp : Option Addr) (dLen dCap sLen sCap : Nat) (hd : a.eval d = .slice dp dLen dCap) (hs : a.eval s = .slice sp sLen sCap)
    (g off : Nat) (cur : List Value) (t : TypeId) (hg : w.heap[g]? = some (.cells cur.toArray t (0, 0))) (cs : List Value) (hn : cs.length = Nat.min sLen dLen * sz)
    (hpos : 0 < cs.length → dp = some ⟨g, off, none⟩ ∧ ∃ ad, sp = some ad ∧ ∀ j v, cs[j]? = some v → w.cell? (ad.add j) = some v)
    (hfit : off + cs.length ≤ cur.length) (h1 : ∀ v ∈ cs, v.oneCell' = true) (R : World → Prop) (hR : R (w.setRow g (splice cur off cs).toArray))
    (h : ∀ w', R w' → wpList P ops Q rest (a.put o.dst (goInt (Nat.min sLen dLen))) w') :
    wpList P ops Q (o :: rest) a w := by
  refine wpList_plain hgd fun K hK => ?_
  by_cases h0 : cs.length = 0
  · obtain rfl : cs = [] := List.eq_nil_of_length_eq_zero h0
    have hm : Nat.min sLen dLen = 0 := by
      rcases Nat.eq_zero_or_pos (Nat.min sLen dLen) with h | h
      · exact h
      · have := Nat.mul_pos h hsp
        simp only [List.length_nil] at hn
        omega
    have hrun := run_copy_zero (P := P) w dT sT o.type elem sz dp sp dLen dCap sLen sCap hu hsz hm
    have hw : w.setRow g (splice cur off ([] : List Value)).toArray = w := by
      simp only [splice, List.nil_append, List.length_nil, Nat.add_zero, List.take_append_drop]
      exact setRow_self w g _ t (0, 0) hg
    rw [hw] at hR
    have h9 := h w hR
    rw [hm] at h9
    unfold Oper.wp
    simp [execOp, ho, resolve, invoke, builtin, hd, hs, hrun, Result.andThen]
    exact hK _ _ h9
  · obtain ⟨rfl, ad, rfl, hsrc⟩ := hpos (by omega)
    have hrun := run_copy_wide (P := P) w dT sT o.type elem sz g off dLen dCap ad sLen sCap cur.toArray t cs hu hsz hg hn hsrc (by simpa using hfit) h1
    have hw : w.setRow g (cur.toArray.toList.take off ++ cs ++ cur.toArray.toList.drop (off + cs.length)).toArray = w.setRow g (splice cur off cs).toArray := by
      simp [splice]
    rw [hw] at hrun
    generalize w.setRow g (splice cur off cs).toArray = w2 at hrun hR
    generalize Nat.min sLen dLen = n at hrun h
    unfold Oper.wp
    simp [execOp, ho, resolve, invoke, builtin, hd, hs, hrun, Result.andThen]
    exact hK _ _ (h _ hR)
end Go.Vx
namespace Go.Proofs.Ytgncabcnefhkiaa
open Go.ChangeShapes Go.WideShapes Go.ChangeAt Go.RowKit
open Go.Vx
set_option linter.unusedVariables false
variable {w w2 : World} {ts : List (Int × Int)}
theorem tu_info : (Try.prog.info? 34).map (fun i => (i.zero, i.size, i.bytes)) = some (some (.agg #[.int .i64 0, .int .i64 0]), 2, 16) := by kernel_rfl
theorem tu_size : (Try.prog.info? 34).map (·.size) = some 2 := by
  have hi := tu_info
  cases hq : Try.prog.info? 34 with
  | none => rw [hq] at hi; simp at hi
  | some i =>
    rw [hq] at hi
    simp only [Option.map_some, Option.some.injEq, Prod.mk.injEq] at hi
    simp [hi.2.1]
theorem made_turns (n : Nat) : madeCells #[.int .i64 0, .int .i64 0] (n * 2) = (fl slL (List.replicate n ((0, 0) : Int × Int))).toArray := by
  obtain ⟨Z, hZ⟩ : ∃ Z : Array Value, Z = #[.int .i64 0, .int .i64 0] := ⟨_, rfl⟩
  rw [← hZ]
  have hs : Z.size = 2 := by rw [hZ]; rfl
  apply Array.ext'
  apply List.ext_getElem?
  intro j
  have hl : (fl slL (List.replicate n ((0, 0) : Int × Int))).length = n * 2 := by rw [length_fl, List.length_replicate]; rfl
  by_cases hj : j < n * 2
  · have h1 : j / 2 < (List.replicate n ((0, 0) : Int × Int)).length := by rw [List.length_replicate]; omega
    have h2 := get_fl slL (List.replicate n ((0, 0) : Int × Int)) (j / 2) (j % 2) h1 (Nat.mod_lt _ (by decide))
    have e : j / 2 * slL.sz + j % 2 = j := by show j / 2 * 2 + j % 2 = j; omega
    rw [e, List.getElem_replicate] at h2
    rw [List.toList_toArray, h2]
    simp only [madeCells, Array.toList_map, Array.toList_range, List.getElem?_map, List.getElem?_range hj, Option.map_some, hs]
    have hm : j % 2 = 0 ∨ j % 2 = 1 := by omega
    rcases hm with h | h <;> rw [h, hZ] <;> rfl
  · rw [List.getElem?_eq_none (by simp [madeCells]; omega), List.toList_toArray, List.getElem?_eq_none (by omega)]
theorem make_turns (n : Nat) (h : n ≤ 17000000000000) (w : World) : (Instr.makeSlice 22 (.int .i64 (n : Int)) (.int .i64 (n : Int))).run Try.prog w = .ok (.slice (some ⟨w.heap.size, 0, none⟩) n n) (w.alloc (.cells (fl slL (List.replicate n ((0, 0) : Int × Int))).toArray 34)) := by
  have hi := tu_info
  cases hq : Try.prog.info? 34 with
  | none => rw [hq] at hi; simp at hi
  | some i =>
    rw [hq] at hi
    simp only [Option.map_some, Option.some.injEq, Prod.mk.injEq] at hi
    have := run_make (P := Try.prog) w 22 34 i _ Try.underlying22 hq hi.1 .i64 .i64 n n (by omega) (by omega) (by rw [hi.2.2]; omega) (by omega)
    rw [this, hi.2.1]
    simp only [Int.toNat_natCast, Value.cells]
    rw [made_turns]
end Go.Proofs.Ytgncabcnefhkiaa

import Derived.Test.YtbmchgjilkoplaaDoorCk15
/- Chapter 7, the document's store: Holders. -/
namespace Go.Proofs.YtbmchgjilkoplaaDoor
open Go.ChangeShapes Go.WideShapes Go.ChangeAt Go.RowKit
open Go.Vx
set_option linter.unusedVariables false

/-- What stands between the rounds where a list of slots is made. -/
structure LsR (U : Nat → Prop) (w : World) (rb : Nat) (vb ve : Value) (bs : List (Int × Int)) (es : List En) (B ob : Nat) (oc : Array Value) (oT : TypeId) (v : Value) (ls : List Sl) (wr : World) : Prop where
  r0 : RsAt U w rb vb ve bs es
  on : Only (fun _ => False) w wr
  o : wr.heap[ob]? = some (.cells oc oT (0, 0))
  own : OwnL slL wr B 62 v ls
  lt : ob < B ∧ B ≤ wr.heap.size ∧ w.heap.size ≤ ob
theorem LsR.quiet {U : Nat → Prop} {w : World} {rb : Nat} {vb ve : Value} {bs : List (Int × Int)} {es : List En} {B ob : Nat} {oc : Array Value} {oT : TypeId} {v : Value} {ls : List Sl} {wr wx : World} (h : LsR U w rb vb ve bs es B ob oc oT v ls wr) (ho : Only (fun _ => False) wr wx) : LsR U w rb vb ve bs es B ob oc oT v ls wx :=
  ⟨h.r0, h.on.trans ho, by rw [ho.block ob (lt_of_some h.o) (fun h => h)]; exact h.o, h.own.kept ho (fun _ _ h => h), h.lt.1, Nat.le_trans h.lt.2.1 ho.size, h.lt.2.2⟩
theorem LsR.push {U : Nat → Prop} {w : World} {rb : Nat} {vb ve : Value} {bs : List (Int × Int)} {es : List En} {B ob : Nat} {oc : Array Value} {oT : TypeId} {v v' : Value} {ls ls' : List Sl} {wr wx : World} (h : LsR U w rb vb ve bs es B ob oc oT v ls wr) (ho : OwnL slL wx B 62 v' ls') (hon : Only (fun k => v.ownBlock = some k) wr wx) : LsR U w rb vb ve bs es B ob oc oT v' ls' wx := by
  have hv : ∀ k, v.ownBlock = some k → B ≤ k := fun k hk => (own_lt h.own hk).1
  obtain ⟨l1, l2, l3⟩ := h.lt
  exact ⟨h.r0, h.on.beyond hon (fun k hk => by have := hv k hk; omega), by rw [hon.block ob (lt_of_some h.o) (fun e => by have := hv ob e; omega)]; exact h.o, ho, l1, Nat.le_trans l2 hon.size, l3⟩
theorem own_base {α : Type} {L : Lay α} {w : World} {base b2 : Nat} {e : TypeId} {v : Value} {xs : List α} (h : OwnL L w base e v xs) (hb : b2 ≤ base) : OwnL L w b2 e v xs :=
  ⟨h.1, h.2.imp (fun h => h) (fun ⟨g, cap, cur, a, b, c⟩ => ⟨g, cap, cur, a, Nat.le_trans hb b, c⟩)⟩
def holdB (o : Sl) (e : En) : Bool := decide (e.cap.kind = o.1 ∧ e.cap.num = o.2)
def holdF (es : List En) (o : Sl) : List Sl := (es.filter (holdB o)).map (·.at')
theorem holdF_step (es : List En) (o : Sl) (k : Nat) (hk : k < es.length) : holdF (es.take (k + 1)) o = holdF (es.take k) o ++ (if holdB o es[k] then [es[k].at'] else []) := by
  unfold holdF
  rw [List.take_succ_eq_append_getElem hk, List.filter_append, List.map_append]
  congr 1
  by_cases h : holdB o es[k] = true
  · rw [if_pos h, List.filter_cons_of_pos h]; rfl
  · rw [if_neg h, List.filter_cons_of_neg h]; rfl
theorem holdF_len (es : List En) (o : Sl) : (holdF es o).length ≤ es.length := by
  unfold holdF
  rw [List.length_map]
  exact List.length_filter_le _ _
set_option maxRecDepth 100000 in
set_option maxHeartbeats 4000000 in
theorem holders_ok {U : Nat → Prop} {w : World} {rb : Nat} {vb ve : Value} {bs : List (Int × Int)} {es : List En} (h : RsAt U w rb vb ve bs es) (o : Sl) : Calls Tryd.prog 42 #[.pointer (some ⟨rb, 0, none⟩), .agg #[.int .i64 o.1, .int .i64 o.2]] w fun e w' => ∃ v, e = .returned v ∧ OwnL slL w' w.heap.size 62 v (holdF es o) ∧ Only (fun _ => False) w w' := by
  obtain ⟨o1, o2⟩ := o
  obtain ⟨w1, hw1⟩ : ∃ w1, w1 = w.alloc (.cells #[.int .i64 o1, .int .i64 o2] 60) := ⟨_, rfl⟩
  have hon : Only (fun _ => False) w w1 := by rw [hw1]; exact (Only.refl _ w).alloc _
  obtain ⟨ob, hob⟩ : ∃ ob, ob = w.heap.size := ⟨_, rfl⟩
  obtain ⟨B, hB⟩ : ∃ B, B = w.heap.size + 1 := ⟨_, rfl⟩
  have hs1 : w1.heap.size = w.heap.size + 1 := by rw [hw1]; simp
  have H0 : Hid (LsR U w rb vb ve bs es B ob #[.int .i64 o1, .int .i64 o2] 60 (.slice none 0 0) (holdF (es.take 0) (o1, o2)) w1) := ⟨h, hon, by rw [hob, hw1]; exact heap_alloc_last w _, OwnL.nil _ _ _ _, by omega, by omega, by omega⟩
  obtain ⟨p, c, hve, _, _, hg⟩ := h.e.form
  have HVE := Vx.hid hve
  have HG := Vx.hid hg
  obtain ⟨N, hN⟩ : ∃ N, N = es.length := ⟨_, rfl⟩
  have HN := Vx.hid hN
  have hne := h.ne
  rw [← hN] at hne
  have HB := Vx.hid (⟨hob, hB⟩ : _ ∧ _)
  clear h hve hg hN hon hs1 hB
  dsimp only
  go_enter Tryd.func42, Tryd.ntmps42
  go_wp2_with fail
  rw [← hw1, ← hob]
  clear hw1 hob
  go_loopw [5, 6] (fun v d wr => ∃ k : Nat, d = .int .i64 (k : Int) ∧ k ≤ N ∧ Hid (LsR U w rb vb ve bs es B ob #[.int .i64 o1, .int .i64 o2] 60 v (holdF (es.take k) (o1, o2)) wr)) (fun _ d _ => N - (intOf d).toNat)
  case atStart => exact ⟨0, rfl, by omega, H0⟩
  case round =>
    clear H0
    obtain ⟨k, rfl, hk, HR⟩ := hrel
    obtain ⟨pv, cv, hvf, _⟩ := HR.out.own.form
    obtain ⟨m, hm⟩ : ∃ m, m = (holdF (es.take k) (o1, o2)).length := ⟨_, rfl⟩
    rw [← hm] at hvf
    subst hvf
    have hrs := HR.out.r0.quiet HR.out.on
    have c1 := hrs.c1
    rw [HVE.out, ← HN.out] at c1
    by_cases hlt : k < N
    · have hkl : k < es.length := by have := HN.out; omega
      have h1 : (k : Int) < (N : Int) := by omega
      have hidk : 0 ≤ (k : Int) ∧ (k : Int) < (N : Int) := by omega
      have hwk : IntKind.i64.wrap ((k : Int) + 1) = (k : Int) + 1 := by rw [IntKind.wrap_i64]; omega
      obtain ⟨g, rfl, _⟩ := HG.out (by omega)
      obtain ⟨g', c', hve', hE⟩ := hrs.e12 k hkl
      obtain rfl : g = g' := by have := HVE.out.symm.trans hve'; simp at this; exact this.1
      have hst := holdF_step es (o1, o2) k hkl
      obtain ⟨y, hy⟩ : ∃ y, y = es[k] := ⟨_, rfl⟩
      rw [← hy] at hE hst
      obtain ⟨a0, a1, a2, a3, _, _, _, _, _, _, _, _⟩ := hE
      obtain ⟨⟨ya1, ya2⟩, ⟨yc0, yc1, yc2, yc3, yc4, yc5, yc6, yc7⟩, yf⟩ := y
      dsimp only at a0 a1 a2 a3 hst
      have q0 : wr.cell? ⟨ob, 0, none⟩ = some (.int .i64 o1) := (cell_of_row _ _ 0 _ _ (0, 0) HR.out.o).trans rfl
      have q1 : wr.cell? ⟨ob, 1, none⟩ = some (.int .i64 o2) := (cell_of_row _ _ 1 _ _ (0, 0) HR.out.o).trans rfl
      have HLE : Hid ((holdF (es.take k) (o1, o2)).length + 1 ≤ 10000000) := by
        have h3 := holdF_len (es.take k) (o1, o2)
        rw [List.length_take] at h3
        have h4 := HN.out
        show _ + 1 ≤ 10000000
        omega
      clear hve' hy hrs hlt hm
      by_cases e1 : yc0 = o1
      · subst e1
        by_cases e2 : yc1 = o2
        · subst e2
          have HST : Hid (holdF (es.take (k + 1)) (yc0, yc1) = holdF (es.take k) (yc0, yc1) ++ [(ya1, ya2)]) := by
            show holdF (es.take (k + 1)) (yc0, yc1) = _
            rw [hst, if_pos (show holdB (yc0, yc1) ⟨(ya1, ya2), ⟨yc0, yc1, yc2, yc3, yc4, yc5, yc6, yc7⟩, yf⟩ = true from decide_eq_true ⟨rfl, rfl⟩)]
          clear hst
          go_wp2_with fail
          go_quiet (fail)
          obtain ⟨w3, hw3⟩ : ∃ w3, w3 = wr.drewN nq := ⟨_, rfl⟩
          have hon3 : Only (fun _ => False) wr w3 := by rw [hw3]; exact (Only.refl _ wr).drewN _
          have HR3 := Vx.hid (HR.out.quiet hon3)
          have HBL : Hid (B ≤ w3.heap.size) := HR3.out.lt.2.1
          have hrs3 := HR3.out.r0.quiet HR3.out.on
          have c13 := hrs3.c1
          rw [HVE.out, ← HN.out] at c13
          have b0 : w3.cell? ⟨g, k * 12, none⟩ = some (.int .i64 ya1) := by rw [hw3]; simpa using a0
          have b1 : w3.cell? ⟨g, k * 12 + 1, none⟩ = some (.int .i64 ya2) := by rw [hw3]; simpa using a1
          rw [← hw3]
          clear hw3 hon3 hrs3
          go_wp2_with (at_builtin; refine wpList_append_one slK _ rfl _ _ rfl B (.slice pv m cv) _ rfl HR3.out.own (ya1, ya2) _ _ rfl rfl rfl HLE.out HBL.out ?_; intro v' w5 hv1 hv2 hv3; have HNX := Vx.hid (HR3.out.push hv1 hv2); clear hv1 hv2 hv3)
          go_roundw
          case rel => exact ⟨k + 1, by go_num, by omega, by rw [HST.out]; exact HNX⟩
          case measure => simp only [intOf]; omega
        · have HST : Hid (holdF (es.take (k + 1)) (yc0, o2) = holdF (es.take k) (yc0, o2)) := by
            show holdF (es.take (k + 1)) (yc0, o2) = _
            rw [hst, if_neg (show ¬ holdB (yc0, o2) ⟨(ya1, ya2), ⟨yc0, yc1, yc2, yc3, yc4, yc5, yc6, yc7⟩, yf⟩ = true from fun h => e2 (of_decide_eq_true h).2), List.append_nil]
          have he : (yc1 == o2) = false := beq_eq_false_iff_ne.2 e2
          clear hst
          go_wp2_with fail
          go_quiet (fail)
          go_wp2_with fail
          go_roundw
          case rel => exact ⟨k + 1, by go_num, by omega, by rw [HST.out]; exact HR.out.quiet ((Only.refl _ _).drewN _)⟩
          case measure => simp only [intOf]; omega
      · have HST : Hid (holdF (es.take (k + 1)) (o1, o2) = holdF (es.take k) (o1, o2)) := by
          show holdF (es.take (k + 1)) (o1, o2) = _
          rw [hst, if_neg (show ¬ holdB (o1, o2) ⟨(ya1, ya2), ⟨yc0, yc1, yc2, yc3, yc4, yc5, yc6, yc7⟩, yf⟩ = true from fun h => e1 (of_decide_eq_true h).1), List.append_nil]
        have he : (yc0 == o1) = false := beq_eq_false_iff_ne.2 e1
        clear hst
        go_wp2_with fail
        go_quiet (fail)
        go_wp2_with fail
        go_roundw
        case rel => exact ⟨k + 1, by go_num, by omega, by rw [HST.out]; exact HR.out.quiet ((Only.refl _ _).drewN _)⟩
        case measure => simp only [intOf]; omega
    · obtain rfl : k = N := by omega
      have h1 : ¬ (k : Int) < (k : Int) := by omega
      have HFI : Hid (OwnL slL wr w.heap.size 62 (.slice pv m cv) (holdF es (o1, o2)) ∧ Only (fun _ => False) w wr) := by
        have h3 := HR.out.own
        rw [HN.out, List.take_length] at h3
        exact ⟨own_base h3 (by have := HB.out; omega), HR.out.on⟩
      clear hlt hm hrs
      go_wp2_with fail
      all_goals
        go_ret
        exact ⟨_, rfl, HFI.out.1, HFI.out.2⟩
end Go.Proofs.YtbmchgjilkoplaaDoor

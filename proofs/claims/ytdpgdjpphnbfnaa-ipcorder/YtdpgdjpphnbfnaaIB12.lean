/- Chapter 10, the document's bus: Line; pure facts on who goes. -/
import Derived.Test.YtdpgdjpphnbfnaaIB3
namespace Go.Vx
set_option linter.unusedVariables false
/-- Who waits there, of the first k. -/
def lineK (ws : List Wt) (n : Int) (k : Nat) : List Int := ((ws.take k).filter fun x => decide (x.at' = n)).map (·.thr)
theorem lineK_zero (ws : List Wt) (n : Int) : lineK ws n 0 = [] := rfl
theorem lineK_yes {ws : List Wt} {n : Int} {k : Nat} (hk : k < ws.length) (h : ws[k].at' = n) : lineK ws n (k + 1) = lineK ws n k ++ [ws[k].thr] := by
  unfold lineK
  rw [List.take_succ_eq_append_getElem hk, List.filter_append, List.map_append]
  simp [h]
theorem lineK_no {ws : List Wt} {n : Int} {k : Nat} (hk : k < ws.length) (h : ws[k].at' ≠ n) : lineK ws n (k + 1) = lineK ws n k := by
  unfold lineK
  rw [List.take_succ_eq_append_getElem hk, List.filter_append, List.map_append]
  simp [h]
theorem lineK_all (s : Bs) (n : Int) : lineK s.ws n s.ws.length = lineL s n := by
  unfold lineK lineL
  rw [List.take_length]
theorem lineK_len (ws : List Wt) (n : Int) (k : Nat) : (lineK ws n k).length ≤ ws.length := by
  unfold lineK
  rw [List.length_map]
  refine Nat.le_trans (List.length_filter_le _ _) ?_
  rw [List.length_take]
  omega
/-- Without one, told by what it is named by. -/
theorem cuI_filter {α β : Type} [DecidableEq β] (f : α → β) (xs : List α) (hn : (xs.map f).Nodup) {i : Nat} (hi : i < xs.length) : cuI xs i = xs.filter (fun x => decide (f x ≠ f xs[i])) := by
  have h1 := List.pairwise_iff_getElem.1 hn
  have hl : ∀ x ∈ xs.take i, decide (f x ≠ f xs[i]) = true := fun x hx => by
    obtain ⟨j, hj, rfl⟩ := List.getElem_of_mem hx
    rw [List.length_take] at hj
    rw [List.getElem_take]
    have := h1 j i (by rw [List.length_map]; omega) (by rw [List.length_map]; exact hi) (by omega)
    rw [List.getElem_map, List.getElem_map] at this
    exact decide_eq_true this
  have hr : ∀ x ∈ xs.drop (i + 1), decide (f x ≠ f xs[i]) = true := fun x hx => by
    obtain ⟨j, hj, rfl⟩ := List.getElem_of_mem hx
    rw [List.length_drop] at hj
    rw [List.getElem_drop]
    have := h1 i (i + 1 + j) (by rw [List.length_map]; exact hi) (by rw [List.length_map]; omega) (by omega)
    rw [List.getElem_map, List.getElem_map] at this
    exact decide_eq_true (fun e => this e.symm)
  have e : xs = xs.take i ++ xs[i] :: xs.drop (i + 1) := by rw [← List.drop_eq_getElem_cons hi, List.take_append_drop]
  have e2 : xs.filter (fun x => decide (f x ≠ f xs[i])) = (xs.take i ++ xs[i] :: xs.drop (i + 1)).filter (fun x => decide (f x ≠ f xs[i])) := by rw [← e]
  rw [e2, List.filter_append, List.filter_cons, List.filter_eq_self.2 hl, List.filter_eq_self.2 hr]
  simp [cuI]
theorem tF_none {ws : List Wt} {t : Int} (h : tF ws t = none) : ∀ x ∈ ws, x.thr ≠ t := fun x hx => by
  have := idxF_none h x hx
  simpa using this
/-- One stops waiting. -/
theorem cancS_filter (s : Bs) (hn : (s.ws.map (·.thr)).Nodup) (t : Int) : cancS s t = ⟨s.ps, s.ws.filter fun x => decide (x.thr ≠ t)⟩ := by
  unfold cancS
  cases h : tF s.ws t with
  | none =>
    have : s.ws.filter (fun x => decide (x.thr ≠ t)) = s.ws := List.filter_eq_self.2 (fun x hx => decide_eq_true (tF_none h x hx))
    rw [this]
  | some i =>
    obtain ⟨hl, hp⟩ := idxF_get h
    have e : i - 0 = i := Nat.sub_zero i
    simp only [e] at hl hp
    have ht : s.ws[i].thr = t := of_decide_eq_true hp
    dsimp only
    rw [cuI_filter (·.thr) s.ws hn hl]
    simp only [ht]
/-- The first k of a list stop waiting. -/
def cancK (s : Bs) (l : List Int) (k : Nat) : Bs := ⟨s.ps, s.ws.filter fun x => decide (x.thr ∉ l.take k)⟩
theorem cancK_zero (s : Bs) (l : List Int) : cancK s l 0 = s := by
  unfold cancK
  have : s.ws.filter (fun x => decide (x.thr ∉ l.take 0)) = s.ws := List.filter_eq_self.2 (fun x _ => by simp)
  rw [this]
theorem cancK_step (s : Bs) (hn : (s.ws.map (·.thr)).Nodup) (l : List Int) (k : Nat) (hk : k < l.length) : cancS (cancK s l k) l[k] = cancK s l (k + 1) := by
  rw [cancS_filter _ (List.Nodup.sublist (List.Sublist.map _ List.filter_sublist) hn)]
  unfold cancK
  dsimp only
  rw [List.filter_filter]
  congr 1
  apply List.filter_congr
  intro x _
  rw [List.take_succ_eq_append_getElem hk]
  simp only [List.mem_append, List.mem_singleton, not_or, ne_eq, ← Bool.decide_and]
  rw [decide_eq_decide]
  exact and_comm
theorem cancK_all (s : Bs) (hn : (s.ws.map (·.thr)).Nodup) (n : Int) : cancK s (lineL s n) (lineL s n).length = ⟨s.ps, s.ws.filter fun x => decide (x.at' ≠ n)⟩ := by
  unfold cancK
  rw [List.take_length]
  congr 1
  apply List.filter_congr
  intro x hx
  rw [decide_eq_decide]
  unfold lineL
  constructor
  · intro h e
    exact h (List.mem_map.2 ⟨x, List.mem_filter.2 ⟨hx, decide_eq_true e⟩, rfl⟩)
  · intro h h2
    obtain ⟨y, hy, he⟩ := List.mem_map.1 h2
    obtain ⟨hy1, hy2⟩ := List.mem_filter.1 hy
    have hy3 := of_decide_eq_true hy2
    obtain ⟨i, hi, rfl⟩ := List.getElem_of_mem hx
    obtain ⟨j, hj, rfl⟩ := List.getElem_of_mem hy1
    have hij : i = j := by
      refine Classical.byContradiction (fun hne => ?_)
      have h1 := List.pairwise_iff_getElem.1 hn
      rcases Nat.lt_or_gt_of_ne hne with h5 | h5
      · have := h1 i j (by rw [List.length_map]; exact hi) (by rw [List.length_map]; exact hj) h5
        rw [List.getElem_map, List.getElem_map] at this
        exact this he.symm
      · have := h1 j i (by rw [List.length_map]; exact hj) (by rw [List.length_map]; exact hi) h5
        rw [List.getElem_map, List.getElem_map] at this
        exact this he
    subst hij
    exact h hy3
end Go.Vx
namespace Go.Proofs.Ytdpgdjpphnbfnaa
open Go.ChangeShapes Go.WideShapes Go.ChangeAt Go.RowKit
open Go.Vx
set_option linter.unusedVariables false
variable {U V S : Nat → Prop} {w w2 w3 : World} {rb : Nat} {vp vw : Value} {s : Bs}

theorem inKi : Kind Try.prog inL 51 3 := kind_of (z := .int .i64 0) (b := 8) Try.underlying51 (by kernel_rfl) rfl (by decide)
theorem OwnL.push {α : Type} {L : Lay α} {w w4 w5 : World} {e : TypeId} {v v' : Value} {xs ys : List α} (h : OwnL L w4 w.heap.size e v xs) (ho : Only (fun _ => False) w w4) (h1 : OwnL L w5 w.heap.size e v' ys) (h2 : Only (fun k => v.ownBlock = some k) w4 w5) : Only (fun _ => False) w w5 :=
  ho.beyond h2 (fun k hk => (own_lt h hk).1)
set_option maxRecDepth 100000 in
set_option maxHeartbeats 2000000 in
theorem rline_ok (h : RbAt U w rb vp vw s) (n : Int) : Calls Try.prog 51 #[.pointer (some ⟨rb, 0, none⟩), .int .i64 n] w fun e w' => ∃ v, e = .returned (.tuple #[v, .int .i64 (lineE s n)]) ∧ OwnL inL w' w.heap.size 3 v (lineR s n) ∧ Only (fun _ => False) w w' := by
  cases hi : pF s.ps n with
  | none =>
    have HP := Vx.hid (place_none h hi)
    have e1 : lineE s n = 6 := by unfold lineE; rw [hi]
    have e2 : lineR s n = [] := by unfold lineR; rw [hi]
    rw [e1, e2]
    clear h hi e1 e2
    go_enter Try.func51, Try.ntmps51
    go_wp2_with fail
    refine HP.out.mono ?_
    rintro e w' ⟨rfl, h⟩
    have h3 := h.symm; clear h; subst h3
    go_wp2_with fail
    refine bodyPost_ret (v := .tuple #[.slice none 0 0, .int .i64 6]) ?_ rfl ⟨_, rfl, OwnL.nil _ _ _ _, Only.refl _ _⟩
    simp [results, Try.results51, go_sem]
  | some i =>
    have HP := Vx.hid (place_some h hi)
    have e1 : lineE s n = 0 := by unfold lineE; rw [hi]
    have e2 : lineR s n = lineK s.ws n s.ws.length := by unfold lineR; rw [hi]; dsimp only; rw [lineK_all]
    rw [e1, e2]
    have hneg : ¬ (i : Int) < 0 := by omega
    have HH := Vx.hid h
    have hn := h.nl
    obtain ⟨p, c, hv, _⟩ := own_w9 h.l
    obtain ⟨N, hN⟩ : ∃ N, N = s.ws.length := ⟨_, rfl⟩
    rw [← hN] at hn hv ⊢
    have HN := Vx.hid hN
    have HV := Vx.hid hv
    clear h hi e1 e2 hN hv
    go_enter Try.func51, Try.ntmps51
    go_wp2_with fail
    refine HP.out.mono ?_
    rintro e w' ⟨rfl, h⟩
    have h3 := h.symm; clear h; subst h3
    go_wp2_with fail
    go_loopw [7, 8] (fun v d wr => ∃ k : Nat, d = .int .i64 (k : Int) ∧ k ≤ N ∧ Hid (OwnL inL wr w.heap.size 3 v (lineK s.ws n k) ∧ Only (fun _ => False) w wr)) (fun _ d _ => N - (RowKit.intOf d).toNat)
    case atStart => exact ⟨0, rfl, by omega, OwnL.nil _ _ _ _, Only.refl _ _⟩
    case round =>
      obtain ⟨k, rfl, hk, HR⟩ := hrel
      have c1 := (HH.out.quiet HR.out.2).c1
      rw [HV.out] at c1
      obtain ⟨pv, cv, hvf, _⟩ := HR.out.1.form
      obtain ⟨m, hm⟩ : ∃ m, m = (lineK s.ws n k).length := ⟨_, rfl⟩
      rw [← hm] at hvf
      subst hvf
      by_cases hlt : k < N
      · have hlb : k < s.ws.length := by have := HN.out; omega
        have h1 : (k : Int) < (N : Int) := by omega
        have hidx : 0 ≤ (k : Int) ∧ (k : Int) < (N : Int) := by omega
        have hwk : IntKind.i64.wrap ((k : Int) + 1) = (k : Int) + 1 := by rw [IntKind.wrap_i64]; omega
        obtain ⟨g, c', hv', hg, _⟩ := (HH.out.quiet HR.out.2).waiter hlb
        rw [HV.out] at hv'
        simp only [Value.slice.injEq] at hv'
        obtain ⟨hpg, _, _⟩ := hv'
        subst hpg
        have b0 := hg.c0
        have b1 := hg.c1
        by_cases he : s.ws[k].at' = n
        · have HY : Hid (lineK s.ws n (k + 1) = lineK s.ws n k ++ [s.ws[k].thr]) := lineK_yes hlb he
          rw [he] at b0
          generalize s.ws[k].thr = y at b1 HY
          have HL1 : Hid ((lineK s.ws n k).length + 1 ≤ 10000000) := by
            have := lineK_len s.ws n k
            have := HN.out
            show _ ≤ _
            omega
          have HBB : Hid (w.heap.size ≤ wr.heap.size) := HR.out.2.size
          clear hg he hlt hm
          go_wp2_with (at_builtin; refine wpList_append_one inKi _ rfl _ _ rfl w.heap.size (.slice pv m cv) _ rfl HR.out.1 y _ _ rfl rfl rfl HL1.out HBB.out ?_; intro v' w5 hv1 hv2 hv3; have HNX := Vx.hid (⟨hv1, OwnL.push HR.out.1 HR.out.2 hv1 hv2⟩ : _ ∧ _); obtain ⟨p', c'', hv', _⟩ := hv1.form; clear hv1 hv2 hv3 hv')
          go_roundw
          case rel => exact ⟨k + 1, by go_num, by omega, by rw [HY.out]; exact HNX⟩
          case measure => simp only [RowKit.intOf]; omega
        · have HY : Hid (lineK s.ws n (k + 1) = lineK s.ws n k) := lineK_no hlb he
          have he2 : (s.ws[k].at' == n) = false := by simpa using he
          clear hg b1
          generalize s.ws[k].at' = y at b0 he he2
          clear hlt hm
          go_wp2_with fail
          go_roundw
          case rel => exact ⟨k + 1, by go_num, by omega, by rw [HY.out]; exact HR⟩
          case measure => simp only [RowKit.intOf]; omega
      · obtain rfl : k = N := by omega
        have h1 : ¬ (k : Int) < (k : Int) := by omega
        clear hlt hm
        go_wp2_with fail
        refine bodyPost_ret (v := .tuple #[.slice pv m cv, .int .i64 0]) ?_ rfl ⟨_, rfl, HR.out.1, HR.out.2⟩
        simp [results, Try.results51, go_sem]
end Go.Proofs.Ytdpgdjpphnbfnaa

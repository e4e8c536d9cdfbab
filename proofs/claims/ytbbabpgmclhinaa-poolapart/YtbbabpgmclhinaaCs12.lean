import Derived.Test.YtbbabpgmclhinaaCs11
import Derived.Deep.QuietTactic
/- Chapter 8, the document's pool: Remove of an object of one page. -/
namespace Go.Proofs.Ytbbabpgmclhinaa
open Go.ChangeShapes Go.WideShapes Go.ChangeAt Go.RowKit
open Go.Vx
set_option linter.unusedVariables false
variable {U S : Nat → Prop} {w w2 : World} {pb : Nat} {P : Int} {vo vr : Value} {os rs : List (Int × Int)}

/-- What stands between the rounds where a list is made. -/
structure MkL (T : TypeId) (w1 : World) (v : Value) (ls : List (Int × Int)) (wr : World) : Prop where
  on : Only (fun _ => False) w1 wr
  own : OwnL slL wr w1.heap.size T v ls
theorem MkL.quiet {T : TypeId} {w1 : World} {v : Value} {ls : List (Int × Int)} {wr wx : World} (h : MkL T w1 v ls wr) (ho : Only (fun _ => False) wr wx) : MkL T w1 v ls wx := ⟨h.on.trans ho, h.own.kept ho (fun _ _ h => h)⟩
theorem MkL.push {T : TypeId} {w1 : World} {v v' : Value} {ls ls' : List (Int × Int)} {wr wx : World} (h : MkL T w1 v ls wr) (ho : OwnL slL wx w1.heap.size T v' ls') (hon : Only (fun k => v.ownBlock = some k) wr wx) : MkL T w1 v' ls' wx :=
  ⟨h.on.beyond hon (fun k hk => (own_lt h.own hk).1), ho⟩
theorem MkL.nil (T : TypeId) (w1 : World) : MkL T w1 (.slice none 0 0) [] w1 := ⟨Only.refl _ _, OwnL.nil _ _ _ _⟩
def outF (os : List (Int × Int)) (o : Int × Int) : List (Int × Int) := os.filter (fun x => decide (x ≠ o))
theorem outF_step (os : List (Int × Int)) (o : Int × Int) (k : Nat) (hk : k < os.length) : outF (os.take (k + 1)) o = outF (os.take k) o ++ (if os[k] = o then [] else [os[k]]) := by
  unfold outF
  rw [List.take_succ_eq_append_getElem hk, List.filter_append]
  congr 1
  by_cases h : os[k] = o
  · rw [if_pos h, List.filter_cons_of_neg (by simpa using h)]; rfl
  · rw [if_neg h, List.filter_cons_of_pos (by simpa using h)]; rfl
theorem outF_len (os : List (Int × Int)) (o : Int × Int) : (outF os o).length ≤ os.length := List.length_filter_le _ _
theorem outF_none {os : List (Int × Int)} {o : Int × Int} (h : os.contains o = false) : (outF os o).length = os.length := by
  have : outF os o = os := List.filter_eq_self.2 (fun x hx => by
    simp only [decide_eq_true_eq]
    rintro rfl
    rw [List.contains_iff_mem.2 hx] at h
    cases h)
  rw [this]
theorem outF_some {os : List (Int × Int)} {o : Int × Int} (h : os.contains o = true) : (outF os o).length ≠ os.length := by
  intro he
  have h1 := List.length_filter_eq_length_iff.1 he o (List.contains_iff_mem.1 h)
  simp at h1
set_option maxRecDepth 100000 in
set_option maxHeartbeats 2000000 in
theorem remove_obj (hc : PcAt U w pb P os rs) (k n : Int) (hk1 : k ≠ 1) : Calls Try.prog 32 #[.pointer (some ⟨pb, 0, none⟩), .agg #[.int .i64 k, .int .i64 n]] w fun e w' => e = .returned (.int .i64 (remE os rs (k, n))) ∧ PcAt U w' pb P (remO os (k, n)) (remG os rs (k, n)) ∧ Only (fun k => ¬ U k) w w' := by
  obtain ⟨vo, vr, h⟩ := hc
  obtain ⟨w1, hw1⟩ : ∃ w1, w1 = w.alloc (.cells #[.int .i64 k, .int .i64 n] 33) := ⟨_, rfl⟩
  have ho1 : Only (fun _ => False) w w1 := by rw [hw1]; exact (Only.refl _ w).alloc _
  have hz : w1.heap[w.heap.size]? = some (.cells #[.int .i64 k, .int .i64 n] 33 (0, 0)) := by rw [hw1]; exact heap_alloc_last _ _
  obtain ⟨ob, hob⟩ : ∃ ob, ob = w.heap.size := ⟨_, rfl⟩
  rw [← hob] at hz
  have HZ := Vx.hid hz
  have HMO : Hid (∀ wv, Only (fun k => ¬ U k) w1 wv → Only (fun k => ¬ U k) w wv) := fun wv hv => (ho1.mono (fun _ _ h => h.elim)).trans hv
  have HK := Vx.hid (h.quiet ho1)
  have HRO : Hid (remO os (k, n) = outF os (k, n)) := if_neg hk1
  have HRG : Hid (remG os rs (k, n) = rs) := if_neg hk1
  have HRE : Hid (remE os rs (k, n) = if os.contains (k, n) = true then 0 else 6) := if_neg hk1
  have e1 : (k == 1) = false := beq_eq_false_iff_ne.2 hk1
  have hno := h.no
  obtain ⟨p, c, hvo, _⟩ := own_two h.o
  subst hvo
  obtain ⟨N, hN⟩ : ∃ N, N = os.length := ⟨_, rfl⟩
  have HN := Vx.hid hN
  rw [← hN] at hno HK
  have H0 : Hid (MkL 33 w1 (.slice none 0 0) (outF (os.take 0) (k, n)) w1) := MkL.nil _ _
  obtain ⟨⟨z0, z1⟩, _⟩ := obj_cells hz
  clear h ho1 hz hN hk1
  go_enter Try.func32, Try.ntmps32
  go_upto_region 1 with fail
  rw [← hw1, ← hob]
  clear hw1 hob
  go_wp2_with fail
  clear z0 z1
  go_loopw [8, 9] (fun v d wr => ∃ j : Nat, d = .int .i64 (j : Int) ∧ j ≤ N ∧ Hid (MkL 33 w1 v (outF (os.take j) (k, n)) wr)) (fun _ d _ => N - (intOf d).toNat)
  case atStart => exact ⟨0, rfl, by omega, H0⟩
  case round =>
    clear H0
    obtain ⟨j, rfl, hj, HR⟩ := hrel
    obtain ⟨pv, cv, hvf, _⟩ := HR.out.own.form
    obtain ⟨m, hm⟩ : ∃ m, m = (outF (os.take j) (k, n)).length := ⟨_, rfl⟩
    have HMM := Vx.hid hm
    rw [← hm] at hvf
    subst hvf
    have c1 := (HK.out.quiet HR.out.on).c1
    by_cases hlt : j < N
    · have hlb : j < os.length := by have := HN.out; omega
      have h1 : (j : Int) < (N : Int) := by omega
      have hidx : 0 ≤ (j : Int) ∧ (j : Int) < (N : Int) := by omega
      have hwk : IntKind.i64.wrap ((j : Int) + 1) = (j : Int) + 1 := by rw [IntKind.wrap_i64]; omega
      obtain ⟨g, rfl, a0, a1⟩ := own_at (HK.out.quiet HR.out.on).o j hlb
      obtain ⟨⟨z0, z1⟩, zf⟩ := obj_cells (Only.keep HR.out.on HZ.out (fun h => h))
      have hst := outF_step os (k, n) j hlb
      generalize os[j] = y at a0 a1 hst
      obtain ⟨yk, yn⟩ := y
      dsimp only at a0 a1
      have HLE : Hid ((outF (os.take j) (k, n)).length + 1 ≤ 10000000) := by
        have h3 := outF_len (os.take j) (k, n)
        rw [List.length_take] at h3
        have h4 := HN.out
        show _ + 1 ≤ 10000000
        omega
      clear hlt hm zf
      by_cases he : (yk, yn) = (k, n)
      · rw [if_pos he, List.append_nil] at hst
        have HST := Vx.hid hst
        injection he with h2 h3
        subst h2
        subst h3
        clear hst
        go_wp2_with fail
        go_quiet (fail)
        go_wp2_with fail
        go_roundw
        case rel => exact ⟨j + 1, by go_num, by omega, by rw [HST.out]; exact HR.out.quiet ((Only.refl _ _).drewN _)⟩
        case measure => simp only [intOf]; omega
      · rw [if_neg he] at hst
        have HST := Vx.hid hst
        clear hst
        by_cases h2 : yk = k
        · have h3 : ¬ yn = n := fun h => he (by rw [h2, h])
          subst h2
          have he2 : (yn == n) = false := beq_eq_false_iff_ne.2 h3
          clear he
          go_wp2_with fail
          go_quiet (fail)
          obtain ⟨w3, hw3⟩ : ∃ w3, w3 = wr.drewN nq := ⟨_, rfl⟩
          have hon3 : Only (fun _ => False) wr w3 := by rw [hw3]; exact (Only.refl _ wr).drewN _
          have HR3 := Vx.hid (HR.out.quiet hon3)
          have HBL : Hid (w1.heap.size ≤ w3.heap.size) := HR3.out.on.size
          have c13 := (HK.out.quiet HR3.out.on).c1
          have b0 : w3.cell? ⟨g, j * 2, none⟩ = some (.int .i64 yk) := by rw [hw3]; simpa using a0
          have b1 : w3.cell? ⟨g, j * 2 + 1, none⟩ = some (.int .i64 yn) := by rw [hw3]; simpa using a1
          rw [← hw3]
          clear hw3 hon3
          go_wp2_with (at_builtin; refine wpList_append_one obK _ rfl _ _ rfl w1.heap.size (.slice pv m cv) _ rfl HR3.out.own (yk, yn) _ _ rfl rfl rfl HLE.out HBL.out ?_; intro v' w5 hv1 hv2 hv3; have HNX := Vx.hid (HR3.out.push hv1 hv2); clear hv1 hv2 hv3)
          go_roundw
          case rel => exact ⟨j + 1, by go_num, by omega, by rw [HST.out]; exact HNX⟩
          case measure => simp only [intOf]; omega
        · have he2 : (yk == k) = false := beq_eq_false_iff_ne.2 h2
          clear he
          go_wp2_with fail
          go_quiet (fail)
          obtain ⟨w3, hw3⟩ : ∃ w3, w3 = wr.drewN nq := ⟨_, rfl⟩
          have hon3 : Only (fun _ => False) wr w3 := by rw [hw3]; exact (Only.refl _ wr).drewN _
          have HR3 := Vx.hid (HR.out.quiet hon3)
          have HBL : Hid (w1.heap.size ≤ w3.heap.size) := HR3.out.on.size
          have c13 := (HK.out.quiet HR3.out.on).c1
          have b0 : w3.cell? ⟨g, j * 2, none⟩ = some (.int .i64 yk) := by rw [hw3]; simpa using a0
          have b1 : w3.cell? ⟨g, j * 2 + 1, none⟩ = some (.int .i64 yn) := by rw [hw3]; simpa using a1
          rw [← hw3]
          clear hw3 hon3
          go_wp2_with (at_builtin; refine wpList_append_one obK _ rfl _ _ rfl w1.heap.size (.slice pv m cv) _ rfl HR3.out.own (yk, yn) _ _ rfl rfl rfl HLE.out HBL.out ?_; intro v' w5 hv1 hv2 hv3; have HNX := Vx.hid (HR3.out.push hv1 hv2); clear hv1 hv2 hv3)
          go_roundw
          case rel => exact ⟨j + 1, by go_num, by omega, by rw [HST.out]; exact HNX⟩
          case measure => simp only [intOf]; omega
    · obtain rfl : j = N := by omega
      have h1 : ¬ (j : Int) < (j : Int) := by omega
      have hown := HR.out.own
      rw [HN.out, List.take_length] at hown
      have hml : m = (outF os (k, n)).length := by have := HMM.out; rw [HN.out, List.take_length] at this; exact this
      cases hcn : os.contains (k, n) with
      | false =>
        have h2 := outF_none hcn
        have h3 : m = j := by rw [hml, h2, HN.out]
        have HE : Hid (remE os rs (k, n) = 6) := by show remE _ _ _ = _; rw [HRE.out, hcn]; rfl
        have HF : Hid (outF os (k, n) = os) := by
          show outF _ _ = _
          exact List.filter_eq_self.2 (List.length_filter_eq_length_iff.1 h2)
        subst h3
        have h4 : ((m : Int) == (m : Int)) = true := by simp
        clear hlt hm hown hml hcn h2
        go_wp2_with fail
        all_goals
          go_ret
          exact ⟨by rw [HE.out]; rfl, by rw [HRO.out, HRG.out, HF.out]; exact ⟨_, _, HK.out.quiet HR.out.on⟩, HMO.out _ (HR.out.on.mono (fun _ _ h => h.elim))⟩
      | true =>
        have h2 := outF_some hcn
        have h3 : ¬ m = j := by rw [hml, HN.out]; exact h2
        have h4 : ((m : Int) == (j : Int)) = false := by rw [beq_eq_false_iff_ne]; omega
        have HE : Hid (remE os rs (k, n) = 0) := by show remE _ _ _ = _; rw [HRE.out, hcn]; rfl
        obtain ⟨⟨x0, hx0⟩, hf0, hR, hO⟩ := HK.out.setO (own_zero hown) (HR.out.on.mono (fun _ _ h => h.elim)) (fun k hk => Or.inr (own_lt hown hk).1) (by have h5 := outF_len os (k, n); have := HN.out; omega)
        have HR5 := Vx.hid hR
        have HO5 := Vx.hid hO
        clear hlt hm hown hml hcn h2 hR hO
        go_wp2_with fail
        all_goals
          go_ret
          exact ⟨by rw [HE.out]; rfl, by rw [HRO.out, HRG.out]; exact ⟨_, _, HR5.out⟩, HMO.out _ HO5.out⟩
end Go.Proofs.Ytbbabpgmclhinaa

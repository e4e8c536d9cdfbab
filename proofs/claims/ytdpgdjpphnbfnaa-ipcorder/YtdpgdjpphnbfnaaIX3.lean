/- Chapter 10, the program's bus: a place more, a place less; what only reads; small functions. -/
import Derived.Test.YtdpgdjpphnbfnaaIX2
namespace Go.Proofs.Ytdpgdjpphnbfnaa
open Go.ChangeShapes Go.WideShapes Go.ChangeAt Go.RowKit
open Go.Vx
set_option linter.unusedVariables false
variable {U V S : Nat → Prop} {w w2 w3 w4 : World} {xb mp mw : Nat} {DP DW DP2 DW2 : DataW Value} {GP GW GP2 GW2 : Int → Nat} {Q : Int → Value} {s : Bs}

/-- A place comes. w: with its block, but not yet in the map. -/
theorem XbAt.opened (h : XbAt U w xb mp mw DP DW GP GW Q s) (hb : BWf s) {n : Int} (hi : pF s.ps n = none) (b : Bool) {g : Nat} (hg : w.heap[g]? = some (.cells (plC ⟨n, b, 0⟩ (.slice none 0 0)) 76 (0, 0))) (hgn : ∀ p ∈ s.ps, GP p.num ≠ g) (hgu : ¬ U g)
    (hm : MapAt w3 mp DP2 (s.ps.map (·.num) ++ [n]) (nuG GP n g)) (ho3 : Only (fun k => k = mp) w w3) (hnl : s.ps.length < 1000000) :
    (∃ Q', XbAt U w3 xb mp mw DP2 DW (nuG GP n g) GW Q' ⟨s.ps ++ [⟨n, b, 0⟩], s.ws⟩) ∧ Only (fun k => ¬ U k) w w3 := by
  have hno : ∀ p ∈ s.ps, p.num ≠ n := fun p hp e => by
    have := idxF_none hi p hp
    simp [e] at this
  have hG : ∀ p ∈ s.ps, nuG GP n g p.num = GP p.num := fun p hp => nuG_ne GP g (hno p hp)
  have hN : nuG GP n g n = g := nuG_at GP n g
  have hl0 : lineL s n = [] := by
    unfold lineL
    rw [List.map_eq_nil_iff, List.filter_eq_nil_iff]
    intro x hx h9
    obtain ⟨p, hp, h1, _⟩ := hb.at' x hx
    exact hno p hp (h1.trans (of_decide_eq_true h9))
  have hmem : ∀ p ∈ s.ps ++ [(⟨n, b, 0⟩ : Pc)], p ∈ s.ps ∨ p = ⟨n, b, 0⟩ := fun p hp => by
    rcases List.mem_append.1 hp with hp | hp
    · exact Or.inl hp
    · rw [List.mem_singleton] at hp; exact Or.inr hp
  refine ⟨⟨fun k => if k = n then .slice none 0 0 else Q k, Only.keep ho3 h.x (fun e => h.pm.ne h.x e), ?_, h.wm.keep ho3 (fun e => h.mn e.symm), h.mn, fun p hp => ?_, fun x hx => Only.keep ho3 (h.wb x hx) (fun e => h.pm.ne (h.wb x hx) e), fun p hp q hq h9 => ?_, h.gw, fun p hp => ?_, fun p hp q hq k h1 h2 => ?_, h.ux, h.u1, h.u2, fun p hp => ?_, h.uw, fun p hp k hk => ?_, fun k hk => Nat.lt_of_lt_of_le (h.low k hk) ho3.size, ?_, h.nl⟩, ho3.mono (fun k _ e => by rw [e]; exact h.u1)⟩
  · rw [List.map_append]
    exact hm
  · rcases hmem p hp with hp | hp
    · show w3.heap[nuG GP n g p.num]? = some (.cells (plC p (if p.num = n then _ else Q p.num)) _ _)
      rw [hG p hp, if_neg (hno p hp)]
      exact Only.keep ho3 (h.pb p hp) (fun e => h.pm.ne (h.pb p hp) e)
    · subst hp
      show w3.heap[nuG GP n g n]? = some (.cells (plC _ (if n = n then _ else Q n)) _ _)
      rw [hN, if_pos rfl]
      exact Only.keep ho3 hg (fun e => h.pm.ne hg e)
  · rcases hmem p hp with hp | hp
    · rcases hmem q hq with hq | hq
      · rw [hG p hp, hG q hq] at h9
        exact h.gp p hp q hq h9
      · subst hq
        rw [hG p hp] at h9
        exact absurd (h9.trans hN) (hgn p hp)
    · subst hp
      rcases hmem q hq with hq | hq
      · rw [hG q hq] at h9
        exact absurd (h9.symm.trans hN) (hgn q hq)
      · rw [hq]
  · show OwnL prL w3 0 79 (if p.num = n then .slice none 0 0 else Q p.num) ((lineL s p.num).map GW)
    rcases hmem p hp with hp | hp
    · rw [if_neg (hno p hp)]
      refine (h.qs p hp).kept ho3 (fun k hk e => ?_)
      obtain ⟨cur, hc⟩ := own_tag (h.qs p hp) hk
      exact h.pm.ne hc e
    · subst hp
      show OwnL prL w3 0 79 (if n = n then .slice none 0 0 else Q n) ((lineL s n).map GW)
      rw [if_pos rfl, hl0]
      exact OwnL.nil _ _ _ _
  · have h1 : (if p.num = n then Value.slice none 0 0 else Q p.num).ownBlock = some k := h1
    have h2 : (if q.num = n then Value.slice none 0 0 else Q q.num).ownBlock = some k := h2
    rcases hmem p hp with hp | hp
    · rcases hmem q hq with hq | hq
      · rw [if_neg (hno p hp)] at h1
        rw [if_neg (hno q hq)] at h2
        exact h.qd p hp q hq k h1 h2
      · subst hq
        rw [if_pos rfl] at h2
        cases h2
    · subst hp
      rw [if_pos rfl] at h1
      cases h1
  · rcases hmem p hp with hp | hp
    · show ¬ U (nuG GP n g p.num)
      rw [hG p hp]
      exact h.up p hp
    · subst hp
      show ¬ U (nuG GP n g n)
      rw [hN]
      exact hgu
  · have hk : (if p.num = n then Value.slice none 0 0 else Q p.num).ownBlock = some k := hk
    rcases hmem p hp with hp | hp
    · rw [if_neg (hno p hp)] at hk
      exact h.uq p hp k hk
    · subst hp
      rw [if_pos rfl] at hk
      cases hk
  · show (s.ps ++ [(⟨n, b, 0⟩ : Pc)]).length ≤ 1000000
    rw [List.length_append, List.length_singleton]
    omega
/-- A place goes, and who waited there. -/
theorem XbAt.closed (h : XbAt U w xb mp mw DP DW GP GW Q s) (hb : BWf s) {n : Int} {i : Nat} (hi : pF s.ps n = some i) (hm : MapAt w3 mw DW2 ((s.ws.filter fun x => decide (x.at' ≠ n)).map (·.thr)) GW) (ho3 : Only (fun k => k = mw) w w3)
    (hm2 : MapAt w4 mp DP2 ((s.ps.map (·.num)).filter fun k => decide (k ≠ n)) GP) (ho4 : Only (fun k => k = mp) w3 w4) :
    XbAt U w4 xb mp mw DP2 DW2 GP GW Q ⟨cuI s.ps i, s.ws.filter fun x => decide (x.at' ≠ n)⟩ ∧ Only (fun k => ¬ U k) w w4 := by
  obtain ⟨hl, hn⟩ := pF_at hi
  have hcu : cuI s.ps i = s.ps.filter (fun p => decide (p.num ≠ n)) := by
    rw [cuI_filter (·.num) s.ps hb.np hl]
    simp only [hn]
  have hO : Only (fun k => k = mw ∨ k = mp) w w4 := (ho3.mono (fun _ _ h => Or.inl h)).trans (ho4.mono (fun _ _ h => Or.inr h))
  have nC : ∀ {k : Nat} {c : Array Value} {T : TypeId}, w.heap[k]? = some (.cells c T (0, 0)) → ¬ (k = mw ∨ k = mp) := by
    rintro k c T hc (e | e)
    · exact h.wm.ne hc e
    · exact h.pm.ne hc e
  have hp1 : ∀ p ∈ cuI s.ps i, p ∈ s.ps ∧ p.num ≠ n := fun p hp => by
    rw [hcu, List.mem_filter] at hp
    exact ⟨hp.1, of_decide_eq_true hp.2⟩
  have hw1 : ∀ x ∈ s.ws.filter (fun x => decide (x.at' ≠ n)), x ∈ s.ws := fun x hx => (List.mem_filter.1 hx).1
  have hll : ∀ k, k ≠ n → lineL ⟨cuI s.ps i, s.ws.filter fun x => decide (x.at' ≠ n)⟩ k = lineL s k := fun k hk => by
    unfold lineL
    dsimp only
    rw [List.filter_filter]
    congr 1
    apply List.filter_congr
    intro x _
    by_cases e : x.at' = k
    · simp [e, hk]
    · simp [e]
  refine ⟨⟨Only.keep hO h.x (nC h.x), ?_, hm.keep ho4 (fun e => h.mn e.symm), h.mn, fun p hp => Only.keep hO (h.pb p (hp1 p hp).1) (nC (h.pb p (hp1 p hp).1)), fun x hx => Only.keep hO (h.wb x (hw1 x hx)) (nC (h.wb x (hw1 x hx))), fun p hp q hq => h.gp p (hp1 p hp).1 q (hp1 q hq).1, fun x hx y hy => h.gw x (hw1 x hx) y (hw1 y hy), fun p hp => ?_, fun p hp q hq => h.qd p (hp1 p hp).1 q (hp1 q hq).1, h.ux, h.u1, h.u2, fun p hp => h.up p (hp1 p hp).1, fun x hx => h.uw x (hw1 x hx), fun p hp => h.uq p (hp1 p hp).1, fun k hk => Nat.lt_of_lt_of_le (h.low k hk) hO.size, Nat.le_trans (cuI_sub s.ps i).length_le h.np, Nat.le_trans (List.length_filter_le _ _) h.nl⟩, hO.mono (fun k _ e => ?_)⟩
  · have e9 : (cuI s.ps i).map (·.num) = (s.ps.map (·.num)).filter fun k => decide (k ≠ n) := by
      rw [hcu, List.filter_map]
      rfl
    show MapAt w4 mp DP2 ((cuI s.ps i).map (·.num)) GP
    rw [e9]
    exact hm2
  · rw [hll p.num (hp1 p hp).2]
    refine (h.qs p (hp1 p hp).1).kept hO (fun k hk e => ?_)
    obtain ⟨cur, hc⟩ := own_tag (h.qs p (hp1 p hp).1) hk
    exact nC hc e
  · rcases e with e | e
    · rw [e]; exact h.u2
    · rw [e]; exact h.u1
theorem xrefused_ok (w : World) (e : Int) : Calls Try.prog 18 #[.int .i64 e] w fun x w' => x = .returned (.agg #[.int .i64 e, .int .i64 (-1), .int .u32 0, .int .u32 0, .int .u32 0, .int .u32 0, .int .u32 0, .int .u32 0, .bool false, .bool false, .bool false]) ∧ Only (fun _ => False) w w' := by
  go_enter Try.func18, Try.ntmps18
  go_wp2_with fail
  refine bodyPost_ret (v := .agg #[.int .i64 e, .int .i64 (-1), .int .u32 0, .int .u32 0, .int .u32 0, .int .u32 0, .int .u32 0, .int .u32 0, .bool false, .bool false, .bool false]) ?_ rfl ⟨rfl, ?_⟩
  · simp [results, Try.results18, go_sem]
  · exact (Only.refl _ _).alloc _
theorem xheard_ok (w : World) (p b : Int) : Calls Try.prog 21 #[.int .i64 p, .int .u32 b] w fun x w' => x = .returned (.agg #[.int .i64 0, .int .i64 p, .int .u32 0, .int .u32 0, .int .u32 0, .int .u32 0, .int .u32 0, .int .u32 b, .bool false, .bool false, .bool false]) ∧ Only (fun _ => False) w w' := by
  go_enter Try.func21, Try.ntmps21
  go_wp2_with fail
  refine bodyPost_ret (v := .agg #[.int .i64 0, .int .i64 p, .int .u32 0, .int .u32 0, .int .u32 0, .int .u32 0, .int .u32 0, .int .u32 b, .bool false, .bool false, .bool false]) ?_ rfl ⟨rfl, ?_⟩
  · simp [results, Try.results21, go_sem]
  · exact (Only.refl _ _).alloc _
def asB (h : Int) : Bool := decide (h = 3 ∨ h = 7)
def snB (h : Int) : Bool := decide (h = 2 ∨ h = 3 ∨ h = 7)
theorem asks_ok (w : World) (h : Int) : Calls Try.prog 55 #[.int .i64 h] w fun x w' => x = .returned (.bool (asB h)) ∧ w' = w := by
  by_cases h3 : h = 3
  · subst h3
    go_enter Try.func55, Try.ntmps55
    go_wp2_with fail
    all_goals
      go_ret
      exact ⟨rfl, rfl⟩
  · by_cases h7 : h = 7
    · subst h7
      go_enter Try.func55, Try.ntmps55
      go_wp2_with fail
      all_goals
        go_ret
        exact ⟨rfl, rfl⟩
    · have HT : Hid (asB h = false) := decide_eq_false (by omega)
      have e3 : (h == 3) = false := by simpa using h3
      have e7 : (h == 7) = false := by simpa using h7
      rw [HT.out]
      go_enter Try.func55, Try.ntmps55
      go_wp2_with fail
      all_goals
        go_ret
        exact ⟨by first | rfl | simp_all, rfl⟩
theorem sends_ok (w : World) (h : Int) : Calls Try.prog 38 #[.int .i64 h] w fun x w' => x = .returned (.bool (snB h)) ∧ w' = w := by
  by_cases h2 : h = 2
  · subst h2
    go_enter Try.func38, Try.ntmps38
    go_wp2_with fail
    all_goals
      go_ret
      exact ⟨rfl, rfl⟩
  · have HT : Hid (snB h = asB h) := by
      show decide _ = decide _
      rw [decide_eq_decide]
      omega
    have e2 : (h == 2) = false := by simpa using h2
    have HA := Vx.hid (asks_ok w h)
    rw [HT.out]
    generalize asB h = bb at HA
    go_enter Try.func38, Try.ntmps38
    go_wp2_with fail
    refine HA.out.mono ?_
    rintro e w' ⟨rfl, h⟩
    have h3 := h.symm; clear h; subst h3
    go_wp2_with fail
    all_goals
      go_ret
      exact ⟨by first | rfl | simp_all, rfl⟩
end Go.Proofs.Ytdpgdjpphnbfnaa

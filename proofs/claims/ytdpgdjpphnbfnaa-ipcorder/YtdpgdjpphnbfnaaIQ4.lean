/- Chapter 10, the program's lines: slices.Delete, Leave. -/
import Derived.Test.YtdpgdjpphnbfnaaIQ3
namespace Go.Proofs.Ytdpgdjpphnbfnaa
open Go.ChangeShapes Go.WideShapes Go.ChangeAt Go.RowKit
open Go.Vx
set_option linter.unusedVariables false
variable {U V S : Nat → Prop} {w w2 : World} {qb c g : Nat} {v : Value} {gs : List Nat} {cur : Array Value} {T0 : TypeId}

theorem iw_cell {N cap : Nat} (h : OwnL prL w 0 79 (.slice (some ⟨g, 0, none⟩) N cap) gs) (k : Nat) (hk : k < gs.length) : w.cell? ⟨g, k, none⟩ = some (.pointer (some ⟨gs[k], 0, none⟩)) := by
  have := h.cell k 0 hk (by decide)
  have e : prL.sz = 1 := rfl
  rw [e, Nat.mul_one, Nat.add_zero] at this
  exact this
theorem iw_info : ∃ i, Try.prog.info? 79 = some i ∧ i.size = 1 := by
  have h : (Try.prog.info? 79).map (·.size) = some 1 := by kernel_rfl
  cases hi : Try.prog.info? 79 with
  | none => rw [hi] at h; cases h
  | some i => rw [hi] at h; exact ⟨i, rfl, by injection h⟩
set_option maxRecDepth 1000000 in
set_option maxHeartbeats 4000000 in
theorem idelete_ok {cap i : Nat} (h : OwnL prL w 0 79 (.slice (some ⟨g, 0, none⟩) gs.length cap) gs) (hi : i < gs.length) (hn : gs.length < 10000000) :
    Calls Try.prog 58 #[.slice (some ⟨g, 0, none⟩) gs.length cap, .int .i64 (i : Int), .int .i64 ((i : Int) + 1)] w fun e w' => e = .returned (.slice (some ⟨g, 0, none⟩) (gs.length - 1) cap) ∧ OwnL prL w' 0 79 (.slice (some ⟨g, 0, none⟩) (gs.length - 1) cap) (gs.take i ++ gs.drop (i + 1)) ∧ Only (fun k => k = g) w w' := by
  obtain ⟨_, _, hcc, hcap0, hmax, _⟩ := h.form
  have hcap : gs.length ≤ cap := by
    simp only [Value.slice.injEq] at hcc
    omega
  have hmc : cap ≤ 9223372036854775807 := by
    simp only [Value.slice.injEq] at hcc
    have : maxLen ≤ 9223372036854775807 := by decide
    omega
  obtain ⟨i0, hi0, hz1⟩ := iw_info
  obtain ⟨N, hN⟩ : ∃ N, N = gs.length := ⟨_, rfl⟩
  obtain ⟨news, hnews⟩ : ∃ news, news = (gs.drop (i + 1)).map (fun g => Value.pointer (some ⟨g, 0, none⟩)) := ⟨_, rfl⟩
  have hlen : news.length = N - (i + 1) := by rw [hnews, hN]; simp
  have hget : ∀ t, t < N - (i + 1) → ∃ hx : i + 1 + t < gs.length, news[t]? = some (.pointer (some ⟨gs[i + 1 + t], 0, none⟩)) := by
    intro t ht
    refine ⟨by omega, ?_⟩
    rw [hnews, List.getElem?_map, List.getElem?_drop, List.getElem?_eq_getElem (by omega)]
    rfl
  obtain ⟨A, hA, hsrc⟩ : ∃ A : Addr, (if cap = i + 1 then some (⟨g, 0, none⟩ : Addr) else some ⟨g, i + 1, none⟩) = some A ∧ Hid (∀ t u, news[t]? = some u → w.drew.cell? (A.add t) = some u) := by
    by_cases h9 : cap = i + 1
    · refine ⟨⟨g, 0, none⟩, by simp [h9], fun t u hu => ?_⟩
      have h0 : news.length = 0 := by rw [hlen]; omega
      rw [List.length_eq_zero_iff.1 h0] at hu
      simp at hu
    · refine ⟨⟨g, i + 1, none⟩, by simp [h9], fun t u hu => ?_⟩
      have ht : t < N - (i + 1) := by
        have := (List.getElem?_eq_some_iff.1 hu).1
        rwa [hlen] at this
      obtain ⟨hx, h8⟩ := hget t ht
      rw [h8] at hu
      rw [addr_add]
      exact (iw_cell h _ hx).trans hu
  have s1 : Hid (news.length = (N - (i + 1)) * 1) := by rw [Nat.mul_one]; exact hlen
  have s2 : Hid (∀ u ∈ news, u.oneCell' = true) := by
    intro u hu
    rw [hnews] at hu
    obtain ⟨x, _, rfl⟩ := List.mem_map.1 hu
    rfl
  have s3 : Hid (∀ t, t < news.length → (w.drew.cell? ⟨g, 0 + i * 1 + t, none⟩).isSome = true ∧ w.drew.frozen? ⟨g, 0 + i * 1 + t, none⟩ = false) := by
    intro t ht
    rw [hlen] at ht
    rw [Nat.mul_one, Nat.zero_add]
    refine ⟨?_, h.fz _⟩
    show (w.cell? _).isSome = true
    rw [iw_cell h (i + t) (by omega)]
    rfl
  obtain ⟨W1, hW1⟩ : ∃ W1, W1 = w.drew.setCells g (0 + i * 1) news := ⟨_, rfl⟩
  have h' : w.ownsRow 0 79 1 (.slice (some ⟨g, 0, none⟩) N cap) N (fl prL gs) := by
    rw [hN]
    exact h
  obtain ⟨o1, o2⟩ := own_cells news (fl prL gs) (0 + i * 1) _ (own_drew h')
  rw [← hW1] at o1 o2
  have hfl : (fl prL gs).length = N := by rw [fl_pr, List.length_map, hN]
  have e1 : setV (fl prL gs) (0 + i * 1) news = (fl prL gs).take i ++ news ++ (fl prL gs).drop (N - 1) := by
    rw [Nat.mul_one, Nat.zero_add, setV_eq _ _ _ (by rw [hfl, hlen]; omega), hlen]
    congr 2
    omega
  rw [e1] at o1
  obtain ⟨o3, o4⟩ := own_cells (List.replicate (N - (i + (N - (i + 1)))) (.pointer none)) _ (i + (N - (i + 1))) W1 o1
  have o5 := own_cut o3 (m := N - 1) (by omega)
  have e2 : (setV ((fl prL gs).take i ++ news ++ (fl prL gs).drop (N - 1)) (i + (N - (i + 1))) (List.replicate (N - (i + (N - (i + 1)))) (.pointer none))).take ((N - 1) * 1) = fl prL (gs.take i ++ gs.drop (i + 1)) := by
    have l1 : ((fl prL gs).take i ++ news).length = N - 1 := by rw [List.length_append, List.length_take, hfl, hlen]; omega
    have l2 : i + (N - (i + 1)) = N - 1 := by omega
    have l3 : ((fl prL gs).take i ++ news ++ (fl prL gs).drop (N - 1)).length = N := by rw [List.length_append, l1, List.length_drop, hfl]; omega
    have t1 : ((fl prL gs).take i ++ news ++ (fl prL gs).drop (N - 1)).take (N - 1) = (fl prL gs).take i ++ news := by
      rw [List.take_append_of_le_length (by rw [l1]; exact Nat.le_refl _), List.take_of_length_le (by rw [l1]; exact Nat.le_refl _)]
    rw [l2, setV_eq _ _ _ (by rw [l3, List.length_replicate]; omega), t1, Nat.mul_one, List.append_assoc ((fl prL gs).take i ++ news), List.take_append_of_le_length (by rw [l1]; exact Nat.le_refl _), List.take_of_length_le (by rw [l1]; exact Nat.le_refl _), hnews, fl_pr, fl_pr, List.map_append, List.map_take]
  rw [e2] at o5
  have HF : Hid (OwnL prL (W1.setCells g (i + (N - (i + 1))) (List.replicate (N - (i + (N - (i + 1)))) (.pointer none))) 0 79 (.slice (some ⟨g, 0, none⟩) (N - 1) cap) (gs.take i ++ gs.drop (i + 1)) ∧ Only (fun k => k = g) w (W1.setCells g (i + (N - (i + 1))) (List.replicate (N - (i + (N - (i + 1)))) (.pointer none)))) := by
    refine ⟨?_, (((Only.refl (fun k => k = g) w).drew).trans o2).trans o4⟩
    show World.ownsRow _ _ _ _ _ (gs.take i ++ gs.drop (i + 1)).length _
    have : (gs.take i ++ gs.drop (i + 1)).length = N - 1 := by rw [List.length_append, List.length_take, List.length_drop]; omega
    rw [this]
    exact o5
  have hc1 : ∀ t, t < N → W1.cell? ⟨g, t, none⟩ ≠ none := fun t ht hx => by
    have hl1 : ((fl prL gs).take i ++ news ++ (fl prL gs).drop (N - 1)).length = N := by
      rw [List.length_append, List.length_append, List.length_take, List.length_drop, hfl, hlen]; omega
    have h8 := World.ownsRow.cells o1 (g := g) rfl t _ (List.getElem?_eq_getElem (by omega))
    rw [addr_add, Nat.zero_add, hx] at h8
    cases h8
  have hf1 : ∀ t, W1.frozen? ⟨g, t, none⟩ = false := fun t => by rw [hW1, World.frozen?_setCells]; exact h.fz t
  have hcl : ∀ ty, (Builtin.clear_ #[72] ty #[.slice (some ⟨g, i + (N - (i + 1)), none⟩) (N - (i + (N - (i + 1)))) (cap - (i + (N - (i + 1))))]).run Try.prog W1 = .ok (.tuple #[]) (W1.setCells g (i + (N - (i + 1))) (List.replicate (N - (i + (N - (i + 1)))) (.pointer none))) :=
    fun ty => Lib.run_clear_slice W1 _ _ ty _ Try.underlying72 (fun w => iw_zero w) rfl rfl g (i + (N - (i + 1))) _ _ (by omega) (fun t ht => by
      have := hc1 (i + (N - (i + 1)) + t) (by omega)
      cases hx : W1.cell? ⟨g, i + (N - (i + 1)) + t, none⟩ with
      | none => exact absurd hx this
      | some y => rfl) (fun t ht => hf1 _)
  have hW : Hid (W1 = w.drew.setCells g (0 + i * 1) news) := hW1
  have hiN : i < N := by omega
  have hNc : N ≤ cap := by omega
  have hn2 : N < 10000000 := by omega
  have hs2 : 0 ≤ (i : Int) + 1 ∧ (i : Int) + 1 ≤ (N : Int) := by omega
  have hic : i ≤ cap := by omega
  have hjc : i + 1 ≤ cap := by omega
  have HN := Vx.hid hN
  rw [← hN]
  clear hW1 hnews hlen hget h h' o1 o2 o3 o4 o5 e1 e2 hfl hc1 hf1 hN hi hn hcap hcc hcap0 hmax
  go_enter Try.func58, Try.ntmps58
  go_wp2_with fail
  go_region_law (refine step_append_room rfl (.tmp 22) (.tmp 25) 72 rfl 79 i0 1 Try.underlying72 hi0 hz1 g 0 i cap (by simp [Act.eval, Act.put]) A (N - (i + 1)) (cap - (i + 1)) news (by simp [Act.eval, Act.put]) s1.out hsrc.out s2.out (by omega) s3.out ?_; rw [← hW.out])
  go_wp2
  go_ret
  refine ⟨?_, HF.out.1, HF.out.2⟩
  rw [show N - 1 = i + (N - (i + 1)) by omega]
  rfl
set_option maxHeartbeats 2000000 in
theorem ileave_ok (h : IqAt w qb c cur T0 v gs) (hnd : gs.Nodup) (hlv : ∀ x ∈ gs, Lv w x) (hlg : Lv w g) : Calls Try.prog 42 #[.pointer (some ⟨qb, c, none⟩), .pointer (some ⟨g, 0, none⟩)] w fun e w' => (∃ x, e = .returned x) ∧ IqT w qb c cur T0 v (gs.filter (fun x => decide (x ≠ g))) w' := by
  have HH := Vx.hid h
  have HI := Vx.hid (iindex_ok h.o h.n hlv g hlg)
  cases hi : gxF gs g with
  | none =>
    have hfa : gs.filter (fun x => decide (x ≠ g)) = gs := by
      rw [List.filter_eq_self]
      intro a ha
      have := idxF_none hi a ha
      simpa using this
    have HQ : Hid (IqT w qb c cur T0 v (gs.filter (fun x => decide (x ≠ g))) w) := by
      rw [hfa]
      refine ⟨v, h.o, ?_, Only.refl _ _, fun k hk => Or.inl hk⟩
      have : cur.setIfInBounds c v = cur := by
        apply Array.ext
        · simp
        · intro j h1 h2
          rw [Array.getElem_setIfInBounds (by simpa using h1)]
          by_cases e : c = j
          · subst e
            rw [if_pos rfl]
            have := h.c'
            rw [Array.getElem?_eq_getElem h2] at this
            injection this with this
            exact this.symm
          · rw [if_neg e]
      rw [this]
      exact h.b
    have HJ : Hid (idI (gxF gs g) = -1) := by rw [hi]; exact rfl
    obtain ⟨q, ca, hv, _⟩ := h.o.form
    obtain ⟨N, hN⟩ : ∃ N, N = gs.length := ⟨_, rfl⟩
    rw [← hN] at hv
    subst hv
    have c0 := h.c0
    clear h hi hfa hN hnd hlv hlg
    go_enter Try.func42, Try.ntmps42
    go_wp2_with fail
    refine HI.out.mono ?_
    rintro e w' ⟨rfl, h⟩
    have h3 := h.symm; clear h; subst h3
    rw [HJ.out]
    go_wp2_with fail
    all_goals
      go_end0
      exact ⟨⟨_, rfl⟩, HQ.out⟩
  | some i =>
    obtain ⟨hil, hig⟩ := idxF_get hi
    rw [Nat.sub_zero] at hil
    have hig2 : gs[i] = g := by simpa using hig
    have hfa : gs.filter (fun x => decide (x ≠ g)) = gs.take i ++ gs.drop (i + 1) := by rw [← hig2]; exact filter_at hnd hil
    rw [hfa]
    obtain ⟨q, ca, hv, _, _, hgg⟩ := h.o.form
    obtain ⟨b, rfl, _⟩ := hgg (by omega)
    subst hv
    have HD := Vx.hid (idelete_ok h.o hil h.n)
    have HJ : Hid (idI (gxF gs g) = (i : Int)) := by rw [hi]; exact rfl
    obtain ⟨N, hN⟩ : ∃ N, N = gs.length := ⟨_, rfl⟩
    have c0 := h.c0
    have hn := h.n
    rw [← hN] at HD c0 hn hil HI HH
    have hge : (0 : Int) ≤ (i : Int) := by omega
    have hwi : IntKind.i64.wrap ((i : Int) + 1) = (i : Int) + 1 := by rw [IntKind.wrap_i64]; omega
    clear h hi hfa hN hnd hlv hlg hig hig2 hgg hn
    go_enter Try.func42, Try.ntmps42
    go_wp2_with fail
    refine HI.out.mono ?_
    rintro e w' ⟨rfl, h⟩
    have h3 := h.symm; clear h; subst h3
    rw [HJ.out]
    go_wp2_with fail
    refine HD.out.mono ?_
    rintro e w3 ⟨rfl, hv1, hv2⟩
    obtain ⟨⟨qx, q1⟩, q2, q3⟩ := HH.out.put hv1 (hv2.mono (fun k _ e => by rw [e]; rfl)) (fun k hk => Or.inl hk)
    have HF := Vx.hid q3
    clear hv1 hv2 q3 c0
    go_wp2_with fail
    all_goals
      go_end0
      exact ⟨⟨_, rfl⟩, HF.out⟩
end Go.Proofs.Ytdpgdjpphnbfnaa

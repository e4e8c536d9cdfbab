import Derived.Test.YtbbabpgmclhinaaCs46
import Derived.Test.YtbbabpgmclhinaaCs47
import Derived.Test.YtbbabpgmclhinaaCs48
/- PoolScripts: a list that came out, apart from all; lists into the books; all objects. -/
namespace Go.Proofs.Ytbbabpgmclhinaa
open Go.ChangeShapes Go.WideShapes Go.ChangeAt Go.RowKit
open Go.Vx
set_option linter.unusedVariables false
variable {W : World} {xb rb zb bb : Nat} {P : Int} {oz rz : List (Int × Int)} {X R Z Bk : Nat → Prop} {bs es bx ex br er bx2 ex2 : List (Int × Int)} {cs : Array Value} {V : Nat → Value} {L : Nat → List Sh} {wr wv w2 : World} {F : List (Nat × Obj)}

theorem own_same {α : Type} {La : Lay α} {w w' : World} {base : Nat} {e : TypeId} {v : Value} {xs : List α} (h : OwnL La w base e v xs) (hk : ∀ k, v.ownBlock = some k → w'.heap[k]? = w.heap[k]?) : OwnL La w' base e v xs := by
  refine ⟨h.1, h.2.imp (fun h => h) (fun ⟨g, cap, cur, a, b, c, d⟩ => ⟨g, cap, cur, a, b, ?_, d⟩)⟩
  rw [hk g (by rw [a]; rfl)]
  exact c
/-- A call of the program's pool that tells a list of its own. -/
theorem PlC.xcallL {l : Value} (h : PlC W xb rb zb bb P oz rz X R Z Bk bx ex br er cs V L wr) (hx : XpAt (fun k => (k < wr.heap.size ∧ ¬ X k) ∨ l.ownBlock = some k) w2 xb P bx2 ex2) (ho0 : Only (fun k => ¬ (k < wr.heap.size ∧ ¬ X k)) wr w2) :
    PlC W xb rb zb bb P oz rz (fun k => X k ∨ (wr.heap.size ≤ k ∧ k < w2.heap.size ∧ l.ownBlock ≠ some k)) R Z Bk bx2 ex2 br er cs V L w2 := by
  have hs := ho0.size
  have hbl := lt_of_some h.b.bl
  have ho : Only X wr w2 := ⟨ho0.os, ho0.tape, ho0.output, ho0.size, fun k hk hn => ho0.block k hk (fun h2 => h2 ⟨hk, hn⟩)⟩
  refine ⟨hx.step (Only.refl (fun _ => False) _) (fun _ _ h => h.elim) (fun k hk => Or.inl ?_), h.r.step ho (fun k hk h1 => ⟨hk, (h.dX k h1).2.2.1⟩) (fun k hk => ?_), h.z.step ho (fun k hk h1 => ⟨hk, (h.dX k h1).2.2.2.1⟩) (fun k hk => ?_), h.b.only ho (fun k hk h1 => (h.dX k h1).2.2.2.2.1 hk) (fun h1 => (h.dX bb h1).2.2.2.2.2 rfl), fun k hk => ?_, fun k hk => ?_, fun k hk => ?_, fun k hk => ?_, h.wb, h.be.trans (ho.below h.be.size (fun k hk h1 => by have := (h.dX k h1).1; omega))⟩
  · by_cases h1 : k < wr.heap.size
    · exact Or.inl ⟨h1, fun h2 => hk.2 (Or.inl h2)⟩
    · right
      exact Classical.byContradiction (fun h2 => hk.2 (Or.inr ⟨by omega, hk.1, h2⟩))
  · by_cases h1 : k < wr.heap.size
    · exact Or.inl ⟨h1, hk.2⟩
    · exact Or.inr ⟨by omega, hk.1⟩
  · by_cases h1 : k < wr.heap.size
    · exact Or.inl ⟨h1, hk.2⟩
    · exact Or.inr ⟨by omega, hk.1⟩
  · rcases hk with hk | hk
    · have := h.dX k hk; exact ⟨this.1, by omega, this.2.2⟩
    · have h1 := h.be.size
      refine ⟨by omega, hk.2.1, fun h2 => ?_, fun h2 => ?_, fun h2 => ?_, fun h2 => ?_⟩
      · have := (h.dR k h2).2.1; omega
      · have := (h.dZ k h2).2.1; omega
      · have := (h.dB k h2).2.1; omega
      · omega
  · have := h.dR k hk; exact ⟨this.1, by omega, this.2.2⟩
  · have := h.dZ k hk; exact ⟨this.1, by omega, this.2.2⟩
  · have := h.dB k hk; exact ⟨this.1, by omega, this.2.2⟩
/-- The list's block is among the step's own. -/
theorem PlI.giveX (h : PlI W xb rb zb bb P oz rz Z Bk cs V L F bx ex br er wv) {num kind order many : Int} (h1 : I64 num) (h2 : I64 kind) (h3 : I64 order) (h4 : I64 many) :
    Calls Try.prog 9 #[.pointer (some ⟨xb, 0, none⟩), .int .i64 num, .int .i64 kind, .int .i64 order, .int .i64 many] wv fun e w' => ∃ v, e = .returned (.tuple #[v, .int .i64 (giveE bx ex num kind order many)]) ∧ ∃ G, Hid (OwnL inL w' wv.heap.size 3 v (giveRs bx ex num kind order many) ∧ PlI W xb rb zb bb P oz rz Z Bk cs V L (G ++ F) (giveRO bx ex num kind order many) (giveRG bx ex num kind order many) br er w' ∧ ∀ k, v.ownBlock = some k → ∃ o, (k, o) ∈ G) := by
  obtain ⟨X, R, h, hF⟩ := h
  refine (xpgive_ok h.x num kind order many h1 h2 h3 h4).mono ?_
  rintro e w' ⟨v, rfl, hl, hx, ho⟩
  have hc := h.xcallL hx ho
  refine ⟨v, rfl, ?_⟩
  have key : ∀ p ∈ F, w'.heap[p.1]? = some p.2 ∧ ¬ (X p.1 ∨ (wv.heap.size ≤ p.1 ∧ p.1 < w'.heap.size ∧ v.ownBlock ≠ some p.1)) ∧ ¬ R p.1 ∧ ¬ Z p.1 ∧ ¬ Bk p.1 ∧ p.1 ≠ bb ∧ W.heap.size ≤ p.1 := fun p hp => by
    obtain ⟨a1, a2, a3, a4⟩ := hF p hp
    have hl2 := lt_of_some a1
    exact ⟨Only.keep ho a1 (fun h5 => h5 ⟨hl2, a2⟩), fun h5 => h5.elim a2 (fun h6 => by omega), a3, a4⟩
  cases hv : v.ownBlock with
  | none => exact ⟨[], hl, ⟨_, R, hc, key⟩, fun k hk => by cases hk⟩
  | some g =>
    obtain ⟨hg1, ⟨cur, hg2⟩, _⟩ := hl.blk hv
    have hb := lt_of_some h.b.bl
    have hw := h.be.size
    refine ⟨[(g, .cells cur 3 (0, 0))], hl, ⟨_, R, hc, fun p hp => ?_⟩, fun k hk => by injection hk with hk; subst hk; exact ⟨_, List.mem_cons_self⟩⟩
    rcases List.mem_append.1 hp with hp | hp
    · rw [List.mem_singleton] at hp
      subst hp
      refine ⟨hg2, fun h5 => ?_, fun h5 => ?_, fun h5 => ?_, fun h5 => ?_, ?_, ?_⟩
      · rcases h5 with h5 | h5
        · have := (h.dX _ h5).2.1; simp only at this; omega
        · exact h5.2.2 hv
      · have := (h.dR _ h5).2.1; simp only at this; omega
      · have := (h.dZ _ h5).2.1; simp only at this; omega
      · have := (h.dB _ h5).2.1; simp only at this; omega
      · show g ≠ bb; omega
      · show W.heap.size ≤ g; omega
    · exact key p hp
/-- What a step that tells leaves. -/
def PlT (W : World) (xb rb zb bb : Nat) (P : Int) (oz rz : List (Int × Int)) (bx ex br er : List (Int × Int)) (n : Nat) (w' : World) : Prop := ∃ X R Z B cs V L, PlC W xb rb zb bb P oz rz X R Z B bx ex br er cs V L w' ∧ ∀ j, j < 6 → (L j).length ≤ n
theorem PlT.fin {n : Nat} (h : PlT W xb rb zb bb P oz rz bs es bs es n w2) : PlR W xb rb zb bb P oz rz n w2 := by
  obtain ⟨X, R, Z, B, cs, V, L, h, hL⟩ := h
  exact ⟨X, R, Z, B, bs, es, cs, V, L, h, hL⟩
/-- A list of numbers goes into the books. -/
theorem PlI.ownN {base n : Nat} {l : Value} {ms : List Int} (h : PlI W xb rb zb bb P oz rz Z Bk cs V L F bx ex br er wv) (hl : OwnL inL wv base 3 l ms) (hb0 : base ≤ wv.heap.size) (hF : ∀ k, l.ownBlock = some k → ∃ o, (k, o) ∈ F) (hm : ms.length ≤ 2000000) (hL : ∀ j, j < 6 → (L j).length ≤ n) (hn : n ≤ 1000000) :
    Calls Try.prog 40 #[.pointer (some ⟨bb, 0, none⟩), l] wv fun e w' => e = .returned (.tuple #[]) ∧ PlT W xb rb zb bb P oz rz bx ex br er (n + 2) w' := by
  obtain ⟨X, R, h, hFF⟩ := h
  have ap : ∀ k, l.ownBlock = some k → k < wv.heap.size ∧ ¬ X k ∧ ¬ R k ∧ ¬ Z k ∧ ¬ Bk k ∧ k ≠ bb ∧ W.heap.size ≤ k := fun k hk => by
    obtain ⟨o, ho⟩ := hF k hk
    obtain ⟨a1, a2⟩ := hFF _ ho
    exact ⟨lt_of_some a1, a2⟩
  refine (ownInts_okQ h.b (by have := hL 0 (by decide); omega) hl hb0 hm (fun k hk => ⟨(ap k hk).2.2.2.2.1, (ap k hk).2.2.2.2.2.1⟩)).mono ?_
  rintro e w' ⟨rfl, cs2, v2, s1, s2, hB, _, hO⟩
  refine ⟨rfl, X, R, Z, _, cs2, _, _, h.book hB hO (fun k hk => ?_), fun j hj => ?_⟩
  · have := ap k hk
    exact ⟨this.2.2.2.2.2.2, this.1, this.2.1, this.2.2.1, this.2.2.2.1, this.2.2.2.2.2.1⟩
  · by_cases hj0 : j = 0
    · subst hj0
      rw [upd_at]
      have := hL 0 hj
      simp
      omega
    · rw [upd_ne _ _ hj0]
      have := hL j hj
      omega
/-- A list of objects goes into the books. -/
theorem PlI.ownO {base n : Nat} {l : Value} {ms : List Sl} (h : PlI W xb rb zb bb P oz rz Z Bk cs V L F bx ex br er wv) (hl : OwnL slL wv base 33 l ms) (hb0 : base ≤ wv.heap.size) (hF : ∀ k, l.ownBlock = some k → ∃ o, (k, o) ∈ F) (hm : ms.length ≤ 2000000) (hL : ∀ j, j < 6 → (L j).length ≤ n) (hn : n ≤ 1000000) :
    Calls Try.prog 43 #[.pointer (some ⟨bb, 0, none⟩), l] wv fun e w' => e = .returned (.tuple #[]) ∧ PlT W xb rb zb bb P oz rz bx ex br er (n + 2) w' := by
  obtain ⟨X, R, h, hFF⟩ := h
  have ap : ∀ k, l.ownBlock = some k → k < wv.heap.size ∧ ¬ X k ∧ ¬ R k ∧ ¬ Z k ∧ ¬ Bk k ∧ k ≠ bb ∧ W.heap.size ≤ k := fun k hk => by
    obtain ⟨o, ho⟩ := hF k hk
    obtain ⟨a1, a2⟩ := hFF _ ho
    exact ⟨lt_of_some a1, a2⟩
  refine (ownObjects_okQ h.b (by have := hL 3 (by decide); omega) hl hb0 hm (fun k hk => ⟨(ap k hk).2.2.2.2.1, (ap k hk).2.2.2.2.2.1⟩)).mono ?_
  rintro e w' ⟨rfl, cs2, v2, s1, s2, hB, _, hO⟩
  refine ⟨rfl, X, R, Z, _, cs2, _, _, h.book hB hO (fun k hk => ?_), fun j hj => ?_⟩
  · have := ap k hk
    exact ⟨this.2.2.2.2.2.2, this.1, this.2.1, this.2.2.1, this.2.2.2.1, this.2.2.2.2.2.1⟩
  · by_cases hj0 : j = 3
    · subst hj0
      rw [upd_at]
      have := hL 3 hj
      simp
      omega
    · rw [upd_ne _ _ hj0]
      have := hL j hj
      omega
/-- A list that was made since: its block among the step's own. -/
theorem PlI.fresh {α : Type} {La : Lay α} {e : TypeId} {l : Value} {xs : List α} (h : PlI W xb rb zb bb P oz rz Z Bk cs V L F bx ex br er wv) (ho : Only (fun _ => False) wv w2) (hl : OwnL La w2 wv.heap.size e l xs) : ∃ G, PlI W xb rb zb bb P oz rz Z Bk cs V L (G ++ F) bx ex br er w2 ∧ ∀ k, l.ownBlock = some k → ∃ o, (k, o) ∈ G := by
  cases hv : l.ownBlock with
  | none => exact ⟨[], h.quiet ho, fun k hk => by cases hk⟩
  | some g =>
    obtain ⟨hg1, ⟨cur, hg2⟩, _⟩ := hl.blk hv
    exact ⟨[(g, .cells cur e (0, 0))], (h.quiet ho).more hg2 ⟨wv, h, ho, hg1⟩, fun k hk => by injection hk with hk; subst hk; exact ⟨_, List.mem_cons_self⟩⟩
theorem all_len (h : PWf P bs es) : (allL bs es).length ≤ 3000 := by
  unfold allL
  rw [List.length_append, List.length_map]
  have := h.lo
  have := h.lr
  omega
/-- All that is there. -/
theorem objects_ok {n : Nat} (h : PlI W xb rb zb bb P oz rz Z Bk cs V L F bs es bs es wv) (hL : ∀ j, j < 6 → (L j).length ≤ n) (hn : n ≤ 1000000) :
    Calls Try.prog 11 #[.pointer (some ⟨xb, 0, none⟩), .pointer (some ⟨rb, 0, none⟩), .pointer (some ⟨bb, 0, none⟩)] wv fun e w' => e = .returned (.bool true) ∧ PlT W xb rb zb bb P oz rz bs es bs es (n + 2) w' := by
  have HP := Vx.hid h
  have HWF := Vx.hid h.wf
  have HXO : Hid (Calls Try.prog 14 #[.pointer (some ⟨xb, 0, none⟩)] wv fun e w' => ∃ v, e = .returned v ∧ ∃ ls, OwnL slL w' wv.heap.size 33 v ls ∧ ls.Perm (allL bs es) ∧ ls.Pairwise leO ∧ Only (fun _ => False) wv w') := by
    obtain ⟨X, R, hC, _⟩ := h
    exact xpobjects_ok hC.x
  have HRO : Hid (∀ F wv, PlI W xb rb zb bb P oz rz Z Bk cs V L F bs es bs es wv → Calls Try.prog 42 #[.pointer (some ⟨rb, 0, none⟩)] wv fun e w' => ∃ v, e = .returned v ∧ ∃ ls, OwnL slL w' wv.heap.size 33 v ls ∧ ls.Perm (allL bs es) ∧ ls.Pairwise leO ∧ Only (fun _ => False) wv w') := fun F wv h => by
    have hw := h.wf
    obtain ⟨X, R, hC, _⟩ := h
    obtain ⟨vo, vr, hr⟩ := hC.r
    exact all_ok hr (by have := hw.lo; omega) (by have := hw.lr; omega)
  clear h
  go_enter Try.func11, Try.ntmps11
  go_wp2_with fail
  refine HXO.out.mono ?_
  rintro e w3 ⟨lv, rfl, ls, hlv, hp, hs, ho⟩
  obtain ⟨G, hG, hGl⟩ := HP.out.fresh ho hlv
  have HG := Vx.hid hG
  have HLV := Vx.hid hlv
  have HPS := Vx.hid (⟨hp, hs, ho.size, hGl⟩ : _ ∧ _ ∧ _ ∧ _)
  clear hlv hp hs ho hG hGl HXO
  go_wp2_with fail
  refine (HRO.out _ _ HG.out).mono ?_
  rintro e w4 ⟨kv, rfl, ks, hkv, hp, hs, ho⟩
  obtain rfl : ls = ks := List.Perm.eq_of_pairwise (fun a b _ _ h1 h2 => leO_anti h1 h2) HPS.out.2.1 hs (HPS.out.1.trans hp.symm)
  have HLB : Hid (ls.length ≤ 3000) := by show ls.length ≤ 3000; rw [hp.length_eq]; exact all_len HWF.out
  have HLV4 := Vx.hid (HLV.out.kept ho (fun _ _ h => h))
  have HG4 := Vx.hid (HG.out.quiet ho)
  have HSS := Vx.hid (sameObjects_ok (own_lie HLV4.out (by have := HLB.out; omega)) (own_lie hkv (by have := HLB.out; omega)))
  have HSZ : Hid (wv.heap.size ≤ w4.heap.size) := Nat.le_trans HPS.out.2.2.1 ho.size
  clear hkv hp hs ho HRO
  go_wp2_with fail
  refine HSS.out.mono ?_
  rintro e w5 ⟨rfl, ho⟩
  have HOW := Vx.hid ((HG4.out.quiet ho).ownO (HLV4.out.kept ho (fun _ _ h => h)) (Nat.le_trans HSZ.out ho.size) (fun k hk => by obtain ⟨o, h1⟩ := HPS.out.2.2.2 k hk; exact ⟨o, List.mem_append_left _ h1⟩) (by have := HLB.out; omega) hL hn)
  clear ho HSS
  go_wp2_with fail
  refine HOW.out.mono ?_
  rintro e w6 ⟨rfl, hT⟩
  have HT := Vx.hid hT
  clear hT
  go_wp2_with fail
  all_goals
    go_ret
    exact ⟨by try rfl, HT.out⟩
end Go.Proofs.Ytbbabpgmclhinaa

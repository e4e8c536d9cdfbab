import Derived.Test.YtbbabpgmclhinaaCs49
import Derived.Test.YtbbabpgmclhinaaCs50
import Derived.Deep.RegionHeld3
/- PoolScripts: lay: Give, Objects; a step. -/
namespace Go.Proofs.Ytbbabpgmclhinaa
open Go.ChangeShapes Go.WideShapes Go.ChangeAt Go.RowKit
open Go.Vx
set_option linter.unusedVariables false
variable {W : World} {xb rb zb bb : Nat} {P : Int} {oz rz : List (Int × Int)} {X R Z Bk : Nat → Prop} {bs es : List (Int × Int)} {cs : Array Value} {V : Nat → Value} {L : Nat → List Sh} {wr : World}

/-- The document's Give within a step. -/
theorem PlI.giveR {F : List (Nat × Obj)} {bx ex br er : List (Int × Int)} {wv : World} (h : PlI W xb rb zb bb P oz rz Z Bk cs V L F bx ex br er wv) (hw : PWf P br er) (num kind order many : Int) :
    Calls Try.prog 38 #[.pointer (some ⟨rb, 0, none⟩), .int .i64 num, .int .i64 kind, .int .i64 order, .int .i64 many] wv fun e w' => ∃ v, e = .returned (.tuple #[v, .int .i64 (giveE br er num kind order many)]) ∧ Hid (OwnL inL w' wv.heap.size 3 v (giveRs br er num kind order many) ∧ PlI W xb rb zb bb P oz rz Z Bk cs V L F bx ex (giveRO br er num kind order many) (giveRG br er num kind order many) w') := by
  obtain ⟨X, R, h, hF⟩ := h
  refine (give_ok h.r hw.pg hw.marks (by have := hw.lo; omega) (by have := hw.lr; omega) num kind order many).mono ?_
  rintro e w' ⟨v, rfl, hl, hr, ho⟩
  refine ⟨v, rfl, hl, X, _, h.rcall hr ho, fun p hp => ?_⟩
  obtain ⟨h1, h2, h3, h4⟩ := hF p hp
  have hl := lt_of_some h1
  refine ⟨Only.keep ho h1 (fun h5 => h5 ⟨hl, h3⟩), h2, fun h5 => ?_, h4⟩
  rcases h5 with h5 | h5
  · exact h3 h5
  · omega
theorem give_len (num kind order many : Int) : (giveRs bs es num kind order many).length ≤ 64 := by
  unfold giveRs
  split
  · rename_i he
    have := (give_zero he).2.2.2.1
    unfold giveNs
    rw [giveN_len]
    omega
  · simp
set_option maxRecDepth 100000 in
set_option maxHeartbeats 4000000 in
theorem lay_give (h : PlC W xb rb zb bb P oz rz X R Z Bk bs es bs es cs V L wr) (A B C E : Int) (iA : I64 A) (iB : I64 B) (iC : I64 C) (iE : I64 E) (s : ByteArray) {n : Nat} (hL : ∀ j, j < 6 → (L j).length ≤ n) (hn : n ≤ 1000000) :
    Calls Try.prog 10 #[.pointer (some ⟨xb, 0, none⟩), .pointer (some ⟨rb, 0, none⟩), .pointer (some ⟨bb, 0, none⟩), .agg #[.int .i64 6, .int .i64 A, .int .i64 B, .int .i64 C, .int .i64 E, .string s]] wr fun e w' => e = .returned (.bool true) ∧ PlR W xb rb zb bb P oz rz (n + 2) w' := by
  obtain ⟨oo, hoo⟩ : ∃ oo : Obj, oo = .cells #[.int .i64 6, .int .i64 A, .int .i64 B, .int .i64 C, .int .i64 E, .string s] 48 (0, 0) := ⟨_, rfl⟩
  have HP1 : Hid (PlI W xb rb zb bb P oz rz Z Bk cs V L [(wr.heap.size, oo)] bs es bs es (wr.alloc oo)) := PlI.alloc (F := []) ⟨X, R, h, fun p hp => by cases hp⟩ oo
  have HWF : Hid (PWf P bs es) := h.x.wf
  have HLN : Hid (∀ j, j < 6 → (L j).length ≤ n + 2) := fun j hj => Nat.le_trans (hL j hj) (by omega)
  obtain ⟨m, im, hob0⟩ := lregion_ex A iA
  have HOB := Vx.hid hob0
  have HNB := Vx.hid (fun wv => near_any B iB 10 (by decide) wv)
  have HNC := Vx.hid (fun wv => near_any C iC 9 (by decide) wv)
  have HNE := Vx.hid (fun wv => near_any E iE 6 (by decide) wv)
  have iKB := near_i64 iB 10 (by decide)
  have iKC := near_i64 iC 9 (by decide)
  have iKE := near_i64 iE 6 (by decide)
  generalize nearF B 10 = kb at HNB iKB
  generalize nearF C 9 = kc at HNC iKC
  generalize nearF E 6 = ke at HNE iKE
  have HXG : Hid (∀ F wv, PlI W xb rb zb bb P oz rz Z Bk cs V L F bs es bs es wv → Calls Try.prog 9 #[.pointer (some ⟨xb, 0, none⟩), .int .i64 m, .int .i64 kb, .int .i64 kc, .int .i64 ke] wv fun e w' => ∃ v, e = .returned (.tuple #[v, .int .i64 (giveE bs es m kb kc ke)]) ∧ ∃ G, Hid (OwnL inL w' wv.heap.size 3 v (giveRs bs es m kb kc ke) ∧ PlI W xb rb zb bb P oz rz Z Bk cs V L (G ++ F) (giveRO bs es m kb kc ke) (giveRG bs es m kb kc ke) bs es w' ∧ ∀ k, v.ownBlock = some k → ∃ o, (k, o) ∈ G)) := fun F wv h => h.giveX im iKB iKC iKE
  have HRG : Hid (∀ F wv, PlI W xb rb zb bb P oz rz Z Bk cs V L F (giveRO bs es m kb kc ke) (giveRG bs es m kb kc ke) bs es wv → Calls Try.prog 38 #[.pointer (some ⟨rb, 0, none⟩), .int .i64 m, .int .i64 kb, .int .i64 kc, .int .i64 ke] wv fun e w' => ∃ v, e = .returned (.tuple #[v, .int .i64 (giveE bs es m kb kc ke)]) ∧ Hid (OwnL inL w' wv.heap.size 3 v (giveRs bs es m kb kc ke) ∧ PlI W xb rb zb bb P oz rz Z Bk cs V L F (giveRO bs es m kb kc ke) (giveRG bs es m kb kc ke) (giveRO bs es m kb kc ke) (giveRG bs es m kb kc ke) w')) := fun F wv h => h.giveR HWF.out m kb kc ke
  have HGL : Hid ((giveRs bs es m kb kc ke).length ≤ 64) := give_len m kb kc ke
  generalize giveE bs es m kb kc ke = er at HXG HRG
  generalize giveRO bs es m kb kc ke = bs2 at HXG HRG
  generalize giveRG bs es m kb kc ke = es2 at HXG HRG
  generalize giveRs bs es m kb kc ke = ns at HXG HRG HGL
  clear h
  go_enter Try.func10, Try.ntmps10
  go_upto_region 1 with fail
  rw [← hoo]
  obtain ⟨w1, hw1⟩ : ∃ w1, w1 = wr.alloc oo := ⟨_, rfl⟩
  rw [← hw1] at HP1 ⊢
  obtain ⟨ob, hob⟩ : ∃ ob, ob = wr.heap.size := ⟨_, rfl⟩
  rw [← hob] at HP1 ⊢
  clear hw1 hob
  have HCO : Hid (∀ F bx ex br er wv, PlI W xb rb zb bb P oz rz Z Bk cs V L F bx ex br er wv → (ob, oo) ∈ F → wv.cell? ⟨ob, 0, none⟩ = some (.int .i64 6) ∧ wv.cell? ⟨ob, 1, none⟩ = some (.int .i64 A) ∧ wv.cell? ⟨ob, 2, none⟩ = some (.int .i64 B) ∧ wv.cell? ⟨ob, 3, none⟩ = some (.int .i64 C) ∧ wv.cell? ⟨ob, 4, none⟩ = some (.int .i64 E)) := fun F bx ex br er wv h hm => by
    have h1 := h.at hm
    rw [hoo] at h1
    exact ⟨(cell_of_row _ _ 0 _ _ (0, 0) h1).trans rfl, (cell_of_row _ _ 1 _ _ (0, 0) h1).trans rfl, (cell_of_row _ _ 2 _ _ (0, 0) h1).trans rfl, (cell_of_row _ _ 3 _ _ (0, 0) h1).trans rfl, (cell_of_row _ _ 4 _ _ (0, 0) h1).trans rfl⟩
  clear hoo
  obtain ⟨F, hF⟩ : ∃ F : List (Nat × Obj), F = [(ob, oo)] := ⟨_, rfl⟩
  have HMO : Hid ((ob, oo) ∈ F) := by show (ob, oo) ∈ F; rw [hF]; simp
  rw [← hF] at HP1
  clear hF
  obtain ⟨k0, k1, k2, k3, k4⟩ := HCO.out _ _ _ _ _ _ HP1.out HMO.out
  have HCE : Hid (∀ F bx ex br er wv, PlI W xb rb zb bb P oz rz Z Bk cs V L F bx ex br er wv → (ob, oo) ∈ F → wv.cell? ⟨ob, 1, none⟩ = some (.int .i64 A) ∧ wv.cell? ⟨ob, 2, none⟩ = some (.int .i64 B) ∧ wv.cell? ⟨ob, 3, none⟩ = some (.int .i64 C) ∧ wv.cell? ⟨ob, 4, none⟩ = some (.int .i64 E)) := fun F bx ex br er wv h hm => (HCO.out _ _ _ _ _ _ h hm).2
  go_upto_region 23 with fail
  clear k0 k1 k2 k3 k4
  have HI0 := Vx.hid (HP1.out.quiet ((Only.refl _ _).drew))
  have HS0 := Vx.hid (HCE.out _ _ _ _ _ _ HI0.out HMO.out)
  have HS1 := HS0
  have HS6 := HS0
  have HI6 := HI0
  go_region_held3 (fun wv => wv.cell? ⟨ob, 1, none⟩ = some (.int .i64 A) ∧ wv.cell? ⟨ob, 2, none⟩ = some (.int .i64 B) ∧ wv.cell? ⟨ob, 3, none⟩ = some (.int .i64 C) ∧ wv.cell? ⟨ob, 4, none⟩ = some (.int .i64 E)) (first | with_reducible exact HS0.out | with_reducible exact HS6.out | with_reducible exact HS1.out) (first | (go_at_call 33; refine (HOB.out _).mono ?_; rintro e wq ⟨rfl, hq⟩; have HI6 := Vx.hid (HI0.out.quiet hq); have HS6 := Vx.hid (HCE.out _ _ _ _ _ _ HI6.out HMO.out); clear hq) | (go_at_call_of 5 (Value.int IntKind.i64 B); refine (HNB.out _).mono ?_; rintro e w' ⟨rfl, h⟩; have h3 := h.symm; clear h; subst h3) | (go_at_call_of 5 (Value.int IntKind.i64 C); refine (HNC.out _).mono ?_; rintro e w' ⟨rfl, h⟩; have h3 := h.symm; clear h; subst h3) | (go_at_call_of 5 (Value.int IntKind.i64 E); refine (HNE.out _).mono ?_; rintro e w' ⟨rfl, h⟩; have h3 := h.symm; clear h; subst h3) | (go_at_call 9; refine (HXG.out _ _ HI6.out).mono ?_; rintro e w4 ⟨lv, rfl, G, HG⟩; have HMO4 : Hid ((ob, oo) ∈ G ++ F) := List.mem_append_right _ HMO.out; have HS1 := Vx.hid (HCE.out _ _ _ _ _ _ HG.out.2.1 HMO4.out)))
  go_wp2_with fail
  have HI0b := Vx.hid (HG.out.2.1.quiet ((Only.refl _ _).drew))
  have HS0b := Vx.hid (HCE.out _ _ _ _ _ _ HI0b.out HMO4.out)
  have HS1b := HS0b
  have HS6b := HS0b
  have HI6b := HI0b
  go_region_held3 (fun wv => wv.cell? ⟨ob, 1, none⟩ = some (.int .i64 A) ∧ wv.cell? ⟨ob, 2, none⟩ = some (.int .i64 B) ∧ wv.cell? ⟨ob, 3, none⟩ = some (.int .i64 C) ∧ wv.cell? ⟨ob, 4, none⟩ = some (.int .i64 E)) (first | with_reducible exact HS0b.out | with_reducible exact HS6b.out | with_reducible exact HS1b.out) (first | (go_at_call 33; refine (HOB.out _).mono ?_; rintro e wp ⟨rfl, hq⟩; have HI6b := Vx.hid (HI0b.out.quiet hq); have HS6b := Vx.hid (HCE.out _ _ _ _ _ _ HI6b.out HMO4.out); clear hq) | (go_at_call_of 5 (Value.int IntKind.i64 B); refine (HNB.out _).mono ?_; rintro e w' ⟨rfl, h⟩; have h3 := h.symm; clear h; subst h3) | (go_at_call_of 5 (Value.int IntKind.i64 C); refine (HNC.out _).mono ?_; rintro e w' ⟨rfl, h⟩; have h3 := h.symm; clear h; subst h3) | (go_at_call_of 5 (Value.int IntKind.i64 E); refine (HNE.out _).mono ?_; rintro e w' ⟨rfl, h⟩; have h3 := h.symm; clear h; subst h3) | (go_at_call 38; refine (HRG.out _ _ HI6b.out).mono ?_; rintro e w5 ⟨kv, rfl, HK⟩; have HS1b := Vx.hid (HCE.out _ _ _ _ _ _ HK.out.2 HMO4.out)))
  have HLV5 : Hid (∃ base, base ≤ w5.heap.size ∧ OwnL inL w5 base 3 lv ns) := by
    have hsz : w4.heap.size ≤ wp.heap.size → wp.heap.size ≤ w5.heap.size → True := fun _ _ => trivial
    refine ⟨0, Nat.zero_le _, own_same (own_zero HG.out.1) (fun k hk => ?_)⟩
    obtain ⟨o, ho⟩ := HG.out.2.2 k hk
    rw [HG.out.2.1.at (List.mem_append_left _ ho), HK.out.2.at (List.mem_append_left _ ho)]
  obtain ⟨base, hbase, hlv5⟩ := HLV5.out
  have HL5 := Vx.hid (⟨hbase, hlv5⟩ : _ ∧ _)
  have HSS := Vx.hid (sameInts_ok (own_lie hlv5 (by have := HGL.out; omega)) (own_lie HK.out.1 (by have := HGL.out; omega)))
  clear HS0 HS1 HS6 HS0b HS1b HS6b HXG HRG hlv5 hbase
  go_wp2_with fail
  refine HSS.out.mono ?_
  rintro e w6 ⟨rfl, ho6⟩
  have HOW := Vx.hid ((HK.out.2.quiet ho6).ownN (HL5.out.2.kept ho6 (fun _ _ h => h)) (Nat.le_trans HL5.out.1 ho6.size) (fun k hk => by obtain ⟨o, h1⟩ := HG.out.2.2 k hk; exact ⟨o, List.mem_append_left _ h1⟩) (by have := HGL.out; omega) hL hn)
  clear ho6 HSS
  go_wp2_with fail
  refine HOW.out.mono ?_
  rintro e w7 ⟨rfl, hT⟩
  have HT := Vx.hid hT
  clear hT
  go_wp2_with fail
  all_goals
    go_ret
    exact ⟨by try rfl, HT.out.fin⟩
set_option maxRecDepth 100000 in
set_option maxHeartbeats 4000000 in
theorem lay_objs (h : PlC W xb rb zb bb P oz rz X R Z Bk bs es bs es cs V L wr) (A B C E : Int) (iA : I64 A) (iB : I64 B) (iC : I64 C) (iE : I64 E) (s : ByteArray) {n : Nat} (hL : ∀ j, j < 6 → (L j).length ≤ n) (hn : n ≤ 1000000) :
    Calls Try.prog 10 #[.pointer (some ⟨xb, 0, none⟩), .pointer (some ⟨rb, 0, none⟩), .pointer (some ⟨bb, 0, none⟩), .agg #[.int .i64 7, .int .i64 A, .int .i64 B, .int .i64 C, .int .i64 E, .string s]] wr fun e w' => e = .returned (.bool true) ∧ PlR W xb rb zb bb P oz rz (n + 2) w' := by
  obtain ⟨oo, hoo⟩ : ∃ oo : Obj, oo = .cells #[.int .i64 7, .int .i64 A, .int .i64 B, .int .i64 C, .int .i64 E, .string s] 48 (0, 0) := ⟨_, rfl⟩
  have HP1 : Hid (PlI W xb rb zb bb P oz rz Z Bk cs V L [(wr.heap.size, oo)] bs es bs es (wr.alloc oo)) := PlI.alloc (F := []) ⟨X, R, h, fun p hp => by cases hp⟩ oo
  have HWF : Hid (PWf P bs es) := h.x.wf
  have HLN : Hid (∀ j, j < 6 → (L j).length ≤ n + 2) := fun j hj => Nat.le_trans (hL j hj) (by omega)
  clear h
  go_enter Try.func10, Try.ntmps10
  go_upto_region 1 with fail
  rw [← hoo]
  obtain ⟨w1, hw1⟩ : ∃ w1, w1 = wr.alloc oo := ⟨_, rfl⟩
  rw [← hw1] at HP1 ⊢
  obtain ⟨ob, hob⟩ : ∃ ob, ob = wr.heap.size := ⟨_, rfl⟩
  rw [← hob] at HP1 ⊢
  clear hw1 hob
  have HCO : Hid (∀ F bx ex br er wv, PlI W xb rb zb bb P oz rz Z Bk cs V L F bx ex br er wv → (ob, oo) ∈ F → wv.cell? ⟨ob, 0, none⟩ = some (.int .i64 7) ∧ wv.cell? ⟨ob, 1, none⟩ = some (.int .i64 A) ∧ wv.cell? ⟨ob, 2, none⟩ = some (.int .i64 B) ∧ wv.cell? ⟨ob, 3, none⟩ = some (.int .i64 C) ∧ wv.cell? ⟨ob, 4, none⟩ = some (.int .i64 E)) := fun F bx ex br er wv h hm => by
    have h1 := h.at hm
    rw [hoo] at h1
    exact ⟨(cell_of_row _ _ 0 _ _ (0, 0) h1).trans rfl, (cell_of_row _ _ 1 _ _ (0, 0) h1).trans rfl, (cell_of_row _ _ 2 _ _ (0, 0) h1).trans rfl, (cell_of_row _ _ 3 _ _ (0, 0) h1).trans rfl, (cell_of_row _ _ 4 _ _ (0, 0) h1).trans rfl⟩
  clear hoo
  obtain ⟨F, hF⟩ : ∃ F : List (Nat × Obj), F = [(ob, oo)] := ⟨_, rfl⟩
  have HMO : Hid ((ob, oo) ∈ F) := by show (ob, oo) ∈ F; rw [hF]; simp
  rw [← hF] at HP1
  clear hF
  obtain ⟨k0, k1, k2, k3, k4⟩ := HCO.out _ _ _ _ _ _ HP1.out HMO.out
  have HOB := Vx.hid (objects_ok HP1.out hL hn)
  go_wp2_with fail
  refine HOB.out.mono ?_
  rintro e w2 ⟨rfl, hT⟩
  have HT := Vx.hid hT
  clear hT k0 k1 k2 k3 k4
  go_wp2_with fail
  all_goals
    go_ret
    exact ⟨by try rfl, HT.out.fin⟩
/-- One step. -/
theorem PlR.lay {n : Nat} (h : PlR W xb rb zb bb P oz rz n wr) (hn : n ≤ 1000000) (K A B C E : Int) (iA : I64 A) (iB : I64 B) (iC : I64 C) (iE : I64 E) (s : ByteArray) :
    Calls Try.prog 10 #[.pointer (some ⟨xb, 0, none⟩), .pointer (some ⟨rb, 0, none⟩), .pointer (some ⟨bb, 0, none⟩), .agg #[.int .i64 K, .int .i64 A, .int .i64 B, .int .i64 C, .int .i64 E, .string s]] wr fun e w' => e = .returned (.bool true) ∧ PlR W xb rb zb bb P oz rz (n + 2) w' := by
  obtain ⟨X, R, Z, Bk, bs, es, cs, V, L, h, hL⟩ := h
  by_cases k1 : K = 1
  · subst k1; exact lay_add h A B C E iA iB iC iE s hL hn
  by_cases k2 : K = 2
  · subst k2; exact lay_rem h A B C E iA iB iC iE s hL hn
  by_cases k3 : K = 3
  · subst k3; exact lay_empty h A B C E iA iB iC iE s hL hn
  by_cases k4 : K = 4
  · subst k4; exact lay_mark h A B C E iA iB iC iE s hL hn
  by_cases k5 : K = 5
  · subst k5; exact lay_at h A B C E iA iB iC iE s hL hn
  by_cases k6 : K = 6
  · subst k6; exact lay_give h A B C E iA iB iC iE s hL hn
  by_cases k7 : K = 7
  · subst k7; exact lay_objs h A B C E iA iB iC iE s hL hn
  exact lay_other h A B C E iA iB iC iE s hL hn k1 k2 k3 k4 k5 k6 k7
end Go.Proofs.Ytbbabpgmclhinaa

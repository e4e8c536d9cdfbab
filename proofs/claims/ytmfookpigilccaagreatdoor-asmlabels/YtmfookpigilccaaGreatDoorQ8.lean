/- Walks of package asm's firstWrong over the two closures of Assemble. Made by wip/gen/gen_q8.py. -/
import Derived.Test.YtmfookpigilccaaGreatDoorQ7
namespace Go.Proofs.YtmfookpigilccaaGreatDoor
open Go.ChangeShapes Go.WideShapes Go.ChangeAt Go.RowKit
open Go.Vx (Only)
/-- What a pass over the lines keeps: I k: behind k lines; Own: the blocks that it may write. -/
structure Pass (B0 : Nat) (I : Nat → World → Prop) (Own : World → Nat → Prop) : Prop where
  stable : ∀ k w w', I k w → Only (fun b => B0 ≤ b ∧ ¬ Own w b) w w' → I k w' ∧ ∀ b, Own w' b → Own w b
  lt : ∀ k w, I k w → ∀ b, Own w b → b < w.heap.size

theorem fwOne_1 (c1 c2 : Value) (k : Int) (bx ic : Addr) (w : World) (R : Ending → World → Prop)
    (h1 : w.cell? bx = some (.func (.func 15) #[] #[c1, c2])) (h2 : w.cell? ic = some (.int .i64 k))
    (hno : ∀ v w', R (.returned v) w' → v = .tuple #[])
    (h : Calls Tryz.prog 15 #[.int .i64 k, c1, c2] w R) :
    Calls Tryz.prog 32 #[.pointer (some bx), .pointer (some ic)] w R := by
  have H : Hid (Calls Tryz.prog 15 #[.int .i64 k, c1, c2] w R) := h
  have HN : Hid (∀ v w', R (.returned v) w' → v = .tuple #[]) := hno
  clear h hno
  go_enter Tryz.func32, Tryz.ntmps32
  go_wp2_with fail
  refine H.out.mono ?_
  intro e w1 hR
  cases e with
  | returned v =>
    obtain rfl := HN.out v w1 hR
    have HR : Hid (R (.returned (.tuple #[])) w1) := hR
    clear hR
    go_wp2_with fail
    first | go_end0 | refine bodyPost_ret (results_none rfl _ _ _) rfl ?_
    exact HR.out
  | panicked ch => exact ⟨rfl, hR⟩
  | outgrown => exact ⟨{ tmps := #[], defers := [] }, w1, hR⟩

/-- One line's work, under caught. -/
theorem caughtK_1 {B0 : Nat} {I : Nat → World → Prop} {Own : World → Nat → Prop} (hP : Pass B0 I Own) (c1 c2 : Value) (k : Nat) (w wr : World) (hB : B0 = w.heap.size) (hi : I k wr) (ho : Only (Own w) w wr) (hback : ∀ b, b < w.heap.size → Own wr b → Own w b) (hno : ¬ Own wr w.heap.size)
    (hsz : w.heap.size < wr.heap.size) (hbx : wr.cell? ⟨w.heap.size, 0, none⟩ = some (.func (.func 15) #[] #[c1, c2]))
    (hstep : ∀ w, I k w → Calls Tryz.prog 15 #[.int .i64 k, c1, c2] w fun e w' => e = .returned (.tuple #[]) ∧ I (k + 1) w' ∧ Only (Own w) w w' ∧ ∀ b, b < w.heap.size → Own w' b → Own w b) :
    Calls Tryz.prog 31 #[.func (.func 32) #[] #[.pointer (some ⟨w.heap.size, 0, none⟩), .pointer (some ⟨wr.heap.size, 0, none⟩)]] (wr.alloc (.cells #[.int .i64 k] 3)) fun e w' =>
      e = .returned (.int .i64 0) ∧ (I (k + 1) w' ∧ Only (Own w) w w' ∧ (∀ b, b < w.heap.size → Own w' b → Own w b) ∧ ¬ Own w' w.heap.size) ∧ w.heap.size < w'.heap.size ∧ w'.cell? ⟨w.heap.size, 0, none⟩ = some (.func (.func 15) #[] #[c1, c2]) := by
  obtain ⟨wi, hwi⟩ : ∃ wi, wr.alloc (.cells #[.int .i64 k] 3) = wi := ⟨_, rfl⟩
  obtain ⟨we, hwe⟩ : ∃ we, wi.alloc (.cells #[.int .i64 0] 22) = we := ⟨_, rfl⟩
  have si : wi.heap.size = wr.heap.size + 1 := by rw [← hwi]; simp
  have se : we.heap.size = wr.heap.size + 2 := by rw [← hwe]; simp [si]
  have onew : ∀ S : Nat → Prop, Only S wr we := fun S => by rw [← hwe, ← hwi]; exact ((Only.refl _ _).alloc _).alloc _
  obtain ⟨hie, howe⟩ := hP.stable k wr we hi (onew _)
  have hcI : we.cell? ⟨wr.heap.size, 0, none⟩ = some (.int .i64 k) := by rw [← hwe, ← hwi]; simp [go_sem]
  have hcE : we.cell? ⟨wi.heap.size, 0, none⟩ = some (.int .i64 0) := by rw [← hwe]; simp [go_sem]
  have hfE : we.frozen? ⟨wi.heap.size, 0, none⟩ = false := by rw [← hwe]; exact World.frozen?_alloc_new _ _ _ _
  have hcB : we.cell? ⟨w.heap.size, 0, none⟩ = some (.func (.func 15) #[] #[c1, c2]) := by
    rw [(onew (fun _ => False)).cell (p := ⟨w.heap.size, 0, none⟩) hsz (fun h => h)]; exact hbx
  have noE : ¬ Own we (wr.heap.size + 1) := fun h => by have := hP.lt k wr hi _ (howe _ h); omega
  rw [hwi]
  refine (caught_ok _ wi (fun w4 => I (k + 1) w4 ∧ Only (Own we) we w4 ∧ ∀ b, b < we.heap.size → Own w4 b → Own we b) ?_).mono ?_
  · rw [hwe]
    refine fwOne_1 c1 c2 k _ _ we _ hcB hcI ?_ ((hstep we hie).mono ?_)
    · rintro v w' ⟨h, _⟩
      exact Ending.returned.inj h
    · rintro e w4 ⟨rfl, h1, h2, h3⟩
      refine ⟨rfl, ⟨h1, h2, h3⟩, ?_, ?_⟩
      · rw [h2.cell (p := ⟨wi.heap.size, 0, none⟩) (by show wi.heap.size < _; omega) (by show ¬ Own we wi.heap.size; rw [si]; exact noE)]; exact hcE
      · rw [h2.frozen (p := ⟨wi.heap.size, 0, none⟩) (by show wi.heap.size < _; omega) (by show ¬ Own we wi.heap.size; rw [si]; exact noE)]; exact hfE
  · rintro e w' ⟨rfl, w4, ⟨h1, h2, h3⟩, rfl⟩
    have no4 : ¬ Own w4 wi.heap.size := fun h => by rw [si] at h; exact noE (h3 _ (by omega) h)
    have o5 : Only (fun b => B0 ≤ b ∧ ¬ Own w4 b) w4 (w4.setCell ⟨wi.heap.size, 0, none⟩ (.int .i64 0)) := Only.setCell (S := fun b => B0 ≤ b ∧ ¬ Own w4 b) (Only.refl _ _) (p := ⟨wi.heap.size, 0, none⟩) (Or.inl ⟨by show B0 ≤ wi.heap.size; omega, no4⟩) _
    obtain ⟨hi5, how5⟩ := hP.stable (k + 1) w4 _ h1 o5
    have all : Only (Own w) w (w4.setCell ⟨wi.heap.size, 0, none⟩ (.int .i64 0)) := by
      have a1 : Only (fun b => Own w b ∨ w.heap.size ≤ b) w wr := ho.mono fun _ _ h => Or.inl h
      have a2 : Only (fun b => Own w b ∨ w.heap.size ≤ b) we w4 := h2.mono fun b _ h => by
        by_cases hb : b < w.heap.size
        · exact Or.inl (hback b hb (howe b h))
        · exact Or.inr (by omega)
      have a3 : Only (fun b => Own w b ∨ w.heap.size ≤ b) w4 (w4.setCell ⟨wi.heap.size, 0, none⟩ (.int .i64 0)) := o5.mono fun b _ h => Or.inr (by omega)
      exact (((a1.trans (onew _)).trans a2).trans a3).mono fun b hb h => by
        rcases h with h | h
        · exact h
        · omega
    have sz4 : we.heap.size ≤ w4.heap.size := h2.size
    have sz5 : w4.heap.size ≤ (w4.setCell ⟨wi.heap.size, 0, none⟩ (.int .i64 0)).heap.size := o5.size
    have noB : ¬ Own we w.heap.size := fun h => hno (howe _ h)
    refine ⟨rfl, ⟨hi5, all, fun b hb h => hback b hb (howe b (h3 b (by omega) (how5 b h))), fun h => noB (h3 _ (by omega) (how5 _ h))⟩, by omega, ?_⟩
    rw [World.cell?_setCell_other _ _ _ _ (by simp <;> omega), h2.cell (p := ⟨w.heap.size, 0, none⟩) (by show w.heap.size < _; omega) noB]
    exact hcB
theorem caughtE_1 {B0 : Nat} {I : Nat → World → Prop} {Own : World → Nat → Prop} (hP : Pass B0 I Own) (c1 c2 : Value) (k : Nat) (err : Int) (w wr : World) (hi : I k wr) (ho : Only (Own w) w wr) (hback : ∀ b, b < w.heap.size → Own wr b → Own w b)
    (hsz : w.heap.size < wr.heap.size) (hbx : wr.cell? ⟨w.heap.size, 0, none⟩ = some (.func (.func 15) #[] #[c1, c2]))
    (hstep : ∀ w, I k w → Calls Tryz.prog 15 #[.int .i64 k, c1, c2] w fun e w' => e = .panicked [{ v := .iface 22 (.int .i64 err), recovered := false }] ∧ Only (Own w) w w') :
    Calls Tryz.prog 31 #[.func (.func 32) #[] #[.pointer (some ⟨w.heap.size, 0, none⟩), .pointer (some ⟨wr.heap.size, 0, none⟩)]] (wr.alloc (.cells #[.int .i64 k] 3)) fun e w' =>
      e = .returned (.int .i64 err) ∧ Only (Own w) w w' ∧ w'.cell? ⟨wr.heap.size, 0, none⟩ = some (.int .i64 k) := by
  obtain ⟨wi, hwi⟩ : ∃ wi, wr.alloc (.cells #[.int .i64 k] 3) = wi := ⟨_, rfl⟩
  obtain ⟨we, hwe⟩ : ∃ we, wi.alloc (.cells #[.int .i64 0] 22) = we := ⟨_, rfl⟩
  have si : wi.heap.size = wr.heap.size + 1 := by rw [← hwi]; simp
  have se : we.heap.size = wr.heap.size + 2 := by rw [← hwe]; simp [si]
  have onew : ∀ S : Nat → Prop, Only S wr we := fun S => by rw [← hwe, ← hwi]; exact ((Only.refl _ _).alloc _).alloc _
  obtain ⟨hie, howe⟩ := hP.stable k wr we hi (onew _)
  have hcI : we.cell? ⟨wr.heap.size, 0, none⟩ = some (.int .i64 k) := by rw [← hwe, ← hwi]; simp [go_sem]
  have hcE : we.cell? ⟨wi.heap.size, 0, none⟩ = some (.int .i64 0) := by rw [← hwe]; simp [go_sem]
  have hfE : we.frozen? ⟨wi.heap.size, 0, none⟩ = false := by rw [← hwe]; exact World.frozen?_alloc_new _ _ _ _
  have hcB : we.cell? ⟨w.heap.size, 0, none⟩ = some (.func (.func 15) #[] #[c1, c2]) := by
    rw [(onew (fun _ => False)).cell (p := ⟨w.heap.size, 0, none⟩) hsz (fun h => h)]; exact hbx
  have noE : ¬ Own we (wr.heap.size + 1) := fun h => by have := hP.lt k wr hi _ (howe _ h); omega
  have noI : ¬ Own we wr.heap.size := fun h => by have := hP.lt k wr hi _ (howe _ h); omega
  rw [hwi]
  refine (caught_err _ err wi (fun w4 => Only (Own we) we w4) ?_).mono ?_
  · rw [hwe]
    refine fwOne_1 c1 c2 k _ _ we _ hcB hcI ?_ ((hstep we hie).mono ?_)
    · rintro v w' ⟨h, _⟩
      cases h
    · rintro e w4 ⟨rfl, h2⟩
      refine ⟨rfl, h2, ?_, ?_⟩
      · rw [h2.cell (p := ⟨wi.heap.size, 0, none⟩) (by show wi.heap.size < _; omega) (by show ¬ Own we wi.heap.size; rw [si]; exact noE)]; exact hcE
      · rw [h2.frozen (p := ⟨wi.heap.size, 0, none⟩) (by show wi.heap.size < _; omega) (by show ¬ Own we wi.heap.size; rw [si]; exact noE)]; exact hfE
  · rintro e w' ⟨rfl, w4, h2, rfl⟩
    have all : Only (Own w) w (w4.setCell ⟨wi.heap.size, 0, none⟩ (.int .i64 err)) := by
      have a1 : Only (fun b => Own w b ∨ w.heap.size ≤ b) w wr := ho.mono fun _ _ h => Or.inl h
      have a2 : Only (fun b => Own w b ∨ w.heap.size ≤ b) we w4 := h2.mono fun b _ h => by
        by_cases hb : b < w.heap.size
        · exact Or.inl (hback b hb (howe b h))
        · exact Or.inr (by omega)
      have a3 : Only (fun b => Own w b ∨ w.heap.size ≤ b) w4 (w4.setCell ⟨wi.heap.size, 0, none⟩ (.int .i64 err)) := Only.setCell (S := fun b => Own w b ∨ w.heap.size ≤ b) (Only.refl _ _) (p := ⟨wi.heap.size, 0, none⟩) (Or.inl (Or.inr (by show w.heap.size ≤ wi.heap.size; omega))) _
      exact (((a1.trans (onew _)).trans a2).trans a3).mono fun b hb h => by
        rcases h with h | h
        · exact h
        · omega
    refine ⟨rfl, all, ?_⟩
    rw [World.cell?_setCell_other _ _ _ _ (by simp <;> omega), h2.cell (p := ⟨wr.heap.size, 0, none⟩) (by show wr.heap.size < _; omega) noI]
    exact hcI
set_option maxRecDepth 100000 in
set_option maxHeartbeats 2000000 in
theorem firstWrong_1 (n j : Nat) (hn : n ≤ 30000) (c1 c2 : Value) (I : Nat → World → Prop) (Own : World → Nat → Prop) (w : World) (hP : Pass w.heap.size I Own) (h0 : I 0 w)
    (hj : j ≤ n) (err : Int) (herr : (err != 0) = true)
    (hstep : ∀ k, k < j → ∀ w, I k w → Calls Tryz.prog 15 #[.int .i64 k, c1, c2] w fun e w' => e = .returned (.tuple #[]) ∧ I (k + 1) w' ∧ Only (Own w) w w' ∧ ∀ b, b < w.heap.size → Own w' b → Own w b)
    (hpan : j < n → ∀ w, I j w → Calls Tryz.prog 15 #[.int .i64 j, c1, c2] w fun e w' => e = .panicked [{ v := .iface 22 (.int .i64 err), recovered := false }] ∧ Only (Own w) w w') :
    Calls Tryz.prog 14 #[.int .i64 n, .func (.func 15) #[] #[c1, c2]] w fun e w' =>
      Only (Own w) w w' ∧ ((j = n ∧ e = .returned (.tuple #[.int .i64 0, .int .i64 0]) ∧ I n w' ∧ ∀ b, b < w.heap.size → Own w' b → Own w b) ∨ (j < n ∧ e = .returned (.tuple #[.int .i64 err, .int .i64 (j + 1)]))) := by
  have hmf : ∀ (fn : Fn) (first cap : Array Value) (w : World), (Instr.makeFunc fn first cap).run Tryz.prog w = .ok (.func fn first cap) w := fun _ _ _ _ => rfl
  have HPA : Hid (Pass w.heap.size I Own) := hP
  have HST : Hid (∀ k, k < j → ∀ w, I k w → Calls Tryz.prog 15 #[.int .i64 k, c1, c2] w fun e w' => e = .returned (.tuple #[]) ∧ I (k + 1) w' ∧ Only (Own w) w w' ∧ ∀ b, b < w.heap.size → Own w' b → Own w b) := hstep
  have HPN : Hid (j < n → ∀ w, I j w → Calls Tryz.prog 15 #[.int .i64 j, c1, c2] w fun e w' => e = .panicked [{ v := .iface 22 (.int .i64 err), recovered := false }] ∧ Only (Own w) w w') := hpan
  have H0 : Hid (I 0 w) := h0
  have HER : Hid ((err != 0) = true) := herr
  clear hP hstep hpan h0 herr
  go_enter Tryz.func14, Tryz.ntmps14
  go_wp2
  go_loopw [9] (fun a wr => ∃ k : Nat, k ≤ j ∧ a = .int .i64 k ∧ Hid (I k wr ∧ Only (Own w) w wr ∧ (∀ b, b < w.heap.size → Own wr b → Own w b) ∧ ¬ Own wr w.heap.size) ∧ w.heap.size < wr.heap.size ∧ wr.cell? ⟨w.heap.size, 0, none⟩ = some (.func (.func 15) #[] #[c1, c2])) (fun a _ => n - (intOf a).toNat)
  case atStart =>
    have ho : Only (fun b => w.heap.size ≤ b ∧ ¬ Own w b) w (w.alloc (.cells #[.func (.func 15) #[] #[c1, c2]] 46)) := (Only.refl _ _).alloc _
    obtain ⟨hi, hown⟩ := HPA.out.stable 0 w _ H0.out ho
    refine ⟨0, by omega, rfl, ⟨hi, (Only.refl _ _).alloc _, fun b _ h => hown b h, fun h => ?_⟩, by simp, by simp [go_sem]⟩
    have := HPA.out.lt 0 w H0.out _ (hown _ h)
    omega
  case round =>
    obtain ⟨k, hk, rfl, HI, hsz, hbx⟩ := hrel
    by_cases hlt : k < n
    · by_cases hkj : k < j
      · go_wp2_with fail
        obtain ⟨hi, ho, hb, hnb⟩ := HI.out
        refine (caughtK_1 HPA.out c1 c2 k w wr rfl hi ho hb hnb hsz hbx (HST.out k hkj)).mono ?_
        rintro e w2 ⟨rfl, h1, h2, h3⟩
        have HI2 : Hid (I (k + 1) w2 ∧ Only (Own w) w w2 ∧ (∀ b, b < w.heap.size → Own w2 b → Own w b) ∧ ¬ Own w2 w.heap.size) := h1
        clear hi ho hb hnb h1
        go_wp2_with fail
        go_roundw
        case rel => exact ⟨k + 1, by omega, by go_num, HI2, h2, h3⟩
        case measure => simp [intOf]; omega
      · have hkj2 : k = j := by omega
        subst hkj2
        have hne : (err == 0) = false := by have := HER.out; simpa using this
        have hne2 : (err != 0) = true := HER.out
        go_wp2_with fail
        obtain ⟨hi, ho, hb, hnb⟩ := HI.out
        refine (caughtE_1 HPA.out c1 c2 k err w wr hi ho hb hsz hbx (HPN.out hlt)).mono ?_
        rintro e w2 ⟨rfl, h1, h2⟩
        have HO : Hid (Only (Own w) w w2) := h1
        clear hi ho hb hnb h1
        go_wp2_with fail
        go_quiet (fail)
        go_wp2_with fail
        go_ret2
        refine ⟨?_, Or.inr ⟨hlt, rfl⟩⟩
        exact HO.out.drewN _
    · have hkn : k = n := by omega
      have hjn : j = n := by omega
      go_wp2_with fail
      go_ret2
      obtain ⟨hi, ho, hb, hnb⟩ := HI.out
      refine ⟨ho, Or.inl ⟨hjn, rfl, ?_, hb⟩⟩
      rw [← hkn]
      exact hi
theorem fwOne_2 (c1 c2 : Value) (k : Int) (bx ic : Addr) (w : World) (R : Ending → World → Prop)
    (h1 : w.cell? bx = some (.func (.func 17) #[] #[c1, c2])) (h2 : w.cell? ic = some (.int .i64 k))
    (hno : ∀ v w', R (.returned v) w' → v = .tuple #[])
    (h : Calls Tryz.prog 17 #[.int .i64 k, c1, c2] w R) :
    Calls Tryz.prog 32 #[.pointer (some bx), .pointer (some ic)] w R := by
  have H : Hid (Calls Tryz.prog 17 #[.int .i64 k, c1, c2] w R) := h
  have HN : Hid (∀ v w', R (.returned v) w' → v = .tuple #[]) := hno
  clear h hno
  go_enter Tryz.func32, Tryz.ntmps32
  go_wp2_with fail
  refine H.out.mono ?_
  intro e w1 hR
  cases e with
  | returned v =>
    obtain rfl := HN.out v w1 hR
    have HR : Hid (R (.returned (.tuple #[])) w1) := hR
    clear hR
    go_wp2_with fail
    first | go_end0 | refine bodyPost_ret (results_none rfl _ _ _) rfl ?_
    exact HR.out
  | panicked ch => exact ⟨rfl, hR⟩
  | outgrown => exact ⟨{ tmps := #[], defers := [] }, w1, hR⟩

/-- One line's work, under caught. -/
theorem caughtK_2 {B0 : Nat} {I : Nat → World → Prop} {Own : World → Nat → Prop} (hP : Pass B0 I Own) (c1 c2 : Value) (k : Nat) (w wr : World) (hB : B0 = w.heap.size) (hi : I k wr) (ho : Only (Own w) w wr) (hback : ∀ b, b < w.heap.size → Own wr b → Own w b) (hno : ¬ Own wr w.heap.size)
    (hsz : w.heap.size < wr.heap.size) (hbx : wr.cell? ⟨w.heap.size, 0, none⟩ = some (.func (.func 17) #[] #[c1, c2]))
    (hstep : ∀ w, I k w → Calls Tryz.prog 17 #[.int .i64 k, c1, c2] w fun e w' => e = .returned (.tuple #[]) ∧ I (k + 1) w' ∧ Only (Own w) w w' ∧ ∀ b, b < w.heap.size → Own w' b → Own w b) :
    Calls Tryz.prog 31 #[.func (.func 32) #[] #[.pointer (some ⟨w.heap.size, 0, none⟩), .pointer (some ⟨wr.heap.size, 0, none⟩)]] (wr.alloc (.cells #[.int .i64 k] 3)) fun e w' =>
      e = .returned (.int .i64 0) ∧ (I (k + 1) w' ∧ Only (Own w) w w' ∧ (∀ b, b < w.heap.size → Own w' b → Own w b) ∧ ¬ Own w' w.heap.size) ∧ w.heap.size < w'.heap.size ∧ w'.cell? ⟨w.heap.size, 0, none⟩ = some (.func (.func 17) #[] #[c1, c2]) := by
  obtain ⟨wi, hwi⟩ : ∃ wi, wr.alloc (.cells #[.int .i64 k] 3) = wi := ⟨_, rfl⟩
  obtain ⟨we, hwe⟩ : ∃ we, wi.alloc (.cells #[.int .i64 0] 22) = we := ⟨_, rfl⟩
  have si : wi.heap.size = wr.heap.size + 1 := by rw [← hwi]; simp
  have se : we.heap.size = wr.heap.size + 2 := by rw [← hwe]; simp [si]
  have onew : ∀ S : Nat → Prop, Only S wr we := fun S => by rw [← hwe, ← hwi]; exact ((Only.refl _ _).alloc _).alloc _
  obtain ⟨hie, howe⟩ := hP.stable k wr we hi (onew _)
  have hcI : we.cell? ⟨wr.heap.size, 0, none⟩ = some (.int .i64 k) := by rw [← hwe, ← hwi]; simp [go_sem]
  have hcE : we.cell? ⟨wi.heap.size, 0, none⟩ = some (.int .i64 0) := by rw [← hwe]; simp [go_sem]
  have hfE : we.frozen? ⟨wi.heap.size, 0, none⟩ = false := by rw [← hwe]; exact World.frozen?_alloc_new _ _ _ _
  have hcB : we.cell? ⟨w.heap.size, 0, none⟩ = some (.func (.func 17) #[] #[c1, c2]) := by
    rw [(onew (fun _ => False)).cell (p := ⟨w.heap.size, 0, none⟩) hsz (fun h => h)]; exact hbx
  have noE : ¬ Own we (wr.heap.size + 1) := fun h => by have := hP.lt k wr hi _ (howe _ h); omega
  rw [hwi]
  refine (caught_ok _ wi (fun w4 => I (k + 1) w4 ∧ Only (Own we) we w4 ∧ ∀ b, b < we.heap.size → Own w4 b → Own we b) ?_).mono ?_
  · rw [hwe]
    refine fwOne_2 c1 c2 k _ _ we _ hcB hcI ?_ ((hstep we hie).mono ?_)
    · rintro v w' ⟨h, _⟩
      exact Ending.returned.inj h
    · rintro e w4 ⟨rfl, h1, h2, h3⟩
      refine ⟨rfl, ⟨h1, h2, h3⟩, ?_, ?_⟩
      · rw [h2.cell (p := ⟨wi.heap.size, 0, none⟩) (by show wi.heap.size < _; omega) (by show ¬ Own we wi.heap.size; rw [si]; exact noE)]; exact hcE
      · rw [h2.frozen (p := ⟨wi.heap.size, 0, none⟩) (by show wi.heap.size < _; omega) (by show ¬ Own we wi.heap.size; rw [si]; exact noE)]; exact hfE
  · rintro e w' ⟨rfl, w4, ⟨h1, h2, h3⟩, rfl⟩
    have no4 : ¬ Own w4 wi.heap.size := fun h => by rw [si] at h; exact noE (h3 _ (by omega) h)
    have o5 : Only (fun b => B0 ≤ b ∧ ¬ Own w4 b) w4 (w4.setCell ⟨wi.heap.size, 0, none⟩ (.int .i64 0)) := Only.setCell (S := fun b => B0 ≤ b ∧ ¬ Own w4 b) (Only.refl _ _) (p := ⟨wi.heap.size, 0, none⟩) (Or.inl ⟨by show B0 ≤ wi.heap.size; omega, no4⟩) _
    obtain ⟨hi5, how5⟩ := hP.stable (k + 1) w4 _ h1 o5
    have all : Only (Own w) w (w4.setCell ⟨wi.heap.size, 0, none⟩ (.int .i64 0)) := by
      have a1 : Only (fun b => Own w b ∨ w.heap.size ≤ b) w wr := ho.mono fun _ _ h => Or.inl h
      have a2 : Only (fun b => Own w b ∨ w.heap.size ≤ b) we w4 := h2.mono fun b _ h => by
        by_cases hb : b < w.heap.size
        · exact Or.inl (hback b hb (howe b h))
        · exact Or.inr (by omega)
      have a3 : Only (fun b => Own w b ∨ w.heap.size ≤ b) w4 (w4.setCell ⟨wi.heap.size, 0, none⟩ (.int .i64 0)) := o5.mono fun b _ h => Or.inr (by omega)
      exact (((a1.trans (onew _)).trans a2).trans a3).mono fun b hb h => by
        rcases h with h | h
        · exact h
        · omega
    have sz4 : we.heap.size ≤ w4.heap.size := h2.size
    have sz5 : w4.heap.size ≤ (w4.setCell ⟨wi.heap.size, 0, none⟩ (.int .i64 0)).heap.size := o5.size
    have noB : ¬ Own we w.heap.size := fun h => hno (howe _ h)
    refine ⟨rfl, ⟨hi5, all, fun b hb h => hback b hb (howe b (h3 b (by omega) (how5 b h))), fun h => noB (h3 _ (by omega) (how5 _ h))⟩, by omega, ?_⟩
    rw [World.cell?_setCell_other _ _ _ _ (by simp <;> omega), h2.cell (p := ⟨w.heap.size, 0, none⟩) (by show w.heap.size < _; omega) noB]
    exact hcB
theorem caughtE_2 {B0 : Nat} {I : Nat → World → Prop} {Own : World → Nat → Prop} (hP : Pass B0 I Own) (c1 c2 : Value) (k : Nat) (err : Int) (w wr : World) (hi : I k wr) (ho : Only (Own w) w wr) (hback : ∀ b, b < w.heap.size → Own wr b → Own w b)
    (hsz : w.heap.size < wr.heap.size) (hbx : wr.cell? ⟨w.heap.size, 0, none⟩ = some (.func (.func 17) #[] #[c1, c2]))
    (hstep : ∀ w, I k w → Calls Tryz.prog 17 #[.int .i64 k, c1, c2] w fun e w' => e = .panicked [{ v := .iface 22 (.int .i64 err), recovered := false }] ∧ Only (Own w) w w') :
    Calls Tryz.prog 31 #[.func (.func 32) #[] #[.pointer (some ⟨w.heap.size, 0, none⟩), .pointer (some ⟨wr.heap.size, 0, none⟩)]] (wr.alloc (.cells #[.int .i64 k] 3)) fun e w' =>
      e = .returned (.int .i64 err) ∧ Only (Own w) w w' ∧ w'.cell? ⟨wr.heap.size, 0, none⟩ = some (.int .i64 k) := by
  obtain ⟨wi, hwi⟩ : ∃ wi, wr.alloc (.cells #[.int .i64 k] 3) = wi := ⟨_, rfl⟩
  obtain ⟨we, hwe⟩ : ∃ we, wi.alloc (.cells #[.int .i64 0] 22) = we := ⟨_, rfl⟩
  have si : wi.heap.size = wr.heap.size + 1 := by rw [← hwi]; simp
  have se : we.heap.size = wr.heap.size + 2 := by rw [← hwe]; simp [si]
  have onew : ∀ S : Nat → Prop, Only S wr we := fun S => by rw [← hwe, ← hwi]; exact ((Only.refl _ _).alloc _).alloc _
  obtain ⟨hie, howe⟩ := hP.stable k wr we hi (onew _)
  have hcI : we.cell? ⟨wr.heap.size, 0, none⟩ = some (.int .i64 k) := by rw [← hwe, ← hwi]; simp [go_sem]
  have hcE : we.cell? ⟨wi.heap.size, 0, none⟩ = some (.int .i64 0) := by rw [← hwe]; simp [go_sem]
  have hfE : we.frozen? ⟨wi.heap.size, 0, none⟩ = false := by rw [← hwe]; exact World.frozen?_alloc_new _ _ _ _
  have hcB : we.cell? ⟨w.heap.size, 0, none⟩ = some (.func (.func 17) #[] #[c1, c2]) := by
    rw [(onew (fun _ => False)).cell (p := ⟨w.heap.size, 0, none⟩) hsz (fun h => h)]; exact hbx
  have noE : ¬ Own we (wr.heap.size + 1) := fun h => by have := hP.lt k wr hi _ (howe _ h); omega
  have noI : ¬ Own we wr.heap.size := fun h => by have := hP.lt k wr hi _ (howe _ h); omega
  rw [hwi]
  refine (caught_err _ err wi (fun w4 => Only (Own we) we w4) ?_).mono ?_
  · rw [hwe]
    refine fwOne_2 c1 c2 k _ _ we _ hcB hcI ?_ ((hstep we hie).mono ?_)
    · rintro v w' ⟨h, _⟩
      cases h
    · rintro e w4 ⟨rfl, h2⟩
      refine ⟨rfl, h2, ?_, ?_⟩
      · rw [h2.cell (p := ⟨wi.heap.size, 0, none⟩) (by show wi.heap.size < _; omega) (by show ¬ Own we wi.heap.size; rw [si]; exact noE)]; exact hcE
      · rw [h2.frozen (p := ⟨wi.heap.size, 0, none⟩) (by show wi.heap.size < _; omega) (by show ¬ Own we wi.heap.size; rw [si]; exact noE)]; exact hfE
  · rintro e w' ⟨rfl, w4, h2, rfl⟩
    have all : Only (Own w) w (w4.setCell ⟨wi.heap.size, 0, none⟩ (.int .i64 err)) := by
      have a1 : Only (fun b => Own w b ∨ w.heap.size ≤ b) w wr := ho.mono fun _ _ h => Or.inl h
      have a2 : Only (fun b => Own w b ∨ w.heap.size ≤ b) we w4 := h2.mono fun b _ h => by
        by_cases hb : b < w.heap.size
        · exact Or.inl (hback b hb (howe b h))
        · exact Or.inr (by omega)
      have a3 : Only (fun b => Own w b ∨ w.heap.size ≤ b) w4 (w4.setCell ⟨wi.heap.size, 0, none⟩ (.int .i64 err)) := Only.setCell (S := fun b => Own w b ∨ w.heap.size ≤ b) (Only.refl _ _) (p := ⟨wi.heap.size, 0, none⟩) (Or.inl (Or.inr (by show w.heap.size ≤ wi.heap.size; omega))) _
      exact (((a1.trans (onew _)).trans a2).trans a3).mono fun b hb h => by
        rcases h with h | h
        · exact h
        · omega
    refine ⟨rfl, all, ?_⟩
    rw [World.cell?_setCell_other _ _ _ _ (by simp <;> omega), h2.cell (p := ⟨wr.heap.size, 0, none⟩) (by show wr.heap.size < _; omega) noI]
    exact hcI
set_option maxRecDepth 100000 in
set_option maxHeartbeats 2000000 in
theorem firstWrong_2 (n j : Nat) (hn : n ≤ 30000) (c1 c2 : Value) (I : Nat → World → Prop) (Own : World → Nat → Prop) (w : World) (hP : Pass w.heap.size I Own) (h0 : I 0 w)
    (hj : j ≤ n) (err : Int) (herr : (err != 0) = true)
    (hstep : ∀ k, k < j → ∀ w, I k w → Calls Tryz.prog 17 #[.int .i64 k, c1, c2] w fun e w' => e = .returned (.tuple #[]) ∧ I (k + 1) w' ∧ Only (Own w) w w' ∧ ∀ b, b < w.heap.size → Own w' b → Own w b)
    (hpan : j < n → ∀ w, I j w → Calls Tryz.prog 17 #[.int .i64 j, c1, c2] w fun e w' => e = .panicked [{ v := .iface 22 (.int .i64 err), recovered := false }] ∧ Only (Own w) w w') :
    Calls Tryz.prog 14 #[.int .i64 n, .func (.func 17) #[] #[c1, c2]] w fun e w' =>
      Only (Own w) w w' ∧ ((j = n ∧ e = .returned (.tuple #[.int .i64 0, .int .i64 0]) ∧ I n w' ∧ ∀ b, b < w.heap.size → Own w' b → Own w b) ∨ (j < n ∧ e = .returned (.tuple #[.int .i64 err, .int .i64 (j + 1)]))) := by
  have hmf : ∀ (fn : Fn) (first cap : Array Value) (w : World), (Instr.makeFunc fn first cap).run Tryz.prog w = .ok (.func fn first cap) w := fun _ _ _ _ => rfl
  have HPA : Hid (Pass w.heap.size I Own) := hP
  have HST : Hid (∀ k, k < j → ∀ w, I k w → Calls Tryz.prog 17 #[.int .i64 k, c1, c2] w fun e w' => e = .returned (.tuple #[]) ∧ I (k + 1) w' ∧ Only (Own w) w w' ∧ ∀ b, b < w.heap.size → Own w' b → Own w b) := hstep
  have HPN : Hid (j < n → ∀ w, I j w → Calls Tryz.prog 17 #[.int .i64 j, c1, c2] w fun e w' => e = .panicked [{ v := .iface 22 (.int .i64 err), recovered := false }] ∧ Only (Own w) w w') := hpan
  have H0 : Hid (I 0 w) := h0
  have HER : Hid ((err != 0) = true) := herr
  clear hP hstep hpan h0 herr
  go_enter Tryz.func14, Tryz.ntmps14
  go_wp2
  go_loopw [9] (fun a wr => ∃ k : Nat, k ≤ j ∧ a = .int .i64 k ∧ Hid (I k wr ∧ Only (Own w) w wr ∧ (∀ b, b < w.heap.size → Own wr b → Own w b) ∧ ¬ Own wr w.heap.size) ∧ w.heap.size < wr.heap.size ∧ wr.cell? ⟨w.heap.size, 0, none⟩ = some (.func (.func 17) #[] #[c1, c2])) (fun a _ => n - (intOf a).toNat)
  case atStart =>
    have ho : Only (fun b => w.heap.size ≤ b ∧ ¬ Own w b) w (w.alloc (.cells #[.func (.func 17) #[] #[c1, c2]] 46)) := (Only.refl _ _).alloc _
    obtain ⟨hi, hown⟩ := HPA.out.stable 0 w _ H0.out ho
    refine ⟨0, by omega, rfl, ⟨hi, (Only.refl _ _).alloc _, fun b _ h => hown b h, fun h => ?_⟩, by simp, by simp [go_sem]⟩
    have := HPA.out.lt 0 w H0.out _ (hown _ h)
    omega
  case round =>
    obtain ⟨k, hk, rfl, HI, hsz, hbx⟩ := hrel
    by_cases hlt : k < n
    · by_cases hkj : k < j
      · go_wp2_with fail
        obtain ⟨hi, ho, hb, hnb⟩ := HI.out
        refine (caughtK_2 HPA.out c1 c2 k w wr rfl hi ho hb hnb hsz hbx (HST.out k hkj)).mono ?_
        rintro e w2 ⟨rfl, h1, h2, h3⟩
        have HI2 : Hid (I (k + 1) w2 ∧ Only (Own w) w w2 ∧ (∀ b, b < w.heap.size → Own w2 b → Own w b) ∧ ¬ Own w2 w.heap.size) := h1
        clear hi ho hb hnb h1
        go_wp2_with fail
        go_roundw
        case rel => exact ⟨k + 1, by omega, by go_num, HI2, h2, h3⟩
        case measure => simp [intOf]; omega
      · have hkj2 : k = j := by omega
        subst hkj2
        have hne : (err == 0) = false := by have := HER.out; simpa using this
        have hne2 : (err != 0) = true := HER.out
        go_wp2_with fail
        obtain ⟨hi, ho, hb, hnb⟩ := HI.out
        refine (caughtE_2 HPA.out c1 c2 k err w wr hi ho hb hsz hbx (HPN.out hlt)).mono ?_
        rintro e w2 ⟨rfl, h1, h2⟩
        have HO : Hid (Only (Own w) w w2) := h1
        clear hi ho hb hnb h1
        go_wp2_with fail
        go_quiet (fail)
        go_wp2_with fail
        go_ret2
        refine ⟨?_, Or.inr ⟨hlt, rfl⟩⟩
        exact HO.out.drewN _
    · have hkn : k = n := by omega
      have hjn : j = n := by omega
      go_wp2_with fail
      go_ret2
      obtain ⟨hi, ho, hb, hnb⟩ := HI.out
      refine ⟨ho, Or.inl ⟨hjn, rfl, ?_, hb⟩⟩
      rw [← hkn]
      exact hi
end Go.Proofs.YtmfookpigilccaaGreatDoor

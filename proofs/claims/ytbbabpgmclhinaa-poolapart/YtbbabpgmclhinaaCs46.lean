import Derived.Test.YtbbabpgmclhinaaCs28
import Derived.Test.YtbbabpgmclhinaaCs44
import Derived.Test.YtbbabpgmclhinaaCs45
/- PoolScripts: lay: Add, Remove. -/
namespace Go.Proofs.Ytbbabpgmclhinaa
open Go.ChangeShapes Go.WideShapes Go.ChangeAt Go.RowKit
open Go.Vx
set_option linter.unusedVariables false
variable {W : World} {xb rb zb bb : Nat} {P : Int} {oz rz : List (Int × Int)} {X R Z Bk : Nat → Prop} {bs es : List (Int × Int)} {cs : Array Value} {V : Nat → Value} {L : Nat → List Sh} {wr : World}

/-- Between the steps: each book has at most n lists. -/
def PlR (W : World) (xb rb zb bb : Nat) (P : Int) (oz rz : List (Int × Int)) (n : Nat) (w' : World) : Prop := ∃ X R Z B bs es cs V L, PlC W xb rb zb bb P oz rz X R Z B bs es bs es cs V L w' ∧ ∀ j, j < 6 → (L j).length ≤ n
theorem PlI.fin {F : List (Nat × Obj)} {w2 : World} {n : Nat} (h : PlI W xb rb zb bb P oz rz Z Bk cs V L F bs es bs es w2) (hL : ∀ j, j < 6 → (L j).length ≤ n) : PlR W xb rb zb bb P oz rz n w2 := by
  obtain ⟨X, R, h, _⟩ := h
  exact ⟨X, R, Z, Bk, bs, es, cs, V, L, h, hL⟩
theorem PlI.wf {F : List (Nat × Obj)} {w2 : World} {br er : List (Int × Int)} (h : PlI W xb rb zb bb P oz rz Z Bk cs V L F bs es br er w2) : PWf P bs es := by
  obtain ⟨X, R, h, _⟩ := h
  exact h.x.wf
theorem PlI.xread {F : List (Nat × Obj)} {bx ex br er : List (Int × Int)} {wv : World} {f : FuncId} {args : Array Value} {v : Value} (h : PlI W xb rb zb bb P oz rz Z Bk cs V L F bx ex br er wv) (hc : ∀ U, XpAt U wv xb P bx ex → Calls Try.prog f args wv fun e w' => e = .returned v ∧ Only (fun _ => False) wv w') :
    Calls Try.prog f args wv fun e w' => e = .returned v ∧ Hid (PlI W xb rb zb bb P oz rz Z Bk cs V L F bx ex br er w') := by
  have h0 := h
  obtain ⟨X, R, h, _⟩ := h
  refine (hc _ h.x).mono ?_
  rintro e w' ⟨rfl, ho⟩
  exact ⟨rfl, h0.quiet ho⟩
theorem PlI.rread {F : List (Nat × Obj)} {bx ex br er : List (Int × Int)} {wv : World} {f : FuncId} {args : Array Value} {v : Value} (h : PlI W xb rb zb bb P oz rz Z Bk cs V L F bx ex br er wv) (hc : ∀ U vo vr, PoAt U wv rb P vo vr br er → Calls Try.prog f args wv fun e w' => e = .returned v ∧ Only (fun _ => False) wv w') :
    Calls Try.prog f args wv fun e w' => e = .returned v ∧ Hid (PlI W xb rb zb bb P oz rz Z Bk cs V L F bx ex br er w') := by
  have h0 := h
  obtain ⟨X, R, h, _⟩ := h
  obtain ⟨vo, vr, hr⟩ := h.r
  refine (hc _ vo vr hr).mono ?_
  rintro e w' ⟨rfl, ho⟩
  exact ⟨rfl, h0.quiet ho⟩
set_option maxRecDepth 100000 in
set_option maxHeartbeats 4000000 in
theorem lay_add (h : PlC W xb rb zb bb P oz rz X R Z Bk bs es bs es cs V L wr) (A B C E : Int) (iA : I64 A) (iB : I64 B) (iC : I64 C) (iE : I64 E) (s : ByteArray) {n : Nat} (hL : ∀ j, j < 6 → (L j).length ≤ n) (hn : n ≤ 1000000) :
    Calls Try.prog 10 #[.pointer (some ⟨xb, 0, none⟩), .pointer (some ⟨rb, 0, none⟩), .pointer (some ⟨bb, 0, none⟩), .agg #[.int .i64 1, .int .i64 A, .int .i64 B, .int .i64 C, .int .i64 E, .string s]] wr fun e w' => e = .returned (.bool true) ∧ PlR W xb rb zb bb P oz rz (n + 2) w' := by
  obtain ⟨oo, hoo⟩ : ∃ oo : Obj, oo = .cells #[.int .i64 1, .int .i64 A, .int .i64 B, .int .i64 C, .int .i64 E, .string s] 48 (0, 0) := ⟨_, rfl⟩
  have HP1 : Hid (PlI W xb rb zb bb P oz rz Z Bk cs V L [(wr.heap.size, oo)] bs es bs es (wr.alloc oo)) := PlI.alloc (F := []) ⟨X, R, h, fun p hp => by cases hp⟩ oo
  have HWF : Hid (PWf P bs es) := h.x.wf
  have HLN : Hid (∀ j, j < 6 → (L j).length ≤ n + 2) := fun j hj => Nat.le_trans (hL j hj) (by omega)
  obtain ⟨k, m, ik, im, hob0⟩ := objectOf_ex A B iA iB
  have HOB := Vx.hid hob0
  have HXC : Hid (∀ F wv, PlI W xb rb zb bb P oz rz Z Bk cs V L F bs es bs es wv → Calls Try.prog 8 #[.pointer (some ⟨xb, 0, none⟩), .agg #[.int .i64 k, .int .i64 m]] wv fun e w' => e = .returned (.int .i64 (addE P bs es (k, m))) ∧ Hid (PlI W xb rb zb bb P oz rz Z Bk cs V L F (addO P bs es (k, m)) (addG P bs es (k, m)) bs es w')) := fun F wv h => h.xcall (fun U hx => xpadd_ok hx k m ik im)
  have HRC : Hid (∀ F wv, PlI W xb rb zb bb P oz rz Z Bk cs V L F (addO P bs es (k, m)) (addG P bs es (k, m)) bs es wv → Calls Try.prog 31 #[.pointer (some ⟨rb, 0, none⟩), .agg #[.int .i64 k, .int .i64 m]] wv fun e w' => e = .returned (.int .i64 (addE P bs es (k, m))) ∧ Hid (PlI W xb rb zb bb P oz rz Z Bk cs V L F (addO P bs es (k, m)) (addG P bs es (k, m)) (addO P bs es (k, m)) (addG P bs es (k, m)) w')) := fun F wv h => h.rcall (fun U hr => add_ok hr HWF.out.pg HWF.out.p k m im (by have := HWF.out.lo; omega) (by have := HWF.out.lr; omega))
  generalize addE P bs es (k, m) = er at HXC HRC
  generalize addO P bs es (k, m) = bs2 at HXC HRC
  generalize addG P bs es (k, m) = es2 at HXC HRC
  clear h
  go_enter Try.func10, Try.ntmps10
  go_upto_region 1 with fail
  rw [← hoo]
  obtain ⟨w1, hw1⟩ : ∃ w1, w1 = wr.alloc oo := ⟨_, rfl⟩
  rw [← hw1] at HP1 ⊢
  obtain ⟨ob, hob⟩ : ∃ ob, ob = wr.heap.size := ⟨_, rfl⟩
  rw [← hob] at HP1 ⊢
  clear hw1 hob
  have HCO : Hid (∀ F bx ex br er wv, PlI W xb rb zb bb P oz rz Z Bk cs V L F bx ex br er wv → (ob, oo) ∈ F → wv.cell? ⟨ob, 0, none⟩ = some (.int .i64 1) ∧ wv.cell? ⟨ob, 1, none⟩ = some (.int .i64 A) ∧ wv.cell? ⟨ob, 2, none⟩ = some (.int .i64 B) ∧ wv.cell? ⟨ob, 3, none⟩ = some (.int .i64 C) ∧ wv.cell? ⟨ob, 4, none⟩ = some (.int .i64 E)) := fun F bx ex br er wv h hm => by
    have h1 := h.at hm
    rw [hoo] at h1
    exact ⟨(cell_of_row _ _ 0 _ _ (0, 0) h1).trans rfl, (cell_of_row _ _ 1 _ _ (0, 0) h1).trans rfl, (cell_of_row _ _ 2 _ _ (0, 0) h1).trans rfl, (cell_of_row _ _ 3 _ _ (0, 0) h1).trans rfl, (cell_of_row _ _ 4 _ _ (0, 0) h1).trans rfl⟩
  clear hoo
  obtain ⟨F, hF⟩ : ∃ F : List (Nat × Obj), F = [(ob, oo)] := ⟨_, rfl⟩
  have HMO : Hid ((ob, oo) ∈ F) := by show (ob, oo) ∈ F; rw [hF]; simp
  rw [← hF] at HP1
  clear hF
  obtain ⟨k0, k1, k2, k3, k4⟩ := HCO.out _ _ _ _ _ _ HP1.out HMO.out
  go_wp2_with fail
  refine (HOB.out _).mono ?_
  rintro e w2 ⟨rfl, hq⟩
  have HP2 := Vx.hid (HP1.out.quiet hq)
  clear hq k0 k1 k2 k3 k4
  obtain ⟨k0, k1, k2, k3, k4⟩ := HCO.out _ _ _ _ _ _ HP2.out HMO.out
  go_wp2_with fail
  refine (HXC.out _ _ HP2.out).mono ?_
  rintro e w3 ⟨rfl, HP3⟩
  clear k0 k1 k2 k3 k4
  obtain ⟨k0, k1, k2, k3, k4⟩ := HCO.out _ _ _ _ _ _ HP3.out HMO.out
  go_wp2_with fail
  refine (HOB.out _).mono ?_
  rintro e w4 ⟨rfl, hq⟩
  have HP4 := Vx.hid (HP3.out.quiet hq)
  clear hq k0 k1 k2 k3 k4
  obtain ⟨k0, k1, k2, k3, k4⟩ := HCO.out _ _ _ _ _ _ HP4.out HMO.out
  go_wp2_with fail
  refine (HRC.out _ _ HP4.out).mono ?_
  rintro e w5 ⟨rfl, HP5⟩
  clear k0 k1 k2 k3 k4
  obtain ⟨k0, k1, k2, k3, k4⟩ := HCO.out _ _ _ _ _ _ HP5.out HMO.out
  go_wp2_with fail
  all_goals
    go_ret
    exact ⟨by try rfl, HP5.out.fin HLN.out⟩
set_option maxRecDepth 100000 in
set_option maxHeartbeats 4000000 in
theorem lay_rem (h : PlC W xb rb zb bb P oz rz X R Z Bk bs es bs es cs V L wr) (A B C E : Int) (iA : I64 A) (iB : I64 B) (iC : I64 C) (iE : I64 E) (s : ByteArray) {n : Nat} (hL : ∀ j, j < 6 → (L j).length ≤ n) (hn : n ≤ 1000000) :
    Calls Try.prog 10 #[.pointer (some ⟨xb, 0, none⟩), .pointer (some ⟨rb, 0, none⟩), .pointer (some ⟨bb, 0, none⟩), .agg #[.int .i64 2, .int .i64 A, .int .i64 B, .int .i64 C, .int .i64 E, .string s]] wr fun e w' => e = .returned (.bool true) ∧ PlR W xb rb zb bb P oz rz (n + 2) w' := by
  obtain ⟨oo, hoo⟩ : ∃ oo : Obj, oo = .cells #[.int .i64 2, .int .i64 A, .int .i64 B, .int .i64 C, .int .i64 E, .string s] 48 (0, 0) := ⟨_, rfl⟩
  have HP1 : Hid (PlI W xb rb zb bb P oz rz Z Bk cs V L [(wr.heap.size, oo)] bs es bs es (wr.alloc oo)) := PlI.alloc (F := []) ⟨X, R, h, fun p hp => by cases hp⟩ oo
  have HWF : Hid (PWf P bs es) := h.x.wf
  have HLN : Hid (∀ j, j < 6 → (L j).length ≤ n + 2) := fun j hj => Nat.le_trans (hL j hj) (by omega)
  obtain ⟨k, m, ik, im, hob0⟩ := objectOf_ex A B iA iB
  have HOB := Vx.hid hob0
  have HXC : Hid (∀ F wv, PlI W xb rb zb bb P oz rz Z Bk cs V L F bs es bs es wv → Calls Try.prog 17 #[.pointer (some ⟨xb, 0, none⟩), .agg #[.int .i64 k, .int .i64 m]] wv fun e w' => e = .returned (.int .i64 (remE bs es (k, m))) ∧ Hid (PlI W xb rb zb bb P oz rz Z Bk cs V L F (remO bs (k, m)) (remG bs es (k, m)) bs es w')) := fun F wv h => h.xcall (fun U hx => xprem_ok hx k m ik im)
  have HRC : Hid (∀ F wv, PlI W xb rb zb bb P oz rz Z Bk cs V L F (remO bs (k, m)) (remG bs es (k, m)) bs es wv → Calls Try.prog 32 #[.pointer (some ⟨rb, 0, none⟩), .agg #[.int .i64 k, .int .i64 m]] wv fun e w' => e = .returned (.int .i64 (remE bs es (k, m))) ∧ Hid (PlI W xb rb zb bb P oz rz Z Bk cs V L F (remO bs (k, m)) (remG bs es (k, m)) (remO bs (k, m)) (remG bs es (k, m)) w')) := fun F wv h => h.rcall (fun U hr => remove_ok hr HWF.out.pg k m)
  generalize remE bs es (k, m) = er at HXC HRC
  generalize remO bs (k, m) = bs2 at HXC HRC
  generalize remG bs es (k, m) = es2 at HXC HRC
  clear h
  go_enter Try.func10, Try.ntmps10
  go_upto_region 1 with fail
  rw [← hoo]
  obtain ⟨w1, hw1⟩ : ∃ w1, w1 = wr.alloc oo := ⟨_, rfl⟩
  rw [← hw1] at HP1 ⊢
  obtain ⟨ob, hob⟩ : ∃ ob, ob = wr.heap.size := ⟨_, rfl⟩
  rw [← hob] at HP1 ⊢
  clear hw1 hob
  have HCO : Hid (∀ F bx ex br er wv, PlI W xb rb zb bb P oz rz Z Bk cs V L F bx ex br er wv → (ob, oo) ∈ F → wv.cell? ⟨ob, 0, none⟩ = some (.int .i64 2) ∧ wv.cell? ⟨ob, 1, none⟩ = some (.int .i64 A) ∧ wv.cell? ⟨ob, 2, none⟩ = some (.int .i64 B) ∧ wv.cell? ⟨ob, 3, none⟩ = some (.int .i64 C) ∧ wv.cell? ⟨ob, 4, none⟩ = some (.int .i64 E)) := fun F bx ex br er wv h hm => by
    have h1 := h.at hm
    rw [hoo] at h1
    exact ⟨(cell_of_row _ _ 0 _ _ (0, 0) h1).trans rfl, (cell_of_row _ _ 1 _ _ (0, 0) h1).trans rfl, (cell_of_row _ _ 2 _ _ (0, 0) h1).trans rfl, (cell_of_row _ _ 3 _ _ (0, 0) h1).trans rfl, (cell_of_row _ _ 4 _ _ (0, 0) h1).trans rfl⟩
  clear hoo
  obtain ⟨F, hF⟩ : ∃ F : List (Nat × Obj), F = [(ob, oo)] := ⟨_, rfl⟩
  have HMO : Hid ((ob, oo) ∈ F) := by show (ob, oo) ∈ F; rw [hF]; simp
  rw [← hF] at HP1
  clear hF
  obtain ⟨k0, k1, k2, k3, k4⟩ := HCO.out _ _ _ _ _ _ HP1.out HMO.out
  go_wp2_with fail
  refine (HOB.out _).mono ?_
  rintro e w2 ⟨rfl, hq⟩
  have HP2 := Vx.hid (HP1.out.quiet hq)
  clear hq k0 k1 k2 k3 k4
  obtain ⟨k0, k1, k2, k3, k4⟩ := HCO.out _ _ _ _ _ _ HP2.out HMO.out
  go_wp2_with fail
  refine (HXC.out _ _ HP2.out).mono ?_
  rintro e w3 ⟨rfl, HP3⟩
  clear k0 k1 k2 k3 k4
  obtain ⟨k0, k1, k2, k3, k4⟩ := HCO.out _ _ _ _ _ _ HP3.out HMO.out
  go_wp2_with fail
  refine (HOB.out _).mono ?_
  rintro e w4 ⟨rfl, hq⟩
  have HP4 := Vx.hid (HP3.out.quiet hq)
  clear hq k0 k1 k2 k3 k4
  obtain ⟨k0, k1, k2, k3, k4⟩ := HCO.out _ _ _ _ _ _ HP4.out HMO.out
  go_wp2_with fail
  refine (HRC.out _ _ HP4.out).mono ?_
  rintro e w5 ⟨rfl, HP5⟩
  clear k0 k1 k2 k3 k4
  obtain ⟨k0, k1, k2, k3, k4⟩ := HCO.out _ _ _ _ _ _ HP5.out HMO.out
  go_wp2_with fail
  all_goals
    go_ret
    exact ⟨by try rfl, HP5.out.fin HLN.out⟩
end Go.Proofs.Ytbbabpgmclhinaa

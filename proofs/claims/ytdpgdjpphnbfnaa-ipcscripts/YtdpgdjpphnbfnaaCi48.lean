import Derived.Test.YtdpgdjpphnbfnaaCi1
import Derived.ChangeKeysEq
import Derived.Test.YtdpgdjpphnbfnaaCi46
/- Arrays of words compared with themselves. -/
namespace Go.Proofs.Ytdpgdjpphnbfnaa
open Go.ChangeShapes Go.WideShapes Go.ChangeAt Go.RowKit
open Go.Vx
set_option linter.unusedVariables false

theorem part_u32 (xs : Array Value) (i : Nat) (a : Int) (h : xs[i]? = some (.int .u32 a)) (w : World) : (part 32 xs i).run Try.prog w = .ok (.int .u32 a) w := by
  simp [part, go_sem, h]
theorem eqItems_same (d : Nat) (xs : Array Value) (w : World) : ∀ (is : List Nat), (∀ i ∈ is, ∃ a : Int, xs[i]? = some (.int .u32 a)) → (Op.eqItems (d + 1) 32 1 xs xs is).run Try.prog w = .ok true w
  | [], _ => by simp [Op.eqItems]
  | i :: is, h => by
    obtain ⟨a, ha⟩ := h i (by simp)
    have hp : (part 32 xs (i * 1)).run Try.prog w = .ok (.int .u32 a) w := by rw [Nat.mul_one]; exact part_u32 xs i a ha w
    have he : (Op.equalIn (d + 1) 32 (.int .u32 a) (.int .u32 a)).run Try.prog w = .ok true w := by
      rw [run_equalIn_int w d 32 .u32 .u32 a a Try.underlying32]
      simp
    have ih := eqItems_same d xs w is (fun j hj => h j (by simp [hj]))
    simp only [Op.eqItems, Sem.run_bind, hp, he, Result.andThen_ok, Bool.not_true, Bool.false_eq_true, if_false]
    exact ih
theorem infoU32 : (Try.prog.info? 32).isSome = true := by kernel_rfl
theorem cU32w : Try.prog.cellsOf 32 = 1 := by kernel_rfl
theorem run_equal_words (w : World) (a b c d : Int) : (Op.equalIn 9998 33 (.agg #[.int .u32 a, .int .u32 b, .int .u32 c, .int .u32 d]) (.agg #[.int .u32 a, .int .u32 b, .int .u32 c, .int .u32 d])).run Try.prog w = .ok true w := by
  obtain ⟨i, hi⟩ := Option.isSome_iff_exists.1 infoU32
  rw [run_equalIn_array w 9997 _ _ Try.underlying33 hi, cU32w]
  refine eqItems_same 9996 _ w _ (fun i hi => ?_)
  have h4 : i < 4 := List.mem_range.1 hi
  rcases (by omega : i = 0 ∨ i = 1 ∨ i = 2 ∨ i = 3) with rfl | rfl | rfl | rfl
  · exact ⟨a, rfl⟩
  · exact ⟨b, rfl⟩
  · exact ⟨c, rfl⟩
  · exact ⟨d, rfl⟩
end Go.Proofs.Ytdpgdjpphnbfnaa

/- IpcScripts: passes: Get. -/
namespace Go.Proofs.Ytdpgdjpphnbfnaa
open Go.ChangeShapes Go.WideShapes Go.ChangeAt Go.RowKit
open Go.Vx
set_option linter.unusedVariables false
variable {W : World} {xb rb zb bb : Nat} {sz s : Bs} {X R Z Bk : Nat → Prop} {cs : Array Value} {V : Nat → Value} {L : Nat → List Sh} {wr : World}

set_option maxRecDepth 100000 in
set_option maxHeartbeats 8000000 in
theorem psd_get (h : IlC W xb rb zb bb sz X R Z Bk s s cs V L wr) (A B C E : Int) (iA : I64 A) (iB : I64 B) (iC : I64 C) (st : ByteArray) {n : Nat} (hL : ∀ j, j < 6 → (L j).length ≤ 2 * n) (hn : n ≤ 300000) (h1 : s.ps.length ≤ n) (h2 : s.ws.length ≤ n) (h3 : Ok7 s) :
    Calls Try.prog 8 #[.pointer (some ⟨xb, 0, none⟩), .pointer (some ⟨rb, 0, none⟩), .pointer (some ⟨bb, 0, none⟩), .agg #[.int .i64 3, .int .i64 A, .int .i64 B, .int .i64 C, .int .i64 E, .string st]] wr fun e w' => e = .returned (.bool true) ∧ IlR W xb rb zb bb sz (n + 1) w' := by
  obtain ⟨oo, hoo⟩ : ∃ oo : Obj, oo = .cells #[.int .i64 3, .int .i64 A, .int .i64 B, .int .i64 C, .int .i64 E, .string st] 50 (0, 0) := ⟨_, rfl⟩
  have HP1 : Hid (IlI W xb rb zb bb sz Z Bk cs V L [(wr.heap.size, oo)] s s (wr.alloc oo)) := IlI.alloc (F := []) ⟨X, R, h, fun p hp => by cases hp⟩ oo
  have HWF : Hid (BWf s) := h.x.1
  have HLN : Hid (∀ j, j < 6 → (L j).length ≤ 2 * (n + 1)) := fun j hj => Nat.le_trans (hL j hj) (by omega)
  have HB1 : Hid (s.ps.length ≤ n ∧ s.ws.length ≤ n ∧ Ok7 s) := ⟨h1, h2, h3⟩
  have HNA : Hid (∀ wv, Calls Try.prog 22 #[.int .i64 A, .int .i64 5] wv fun e w' => e = .returned (.int .i64 (nearF A 5)) ∧ Only (fun _ => False) wv w') := fun wv => (near_any A iA 5 (by decide) wv).mono (fun _ _ h => ⟨h.1, by rw [h.2]; exact Only.refl _ _⟩)
  have iN := near_i64 iA 5 (by decide)
  have n7 := near_777 A
  generalize nearF A 5 = N at HNA iN n7
  have HPB : Hid (∀ wv, Calls Try.prog 23 #[.int .i64 B, .int .i64 6] wv fun e w' => e = .returned (.int .i64 (pickL B 6 : Nat)) ∧ Only (fun _ => False) wv w') := fun wv => (pickL_any 6 (by decide) (by decide) B iB.1 iB.2 wv).mono (fun _ _ h => ⟨h.1, by rw [h.2]; exact Only.refl _ _⟩)
  have iT : I64 ((pickL B 6 : Nat) : Int) := by
    have : pickL B 6 < 6 := Nat.mod_lt _ (by decide)
    unfold I64
    omega
  generalize ((pickL B 6 : Nat) : Int) = T at HPB iT
  obtain ⟨bq, hbq⟩ : ∃ b, (Int.tmod C 2 != 0) = b := ⟨_, rfl⟩
  have HXC : Hid (∀ F wv, IlI W xb rb zb bb sz Z Bk cs V L F s s wv → Calls Try.prog 16 #[.pointer (some ⟨xb, 0, none⟩), .int .i64 N, .int .i64 T, .bool bq] wv fun e w' => e = .returned (ocV (getR s N T bq)) ∧ Hid (IlI W xb rb zb bb sz Z Bk cs V L F (getS s N T bq) s w')) := fun F wv h => h.xcall (fun U hx => xget_ok hx (by omega) N T iN iT bq)
  have HRC : Hid (∀ F wv, IlI W xb rb zb bb sz Z Bk cs V L F (getS s N T bq) s wv → Calls Try.prog 27 #[.pointer (some ⟨rb, 0, none⟩), .int .i64 N, .int .i64 T, .bool bq] wv fun e w' => e = .returned (ocV (getR s N T bq)) ∧ Hid (IlI W xb rb zb bb sz Z Bk cs V L F (getS s N T bq) (getS s N T bq) w')) := fun F wv h => h.rcall (fun U hr => by obtain ⟨vp, vw, hr⟩ := hr; exact rget_ok hr (by omega) N T bq)
  have HSM : Hid ((getS s N T bq).ps.length ≤ n + 1 ∧ (getS s N T bq).ws.length ≤ n + 1 ∧ Ok7 (getS s N T bq)) := by
    have h8 := sz_get s N T bq
    exact ⟨by have := h8.1; omega, by have := h8.2.1; omega, h8.2.2 h3⟩
  generalize getS s N T bq = s2 at HXC HRC HSM
  generalize getR s N T bq = oc at HXC HRC
  obtain ⟨o0, o1, ⟨o2, o3, o4, o5, o6, o7⟩, o8, o9, o10⟩ := oc
  unfold ocV at HXC HRC
  dsimp only at HXC HRC
  clear h h1 h2 h3
  go_enter Try.func8, Try.ntmps8
  go_upto_region 1 with fail
  rw [← hoo]
  obtain ⟨w1, hw1⟩ : ∃ w1, w1 = wr.alloc oo := ⟨_, rfl⟩
  rw [← hw1] at HP1 ⊢
  obtain ⟨ob, hob⟩ : ∃ ob, ob = wr.heap.size := ⟨_, rfl⟩
  rw [← hob] at HP1 ⊢
  clear hw1 hob
  have HCO : Hid (∀ F sx sr wv, IlI W xb rb zb bb sz Z Bk cs V L F sx sr wv → (ob, oo) ∈ F → wv.cell? ⟨ob, 0, none⟩ = some (.int .i64 3) ∧ wv.cell? ⟨ob, 1, none⟩ = some (.int .i64 A) ∧ wv.cell? ⟨ob, 2, none⟩ = some (.int .i64 B) ∧ wv.cell? ⟨ob, 3, none⟩ = some (.int .i64 C) ∧ wv.cell? ⟨ob, 4, none⟩ = some (.int .i64 E)) := fun F sx sr wv h hm => by
    have h1 := h.at hm
    rw [hoo] at h1
    exact ⟨(cell_of_row _ _ 0 _ _ (0, 0) h1).trans rfl, (cell_of_row _ _ 1 _ _ (0, 0) h1).trans rfl, (cell_of_row _ _ 2 _ _ (0, 0) h1).trans rfl, (cell_of_row _ _ 3 _ _ (0, 0) h1).trans rfl, (cell_of_row _ _ 4 _ _ (0, 0) h1).trans rfl⟩
  clear hoo
  obtain ⟨F, hF⟩ : ∃ F : List (Nat × Obj), F = [(ob, oo)] := ⟨_, rfl⟩
  have HMO : Hid ((ob, oo) ∈ F) := by show (ob, oo) ∈ F; rw [hF]; simp
  rw [← hF] at HP1
  clear hF
  obtain ⟨k0, k1, k2, k3, k4⟩ := HCO.out _ _ _ _ HP1.out HMO.out
  go_wp2_with fail
  refine (HNA.out _).mono ?_
  rintro e w2 ⟨rfl, hq⟩
  have HP2 := Vx.hid (HP1.out.quiet hq)
  clear hq k0 k1 k2 k3 k4
  obtain ⟨k0, k1, k2, k3, k4⟩ := HCO.out _ _ _ _ HP2.out HMO.out
  go_wp2_with fail
  refine (HPB.out _).mono ?_
  rintro e w3 ⟨rfl, hq⟩
  have HP3 := Vx.hid (HP2.out.quiet hq)
  clear hq k0 k1 k2 k3 k4
  obtain ⟨k0, k1, k2, k3, k4⟩ := HCO.out _ _ _ _ HP3.out HMO.out
  go_wp2_with fail
  refine (HXC.out _ _ HP3.out).mono ?_
  rintro e w4 ⟨rfl, HP4⟩
  clear k0 k1 k2 k3 k4
  obtain ⟨k0, k1, k2, k3, k4⟩ := HCO.out _ _ _ _ HP4.out HMO.out
  go_upto_region 14 with fail
  obtain ⟨w5, hw5⟩ : ∃ w5, w5 = w4.alloc (.cells #[.int .i64 o0, .int .i64 o1, .int .u32 o2, .int .u32 o3, .int .u32 o4, .int .u32 o5, .int .u32 o6, .int .u32 o7, .bool o8, .bool o9, .bool o10] 37) := ⟨_, rfl⟩
  obtain ⟨yb, hyb⟩ : ∃ yb, yb = w4.heap.size := ⟨_, rfl⟩
  have HP5 : Hid (IlI W xb rb zb bb sz Z Bk cs V L ((yb, .cells #[.int .i64 o0, .int .i64 o1, .int .u32 o2, .int .u32 o3, .int .u32 o4, .int .u32 o5, .int .u32 o6, .int .u32 o7, .bool o8, .bool o9, .bool o10] 37 (0, 0)) :: F) s2 s w5) := by rw [hw5, hyb]; exact HP4.out.alloc _
  rw [← hw5, ← hyb]
  clear hw5 hyb k0 k1 k2 k3 k4
  have HMO5 : Hid ((ob, oo) ∈ (yb, .cells #[.int .i64 o0, .int .i64 o1, .int .u32 o2, .int .u32 o3, .int .u32 o4, .int .u32 o5, .int .u32 o6, .int .u32 o7, .bool o8, .bool o9, .bool o10] 37 (0, 0)) :: F) := List.mem_cons_of_mem _ HMO.out
  obtain ⟨k0, k1, k2, k3, k4⟩ := HCO.out _ _ _ _ HP5.out HMO5.out
  go_wp2_with fail
  refine (HRC.out _ _ HP5.out).mono ?_
  rintro e w6 ⟨rfl, HP6⟩
  clear k0 k1 k2 k3 k4
  obtain ⟨k0, k1, k2, k3, k4⟩ := HCO.out _ _ _ _ HP6.out HMO5.out
  go_upto_region 15 with fail
  obtain ⟨w7, hw7⟩ : ∃ w7, w7 = w6.alloc (.cells #[.int .i64 o0, .int .i64 o1, .int .u32 o2, .int .u32 o3, .int .u32 o4, .int .u32 o5, .int .u32 o6, .int .u32 o7, .bool o8, .bool o9, .bool o10] 37) := ⟨_, rfl⟩
  obtain ⟨zb2, hzb⟩ : ∃ zb2, zb2 = w6.heap.size := ⟨_, rfl⟩
  have HP7 : Hid (IlI W xb rb zb bb sz Z Bk cs V L ((zb2, .cells #[.int .i64 o0, .int .i64 o1, .int .u32 o2, .int .u32 o3, .int .u32 o4, .int .u32 o5, .int .u32 o6, .int .u32 o7, .bool o8, .bool o9, .bool o10] 37 (0, 0)) :: (yb, .cells #[.int .i64 o0, .int .i64 o1, .int .u32 o2, .int .u32 o3, .int .u32 o4, .int .u32 o5, .int .u32 o6, .int .u32 o7, .bool o8, .bool o9, .bool o10] 37 (0, 0)) :: F) s2 s2 w7) := by rw [hw7, hzb]; exact HP6.out.alloc _
  rw [← hw7, ← hzb]
  clear hw7 hzb k0 k1 k2 k3 k4
  have hz7 := HP7.out.at List.mem_cons_self
  have hy7 := HP7.out.at (List.mem_cons_of_mem _ List.mem_cons_self)
  have c0 : w7.cell? ⟨zb2, 0, none⟩ = some (.int .i64 o0) := (cell_of_row _ _ 0 _ _ (0, 0) hz7).trans rfl
  have c1 : w7.cell? ⟨zb2, 1, none⟩ = some (.int .i64 o1) := (cell_of_row _ _ 1 _ _ (0, 0) hz7).trans rfl
  have c2 : w7.cell? ⟨zb2, 2, none⟩ = some (.int .u32 o2) := (cell_of_row _ _ 2 _ _ (0, 0) hz7).trans rfl
  have c3 : w7.cell? ⟨zb2, 3, none⟩ = some (.int .u32 o3) := (cell_of_row _ _ 3 _ _ (0, 0) hz7).trans rfl
  have c4 : w7.cell? ⟨zb2, 4, none⟩ = some (.int .u32 o4) := (cell_of_row _ _ 4 _ _ (0, 0) hz7).trans rfl
  have c5 : w7.cell? ⟨zb2, 5, none⟩ = some (.int .u32 o5) := (cell_of_row _ _ 5 _ _ (0, 0) hz7).trans rfl
  have c6 : w7.cell? ⟨zb2, 6, none⟩ = some (.int .u32 o6) := (cell_of_row _ _ 6 _ _ (0, 0) hz7).trans rfl
  have c7 : w7.cell? ⟨zb2, 7, none⟩ = some (.int .u32 o7) := (cell_of_row _ _ 7 _ _ (0, 0) hz7).trans rfl
  have c8 : w7.cell? ⟨zb2, 8, none⟩ = some (.bool o8) := (cell_of_row _ _ 8 _ _ (0, 0) hz7).trans rfl
  have c9 : w7.cell? ⟨zb2, 9, none⟩ = some (.bool o9) := (cell_of_row _ _ 9 _ _ (0, 0) hz7).trans rfl
  have c10 : w7.cell? ⟨zb2, 10, none⟩ = some (.bool o10) := (cell_of_row _ _ 10 _ _ (0, 0) hz7).trans rfl
  have d0 : w7.cell? ⟨yb, 0, none⟩ = some (.int .i64 o0) := (cell_of_row _ _ 0 _ _ (0, 0) hy7).trans rfl
  have d1 : w7.cell? ⟨yb, 1, none⟩ = some (.int .i64 o1) := (cell_of_row _ _ 1 _ _ (0, 0) hy7).trans rfl
  have d2 : w7.cell? ⟨yb, 2, none⟩ = some (.int .u32 o2) := (cell_of_row _ _ 2 _ _ (0, 0) hy7).trans rfl
  have d3 : w7.cell? ⟨yb, 3, none⟩ = some (.int .u32 o3) := (cell_of_row _ _ 3 _ _ (0, 0) hy7).trans rfl
  have d4 : w7.cell? ⟨yb, 4, none⟩ = some (.int .u32 o4) := (cell_of_row _ _ 4 _ _ (0, 0) hy7).trans rfl
  have d5 : w7.cell? ⟨yb, 5, none⟩ = some (.int .u32 o5) := (cell_of_row _ _ 5 _ _ (0, 0) hy7).trans rfl
  have d6 : w7.cell? ⟨yb, 6, none⟩ = some (.int .u32 o6) := (cell_of_row _ _ 6 _ _ (0, 0) hy7).trans rfl
  have d7 : w7.cell? ⟨yb, 7, none⟩ = some (.int .u32 o7) := (cell_of_row _ _ 7 _ _ (0, 0) hy7).trans rfl
  have d8 : w7.cell? ⟨yb, 8, none⟩ = some (.bool o8) := (cell_of_row _ _ 8 _ _ (0, 0) hy7).trans rfl
  have d9 : w7.cell? ⟨yb, 9, none⟩ = some (.bool o9) := (cell_of_row _ _ 9 _ _ (0, 0) hy7).trans rfl
  have d10 : w7.cell? ⟨yb, 10, none⟩ = some (.bool o10) := (cell_of_row _ _ 10 _ _ (0, 0) hy7).trans rfl
  have hEW := run_equal_words w7 o3 o4 o5 o6
  clear hz7 hy7
  go_wp2_with fail
  all_goals
    go_ret
    exact ⟨by try rfl, HP7.out.fin HLN.out HSM.out.1 HSM.out.2.1 HSM.out.2.2⟩
end Go.Proofs.Ytdpgdjpphnbfnaa

import Derived.Test.YtbmchgjilkoplaaDoorCq39
import Derived.Test.YtbmchgjilkoplaaDoorCq40
import Derived.Deep.RegionHeld3
/- CapsScripts: puts: Make, Drop. -/
namespace Go.Proofs.YtbmchgjilkoplaaDoor
open Go.ChangeShapes Go.WideShapes Go.ChangeAt Go.RowKit
open Go.Vx
set_option linter.unusedVariables false
variable {W : World} {xb rb zb bb : Nat} {X R Z Bk : Nat → Prop} {bs : List (Int × Int)} {es : List En} {vs ve : Value} {ss ls : List Sh} {wr : World}

/-- The box that the law makes at its end is not there. -/
def N77 (bs : List (Int × Int)) : Prop := ∀ b ∈ bs, b.1 ≠ 77
theorem near77 (c : Int) : nearF c 5 ≠ 77 := by
  unfold nearF
  split
  · intro h
    subst h
    rename_i h1
    exact absurd h1 (by decide)
  · have : pickL c (5 + 2) < 5 + 2 := Nat.mod_lt _ (by decide)
    omega
theorem N77.make {bs : List (Int × Int)} (h : N77 bs) {num n : Int} (hn : num ≠ 77) : N77 (makeL bs num n) := by
  unfold makeL
  split
  · intro b hb
    rcases List.mem_append.1 hb with hb | hb
    · exact h b hb
    · rw [List.mem_singleton] at hb
      subst hb
      exact hn
  · exact h
theorem N77.drop {bs : List (Int × Int)} (h : N77 bs) (es : List En) (n : Int) : N77 (dropL bs es n) := by
  unfold dropL
  cases boxF bs n with
  | none => exact h
  | some i =>
    cases inF es n with
    | some k => exact h
    | none =>
      intro b hb
      rcases List.mem_append.1 hb with hb | hb
      · exact h b (List.mem_of_mem_take hb)
      · exact h b (List.mem_of_mem_drop hb)
/-- What a step leaves. -/
def PsR (W : World) (xb rb zb bb : Nat) (Z Bk : Nat → Prop) (vs : Value) (ss : List Sh) (ve : Value) (ls : List Sh) (n m : Nat) (w' : World) : Prop := ∃ X R bs es, CsR W xb rb zb bb X R Z Bk bs es bs es vs ss ve ls w' ∧ bs.length ≤ n ∧ es.length ≤ m ∧ N77 bs
theorem PsI.fin {F : List (Nat × Obj)} {w2 : World} {n m : Nat} (h : PsI W xb rb zb bb Z Bk vs ss ve ls F bs es bs es w2) (hb : bs.length ≤ n) (he : es.length ≤ m) (hN : N77 bs) : PsR W xb rb zb bb Z Bk vs ss ve ls n m w2 := by
  obtain ⟨X, R, h, _⟩ := h
  exact ⟨X, R, bs, es, h, hb, he, hN⟩
theorem slot_i64 {n : Int} (h : I64 n) : I64 (slotF n).1 := by
  unfold slotF
  split
  · unfold I64 at h ⊢
    have := Int.natAbs_tdiv n 37
    simp only
    have h1 : n.tdiv 37 = if 0 ≤ n then n / 37 else -((-n) / 37) := by
      split
      · exact Int.tdiv_eq_ediv_of_nonneg (by omega)
      · have h2 : n.tdiv 37 = -((-n).tdiv 37) := by rw [Int.neg_tdiv]; omega
        rw [h2, Int.tdiv_eq_ediv_of_nonneg (by omega)]
    rw [h1]
    split <;> omega
  · have : pickL n 60 < 60 := Nat.mod_lt _ (by decide)
    unfold I64
    simp only
    omega
theorem make_len (bs : List (Int × Int)) (num n : Int) : (makeL bs num n).length ≤ bs.length + 1 := by
  unfold makeL
  split
  · simp
  · omega
theorem drop_len (bs : List (Int × Int)) (es : List En) (n : Int) : (dropL bs es n).length ≤ bs.length + 1 := by
  unfold dropL
  cases boxF bs n with
  | none => simp
  | some i =>
    cases inF es n with
    | some k => simp
    | none => simp only [List.length_append, List.length_take, List.length_drop]; omega
theorem cut_len (es : List En) (i : Nat) (t : Sl) : (cutL es i t).length ≤ es.length := cutL_len es i t
theorem take_len2 (bs : List (Int × Int)) (es : List En) (s : Sl) : (takeL bs es s).length ≤ es.length := by
  unfold takeL
  cases fullF bs es s with
  | ok i => exact cutL_len es i _
  | error e => exact Nat.le_refl _
theorem set_len (bs : List (Int × Int)) (es : List En) (s : Sl) (c : Cp) : (setL bs es s c).length = es.length := by
  unfold setL
  cases fullF bs es s with
  | error e => rfl
  | ok i =>
    dsimp only
    split
    · simp
    · rfl

set_option maxRecDepth 100000 in
set_option maxHeartbeats 4000000 in
theorem puts_make (h : CsR W xb rb zb bb X R Z Bk bs es bs es vs ss ve ls wr) (A B C E : Int) (iA : I64 A) (iB : I64 B) (iC : I64 C) (s : ByteArray) (hlb : bs.length < 1000000) (hle : es.length < 1000000) (hN : N77 bs) :
    Calls Tryd.prog 8 #[.pointer (some ⟨bb, 0, none⟩), .agg #[.int .i64 1, .int .i64 A, .int .i64 B, .int .i64 C, .int .i64 E, .string s]] wr fun e w' => e = .returned (.bool true) ∧ PsR W xb rb zb bb Z Bk vs ss ve ls (bs.length + 1) (es.length + 1) w' := by
  obtain ⟨oo, hoo⟩ : ∃ oo : Obj, oo = .cells #[.int .i64 1, .int .i64 A, .int .i64 B, .int .i64 C, .int .i64 E, .string s] 45 (0, 0) := ⟨_, rfl⟩
  have HP1 : Hid (PsI W xb rb zb bb Z Bk vs ss ve ls [(wr.heap.size, oo)] bs es bs es (wr.alloc oo)) := PsI.alloc (F := []) ⟨X, R, h, fun p hp => by cases hp⟩ oo
  have HSL := Vx.hid (fun wv => slotOf_ok A iA wv)
  have iS := slot_i64 iA
  generalize slotF A = at0 at HSL iS
  obtain ⟨a1, a2⟩ := at0
  dsimp only at HSL iS
  have HNA := Vx.hid (fun wv => near_any A iA 5 (by decide) wv)
  have HNB := Vx.hid (fun wv => near_any B iB 66 (by decide) wv)
  have iN := near_i64 iA 5 (by decide)
  have h77 := near77 A
  generalize nearF A 5 = na at HNA iN h77
  generalize nearF B 66 = nb at HNB
  clear h
  go_enter Tryd.func8, Tryd.ntmps8
  go_wp2_with fail
  rw [← hoo]
  obtain ⟨w1, hw1⟩ : ∃ w1, w1 = wr.alloc oo := ⟨_, rfl⟩
  rw [← hw1] at HP1 ⊢
  obtain ⟨ob, hob⟩ : ∃ ob, ob = wr.heap.size := ⟨_, rfl⟩
  rw [← hob] at HP1 ⊢
  clear hw1 hob
  have HCO : Hid (∀ F bx ex br er wv, PsI W xb rb zb bb Z Bk vs ss ve ls F bx ex br er wv → (ob, oo) ∈ F → wv.cell? ⟨ob, 0, none⟩ = some (.int .i64 1) ∧ wv.cell? ⟨ob, 1, none⟩ = some (.int .i64 A) ∧ wv.cell? ⟨ob, 2, none⟩ = some (.int .i64 B) ∧ wv.cell? ⟨ob, 3, none⟩ = some (.int .i64 C) ∧ wv.cell? ⟨ob, 5, none⟩ = some (.string s)) := fun F bx ex br er wv h hm => by
    have h1 := h.at hm
    rw [hoo] at h1
    exact ⟨(cell_of_row _ _ 0 _ _ (0, 0) h1).trans rfl, (cell_of_row _ _ 1 _ _ (0, 0) h1).trans rfl, (cell_of_row _ _ 2 _ _ (0, 0) h1).trans rfl, (cell_of_row _ _ 3 _ _ (0, 0) h1).trans rfl, (cell_of_row _ _ 5 _ _ (0, 0) h1).trans rfl⟩
  clear hoo
  obtain ⟨k0, k1, k2, k3, k5⟩ := HCO.out _ _ _ _ _ _ HP1.out (by simp)
  go_wp2_with fail
  refine (HSL.out _).mono ?_
  rintro e w2 ⟨rfl, ho2⟩
  have HP2 := Vx.hid (HP1.out.quiet ho2)
  clear k0 k1 k2 k3 k5 HP1 ho2 HSL
  go_upto_region 2 with fail
  obtain ⟨so, hso⟩ : ∃ so : Obj, so = .cells #[.int .i64 a1, .int .i64 a2] 62 (0, 0) := ⟨_, rfl⟩
  rw [← hso]
  have HP3 := Vx.hid (HP2.out.alloc so)
  obtain ⟨w3, hw3⟩ : ∃ w3, w3 = w2.alloc so := ⟨_, rfl⟩
  rw [← hw3] at HP3 ⊢
  obtain ⟨ab, hab⟩ : ∃ ab, ab = w2.heap.size := ⟨_, rfl⟩
  rw [← hab] at HP3 ⊢
  clear hw3 hab HP2
  have HCS : Hid (∀ F bx ex br er wv, PsI W xb rb zb bb Z Bk vs ss ve ls F bx ex br er wv → (ab, so) ∈ F → wv.cell? ⟨ab, 0, none⟩ = some (.int .i64 a1) ∧ wv.cell? ⟨ab, 1, none⟩ = some (.int .i64 a2)) := fun F bx ex br er wv h hm => by
    have h1 := h.at hm
    rw [hso] at h1
    exact (slot_cells h1).1
  clear hso
  obtain ⟨F, hF⟩ : ∃ F : List (Nat × Obj), F = [(ab, so), (ob, oo)] := ⟨_, rfl⟩
  have HMO : Hid ((ob, oo) ∈ F) := by show (ob, oo) ∈ F; rw [hF]; simp
  have HMA : Hid ((ab, so) ∈ F) := by show (ab, so) ∈ F; rw [hF]; simp
  rw [← hF] at HP3
  clear hF
  have HCE : Hid (∀ bx ex br er wv, PsI W xb rb zb bb Z Bk vs ss ve ls F bx ex br er wv → wv.cell? ⟨bb, 0, none⟩ = some (.pointer (some ⟨xb, 0, none⟩)) ∧ wv.cell? ⟨bb, 1, none⟩ = some (.pointer (some ⟨rb, 0, none⟩)) ∧ wv.cell? ⟨ob, 1, none⟩ = some (.int .i64 A) ∧ wv.cell? ⟨ob, 2, none⟩ = some (.int .i64 B) ∧ wv.cell? ⟨ob, 5, none⟩ = some (.string s) ∧ wv.cell? ⟨ab, 0, none⟩ = some (.int .i64 a1) ∧ wv.cell? ⟨ab, 1, none⟩ = some (.int .i64 a2)) := fun bx ex br er wv h => by
    obtain ⟨c0, c1, c2, c3, c5⟩ := HCO.out _ _ _ _ _ _ h HMO.out
    obtain ⟨d0, d1⟩ := HCS.out _ _ _ _ _ _ h HMA.out
    exact ⟨h.bx0.1, h.bx0.2, c1, c2, c5, d0, d1⟩
  have HXC : Hid (∀ wv, PsI W xb rb zb bb Z Bk vs ss ve ls F bs es bs es wv → Calls Tryd.prog 7 #[.pointer (some ⟨xb, 0, none⟩), .int .i64 na, .int .i64 nb] wv fun e w' => e = .returned (.int .i64 (makeE bs na nb)) ∧ Hid (PsI W xb rb zb bb Z Bk vs ss ve ls F (makeL bs na nb) es bs es w')) := fun wv h => h.xcall (fun U hx => xmake_ok hx na nb iN hlb)
  have HRC : Hid (∀ wv, PsI W xb rb zb bb Z Bk vs ss ve ls F (makeL bs na nb) es bs es wv → Calls Tryd.prog 25 #[.pointer (some ⟨rb, 0, none⟩), .int .i64 na, .int .i64 nb] wv fun e w' => e = .returned (.int .i64 (makeE bs na nb)) ∧ Hid (PsI W xb rb zb bb Z Bk vs ss ve ls F (makeL bs na nb) es (makeL bs na nb) es w')) := fun wv h => h.rcall (fun U hr => make_ok hr na nb hlb)
  have HLN := Vx.hid (make_len bs na nb)
  have HN2 := Vx.hid (hN.make h77 (n := nb))
  generalize makeE bs na nb = er at HXC HRC
  generalize makeL bs na nb = bs2 at HXC HRC HLN HN2
  obtain ⟨k0, _, _, _, _⟩ := HCO.out _ _ _ _ _ _ HP3.out HMO.out
  go_wp2_with fail
  clear k0
  have HI0 := Vx.hid (HP3.out.quiet ((Only.refl _ _).drew))
  have HS0 := Vx.hid (HCE.out _ _ _ _ _ HI0.out)
  go_region_held3 (fun wv => wv.cell? ⟨bb, 0, none⟩ = some (.pointer (some ⟨xb, 0, none⟩)) ∧ wv.cell? ⟨bb, 1, none⟩ = some (.pointer (some ⟨rb, 0, none⟩)) ∧ wv.cell? ⟨ob, 1, none⟩ = some (.int .i64 A) ∧ wv.cell? ⟨ob, 2, none⟩ = some (.int .i64 B) ∧ wv.cell? ⟨ob, 5, none⟩ = some (.string s) ∧ wv.cell? ⟨ab, 0, none⟩ = some (.int .i64 a1) ∧ wv.cell? ⟨ab, 1, none⟩ = some (.int .i64 a2)) (first | exact HS0.out | exact HS1.out) (first | (go_at_call_of 24 (Value.int IntKind.i64 A); refine (HNA.out _).mono ?_; rintro e w' ⟨rfl, h⟩; have h3 := h.symm; clear h; subst h3) | (go_at_call_of 24 (Value.int IntKind.i64 B); refine (HNB.out _).mono ?_; rintro e w' ⟨rfl, h⟩; have h3 := h.symm; clear h; subst h3) | (go_at_call 7; refine (HXC.out _ HI0.out).mono ?_; rintro e w4 ⟨rfl, HI1⟩; have HS1 := Vx.hid (HCE.out _ _ _ _ _ HI1.out)))
  go_wp2_with fail
  have HI2 := Vx.hid (HI1.out.quiet ((Only.refl _ _).drew))
  have HS2 := Vx.hid (HCE.out _ _ _ _ _ HI2.out)
  go_region_held3 (fun wv => wv.cell? ⟨bb, 0, none⟩ = some (.pointer (some ⟨xb, 0, none⟩)) ∧ wv.cell? ⟨bb, 1, none⟩ = some (.pointer (some ⟨rb, 0, none⟩)) ∧ wv.cell? ⟨ob, 1, none⟩ = some (.int .i64 A) ∧ wv.cell? ⟨ob, 2, none⟩ = some (.int .i64 B) ∧ wv.cell? ⟨ob, 5, none⟩ = some (.string s) ∧ wv.cell? ⟨ab, 0, none⟩ = some (.int .i64 a1) ∧ wv.cell? ⟨ab, 1, none⟩ = some (.int .i64 a2)) (first | exact HS2.out | exact HS3.out) (first | (go_at_call_of 24 (Value.int IntKind.i64 A); refine (HNA.out _).mono ?_; rintro e w' ⟨rfl, h⟩; have h3 := h.symm; clear h; subst h3) | (go_at_call_of 24 (Value.int IntKind.i64 B); refine (HNB.out _).mono ?_; rintro e w' ⟨rfl, h⟩; have h3 := h.symm; clear h; subst h3) | (go_at_call 25; refine (HRC.out _ HI2.out).mono ?_; rintro e w5 ⟨rfl, HI3⟩; have HS3 := Vx.hid (HCE.out _ _ _ _ _ HI3.out)))
  go_wp2_with fail
  all_goals
    go_ret
    exact ⟨by try rfl, HI3.out.fin HLN.out (by omega) HN2.out⟩
set_option maxRecDepth 100000 in
set_option maxHeartbeats 4000000 in
theorem puts_drop (h : CsR W xb rb zb bb X R Z Bk bs es bs es vs ss ve ls wr) (A B C E : Int) (iA : I64 A) (iB : I64 B) (iC : I64 C) (s : ByteArray) (hlb : bs.length < 1000000) (hle : es.length < 1000000) (hN : N77 bs) :
    Calls Tryd.prog 8 #[.pointer (some ⟨bb, 0, none⟩), .agg #[.int .i64 2, .int .i64 A, .int .i64 B, .int .i64 C, .int .i64 E, .string s]] wr fun e w' => e = .returned (.bool true) ∧ PsR W xb rb zb bb Z Bk vs ss ve ls (bs.length + 1) (es.length + 1) w' := by
  obtain ⟨oo, hoo⟩ : ∃ oo : Obj, oo = .cells #[.int .i64 2, .int .i64 A, .int .i64 B, .int .i64 C, .int .i64 E, .string s] 45 (0, 0) := ⟨_, rfl⟩
  have HP1 : Hid (PsI W xb rb zb bb Z Bk vs ss ve ls [(wr.heap.size, oo)] bs es bs es (wr.alloc oo)) := PsI.alloc (F := []) ⟨X, R, h, fun p hp => by cases hp⟩ oo
  have HSL := Vx.hid (fun wv => slotOf_ok A iA wv)
  have iS := slot_i64 iA
  generalize slotF A = at0 at HSL iS
  obtain ⟨a1, a2⟩ := at0
  dsimp only at HSL iS
  have HNA := Vx.hid (fun wv => near_any A iA 5 (by decide) wv)
  have iN := near_i64 iA 5 (by decide)
  have h77 := near77 A
  generalize nearF A 5 = na at HNA iN h77
  clear h
  go_enter Tryd.func8, Tryd.ntmps8
  go_wp2_with fail
  rw [← hoo]
  obtain ⟨w1, hw1⟩ : ∃ w1, w1 = wr.alloc oo := ⟨_, rfl⟩
  rw [← hw1] at HP1 ⊢
  obtain ⟨ob, hob⟩ : ∃ ob, ob = wr.heap.size := ⟨_, rfl⟩
  rw [← hob] at HP1 ⊢
  clear hw1 hob
  have HCO : Hid (∀ F bx ex br er wv, PsI W xb rb zb bb Z Bk vs ss ve ls F bx ex br er wv → (ob, oo) ∈ F → wv.cell? ⟨ob, 0, none⟩ = some (.int .i64 2) ∧ wv.cell? ⟨ob, 1, none⟩ = some (.int .i64 A) ∧ wv.cell? ⟨ob, 2, none⟩ = some (.int .i64 B) ∧ wv.cell? ⟨ob, 3, none⟩ = some (.int .i64 C) ∧ wv.cell? ⟨ob, 5, none⟩ = some (.string s)) := fun F bx ex br er wv h hm => by
    have h1 := h.at hm
    rw [hoo] at h1
    exact ⟨(cell_of_row _ _ 0 _ _ (0, 0) h1).trans rfl, (cell_of_row _ _ 1 _ _ (0, 0) h1).trans rfl, (cell_of_row _ _ 2 _ _ (0, 0) h1).trans rfl, (cell_of_row _ _ 3 _ _ (0, 0) h1).trans rfl, (cell_of_row _ _ 5 _ _ (0, 0) h1).trans rfl⟩
  clear hoo
  obtain ⟨k0, k1, k2, k3, k5⟩ := HCO.out _ _ _ _ _ _ HP1.out (by simp)
  go_wp2_with fail
  refine (HSL.out _).mono ?_
  rintro e w2 ⟨rfl, ho2⟩
  have HP2 := Vx.hid (HP1.out.quiet ho2)
  clear k0 k1 k2 k3 k5 HP1 ho2 HSL
  go_upto_region 2 with fail
  obtain ⟨so, hso⟩ : ∃ so : Obj, so = .cells #[.int .i64 a1, .int .i64 a2] 62 (0, 0) := ⟨_, rfl⟩
  rw [← hso]
  have HP3 := Vx.hid (HP2.out.alloc so)
  obtain ⟨w3, hw3⟩ : ∃ w3, w3 = w2.alloc so := ⟨_, rfl⟩
  rw [← hw3] at HP3 ⊢
  obtain ⟨ab, hab⟩ : ∃ ab, ab = w2.heap.size := ⟨_, rfl⟩
  rw [← hab] at HP3 ⊢
  clear hw3 hab HP2
  have HCS : Hid (∀ F bx ex br er wv, PsI W xb rb zb bb Z Bk vs ss ve ls F bx ex br er wv → (ab, so) ∈ F → wv.cell? ⟨ab, 0, none⟩ = some (.int .i64 a1) ∧ wv.cell? ⟨ab, 1, none⟩ = some (.int .i64 a2)) := fun F bx ex br er wv h hm => by
    have h1 := h.at hm
    rw [hso] at h1
    exact (slot_cells h1).1
  clear hso
  obtain ⟨F, hF⟩ : ∃ F : List (Nat × Obj), F = [(ab, so), (ob, oo)] := ⟨_, rfl⟩
  have HMO : Hid ((ob, oo) ∈ F) := by show (ob, oo) ∈ F; rw [hF]; simp
  have HMA : Hid ((ab, so) ∈ F) := by show (ab, so) ∈ F; rw [hF]; simp
  rw [← hF] at HP3
  clear hF
  have HCE : Hid (∀ bx ex br er wv, PsI W xb rb zb bb Z Bk vs ss ve ls F bx ex br er wv → wv.cell? ⟨bb, 0, none⟩ = some (.pointer (some ⟨xb, 0, none⟩)) ∧ wv.cell? ⟨bb, 1, none⟩ = some (.pointer (some ⟨rb, 0, none⟩)) ∧ wv.cell? ⟨ob, 1, none⟩ = some (.int .i64 A) ∧ wv.cell? ⟨ob, 2, none⟩ = some (.int .i64 B) ∧ wv.cell? ⟨ob, 5, none⟩ = some (.string s) ∧ wv.cell? ⟨ab, 0, none⟩ = some (.int .i64 a1) ∧ wv.cell? ⟨ab, 1, none⟩ = some (.int .i64 a2)) := fun bx ex br er wv h => by
    obtain ⟨c0, c1, c2, c3, c5⟩ := HCO.out _ _ _ _ _ _ h HMO.out
    obtain ⟨d0, d1⟩ := HCS.out _ _ _ _ _ _ h HMA.out
    exact ⟨h.bx0.1, h.bx0.2, c1, c2, c5, d0, d1⟩
  have HXC : Hid (∀ wv, PsI W xb rb zb bb Z Bk vs ss ve ls F bs es bs es wv → Calls Tryd.prog 26 #[.pointer (some ⟨xb, 0, none⟩), .int .i64 na] wv fun e w' => e = .returned (.int .i64 (dropE bs es na)) ∧ Hid (PsI W xb rb zb bb Z Bk vs ss ve ls F (dropL bs es na) es bs es w')) := fun wv h => h.xcall (fun U hx => xdrop_ok hx na iN)
  have HRC : Hid (∀ wv, PsI W xb rb zb bb Z Bk vs ss ve ls F (dropL bs es na) es bs es wv → Calls Tryd.prog 27 #[.pointer (some ⟨rb, 0, none⟩), .int .i64 na] wv fun e w' => e = .returned (.int .i64 (dropE bs es na)) ∧ Hid (PsI W xb rb zb bb Z Bk vs ss ve ls F (dropL bs es na) es (dropL bs es na) es w')) := fun wv h => h.rcall (fun U hr => drop_ok hr na)
  have HLN := Vx.hid (drop_len bs es na)
  have HN2 := Vx.hid (hN.drop es na)
  generalize dropE bs es na = er at HXC HRC
  generalize dropL bs es na = bs2 at HXC HRC HLN HN2
  obtain ⟨k0, _, _, _, _⟩ := HCO.out _ _ _ _ _ _ HP3.out HMO.out
  go_wp2_with fail
  clear k0
  have HI0 := Vx.hid (HP3.out.quiet ((Only.refl _ _).drew))
  have HS0 := Vx.hid (HCE.out _ _ _ _ _ HI0.out)
  go_region_held3 (fun wv => wv.cell? ⟨bb, 0, none⟩ = some (.pointer (some ⟨xb, 0, none⟩)) ∧ wv.cell? ⟨bb, 1, none⟩ = some (.pointer (some ⟨rb, 0, none⟩)) ∧ wv.cell? ⟨ob, 1, none⟩ = some (.int .i64 A) ∧ wv.cell? ⟨ob, 2, none⟩ = some (.int .i64 B) ∧ wv.cell? ⟨ob, 5, none⟩ = some (.string s) ∧ wv.cell? ⟨ab, 0, none⟩ = some (.int .i64 a1) ∧ wv.cell? ⟨ab, 1, none⟩ = some (.int .i64 a2)) (first | exact HS0.out | exact HS1.out) (first | (go_at_call_of 24 (Value.int IntKind.i64 A); refine (HNA.out _).mono ?_; rintro e w' ⟨rfl, h⟩; have h3 := h.symm; clear h; subst h3) | (go_at_call 26; refine (HXC.out _ HI0.out).mono ?_; rintro e w4 ⟨rfl, HI1⟩; have HS1 := Vx.hid (HCE.out _ _ _ _ _ HI1.out)))
  go_wp2_with fail
  have HI2 := Vx.hid (HI1.out.quiet ((Only.refl _ _).drew))
  have HS2 := Vx.hid (HCE.out _ _ _ _ _ HI2.out)
  go_region_held3 (fun wv => wv.cell? ⟨bb, 0, none⟩ = some (.pointer (some ⟨xb, 0, none⟩)) ∧ wv.cell? ⟨bb, 1, none⟩ = some (.pointer (some ⟨rb, 0, none⟩)) ∧ wv.cell? ⟨ob, 1, none⟩ = some (.int .i64 A) ∧ wv.cell? ⟨ob, 2, none⟩ = some (.int .i64 B) ∧ wv.cell? ⟨ob, 5, none⟩ = some (.string s) ∧ wv.cell? ⟨ab, 0, none⟩ = some (.int .i64 a1) ∧ wv.cell? ⟨ab, 1, none⟩ = some (.int .i64 a2)) (first | exact HS2.out | exact HS3.out) (first | (go_at_call_of 24 (Value.int IntKind.i64 A); refine (HNA.out _).mono ?_; rintro e w' ⟨rfl, h⟩; have h3 := h.symm; clear h; subst h3) | (go_at_call 27; refine (HRC.out _ HI2.out).mono ?_; rintro e w5 ⟨rfl, HI3⟩; have HS3 := Vx.hid (HCE.out _ _ _ _ _ HI3.out)))
  go_wp2_with fail
  all_goals
    go_ret
    exact ⟨by try rfl, HI3.out.fin HLN.out (by omega) HN2.out⟩
end Go.Proofs.YtbmchgjilkoplaaDoor

/- CapsScripts: puts: Move. -/
namespace Go.Proofs.YtbmchgjilkoplaaDoor
open Go.ChangeShapes Go.WideShapes Go.ChangeAt Go.RowKit
open Go.Vx
set_option linter.unusedVariables false
variable {W : World} {xb rb zb bb : Nat} {X R Z Bk : Nat → Prop} {bs : List (Int × Int)} {es : List En} {vs ve : Value} {ss ls : List Sh} {wr : World}

set_option maxRecDepth 100000 in
set_option maxHeartbeats 4000000 in
theorem puts_move (h : CsR W xb rb zb bb X R Z Bk bs es bs es vs ss ve ls wr) (A B C E : Int) (iA : I64 A) (iB : I64 B) (iC : I64 C) (s : ByteArray) (hlb : bs.length < 1000000) (hle : es.length < 1000000) (hN : N77 bs) :
    Calls Tryd.prog 8 #[.pointer (some ⟨bb, 0, none⟩), .agg #[.int .i64 9, .int .i64 A, .int .i64 B, .int .i64 C, .int .i64 E, .string s]] wr fun e w' => e = .returned (.bool true) ∧ PsR W xb rb zb bb Z Bk vs ss ve ls (bs.length + 1) (es.length + 1) w' := by
  obtain ⟨oo, hoo⟩ : ∃ oo : Obj, oo = .cells #[.int .i64 9, .int .i64 A, .int .i64 B, .int .i64 C, .int .i64 E, .string s] 45 (0, 0) := ⟨_, rfl⟩
  have HP1 : Hid (PsI W xb rb zb bb Z Bk vs ss ve ls [(wr.heap.size, oo)] bs es bs es (wr.alloc oo)) := PsI.alloc (F := []) ⟨X, R, h, fun p hp => by cases hp⟩ oo
  have HSL := Vx.hid (fun wv => slotOf_ok A iA wv)
  have iS := slot_i64 iA
  generalize slotF A = at0 at HSL iS
  obtain ⟨a1, a2⟩ := at0
  dsimp only at HSL iS
  have HSB := Vx.hid (fun wv => slotOf_ok B iB wv)
  have iT := slot_i64 iB
  generalize slotF B = to0 at HSB iT
  obtain ⟨b1, b2⟩ := to0
  dsimp only at HSB iT
  clear h
  go_enter Tryd.func8, Tryd.ntmps8
  go_wp2_with fail
  rw [← hoo]
  obtain ⟨w1, hw1⟩ : ∃ w1, w1 = wr.alloc oo := ⟨_, rfl⟩
  rw [← hw1] at HP1 ⊢
  obtain ⟨ob, hob⟩ : ∃ ob, ob = wr.heap.size := ⟨_, rfl⟩
  rw [← hob] at HP1 ⊢
  clear hw1 hob
  have HCO : Hid (∀ F bx ex br er wv, PsI W xb rb zb bb Z Bk vs ss ve ls F bx ex br er wv → (ob, oo) ∈ F → wv.cell? ⟨ob, 0, none⟩ = some (.int .i64 9) ∧ wv.cell? ⟨ob, 1, none⟩ = some (.int .i64 A) ∧ wv.cell? ⟨ob, 2, none⟩ = some (.int .i64 B) ∧ wv.cell? ⟨ob, 3, none⟩ = some (.int .i64 C) ∧ wv.cell? ⟨ob, 5, none⟩ = some (.string s)) := fun F bx ex br er wv h hm => by
    have h1 := h.at hm
    rw [hoo] at h1
    exact ⟨(cell_of_row _ _ 0 _ _ (0, 0) h1).trans rfl, (cell_of_row _ _ 1 _ _ (0, 0) h1).trans rfl, (cell_of_row _ _ 2 _ _ (0, 0) h1).trans rfl, (cell_of_row _ _ 3 _ _ (0, 0) h1).trans rfl, (cell_of_row _ _ 5 _ _ (0, 0) h1).trans rfl⟩
  clear hoo
  obtain ⟨k0, k1, k2, k3, k5⟩ := HCO.out _ _ _ _ _ _ HP1.out (by simp)
  go_wp2_with fail
  refine (HSL.out _).mono ?_
  rintro e w2 ⟨rfl, ho2⟩
  have HP2 := Vx.hid (HP1.out.quiet ho2)
  clear k0 k1 k2 k3 k5 HP1 ho2 HSL
  go_upto_region 2 with fail
  obtain ⟨so, hso⟩ : ∃ so : Obj, so = .cells #[.int .i64 a1, .int .i64 a2] 62 (0, 0) := ⟨_, rfl⟩
  rw [← hso]
  have HP3 := Vx.hid (HP2.out.alloc so)
  obtain ⟨w3, hw3⟩ : ∃ w3, w3 = w2.alloc so := ⟨_, rfl⟩
  rw [← hw3] at HP3 ⊢
  obtain ⟨ab, hab⟩ : ∃ ab, ab = w2.heap.size := ⟨_, rfl⟩
  rw [← hab] at HP3 ⊢
  clear hw3 hab HP2
  have HCS : Hid (∀ F bx ex br er wv, PsI W xb rb zb bb Z Bk vs ss ve ls F bx ex br er wv → (ab, so) ∈ F → wv.cell? ⟨ab, 0, none⟩ = some (.int .i64 a1) ∧ wv.cell? ⟨ab, 1, none⟩ = some (.int .i64 a2)) := fun F bx ex br er wv h hm => by
    have h1 := h.at hm
    rw [hso] at h1
    exact (slot_cells h1).1
  clear hso
  obtain ⟨F, hF⟩ : ∃ F : List (Nat × Obj), F = [(ab, so), (ob, oo)] := ⟨_, rfl⟩
  have HMO : Hid ((ob, oo) ∈ F) := by show (ob, oo) ∈ F; rw [hF]; simp
  have HMA : Hid ((ab, so) ∈ F) := by show (ab, so) ∈ F; rw [hF]; simp
  rw [← hF] at HP3
  clear hF
  have HCE : Hid (∀ bx ex br er wv, PsI W xb rb zb bb Z Bk vs ss ve ls F bx ex br er wv → wv.cell? ⟨bb, 0, none⟩ = some (.pointer (some ⟨xb, 0, none⟩)) ∧ wv.cell? ⟨bb, 1, none⟩ = some (.pointer (some ⟨rb, 0, none⟩)) ∧ wv.cell? ⟨ob, 1, none⟩ = some (.int .i64 A) ∧ wv.cell? ⟨ob, 2, none⟩ = some (.int .i64 B) ∧ wv.cell? ⟨ob, 5, none⟩ = some (.string s) ∧ wv.cell? ⟨ab, 0, none⟩ = some (.int .i64 a1) ∧ wv.cell? ⟨ab, 1, none⟩ = some (.int .i64 a2)) := fun bx ex br er wv h => by
    obtain ⟨c0, c1, c2, c3, c5⟩ := HCO.out _ _ _ _ _ _ h HMO.out
    obtain ⟨d0, d1⟩ := HCS.out _ _ _ _ _ _ h HMA.out
    exact ⟨h.bx0.1, h.bx0.2, c1, c2, c5, d0, d1⟩
  have HXC : Hid (∀ wv, PsI W xb rb zb bb Z Bk vs ss ve ls F bs es bs es wv → Calls Tryd.prog 35 #[.pointer (some ⟨xb, 0, none⟩), .agg #[.int .i64 a1, .int .i64 a2], .agg #[.int .i64 b1, .int .i64 b2]] wv fun e w' => e = .returned (.int .i64 (moveE bs es (a1, a2) (b1, b2))) ∧ Hid (PsI W xb rb zb bb Z Bk vs ss ve ls F bs (moveL bs es (a1, a2) (b1, b2)) bs es w')) := fun wv h => h.xcall (fun U hx => xmove_ok hx (a1, a2) (b1, b2) iS iT)
  have HRC : Hid (∀ wv, PsI W xb rb zb bb Z Bk vs ss ve ls F bs (moveL bs es (a1, a2) (b1, b2)) bs es wv → Calls Tryd.prog 36 #[.pointer (some ⟨rb, 0, none⟩), .agg #[.int .i64 a1, .int .i64 a2], .agg #[.int .i64 b1, .int .i64 b2]] wv fun e w' => e = .returned (.int .i64 (moveE bs es (a1, a2) (b1, b2))) ∧ Hid (PsI W xb rb zb bb Z Bk vs ss ve ls F bs (moveL bs es (a1, a2) (b1, b2)) bs (moveL bs es (a1, a2) (b1, b2)) w')) := fun wv h => h.rcall (fun U hr => move_ok hr (a1, a2) (b1, b2) hle)
  have HLN := Vx.hid (move_len (bs := bs) (es := es) (a1, a2) (b1, b2))
  generalize moveE bs es (a1, a2) (b1, b2) = er at HXC HRC
  generalize moveL bs es (a1, a2) (b1, b2) = es2 at HXC HRC HLN
  obtain ⟨k0, _, _, _, _⟩ := HCO.out _ _ _ _ _ _ HP3.out HMO.out
  go_wp2_with fail
  clear k0
  have HI0 := Vx.hid (HP3.out.quiet ((Only.refl _ _).drew))
  have HS0 := Vx.hid (HCE.out _ _ _ _ _ HI0.out)
  go_region_held3 (fun wv => wv.cell? ⟨bb, 0, none⟩ = some (.pointer (some ⟨xb, 0, none⟩)) ∧ wv.cell? ⟨bb, 1, none⟩ = some (.pointer (some ⟨rb, 0, none⟩)) ∧ wv.cell? ⟨ob, 1, none⟩ = some (.int .i64 A) ∧ wv.cell? ⟨ob, 2, none⟩ = some (.int .i64 B) ∧ wv.cell? ⟨ob, 5, none⟩ = some (.string s) ∧ wv.cell? ⟨ab, 0, none⟩ = some (.int .i64 a1) ∧ wv.cell? ⟨ab, 1, none⟩ = some (.int .i64 a2)) (first | exact HS0.out | exact HS1.out | exact HS6.out) (first | (go_at_call 23; refine (HSB.out _).mono ?_; rintro e wq ⟨rfl, hq⟩; have HI6 := Vx.hid (HI0.out.quiet hq); have HS6 := Vx.hid (HCE.out _ _ _ _ _ HI6.out)) | (go_at_call 35; refine (HXC.out _ HI6.out).mono ?_; rintro e w4 ⟨rfl, HI1⟩; have HS1 := Vx.hid (HCE.out _ _ _ _ _ HI1.out)))
  go_wp2_with fail
  have HI2 := Vx.hid (HI1.out.quiet ((Only.refl _ _).drew))
  have HS2 := Vx.hid (HCE.out _ _ _ _ _ HI2.out)
  go_region_held3 (fun wv => wv.cell? ⟨bb, 0, none⟩ = some (.pointer (some ⟨xb, 0, none⟩)) ∧ wv.cell? ⟨bb, 1, none⟩ = some (.pointer (some ⟨rb, 0, none⟩)) ∧ wv.cell? ⟨ob, 1, none⟩ = some (.int .i64 A) ∧ wv.cell? ⟨ob, 2, none⟩ = some (.int .i64 B) ∧ wv.cell? ⟨ob, 5, none⟩ = some (.string s) ∧ wv.cell? ⟨ab, 0, none⟩ = some (.int .i64 a1) ∧ wv.cell? ⟨ab, 1, none⟩ = some (.int .i64 a2)) (first | exact HS2.out | exact HS3.out | exact HS7.out) (first | (go_at_call 23; refine (HSB.out _).mono ?_; rintro e wq ⟨rfl, hq⟩; have HI7 := Vx.hid (HI2.out.quiet hq); have HS7 := Vx.hid (HCE.out _ _ _ _ _ HI7.out)) | (go_at_call 36; refine (HRC.out _ HI7.out).mono ?_; rintro e w5 ⟨rfl, HI3⟩; have HS3 := Vx.hid (HCE.out _ _ _ _ _ HI3.out)))
  go_wp2_with fail
  all_goals
    go_ret
    exact ⟨by try rfl, HI3.out.fin (by omega) (by have := HLN.out; omega) hN⟩
end Go.Proofs.YtbmchgjilkoplaaDoor

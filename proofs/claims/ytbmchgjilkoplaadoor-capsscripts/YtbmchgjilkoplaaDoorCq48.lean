import Derived.Test.YtbmchgjilkoplaaDoorCq47
import Derived.Deep.RegionHeld3
/- CapsScripts: puts: entries; the other kinds. -/
namespace Go.Proofs.YtbmchgjilkoplaaDoor
open Go.ChangeShapes Go.WideShapes Go.ChangeAt Go.RowKit
open Go.Vx
set_option linter.unusedVariables false
variable {W : World} {xb rb zb bb : Nat} {X R Z Bk : Nat → Prop} {bs : List (Int × Int)} {es : List En} {vs ve : Value} {ss ls : List Sh} {wr : World}

/-- All that is there. -/
theorem entries_ok {F : List (Nat × Obj)} {w3 : World} (h : PsI W xb rb zb bb Z Bk vs ss ve ls F bs es bs es w3) (hle : es.length ≤ 1000000) (hls : ls.length ≤ 1000000) :
    Calls Tryd.prog 10 #[.pointer (some ⟨bb, 0, none⟩)] w3 fun e w' => e = .returned (.bool true) ∧ TsR W xb rb zb bb Z bs es bs es (ss.length + 2) (ls.length + 2) w' := by
  have HP := Vx.hid h
  obtain ⟨x0, x1⟩ := h.bx0
  obtain ⟨X, R, hC, _⟩ := h
  have HEN := Vx.hid (xentries_ok hC.x)
  have HC := Vx.hid hC
  clear hC
  go_enter Tryd.func10, Tryd.ntmps10
  go_wp2_with fail
  refine HEN.out.mono ?_
  rintro e w4 ⟨lv, rfl, hlv, ho4⟩
  have HLV := Vx.hid hlv
  have HO4 := Vx.hid ho4
  obtain ⟨vb, vr, hr⟩ := (HC.out.quiet ho4).r
  have y0 := hr.c1
  have HSS := Vx.hid (sameEntries_ok (own_lie hlv (by omega)) (own_lie hr.e (by omega)))
  obtain ⟨x2, x3⟩ := (HP.out.quiet ho4).bx0
  clear hlv ho4 hr x0 x1 HEN
  go_wp2_with fail
  refine HSS.out.mono ?_
  rintro e w6 ⟨rfl, ho6⟩
  have HOW := Vx.hid (HP.out.ownE (HO4.out.trans ho6) (HLV.out.kept ho6 (fun _ _ h => h)) (by omega) hls)
  obtain ⟨x4, x5⟩ := ((HP.out.quiet HO4.out).quiet ho6).bx0
  clear ho6 HSS x2 x3 y0
  go_wp2_with fail
  refine HOW.out.mono ?_
  rintro e w7 ⟨rfl, hT⟩
  have HT := Vx.hid hT
  clear hT x4 x5
  go_wp2_with fail
  all_goals
    go_ret
    exact ⟨by try rfl, HT.out⟩
set_option maxRecDepth 100000 in
set_option maxHeartbeats 4000000 in
theorem tells_entries (h : CsR W xb rb zb bb X R Z Bk bs es bs es vs ss ve ls wr) (A B C E : Int) (iA : I64 A) (iB : I64 B) (iC : I64 C) (s : ByteArray) (hlb : bs.length < 1000000) (hle : es.length < 1000000) (hN : N77 bs) (hls : ls.length ≤ 1000000) :
    Calls Tryd.prog 9 #[.pointer (some ⟨bb, 0, none⟩), .agg #[.int .i64 12, .int .i64 A, .int .i64 B, .int .i64 C, .int .i64 E, .string s]] wr fun e w' => e = .returned (.bool true) ∧ TsR W xb rb zb bb Z bs es bs es (ss.length + 2) (ls.length + 2) w' := by
  obtain ⟨oo, hoo⟩ : ∃ oo : Obj, oo = .cells #[.int .i64 12, .int .i64 A, .int .i64 B, .int .i64 C, .int .i64 E, .string s] 45 (0, 0) := ⟨_, rfl⟩
  have HP1 : Hid (PsI W xb rb zb bb Z Bk vs ss ve ls [(wr.heap.size, oo)] bs es bs es (wr.alloc oo)) := PsI.alloc (F := []) ⟨X, R, h, fun p hp => by cases hp⟩ oo
  have HSL := Vx.hid (fun wv => slotOf_ok A iA wv)
  have iS := slot_i64 iA
  generalize slotF A = at0 at HSL iS
  obtain ⟨a1, a2⟩ := at0
  dsimp only at HSL iS
  clear h
  go_enter Tryd.func9, Tryd.ntmps9
  go_wp2_with fail
  rw [← hoo]
  obtain ⟨w1, hw1⟩ : ∃ w1, w1 = wr.alloc oo := ⟨_, rfl⟩
  rw [← hw1] at HP1 ⊢
  obtain ⟨ob, hob⟩ : ∃ ob, ob = wr.heap.size := ⟨_, rfl⟩
  rw [← hob] at HP1 ⊢
  clear hw1 hob
  have HCO : Hid (∀ F bx ex br er wv, PsI W xb rb zb bb Z Bk vs ss ve ls F bx ex br er wv → (ob, oo) ∈ F → wv.cell? ⟨ob, 0, none⟩ = some (.int .i64 12) ∧ wv.cell? ⟨ob, 1, none⟩ = some (.int .i64 A) ∧ wv.cell? ⟨ob, 2, none⟩ = some (.int .i64 B) ∧ wv.cell? ⟨ob, 3, none⟩ = some (.int .i64 C) ∧ wv.cell? ⟨ob, 5, none⟩ = some (.string s)) := fun F bx ex br er wv h hm => by
    have h1 := h.at hm
    rw [hoo] at h1
    exact ⟨(cell_of_row _ _ 0 _ _ (0, 0) h1).trans rfl, (cell_of_row _ _ 1 _ _ (0, 0) h1).trans rfl, (cell_of_row _ _ 2 _ _ (0, 0) h1).trans rfl, (cell_of_row _ _ 3 _ _ (0, 0) h1).trans rfl, (cell_of_row _ _ 5 _ _ (0, 0) h1).trans rfl⟩
  clear hoo
  obtain ⟨k0, k1, k2, k3, k5⟩ := HCO.out _ _ _ _ _ _ HP1.out (by simp)
  go_wp2_with fail
  refine (HSL.out _).mono ?_
  rintro e w2 ⟨rfl, ho2⟩
  have HP2 := Vx.hid (HP1.out.quiet ho2)
  clear k0 k1 k2 k3 k5 HP1 ho2 HSL
  go_upto_region 2 with fail
  obtain ⟨so, hso⟩ : ∃ so : Obj, so = .cells #[.int .i64 a1, .int .i64 a2] 62 (0, 0) := ⟨_, rfl⟩
  rw [← hso]
  have HP3 := Vx.hid (HP2.out.alloc so)
  obtain ⟨w3, hw3⟩ : ∃ w3, w3 = w2.alloc so := ⟨_, rfl⟩
  rw [← hw3] at HP3 ⊢
  obtain ⟨ab, hab⟩ : ∃ ab, ab = w2.heap.size := ⟨_, rfl⟩
  rw [← hab] at HP3 ⊢
  clear hw3 hab HP2
  have HCS : Hid (∀ F bx ex br er wv, PsI W xb rb zb bb Z Bk vs ss ve ls F bx ex br er wv → (ab, so) ∈ F → wv.cell? ⟨ab, 0, none⟩ = some (.int .i64 a1) ∧ wv.cell? ⟨ab, 1, none⟩ = some (.int .i64 a2)) := fun F bx ex br er wv h hm => by
    have h1 := h.at hm
    rw [hso] at h1
    exact (slot_cells h1).1
  clear hso
  have HEN := Vx.hid (entries_ok HP3.out (by omega) hls)
  obtain ⟨k0, _, _, _, _⟩ := HCO.out _ _ _ _ _ _ HP3.out (by simp)
  go_wp2_with fail
  refine HEN.out.mono ?_
  rintro e w4 ⟨rfl, hT⟩
  have HT := Vx.hid hT
  clear hT k0
  go_wp2_with fail
  all_goals
    go_ret
    exact ⟨by try rfl, HT.out⟩
set_option maxRecDepth 100000 in
set_option maxHeartbeats 4000000 in
theorem puts_other {K : Int} (h : CsR W xb rb zb bb X R Z Bk bs es bs es vs ss ve ls wr) (A B C E : Int) (iA : I64 A) (iB : I64 B) (iC : I64 C) (s : ByteArray) (hlb : bs.length < 1000000) (hle : es.length < 1000000) (hN : N77 bs) (n1 : K ≠ 1) (n2 : K ≠ 2) (n4 : K ≠ 4) (n6 : K ≠ 6) (n8 : K ≠ 8) (n9 : K ≠ 9) :
    Calls Tryd.prog 8 #[.pointer (some ⟨bb, 0, none⟩), .agg #[.int .i64 K, .int .i64 A, .int .i64 B, .int .i64 C, .int .i64 E, .string s]] wr fun e w' => e = .returned (.bool true) ∧ PsR W xb rb zb bb Z Bk vs ss ve ls bs.length es.length w' := by
  obtain ⟨oo, hoo⟩ : ∃ oo : Obj, oo = .cells #[.int .i64 K, .int .i64 A, .int .i64 B, .int .i64 C, .int .i64 E, .string s] 45 (0, 0) := ⟨_, rfl⟩
  have HP1 : Hid (PsI W xb rb zb bb Z Bk vs ss ve ls [(wr.heap.size, oo)] bs es bs es (wr.alloc oo)) := PsI.alloc (F := []) ⟨X, R, h, fun p hp => by cases hp⟩ oo
  have HSL := Vx.hid (fun wv => slotOf_ok A iA wv)
  have iS := slot_i64 iA
  generalize slotF A = at0 at HSL iS
  obtain ⟨a1, a2⟩ := at0
  dsimp only at HSL iS
  clear h
  go_enter Tryd.func8, Tryd.ntmps8
  go_wp2_with fail
  rw [← hoo]
  obtain ⟨w1, hw1⟩ : ∃ w1, w1 = wr.alloc oo := ⟨_, rfl⟩
  rw [← hw1] at HP1 ⊢
  obtain ⟨ob, hob⟩ : ∃ ob, ob = wr.heap.size := ⟨_, rfl⟩
  rw [← hob] at HP1 ⊢
  clear hw1 hob
  have HCO : Hid (∀ F bx ex br er wv, PsI W xb rb zb bb Z Bk vs ss ve ls F bx ex br er wv → (ob, oo) ∈ F → wv.cell? ⟨ob, 0, none⟩ = some (.int .i64 K) ∧ wv.cell? ⟨ob, 1, none⟩ = some (.int .i64 A) ∧ wv.cell? ⟨ob, 2, none⟩ = some (.int .i64 B) ∧ wv.cell? ⟨ob, 3, none⟩ = some (.int .i64 C) ∧ wv.cell? ⟨ob, 5, none⟩ = some (.string s)) := fun F bx ex br er wv h hm => by
    have h1 := h.at hm
    rw [hoo] at h1
    exact ⟨(cell_of_row _ _ 0 _ _ (0, 0) h1).trans rfl, (cell_of_row _ _ 1 _ _ (0, 0) h1).trans rfl, (cell_of_row _ _ 2 _ _ (0, 0) h1).trans rfl, (cell_of_row _ _ 3 _ _ (0, 0) h1).trans rfl, (cell_of_row _ _ 5 _ _ (0, 0) h1).trans rfl⟩
  clear hoo
  obtain ⟨k0, k1, k2, k3, k5⟩ := HCO.out _ _ _ _ _ _ HP1.out (by simp)
  go_wp2_with fail
  refine (HSL.out _).mono ?_
  rintro e w2 ⟨rfl, ho2⟩
  have HP2 := Vx.hid (HP1.out.quiet ho2)
  clear k0 k1 k2 k3 k5 HP1 ho2 HSL
  go_upto_region 2 with fail
  obtain ⟨so, hso⟩ : ∃ so : Obj, so = .cells #[.int .i64 a1, .int .i64 a2] 62 (0, 0) := ⟨_, rfl⟩
  rw [← hso]
  have HP3 := Vx.hid (HP2.out.alloc so)
  obtain ⟨w3, hw3⟩ : ∃ w3, w3 = w2.alloc so := ⟨_, rfl⟩
  rw [← hw3] at HP3 ⊢
  obtain ⟨ab, hab⟩ : ∃ ab, ab = w2.heap.size := ⟨_, rfl⟩
  rw [← hab] at HP3 ⊢
  clear hw3 hab HP2
  have HCS : Hid (∀ F bx ex br er wv, PsI W xb rb zb bb Z Bk vs ss ve ls F bx ex br er wv → (ab, so) ∈ F → wv.cell? ⟨ab, 0, none⟩ = some (.int .i64 a1) ∧ wv.cell? ⟨ab, 1, none⟩ = some (.int .i64 a2)) := fun F bx ex br er wv h hm => by
    have h1 := h.at hm
    rw [hso] at h1
    exact (slot_cells h1).1
  clear hso
  obtain ⟨k0, _, _, _, _⟩ := HCO.out _ _ _ _ _ _ HP3.out (by simp)
  have e1 : (K == 1) = false := beq_eq_false_iff_ne.2 n1
  have e2 : (K == 2) = false := beq_eq_false_iff_ne.2 n2
  have e4 : (K == 4) = false := beq_eq_false_iff_ne.2 n4
  have e6 : (K == 6) = false := beq_eq_false_iff_ne.2 n6
  have e8 : (K == 8) = false := beq_eq_false_iff_ne.2 n8
  have e9 : (K == 9) = false := beq_eq_false_iff_ne.2 n9
  go_wp2_with fail
  all_goals
    go_ret
    exact ⟨by try rfl, HP3.out.fin (Nat.le_refl _) (Nat.le_refl _) hN⟩
set_option maxRecDepth 100000 in
set_option maxHeartbeats 4000000 in
theorem tells_other {K : Int} (h : CsR W xb rb zb bb X R Z Bk bs es bs es vs ss ve ls wr) (A B C E : Int) (iA : I64 A) (iB : I64 B) (iC : I64 C) (s : ByteArray) (hlb : bs.length < 1000000) (hle : es.length < 1000000) (hN : N77 bs) (n3 : K ≠ 3) (n5 : K ≠ 5) (n7 : K ≠ 7) (n10 : K ≠ 10) (n11 : K ≠ 11) (n12 : K ≠ 12) (n13 : K ≠ 13) :
    Calls Tryd.prog 9 #[.pointer (some ⟨bb, 0, none⟩), .agg #[.int .i64 K, .int .i64 A, .int .i64 B, .int .i64 C, .int .i64 E, .string s]] wr fun e w' => e = .returned (.bool true) ∧ PsR W xb rb zb bb Z Bk vs ss ve ls bs.length es.length w' := by
  obtain ⟨oo, hoo⟩ : ∃ oo : Obj, oo = .cells #[.int .i64 K, .int .i64 A, .int .i64 B, .int .i64 C, .int .i64 E, .string s] 45 (0, 0) := ⟨_, rfl⟩
  have HP1 : Hid (PsI W xb rb zb bb Z Bk vs ss ve ls [(wr.heap.size, oo)] bs es bs es (wr.alloc oo)) := PsI.alloc (F := []) ⟨X, R, h, fun p hp => by cases hp⟩ oo
  have HSL := Vx.hid (fun wv => slotOf_ok A iA wv)
  have iS := slot_i64 iA
  generalize slotF A = at0 at HSL iS
  obtain ⟨a1, a2⟩ := at0
  dsimp only at HSL iS
  clear h
  go_enter Tryd.func9, Tryd.ntmps9
  go_wp2_with fail
  rw [← hoo]
  obtain ⟨w1, hw1⟩ : ∃ w1, w1 = wr.alloc oo := ⟨_, rfl⟩
  rw [← hw1] at HP1 ⊢
  obtain ⟨ob, hob⟩ : ∃ ob, ob = wr.heap.size := ⟨_, rfl⟩
  rw [← hob] at HP1 ⊢
  clear hw1 hob
  have HCO : Hid (∀ F bx ex br er wv, PsI W xb rb zb bb Z Bk vs ss ve ls F bx ex br er wv → (ob, oo) ∈ F → wv.cell? ⟨ob, 0, none⟩ = some (.int .i64 K) ∧ wv.cell? ⟨ob, 1, none⟩ = some (.int .i64 A) ∧ wv.cell? ⟨ob, 2, none⟩ = some (.int .i64 B) ∧ wv.cell? ⟨ob, 3, none⟩ = some (.int .i64 C) ∧ wv.cell? ⟨ob, 5, none⟩ = some (.string s)) := fun F bx ex br er wv h hm => by
    have h1 := h.at hm
    rw [hoo] at h1
    exact ⟨(cell_of_row _ _ 0 _ _ (0, 0) h1).trans rfl, (cell_of_row _ _ 1 _ _ (0, 0) h1).trans rfl, (cell_of_row _ _ 2 _ _ (0, 0) h1).trans rfl, (cell_of_row _ _ 3 _ _ (0, 0) h1).trans rfl, (cell_of_row _ _ 5 _ _ (0, 0) h1).trans rfl⟩
  clear hoo
  obtain ⟨k0, k1, k2, k3, k5⟩ := HCO.out _ _ _ _ _ _ HP1.out (by simp)
  go_wp2_with fail
  refine (HSL.out _).mono ?_
  rintro e w2 ⟨rfl, ho2⟩
  have HP2 := Vx.hid (HP1.out.quiet ho2)
  clear k0 k1 k2 k3 k5 HP1 ho2 HSL
  go_upto_region 2 with fail
  obtain ⟨so, hso⟩ : ∃ so : Obj, so = .cells #[.int .i64 a1, .int .i64 a2] 62 (0, 0) := ⟨_, rfl⟩
  rw [← hso]
  have HP3 := Vx.hid (HP2.out.alloc so)
  obtain ⟨w3, hw3⟩ : ∃ w3, w3 = w2.alloc so := ⟨_, rfl⟩
  rw [← hw3] at HP3 ⊢
  obtain ⟨ab, hab⟩ : ∃ ab, ab = w2.heap.size := ⟨_, rfl⟩
  rw [← hab] at HP3 ⊢
  clear hw3 hab HP2
  have HCS : Hid (∀ F bx ex br er wv, PsI W xb rb zb bb Z Bk vs ss ve ls F bx ex br er wv → (ab, so) ∈ F → wv.cell? ⟨ab, 0, none⟩ = some (.int .i64 a1) ∧ wv.cell? ⟨ab, 1, none⟩ = some (.int .i64 a2)) := fun F bx ex br er wv h hm => by
    have h1 := h.at hm
    rw [hso] at h1
    exact (slot_cells h1).1
  clear hso
  obtain ⟨k0, _, _, _, _⟩ := HCO.out _ _ _ _ _ _ HP3.out (by simp)
  have e3 : (K == 3) = false := beq_eq_false_iff_ne.2 n3
  have e5 : (K == 5) = false := beq_eq_false_iff_ne.2 n5
  have e7 : (K == 7) = false := beq_eq_false_iff_ne.2 n7
  have e10 : (K == 10) = false := beq_eq_false_iff_ne.2 n10
  have e11 : (K == 11) = false := beq_eq_false_iff_ne.2 n11
  have e12 : (K == 12) = false := beq_eq_false_iff_ne.2 n12
  have e13 : (K == 13) = false := beq_eq_false_iff_ne.2 n13
  go_wp2_with fail
  all_goals
    go_ret
    exact ⟨by try rfl, HP3.out.fin (Nat.le_refl _) (Nat.le_refl _) hN⟩
end Go.Proofs.YtbmchgjilkoplaaDoor

/- CapsScripts: puts: tells: Holders. -/
namespace Go.Proofs.YtbmchgjilkoplaaDoor
open Go.ChangeShapes Go.WideShapes Go.ChangeAt Go.RowKit
open Go.Vx
set_option linter.unusedVariables false
variable {W : World} {xb rb zb bb : Nat} {X R Z Bk : Nat → Prop} {bs : List (Int × Int)} {es : List En} {vs ve : Value} {ss ls : List Sh} {wr : World}

theorem field_obj (c0 c1 c2 c3 c4 c5 c6 c7 : Int) (wv : World) : (Instr.field 66 (.agg #[.int .i64 c0, .int .i64 c1, .int .i64 c2, .int .u32 c3, .int .u32 c4, .int .i64 c5, .int .i64 c6, .int .u32 c7]) 0).run Tryd.prog wv = .ok (.agg #[.int .i64 c0, .int .i64 c1]) wv := by kernel_rfl
set_option maxRecDepth 100000 in
set_option maxHeartbeats 4000000 in
theorem tells_holders (h : CsR W xb rb zb bb X R Z Bk bs es bs es vs ss ve ls wr) (A B C E : Int) (iA : I64 A) (iB : I64 B) (iC : I64 C) (s : ByteArray) (hlb : bs.length < 1000000) (hle : es.length < 1000000) (hN : N77 bs) (hss : ss.length ≤ 1000000) :
    Calls Tryd.prog 9 #[.pointer (some ⟨bb, 0, none⟩), .agg #[.int .i64 11, .int .i64 A, .int .i64 B, .int .i64 C, .int .i64 E, .string s]] wr fun e w' => e = .returned (.bool true) ∧ TsR W xb rb zb bb Z bs es bs es (ss.length + 2) (ls.length + 2) w' := by
  obtain ⟨oo, hoo⟩ : ∃ oo : Obj, oo = .cells #[.int .i64 11, .int .i64 A, .int .i64 B, .int .i64 C, .int .i64 E, .string s] 45 (0, 0) := ⟨_, rfl⟩
  have HP1 : Hid (PsI W xb rb zb bb Z Bk vs ss ve ls [(wr.heap.size, oo)] bs es bs es (wr.alloc oo)) := PsI.alloc (F := []) ⟨X, R, h, fun p hp => by cases hp⟩ oo
  have HSL := Vx.hid (fun wv => slotOf_ok A iA wv)
  have iS := slot_i64 iA
  generalize slotF A = at0 at HSL iS
  obtain ⟨a1, a2⟩ := at0
  dsimp only at HSL iS
  have HCF := Vx.hid (fun wv => capOf_ok A iA s wv)
  generalize capF A s = cp at HCF
  obtain ⟨c0, c1, c2, c3, c4, c5, c6, c7⟩ := cp
  simp only [cpV] at HCF
  clear h
  go_enter Tryd.func9, Tryd.ntmps9
  go_wp2_with fail
  rw [← hoo]
  obtain ⟨w1, hw1⟩ : ∃ w1, w1 = wr.alloc oo := ⟨_, rfl⟩
  rw [← hw1] at HP1 ⊢
  obtain ⟨ob, hob⟩ : ∃ ob, ob = wr.heap.size := ⟨_, rfl⟩
  rw [← hob] at HP1 ⊢
  clear hw1 hob
  have HCO : Hid (∀ F bx ex br er wv, PsI W xb rb zb bb Z Bk vs ss ve ls F bx ex br er wv → (ob, oo) ∈ F → wv.cell? ⟨ob, 0, none⟩ = some (.int .i64 11) ∧ wv.cell? ⟨ob, 1, none⟩ = some (.int .i64 A) ∧ wv.cell? ⟨ob, 2, none⟩ = some (.int .i64 B) ∧ wv.cell? ⟨ob, 3, none⟩ = some (.int .i64 C) ∧ wv.cell? ⟨ob, 5, none⟩ = some (.string s)) := fun F bx ex br er wv h hm => by
    have h1 := h.at hm
    rw [hoo] at h1
    exact ⟨(cell_of_row _ _ 0 _ _ (0, 0) h1).trans rfl, (cell_of_row _ _ 1 _ _ (0, 0) h1).trans rfl, (cell_of_row _ _ 2 _ _ (0, 0) h1).trans rfl, (cell_of_row _ _ 3 _ _ (0, 0) h1).trans rfl, (cell_of_row _ _ 5 _ _ (0, 0) h1).trans rfl⟩
  clear hoo
  obtain ⟨k0, k1, k2, k3, k5⟩ := HCO.out _ _ _ _ _ _ HP1.out (by simp)
  go_wp2_with fail
  refine (HSL.out _).mono ?_
  rintro e w2 ⟨rfl, ho2⟩
  have HP2 := Vx.hid (HP1.out.quiet ho2)
  clear k0 k1 k2 k3 k5 HP1 ho2 HSL
  go_upto_region 2 with fail
  obtain ⟨so, hso⟩ : ∃ so : Obj, so = .cells #[.int .i64 a1, .int .i64 a2] 62 (0, 0) := ⟨_, rfl⟩
  rw [← hso]
  have HP3 := Vx.hid (HP2.out.alloc so)
  obtain ⟨w3, hw3⟩ : ∃ w3, w3 = w2.alloc so := ⟨_, rfl⟩
  rw [← hw3] at HP3 ⊢
  obtain ⟨ab, hab⟩ : ∃ ab, ab = w2.heap.size := ⟨_, rfl⟩
  rw [← hab] at HP3 ⊢
  clear hw3 hab HP2
  have HCS : Hid (∀ F bx ex br er wv, PsI W xb rb zb bb Z Bk vs ss ve ls F bx ex br er wv → (ab, so) ∈ F → wv.cell? ⟨ab, 0, none⟩ = some (.int .i64 a1) ∧ wv.cell? ⟨ab, 1, none⟩ = some (.int .i64 a2)) := fun F bx ex br er wv h hm => by
    have h1 := h.at hm
    rw [hso] at h1
    exact (slot_cells h1).1
  clear hso
  obtain ⟨F, hF⟩ : ∃ F : List (Nat × Obj), F = [(ab, so), (ob, oo)] := ⟨_, rfl⟩
  have HMO : Hid ((ob, oo) ∈ F) := by show (ob, oo) ∈ F; rw [hF]; simp
  have HMA : Hid ((ab, so) ∈ F) := by show (ab, so) ∈ F; rw [hF]; simp
  rw [← hF] at HP3
  clear hF
  have HCE : Hid (∀ bx ex br er wv, PsI W xb rb zb bb Z Bk vs ss ve ls F bx ex br er wv → wv.cell? ⟨bb, 0, none⟩ = some (.pointer (some ⟨xb, 0, none⟩)) ∧ wv.cell? ⟨bb, 1, none⟩ = some (.pointer (some ⟨rb, 0, none⟩)) ∧ wv.cell? ⟨ob, 1, none⟩ = some (.int .i64 A) ∧ wv.cell? ⟨ob, 2, none⟩ = some (.int .i64 B) ∧ wv.cell? ⟨ob, 5, none⟩ = some (.string s) ∧ wv.cell? ⟨ab, 0, none⟩ = some (.int .i64 a1) ∧ wv.cell? ⟨ab, 1, none⟩ = some (.int .i64 a2)) := fun bx ex br er wv h => by
    obtain ⟨c0, c1, c2, c3, c5⟩ := HCO.out _ _ _ _ _ _ h HMO.out
    obtain ⟨d0, d1⟩ := HCS.out _ _ _ _ _ _ h HMA.out
    exact ⟨h.bx0.1, h.bx0.2, c1, c2, c5, d0, d1⟩
  have HXC : Hid (∀ wv, PsI W xb rb zb bb Z Bk vs ss ve ls F bs es bs es wv → Calls Tryd.prog 16 #[.pointer (some ⟨xb, 0, none⟩), .agg #[.int .i64 c0, .int .i64 c1]] wv fun e w' => ∃ v, e = .returned v ∧ OwnL slL w' wv.heap.size 62 v (holdF es (c0, c1)) ∧ Only (fun _ => False) wv w') := fun wv h => by
    obtain ⟨X, R, h, _⟩ := h
    exact xholders_ok h.x (c0, c1)
  have HRC : Hid (∀ wv, PsI W xb rb zb bb Z Bk vs ss ve ls F bs es bs es wv → Calls Tryd.prog 42 #[.pointer (some ⟨rb, 0, none⟩), .agg #[.int .i64 c0, .int .i64 c1]] wv fun e w' => ∃ v, e = .returned v ∧ OwnL slL w' wv.heap.size 62 v (holdF es (c0, c1)) ∧ Only (fun _ => False) wv w') := fun wv h => by
    obtain ⟨X, R, h, _⟩ := h
    obtain ⟨vb, ve, hr0⟩ := h.r
    exact holders_ok hr0 (c0, c1)
  have HLB : Hid ((holdF es (c0, c1)).length ≤ 1000000) := by
    have := holdF_len es (c0, c1)
    show _ ≤ _
    omega
  generalize holdF es (c0, c1) = xs at HXC HRC HLB
  have hfd := field_obj c0 c1 c2 c3 c4 c5 c6 c7
  obtain ⟨k0, _, _, _, _⟩ := HCO.out _ _ _ _ _ _ HP3.out HMO.out
  go_wp2_with fail
  clear k0
  have HI0 := Vx.hid (HP3.out.quiet ((Only.refl _ _).drew))
  have HS0 := Vx.hid (HCE.out _ _ _ _ _ HI0.out)
  have HS1 := HS0
  have HS6 := HS0
  have HI6 := HI0
  go_region_held3 (fun wv => wv.cell? ⟨bb, 0, none⟩ = some (.pointer (some ⟨xb, 0, none⟩)) ∧ wv.cell? ⟨bb, 1, none⟩ = some (.pointer (some ⟨rb, 0, none⟩)) ∧ wv.cell? ⟨ob, 1, none⟩ = some (.int .i64 A) ∧ wv.cell? ⟨ob, 2, none⟩ = some (.int .i64 B) ∧ wv.cell? ⟨ob, 5, none⟩ = some (.string s) ∧ wv.cell? ⟨ab, 0, none⟩ = some (.int .i64 a1) ∧ wv.cell? ⟨ab, 1, none⟩ = some (.int .i64 a2)) (first | with_reducible exact HS0.out | with_reducible exact HS6.out | with_reducible exact HS1.out) (first | (go_at_call 29; refine (HCF.out _).mono ?_; rintro e wq ⟨rfl, hq⟩; have HQX := Vx.hid hq; have HI6 := Vx.hid (HI0.out.quiet hq); have HS6 := Vx.hid (HCE.out _ _ _ _ _ HI6.out); clear hq) | (go_at_call 16; refine (HXC.out _ HI6.out).mono ?_; rintro e w4 ⟨lv, rfl, hlv, ho4⟩; have HI1 := Vx.hid (HI6.out.quiet ho4); have HLV := Vx.hid hlv; have HO4 := Vx.hid ho4; clear hlv ho4; have HS1 := Vx.hid (HCE.out _ _ _ _ _ HI1.out)))
  go_wp2_with fail
  have HI2 := Vx.hid (HI1.out.quiet ((Only.refl _ _).drew))
  have HS2 := Vx.hid (HCE.out _ _ _ _ _ HI2.out)
  have HS3 := HS2
  have HS7 := HS2
  have HI7 := HI2
  go_region_held3 (fun wv => wv.cell? ⟨bb, 0, none⟩ = some (.pointer (some ⟨xb, 0, none⟩)) ∧ wv.cell? ⟨bb, 1, none⟩ = some (.pointer (some ⟨rb, 0, none⟩)) ∧ wv.cell? ⟨ob, 1, none⟩ = some (.int .i64 A) ∧ wv.cell? ⟨ob, 2, none⟩ = some (.int .i64 B) ∧ wv.cell? ⟨ob, 5, none⟩ = some (.string s) ∧ wv.cell? ⟨ab, 0, none⟩ = some (.int .i64 a1) ∧ wv.cell? ⟨ab, 1, none⟩ = some (.int .i64 a2)) (first | with_reducible exact HS2.out | with_reducible exact HS7.out | with_reducible exact HS3.out) (first | (go_at_call 29; refine (HCF.out _).mono ?_; rintro e wp ⟨rfl, hq⟩; have HQR := Vx.hid hq; have HI7 := Vx.hid (HI2.out.quiet hq); have HS7 := Vx.hid (HCE.out _ _ _ _ _ HI7.out); clear hq) | (go_at_call 42; refine (HRC.out _ HI7.out).mono ?_; rintro e w5 ⟨kv, rfl, hkv, ho5⟩; have HI3 := Vx.hid (HI7.out.quiet ho5); have HKV := Vx.hid hkv; have HO5 := Vx.hid ho5; clear hkv ho5; have HS3 := Vx.hid (HCE.out _ _ _ _ _ HI3.out)))
  have HOQ : Hid (Only (fun _ => False) w4 w5) := (((Only.refl (fun _ => False) w4).drew).trans HQR.out).trans HO5.out
  have HLV5 : Hid (OwnL slL w5 wq.heap.size 62 lv xs) := HLV.out.kept HOQ.out (fun _ _ h => h)
  have HSS := Vx.hid (sameSlots_ok (own_lie HLV5.out (by have := HLB.out; omega)) (own_lie HKV.out (by have := HLB.out; omega)))
  have HPQ : Hid (PsI W xb rb zb bb Z Bk vs ss ve ls F bs es bs es wq) := HP3.out.quiet (((Only.refl (fun _ => False) w3).drew).trans HQX.out)
  have HOX : Hid (Only (fun _ => False) wq w5) := HO4.out.trans HOQ.out
  clear HS0 HS1 HS2 HS3 HS6 HS7 HXC HRC
  go_wp2_with fail
  refine HSS.out.mono ?_
  rintro e w6 ⟨rfl, ho6⟩
  have HOW := Vx.hid (HPQ.out.ownS (HOX.out.trans ho6) (HLV5.out.kept ho6 (fun _ _ h => h)) (by have := HLB.out; omega) hss)
  have HI8 := Vx.hid (HI3.out.quiet ho6)
  obtain ⟨x0, x1⟩ := HI8.out.bx0
  clear ho6 HSS
  go_wp2_with fail
  refine HOW.out.mono ?_
  rintro e w7 ⟨rfl, hT⟩
  have HT := Vx.hid hT
  clear hT x0 x1
  go_wp2_with fail
  all_goals
    go_ret
    exact ⟨by try rfl, HT.out⟩
end Go.Proofs.YtbmchgjilkoplaaDoor

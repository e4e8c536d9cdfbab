import Derived.Test.YtflmobffeeocdaaGreatDoorCh21
import Derived.Test.YtflmobffeeocdaaGreatDoorCh12
import Derived.Test.YtflmobffeeocdaaGreatDoorCh37
import Derived.Deep.QuietTactic
import Derived.BigQuiet
/- Chapter 6, pure: what a step leaves is a context again. -/
namespace Go.Vx
theorem sums_lt (op a b : Nat) (ha : a < 4294967296) (hb : b < 4294967296) : sumsF op a b < 4294967296 := by
  have h1 : a ^^^ b < 2 ^ 32 := Nat.xor_lt_two_pow (by omega) (by omega)
  have h2 : a ||| b < 2 ^ 32 := Nat.or_lt_two_pow (by omega) (by omega)
  have h3 : a &&& b < 2 ^ 32 := Nat.and_lt_two_pow _ (by omega)
  have h4 : a / 2 ^ (b % 32) ≤ a := Nat.div_le_self _ _
  unfold sumsF
  by_cases c1 : op = 28
  · rw [if_pos c1]; exact m32_lt _
  rw [if_neg c1]
  by_cases c2 : op = 29
  · rw [if_pos c2]; exact m32_lt _
  rw [if_neg c2]
  by_cases c3 : op = 30
  · rw [if_pos c3]; exact m32_lt _
  rw [if_neg c3]
  by_cases c4 : op = 31
  · rw [if_pos c4]; split <;> decide
  rw [if_neg c4]
  by_cases c5 : op = 32
  · rw [if_pos c5]; split <;> decide
  rw [if_neg c5]
  by_cases c6 : op = 33
  · rw [if_pos c6]; exact h1
  rw [if_neg c6]
  by_cases c7 : op = 34
  · rw [if_pos c7]; exact Nat.lt_of_le_of_lt h4 ha
  rw [if_neg c7]
  by_cases c8 : op = 35
  · rw [if_pos c8]; exact m32_lt _
  rw [if_neg c8]
  by_cases c9 : op = 36
  · rw [if_pos c9]; exact h2
  rw [if_neg c9]; exact h3
theorem prod_lt (op a b : Nat) (ha : a < 4294967296) : prodF op a b < 4294967296 := by
  have h4 : a / b ≤ a := Nat.div_le_self _ _
  have h5 : a % b ≤ a := Nat.mod_le _ _
  unfold prodF
  by_cases c1 : op = 41
  · rw [if_pos c1]; exact m32_lt _
  rw [if_neg c1]
  by_cases c2 : op = 42
  · rw [if_pos c2]; exact m32_lt _
  rw [if_neg c2]
  by_cases c3 : op = 43
  · rw [if_pos c3]; exact m32_lt _
  rw [if_neg c3]
  by_cases c4 : op = 44
  · rw [if_pos c4]; exact m32_lt _
  rw [if_neg c4]
  by_cases c5 : b = 0
  · rw [if_pos c5]; split
    · decide
    · exact ha
  rw [if_neg c5]
  by_cases c6 : op = 45
  · rw [if_pos c6]; exact m32_lt _
  rw [if_neg c6]
  by_cases c7 : op = 46
  · rw [if_pos c7]; exact Nat.lt_of_le_of_lt h4 ha
  rw [if_neg c7]
  by_cases c8 : op = 47
  · rw [if_pos c8]; exact m32_lt _
  rw [if_neg c8]; exact Nat.lt_of_le_of_lt h5 ha
theorem arith_lt (op a b : Nat) (ha : a < 4294967296) (hb : b < 4294967296) : arithF op a b < 4294967296 := by
  unfold arithF
  split
  · exact sums_lt _ a b ha hb
  · exact prod_lt _ a b ha
theorem val_lt (op a b : Nat) (im : Int) (pc : Nat) (ha : a < 4294967296) (hb : b < 4294967296) : valF op a b im pc < 4294967296 := by
  unfold valF
  by_cases c1 : op = 1
  · rw [if_pos c1]; exact m32_lt _
  rw [if_neg c1]
  by_cases c2 : op = 2
  · rw [if_pos c2]; exact m32_lt _
  rw [if_neg c2]
  by_cases c3 : op = 3 ∨ op = 4
  · rw [if_pos c3]; exact m32_lt _
  rw [if_neg c3]
  split
  · exact arith_lt _ _ _ ha (m32_lt _)
  · exact arith_lt _ _ _ ha hb
theorem to_lt (op a b : Nat) (im : Int) (pc : Nat) : toF op a b im pc < 4294967296 := by
  unfold toF
  by_cases c1 : op = 3
  · rw [if_pos c1]; exact m32_lt _
  rw [if_neg c1]
  by_cases c2 : op = 4
  · rw [if_pos c2]; exact Nat.lt_of_le_of_lt (Nat.sub_le _ _) (m32_lt _)
  rw [if_neg c2]
  split <;> exact m32_lt _
/-- Registers and a pc of 32 bits. -/
def RegOk (R : Nat → Nat) (pc : Nat) : Prop := (∀ i, i < 32 → R i < 4294967296) ∧ pc < 4294967296
theorem RegOk.set {R : Nat → Nat} {pc : Nat} (h : RegOk R pc) (rd v pc' : Nat) (hv : v < 4294967296) (hp : pc' < 4294967296) : RegOk (setR R rd v) pc' ∧ setR R rd v 0 = R 0 := by
  refine ⟨⟨fun i hi => ?_, hp⟩, ?_⟩
  · unfold setR
    by_cases h0 : rd = 0
    · rw [if_pos h0]; exact h.1 i hi
    · rw [if_neg h0]
      show (if i = rd then v else R i) < _
      split
      · exact hv
      · exact h.1 i hi
  · unfold setR
    by_cases h0 : rd = 0
    · rw [if_pos h0]
    · rw [if_neg h0]
      exact if_neg (fun e => h0 e.symm)
end Go.Vx
namespace Go.Proofs.YtflmobffeeocdaaGreatDoor
open Go.ChangeShapes Go.WideShapes Go.ChangeAt Go.RowKit
open Go.Vx

theorem ld_lt (op : Nat) (f : Nat → UInt8) (p : Nat) : ldF op (partF f p (bytesF op)) < 4294967296 := by
  have h0 := (f p).toNat_lt
  have h1 := (f (p + 1)).toNat_lt
  unfold ldF
  by_cases c1 : op = 11 ∧ 128 ≤ partF f p (bytesF op)
  · rw [if_pos c1]
    obtain ⟨rfl, _⟩ := c1
    show (f p).toNat + 4294967296 - 256 < 4294967296
    omega
  · rw [if_neg c1]
    by_cases c2 : op = 12 ∧ 32768 ≤ partF f p (bytesF op)
    · rw [if_pos c2]
      obtain ⟨rfl, _⟩ := c2
      show (f p).toNat + 256 * (f (p + 1)).toNat + 4294967296 - 65536 < 4294967296
      omega
    · rw [if_neg c2]; exact partF_lt _ _ _
theorem exe_ok {f : Nat → UInt8} {n : Nat} {root : Int} {R : Nat → Nat} {pc op rd a b : Nat} {im : Int} (h : RegOk R pc) (ha : a < 4294967296) (hb : b < 4294967296) {f' : Nat → UInt8} {R' : Nat → Nat} {pc' : Nat} (he : exeF f n root R pc op rd a b im = .ok (f', R', pc')) : RegOk R' pc' ∧ R' 0 = R 0 := by
  unfold exeF at he
  split at he
  · cases he
  · split at he
    · cases he
    · split at he
      · unfold loadG at he
        split at he
        · cases he
        · injection he with he
          injection he with e1 e2
          injection e2 with e2 e3
          subst e2 e3
          exact h.set rd _ _ (ld_lt _ _ _) (m32_lt _)
      · split at he
        · unfold storeG at he
          split at he
          · cases he
          · injection he with he
            injection he with e1 e2
            injection e2 with e2 e3
            subst e2 e3
            exact ⟨⟨h.1, m32_lt _⟩, rfl⟩
        · unfold plainG at he
          split at he
          · cases he
          · injection he with he
            injection he with e1 e2
            injection e2 with e2 e3
            subst e2 e3
            exact h.set _ _ _ (val_lt _ _ _ _ _ ha hb) (to_lt _ _ _ _ _)
theorem regF_lt {R : Nat → Nat} {pc : Nat} (h : RegOk R pc) (r : Nat) (hr : r < 32) : regF R r < 4294967296 := by
  unfold regF
  split
  · decide
  · exact h.1 r hr
theorem step_ok {f : Nat → UInt8} {n : Nat} {root : Int} {R : Nat → Nat} {pc : Nat} (h : RegOk R pc) {f' : Nat → UInt8} {R' : Nat → Nat} {pc' : Nat} (he : stepF f n root R pc = .ok (f', R', pc')) : RegOk R' pc' ∧ R' 0 = R 0 := by
  unfold stepF at he
  cases hp : placeF f n root pc 4 0 with
  | error e => rw [hp] at he; cases he
  | ok p =>
    rw [hp] at he
    by_cases hz : (dec (wordF f p : Nat)).op = 0
    · have : decG f n root R pc (.ok p) = .error (2, wordF f p) := if_pos hz
      rw [this] at he; cases he
    · obtain ⟨op, rd, r1, r2, im, hi⟩ := dec_is (wordF f p) (wordF_lt f p) hz
      rw [decG_ok hi] at he
      exact exe_ok h (regF_lt h r1 hi.hr1) (regF_lt h r2 hi.hr2) he
end Go.Proofs.YtflmobffeeocdaaGreatDoor

/- HartSteps: the store's contexts; begin; what stands between the steps (made by gen_d2.py). -/
namespace Go.Proofs.YtflmobffeeocdaaGreatDoor
open Go.ChangeShapes Go.WideShapes Go.ChangeAt Go.RowKit
open Go.Vx

/-- Both contexts of a store. -/
def HxAt (w : World) (sb : Nat) (R : Nat → Nat) (pc : Nat) : Prop := ∃ cs, CxAt w sb 2 44 cs R pc ∧ DxAt w sb 35 44 cs R pc
theorem HxAt.only {S : Nat → Prop} {w w' : World} {sb : Nat} {R : Nat → Nat} {pc : Nat} (h : HxAt w sb R pc) (ho : Only S w w') (hS : ¬ S sb) : HxAt w' sb R pc := by
  obtain ⟨cs, h1, h2⟩ := h
  exact ⟨cs, h1.only ho hS, h2.only ho hS⟩
theorem HxAt.set {w : World} {sb : Nat} {R : Nat → Nat} {pc : Nat} (h : HxAt w sb R pc) (j : Nat) (hj : j < 2) (v : Value) : HxAt (w.setCell ⟨sb, j, none⟩ v) sb R pc := by
  obtain ⟨cs, h1, h2⟩ := h
  have hb := heap_setCell_same _ _ j _ _ v h1.b
  refine ⟨cs.setIfInBounds j v, ⟨hb, fun i hi => ?_, ?_⟩, ⟨hb, fun i hi => ?_, ?_⟩⟩
  · rw [Array.getElem?_setIfInBounds, if_neg (by omega)]; exact h1.r i hi
  · rw [Array.getElem?_setIfInBounds, if_neg (by omega)]; exact h1.p
  · rw [Array.getElem?_setIfInBounds, if_neg (by omega)]; exact h2.r i hi
  · rw [Array.getElem?_setIfInBounds, if_neg (by omega)]; exact h2.p
theorem begin_okH {U : Nat → Prop} {w : World} {sb : Nat} (hsb : SbAt w sb) (hus : U sb) (hU : ∀ k, U k → k < w.heap.size) (n : Nat) (h1 : 1 ≤ n) (h2 : n ≤ 256) :
    Calls Tryz.prog 8 #[.pointer (some ⟨sb, 0, none⟩), .int .i64 (n : Int)] w fun e w' => e = .returned (.bool true) ∧ BgR U w sb n w' ∧ ∀ R pc, HxAt w sb R pc → HxAt w' sb R pc := by
  have HSB := Vx.hid hsb
  have HUS := Vx.hid hus
  have HU := Vx.hid hU
  have H1 := Vx.hid (new_ok n h1 h2 w)
  have H2 := Vx.hid (fun wv => newRef_ok n h1 h2 wv)
  clear hsb hus hU h1 h2
  go_enter Tryz.func8, Tryz.ntmps8
  go_wp2_with fail
  refine H1.out.mono ?_
  rintro e w1 ⟨bm, rfl, _, _, ho1, hm1⟩
  have HM1 := Vx.hid (hm1 U HU.out)
  have HO1 := Vx.hid ho1
  clear hm1 ho1
  go_wp2_with fail
  refine (H2.out w1).mono ?_
  rintro e w2 ⟨rfl, hr, o1, o2, hw2⟩
  have HR := Vx.hid hr
  have HW2 := Vx.hid hw2
  have HPG : Hid (Calls Tryz.prog 19 #[.pointer (some ⟨bm, 0, none⟩)] w2 fun e w' => e = .returned (.int .i64 (n : Int)) ∧ w' = w2) := by
    refine pages_any (HM1.out.only (S := fun _ => False) ?_ (fun _ h _ => h.elim))
    rw [hw2]; exact ((Only.refl _ w1).alloc o1).alloc o2
  have hsb2 : SbAt w2 sb := HSB.out.only (S := fun _ => False) (by rw [hw2]; exact (HO1.out.alloc o1).alloc o2) (fun h => h)
  obtain ⟨⟨v0, c0⟩, f0⟩ := hsb2.some 0 (by decide)
  obtain ⟨⟨v1, c1⟩, f1⟩ := (hsb2.set 0 (by decide) (.pointer (some ⟨bm, 0, none⟩))).some 1 (by decide)
  have HFIN : Hid (BgR U w sb n ((w2.setCell ⟨sb, 0, none⟩ (.pointer (some ⟨bm, 0, none⟩))).setCell ⟨sb, 1, none⟩ (.pointer (some ⟨w1.heap.size + 1, 0, none⟩)))) := by
    have h5 := HR.out
    rw [hw2] at h5
    have := begin_end HSB.out HUS.out HO1.out HM1.out h5
    rw [← hw2] at this
    exact this
  have HFX : Hid (∀ R pc, HxAt w sb R pc → HxAt ((w2.setCell ⟨sb, 0, none⟩ (.pointer (some ⟨bm, 0, none⟩))).setCell ⟨sb, 1, none⟩ (.pointer (some ⟨w1.heap.size + 1, 0, none⟩))) sb R pc) := fun R pc hx => by
    have h1 : HxAt w2 sb R pc := hx.only (S := fun _ => False) (by rw [hw2]; exact (HO1.out.alloc o1).alloc o2) (fun h => h)
    exact (h1.set 0 (by decide) _).set 1 (by decide) _
  clear hr hw2 HW2 HR hsb2 HM1 HO1 HU
  generalize w1.heap.size + 1 = br at *
  go_wp2_with fail
  refine HPG.out.mono ?_
  rintro e w' ⟨rfl, h⟩
  have h2 := h.symm; clear h; subst h2
  go_wp2_with fail
  all_goals
    go_ret
    exact ⟨by simp, HFIN.out, HFX.out⟩
/-- What stands between the steps of a script of chapter 6. -/
structure ScH (W : World) (sb bz bpz : Nat) (qz : Nat → Option Nat) (fz : Nat → UInt8) (wr : World) : Prop where
  r : ScR W sb bz bpz qz fz wr
  x : ∃ R pc, HxAt wr sb R pc ∧ RegOk R pc ∧ R 0 = 0
theorem ScH.quiet {W : World} {sb bz bpz : Nat} {qz : Nat → Option Nat} {fz : Nat → UInt8} {wr wx : World} (h : ScH W sb bz bpz qz fz wr) (ho : Only (fun _ => False) wr wx) : ScH W sb bz bpz qz fz wx := by
  obtain ⟨R, pc, h1, h2, h3⟩ := h.x
  exact ⟨h.r.quiet ho, R, pc, h1.only ho (fun h => h), h2, h3⟩
theorem ScH.begin {W : World} {sb bz bpz : Nat} {qz : Nat → Option Nat} {fz : Nat → UInt8} {wr : World} (h : ScH W sb bz bpz qz fz wr) (n : Int) :
    Calls Tryz.prog 8 #[.pointer (some ⟨sb, 0, none⟩), .int .i64 n] wr fun e w' => e = .returned (.bool true) ∧ ScH W sb bz bpz qz fz w' := by
  by_cases hn : n < 1 ∨ 256 < n
  · refine (begin_no n hn).mono ?_
    rintro e w' ⟨rfl, rfl⟩
    exact ⟨rfl, h⟩
  · obtain ⟨m, rfl⟩ : ∃ m : Nat, n = (m : Int) := ⟨n.toNat, by omega⟩
    refine (begin_okH (U := BaseU W sb bz bpz qz) h.r.sat (Or.inr (Or.inl rfl)) h.r.base m (by omega) (by omega)).mono ?_
    rintro e w' ⟨rfl, hb, hx⟩
    obtain ⟨R, pc, h1, h2, h3⟩ := h.x
    exact ⟨rfl, h.r.begun hb, R, pc, hx R pc h1, h2, h3⟩
theorem ScH.moves {W : World} {sb bz bpz : Nat} {qz : Nat → Option Nat} {fz : Nat → UInt8} {wr : World} (h : ScH W sb bz bpz qz fz wr) (K A B C D : Int) (hK : K ≤ 7) (hA : I64 A) (hB : I64 B) (s : List UInt8) (hs : s.length ≤ 9223372036854775807) :
    Calls Tryz.prog 12 #[.pointer (some ⟨sb, 0, none⟩), .agg (opv K A B C D ⟨s.toArray⟩)] wr fun e w' => e = .returned (.bool true) ∧ ScH W sb bz bpz qz fz w' := by
  obtain ⟨Uc, bm, br, bb, n, f, h1, h2, h3⟩ := h.r.ex
  refine (moves_any h1 K A B C D hK hA hB s hs).mono ?_
  rintro e w' ⟨rfl, hm⟩
  obtain ⟨R, pc, g1, g2, g3⟩ := h.x
  refine ⟨rfl, h.r.moved h2 h3 hm, R, pc, g1.only hm.2 (fun hs => ?_), g2, g3⟩
  rcases hs with hs | hs
  · exact hs (h2 sb (Or.inr (Or.inl rfl)))
  · exact h3 (by rw [← hs]; exact Or.inr (Or.inl rfl))
theorem ScH.reads {W : World} {sb bz bpz : Nat} {qz : Nat → Option Nat} {fz : Nat → UInt8} {wr : World} (h : ScH W sb bz bpz qz fz wr) :
    Calls Tryz.prog 15 #[.pointer (some ⟨sb, 68, none⟩)] wr fun e w' => e = .returned (.bool true) ∧ w' = wr := h.r.reads
theorem ScH.whole {W : World} {sb bz bpz : Nat} {qz : Nat → Option Nat} {fz : Nat → UInt8} {wr : World} (h : ScH W sb bz bpz qz fz wr) :
    Calls Tryz.prog 17 #[.pointer (some ⟨sb, 0, none⟩)] wr fun e w' => e = .returned (.bool true) ∧ ScH W sb bz bpz qz fz w' := by
  obtain ⟨Uc, bm, br, bb, n, f, h1, h2, h3⟩ := h.r.ex
  refine (whole_ok h1).mono ?_
  rintro e w' ⟨rfl, ho⟩
  exact ⟨rfl, h.quiet ho⟩
theorem ScH.start {W w1 w2 w3 : World} {sb bz bpz : Nat} {qz : Nat → Option Nat} {fz : Nat → UInt8} (hr : ScR W sb bz bpz qz fz w3) (hx : HxAt w1 sb (fun _ => 0) 0) (ho2 : Only (fun _ => False) w1 w2) (ho3 : Only (fun k => ¬ k < w1.heap.size) w2 w3) : ScH W sb bz bpz qz fz w3 := by
  have hl : sb < w1.heap.size := by obtain ⟨cs, h1, _⟩ := hx; exact lt_of_some h1.b
  exact ⟨hr, fun _ => 0, 0, (hx.only ho2 (fun h => h)).only ho3 (fun h => h hl), ⟨fun _ _ => by show 0 < 4294967296; decide, by decide⟩, rfl⟩
end Go.Proofs.YtflmobffeeocdaaGreatDoor

/- HartSteps: are the registers the document's? -/
namespace Go.Proofs.YtflmobffeeocdaaGreatDoor
open Go.ChangeShapes Go.WideShapes Go.ChangeAt Go.RowKit
open Go.Vx

set_option maxRecDepth 100000 in
set_option maxHeartbeats 2000000 in
theorem regs_ok {w : World} {sb : Nat} {R : Nat → Nat} {pc : Nat} (h : HxAt w sb R pc) (hr : RegOk R pc) :
    Calls Tryz.prog 55 #[.pointer (some ⟨sb, 0, none⟩)] w fun e w' => e = .returned (.bool true) ∧ Only (fun _ => False) w w' := by
  have HX : Hid (∀ wv, Only (fun _ => False) w wv → ∃ cs, CxAt wv sb 2 44 cs R pc ∧ DxAt wv sb 35 44 cs R pc) := fun wv hv => h.only hv (fun h => h)
  have HR := Vx.hid hr
  clear h hr
  go_enter Tryz.func55, Tryz.ntmps55
  go_wp2_with fail
  go_loopw [3] (fun d wr => ∃ k : Nat, d = .int .i64 (k : Int) ∧ k ≤ 32 ∧ Hid (Only (fun _ => False) w wr)) (fun d _ => 32 - (intOf d).toNat)
  case atStart => exact ⟨0, rfl, by omega, Only.refl _ w⟩
  case round =>
    obtain ⟨k, rfl, hk, HO⟩ := hrel
    obtain ⟨cs, hcx, hdx⟩ := HX.out wr HO.out
    by_cases hlt : k < 32
    · have hc := hcx.ctx.r k hlt
      have hd := hdx.cr k hlt
      have hb := HR.out.1 k hlt
      generalize R k = v at hc hd hb
      have h1 : (k : Int) < 32 := by omega
      have hi : 0 ≤ (k : Int) ∧ (k : Int) < 32 := by omega
      have hw : IntKind.i64.wrap (v : Int) = (v : Int) := by rw [IntKind.wrap_i64]; omega
      have hw9 : IntKind.i64.wrap ((k : Int) + 1) = (k : Int) + 1 := by rw [IntKind.wrap_i64]; omega
      have HKL := Vx.hid hlt
      have hbl : sb < wr.heap.size := lt_of_some hcx.b
      clear hcx hdx hb hlt hk
      go_wp2_with fail
      go_quiet (fail)
      go_wp2_with fail
      all_goals
        go_roundw
        case rel => exact ⟨k + 1, by go_num, HKL.out, HO.out.drewN _⟩
        case measure => simp only [intOf]; have := HKL.out; omega
    · have h1 : ¬ (k : Int) < 32 := by omega
      have hc := hcx.ctx.p
      have hd := hdx.cp
      have hb := HR.out.2
      have hw : IntKind.i64.wrap (pc : Int) = (pc : Int) := by rw [IntKind.wrap_i64]; omega
      have hbl : sb < wr.heap.size := lt_of_some hcx.b
      clear hcx hdx hb hlt hk
      go_wp2_with fail
      go_quiet (fail)
      go_wp2_with fail
      all_goals
        go_ret
        exact ⟨by simp, HO.out.drewN _⟩
end Go.Proofs.YtflmobffeeocdaaGreatDoor

/- Walks of the document's chapter 6: store (made by gen_f2.py). -/
namespace Go.Proofs.YtflmobffeeocdaaGreatDoor
open Go.ChangeShapes Go.WideShapes Go.ChangeAt Go.RowKit
open Go.Vx
set_option linter.unusedVariables false

set_option maxRecDepth 100000 in
set_option maxHeartbeats 4000000 in
theorem refStore_mis {w : World} {br bb n cb off pc : Nat} {T : TypeId} {cs : Array Value} {R : Nat → Nat} {f : Nat → UInt8} (h : RefAt w br bb n f) (hd : DxAt w cb off T cs R pc) (hne : cb ≠ br ∧ cb ≠ bb) (root : Int) (op rd : Nat) (r1 r2 im : Int) (ho : 16 ≤ op) (ho2 : op ≤ 18) (hrd : rd < 32) (va : Nat) (hva : va < 4294967296) (b : Nat) (ham : va % bytesF op ≠ 0) :
    Calls Tryz.prog 81 #[.pointer (some ⟨br, 0, none⟩), .int .i64 root, .pointer (some ⟨cb, off, none⟩), .agg #[.int .i64 (op : Int), .int .i64 (rd : Int), .int .i64 r1, .int .i64 r2, .int .i64 im], .int .i64 (va : Int), .int .i64 (b : Int)] w fun e w' => DocP w br bb n cb off T cs (storeG f R pc op b (placeF f n root va (bytesF op) 2)) e w' := by
  obtain ⟨w1, hw1⟩ : ∃ w1, w1 = (w.alloc (.cells #[.int .i64 (op : Int), .int .i64 (rd : Int), .int .i64 r1, .int .i64 r2, .int .i64 im] 129)).alloc (.cells (evC false 0 0) 93) := ⟨_, rfl⟩
  have hO1 : Only (fun _ => False) w w1 := by rw [hw1]; exact ((Only.refl _ w).alloc _).alloc _
  have hi1 : w1.heap[w.heap.size]? = some (.cells #[.int .i64 (op : Int), .int .i64 (rd : Int), .int .i64 r1, .int .i64 r2, .int .i64 im] 129 (0, 0)) := by
    rw [hw1, RowKit.Below.heap_alloc _ _ _ (by simp)]; exact heap_alloc_last w _
  have he1 : w1.heap[w.heap.size + 1]? = some (.cells (evC false 0 0) 93 (0, 0)) := by
    rw [hw1]
    have := heap_alloc_last (w.alloc (.cells #[.int .i64 (op : Int), .int .i64 (rd : Int), .int .i64 r1, .int .i64 r2, .int .i64 im] 129)) (.cells (evC false 0 0) 93)
    simpa using this
  have hcl : cb < w.heap.size := lt_of_some hd.b
  have HBY := Vx.hid (fun wv => refBytes_any op (by omega) ho2 wv)
  have hb := bytes_cases op
  have hbs := bytes_cases op
  have t1 : Int.tmod (va : Int) ((bytesF op : Nat) : Int) = ((va % bytesF op : Nat) : Int) := by rw [Int.tmod_eq_emod_of_nonneg (by omega)]; rfl
  have t2 : (va : Int) % ((bytesF op : Nat) : Int) = ((va % bytesF op : Nat) : Int) := rfl
  have z1 : ¬ ((bytesF op : Nat) : Int) = 0 := by omega
  have hr4 : va % bytesF op < 4 := by have := Nat.mod_lt va (show bytesF op > 0 by omega); omega
  have v1 : IntKind.i64.wrap ((va % bytesF op : Nat) : Int) = ((va % bytesF op : Nat) : Int) := by rw [IntKind.wrap_i64]; omega
  have HTR := Vx.hid (trapped_any 6 va hva w1)
  have HPF : Hid (placeF f n root va (bytesF op) 2 = .error (6, va)) := by
    show _ = _
    unfold placeF placeG
    rw [if_pos ham]
    rfl
  obtain ⟨r, hrr⟩ : ∃ r, va % bytesF op = r := ⟨_, rfl⟩
  rw [hrr] at t1 t2 hr4 v1 ham
  have b0 : ((r : Int) != 0) = true := by simp; omega
  have b1 : ¬ (r : Int) = 0 := by omega
  have HFIN : Hid (∀ w2 w3, Only (fun _ => False) w1 w2 → Only (fun k => k = w.heap.size + 1) w2 w3 → DocP w br bb n cb off T cs (storeG f R pc op b (placeF f n root va (bytesF op) 2)) (.returned (.agg (evC true 6 va))) w3) := fun w2 w3 h2 h3 => Or.inl ⟨6, va, by rw [HPF.out]; rfl, rfl, by
    have h4 := hO1.trans h2
    exact ⟨h3.os.trans h4.os, h3.tape.trans h4.tape, h3.output.trans h4.output, Nat.le_trans h4.size h3.size, fun k hk _ => by rw [h3.block k (Nat.lt_of_lt_of_le hk h4.size) (by omega), h4.block k hk (fun h => h)]⟩⟩
  have HE1 := Vx.hid he1
  generalize bytesF op = len at HBY hb t1 t2 z1 HFIN
  clear h hd hne ho ho2 hrd hva ham hrr hi1 he1 hcl hbs hr4 hO1 hb HPF
  subst hw1
  go_enter Tryz.func81, Tryz.ntmps81
  go_wp2_with fail
  refine (HBY.out _).mono ?_
  rintro e w' ⟨rfl, h⟩
  have h2 := h.symm; clear h; subst h2
  go_wp2_with fail
  refine HTR.out.mono ?_
  rintro e w2 ⟨rfl, h2⟩
  have hb2 : w2.heap[w.heap.size + 1]? = some (.cells (evC false 0 0) 93 (0, 0)) := by rw [h2.block _ (lt_of_some HE1.out) (fun h => h)]; exact HE1.out
  have hfin := fun w3 h3 => HFIN.out w2 w3 h2 h3
  clear h2 HE1 HFIN HTR HBY
  obtain ⟨s1, s2⟩ := ev_set (b := false) (c := 0) (t := 0) hb2 true 6 va
  have HFI := Vx.hid (hfin _ s2)
  have HK := Vx.hid (ev_read s1)
  obtain ⟨h0, h1, h2, hf, hl⟩ := ev_read hb2
  have f0 := hf 0
  have f1 := hf 1
  have f2 := hf 2
  clear hb2 hfin s1 s2 hf
  unfold evC at *
  go_wp2_with fail
  obtain ⟨k0, k1, k2, _, _⟩ := HK.out
  refine bodyPost_ret (v := .agg #[.bool true, .int .i64 6, .int .u32 (va : Nat)]) ?_ rfl HFI.out
  simp [results, Tryz.results81, go_sem, k0, k1, k2]
set_option maxRecDepth 100000 in
set_option maxHeartbeats 4000000 in
theorem refStore_fault {w : World} {br bb n cb off pc : Nat} {T : TypeId} {cs : Array Value} {R : Nat → Nat} {f : Nat → UInt8} (h : RefAt w br bb n f) (hd : DxAt w cb off T cs R pc) (hne : cb ≠ br ∧ cb ≠ bb) (root : Int) (op rd : Nat) (r1 r2 im : Int) (ho : 16 ≤ op) (ho2 : op ≤ 18) (hrd : rd < 32) (va : Nat) (hva : va < 4294967296) (b : Nat) (ham : va % bytesF op = 0) (hwc : (walkF f n root va 2).2 ≠ -1) :
    Calls Tryz.prog 81 #[.pointer (some ⟨br, 0, none⟩), .int .i64 root, .pointer (some ⟨cb, off, none⟩), .agg #[.int .i64 (op : Int), .int .i64 (rd : Int), .int .i64 r1, .int .i64 r2, .int .i64 im], .int .i64 (va : Int), .int .i64 (b : Int)] w fun e w' => DocP w br bb n cb off T cs (storeG f R pc op b (placeF f n root va (bytesF op) 2)) e w' := by
  obtain ⟨w1, hw1⟩ : ∃ w1, w1 = (w.alloc (.cells #[.int .i64 (op : Int), .int .i64 (rd : Int), .int .i64 r1, .int .i64 r2, .int .i64 im] 129)).alloc (.cells (evC false 0 0) 93) := ⟨_, rfl⟩
  have hO1 : Only (fun _ => False) w w1 := by rw [hw1]; exact ((Only.refl _ w).alloc _).alloc _
  have hi1 : w1.heap[w.heap.size]? = some (.cells #[.int .i64 (op : Int), .int .i64 (rd : Int), .int .i64 r1, .int .i64 r2, .int .i64 im] 129 (0, 0)) := by
    rw [hw1, RowKit.Below.heap_alloc _ _ _ (by simp)]; exact heap_alloc_last w _
  have he1 : w1.heap[w.heap.size + 1]? = some (.cells (evC false 0 0) 93 (0, 0)) := by
    rw [hw1]
    have := heap_alloc_last (w.alloc (.cells #[.int .i64 (op : Int), .int .i64 (rd : Int), .int .i64 r1, .int .i64 r2, .int .i64 im] 129)) (.cells (evC false 0 0) 93)
    simpa using this
  have hcl : cb < w.heap.size := lt_of_some hd.b
  have HBY := Vx.hid (fun wv => refBytes_any op (by omega) ho2 wv)
  have hb := bytes_cases op
  have hbs := bytes_cases op
  have t1 : Int.tmod (va : Int) ((bytesF op : Nat) : Int) = ((va % bytesF op : Nat) : Int) := by rw [Int.tmod_eq_emod_of_nonneg (by omega)]; rfl
  have t2 : (va : Int) % ((bytesF op : Nat) : Int) = ((va % bytesF op : Nat) : Int) := rfl
  have z1 : ¬ ((bytesF op : Nat) : Int) = 0 := by omega
  have hr4 : va % bytesF op < 4 := by have := Nat.mod_lt va (show bytesF op > 0 by omega); omega
  have v1 : IntKind.i64.wrap ((va % bytesF op : Nat) : Int) = ((va % bytesF op : Nat) : Int) := by rw [IntKind.wrap_i64]; omega
  have hc0 : 0 ≤ (walkF f n root va 2).2 := by
    rcases walk_cause f n root va 2 (by decide) with h | h
    · exact absurd h hwc
    · exact h
  have HPF : Hid (placeF f n root va (bytesF op) 2 = .error ((walkF f n root va 2).2, va)) := by
    show _ = _
    unfold placeF placeG
    rw [if_neg (by omega)]
    exact if_pos hwc
  have HWK := Vx.hid (refWalk_any (h.only hO1 (fun h => h) (fun h => h)) root va hva 2)
  generalize walkF f n root va 2 = WF at HWK HPF hc0 hwc
  obtain ⟨pa, cz⟩ := WF
  simp only at HWK HPF hc0 hwc
  have HTR := Vx.hid (fun wv => trapped_any cz va hva wv)
  have b0 : ((0 : Int) != 0) = false := rfl
  rw [ham] at t1 t2 v1
  have HFIN : Hid (∀ w2 w3, Only (fun _ => False) w1 w2 → Only (fun k => k = w.heap.size + 1) w2 w3 → DocP w br bb n cb off T cs (storeG f R pc op b (placeF f n root va (bytesF op) 2)) (.returned (.agg (evC true cz va))) w3) := fun w2 w3 h2 h3 => Or.inl ⟨cz, va, by rw [HPF.out]; rfl, rfl, by
    have h4 := hO1.trans h2
    exact ⟨h3.os.trans h4.os, h3.tape.trans h4.tape, h3.output.trans h4.output, Nat.le_trans h4.size h3.size, fun k hk _ => by rw [h3.block k (Nat.lt_of_lt_of_le hk h4.size) (by omega), h4.block k hk (fun h => h)]⟩⟩
  have HE1 := Vx.hid he1
  generalize bytesF op = len at HBY hb t1 t2 z1 HFIN
  clear h hd hne ho ho2 hrd hva ham hi1 he1 hcl hbs hr4 hO1 hb HPF hwc
  subst hw1
  go_enter Tryz.func81, Tryz.ntmps81
  go_wp2_with fail
  refine (HBY.out _).mono ?_
  rintro e w' ⟨rfl, h⟩
  have h2 := h.symm; clear h; subst h2
  go_wp2_with fail
  refine HWK.out.mono ?_
  rintro e w2 ⟨rfl, h2⟩
  have HO2 := Vx.hid h2
  have hb1 : w2.heap[w.heap.size + 1]? = some (.cells (evC false 0 0) 93 (0, 0)) := by rw [h2.block _ (lt_of_some HE1.out) (fun h => h)]; exact HE1.out
  have HE2 := Vx.hid hb1
  clear h2 hb1
  go_wp2_with fail
  refine (HTR.out _).mono ?_
  rintro e w4 ⟨rfl, h4⟩
  have hb2 : w4.heap[w.heap.size + 1]? = some (.cells (evC false 0 0) 93 (0, 0)) := by rw [h4.block _ (lt_of_some HE2.out) (fun h => h)]; exact HE2.out
  have hfin := fun w3 h3 => HFIN.out w4 w3 (HO2.out.trans h4) h3
  clear h4 HE1 HE2 HFIN HTR HBY HWK HO2
  obtain ⟨s1, s2⟩ := ev_set (b := false) (c := 0) (t := 0) hb2 true cz va
  have HFI := Vx.hid (hfin _ s2)
  have HK := Vx.hid (ev_read s1)
  obtain ⟨h0, h1, h2, hf, hl⟩ := ev_read hb2
  have f0 := hf 0
  have f1 := hf 1
  have f2 := hf 2
  clear hb2 hfin s1 s2 hf
  unfold evC at *
  go_wp2_with fail
  obtain ⟨k0, k1, k2, _, _⟩ := HK.out
  refine bodyPost_ret (v := .agg #[.bool true, .int .i64 cz, .int .u32 (va : Nat)]) ?_ rfl HFI.out
  simp [results, Tryz.results81, go_sem, k0, k1, k2]
theorem four_get (b len k : Nat) (hl : len ≤ 4) (hk : k < ((fourB b).take len).length) : ((((fourB b).take len)[k]).toNat : Int) = ((b / 256 ^ k % 256 : Nat) : Int) := by
  have h4 : (fourB b).length = 4 := rfl
  rw [List.length_take, h4] at hk
  have hc : k = 0 ∨ k = 1 ∨ k = 2 ∨ k = 3 := by omega
  rw [List.getElem_take]
  rcases hc with rfl | rfl | rfl | rfl
  · show ((UInt8.ofNat (b % 256)).toNat : Int) = _
    rw [byte_of]; simp
  · show ((UInt8.ofNat (b / 256 % 256)).toNat : Int) = _
    rw [byte_of]
  · show ((UInt8.ofNat (b / 65536 % 256)).toNat : Int) = _
    rw [byte_of]
  · show ((UInt8.ofNat (b / 16777216 % 256)).toNat : Int) = _
    rw [byte_of]
set_option maxRecDepth 100000 in
set_option maxHeartbeats 4000000 in
theorem refStore_good {w : World} {br bb n cb off pc : Nat} {T : TypeId} {cs : Array Value} {R : Nat → Nat} {f : Nat → UInt8} (h : RefAt w br bb n f) (hd : DxAt w cb off T cs R pc) (hne : cb ≠ br ∧ cb ≠ bb) (root : Int) (op rd : Nat) (r1 r2 im : Int) (ho : 16 ≤ op) (ho2 : op ≤ 18) (hrd : rd < 32) (va : Nat) (hva : va < 4294967296) (b : Nat) (hb4 : b < 4294967296) (hpc : pc < 4294967296) (ham : va % bytesF op = 0) (hwc : (walkF f n root va 2).2 = -1) :
    Calls Tryz.prog 81 #[.pointer (some ⟨br, 0, none⟩), .int .i64 root, .pointer (some ⟨cb, off, none⟩), .agg #[.int .i64 (op : Int), .int .i64 (rd : Int), .int .i64 r1, .int .i64 r2, .int .i64 im], .int .i64 (va : Int), .int .i64 (b : Int)] w fun e w' => DocP w br bb n cb off T cs (storeG f R pc op b (placeF f n root va (bytesF op) 2)) e w' := by
  obtain ⟨w1, hw1⟩ : ∃ w1, w1 = (w.alloc (.cells #[.int .i64 (op : Int), .int .i64 (rd : Int), .int .i64 r1, .int .i64 r2, .int .i64 im] 129)).alloc (.cells (evC false 0 0) 93) := ⟨_, rfl⟩
  have hO1 : Only (fun _ => False) w w1 := by rw [hw1]; exact ((Only.refl _ w).alloc _).alloc _
  have hi1 : w1.heap[w.heap.size]? = some (.cells #[.int .i64 (op : Int), .int .i64 (rd : Int), .int .i64 r1, .int .i64 r2, .int .i64 im] 129 (0, 0)) := by
    rw [hw1, RowKit.Below.heap_alloc _ _ _ (by simp)]; exact heap_alloc_last w _
  have he1 : w1.heap[w.heap.size + 1]? = some (.cells (evC false 0 0) 93 (0, 0)) := by
    rw [hw1]
    have := heap_alloc_last (w.alloc (.cells #[.int .i64 (op : Int), .int .i64 (rd : Int), .int .i64 r1, .int .i64 r2, .int .i64 im] 129)) (.cells (evC false 0 0) 93)
    simpa using this
  have hcl : cb < w.heap.size := lt_of_some hd.b
  have HBY := Vx.hid (fun wv => refBytes_any op (by omega) ho2 wv)
  have hb := bytes_cases op
  have hbs := bytes_cases op
  have t1 : Int.tmod (va : Int) ((bytesF op : Nat) : Int) = ((va % bytesF op : Nat) : Int) := by rw [Int.tmod_eq_emod_of_nonneg (by omega)]; rfl
  have t2 : (va : Int) % ((bytesF op : Nat) : Int) = ((va % bytesF op : Nat) : Int) := rfl
  have z1 : ¬ ((bytesF op : Nat) : Int) = 0 := by omega
  have hr4 : va % bytesF op < 4 := by have := Nat.mod_lt va (show bytesF op > 0 by omega); omega
  have v1 : IntKind.i64.wrap ((va % bytesF op : Nat) : Int) = ((va % bytesF op : Nat) : Int) := by rw [IntKind.wrap_i64]; omega
  have hp0 : placeF f n root va (bytesF op) 2 = .ok (walkF f n root va 2).1 := by
    unfold placeF placeG
    rw [if_neg (by omega)]
    exact if_neg (fun h => h hwc)
  have hin := place_in hbs hp0
  have HWK := Vx.hid (refWalk_any (h.only hO1 (fun h => h) (fun h => h)) root va hva 2)
  have HPF := Vx.hid hp0
  have hn256 := h.top
  generalize walkF f n root va 2 = WF at HWK HPF hwc hin hp0
  obtain ⟨pa, cz⟩ := WF
  simp only at HWK HPF hwc hin hp0
  subst hwc
  have HWR := Vx.hid (fun v wv => refWrap_any v wv)
  rw [ham] at t1 t2 v1
  have HE1 := Vx.hid (⟨hi1, he1, hO1, hcl⟩ : _ ∧ _ ∧ _ ∧ _)
  have HRF := Vx.hid (⟨h, hd, hne⟩ : _ ∧ _ ∧ _)
  have HPCL := Vx.hid hpc
  have HB4 := Vx.hid hb4
  have htl : ((fourB b).take (bytesF op)).length = bytesF op := by rw [List.length_take, show (fourB b).length = 4 from rfl]; omega
  have HFIN : Hid (∀ w3 cs3, RefAt w3 br bb n (putF f pa ((fourB b).take (bytesF op))) → DxAt w3 cb off T cs3 R (m32 ((pc : Int) + 4)) → Beside cs cs3 off → Only (fun k => k = bb ∨ k = cb) w w3 → ∀ w4, Only (fun k => k = w.heap.size + 1) w3 w4 → DocP w br bb n cb off T cs (storeG f R pc op b (placeF f n root va (bytesF op) 2)) (.returned (.agg (evC false 0 0))) w4) := fun w3 cs3 hr3 hd3 hb3 ho3 w4 h4 => by
    have hbl : bb < w.heap.size := lt_of_some h.b
    have hrl : br < w.heap.size := lt_of_some h.r
    refine Or.inr ⟨_, R, m32 ((pc : Int) + 4), by rw [HPF.out]; rfl, rfl, hr3.only h4 (by omega) (by omega), ⟨cs3, hd3.only h4 (by omega), hb3⟩, ?_⟩
    exact ⟨h4.os.trans ho3.os, h4.tape.trans ho3.tape, h4.output.trans ho3.output, Nat.le_trans ho3.size h4.size, fun k hk hn => by rw [h4.block k (Nat.lt_of_lt_of_le hk ho3.size) (by omega), ho3.block k hk hn]⟩
  have HHN := Vx.hid hin
  have hpaN : (pa : Int) < 1048576 ∧ 0 ≤ (pa : Int) := by have := hin.2; omega
  obtain ⟨N, hN⟩ : ∃ N, N = 4096 * n := ⟨_, rfl⟩
  have HNN := Vx.hid hN
  have HFG := Vx.hid (fun k hk => four_get b (bytesF op) k (by omega) hk)
  generalize hlen : bytesF op = len at HBY hb hbs t1 t2 z1 HFIN HHN HFG htl
  have HTL := Vx.hid htl
  have HLB : Hid (bb < w.heap.size ∧ br < w.heap.size) := ⟨lt_of_some h.b, lt_of_some h.r⟩
  clear h hd hne ho ho2 hrd hva ham hi1 he1 hcl hr4 hO1 hp0 HPF hin hpc hN hlen htl hb4
  subst hw1
  go_enter Tryz.func81, Tryz.ntmps81
  go_wp2_with fail
  refine (HBY.out _).mono ?_
  rintro e w' ⟨rfl, h⟩
  have h2 := h.symm; clear h; subst h2
  go_wp2_with fail
  refine HWK.out.mono ?_
  rintro e w2 ⟨rfl, h2⟩
  have HO2 := Vx.hid (HE1.out.2.2.1.trans h2)
  have HIN : Hid (w2.heap[w.heap.size + 1]? = some (.cells (evC false 0 0) 93 (0, 0))) := by show _ = _; rw [h2.block _ (lt_of_some HE1.out.2.1) (fun h => h)]; exact HE1.out.2.1
  have H0 : Hid (RwR w2 br bb n f pa ((fourB b).take len) 0 w2) := by
    refine ⟨?_, Only.refl _ _⟩
    rw [List.take_zero, putF_nil]
    exact HRF.out.1.only HO2.out (fun h => h) (fun h => h)
  clear h2 HWK HBY
  go_wp2_with fail
  go_loopw [5, 16] (fun v d wr => ∃ k : Nat, k ≤ len ∧ d = .int .i64 (k : Int) ∧ v = .int .i64 ((b / 256 ^ k : Nat) : Int) ∧ Hid (RwR w2 br bb n f pa ((fourB b).take len) k wr)) (fun _ d _ => len - (intOf d).toNat)
  case atStart => exact ⟨0, Nat.zero_le _, rfl, by simp, H0⟩
  case round =>
    clear H0
    obtain ⟨k, hk, rfl, rfl, HR⟩ := hrel
    by_cases hlt : k < len
    · have hks : k < ((fourB b).take len).length := by have := HTL.out; omega
      obtain ⟨hzz, ⟨v0, hc0⟩, hf0, hR2⟩ := rw_step HR.out hks (by have := HHN.out.2; have := HTL.out; omega)
      clear hzz
      have hfg := HFG.out k hks
      have hcr := HR.out.1.cr
      rw [← HNN.out] at hcr
      have hV : b / 256 ^ k ≤ b := Nat.div_le_self _ _
      have hdd : b / 256 ^ (k + 1) = b / 256 ^ k / 256 := by rw [Nat.pow_succ, Nat.div_div_eq_div_mul]
      have HB := Vx.hid HB4.out
      have HR3 : Hid (RwR w2 br bb n f pa ((fourB b).take len) (k + 1) (wr.setCell ⟨bb, pa + k, none⟩ (.int .u8 ((b / 256 ^ k % 256 : Nat) : Int)))) := by
        rw [← hfg]; exact hR2
      generalize b / 256 ^ k = V at hV hdd HR3 ⊢
      obtain ⟨V1, hV1⟩ : ∃ V1, V1 = V % 256 := ⟨_, rfl⟩
      obtain ⟨V2, hV2⟩ : ∃ V2, V2 = V / 256 := ⟨_, rfl⟩
      rw [← hV1] at HR3
      rw [← hV2] at hdd
      have HDD := Vx.hid hdd
      have l1 : (k : Int) < (len : Int) := by omega
      have g2 : IntKind.i64.wrap ((pa : Int) + (k : Int)) = ((pa + k : Nat) : Int) := by rw [IntKind.wrap_i64]; omega
      have g3 : 0 ≤ ((pa + k : Nat) : Int) ∧ ((pa + k : Nat) : Int) < (N : Int) := by have := HHN.out.2; have := HNN.out; omega
      have g4 : Int.tmod (V : Int) 256 = (V1 : Int) := by rw [Int.tmod_eq_emod_of_nonneg (by omega), hV1]; rfl
      have g5 : (V : Int) % 256 = (V1 : Int) := by rw [hV1]; rfl
      have g6 : IntKind.u8.wrap (V1 : Int) = (V1 : Int) := by rw [IntKind.wrap_u8]; omega
      have g7 : Int.tdiv (V : Int) 256 = (V2 : Int) := by rw [Int.tdiv_eq_ediv_of_nonneg (by omega), hV2]; rfl
      have g8 : (V : Int) / 256 = (V2 : Int) := by rw [hV2]; rfl
      have g9 : IntKind.i64.wrap (V1 : Int) = (V1 : Int) := by have := HB.out; rw [IntKind.wrap_i64]; omega
      have g10 : IntKind.i64.wrap (V2 : Int) = (V2 : Int) := by have := HB.out; rw [IntKind.wrap_i64]; omega
      have g11 : IntKind.i64.wrap ((k : Int) + 1) = (k : Int) + 1 := by rw [IntKind.wrap_i64]; omega
      have HKL := Vx.hid hlt
      clear hV hdd hV1 hV2 hfg hR2 hlt hk hks hpaN hn256 hb hbs HFG
      generalize pa + k = pk at g2 g3 hc0 hf0 HR3
      go_wp2_with fail
      all_goals
        go_roundw
        case rel => exact ⟨k + 1, HKL.out, by go_num, by rw [HDD.out], HR3⟩
        case measure => simp only [intOf]; have := HKL.out; omega
    · have hkl : k = len := by omega
      subst hkl
      have l1 : ¬ (k : Int) < (k : Int) := by omega
      clear hlt hk
      have hOr := HR.out.2
      have hrf : RefAt wr br bb n (putF f pa ((fourB b).take k)) := by
        have h1 := HR.out.1
        rw [List.take_of_length_le (by rw [HTL.out]; exact Nat.le_refl _)] at h1
        exact h1
      have hdx := (HRF.out.2.1.only HO2.out (fun h => h)).only hOr HRF.out.2.2.2
      have hcp := hdx.cp
      have hfp := hdx.fz (off + 32)
      have hpx : IntKind.i64.wrap ((pc : Int) + 4) = (pc : Int) + 4 := by have := HPCL.out; rw [IntKind.wrap_i64]; omega
      have HWRP := Vx.hid (fun wv => HWR.out ((pc : Int) + 4) wv)
      have hclw := HE1.out.2.2.2
      have hbl := HLB.out
      obtain ⟨cs5, hdx5, hbs5⟩ := hdx.setPc (m32 ((pc : Int) + 4))
      have hOc := only_cell wr ⟨cb, off + 32, none⟩ (.int .i64 (m32 ((pc : Int) + 4) : Nat))
      have hO5 : Only (fun k => k = bb ∨ k = cb) w (wr.setCell ⟨cb, off + 32, none⟩ (.int .i64 (m32 ((pc : Int) + 4) : Nat))) := ((HO2.out.mono (fun _ _ h => h.elim)).trans (hOr.mono (fun _ _ h => Or.inl h))).trans (hOc.mono (fun _ _ h => Or.inr h))
      have hie : wr.heap[w.heap.size + 1]? = some (.cells (evC false 0 0) 93 (0, 0)) := by
        rw [hOr.block _ (lt_of_some HIN.out) (by omega)]; exact HIN.out
      have hfin := HFIN.out _ cs5 (hrf.only hOc (fun e => HRF.out.2.2.1 e.symm) (fun e => HRF.out.2.2.2 e.symm)) hdx5 hbs5 hO5
      have hb2 : (wr.setCell ⟨cb, off + 32, none⟩ (.int .i64 (m32 ((pc : Int) + 4) : Nat))).heap[w.heap.size + 1]? = some (.cells (evC false 0 0) 93 (0, 0)) := by
        rw [hOc.block _ (lt_of_some hie) (by show ¬ _ = cb; omega)]; exact hie
      obtain ⟨s1, s2⟩ := ev_set (b := false) (c := 0) (t := 0) hb2 false 0 0
      have HFI := Vx.hid (hfin _ s2)
      have HK := Vx.hid (ev_read s1)
      obtain ⟨h0, h1, h2, hf, hl⟩ := ev_read hb2
      have f0 := hf 0
      have f1 := hf 1
      have f2 := hf 2
      have hcbl : cb < wr.heap.size := World.block_lt_of_cell? wr _ hcp
      clear hb2 hfin s1 s2 hf hdx5 hbs5 hO5 HFIN HRF HIN HE1 HO2 HHN HNN hn256 hpaN hb hbs hclw hdx hrf hOr hOc hie HR HTL HFG HLB hbl HB4
      go_wp2_with fail
      refine (HWRP.out _).mono ?_
      rintro e w' ⟨rfl, h⟩
      have h3 := h.symm; clear h; subst h3
      generalize m32 ((pc : Int) + 4) = nx at HFI HK h0 h1 h2 f0 f1 f2 hl ⊢
      unfold evC at *
      go_wp2_with fail
      rw [show (((0 : Nat)) : Int) = 0 from rfl] at HK
      obtain ⟨k0, k1, k2, _, _⟩ := HK.out
      refine bodyPost_ret (v := .agg #[.bool false, .int .i64 0, .int .u32 ((0 : Nat) : Int)]) ?_ rfl HFI.out
      simp [results, Tryz.results81, go_sem, k0, k1, k2]
end Go.Proofs.YtflmobffeeocdaaGreatDoor

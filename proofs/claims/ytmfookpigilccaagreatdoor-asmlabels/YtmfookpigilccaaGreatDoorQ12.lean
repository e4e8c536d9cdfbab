/- Walks of package asm's statements: lengths and words. -/
import Derived.Test.YtmfookpigilccaaGreatDoorQ11
import Derived.Test.YtmfookpigilccaaGreatDoorW6
import Derived.Maps.OwnSet
import Derived.StringKeys
namespace Go.Proofs.YtmfookpigilccaaGreatDoor
open Go.ChangeShapes Go.WideShapes Go.ChangeAt Go.RowKit Go.Maps
open Go.Vx (strV Only Ins insV Stm stToks stOk stLen wordOf dec)

theorem FormsAt.only {S : Nat → Prop} {w w' : World} (h : FormsAt w) (ho : Only S w w') (hS : ¬ S 0) : FormsAt w' := by
  refine ⟨Nat.lt_of_lt_of_le h.1 ho.size, fun op h0 h1 => ?_⟩
  have hc : ∀ o, w'.cell? ⟨0, o, none⟩ = w.cell? ⟨0, o, none⟩ := fun o => ho.cell (p := ⟨0, o, none⟩) h.1 hS
  rw [hc, hc]
  exact h.2 op h0 h1
theorem encoded_ok (i : Ins) (h0 : 1 ≤ i.op) (h1 : i.op ≤ 48) (hd : dec (wordOf i) = i) (w : World) (hF : FormsAt w) :
    Calls Tryz.prog 141 #[insV i] w fun e w' => e = .returned (.int .u32 (wordOf i)) ∧ Only (fun _ => False) w w' := by
  have HF : Hid (FormsAt w) := hF
  have HD : Hid (dec (wordOf i) = i) := hd
  have HI : Hid (insV i = .agg #[.int .i64 i.op, .int .i64 i.rd, .int .i64 i.rs1, .int .i64 i.rs2, .int .i64 i.imm]) := rfl
  clear hF hd
  rw [HI.out]
  go_enter Tryz.func141, Tryz.ntmps141
  go_wp2_with fail
  rw [← HI.out]
  refine (encode_ok i h0 h1 HD.out _ (HF.out.only ((Only.refl (fun _ => False) _).alloc _) (fun h => h))).mono ?_
  rintro e w1 ⟨rfl, hb1⟩
  have H1 : Hid (Only (fun _ => False) w w1) := by
    have h := Only.of_below (S := fun _ => False) hb1 (fun k hk hb => by omega)
    exact ((Only.refl (fun _ => False) w).alloc _).trans h
  clear hb1
  go_wp2_with fail
  go_ret
  exact ⟨rfl, H1.out⟩
/-- One word in a new slice. -/
def OneW (w' : World) (v : Value) (x : Int) (N : Nat) : Prop := ∃ g, v = .slice (some ⟨g, 0, none⟩) 1 1 ∧ N ≤ g ∧ g < w'.heap.size ∧ w'.cell? ⟨g, 0, none⟩ = some (.int .u32 x)
theorem datum_words (n : Nat) (hn : n < 4294967296) (at' : Int) (m : Value) (w : World) :
    Calls Tryz.prog 137 #[.agg #[.int .i64 n], .int .i64 at', m] w fun e w' => ∃ v, e = .returned v ∧ OneW w' v n w.heap.size ∧ Only (fun _ => False) w w' := by
  have h1 : ¬ (n : Int) < -2147483648 := by omega
  have h2 : ¬ (4294967295 : Int) < (n : Int) := by omega
  go_enter Tryz.func137, Tryz.ntmps137
  go_wp2
  go_ret
  refine ⟨_, rfl, ⟨w.heap.size + 1, rfl, by omega, by simp, by simp [go_sem]⟩, ((Only.refl _ w).alloc _).alloc _⟩
theorem nothing_words (at' : Int) (m : Value) (w : World) :
    Calls Tryz.prog 135 #[.agg #[], .int .i64 at', m] w fun e w' => e = .returned (.slice none 0 0) ∧ Only (fun _ => False) w w' := by
  go_enter Tryz.func135, Tryz.ntmps135
  go_wp2
  go_ret
  exact ⟨rfl, (Only.refl _ w).alloc _⟩
theorem inst_words (i : Ins) (h0 : 1 ≤ i.op) (h1 : i.op ≤ 48) (hd : dec (wordOf i) = i) (at' : Int) (m : Value) (w : World) (hF : FormsAt w) :
    Calls Tryz.prog 143 #[instV i [], .int .i64 at', m] w fun e w' => ∃ v, e = .returned v ∧ OneW w' v (wordOf i) w.heap.size ∧ Only (fun _ => False) w w' := by
  have HF : Hid (FormsAt w) := hF
  have HD : Hid (dec (wordOf i) = i) := hd
  have HI : Hid (insV i = .agg #[.int .i64 i.op, .int .i64 i.rd, .int .i64 i.rs1, .int .i64 i.rs2, .int .i64 i.imm]) := rfl
  clear hF hd
  unfold instV
  go_enter Tryz.func143, Tryz.ntmps143
  go_wp2_with fail
  rw [← HI.out]
  have ho : ∀ S : Nat → Prop, ∀ o1 o2, Only S w ((w.alloc o1).alloc o2) := fun S o1 o2 => ((Only.refl S w).alloc _).alloc _
  refine (encoded_ok i h0 h1 HD.out _ (HF.out.only (ho (fun _ => False) _ _) (fun h => h))).mono ?_
  rintro e w1 ⟨rfl, hb1⟩
  have hs1 : w.heap.size + 2 ≤ w1.heap.size := by have := hb1.size; simp at this; omega
  have H1 : Hid (Only (fun _ => False) w w1) := (ho _ _ _).trans hb1
  clear hb1 ho
  go_wp2_with fail
  go_ret
  refine ⟨_, rfl, ⟨w1.heap.size, rfl, by omega, by simp, by simp [go_sem]⟩, H1.out.alloc _⟩
theorem keyed9 : Keyed Tryz.prog 9 := string_keyed Tryz.underlying9
theorem zero3 (w : World) : (zeroValue 3).run Tryz.prog w = .ok (.int .i64 0) w := by kernel_rfl
/-- The labels' map. -/
def MapAt (w : World) (mb n : Nat) (D : DataW Unit) : Prop := w.ownsMap Tryz.prog 9 (plainElem Tryz.prog 3) mb n D
theorem MapAt.only {S : Nat → Prop} {w w' : World} {mb n : Nat} {D : DataW Unit} (h : MapAt w mb n D) (ho : Only S w w') (hS : ¬ S mb) : MapAt w' mb n D := by
  have hl := h.lt
  obtain ⟨es, clock, hb, F, hs, hD⟩ := h
  exact ⟨es, clock, (ho.block mb hl hS).trans hb, F, hs, hD⟩
set_option maxHeartbeats 1000000 in
theorem inst_words_lab (i : Ins) (c : UInt8) (l : List UInt8) (hl : l.length ≤ 20000) (h0 : 1 ≤ i.op) (h1 : i.op ≤ 48) (at' worth : Int) (ha0 : 0 ≤ at') (ha1 : at' ≤ 1000000) (hw0 : 0 ≤ worth) (hw1 : worth ≤ 1000000)
    (mb n : Nat) (D : DataW Unit) (hhas : Maps.has D (.string (c :: l)) = true) (hat : D.atKey (.string (c :: l)) (.lit (.int .i64 0)) = .lit (.int .i64 worth))
    (hd : dec (wordOf { i with imm := worth - at' }) = { i with imm := worth - at' }) (w : World) (hF : FormsAt w) (hM : MapAt w mb n D) :
    Calls Tryz.prog 143 #[instV i (c :: l), .int .i64 at', .map (some mb)] w fun e w' => ∃ v, e = .returned v ∧ OneW w' v (wordOf { i with imm := worth - at' }) w.heap.size ∧ Only (fun _ => False) w w' := by
  obtain ⟨j, hj⟩ : ∃ j : Ins, { i with imm := worth - at' } = j := ⟨_, rfl⟩
  rw [hj] at hd ⊢
  have HF : Hid (FormsAt w) := hF
  have HD : Hid (dec (wordOf j) = j) := hd
  have HJ : Hid (insV j = .agg #[.int .i64 i.op, .int .i64 i.rd, .int .i64 i.rs1, .int .i64 i.rs2, .int .i64 (worth - at')]) := by rw [← hj]; rfl
  have hj0 : 1 ≤ j.op := by rw [← hj]; exact h0
  have hj1 : j.op ≤ 48 := by rw [← hj]; exact h1
  have HM : Hid (MapAt w mb n D) := hM
  have HH : Hid (Maps.has D (.string (c :: l)) = true) := hhas
  have HAT : Hid (D.atKey (.string (c :: l)) (.lit (.int .i64 0)) = .lit (.int .i64 worth)) := hat
  have e1 : (c :: l == []) = false := rfl
  have e2 : (c :: l != []) = true := rfl
  have hkey : keyOf Tryz.prog 9 (.string ⟨(c :: l).toArray⟩) = some (.string (c :: l)) := Go.WideMaps.keyOf_string_mk Tryz.underlying9 (by unfold maxLen; simp [ByteArray.size]; omega)
  clear hF hd hj hM hhas hat
  unfold instV
  go_enter Tryz.func143, Tryz.ntmps143
  have ho : ∀ S : Nat → Prop, ∀ o1 o2, Only S w ((w.alloc o1).alloc o2) := fun S o1 o2 => ((Only.refl S w).alloc _).alloc _
  go_wp2_with (at_lookup; refine wpList_lookup_own_ok_int _ rfl _ _ 39 rfl 9 3 .i64 keyed9 Tryz.underlying39 Tryz.underlying3 (zero3 _) mb n D rfl (HM.out.only (ho (fun _ => False) _ _) (fun h => h)) _ _ rfl hkey ?_; intro cc hcc hwf; rw [HH.out]; rw [HAT.out] at hcc; obtain rfl : worth = cc := by simpa using hcc)
  rw [← HJ.out]
  refine (encoded_ok j hj0 hj1 HD.out _ (HF.out.only (ho (fun _ => False) _ _) (fun h => h))).mono ?_
  rintro e w1 ⟨rfl, hb1⟩
  have hs1 : w.heap.size + 2 ≤ w1.heap.size := by have := hb1.size; simp at this; omega
  have H1 : Hid (Only (fun _ => False) w w1) := (ho _ _ _).trans hb1
  clear hb1 ho
  go_wp2_with fail
  go_ret
  refine ⟨_, rfl, ⟨w1.heap.size, rfl, by omega, by simp, by simp [go_sem]⟩, H1.out.alloc _⟩
set_option maxHeartbeats 1000000 in
theorem inst_words_none (i : Ins) (c : UInt8) (l : List UInt8) (hl : l.length ≤ 20000) (at' : Int) (mb n : Nat) (D : DataW Unit) (hhas : Maps.has D (.string (c :: l)) = false) (w : World) (hM : MapAt w mb n D) :
    Calls Tryz.prog 143 #[instV i (c :: l), .int .i64 at', .map (some mb)] w fun e w' => e = .panicked [{ v := .iface 22 (.int .i64 6), recovered := false }] ∧ Only (fun _ => False) w w' := by
  have HM : Hid (MapAt w mb n D) := hM
  have HH : Hid (Maps.has D (.string (c :: l)) = false) := hhas
  have e1 : (c :: l == []) = false := rfl
  have e2 : (c :: l != []) = true := rfl
  have hkey : keyOf Tryz.prog 9 (.string ⟨(c :: l).toArray⟩) = some (.string (c :: l)) := Go.WideMaps.keyOf_string_mk Tryz.underlying9 (by unfold maxLen; simp [ByteArray.size]; omega)
  clear hM hhas
  unfold instV
  have ho : ∀ S : Nat → Prop, ∀ o1 o2, Only S w ((w.alloc o1).alloc o2) := fun S o1 o2 => ((Only.refl S w).alloc _).alloc _
  go_enter Tryz.func143, Tryz.ntmps143
  go_wp2_with (at_lookup; refine wpList_lookup_own_ok_int _ rfl _ _ 39 rfl 9 3 .i64 keyed9 Tryz.underlying39 Tryz.underlying3 (zero3 _) mb n D rfl (HM.out.only (ho (fun _ => False) _ _) (fun h => h)) _ _ rfl hkey ?_; intro cc hcc hwf; rw [HH.out])
  exact ⟨rfl, rfl, ho _ _ _⟩
end Go.Proofs.YtmfookpigilccaaGreatDoor

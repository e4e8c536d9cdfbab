import Derived.Test.YtflmobffeeocdaaDoorCs5
/- Walks of package mem: Write. -/
namespace Go.Proofs.YtflmobffeeocdaaDoor
open Go.ChangeShapes Go.WideShapes Go.ChangeAt Go.RowKit
open Go.Vx

theorem write_no {U : Nat → Prop} {w : World} {bm n : Nat} {f : Nat → UInt8} (h : MemAt U w bm n f) (a : Int) (s : List UInt8) (hi : insB n a (s.length : Nat) = false) :
    Calls Tryd.prog 6 #[.pointer (some ⟨bm, 0, none⟩), .int .i64 a, .string ⟨s.toArray⟩] w fun e w' => e = .returned (.int .i64 1) ∧ w' = w := by
  obtain ⟨p, hp⟩ : ∃ p : ByteArray, p = ⟨s.toArray⟩ := ⟨_, rfl⟩
  rw [← hp]
  have hps : p.size = s.length := by rw [hp]; simp [ByteArray.size]
  have HC : Hid (Calls Tryd.prog 14 #[.pointer (some ⟨bm, 0, none⟩), .int .i64 a, .int .i64 (s.length : Nat)] w fun e w' => e = .returned (.bool false) ∧ w' = w) := by
    refine (holds_any h a (s.length : Nat)).mono ?_
    rintro e w' ⟨rfl, rfl⟩
    rw [hi]
    exact ⟨rfl, rfl⟩
  clear h hi hp
  go_enter Tryd.func6, Tryd.ntmps6
  go_wp2_with fail
  refine HC.out.mono ?_
  rintro e w' ⟨rfl, rfl⟩
  go_wp2_with fail
  all_goals
    go_ret
    exact ⟨rfl, rfl⟩
/-- What a round of Write leaves. -/
def WrR (U : Nat → Prop) (w : World) (bm bp n : Nat) (f : Nat → UInt8) (at' : Nat) (s : List UInt8) (k : Nat) (wr : World) : Prop := (∃ q, MemIs U wr bm bp n q (putF f at' (s.take k))) ∧ Only (fun k => ¬ U k) w wr
theorem WrR.drew {U : Nat → Prop} {w : World} {bm bp n : Nat} {f : Nat → UInt8} {at' : Nat} {s : List UInt8} {k : Nat} {wr : World} (h : WrR U w bm bp n f at' s k wr) : WrR U w bm bp n f at' s k wr.drew := by
  obtain ⟨⟨q, hm⟩, ho⟩ := h
  exact ⟨⟨q, hm.only ((Only.refl (fun _ => False) wr).drew) (fun _ h _ => h.elim)⟩, ho.drew⟩
theorem wr_step {U : Nat → Prop} {w wr : World} {bm bp n : Nat} {f : Nat → UInt8} {at' : Nat} {s : List UInt8} {k : Nat} (h : WrR U w bm bp n f at' s k wr) (hk : k < s.length) (hin : at' + s.length ≤ 4096 * n) (p o : Nat) (hpo : at' + k = 4096 * p + o) (ho : o < 4096) :
    Calls Tryd.prog 16 #[.pointer (some ⟨bm, 0, none⟩), .int .i64 (p : Int)] wr fun e w2 => ∃ (b : Nat) (cur : List Value), e = .returned (.pointer (some ⟨b, 0, none⟩)) ∧ Hid (w2.heap[b]? = some (.cells cur.toArray 79 (0, 0)) ∧ cur.length = 4096 ∧
      WrR U w bm bp n f at' s (k + ((s.drop k).take (4096 - o)).length) (w2.setRow b (splice cur o (((s.drop k).take (4096 - o)).map byteV)).toArray)) := by
  obtain ⟨⟨q, hm⟩, ho1⟩ := h
  have hp : p < n := by omega
  refine (made_any hm p hp).mono ?_
  rintro e w2 ⟨b, q', rfl, hm2, hq2, ho2⟩
  refine ⟨b, rowV (putF f at' (s.take k)) (4096 * p) 4096, rfl, hm2.pg p hp b hq2, length_rowV _ _ _, ?_⟩
  have hl : o + ((s.drop k).take (4096 - o)).length ≤ 4096 := by rw [List.length_take]; omega
  rw [splice_row _ _ _ _ _ hl]
  obtain ⟨h1, h2⟩ := hm2.put hp hq2 o ((s.drop k).take (4096 - o)) hl
  refine ⟨⟨q', ?_⟩, (ho1.trans ho2).trans h2⟩
  have e := putF_two f at' k (4096 - o) s (by omega)
  rw [hpo] at e
  rw [e] at h1
  rw [e]
  have e2 : s.take (k + ((s.drop k).take (4096 - o)).length) = s.take (k + (4096 - o)) := by
    apply List.take_eq_take_iff.2
    rw [List.length_take, List.length_drop]
    omega
  rw [e2]
  exact h1
set_option maxRecDepth 100000 in
theorem write_ok {U : Nat → Prop} {w : World} {bm bp n : Nat} {q : Nat → Option Nat} {f : Nat → UInt8} (h : MemIs U w bm bp n q f) (at' : Nat) (s : List UInt8) (hin : at' + s.length ≤ 4096 * n) :
    Calls Tryd.prog 6 #[.pointer (some ⟨bm, 0, none⟩), .int .i64 (at' : Int), .string ⟨s.toArray⟩] w fun e w' => e = .returned (.int .i64 0) ∧ MemAt U w' bm n (putF f at' s) ∧ Only (fun k => ¬ U k) w w' := by
  obtain ⟨p, hp⟩ : ∃ p : ByteArray, p = ⟨s.toArray⟩ := ⟨_, rfl⟩
  rw [← hp]
  have hps : p.size = s.length := by rw [hp]; simp [ByteArray.size]
  have hn := h.top
  have HC : Hid (Calls Tryd.prog 14 #[.pointer (some ⟨bm, 0, none⟩), .int .i64 (at' : Int), .int .i64 (s.length : Nat)] w fun e w' => e = .returned (.bool true) ∧ w' = w) := by
    refine (holds_any ⟨bp, q, h⟩ (at' : Int) (s.length : Nat)).mono ?_
    rintro e w' ⟨rfl, rfl⟩
    have : insB n (at' : Int) (s.length : Nat) = true := by simp [insB]; omega
    rw [this]
    exact ⟨rfl, rfl⟩
  have HP : Hid (p = ⟨s.toArray⟩) := hp
  have HIN : Hid (at' + s.length ≤ 4096 * n ∧ n ≤ 256) := ⟨hin, hn⟩
  have H0 : Hid (WrR U w bm bp n f at' s 0 w) := ⟨⟨q, by rw [List.take_zero, putF_nil]; exact h⟩, Only.refl _ _⟩
  clear h hp hin hn
  go_enter Tryd.func6, Tryd.ntmps6
  go_wp2_with fail
  refine HC.out.mono ?_
  rintro e w' ⟨rfl, h⟩
  have h2 := h.symm; clear h; subst h2
  go_wp2_with fail
  go_loopw [7] (fun d wr => ∃ k : Nat, d = .int .i64 (k : Int) ∧ k ≤ s.length ∧ Hid (WrR U w bm bp n f at' s k wr)) (fun d _ => s.length - (intOf d).toNat)
  case atStart => exact ⟨0, rfl, by omega, H0⟩
  case round =>
    obtain ⟨k, rfl, hk, HW⟩ := hrel
    by_cases hlt : k < s.length
    · have h1 : (k : Int) < (s.length : Int) := by omega
      have hw1 : IntKind.i64.wrap ((at' : Int) + (k : Int)) = ((at' + k : Nat) : Int) := by have := HIN.out; rw [IntKind.wrap_i64]; omega
      have HSP : Hid (∀ wv, Calls Tryd.prog 15 #[.int .i64 ((at' + k : Nat) : Int)] wv fun e w' => e = .returned (.tuple #[.int .i64 (((at' + k) / 4096 : Nat) : Int), .int .i64 (((at' + k) % 4096 : Nat) : Int)]) ∧ w' = wv) := fun wv => split_any (at' + k) (by have := HIN.out; omega) wv
      have HPO : Hid (at' + k = 4096 * ((at' + k) / 4096) + (at' + k) % 4096 ∧ (at' + k) % 4096 < 4096) := ⟨by omega, by omega⟩
      generalize (at' + k) / 4096 = pg at HSP HPO
      generalize (at' + k) % 4096 = o at HSP HPO
      generalize hx : at' + k = x at hw1 HSP
      clear hx
      have HST := Vx.hid (wr_step HW.out.drew hlt HIN.out.1 pg o HPO.out.1 HPO.out.2)
      have hpf := fun b wv => page_from b o HPO.out.2 wv
      have hsf := fun wv => str_from p s HP.out k hk wv
      generalize hc : ((s.drop k).take (4096 - o)).length = c at HST
      have hc0 : 0 < c := by rw [← hc, List.length_take, List.length_drop]; have := HPO.out.2; omega
      have hcs : k + c ≤ s.length := by rw [← hc, List.length_take, List.length_drop]; omega
      have HCC : Hid (((s.drop k).take (4096 - o)).length = c) := hc
      have hw2 : IntKind.i64.wrap ((k : Int) + (c : Int)) = ((k + c : Nat) : Int) := by have := HIN.out; rw [IntKind.wrap_i64]; omega
      clear hlt hc hk
      go_wp2_with fail
      refine (HSP.out _).mono ?_
      rintro e w' ⟨rfl, h⟩
      have h2 := h.symm; clear h; subst h2
      go_wp2_with fail
      go_region_law (first | (refine Vx.step_copy_str rfl (.tmp 33) (.tmp 36) 57 9 rfl 5 Tryd.underlying57 sizeByte b o (4096 - o) (4096 - o) (s.drop k) (by simp [Act.eval, Act.put]) (by simp [Act.eval, Act.put]) cur 79 HB.out.1 (by rw [HB.out.2.1, HCC.out]; have := HCC.out; rw [List.length_take] at this; omega) c HCC.out (fun wx => Hid (WrR U w bm bp n f at' s (k + c) wx)) HB.out.2.2 ?_; intro w3 HW3) | (refine Vx.step_call rfl 16 #[.tmp 28, .tmp 29] #[27, 3] rfl #[.pointer (some ⟨bm, 0, none⟩), .int .i64 pg] (by simp [Act.eval, Act.put]) (by simp [go_sem]) HST.out ?_; rintro e w2 ⟨b, cur, rfl, HB⟩; refine ⟨_, rfl, ?_⟩))
      all_goals
        go_wp2_with fail
        go_roundw
        case rel => exact ⟨_, _, _, _, _, _, _, _, _, _, _, _, _, _, _, _, _, _, _, _, _, _, _, _, _, _, ⟨k + c, rfl, hcs, HW3⟩, rfl⟩
        case measure => show s.length - (intOf (.int .i64 ((k : Int) + (c : Int)))).toNat < s.length - (intOf (.int .i64 (k : Int))).toNat; simp only [intOf]; omega
    · obtain rfl : k = s.length := by omega
      have h1 : ¬ (s.length : Int) < (s.length : Int) := by omega
      clear hlt
      go_wp2_with fail
      all_goals
        go_ret
        obtain ⟨⟨q', hm⟩, ho⟩ := HW.out
        rw [List.take_length] at hm
        exact ⟨rfl, ⟨bp, q', hm⟩, ho⟩
end Go.Proofs.YtflmobffeeocdaaDoor

/- The walk of package asm's Assemble, at a text with a name that is no label. Made out of Q20.t. -/
import Derived.Test.YtmfookpigilccaaGreatDoorQ25
namespace Go.Proofs.YtmfookpigilccaaGreatDoor
open Go.ChangeShapes Go.WideShapes Go.ChangeAt Go.RowKit Go.Maps
open Go.Vx (strV labN Only Ins insV Stm stToks stOk stLen wordOf dec tokF fourB accT lenT joinB)

set_option maxRecDepth 100000 in
set_option maxHeartbeats 4000000 in
theorem assemble_name (srcs : List (List UInt8)) (sts : List Stm) (nF : Nat → Nat) (DF : Nat → DataW Unit) (hA : Asm srcs sts nF DF) (xsF : Nat → List Int) (hx1 : ∀ k, (xsF k).length ≤ 1) (hxs : ∀ k, ∀ x ∈ xsF k, 0 ≤ x ∧ x < 4294967296)
    (jn : Nat) (hjn : jn < (accT sts 0).length) (henc : ∀ k (hk : k < jn), StEnc (DF srcs.length) ((accT sts 0)[k]'(by omega)).2 ((accT sts 0)[k]'(by omega)).1 (xsF k)) (hats : ∀ k (hk : k < (accT sts 0).length), ((accT sts 0)[k]).2 ≤ 1000000) (cF : Nat → List UInt8) (hc0 : cF 0 = []) (hcF : ∀ k, cF (k + 1) = cF k ++ wordsB (xsF k)) (hcl : ∀ k, k ≤ sts.length → (cF k).length ≤ 1000000)
    (i : Ins) (c0 : UInt8) (l0 : List UInt8) (hll : l0.length ≤ 20000) (hnm : ((accT sts 0)[jn]).1 = .ins i (c0 :: l0)) (hhs : Maps.has (DF srcs.length) (.string (c0 :: l0)) = false)
    (mx : Int) (w : World) (hm : MaxAt mx w) (hF : FormsAt w) (hg : 1 < w.heap.size) :
    Calls Tryz.prog 6 #[.string ⟨(joinB srcs).toArray⟩] w fun e w' => e = .returned (.tuple #[.string ⟨#[]⟩, .int .i64 6, .int .i64 ((jn : Int) + 1)]) ∧ Only (fun _ => False) w w' := by
  have HA : Hid (Asm srcs sts nF DF) := hA
  have HM : Hid (MaxAt mx w) := hm
  have HF : Hid (FormsAt w) := hF
  have hmf : ∀ (fn : Fn) (first cap : Array Value) (w : World), (Instr.makeFunc fn first cap).run Tryz.prog w = .ok (.func fn first cap) w := fun _ _ _ _ => rfl
  have hmm := @run_makeMap Tryz.prog
  obtain ⟨t, ht⟩ : ∃ t, joinB srcs = t := ⟨_, rfl⟩
  have hts : (ByteArray.mk t.toArray).size = t.length := by simp [ByteArray.size]
  have htl : t.length ≤ 20000 := by rw [← ht]; exact hA.size
  obtain ⟨hcb, hsb⟩ := Vx.split_join srcs hA.ne hA.nl
  rw [ht] at hcb hsb
  have hl0 : 0 < srcs.length := List.length_pos_iff.2 hA.ne
  have hfw := hA.few
  have hlen := hA.len
  have HCO : Hid (Lib.countByte t 10 = srcs.length - 1) := by
    show t.count 10 = _
    rw [← ht]; exact Vx.count_join srcs hA.ne hA.nl
  rw [ht]
  obtain ⟨N, hN⟩ : ∃ N, srcs.length = N := ⟨_, rfl⟩
  have hN1 : N - 1 + 1 = N := by omega
  have HSP : Hid (∀ wv, MaxAt mx wv → Calls Tryz.prog 13 #[.string ⟨t.toArray⟩, .string ⟨#[10]⟩] wv fun e w' => e = .returned (.slice (some ⟨wv.heap.size, 0, none⟩) N N) ∧ w' = wv.alloc (.cells ((srcs.map (fun l => (⟨l.toArray⟩ : ByteArray))).map Value.string).toArray 9)) := by
    intro wv hv
    have h := Tryz.strings_Split ⟨t.toArray⟩ ⟨#[10]⟩ mx wv (by rw [hts]; omega) hv (by decide)
    rw [hcb, hsb, hN, hN1] at h
    exact h
  have hge : ¬ (2000 : Int) ≤ ((N - 1 : Nat) : Int) := by omega
  clear hm hF hA ht hcb hsb
  go_enter Tryz.func6, Tryz.ntmps6
  go_wp2_with fail
  refine (Tryz.strings_Count_one ⟨t.toArray⟩ 10 _).mono ?_
  rintro e w1 ⟨rfl, rfl⟩
  have e1 : Lib.countByte (ByteArray.mk t.toArray).data.toList 10 = N - 1 := by rw [← hN]; exact HCO.out
  rw [e1]
  go_wp2_with fail
  refine (HSP.out _ HM.out).mono ?_
  rintro e w2 ⟨rfl, rfl⟩
  go_wp2_with fail
  obtain ⟨h1, hO1, hS1⟩ := one_start srcs sts nF DF HA.out.n0 HA.out.D0 mx N hN w1 HM.out hg
  have hpl := places w1.heap.size hg
  have hfw1 := firstWrong_1 N N (by omega) (.pointer (some ⟨w1.heap.size + 1 + 1 + 1, 0, none⟩)) (.pointer (some ⟨w1.heap.size + 1, 0, none⟩)) (One mx (w1.heap.size + 1 + 1 + 1) (w1.heap.size + 1 + 1) (w1.heap.size + 4) (w1.heap.size + 1) w1.heap.size srcs sts nF DF) (PrOwn (w1.heap.size + 1 + 1 + 1) (w1.heap.size + 1 + 1)) (startW w1 srcs N) (pass1 hpl _ (by omega)) h1 (Nat.le_refl _) 1 rfl (fun k hk wv hv => step1 hpl HA.out.len k (by omega) (HA.out.read mx _ _ _ _ _ k (by omega)) wv hv) (fun h => absurd h (by omega))
  refine hfw1.mono ?_
  rintro e w5 ⟨hO5, h5⟩
  obtain ⟨_, rfl, h5, _⟩ := h5.resolve_right (fun h => absurd h.1 (by omega))
  have HPR : Hid (PrAt w5 (w1.heap.size + 1 + 1 + 1) (w1.heap.size + 1 + 1) (w1.heap.size + 4) (accT sts 0) (nF N) (DF N) (lenT sts)) := by
    have h := h5.pr
    rw [List.take_of_length_le (by omega)] at h
    exact h
  have HO5 : Hid (Only (fun x => w1.heap.size ≤ x) w1 w5) := (hO1 _).trans (hO5.mono fun b hb h => by
    have := h1.pr.own_lt b h
    rcases this.2 with e | e | e <;> omega)
  have hs5 : w1.heap.size + 4 ≤ w5.heap.size := HPR.out.baseS
  clear hfw1 hO5 h5 h1 hO1 hS1
  obtain ⟨lp, lk, lc, hlc, hlr⟩ := HPR.out.lines
  have hlk : lk = N := by rw [row_len hlr, Vx.accT_len]; omega
  subst hlk
  have hcaL : ∀ o, (w5.alloc o).cell? ⟨w1.heap.size + 1 + 1 + 1, 0, none⟩ = some (.slice lp lk lc) := fun o => by
    rw [((Only.refl (fun _ => False) w5).alloc o).cell (p := ⟨w1.heap.size + 1 + 1 + 1, 0, none⟩) (by show w1.heap.size + 1 + 1 + 1 < _; omega) (fun h => h)]; exact hlc
  clear hlr
  go_wp2_with fail
  obtain ⟨w6, hw6⟩ : ∃ w6, w5.alloc (.cells #[.slice none 0 0] 47) = w6 := ⟨_, rfl⟩
  have o6 : ∀ S : Nat → Prop, Only S w5 w6 := fun S => by rw [← hw6]; exact (Only.refl _ _).alloc _
  have s6 : w6.heap.size = w5.heap.size + 1 := by rw [← hw6]; simp
  obtain ⟨hp6, ho6⟩ := HPR.out.only (o6 (fun _ => False)) (fun _ _ h => h)
  have hfs := HF.out.1
  have hf5 : FormsAt w5 := HF.out.only HO5.out (fun h => by omega)
  have hfc : 0 < w5.heap.size := by omega
  have h2 : Two (w1.heap.size + 1 + 1 + 1) (w1.heap.size + 1 + 1) (w1.heap.size + 4) w5.heap.size (accT sts 0) (nF lk) (DF lk) (lenT sts) cF 0 w6 := by
    refine ⟨hp6, hf5.only (o6 (fun _ => False)) (fun h => h), ⟨by omega, ⟨none, 0, 0, ?_, ?_⟩, ?_⟩, fun b hb => (HPR.out.own_lt b ((ho6 b).1 hb)).1⟩
    · rw [← hw6, World.cell?_alloc_new]; rfl
    · rw [hc0]; exact World.ownsRow_nil _ _ _ _
    · rw [← hw6]; exact World.frozen?_alloc_new _ _ _ _
  have hal : (accT sts 0).length = lk := by rw [Vx.accT_len]; omega
  have hfw2 := firstWrong_2 lk jn (by omega) (.pointer (some ⟨w5.heap.size, 0, none⟩)) (.pointer (some ⟨w1.heap.size + 1 + 1 + 1, 0, none⟩)) (Two (w1.heap.size + 1 + 1 + 1) (w1.heap.size + 1 + 1) (w1.heap.size + 4) w5.heap.size (accT sts 0) (nF lk) (DF lk) (lenT sts) cF) (CodeOwn w5.heap.size) w6 (pass2 hfc _ (by omega)) h2 (by omega) 6 rfl (fun k hk wv hv => step2 hfc k (by omega) (xsF k) (hx1 k) (hats k (by omega)) (by have := henc k hk; rw [hN] at this; exact this) (hxs k) (hcF k) (hcl k (by omega)) wv hv) (fun _ wv hv => by
      refine close_2_name w5.heap.size _ jn (cF jn) wv hv.code (fun w2 h2 => ?_)
      obtain ⟨p2, _⟩ := hv.pr.only h2 (fun _ _ h => h)
      exact bytes_name _ _ _ _ _ _ _ jn hjn i c0 l0 hll hnm (by rw [hN] at hhs; exact hhs) w2 p2)
  rw [hw6]
  refine hfw2.mono ?_
  rintro e w7 ⟨hO7, h7⟩
  obtain ⟨_, rfl⟩ := h7.resolve_left (fun h => absurd h.1 (by omega))
  have HO7 : Hid (Only (fun _ => False) w1 w7) := by
    have a1 : Only (fun x => w1.heap.size ≤ x) w6 w7 := hO7.mono fun b _ hb => by have := (h2.code.own_lt b hb).2; omega
    exact ((HO5.out.trans (o6 _)).trans a1).mono fun b hb h => by omega
  clear hfw2 h2 hO7 h7 hp6 ho6 o6 hw6
  go_wp2_with fail
  go_ret3
  exact ⟨rfl, HO7.out⟩
end Go.Proofs.YtmfookpigilccaaGreatDoor

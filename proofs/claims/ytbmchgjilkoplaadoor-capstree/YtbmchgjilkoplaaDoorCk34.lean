import Derived.Test.YtbmchgjilkoplaaDoorCk32
import Derived.Test.YtbmchgjilkoplaaDoorCk33
/- Chapter 7, the program's store: relink, its walk. -/
namespace Go.Proofs.YtbmchgjilkoplaaDoor
open Go.ChangeShapes Go.WideShapes Go.ChangeAt Go.RowKit
open Go.Vx
set_option linter.unusedVariables false
variable {U : Nat → Prop} {w : World} {xb mb : Nat} {D : DataW Value} {G : Int → Nat} {bs : List (Int × Int)} {es : List En} {Q : Sl → Pl}

theorem only_of_grown {w w2 : World} {r : Nat} (h : w.grownBy w2 (some r)) : Only (fun j => j = r) w w2 := ⟨h.os, h.tape, h.output, h.size, fun k hk hn => h.block k hk (fun e => hn (by injection e))⟩
theorem RlR.next {U : Nat → Prop} {w : World} {xb mb r ab tb : Nat} {D : DataW Value} {G : Int → Nat} {bs : List (Int × Int)} {QQ : Sl → Pl} {a t : Sl} {left left2 : Lit → Bool} {cnt cnt2 : Nat} {wr wx : World} (h : RlR U w xb mb r ab tb D G bs QQ a t left cnt wr) (hr : wx.ranges Tryd.prog 3 RH mb r bs.length D left2 cnt2) (hg : wr.grownBy wx (some r)) : RlR U w xb mb r ab tb D G bs QQ a t left2 cnt2 wx := by
  have ho := only_of_grown hg
  have hg2 : ∀ k, (sizeF bs k).isSome = true → ¬ (G k = r) := fun k hk e => by
    obtain ⟨n, hn⟩ := Option.isSome_iff_exists.1 hk
    obtain ⟨cur, hc⟩ := own_tag (h.xs.bl k n hn) (k := G k) rfl
    exact iter_ne h.rg hc e.symm
  exact ⟨hr, h.xs.aside ho (fun e => iter_ne h.rg h.xs.ns e.symm) (fun e => iter_ne h.rg h.xs.x e.symm) (fun e => h.rg.ne e.symm) hg2 h.xs.un h.xs.ux h.xs.um h.xs.ug (fun k hk => Nat.lt_of_lt_of_le (h.xs.low k hk) ho.size), by rw [ho.block ab (lt_of_some h.av) (fun e => iter_ne h.rg h.av e.symm)]; exact h.av, by rw [ho.block tb (lt_of_some h.tv) (fun e => iter_ne h.rg h.tv e.symm)]; exact h.tv, h.nr, h.on.trans (ho.mono (fun k _ hk => by subst hk; exact h.nr))⟩
def sliceP (p : Option Addr × Nat × Nat) : Value := .slice p.1 p.2.1 p.2.2
set_option maxRecDepth 100000 in
set_option maxHeartbeats 2000000 in
theorem relink_ok (h : XsAt U w xb mb D G bs Q) (a t : Sl) : Calls Tryd.prog 55 #[.pointer (some ⟨xb, 0, none⟩), .agg #[.int .i64 a.1, .int .i64 a.2], .agg #[.int .i64 t.1, .int .i64 t.2]] w fun e w' => (∃ v, e = .returned v) ∧ XsAt U w' xb mb D G bs (fun s => relF a t (Q s)) ∧ Only (fun k => ¬ U k) w w' := by
  obtain ⟨a1, a2⟩ := a
  obtain ⟨t1, t2⟩ := t
  dsimp only
  obtain ⟨w1, hw1⟩ : ∃ w1, w1 = (w.alloc (.cells #[.int .i64 a1, .int .i64 a2] 62)).alloc (.cells #[.int .i64 t1, .int .i64 t2] 62) := ⟨_, rfl⟩
  have ho1 : Only (fun _ => False) w w1 := by rw [hw1]; exact ((Only.refl _ w).alloc _).alloc _
  have hav : w1.heap[w.heap.size]? = some (.cells #[.int .i64 a1, .int .i64 a2] 62 (0, 0)) := by
    rw [hw1, RowKit.Below.heap_alloc _ _ _ (by simp)]
    exact heap_alloc_last w _
  have htv : w1.heap[w.heap.size + 1]? = some (.cells #[.int .i64 t1, .int .i64 t2] 62 (0, 0)) := by
    rw [hw1]
    have := heap_alloc_last (w.alloc (.cells #[.int .i64 a1, .int .i64 a2] 62)) (.cells #[.int .i64 t1, .int .i64 t2] 62)
    simpa using this
  have hx1 := h.quiet ho1
  have c0 := hx1.c0
  have HS : Hid (∀ w2 r, w2.ranges Tryd.prog 3 RH mb r bs.length D (Maps.has D) (Maps.size D) → w1.grownBy w2 none → w1.heap.size ≤ r → RlR U w xb mb r w.heap.size (w.heap.size + 1) D G bs (QL Q (a1, a2) (t1, t2) (Maps.has D)) (a1, a2) (t1, t2) (Maps.has D) (Maps.size D) w2) := fun w2 r hr hg hle => by
    have ho2 : Only (fun _ => False) w1 w2 := ⟨hg.os, hg.tape, hg.output, hg.size, fun k hk _ => hg.block k hk (by simp)⟩
    have hx2 := hx1.quiet ho2
    refine ⟨hr, hx2.sameIn (fun k n i hk hi => ?_), by rw [ho2.block _ (lt_of_some hav) (fun h => h)]; exact hav, by rw [ho2.block _ (lt_of_some htv) (fun h => h)]; exact htv, fun hu => ?_, (ho1.trans ho2).mono (fun _ _ h => h.elim)⟩
    · unfold QL
      rw [if_pos]
      obtain ⟨b, hb1, hb2⟩ : ∃ b ∈ bs, b.1 = k := ⟨_, size_mem hk, rfl⟩
      show Maps.has D (.int .i64 k) = true
      rw [h.hs k (by rw [← hb2]; exact h.ib b hb1), hk]
      rfl
    · have := h.low r hu
      have := ho1.size
      omega
  have HX1 := Vx.hid hx1
  have HW1 := Vx.hid ho1
  clear h hav htv hx1 ho1
  go_enter Tryd.func55, Tryd.ntmps55
  go_upto_region 1 with fail
  rw [← hw1]
  obtain ⟨ab, hab⟩ : ∃ ab, ab = w.heap.size := ⟨_, rfl⟩
  obtain ⟨tb, htb⟩ : ∃ tb, tb = w.heap.size + 1 := ⟨_, rfl⟩
  rw [← htb, ← hab] at HS
  rw [← htb, ← hab]
  clear hw1 hab htb
  go_wp2_with (at_range; refine wpList_range_own _ rfl _ 77 rfl 3 80 keyedI Tryd.underlying77 RH mb bs.length D rfl HX1.out.m ?_; intro w2 hrg hgr hsz; have HR0 := Vx.hid (HS.out w2 _ hrg hgr (Nat.le_refl _)); clear hrg hgr hsz)
  obtain ⟨r, hr⟩ : ∃ r, r = w1.heap.size := ⟨_, rfl⟩
  rw [← hr] at HR0 ⊢
  clear hr c0 HS HX1 HW1
  go_frame
  go_loopw [7, 8, 9] (fun _ _ _ wr => ∃ left cnt, Hid (RlR U w xb mb r ab tb D G bs (QL Q (a1, a2) (t1, t2) left) (a1, a2) (t1, t2) left cnt wr)) (fun _ _ _ wr => wr.rangeLeft mb r)
  case atStart => exact ⟨_, _, HR0⟩
  case round =>
    clear HR0
    obtain ⟨left, cnt, HR⟩ := hrel
    go_wp2_with (at_next; refine wpList_next_ranges _ rfl _ rfl 3 keyedI RH (Value.int .i64) sliceP (fun key kl hk => by obtain ⟨x, hx, _⟩ := Maps.keyOf_i64 Tryd.underlying3 hk; exact ⟨x, hx⟩) (fun v y hv => by obtain ⟨p, n, c, hp, _⟩ := RH_inv hv; exact ⟨(p, n, c), hp⟩) mb r bs.length D left cnt rfl HR.out.rg ?_ ?_)
    · intro hc0 hl0
      have HF : Hid (XsAt U wr xb mb D G bs (fun s => relF (a1, a2) (t1, t2) (Q s)) ∧ Only (fun k => ¬ U k) w wr) := ⟨HR.out.xs.same (fun s => by unfold QL; rw [hl0]; rfl), HR.out.on⟩
      clear hc0 hl0 HR
      go_wp2_with fail
      go_end0
      exact ⟨⟨_, rfl⟩, HF.out.1, HF.out.2⟩
    · intro x p n c kl y yp w3 cnt3 hkey hlk hv hat hrg3 hlt hgr hsz hen
      obtain ⟨hxi, rfl, m, hm, rfl, rfl, rfl⟩ := HR.out.xs.nextKey hkey hv hat
      have hbn := HR.out.xs.bn x m hm
      obtain ⟨N, hN⟩ : ∃ N : Nat, m = (N : Int) := ⟨m.toNat, by omega⟩
      subst hN
      have hN64 : N ≤ 64 := by omega
      have hen2 : (Instr.entry (.pointer (some ⟨r, 0, none⟩))).run Tryd.prog w3 = .ok (.tuple #[.int .i64 x, .slice (some ⟨G x, 0, none⟩) N N]) w3 := hen
      have HM := Vx.hid hm
      have HL : Hid (wr.rangeLeft mb r = cnt ∧ cnt3 < cnt) := ⟨HR.out.rg.left_eq, hlt⟩
      have HR3 : Hid (RlR U w xb mb r ab tb D G bs (QK Q (a1, a2) (t1, t2) left x 0) (a1, a2) (t1, t2) (fun z => left z && !z.sameKey (.int .i64 x)) cnt3 w3) := by
        refine (HR.out.next hrg3 hgr).same (fun k q i hk hi => ?_)
        unfold QK QL
        by_cases hkx : k = x
        · subst hkx
          rw [if_pos hlk, if_pos rfl, if_neg (by simp only; omega)]
        · rw [if_neg hkx]
      have HE3 : Hid (∀ cntx wx, RlR U w xb mb r ab tb D G bs (QK Q (a1, a2) (t1, t2) left x N) (a1, a2) (t1, t2) (fun z => left z && !z.sameKey (.int .i64 x)) cntx wx → RlR U w xb mb r ab tb D G bs (QL Q (a1, a2) (t1, t2) (fun z => left z && !z.sameKey (.int .i64 x))) (a1, a2) (t1, t2) (fun z => left z && !z.sameKey (.int .i64 x)) cntx wx) := fun cntx wx h => by
        refine h.same (fun k q i hk hi => ?_)
        unfold QK QL
        by_cases hkx : k = x
        · subst hkx
          rw [HM.out] at hk
          injection hk with hk
          subst hk
          have h9 : (left (.int .i64 k) && !(Lit.int .i64 k).sameKey (.int .i64 k)) = false := by simp [Lit.sameKey]
          rw [if_pos rfl, if_pos hi, if_neg (by simp only; rw [h9]; decide)]
        · have h9 : (left (.int .i64 k) && !(Lit.int .i64 k).sameKey (.int .i64 x)) = left (.int .i64 k) := by simp [Lit.sameKey, hkx]
          rw [if_neg hkx]
          simp only [h9]
      clear hkey hlk hv hat hrg3 hlt hgr hsz hen hbn hm HR hxi
      generalize hlf : (fun z : Lit => left z && !z.sameKey (.int .i64 x)) = left2 at HR3 HE3
      generalize hq0 : QK Q (a1, a2) (t1, t2) left x = QX at HR3 HE3
      have HQ0 := Vx.hid hq0
      have HLF := Vx.hid hlf
      clear hlf hq0
      rw [Int.toNat_natCast]
      go_wp2_with fail
      go_loopw [8, 9, 21] (fun _ _ d wx => ∃ k : Nat, d = .int .i64 (k : Int) ∧ k ≤ N ∧ Hid (RlR U w xb mb r ab tb D G bs (QX k) (a1, a2) (t1, t2) left2 cnt3 wx)) (fun _ _ d _ => N - (RowKit.intOf d).toNat)
      case atStart => exact ⟨0, rfl, by omega, HR3⟩
      case round =>
        clear HR3 hen2
        obtain ⟨k, rfl, hk, HRK⟩ := hrel
        by_cases hlt : k < N
        · have h1 : (k : Int) < (N : Int) := by omega
          have hidx : 0 ≤ (k : Int) ∧ (k : Int) < (N : Int) := by omega
          have hwk : IntKind.i64.wrap ((k : Int) + 1) = (k : Int) + 1 := by rw [IntKind.wrap_i64]; omega
          obtain ⟨c0, c1, c2, c3, c4, c5, c6, c7, c8, c9⟩ := HRK.out.xs.p10 HM.out k h1
          have hqk : QX k (x, (k : Int)) = Q (x, (k : Int)) := by rw [← HQ0.out]; exact QK_at _ _ _ _ _ _
          have HQS : Hid (∀ s, QX (k + 1) s = setQ (QX k) (x, (k : Int)) (relF (a1, a2) (t1, t2) (Q (x, (k : Int)))) s) := fun s => by rw [← HQ0.out]; exact QK_set _ _ _ _ _ _ _
          rw [hqk] at c0 c1 c2 c3 c4 c5 c6 c7 c8 c9
          have HQK := Vx.hid hqk
          have HF := Vx.hid (isFull_ok (Q (x, (k : Int))))
          generalize hp : Q (x, (k : Int)) = p at c0 c1 c2 c3 c4 c5 c6 c7 c8 c9 HF HQS HQK
          obtain ⟨⟨d0, d1, d2, d3, d4, d5, d6, d7⟩, ⟨f0, f1⟩⟩ := p
          dsimp only at c0 c1 c2 c3 c4 c5 c6 c7 c8 c9 HF
          have HAL : Hid (∀ o, Only (fun _ => False) wr (wr.alloc o)) := fun o => (Only.refl _ wr).alloc o
          clear hp hqk hlt
          have HSAME : Hid (relF (a1, a2) (t1, t2) ((⟨d0, d1, d2, d3, d4, d5, d6, d7⟩, (f0, f1)) : Pl) = (⟨d0, d1, d2, d3, d4, d5, d6, d7⟩, (f0, f1)) → ∀ wy, Only (fun _ => False) wr wy → RlR U w xb mb r ab tb D G bs (QX (k + 1)) (a1, a2) (t1, t2) left2 cnt3 wy) := fun he wy ho => by
            refine (HRK.out.quiet ho).same (fun k2 n2 i _ _ => ?_)
            rw [HQS.out, he]
            unfold setQ
            by_cases h9 : (k2, (i : Int)) = (x, (k : Int))
            · rw [if_pos h9, h9, HQK.out]
            · rw [if_neg h9]
          by_cases hz : d0 = 0
          · subst hz
            have HRS : Hid (∀ wy, Only (fun _ => False) wr wy → RlR U w xb mb r ab tb D G bs (QX (k + 1)) (a1, a2) (t1, t2) left2 cnt3 wy) := HSAME.out (by unfold relF; rw [if_neg (fun h => h.1 rfl)])
            go_wp2_with fail
            refine (HF.out _).mono ?_
            rintro e w4 ⟨rfl, h4⟩
            have H4 := Vx.hid ((HAL.out (.cells #[.int .i64 0, .int .i64 d1, .int .i64 d2, .int .u32 d3, .int .u32 d4, .int .i64 d5, .int .i64 d6, .int .u32 d7, .int .i64 f0, .int .i64 f1] 105)).trans h4)
            clear h4 c0 c1 c2 c3 c4 c5 c6 c7 c8 c9 HAL HF HSAME
            go_wp2_with fail
            go_roundw
            case rel => exact ⟨k + 1, by go_num, by omega, HRS.out _ H4.out⟩
            case measure => simp only [RowKit.intOf]; omega
          · have hz2 : (d0 != 0) = true := by simp [hz]
            rw [hz2] at HF
            go_wp2_with fail
            refine (HF.out _).mono ?_
            rintro e w4 ⟨rfl, h4⟩
            have hO4 := (HAL.out (.cells #[.int .i64 d0, .int .i64 d1, .int .i64 d2, .int .u32 d3, .int .u32 d4, .int .i64 d5, .int .i64 d6, .int .u32 d7, .int .i64 f0, .int .i64 f1] 105)).trans h4
            have hnb : w4.heap[wr.heap.size]? = some (.cells #[.int .i64 d0, .int .i64 d1, .int .i64 d2, .int .u32 d3, .int .u32 d4, .int .i64 d5, .int .i64 d6, .int .u32 d7, .int .i64 f0, .int .i64 f1] 105 (0, 0)) := by
              have h9 := heap_alloc_last wr (.cells #[.int .i64 d0, .int .i64 d1, .int .i64 d2, .int .u32 d3, .int .u32 d4, .int .i64 d5, .int .i64 d6, .int .u32 d7, .int .i64 f0, .int .i64 f1] 105)
              rw [h4.block _ (lt_of_some h9) (fun h => h)]
              exact h9
            obtain ⟨⟨n0, n1, n2, n3, n4, n5, n6, n7, n8, n9⟩, nf⟩ := place_cells hnb
            have H4 := Vx.hid hO4
            have HR4 := Vx.hid (HRK.out.quiet hO4)
            obtain ⟨⟨av0, av1⟩, _⟩ := slot_cells HR4.out.av
            clear h4 c0 c1 c2 c3 c4 c5 c6 c7 c8 c9 HAL HF hnb hO4 n0 n1 n2 n3 n4 n5 n6 n7 nf
            obtain ⟨nb, hnb2⟩ : ∃ nb, nb = wr.heap.size := ⟨_, rfl⟩
            rw [← hnb2] at n8 n9 ⊢
            clear hnb2
            by_cases e0 : f0 = a1
            · subst e0
              by_cases e1 : f1 = a2
              · subst e1
                obtain ⟨⟨tv0, tv1⟩, _⟩ := slot_cells HR4.out.tv
                obtain ⟨q0, q1, q2, q3, q4, q5, q6, q7, q8, q9⟩ := HR4.out.xs.p10 HM.out k h1
                have gf := bl_fz HR4.out.xs HM.out
                clear q0 q1 q2 q3 q4 q5 q6 q7
                go_wp2_with fail
                go_roundw
                case rel =>
                  refine ⟨k + 1, by go_num, by omega, ?_⟩
                  have hkl : k < (rowQ (QX k) x (N : Int).toNat).length := by rw [rowQ_len]; omega
                  obtain ⟨hw, ho⟩ := pl_from (HR4.out.xs.bl x N HM.out) (rowQ_len _ _ _).symm k hkl (t1, t2)
                  rw [rowQ_at] at hw
                  have h8 := HR4.out.put HM.out k _ hw ho
                  refine h8.same (fun k2 n2 i _ _ => ?_)
                  rw [HQS.out, HQK.out]
                  unfold relF
                  rw [if_pos ⟨hz, rfl⟩]
                case measure => simp only [RowKit.intOf]; omega
              · have e2 : (f1 == a2) = false := beq_eq_false_iff_ne.2 e1
                have HRS : Hid (∀ wy, Only (fun _ => False) wr wy → RlR U w xb mb r ab tb D G bs (QX (k + 1)) (f0, a2) (t1, t2) left2 cnt3 wy) := HSAME.out (by unfold relF; rw [if_neg (fun h => e1 (congrArg Prod.snd h.2))])
                go_wp2_with fail
                go_roundw
                case rel => exact ⟨k + 1, by go_num, by omega, HRS.out _ H4.out⟩
                case measure => simp only [RowKit.intOf]; omega
            · have e2 : (f0 == a1) = false := beq_eq_false_iff_ne.2 e0
              have HRS : Hid (∀ wy, Only (fun _ => False) wr wy → RlR U w xb mb r ab tb D G bs (QX (k + 1)) (a1, a2) (t1, t2) left2 cnt3 wy) := HSAME.out (by unfold relF; rw [if_neg (fun h => e0 (congrArg Prod.fst h.2))])
              go_wp2_with fail
              go_roundw
              case rel => exact ⟨k + 1, by go_num, by omega, HRS.out _ H4.out⟩
              case measure => simp only [RowKit.intOf]; omega
        · obtain rfl : k = N := by omega
          have h1 : ¬ (k : Int) < (k : Int) := by omega
          go_wp2_with fail
          go_roundw
          case rel => exact ⟨left2, cnt3, HE3.out _ _ HRK.out⟩
          case measure =>
            rw [HL.out.1, HRK.out.rg.left_eq]
            exact HL.out.2
end Go.Proofs.YtbmchgjilkoplaaDoor

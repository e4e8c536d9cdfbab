/- The walk of package asm's tokens. -/
import Derived.Test.YtmfookpigilccaaGreatDoorQ5
namespace Go.Proofs.YtmfookpigilccaaGreatDoor
open Go.ChangeShapes Go.WideShapes Go.ChangeAt Go.RowKit
open Go.Vx (tokB tokF spanN strV)

set_option maxRecDepth 20000 in
set_option maxHeartbeats 4000000 in
theorem tokens_any (t : List UInt8) (ht : t.length ≤ 20000) (hn : (35 : UInt8) ∉ t) (mx : Int) (w : World) (hm : MaxAt mx w) :
    Calls Tryz.prog 33 #[.string ⟨t.toArray⟩] w fun e w' => (∃ v, e = .returned v ∧ w'.ownsRow w.heap.size 9 1 v (tokF t).length ((tokF t).map strV)) ∧ Below w.heap.size w w' := by
  obtain ⟨i0, hi, hz0, hz1, hz2⟩ := info_parts Tryz.infoStr
  have HM : Hid (MaxAt mx w) := hm
  have HNO : Hid ((35 : UInt8) ∉ t) := hn
  clear hm hn
  go_enter Tryz.func33, Tryz.ntmps33
  go_wp2_with fail
  refine (cut_none t mx HNO.out ht _ HM.out).mono ?_
  rintro e w1 ⟨rfl, nd, rfl⟩
  have hsz1 : (w.drewN nd).heap.size = w.heap.size := rfl
  have HB1 : Hid (Below w.heap.size w (w.drewN nd)) := ⟨rfl, rfl, rfl, Nat.le_refl _, fun _ _ => rfl⟩
  generalize w.drewN nd = w1 at *
  go_wp2_with fail
  go_loopw [3, 6] (fun s v wr => ∃ k : Nat, ∃ xs : List (List UInt8), k ≤ t.length ∧ s = .string ⟨(t.drop k).toArray⟩ ∧ Hid (xs ++ tokF (t.drop k) = tokF t) ∧ xs.length ≤ k ∧ wr.ownsRow w.heap.size 9 1 v xs.length (xs.map strV) ∧ Below w.heap.size w wr ∧ w.heap.size ≤ wr.heap.size)
    (fun s _ _ => strLen s)
  case atStart => exact ⟨0, [], by omega, rfl, rfl, by simp, World.ownsRow_nil _ _ _ _, HB1.out, by omega⟩
  case round =>
    obtain ⟨k, xs, hk, rfl, HX, hxl, hown, hbel, hbs⟩ := hrel
    by_cases hlt : k < t.length
    · obtain ⟨c, hc⟩ : ∃ c, t[k] = c := ⟨_, rfl⟩
      have hr0 : t.drop k = c :: t.drop (k + 1) := by rw [List.drop_eq_getElem_cons hlt, hc]
      have hc35 : c ≠ 35 := fun e => HNO.out (by rw [← e, ← hc]; exact List.getElem_mem _)
      obtain ⟨r, hr⟩ : ∃ r, t.drop k = r := ⟨_, rfl⟩
      have hrl : r.length = t.length - k := by rw [← hr]; simp
      have hne : (r == []) = false := by rw [← hr, hr0]; rfl
      have hne2 : (r != []) = true := by rw [bne, hne]; rfl
      obtain ⟨m, hm⟩ : ∃ m, max (spanN r) 1 = m := ⟨_, rfl⟩
      have hml : m ≤ r.length := by have := Vx.spanN_le r; omega
      have hm1 : 1 ≤ m := by omega
      have hst := Vx.tokF_step c (t.drop (k + 1)) hc35 m (by rw [← hr0, hr]; exact hm)
      rw [← hr0, hr] at hst
      obtain ⟨q, hq⟩ : ∃ q, r.take m = q := ⟨_, rfl⟩
      have hql : q.length = m := by rw [← hq]; simp; omega
      have hsl1 := slice_to r m hml
      have hsl2 : ∀ wv, (Instr.slice 9 (.string ⟨r.toArray⟩) (some (.int .i64 (q.length : Int))) none none).run Tryz.prog wv = .ok (.string ⟨(t.drop (k + m)).toArray⟩) wv := by
        intro wv
        rw [hql, slice_from r m hml, ← hr, List.drop_drop]
      rw [hq] at hsl1 hst
      have hdd : r.drop m = t.drop (k + m) := by rw [← hr, List.drop_drop]
      rw [hdd] at hst
      have HST : Hid (tokF r = (if q = [32] ∨ q = [9] then [] else [q]) ++ tokF (t.drop (k + m))) := hst
      have HX2 : Hid (xs ++ tokF r = tokF t) := by have := HX.out; rw [hr] at this; exact this
      have HMM : Hid (max (spanN r) 1 = m) := hm
      rw [hr]
      have HRL : Hid (r.length = t.length - k) := hrl
      have HQL : Hid (q.length = m) := hql
      have hmeas : strLen (.string ⟨(t.drop (k + m)).toArray⟩) < strLen (.string ⟨r.toArray⟩) := by
        simp [strLen, ByteArray.size, hrl]; omega
      have HME : Hid (strLen (.string ⟨(t.drop (k + m)).toArray⟩) < strLen (.string ⟨r.toArray⟩)) := hmeas
      have hkm : k + m ≤ t.length := by omega
      have hrb : r.length ≤ 20000 := by omega
      clear hr hr0 hc HX hst hm hq hdd hrl hql hmeas hc35
      by_cases hb1 : q = [32]
      · have e1 : (q == [32]) = true := by simp [hb1]
        have e2 : (q != [32]) = false := by simp [hb1]
        have HX3 : Hid (xs ++ tokF (t.drop (k + m)) = tokF t) := by have := HX2.out; rw [HST.out, if_pos (Or.inl hb1)] at this; exact this
        clear hb1 HX2 HST
        go_wp2_with (go_at_call 56; refine (tokenLen_any r hrb _).mono ?_; rintro e w2 ⟨rfl, rfl⟩; rw [HMM.out])
        go_roundw
        case rel => exact ⟨k + m, xs, hkm, rfl, HX3, by omega, hown, hbel, hbs⟩
        case measure => exact HME.out
      · by_cases hb2 : q = [9]
        · have e1 : (q == [32]) = false := by simp [hb1]
          have e2 : (q != [32]) = true := by simp [hb1]
          have e3 : (q == [9]) = true := by simp [hb2]
          have e4 : (q != [9]) = false := by simp [hb2]
          have HX3 : Hid (xs ++ tokF (t.drop (k + m)) = tokF t) := by have := HX2.out; rw [HST.out, if_pos (Or.inr hb2)] at this; exact this
          clear hb1 hb2 HX2 HST
          go_wp2_with (go_at_call 56; refine (tokenLen_any r hrb _).mono ?_; rintro e w2 ⟨rfl, rfl⟩; rw [HMM.out])
          go_roundw
          case rel => exact ⟨k + m, xs, hkm, rfl, HX3, by omega, hown, hbel, hbs⟩
          case measure => exact HME.out
        · have e1 : (q == [32]) = false := by simp [hb1]
          have e2 : (q != [32]) = true := by simp [hb1]
          have e3 : (q == [9]) = false := by simp [hb2]
          have e4 : (q != [9]) = true := by simp [hb2]
          have HX3 : Hid ((xs ++ [q]) ++ tokF (t.drop (k + m)) = tokF t) := by
            have := HX2.out
            rw [HST.out, if_neg (by rintro (h | h); exact hb1 h; exact hb2 h)] at this
            show (xs ++ [q]) ++ tokF (t.drop (k + m)) = tokF t
            rw [← this]; simp
          have Hq : Hid (Value.string ⟨q.toArray⟩ = strV q) := rfl
          clear hb1 hb2 HX2 HST
          go_wp2_with (first | (go_at_call 56; refine (tokenLen_any r hrb _).mono ?_; rintro e w2 ⟨rfl, rfl⟩; rw [HMM.out]) | (at_builtin; refine wpList_append_own _ rfl _ _ 37 rfl w.heap.size 9 i0 (.string ⟨#[]⟩) 1 16 Tryz.underlying37 hi hz0 hz1 hz2 rfl (by decide) _ _ _ rfl (hown.alloc _) ⟨_, 0, none⟩ 1 1 [.string ⟨q.toArray⟩] rfl rfl ?c1A ?c2A ?c3A ?c4A ?c5A ?_))
          first
          | (case c1A =>
              intro j u hj
              match j, hj with
              | 0, hj => simp at hj; subst hj; simp [Addr.add])
          | skip
          first
          | (case c2A => first | rfl | (intro u hu; simp at hu; subst hu; rfl))
          | skip
          first
          | (case c3A => unfold maxLen; omega)
          | skip
          first
          | (case c4A => omega)
          | skip
          first
          | (case c5A => first | omega | (simp; omega))
          | skip
          intro v' w2 hown' hgrow' _
          rw [Hq.out] at hown'
          obtain ⟨hown2, hbel2, hbs2⟩ := tok_push (s := q) hbel hbs hown hown' hgrow'
          clear hown' hgrow' hown hbel hbs
          go_wp2_with fail
          go_roundw
          case rel => exact ⟨k + m, xs ++ [q], hkm, rfl, HX3, by simp; omega, hown2, hbel2, hbs2⟩
          case measure => exact HME.out
    · have hke : t.drop k = [] := List.drop_of_length_le (by omega)
      have HE : Hid (xs = tokF t) := by
        have := HX.out
        rw [hke, Vx.tokF_nil, List.append_nil] at this
        exact this
      rw [hke]
      have e1 : (([] : List UInt8) != []) = false := rfl
      clear HX hke
      go_wp2_with fail
      go_ret
      refine ⟨⟨_, rfl, ?_⟩, hbel⟩
      rw [← HE.out]
      exact hown
end Go.Proofs.YtmfookpigilccaaGreatDoor

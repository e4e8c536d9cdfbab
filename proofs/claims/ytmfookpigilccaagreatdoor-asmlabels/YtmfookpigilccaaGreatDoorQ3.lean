/- Walks of package asm's opOf, isName, atLabel, label. -/
import Derived.Test.YtmfookpigilccaaGreatDoorQ2
namespace Go.Vx
def opFrom (t : List UInt8) : Nat → Int → Int
  | 0, _ => 0
  | n + 1, i => if nameB i = t then i else opFrom t n (i + 1)
/-- The Op that a token names; 0: none. -/
def opF (t : List UInt8) : Int := opFrom t 48 1
end Go.Vx
namespace Go.Proofs.YtmfookpigilccaaGreatDoor
open Go.ChangeShapes Go.WideShapes Go.ChangeAt Go.RowKit
open Go.Vx (tokB tokF spanN strV labB labN digitB Only nameB opF opFrom)

theorem opFrom_hit (t : List UInt8) (k : Int) (h0 : 1 ≤ k) (hk : k ≤ 48) (h : nameB k = t) : opFrom t (49 - k).toNat k = k := by
  rw [show (49 - k).toNat = (49 - (k + 1)).toNat + 1 by omega, opFrom, if_pos h]
theorem opFrom_miss (t : List UInt8) (k : Int) (h0 : 1 ≤ k) (hk : k ≤ 48) (h : nameB k ≠ t) : opFrom t (49 - k).toNat k = opFrom t (49 - (k + 1)).toNat (k + 1) := by
  rw [show (49 - k).toNat = (49 - (k + 1)).toNat + 1 by omega, opFrom, if_neg h]

set_option maxHeartbeats 1000000 in
theorem opOf_any (t : List UInt8) (w : World) :
    Calls Tryz.prog 82 #[.string ⟨t.toArray⟩] w fun e w' => e = .returned (.int .i64 (opF t)) ∧ w' = w := by
  go_enter Tryz.func82, Tryz.ntmps82
  go_wp2
  go_loop [3] (fun a => ∃ k : Int, 1 ≤ k ∧ k ≤ 49 ∧ a = .int .i64 k ∧ Hid (opFrom t (49 - k).toNat k = opF t)) (fun a => (49 - intOf a).toNat)
  case atStart => exact ⟨1, by omega, by omega, rfl, rfl⟩
  case round =>
    obtain ⟨k, h1, h2, rfl, HR⟩ := hrel
    by_cases hlt : k ≤ 48
    · obtain ⟨nm, hnm⟩ : ∃ nm, nameB k = nm := ⟨_, rfl⟩
      have HN : Hid (nameB k = nm) := hnm
      by_cases he : nm = t
      · have HE : Hid (k = opF t) := by
          show k = opF t
          rw [← HR.out, opFrom_hit t k h1 hlt (by rw [hnm]; exact he)]
        have hb : (nm == t) = true := by simp [he]
        clear hnm he
        go_wp2_with fail
        refine (name_any k h1 hlt _).mono ?_
        rintro e w2 ⟨rfl, rfl⟩
        rw [HN.out]
        go_wp2
        go_ret
        exact ⟨ret_int HE.out, rfl⟩
      · have HE : Hid (opFrom t (49 - (k + 1)).toNat (k + 1) = opF t) := by
          show opFrom t (49 - (k + 1)).toNat (k + 1) = opF t
          rw [← HR.out, opFrom_miss t k h1 hlt (by rw [hnm]; exact he)]
        have hb : (nm == t) = false := by simp [he]
        clear hnm he
        go_wp2_with fail
        refine (name_any k h1 hlt _).mono ?_
        rintro e w2 ⟨rfl, rfl⟩
        rw [HN.out]
        go_wp2
        go_round
        case rel => exact ⟨k + 1, by omega, by omega, by go_num, HE⟩
        case measure => simp [intOf]; omega
    · have hk : k = 49 := by omega
      subst hk
      have HE : Hid ((0 : Int) = opF t) := HR.out
      go_wp2
      go_ret
      exact ⟨ret_int HE.out, rfl⟩

theorem opF_name (op : Int) (h0 : 1 ≤ op) (h1 : op ≤ 48) : opF (nameB op) = op := by
  have h : ∀ k : Fin 48, opF (nameB ((k.val : Int) + 1)) = (k.val : Int) + 1 := by decide +kernel
  have h' : opF (nameB (((op - 1).toNat : Int) + 1)) = ((op - 1).toNat : Int) + 1 := h ⟨(op - 1).toNat, by omega⟩
  have e : (((op - 1).toNat : Nat) : Int) + 1 = op := by omega
  rw [e] at h'
  exact h'
theorem labN_split (c0 : UInt8) (t : List UInt8) : labN (c0 :: t) = ((c0 :: t).all labB && !(digitB c0)) := rfl
set_option maxRecDepth 20000 in
set_option maxHeartbeats 1000000 in
theorem isName_any (c0 : UInt8) (t : List UInt8) (ht : t.length ≤ 20000) (w : World) :
    Calls Tryz.prog 58 #[.string ⟨(c0 :: t).toArray⟩] w fun e w' => e = .returned (.bool (labN (c0 :: t))) ∧ w' = w := by
  obtain ⟨l, hl⟩ : ∃ l, c0 :: t = l := ⟨_, rfl⟩
  have hlen : l.length ≤ 20001 := by rw [← hl]; simp; exact ht
  have hpos : 0 < l.length := by rw [← hl]; simp
  have HH : Hid (labN l = (l.all labB && !(digitB c0))) := by
    show labN l = _
    rw [← hl]; rfl
  have hidx0 : ∀ wv : World, (Instr.index 9 (.string ⟨l.toArray⟩) (.int .i64 0)).run Tryz.prog wv = .ok (.int .u8 ((c0.toNat : Nat) : Int)) wv := by
    intro wv
    have := index_sign ⟨l.toArray⟩ l 0 rfl hpos wv
    have e : l[0] = c0 := by subst hl; rfl
    rw [e] at this
    exact this
  have hne : (l == []) = false := by rw [← hl]; rfl
  have hps : (ByteArray.mk l.toArray).size = l.length := by simp [ByteArray.size]
  rw [hl]
  clear hl ht
  cases hd : digitB c0 with
  | true =>
    have HD : Hid (digitB c0 = true) := hd
    clear hd
    go_enter Tryz.func58, Tryz.ntmps58
    go_wp2_with (go_at_call 79; refine (isDigit_any _ _).mono ?_; rintro e w' ⟨rfl, rfl⟩; rw [HD.out])
    go_ret
    exact ⟨ret_val (by rw [HH.out, HD.out]; simp [go_sem]), rfl⟩
  | false =>
    have HD : Hid (digitB c0 = false) := hd
    clear hd
    go_enter Tryz.func58, Tryz.ntmps58
    go_wp2_with (go_at_call 79; refine (isDigit_any _ _).mono ?_; rintro e w' ⟨rfl, rfl⟩; rw [HD.out])
    go_loop [13] (fun a => ∃ k : Nat, k ≤ l.length ∧ a = .int .i64 k ∧ Hid ((l.drop k).all labB = l.all labB)) (fun a => l.length - (intOf a).toNat)
    case atStart => exact ⟨0, by omega, rfl, rfl⟩
    case round =>
      obtain ⟨k, hk, rfl, HR⟩ := hrel
      by_cases hlt : k < l.length
      · obtain ⟨c, hc⟩ : ∃ c, l[k] = c := ⟨_, rfl⟩
        have hidx := index_sign ⟨l.toArray⟩ l k rfl hlt
        rw [hc] at hidx
        have HN : Hid ((labB c && (l.drop (k + 1)).all labB) = l.all labB) := by
          have := HR.out
          rw [List.drop_eq_getElem_cons hlt, List.all_cons, hc] at this
          exact this
        clear hc HR
        cases htb : tokB c with
        | false =>
          have HF : Hid (labN l = false) := by
            show labN l = false
            rw [HH.out, ← HN.out]; simp [labB, htb]
          have HTB : Hid (tokB c = false) := htb
          clear htb
          go_wp2_with (go_at_call 78; refine (isTokenByte_any c _).mono ?_; rintro e w2 ⟨rfl, rfl⟩; rw [HTB.out])
          go_ret
          exact ⟨ret_val (by rw [HF.out]; rfl), rfl⟩
        | true =>
          have HTB : Hid (tokB c = true) := htb
          clear htb
          by_cases h45 : c = 45
          · have HF : Hid (labN l = false) := by
              show labN l = false
              rw [HH.out, ← HN.out]; simp [labB, h45]
            have hb : (((c.toNat : Nat) : Int) == 45) = true := by rw [h45]; decide
            clear h45
            go_wp2_with (go_at_call 78; refine (isTokenByte_any c _).mono ?_; rintro e w2 ⟨rfl, rfl⟩; rw [HTB.out])
            go_ret
            exact ⟨ret_val (by rw [HF.out]; rfl), rfl⟩
          · have HN2 : Hid ((l.drop (k + 1)).all labB = l.all labB) := by
              have := HN.out
              have hlb : labB c = true := by unfold labB; rw [HTB.out]; simp [h45]
              rw [hlb, Bool.true_and] at this
              exact this
            have hb : (((c.toNat : Nat) : Int) == 45) = false := by rw [beq_eq_false_iff_ne]; intro h; exact h45 (UInt8.toNat_inj.1 (by show c.toNat = 45; omega))
            clear h45 HN
            go_wp2_with (go_at_call 78; refine (isTokenByte_any c _).mono ?_; rintro e w2 ⟨rfl, rfl⟩; rw [HTB.out])
            go_round
            case rel => exact ⟨k + 1, by omega, by go_num, HN2⟩
            case measure => simp [intOf]; omega
      · have HE : Hid (l.all labB = true) := by
          have := HR.out
          rw [List.drop_of_length_le (by omega)] at this
          exact this.symm
        clear HR
        go_wp2_with fail
        go_ret
        exact ⟨ret_val (by rw [HH.out, HE.out, HD.out]; rfl), rfl⟩
end Go.Proofs.YtmfookpigilccaaGreatDoor

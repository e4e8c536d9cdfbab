import Derived.Test.YtbbabpgmclhinaaCs31
/- Chapter 8, the program's pool: Empty, Mark, At. -/
namespace Go.Proofs.Ytbbabpgmclhinaa
open Go.ChangeShapes Go.WideShapes Go.ChangeAt Go.RowKit
open Go.Vx
set_option linter.unusedVariables false
variable {U V S : Nat → Prop} {w w2 wr wx : World} {xb pb mb gb r N cnt cnt2 : Nat} {P : Int} {D : DataW Value} {os rs : List (Int × Int)} {left left2 : Lit → Bool}

theorem meetN_comm (a n b m : Int) : meetN a n b m = meetN b m a n := by
  unfold meetN
  rw [decide_eq_decide]
  omega
/-- A smaller untyped in it. -/
def smB (n x : Int) : Bool := decide (pgN (1, x) < pgN (1, n)) && mtB (pgA (1, n)) (pgN (1, n)) x
theorem lies_in (hw : PWf P os rs) (n : Int) : liesB os rs n = (inB os (pgA (1, n)) (pgN (1, n)) || rs.any (fun r => smB n r.1)) := by
  unfold liesB inB
  congr 1
  · rw [Bool.eq_iff_iff, List.any_eq_true, List.any_eq_true]
    refine exists_congr fun o => and_congr_right fun ho => ?_
    have hk := hw.ok o ho
    unfold liesO
    rw [meet_o n (by omega), pgA_b, pgN_b, decide_eq_true_iff]
  · congr 1
    funext r
    unfold liesR smB mtB meetB
    rw [Bool.and_comm, meetN_comm]
theorem new_cells (w : World) (x y : Value) (T : TypeId) : ∃ w4, w4 = w.alloc (.cells #[x, y] T) ∧ Only (fun _ => False) w w4 ∧ ∀ wv, Only (fun _ => False) w4 wv → wv.cell? ⟨w.heap.size, 0, none⟩ = some x ∧ wv.cell? ⟨w.heap.size, 1, none⟩ = some y :=
  ⟨_, rfl, (Only.refl _ w).alloc _, fun wv hv => (two_cells (Only.keep hv (heap_alloc_last w _) (fun h => h))).1⟩
set_option maxRecDepth 100000 in
set_option maxHeartbeats 2000000 in
theorem pempty_ok (h : XqAt U w xb mb gb D N os rs) (hw : PWf (N : Int) os rs) (n : Int) (hn : I64 n) : Calls Try.prog 16 #[.pointer (some ⟨xb, 0, none⟩), .int .i64 n] w fun e w' => e = .returned (.tuple #[.bool (emptyR os rs n).1, .int .i64 (emptyR os rs n).2]) ∧ Only (fun _ => False) w w' := by
  have hlk := h.look n hn
  have c0 := h.c0
  cases hi : rgF rs n with
  | none =>
    have HE : Hid (emptyR os rs n = (false, 6)) := by show _ = _; unfold emptyR; rw [hi]
    have HM : markR rs n = (0, 6) := by unfold markR; rw [hi]
    rw [hi, HM] at hlk
    have hl2 : (Instr.lookup 65 (.map (some mb)) (.int .i64 n) true).run Try.prog w = .ok (.tuple #[.int .i64 0, .bool false]) w := hlk
    rw [HE.out]
    clear h hw hlk hi HM hn HE
    go_enter Try.func16, Try.ntmps16
    go_wp2_with fail
    all_goals
      go_ret2
      exact ⟨rfl, Only.refl _ _⟩
  | some i =>
    have hrg : RgOk n := rgF_ok hw.pg hi
    have HE : Hid (emptyR os rs n = (!liesB os rs n, 0)) := by show _ = _; unfold emptyR; rw [hi]
    rw [hi] at hlk
    obtain ⟨mk, hmk⟩ : ∃ mk, mk = (markR rs n).1 := ⟨_, rfl⟩
    rw [← hmk] at hlk
    have hl2 : (Instr.lookup 65 (.map (some mb)) (.int .i64 n) true).run Try.prog w = .ok (.tuple #[.int .i64 mk, .bool true]) w := hlk
    have HLI := Vx.hid (lies_in hw n)
    have hbd := rg_bd hrg
    have hin : (pgA (1, n) + pgN (1, n)) ≤ (N : Int) := by
      obtain ⟨hl, hE⟩ := rgF_at hi
      have := (hw.rk _ (List.getElem_mem hl)).2.2.1
      rw [hE] at this
      rw [pgA_b, pgN_b]
      exact this
    have HUN := Vx.hid (fun wv => punt_ok n hrg wv)
    have HRK : Hid (∀ x ∈ rs.map (·.1), RgOk x) := fun x hx => by
      obtain ⟨r, hr, rfl⟩ := List.mem_map.1 hx
      exact (hw.rk r hr).1
    have hwn : IntKind.i64.wrap (pgA (1, n) + pgN (1, n)) = pgA (1, n) + pgN (1, n) := by rw [IntKind.wrap_i64]; omega
    have HMT : Hid (∀ x, RgOk x → ∀ wv, Calls Try.prog 50 #[.agg #[.int .i64 (pgA (1, x)), .int .i64 (pgN (1, x))], .agg #[.int .i64 (pgA (1, n)), .int .i64 (pgN (1, n))]] wv fun e w' => e = .returned (.bool (mtB (pgA (1, n)) (pgN (1, n)) x)) ∧ Only (fun _ => False) wv w') := fun x hx wv => by
      have := rg_bd hx
      exact pmeets_ok _ _ _ _ hwn (by rw [IntKind.wrap_i64]; omega) wv
    have HSM : Hid (∀ x, smB n x = (decide (pgN (1, x) < pgN (1, n)) && mtB (pgA (1, n)) (pgN (1, n)) x)) := fun x => rfl
    obtain ⟨A, hA⟩ : ∃ A : Nat, pgA (1, n) = (A : Int) := ⟨(pgA (1, n)).toNat, by omega⟩
    obtain ⟨M, hM⟩ : ∃ M : Nat, pgN (1, n) = (M : Int) := ⟨(pgN (1, n)).toNat, by omega⟩
    rw [hA, hM] at HUN HLI HMT
    have HSM2 : Hid (∀ x, smB n x = (decide (pgN (1, x) < (M : Int)) && mtB (A : Int) (M : Int) x)) := fun x => by rw [← hA, ← hM]; exact HSM.out x
    have HHO : Hid (∀ wv, XqAt U wv xb mb gb D N os rs → Calls Try.prog 49 #[.pointer (some ⟨xb, 0, none⟩), .agg #[.int .i64 (A : Int), .int .i64 (M : Int)]] wv fun e w' => e = .returned (.bool (inB os (A : Int) (M : Int))) ∧ Only (fun _ => False) wv w') := fun wv hv => phas_ok hv hw A M (by omega) (by omega)
    have HL0 := Vx.hid (RnR.left0 h (fun r hr => by have := (hw.rk r hr).1; unfold RgOk at this; unfold I64; omega) (smB n))
    have HX := Vx.hid h
    obtain ⟨ib, hib⟩ : ∃ ib, ib = inB os (A : Int) (M : Int) := ⟨_, rfl⟩
    rw [← hib] at HHO HLI
    rw [HE.out]
    dsimp only
    obtain ⟨lb, hlb⟩ : ∃ lb, lb = liesB os rs n := ⟨_, rfl⟩
    rw [← hlb] at HLI ⊢
    clear h hw hlk hi hn HE hbd hrg hin hwn hA hM hib hlb hmk HSM
    go_enter Try.func16, Try.ntmps16
    go_wp2_with fail
    refine (HUN.out _).mono ?_
    rintro e w3 ⟨rfl, h3⟩
    have HX3 := Vx.hid (HX.out.quiet h3)
    have H3 := Vx.hid h3
    clear h3 c0 hl2
    obtain ⟨w4, hw4, ho4, hc4⟩ := new_cells w3 (.int .i64 (A : Int)) (.int .i64 (M : Int)) 75
    have HX4 := Vx.hid (HX3.out.quiet ho4)
    have HO4 := Vx.hid (H3.out.trans ho4)
    obtain ⟨B, hB⟩ : ∃ B, B = w3.heap.size := ⟨_, rfl⟩
    rw [← hB] at hc4
    have HC4 := Vx.hid hc4
    clear hc4 ho4
    go_upto_region 5 with fail
    rw [← hw4, ← hB]
    clear hw4 hB
    obtain ⟨q0, q1⟩ := HC4.out _ (Only.refl _ _)
    go_wp2_with fail
    refine (HHO.out _ HX4.out).mono ?_
    rintro e w5 ⟨rfl, h5⟩
    have HX5 := Vx.hid (HX4.out.quiet h5)
    have HO5 := Vx.hid (HO4.out.trans h5)
    have HC5 : Hid (∀ wv, Only (fun _ => False) w5 wv → wv.cell? ⟨B, 0, none⟩ = some (.int .i64 (A : Int)) ∧ wv.cell? ⟨B, 1, none⟩ = some (.int .i64 (M : Int))) := fun wv hv => HC4.out _ (h5.trans hv)
    clear h5 q0 q1 HX4 HC4 HHO HX HX3
    cases ib with
    | true =>
      have HF : Hid (lb = true) := by show _ = _; rw [HLI.out]; rfl
      go_wp2_with fail
      all_goals
        go_ret2
        exact ⟨by rw [HF.out]; try rfl, HO5.out⟩
    | false =>
      have c0 := HX5.out.c0
      have HS : Hid (∀ w2 r, w2.ranges Try.prog 3 RI mb r rs.length D (Maps.has D) (Maps.size D) → w5.grownBy w2 none → w5.heap.size ≤ r → RnR U w5 xb mb gb r D N os rs (Maps.has D) (Maps.size D) w2) := fun w2 r hr hg hle => ⟨hr, HX5.out.quiet (mi_none hg), hle, mi_none hg⟩
      go_wp2_with (at_range; refine wpList_range_own _ rfl _ 65 rfl 3 3 mi_keyed Try.underlying65 RI mb rs.length D rfl HX5.out.m ?_; intro w2 hrg hgr hsz; have HR0 := Vx.hid (HS.out w2 _ hrg hgr (Nat.le_refl _)); clear hrg hgr hsz)
      obtain ⟨r, hr⟩ : ∃ r, r = w5.heap.size := ⟨_, rfl⟩
      rw [← hr] at HR0 ⊢
      clear hr c0 HS HX5
      go_frame
      go_loopw [9, 10, 32] (fun _ _ _ wr => ∃ left cnt, Hid (RnR U w5 xb mb gb r D N os rs left cnt wr) ∧ Hid (∀ x ∈ rs.map (·.1), left (.int .i64 x) = false → smB n x = false)) (fun _ _ _ wr => wr.rangeLeft mb r)
      case atStart => exact ⟨_, _, HR0, HL0⟩
      case round =>
        clear HR0 HL0
        obtain ⟨left, cnt, HR, HL⟩ := hrel
        go_wp2_with (at_next; refine wpList_next_ranges _ rfl _ rfl 3 mi_keyed RI (Value.int .i64) (Value.int .i64) ki_inv ri_inv' mb r rs.length D left cnt rfl HR.out.rg ?_ ?_)
        · intro hc0 hl0
          have HF : Hid (lb = false) := by show _ = _; rw [HLI.out, seen_end HL.out hl0]; rfl
          clear hc0 hl0
          go_wp2_with fail
          all_goals
            go_ret2
            exact ⟨by rw [HF.out]; try rfl, HO5.out.trans HR.out.on⟩
        · intro x c kl y yp w6 cnt3 hkey hlk hv hat hrg3 hlt hgr hsz hen
          obtain ⟨hxi, rfl, hxm⟩ := HR.out.key hkey hat
          have HXM := Vx.hid hxm
          have HRX := Vx.hid (HRK.out x hxm)
          have HLT : Hid (wr.rangeLeft mb r = cnt ∧ cnt3 < cnt) := ⟨HR.out.rg.left_eq, hlt⟩
          have HR3 : Hid (RnR U w5 xb mb gb r D N os rs (strike left x) cnt3 w6) := HR.out.next hrg3 hgr
          have HUX := Vx.hid (fun wv => punt_ok x HRX.out wv)
          have HME := Vx.hid (fun wv => HMT.out x HRX.out wv)
          have HSX := Vx.hid (HSM2.out x)
          generalize pgA (1, x) = xa at HUX HME
          generalize pgN (1, x) = xn at HUX HME HSX
          obtain ⟨fx, hfx⟩ : ∃ fx, fx = mtB (A : Int) (M : Int) x := ⟨_, rfl⟩
          rw [← hfx] at HME HSX
          clear hkey hlk hv hat hrg3 hlt hgr hsz hxi hxm HR hfx
          go_wp2_with fail
          refine (HUX.out _).mono ?_
          rintro e w7 ⟨rfl, h7⟩
          have HR7 := Vx.hid (HR3.out.quiet h7)
          clear h7 hen
          obtain ⟨w8, hw8, ho8, hc8⟩ := new_cells w7 (.int .i64 xa) (.int .i64 xn) 75
          have HR8 := Vx.hid (HR7.out.quiet ho8)
          obtain ⟨E, hE⟩ : ∃ E, E = w7.heap.size := ⟨_, rfl⟩
          rw [← hE] at hc8
          obtain ⟨p0, p1⟩ := hc8 _ (Only.refl _ _)
          obtain ⟨q0, q1⟩ := HC5.out _ HR8.out.on
          clear hc8 ho8
          go_upto_region 11 with fail
          rw [← hw8, ← hE]
          clear hw8 hE
          by_cases hl : xn < (M : Int)
          · have hl' : decide (xn < (M : Int)) = true := decide_eq_true hl
            have HSX2 : Hid (smB n x = fx) := by show _ = _; rw [HSX.out, hl']; rfl
            go_wp2_with fail
            refine (HME.out _).mono ?_
            rintro e w9 ⟨rfl, h9⟩
            have HR9 := Vx.hid (HR8.out.quiet h9)
            clear h9 p0 p1 q0 q1
            cases fx with
            | true =>
              have HF : Hid (lb = true) := by show _ = _; rw [HLI.out, seen_hit HXM.out HSX2.out]; rfl
              go_wp2_with fail
              all_goals
                go_ret2
                exact ⟨by rw [HF.out]; try rfl, HO5.out.trans HR9.out.on⟩
            | false =>
              have HL5 := Vx.hid (seen_step HL.out HSX2.out)
              go_wp2_with fail
              go_roundw
              case rel => exact ⟨_, cnt3, HR9, HL5⟩
              case measure => rw [HLT.out.1, HR9.out.rg.left_eq]; exact HLT.out.2
          · have hl' : decide (xn < (M : Int)) = false := decide_eq_false hl
            have HSX2 : Hid (smB n x = false) := by show _ = _; rw [HSX.out, hl']; rfl
            have HL5 := Vx.hid (seen_step HL.out HSX2.out)
            go_wp2_with fail
            go_roundw
            case rel => exact ⟨_, cnt3, HR8, HL5⟩
            case measure => rw [HLT.out.1, HR8.out.rg.left_eq]; exact HLT.out.2
end Go.Proofs.Ytbbabpgmclhinaa

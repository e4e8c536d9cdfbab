/- Walks of the document's chapter 5: Tables, Mappings. -/
import Derived.Test.YtflmobffeeocdaaGreatDoorG3
import Derived.Test.YtflmobffeeocdaaGreatDoorG4
namespace Go.Proofs.YtflmobffeeocdaaGreatDoor
open Go.ChangeShapes Go.WideShapes Go.ChangeAt Go.RowKit
open Go.Vx

theorem refTables_no {w : World} {br bb n : Nat} {f : Nat → UInt8} (h : RefAt w br bb n f) (root : Int) (hb : hasB n root = false) :
    Calls Tryz.prog 48 #[.pointer (some ⟨br, 0, none⟩), .int .i64 root] w fun e w' => e = .returned (.tuple #[.slice none 0 0, .int .i64 1]) ∧ Only (fun _ => False) w w' := by
  have HHP := Vx.hid (hasPages_any h root 0)
  rw [hb, Bool.false_and] at HHP
  clear h hb
  go_enter Tryz.func48, Tryz.ntmps48
  go_wp2_with fail
  refine HHP.out.mono ?_
  rintro e w' ⟨rfl, h⟩
  have h2 := h.symm; clear h; subst h2
  go_wp2_with fail
  all_goals
    go_ret2
    exact ⟨rfl, Only.refl _ _⟩
set_option maxHeartbeats 2000000 in
theorem refTables_ok {w : World} {br bb n : Nat} {f : Nat → UInt8} (h : RefAt w br bb n f) (root : Nat) (hb : root < n) :
    Calls Tryz.prog 48 #[.pointer (some ⟨br, 0, none⟩), .int .i64 (root : Int)] w fun e w' => ∃ v, e = .returned (.tuple #[v, .int .i64 0]) ∧ MkR w v (tabsF f n root 1024) w' := by
  have HHP := Vx.hid (hasPages_any h (root : Int) 0)
  rw [show (hasB n (root : Int) && hasB n 0) = true by have := h.pos; simp [hasB]; omega] at HHP
  have HR0 := Vx.hid h
  have HTB := Vx.hid (fun va (hv : va < 4294967296) wv (hm : RefAt wv br bb n f) => refTable_any hm root va hb hv)
  clear h hb
  go_enter Tryz.func48, Tryz.ntmps48
  go_wp2_with fail
  refine HHP.out.mono ?_
  rintro e w' ⟨rfl, h⟩
  have h2 := h.symm; clear h; subst h2
  go_wp2_with fail
  go_loopw [7, 8] (fun lv d wr => ∃ k : Nat, d = .int .i64 (k : Int) ∧ k ≤ 1024 ∧ Hid (MkR w lv (tabsF f n root k) wr)) (fun _ d _ => 1024 - (intOf d).toNat)
  case atStart => exact ⟨0, rfl, by omega, MkR.start (Only.refl _ _)⟩
  case round =>
    obtain ⟨k, rfl, hk, HR⟩ := hrel
    by_cases hlt : k < 1024
    · have h1 : (k : Int) < 1024 := by omega
      have w1' : IntKind.i64.wrap ((k : Int) + 1) = (k : Int) + 1 := by rw [IntKind.wrap_i64]; omega
      have e1 : 4194304 * (k : Int) = ((4194304 * k : Nat) : Int) := by omega
      have w2' : IntKind.u32.wrap ((4194304 * k : Nat) : Int) = ((4194304 * k : Nat) : Int) := by rw [IntKind.wrap_u32]; omega
      have w3' : IntKind.i64.wrap ((4194304 * k : Nat) : Int) = ((4194304 * k : Nat) : Int) := by rw [IntKind.wrap_i64]; omega
      have HTK := Vx.hid (HTB.out (4194304 * k) (by omega) wr (HR0.out.quiet HR.out.on))
      have HLN := Vx.hid (tabsF_len f n root k)
      have HS := Vx.hid (tabsF_succ f n root k)
      generalize 4194304 * k = va at e1 w2' w3' HTK HS
      generalize tabF f n root va = TF at HTK HS
      cases TF with
      | none =>
        have HS2 : Hid (tabsF f n root (k + 1) = tabsF f n root k) := by show _ = _; rw [HS.out]; exact List.append_nil _
        clear HS
        simp only [Option.getD_none, tabE] at HTK
        go_wp2_with fail
        refine HTK.out.mono ?_
        rintro e w2 ⟨rfl, ho2⟩
        have HR2 : Hid (MkR w u7 (tabsF f n root (k + 1)) w2) := by show MkR _ _ _ _; rw [HS2.out]; exact HR.out.quiet ho2
        clear ho2
        go_wp2_with fail
        go_roundw
        case rel => exact ⟨k + 1, by go_num, by omega, HR2⟩
        case measure => simp only [intOf]; omega
      | some p =>
        simp only [Option.getD_some, tabE] at HTK
        go_wp2_with fail
        refine HTK.out.mono ?_
        rintro e w2 ⟨rfl, ho2⟩
        have HR2 := Vx.hid (HR.out.quiet ho2)
        clear ho2
        have HL2 : Hid ((tabsF f n root k).length ≤ 2000000) := by show _ ≤ _; have := HLN.out; omega
        have HB2 : Hid (w.heap.size ≤ w2.heap.size) := HR2.out.on.size
        go_wp2_with (at_builtin; refine append_mp _ rfl _ _ rfl w.heap.size _ _ rfl HR2.out.o ((va : Int), (p : Int), 0) rfl HL2.out HB2.out (fun g cap w3 h1 h2 _ => ?_))
        have HR3 : Hid (MkR w (.slice (some ⟨g, 0, none⟩) ((tabsF f n root k).length + 1) cap) (tabsF f n root (k + 1)) w3) := by show MkR _ _ _ _; rw [HS.out]; exact HR2.out.push h1 h2
        clear h1 h2
        go_wp2_with fail
        go_roundw
        case rel => exact ⟨k + 1, by go_num, by omega, HR3⟩
        case measure => simp only [intOf]; omega
    · obtain rfl : k = 1024 := by omega
      clear hlt hk
      go_wp2_with fail
      all_goals
        go_ret2
        exact ⟨_, rfl, HR.out⟩
theorem refMappings_no {w : World} {br bb n : Nat} {f : Nat → UInt8} (h : RefAt w br bb n f) (root : Int) (hb : hasB n root = false) :
    Calls Tryz.prog 52 #[.pointer (some ⟨br, 0, none⟩), .int .i64 root] w fun e w' => e = .returned (.tuple #[.slice none 0 0, .int .i64 1]) ∧ Only (fun _ => False) w w' := by
  have HTB := Vx.hid (refTables_no h root hb)
  clear h hb
  go_enter Tryz.func52, Tryz.ntmps52
  go_wp2_with fail
  refine HTB.out.mono ?_
  rintro e w1 ⟨rfl, ho1⟩
  have HO1 := Vx.hid ho1
  clear ho1
  go_wp2_with fail
  all_goals
    go_ret2
    exact ⟨rfl, HO1.out⟩
set_option maxRecDepth 100000 in
set_option maxHeartbeats 4000000 in
theorem refMappings_ok {w : World} {br bb n : Nat} {f : Nat → UInt8} (h : RefAt w br bb n f) (root : Nat) (hb : root < n) :
    Calls Tryz.prog 52 #[.pointer (some ⟨br, 0, none⟩), .int .i64 (root : Int)] w fun e w' => ∃ v, e = .returned (.tuple #[v, .int .i64 0]) ∧ MkR w v (mapsF f (tabsF f n root 1024)) w' := by
  have hn := h.top
  have HTB := Vx.hid (refTables_ok h root hb)
  have HR0 := Vx.hid h
  have HLN := Vx.hid (tabsF_len f n root 1024)
  have HME : Hid (∀ t ∈ tabsF f n root 1024, ∃ i p : Nat, i < 1024 ∧ p < n ∧ t = (((4194304 * i : Nat) : Int), ((p : Nat) : Int), (0 : Int))) := fun t ht => tabsF_mem ht
  have HWD := Vx.hid (fun t k (ht : t < n) (hk : k < 1024) wv (hm : RefAt wv br bb n f) => refWord_in hm (4096 * t + k * 4) (by omega) (by omega))
  have HNN := Vx.hid hn
  generalize tabsF f n root 1024 = ts at HTB HLN HME
  clear h hb hn
  go_enter Tryz.func52, Tryz.ntmps52
  go_wp2_with fail
  refine HTB.out.mono ?_
  rintro e w1 ⟨vt, rfl, hmk⟩
  have HT1 := Vx.hid hmk
  obtain ⟨pt, ct, rfl, hlc, hcm, hpt⟩ := hmk.o.form
  have HPT := Vx.hid hpt
  have hlm : (ts.length : Int) ≤ 1024 := by have := HLN.out; omega
  obtain ⟨L, hL⟩ : ∃ L, L = ts.length := ⟨_, rfl⟩
  have HL := Vx.hid hL
  rw [← hL] at hlm HT1 HPT ⊢
  clear hmk hpt hlc hcm hL
  go_wp2_with fail
  go_loopw [8, 9] (fun v d wr => ∃ j : Nat, d = .int .i64 (j : Int) ∧ j ≤ L ∧ Hid (MkR w1 v (mapsF f (ts.take j)) wr)) (fun _ d _ => L - (intOf d).toNat)
  case atStart => exact ⟨0, rfl, by omega, MkR.start (Only.refl _ _)⟩
  case round =>
    obtain ⟨j, rfl, hj, HR⟩ := hrel
    by_cases hlt : j < L
    · have h1 : (j : Int) < (L : Int) := by omega
      have hidx : 0 ≤ (j : Int) ∧ (j : Int) < (L : Int) := by omega
      have hjt : j < ts.length := by have := HL.out; omega
      have w1' : IntKind.i64.wrap ((j : Int) + 1) = (j : Int) + 1 := by rw [IntKind.wrap_i64]; omega
      obtain ⟨gt, rfl, hg1, hg2⟩ := HPT.out (by omega)
      obtain ⟨i, p, hi, hp, hte⟩ := HME.out ts[j] (List.getElem_mem _)
      obtain ⟨A, hA⟩ : ∃ A, A = 4194304 * i := ⟨_, rfl⟩
      have HCE : Hid (∀ wv, Only (fun _ => False) w1 wv → wv.cell? ⟨gt, j * 3, none⟩ = some (.int .u32 (A : Int)) ∧ wv.cell? ⟨gt, j * 3 + 1, none⟩ = some (.int .i64 (p : Int))) := fun wv hv => by
        have := (show OwnM wv w.heap.size 104 (.slice (some ⟨gt, 0, none⟩) ts.length ct) ts from by have := HT1.out.o.quiet hv; rw [HL.out] at this; exact this).at j hjt
        rw [hte, ← hA] at this
        exact ⟨this.1, this.2.1⟩
      have HTK : Hid (mapsF f (ts.take (j + 1)) = mapsF f (ts.take j) ++ frmsF f i p 1024) := by
        show _ = _
        rw [mapsF_take f ts j hjt, hte]
        simp only [Int.toNat_natCast]
        rw [show 4194304 * i / 4194304 = i by omega]
      have HML := Vx.hid (mapsF_len f (ts.take j))
      have HTL : Hid ((ts.take j).length ≤ 1024) := by show _ ≤ _; rw [List.length_take]; omega
      have HA : Hid (A = 4194304 * i ∧ i < 1024 ∧ p < n) := ⟨hA, hi, hp⟩
      generalize mapsF f (ts.take j) = ms at HR HTK HML
      clear hte hA hi hp hjt hlt
      go_wp2_with fail
      go_loopw [8, 10] (fun v d wx => ∃ k : Nat, d = .int .i64 (k : Int) ∧ k ≤ 1024 ∧ Hid (MkR w1 v (ms ++ frmsF f i p k) wx)) (fun _ d _ => 1024 - (intOf d).toNat)
      case atStart => exact ⟨0, rfl, by omega, by show MkR _ _ _ _; rw [show frmsF f i p 0 = [] from rfl, List.append_nil]; exact HR.out⟩
      case round =>
        clear HR
        obtain ⟨k, rfl, hk, HR⟩ := hrel
        by_cases hk2 : k < 1024
        · have d1 : (k : Int) < 1024 := by omega
          have v1 : IntKind.i64.wrap ((k : Int) + 1) = (k : Int) + 1 := by rw [IntKind.wrap_i64]; omega
          have e1 : 4096 * (k : Int) = ((4096 * k : Nat) : Int) := by omega
          have v2 : IntKind.u32.wrap ((4096 * k : Nat) : Int) = ((4096 * k : Nat) : Int) := by rw [IntKind.wrap_u32]; omega
          have v2' : IntKind.i64.wrap ((4096 * k : Nat) : Int) = ((4096 * k : Nat) : Int) := by rw [IntKind.wrap_i64]; omega
          have e2 : (A : Int) + ((4096 * k : Nat) : Int) = ((4194304 * i + 4096 * k : Nat) : Int) := by have := HA.out.1; omega
          have v3 : IntKind.u32.wrap ((4194304 * i + 4096 * k : Nat) : Int) = ((4194304 * i + 4096 * k : Nat) : Int) := by have := HA.out.2.1; rw [IntKind.wrap_u32]; omega
          have e3 : IntKind.i64.wrap (4096 * (p : Int)) = 4096 * (p : Int) := by have := HA.out.2.2; have := HNN.out; rw [IntKind.wrap_i64]; omega
          have e4 : IntKind.i64.wrap (4 * (k : Int)) = 4 * (k : Int) := by rw [IntKind.wrap_i64]; omega
          have e5 : 4096 * (p : Int) + 4 * (k : Int) = ((4096 * p + k * 4 : Nat) : Int) := by omega
          have e6 : IntKind.i64.wrap ((4096 * p + k * 4 : Nat) : Int) = ((4096 * p + k * 4 : Nat) : Int) := by have := HA.out.2.2; have := HNN.out; rw [IntKind.wrap_i64]; omega
          have HW2 := Vx.hid (HWD.out p k HA.out.2.2 hk2 wr ((HR0.out.quiet HT1.out.on).quiet HR.out.on))
          have HS := Vx.hid (frmsF_succ f i p k)
          obtain ⟨g0, g1⟩ := HCE.out _ HR.out.on
          have HLL : Hid ((ms ++ frmsF f i p k).length ≤ 2000000) := by
            show _ ≤ _
            have h1 := HML.out
            have h2 := HTL.out
            have h3 := frmsF_len f i p k
            rw [List.length_append]
            omega
          generalize 4194304 * i + 4096 * k = VA at e2 v3 HS
          generalize 4096 * p + k * 4 = P at HW2 HS e5 e6
          generalize 4096 * k = K4 at e1 v2 v2' e2
          have hvl := wordF_lt f P
          generalize wordF f P = wd at HW2 HS hvl
          have t1 : Int.tdiv (wd : Int) 1024 = ((wd / 1024 : Nat) : Int) := by rw [Int.tdiv_eq_ediv_of_nonneg (by omega)]; omega
          have t2 : (wd : Int) / 1024 = ((wd / 1024 : Nat) : Int) := by omega
          have t5 : IntKind.i64.wrap ((wd / 1024 : Nat) : Int) = ((wd / 1024 : Nat) : Int) := by rw [IntKind.wrap_i64]; omega
          have t3 : Int.tmod (wd : Int) 2 = ((wd % 2 : Nat) : Int) := by rw [Int.tmod_eq_emod_of_nonneg (by omega)]; omega
          have t4 : (wd : Int) % 2 = ((wd % 2 : Nat) : Int) := by omega
          have t6 : IntKind.i64.wrap ((wd % 2 : Nat) : Int) = ((wd % 2 : Nat) : Int) := by rw [IntKind.wrap_i64]; omega
          have t7 : Int.tdiv (wd : Int) 2 = ((wd / 2 : Nat) : Int) := by rw [Int.tdiv_eq_ediv_of_nonneg (by omega)]; omega
          have t8 : (wd : Int) / 2 = ((wd / 2 : Nat) : Int) := by omega
          have t9 : IntKind.i64.wrap ((wd / 2 : Nat) : Int) = ((wd / 2 : Nat) : Int) := by rw [IntKind.wrap_i64]; omega
          have t10 : Int.tmod ((wd / 2 : Nat) : Int) 8 = ((wd / 2 % 8 : Nat) : Int) := by rw [Int.tmod_eq_emod_of_nonneg (by omega)]; omega
          have t11 : ((wd / 2 : Nat) : Int) % 8 = ((wd / 2 % 8 : Nat) : Int) := by omega
          have t12 : IntKind.i64.wrap ((wd / 2 % 8 : Nat) : Int) = ((wd / 2 % 8 : Nat) : Int) := by rw [IntKind.wrap_i64]; omega
          clear hvl
          by_cases hw : wd % 2 = 1
          · rw [hw] at t3 t4 t6
            have HS2 : Hid (frmsF f i p (k + 1) = frmsF f i p k ++ [((VA : Int), ((wd / 1024 : Nat) : Int), ((wd / 2 % 8 : Nat) : Int))]) := by show _ = _; rw [HS.out, if_pos hw]
            generalize wd / 1024 = pg at t1 t2 t5 HS2
            generalize wd / 2 % 8 = rt at t10 t11 t12 HS2
            generalize wd / 2 = hf at t7 t8 t9 t10 t11
            clear hw HS
            go_wp2_with fail
            refine HW2.out.mono ?_
            rintro e w3 ⟨rfl, ho3⟩
            have HR3 := Vx.hid (HR.out.quiet ho3)
            obtain ⟨g2, g3⟩ := HCE.out _ (HR.out.on.trans ho3)
            clear ho3 g0 g1
            have HB3 : Hid (w1.heap.size ≤ w3.heap.size) := HR3.out.on.size
            go_wp2_with (at_builtin; refine append_mp _ rfl _ _ rfl w1.heap.size _ _ rfl HR3.out.o ((VA : Int), (pg : Int), (rt : Int)) rfl HLL.out HB3.out (fun g cap w4 h1 h2 h3 => ?_))
            have HR4 : Hid (MkR w1 (.slice (some ⟨g, 0, none⟩) ((ms ++ frmsF f i p k).length + 1) cap) (ms ++ frmsF f i p (k + 1)) w4) := by
              show MkR _ _ _ _
              rw [HS2.out, ← List.append_assoc]
              exact HR3.out.push h1 h2
            clear h1 h2 h3
            go_wp2_with fail
            go_roundw
            case rel => exact ⟨k + 1, by go_num, by omega, by have h := HR4.out; rw [List.length_append] at h; exact h⟩
            case measure => simp only [intOf]; omega
          · rw [show wd % 2 = 0 by omega] at t3 t4 t6
            have HS2 : Hid (frmsF f i p (k + 1) = frmsF f i p k) := by show _ = _; rw [HS.out, if_neg hw, List.append_nil]
            clear hw HS t1 t2 t5 t7 t8 t9 t10 t11 t12
            go_wp2_with fail
            refine HW2.out.mono ?_
            rintro e w3 ⟨rfl, ho3⟩
            have HR3 := Vx.hid (HR.out.quiet ho3)
            clear ho3
            go_wp2_with fail
            go_roundw
            case rel => exact ⟨k + 1, by go_num, by omega, by show MkR _ _ _ _; rw [HS2.out]; exact HR3.out⟩
            case measure => simp only [intOf]; omega
        · obtain rfl : k = 1024 := by omega
          clear hk2 hk
          have HR2 : Hid (MkR w1 u8 (mapsF f (ts.take (j + 1))) wr) := by show MkR _ _ _ _; rw [HTK.out]; exact HR.out
          go_wp2_with fail
          go_roundw
          case rel => exact ⟨j + 1, by go_num, by omega, HR2⟩
          case measure => simp only [intOf]; omega
    · obtain rfl : j = L := by omega
      have h1 : ¬ (j : Int) < (j : Int) := by omega
      have HF : Hid (mapsF f (ts.take j) = mapsF f ts) := by
        show _ = _
        rw [List.take_of_length_le (by have := HL.out; omega)]
      clear hlt hj
      go_wp2_with fail
      all_goals
        go_ret2
        refine ⟨_, rfl, ?_⟩
        have := HR.out
        rw [HF.out] at this
        exact ⟨⟨this.o.1, this.o.2.imp (fun h => h) (fun ⟨g, cap, cur, a, b, c⟩ => ⟨g, cap, cur, a, Nat.le_trans HT1.out.on.size b, c⟩)⟩, HT1.out.on.trans this.on⟩
end Go.Proofs.YtflmobffeeocdaaGreatDoor

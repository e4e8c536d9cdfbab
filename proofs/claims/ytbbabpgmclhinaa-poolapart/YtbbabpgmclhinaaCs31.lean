import Derived.Test.YtbbabpgmclhinaaCs30
/- Chapter 8, the program's pool: its untypeds, one after another; isTaken. -/
namespace Go.Proofs.Ytbbabpgmclhinaa
open Go.ChangeShapes Go.WideShapes Go.ChangeAt Go.RowKit
open Go.Vx
set_option linter.unusedVariables false
variable {U V S : Nat → Prop} {w w2 wr wx : World} {xb pb mb gb r N cnt cnt2 : Nat} {P : Int} {D : DataW Value} {os rs : List (Int × Int)} {left left2 : Lit → Bool}

/-- Between the rounds over the untypeds. -/
structure RnR (U : Nat → Prop) (w : World) (xb mb gb r : Nat) (D : DataW Value) (N : Nat) (os rs : List (Int × Int)) (left : Lit → Bool) (cnt : Nat) (wr : World) : Prop where
  rg : wr.ranges Try.prog 3 RI mb r rs.length D left cnt
  xq : XqAt U wr xb mb gb D N os rs
  hr : w.heap.size ≤ r
  on : Only (fun _ => False) w wr
theorem RnR.quiet (h : RnR U w xb mb gb r D N os rs left cnt wr) (ho : Only (fun _ => False) wr wx) : RnR U w xb mb gb r D N os rs left cnt wx :=
  ⟨mi_ranges h.rg ho (fun h => h) (fun h => h), h.xq.quiet ho, h.hr, h.on.trans ho⟩
theorem RnR.next (h : RnR U w xb mb gb r D N os rs left cnt wr) (hr : wx.ranges Try.prog 3 RI mb r rs.length D left2 cnt2) (hg : wr.grownBy wx (some r)) : RnR U w xb mb gb r D N os rs left2 cnt2 wx := by
  have ho := mi_grown hg
  obtain ⟨cur, hc⟩ := own_tag h.xq.pg (k := gb) rfl
  exact ⟨hr, h.xq.aside ho (fun e => mi_iter h.rg h.xq.x e.symm) (fun e => h.rg.ne e.symm) (fun e => mi_iter h.rg hc e.symm) h.xq.ux h.xq.um h.xq.ug (fun k hk => Nat.lt_of_lt_of_le (h.xq.low k hk) ho.size), h.hr, Only.newer h.on ho h.hr⟩
/-- What the next step of a range tells. -/
theorem RnR.key (h : RnR U w xb mb gb r D N os rs left cnt wr) {x : Int} {kl : Lit} {y : DataW Value} (hkey : keyOf Try.prog 3 (.int .i64 x) = some kl) (hat : ∀ zd, D.atKey kl zd = y) : I64 x ∧ kl = .int .i64 x ∧ x ∈ rs.map (·.1) := by
  obtain ⟨x2, ex, rfl, hw⟩ := Maps.keyOf_i64 Try.underlying3 hkey
  obtain rfl : x = x2 := by injection ex
  have hi := wf_mi hw
  have hh := Maps.has_true_of_atKey hat
  rw [h.xq.hs x hi] at hh
  exact ⟨hi, rfl, mem_rg hh⟩
theorem RnR.left0 (h : XqAt U w xb mb gb D N os rs) (hi : ∀ r ∈ rs, I64 r.1) (f : Int → Bool) : ∀ x ∈ rs.map (·.1), Maps.has D (.int .i64 x) = false → f x = false := fun x hx hl => by
  obtain ⟨r, hr, rfl⟩ := List.mem_map.1 hx
  rw [h.hs _ (hi r hr)] at hl
  obtain ⟨i, hi2⟩ := rg_mem hx
  rw [hi2] at hl
  cases hl
theorem seen_step {f : Int → Bool} {x : Int} (hs : ∀ y ∈ rs.map (·.1), left (.int .i64 y) = false → f y = false) (hx : f x = false) : ∀ y ∈ rs.map (·.1), strike left x (.int .i64 y) = false → f y = false := fun y hy hl => by
  rw [strike_at] at hl
  by_cases he : y = x
  · rw [he]; exact hx
  · have h2 : decide (y = x) = false := decide_eq_false he
    rw [h2] at hl
    simp only [Bool.not_false, Bool.and_true] at hl
    exact hs y hy hl
theorem seen_end {f : Int → Bool} (hs : ∀ y ∈ rs.map (·.1), left (.int .i64 y) = false → f y = false) (hl : ∀ kl, left kl = false) : rs.any (fun r => f r.1) = false := by
  rw [List.any_eq_false]
  intro r hr
  rw [hs r.1 (List.mem_map.2 ⟨r, hr, rfl⟩) (hl _)]
  decide
theorem seen_hit {f : Int → Bool} {x : Int} (hx : x ∈ rs.map (·.1)) (hf : f x = true) : rs.any (fun r => f r.1) = true := by
  obtain ⟨r, hr, rfl⟩ := List.mem_map.1 hx
  exact List.any_eq_true.2 ⟨r, hr, hf⟩
theorem ri_inv' (v : Value) (y : DataW Value × List MemPlace) (h : RI v = some y) : ∃ c, v = Value.int .i64 c := by
  obtain ⟨a, ha, _⟩ := ri_inv h
  exact ⟨a, ha⟩
theorem ki_inv (key : Value) (kl : Lit) (hk : keyOf Try.prog 3 key = some kl) : ∃ x, key = Value.int .i64 x := by
  obtain ⟨x, hx, _⟩ := Maps.keyOf_i64 Try.underlying3 hk
  exact ⟨x, hx⟩
/-- An untyped meets some pages. -/
def mtB (a m n : Int) : Bool := meetN (pgA (1, n)) (pgN (1, n)) a m
def takB (os rs : List (Int × Int)) (a m : Int) : Bool := rs.any (fun r => mtB a m r.1) || inB os a m
theorem rg_bd {n : Int} (h : RgOk n) : 0 ≤ pgA (1, n) ∧ pgA (1, n) < 256 ∧ 1 ≤ pgN (1, n) ∧ pgN (1, n) ≤ 256 := ⟨(pgA_bd rfl).1, (pgA_bd rfl).2, (pgN_bd (fun _ => h)).1, (pgN_bd (fun _ => h)).2⟩
set_option maxRecDepth 100000 in
set_option maxHeartbeats 2000000 in
theorem ptaken_ok (h : XqAt U w xb mb gb D N os rs) (hw : PWf (N : Int) os rs) (a m : Nat) (hm : 0 < m) (ham : a + m ≤ N) : Calls Try.prog 23 #[.pointer (some ⟨xb, 0, none⟩), .agg #[.int .i64 (a : Int), .int .i64 (m : Int)]] w fun e w' => e = .returned (.bool (takB os rs (a : Int) (m : Int))) ∧ Only (fun _ => False) w w' := by
  have hN : N ≤ 256 := by have := hw.p; omega
  have hw2 : IntKind.i64.wrap ((a : Int) + (m : Int)) = (a : Int) + (m : Int) := by rw [IntKind.wrap_i64]; omega
  have HRK : Hid (∀ x ∈ rs.map (·.1), RgOk x) := fun x hx => by
    obtain ⟨r, hr, rfl⟩ := List.mem_map.1 hx
    exact (hw.rk r hr).1
  have HMT : Hid (∀ n, RgOk n → ∀ wv, Calls Try.prog 50 #[.agg #[.int .i64 (pgA (1, n)), .int .i64 (pgN (1, n))], .agg #[.int .i64 (a : Int), .int .i64 (m : Int)]] wv fun e w' => e = .returned (.bool (mtB (a : Int) (m : Int) n)) ∧ Only (fun _ => False) wv w') := fun n hn wv => by
    have := rg_bd hn
    exact pmeets_ok _ _ _ _ hw2 (by rw [IntKind.wrap_i64]; omega) wv
  have HHO : Hid (∀ wv, XqAt U wv xb mb gb D N os rs → Calls Try.prog 49 #[.pointer (some ⟨xb, 0, none⟩), .agg #[.int .i64 (a : Int), .int .i64 (m : Int)]] wv fun e w' => e = .returned (.bool (inB os (a : Int) (m : Int))) ∧ Only (fun _ => False) wv w') := fun wv hv => phas_ok hv hw a m hm ham
  have HTK : Hid (takB os rs (a : Int) (m : Int) = (rs.any (fun r => mtB (a : Int) (m : Int) r.1) || inB os (a : Int) (m : Int))) := rfl
  obtain ⟨f, hf⟩ : ∃ f, f = mtB (a : Int) (m : Int) := ⟨_, rfl⟩
  obtain ⟨ib, hib⟩ : ∃ ib, ib = inB os (a : Int) (m : Int) := ⟨_, rfl⟩
  obtain ⟨tb, htb⟩ : ∃ tb, tb = takB os rs (a : Int) (m : Int) := ⟨_, rfl⟩
  rw [← hf] at HMT HTK
  rw [← hib] at HHO HTK
  rw [← htb] at HTK ⊢
  clear hf hib htb hw2 hm ham hN
  obtain ⟨w1, hw1⟩ : ∃ w1, w1 = w.alloc (.cells #[.int .i64 (a : Int), .int .i64 (m : Int)] 75) := ⟨_, rfl⟩
  have ho1 : Only (fun _ => False) w w1 := by rw [hw1]; exact (Only.refl _ w).alloc _
  obtain ⟨A, hA⟩ : ∃ A, A = w.heap.size := ⟨_, rfl⟩
  have hz : w1.heap[A]? = some (.cells #[.int .i64 (a : Int), .int .i64 (m : Int)] 75 (0, 0)) := by rw [hw1, hA]; exact heap_alloc_last _ _
  have hx1 := h.quiet ho1
  have c0 := hx1.c0
  have HS : Hid (∀ w2 r, w2.ranges Try.prog 3 RI mb r rs.length D (Maps.has D) (Maps.size D) → w1.grownBy w2 none → w1.heap.size ≤ r → RnR U w1 xb mb gb r D N os rs (Maps.has D) (Maps.size D) w2) := fun w2 r hr hg hle => ⟨hr, hx1.quiet (mi_none hg), hle, mi_none hg⟩
  have HL0 := Vx.hid (RnR.left0 h (fun r hr => by have := (hw.rk r hr).1; unfold RgOk at this; unfold I64; omega) f)
  have HCE : Hid (∀ wv, Only (fun _ => False) w1 wv → wv.cell? ⟨A, 0, none⟩ = some (.int .i64 (a : Int)) ∧ wv.cell? ⟨A, 1, none⟩ = some (.int .i64 (m : Int))) := fun wv hv => (two_cells (Only.keep hv hz (fun h => h))).1
  have HX1 := Vx.hid hx1
  have HW1 := Vx.hid ho1
  clear h hz hx1 ho1 hw
  go_enter Try.func23, Try.ntmps23
  go_upto_region 1 with fail
  rw [← hw1, ← hA]
  clear hw1 hA
  go_wp2_with (at_range; refine wpList_range_own _ rfl _ 65 rfl 3 3 mi_keyed Try.underlying65 RI mb rs.length D rfl HX1.out.m ?_; intro w2 hrg hgr hsz; have HR0 := Vx.hid (HS.out w2 _ hrg hgr (Nat.le_refl _)); clear hrg hgr hsz)
  obtain ⟨r, hr⟩ : ∃ r, r = w1.heap.size := ⟨_, rfl⟩
  rw [← hr] at HR0 ⊢
  clear hr c0 HS HX1
  go_frame
  go_loopw [5, 11, 12] (fun _ _ _ wr => ∃ left cnt, Hid (RnR U w1 xb mb gb r D N os rs left cnt wr) ∧ Hid (∀ x ∈ rs.map (·.1), left (.int .i64 x) = false → f x = false)) (fun _ _ _ wr => wr.rangeLeft mb r)
  case atStart => exact ⟨_, _, HR0, HL0⟩
  case round =>
    clear HR0 HL0
    obtain ⟨left, cnt, HR, HL⟩ := hrel
    go_wp2_with (at_next; refine wpList_next_ranges _ rfl _ rfl 3 mi_keyed RI (Value.int .i64) (Value.int .i64) ki_inv ri_inv' mb r rs.length D left cnt rfl HR.out.rg ?_ ?_)
    · intro hc0 hl0
      have HF : Hid (tb = ib) := by show _ = _; rw [HTK.out, seen_end HL.out hl0]; rfl
      obtain ⟨q0, q1⟩ := HCE.out _ HR.out.on
      clear hc0 hl0
      go_wp2_with fail
      refine (HHO.out _ HR.out.xq).mono ?_
      rintro e w3 ⟨rfl, h3⟩
      have H3 := Vx.hid (HW1.out.trans (HR.out.on.trans h3))
      clear h3 q0 q1
      go_wp2_with fail
      all_goals
        go_ret
        exact ⟨by rw [HF.out]; try rfl, H3.out⟩
    · intro x c kl y yp w3 cnt3 hkey hlk hv hat hrg3 hlt hgr hsz hen
      obtain ⟨hxi, rfl, hxm⟩ := HR.out.key hkey hat
      have HXM := Vx.hid hxm
      have HRX := Vx.hid (HRK.out x hxm)
      have HLT : Hid (wr.rangeLeft mb r = cnt ∧ cnt3 < cnt) := ⟨HR.out.rg.left_eq, hlt⟩
      have HR3 : Hid (RnR U w1 xb mb gb r D N os rs (strike left x) cnt3 w3) := HR.out.next hrg3 hgr
      have HUN := Vx.hid (fun wv => punt_ok x HRX.out wv)
      have HME := Vx.hid (fun wv => HMT.out x HRX.out wv)
      generalize pgA (1, x) = xa at HUN HME
      generalize pgN (1, x) = xn at HUN HME
      obtain ⟨fx, hfx⟩ : ∃ fx, fx = f x := ⟨_, rfl⟩
      rw [← hfx] at HME
      have HFX := Vx.hid hfx
      clear hkey hlk hv hat hrg3 hlt hgr hsz hxi hxm HR hfx
      have HI0 : Hid (Only (fun _ => False) w3 w3.drew) := (Only.refl _ w3).drew
      have HS0 := Vx.hid (HCE.out _ (HR3.out.on.trans HI0.out))
      have HI1 := HI0
      have HS1 := HS0
      have HS2 := HS0
      go_upto_region 4 with fail
      go_region_held3 (fun wv => wv.cell? ⟨A, 0, none⟩ = some (.int .i64 (a : Int)) ∧ wv.cell? ⟨A, 1, none⟩ = some (.int .i64 (m : Int))) (first | with_reducible exact HS0.out | with_reducible exact HS1.out | with_reducible exact HS2.out) (first | (go_at_call 28; refine (HUN.out _).mono ?_; rintro e w4 ⟨rfl, ho4⟩; have HI1 := Vx.hid (HI0.out.trans ho4); clear ho4; have HS1 := Vx.hid (HCE.out _ (HR3.out.on.trans HI1.out))) | (go_at_call 50; refine (HME.out _).mono ?_; rintro e w5 ⟨rfl, ho5⟩; have HI2 := Vx.hid (HI1.out.trans ho5); clear ho5; have HS2 := Vx.hid (HCE.out _ (HR3.out.on.trans HI2.out))))
      clear hen
      cases fx with
      | true =>
        have HF : Hid (tb = true) := by show _ = _; rw [HTK.out, seen_hit HXM.out HFX.out.symm]; rfl
        go_wp2_with fail
        all_goals
          go_ret
          exact ⟨by rw [HF.out]; try rfl, HW1.out.trans (HR3.out.on.trans HI2.out)⟩
      | false =>
        have HR5 := Vx.hid (HR3.out.quiet HI2.out)
        have HL5 := Vx.hid (seen_step HL.out HFX.out.symm)
        go_wp2_with fail
        go_roundw
        case rel => exact ⟨_, cnt3, HR5, HL5⟩
        case measure => rw [HLT.out.1, HR5.out.rg.left_eq]; exact HLT.out.2
end Go.Proofs.Ytbbabpgmclhinaa

import Derived.Test.YtgncabcnefhkiaaCs13
/- Chapter 9, the document's scheduler: NewSched. -/
namespace Go.Proofs.Ytgncabcnefhkiaa
open Go.ChangeShapes Go.WideShapes Go.ChangeAt Go.RowKit
open Go.Vx
set_option linter.unusedVariables false
variable {U V S : Nat → Prop} {w w2 w3 : World} {sb : Nat} {vt vl : Value} {ts : List (Int × Int)} {t : Nat} {lf : Int} {es : List Et} {ck : Nat}

/-- Turns, where they lie. -/
def TuAt (w : World) (pa : Option Addr) (ts : List (Int × Int)) : Prop := ts = [] ∨ ∃ ab ao, pa = some ⟨ab, ao, none⟩ ∧ ∀ (j : Nat) (h : j < ts.length), w.cell? ⟨ab, ao + j * 2, none⟩ = some (.int .i64 ts[j].1) ∧ w.cell? ⟨ab, ao + j * 2 + 1, none⟩ = some (.int .i64 ts[j].2)
theorem TuAt.quiet {pa : Option Addr} (h : TuAt w pa ts) (ho : Only (fun _ => False) w w2) : TuAt w2 pa ts := by
  rcases h with h | ⟨ab, ao, h1, h2⟩
  · exact Or.inl h
  · refine Or.inr ⟨ab, ao, h1, fun j hj => ?_⟩
    obtain ⟨a, b⟩ := h2 j hj
    have hb : ab < w.heap.size := World.block_lt_of_cell? w _ a
    have hk := ho.block ab hb (fun h => h)
    have hc : ∀ o, w2.cell? ⟨ab, o, none⟩ = w.cell? ⟨ab, o, none⟩ := fun o => by unfold World.cell?; simp only [hk]
    exact ⟨by rw [hc]; exact a, by rw [hc]; exact b⟩
def tuB (x : Int × Int) : Bool := decide (0 ≤ x.1 ∧ x.1 ≤ 7 ∧ 1 ≤ x.2 ∧ x.2 ≤ 1000)
def newSE (ts : List (Int × Int)) : Int := if ts.length < 1 ∨ 16 < ts.length ∨ ts.all tuB = false then 1 else 0
theorem tuK : Kind Try.prog slL 22 34 := kind_of (z := .agg #[.int .i64 0, .int .i64 0]) (b := 16) Try.underlying22 (by kernel_rfl) rfl (by decide)
theorem tu_bad (k : Nat) (hk : k < ts.length) (h : tuB ts[k] = false) : newSE ts = 1 := by
  unfold newSE
  rw [if_pos]
  refine Or.inr (Or.inr ?_)
  rw [List.all_eq_false]
  exact ⟨_, List.getElem_mem hk, by rw [h]; decide⟩
theorem tu_all (h : ∀ x ∈ ts, tuB x = true) (h1 : 1 ≤ ts.length) (h2 : ts.length ≤ 16) : newSE ts = 0 := by
  unfold newSE
  rw [if_neg]
  rintro (h3 | h3 | h3)
  · omega
  · omega
  · rw [List.all_eq_false] at h3
    obtain ⟨x, hx, h4⟩ := h3
    exact h4 (h x hx)
def NsQ (w : World) (ts : List (Int × Int)) (e : Ending) (w' : World) : Prop := ((newSE ts = 1 ∧ e = .returned (.tuple #[.pointer none, .int .i64 1])) ∨ (newSE ts = 0 ∧ (∀ x ∈ ts, tuB x = true) ∧ 1 ≤ ts.length ∧ ts.length ≤ 16 ∧ ∃ sb, e = .returned (.tuple #[.pointer (some ⟨sb, 0, none⟩), .int .i64 0]) ∧ w.heap.size ≤ sb ∧ SdX (fun k => k < w.heap.size) w' sb ts 0 (ts.getD 0 (0, 0)).2 [] 0)) ∧ Only (fun _ => False) w w'
set_option maxRecDepth 100000 in
set_option maxHeartbeats 4000000 in
theorem newS_ok (w : World) (pa : Option Addr) (len cap : Nat) (hlen : len = ts.length) (hlc : len ≤ cap) (hcm : cap ≤ maxLen) (hp : TuAt w pa ts) : Calls Try.prog 8 #[.slice pa len cap] w (NsQ w ts) := by
  have hlm : (len : Int) ≤ 9223372036854775807 := by simp [maxLen] at hcm; omega
  have HB1 : Hid (newSE ts = 1 → ∀ w', Only (fun _ => False) w w' → NsQ w ts (.returned (.tuple #[.pointer none, .int .i64 1])) w') := fun h w' ho => ⟨Or.inl ⟨h, rfl⟩, ho⟩
  have HP := Vx.hid hp
  have HL := Vx.hid hlen
  clear hp hlc hcm
  by_cases n1 : len < 1
  · have n1' : (len : Int) < 1 := by omega
    have HE : Hid (newSE ts = 1) := if_pos (Or.inl (by omega))
    clear hlen
    go_enter Try.func8, Try.ntmps8
    go_wp2_with fail
    all_goals
      go_ret2
      exact HB1.out HE.out _ (Only.refl _ _)
  · have n1' : ¬ (len : Int) < 1 := by omega
    by_cases n2 : 16 < len
    · have n2' : (16 : Int) < (len : Int) := by omega
      have HE : Hid (newSE ts = 1) := if_pos (Or.inr (Or.inl (by omega)))
      clear hlen
      go_enter Try.func8, Try.ntmps8
      go_wp2_with fail
      all_goals
        go_ret2
        exact HB1.out HE.out _ (Only.refl _ _)
    · have n2' : ¬ (16 : Int) < (len : Int) := by omega
      have HLN : Hid (1 ≤ len ∧ len ≤ 16) := ⟨by omega, by omega⟩
      obtain ⟨ab, ao, rfl, hcell⟩ : ∃ ab ao, pa = some ⟨ab, ao, none⟩ ∧ True := by
        rcases HP.out with h | ⟨ab, ao, h, _⟩
        · rw [h] at hlen; simp at hlen; omega
        · exact ⟨ab, ao, h, trivial⟩
      have HC : Hid (∀ wv, Only (fun _ => False) w wv → ∀ j (h : j < ts.length), wv.cell? ⟨ab, ao + j * 2, none⟩ = some (.int .i64 ts[j].1) ∧ wv.cell? ⟨ab, ao + j * 2 + 1, none⟩ = some (.int .i64 ts[j].2)) := fun wv ho j hj => by
        rcases HP.out.quiet ho with h | ⟨ab2, ao2, h, h2⟩
        · rw [h] at hj; simp at hj
        · injection h with h
          injection h with h3 h4
          subst h3; subst h4
          exact h2 j hj
      clear hcell hlen n1 n2
      go_enter Try.func8, Try.ntmps8
      go_wp2_with fail
      go_loopw [4, 5] (fun d _ wr => ∃ k : Nat, d = .int .i64 (k : Int) ∧ k ≤ len ∧ Hid (∀ x ∈ ts.take k, tuB x = true) ∧ Hid (Only (fun _ => False) w wr)) (fun d _ _ => len - (RowKit.intOf d).toNat)
      case atStart => exact ⟨0, rfl, by omega, (fun x hx => by rw [List.take_zero] at hx; cases hx), Only.refl _ _⟩
      case round =>
        obtain ⟨k, rfl, hk, HA, HW⟩ := hrel
        by_cases hlt : k < len
        · have h1 : (k : Int) < (len : Int) := by omega
          have hidx : 0 ≤ (k : Int) ∧ (k : Int) < (len : Int) := by omega
          have hwk : IntKind.i64.wrap ((k : Int) + 1) = (k : Int) + 1 := by have := HLN.out; rw [IntKind.wrap_i64]; omega
          have hkl : k < ts.length := by have := HL.out; omega
          obtain ⟨b0, b1⟩ := HC.out _ HW.out k hkl
          obtain ⟨w5, hw5, ho5, hc5⟩ : ∃ w5, w5 = wr.alloc (.cells #[.int .i64 ts[k].1, .int .i64 ts[k].2] 34) ∧ Only (fun _ => False) wr w5 ∧ (w5.cell? ⟨wr.heap.size, 0, none⟩ = some (.int .i64 ts[k].1) ∧ w5.cell? ⟨wr.heap.size, 1, none⟩ = some (.int .i64 ts[k].2)) := ⟨_, rfl, (Only.refl _ wr).alloc _, (cell_of_row _ _ 0 _ _ (0, 0) (heap_alloc_last wr _)).trans rfl, (cell_of_row _ _ 1 _ _ (0, 0) (heap_alloc_last wr _)).trans rfl⟩
          obtain ⟨E, hE⟩ : ∃ E, E = wr.heap.size := ⟨_, rfl⟩
          rw [← hE] at hc5
          obtain ⟨z0, z1⟩ := hc5
          have HW5 := Vx.hid (HW.out.trans ho5)
          have HK1 : Hid (k + 1 ≤ len) := hlt
          have HBD := Vx.hid (tu_bad k hkl)
          have HGD : Hid (tuB ts[k] = true → ∀ x ∈ ts.take (k + 1), tuB x = true) := fun hg x hx => by
            rw [List.take_succ_eq_append_getElem hkl, List.mem_append, List.mem_singleton] at hx
            rcases hx with hx | hx
            · exact HA.out x hx
            · rw [hx]; exact hg
          clear hlt ho5
          go_upto_region 7 with fail
          rw [← hw5, ← hE]
          clear hw5 hE b0 b1
          have HTB : Hid (tuB ts[k] = decide (0 ≤ ts[k].1 ∧ ts[k].1 ≤ 7 ∧ 1 ≤ ts[k].2 ∧ ts[k].2 ≤ 1000)) := rfl
          generalize tuB ts[k] = tb at HBD HGD HTB
          generalize ts[k].1 = x0 at z0 HTB
          generalize ts[k].2 = x1 at z1 HTB
          clear hkl
          by_cases a1 : x0 < 0
          · have HF : Hid (tb = false) := by show _ = _; rw [HTB.out]; exact decide_eq_false (by omega)
            go_wp2_with fail
            all_goals
              go_ret2
              exact HB1.out (HBD.out HF.out) _ HW5.out
          · by_cases a2 : 7 < x0
            · have HF : Hid (tb = false) := by show _ = _; rw [HTB.out]; exact decide_eq_false (by omega)
              go_wp2_with fail
              all_goals
                go_ret2
                exact HB1.out (HBD.out HF.out) _ HW5.out
            · by_cases a3 : x1 < 1
              · have HF : Hid (tb = false) := by show _ = _; rw [HTB.out]; exact decide_eq_false (by omega)
                go_wp2_with fail
                all_goals
                  go_ret2
                  exact HB1.out (HBD.out HF.out) _ HW5.out
              · by_cases a4 : 1000 < x1
                · have HF : Hid (tb = false) := by show _ = _; rw [HTB.out]; exact decide_eq_false (by omega)
                  go_wp2_with fail
                  all_goals
                    go_ret2
                    exact HB1.out (HBD.out HF.out) _ HW5.out
                · have HF : Hid (tb = true) := by show _ = _; rw [HTB.out]; exact decide_eq_true (by omega)
                  have HGD2 := Vx.hid (HGD.out HF.out)
                  go_wp2_with fail
                  go_roundw
                  case rel => exact ⟨k + 1, by go_num, HK1.out, HGD2, HW5⟩
                  case measure => have := HK1.out; simp only [RowKit.intOf]; omega
        · obtain rfl : k = len := by omega
          have h1 : ¬ (k : Int) < (k : Int) := by omega
          have hall := HA.out
          rw [HL.out, List.take_length] at hall
          have HALL := Vx.hid hall
          have hk0 : 0 < ts.length := by have := HL.out; have := HLN.out; omega
          obtain ⟨b0, b1⟩ := HC.out _ HW.out 0 hk0
          have hi0 : 0 ≤ (0 : Int) ∧ (0 : Int) < (k : Int) := by have := HLN.out; omega
          have e0 : ao + 0 * 2 + 1 = ao + 1 := by omega
          rw [e0] at b1
          have HLF : Hid (ts[0].2 = (ts.getD 0 (0, 0)).2) := by show _ = _; simp [List.getD_eq_getElem?_getD, hk0]
          generalize ts[0].2 = tk at b1 HLF
          clear hlt hall b0 e0
          go_upto_region 10 with fail
          obtain ⟨w6, hw6⟩ : ∃ w6, w6 = wr.alloc (.cells #[.slice none 0 0, .int .i64 0, .int .i64 tk, .slice none 0 0, .int .i64 0] 74) := ⟨_, rfl⟩
          have ho6 : Only (fun _ => False) wr w6 := by rw [hw6]; exact (Only.refl _ wr).alloc _
          have hz6 : w6.heap[wr.heap.size]? = some (.cells #[.slice none 0 0, .int .i64 0, .int .i64 tk, .slice none 0 0, .int .i64 0] 74 (0, 0)) := by rw [hw6]; exact heap_alloc_last _ _
          obtain ⟨sb, hsb⟩ : ∃ sb, sb = wr.heap.size := ⟨_, rfl⟩
          rw [← hsb] at hz6
          have z0 : w6.cell? ⟨sb, 0, none⟩ = some (.slice none 0 0) := (cell_of_row _ _ 0 _ _ (0, 0) hz6).trans rfl
          have HSB : Hid (w.heap.size ≤ sb) := by show _ ≤ _; rw [hsb]; exact HW.out.size
          have HZ6 := Vx.hid hz6
          have HW6 := Vx.hid (HW.out.trans ho6)
          have HS1 : Hid (0 < ts.length → ∃ ad, (some ⟨ab, ao, none⟩ : Option Addr) = some ad ∧ ∀ j u, (fl slL ts)[j]? = some u → w6.cell? (ad.add j) = some u) := fun _ => ⟨_, rfl, fun j u hj => by
            have hlt : j < (fl slL ts).length := by
              apply Classical.byContradiction
              intro hx
              rw [List.getElem?_eq_none (by omega)] at hj
              cases hj
            have hl2 : (fl slL ts).length = ts.length * 2 := length_fl slL ts
            have hd2 : j / 2 < ts.length := by omega
            have hg := get_fl slL ts (j / 2) (j % 2) hd2 (Nat.mod_lt _ (by decide))
            have e : j / 2 * slL.sz + j % 2 = j := by show j / 2 * 2 + j % 2 = j; omega
            rw [e, hj] at hg
            obtain ⟨y0, y1⟩ := HC.out _ HW6.out (j / 2) hd2
            rw [addr_add]
            rcases (by omega : j % 2 = 0 ∨ j % 2 = 1) with hm | hm
            · rw [hm] at hg
              have e2 : ao + j = ao + j / 2 * 2 := by omega
              rw [e2, y0]
              exact hg.symm
            · rw [hm] at hg
              have e2 : ao + j = ao + j / 2 * 2 + 1 := by omega
              rw [e2, y1]
              exact hg.symm⟩
          have HSL : Hid (([] : List (Int × Int)).length + ts.length ≤ 10000000) := by show _ ≤ _; have := HL.out; have := HLN.out; simp; omega
          rw [← hw6, ← hsb]
          clear hw6 ho6 hz6 hsb b1
          have HFIN : Hid (∀ v' w7, OwnL slL w7 0 34 v' ([] ++ ts) → Only (fun k => (Value.slice none 0 0).ownBlock = some k) w6 w7 → (v'.ownBlock = (Value.slice none 0 0).ownBlock ∨ ∃ g, v'.ownBlock = some g ∧ w6.heap.size ≤ g ∧ Only (fun _ => False) w6 w7) → (∃ x, w7.cell? ⟨sb, 0, none⟩ = some x) ∧ w7.frozen? ⟨sb, 0, none⟩ = false ∧ NsQ w ts (.returned (.tuple #[.pointer (some ⟨sb, 0, none⟩), .int .i64 0])) (w7.setCell ⟨sb, 0, none⟩ v')) := fun v' w7 a1 a2 a3 => by
            have a2' : Only (fun _ => False) w6 w7 := a2.mono (fun k _ h => by cases h)
            have hr7 := Only.keep a2' HZ6.out (fun h => h)
            have hs : Only (fun k => k = sb) w7 (w7.setCell ⟨sb, 0, none⟩ v') := Only.setCell (S := fun k => k = sb) (Only.refl _ w7) (Or.inl rfl) _
            rw [List.nil_append] at a1
            have hne : ∀ k, v'.ownBlock = some k → k ≠ sb := fun k hk => by
              obtain ⟨cur, hc⟩ := own_tag a1 hk
              exact tag_ne hc hr7 (by decide)
            have hge : ∀ k, v'.ownBlock = some k → w.heap.size ≤ k := fun k hk => by
              rcases lies_of a3 k hk with h9 | h9
              · cases h9
              · exact Nat.le_trans HW6.out.size h9
            refine ⟨⟨_, (cell_of_row _ _ 0 _ _ (0, 0) hr7).trans rfl⟩, by simp [World.frozen?, hr7], Or.inr ⟨tu_all HALL.out (by have := HL.out; have := HLN.out; omega) (by have := HL.out; have := HLN.out; omega), HALL.out, by have := HL.out; have := HLN.out; omega, by have := HL.out; have := HLN.out; omega, sb, rfl, HSB.out, v', .slice none 0 0, ?_⟩, Only.newer (HW6.out.trans a2') hs HSB.out⟩
            refine ⟨?_, a1.kept hs hne, OwnL.nil _ _ _ _, (fun h9 => by have := HSB.out; omega), (fun k hk h9 => by have := hge k hk; omega), (fun k hk => by cases hk), fun k hk => Nat.lt_of_lt_of_le hk (Nat.le_trans (HW6.out.trans a2').size hs.size), Nat.zero_le _⟩
            rw [heap_setCell_same _ _ 0 _ _ v' hr7, ← HLF.out]
            rfl
          go_wp2_with (at_builtin; refine wpList_append_many tuK _ rfl _ _ rfl 0 (.slice none 0 0) [] rfl (OwnL.nil _ _ _ _) (some ⟨ab, ao, none⟩) cap k ts rfl HL.out HS1.out HSL.out (Nat.zero_le _) ?_; intro v' w7 hv1 hv2 hv3; obtain ⟨⟨qx, q1⟩, q2, q3⟩ := HFIN.out v' w7 hv1 hv2 hv3; obtain ⟨pz, cz, hvz, _⟩ := hv1.form; generalize (([] : List (Int × Int)) ++ ts).length = mz at hvz; subst hvz; have HF := Vx.hid q3; clear hv1 hv2 hv3 q3)
          all_goals
            go_ret2
            exact HF.out
end Go.Proofs.Ytgncabcnefhkiaa

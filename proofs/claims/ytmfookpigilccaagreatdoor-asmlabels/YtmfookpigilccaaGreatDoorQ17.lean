/- The walk of package asm's bytes. -/
import Derived.Test.YtmfookpigilccaaGreatDoorQ14
import Derived.Deep.RegionWith
import Derived.Deep.CutRange
namespace Go.Proofs.YtmfookpigilccaaGreatDoor
open Go.ChangeShapes Go.WideShapes Go.ChangeAt Go.RowKit Go.Maps
open Go.Vx (strV labN Only Ins insV Stm stToks stOk stLen wordOf dec tokF fourB)

/-- The words that a line makes, at a place, with these labels. -/
def StEnc (D : DataW Unit) (at' : Nat) : Stm → List Int → Prop
  | none, xs => xs = []
  | some (.inl n), xs => n < 4294967296 ∧ xs = [(n : Int)]
  | some (.inr (i, [])), xs => 1 ≤ i.op ∧ i.op ≤ 48 ∧ dec (wordOf i) = i ∧ xs = [wordOf i]
  | some (.inr (i, c :: l)), xs => 1 ≤ i.op ∧ i.op ≤ 48 ∧ l.length ≤ 20000 ∧ ∃ worth : Nat, worth ≤ 1000000 ∧ Maps.has D (.string (c :: l)) = true ∧ D.atKey (.string (c :: l)) (.lit (.int .i64 0)) = .lit (.int .i64 (worth : Int)) ∧
      dec (wordOf { i with imm := (worth : Int) - at' }) = { i with imm := (worth : Int) - at' } ∧ xs = [wordOf { i with imm := (worth : Int) - at' }]
/-- No word, or one, in a slice. -/
def SlW (w : World) (v : Value) (xs : List Int) : Prop :=
  (xs = [] ∧ v = .slice none 0 0) ∨ ∃ x g, xs = [x] ∧ v = .slice (some ⟨g, 0, none⟩) 1 1 ∧ g < w.heap.size ∧ w.cell? ⟨g, 0, none⟩ = some (.int .u32 x)
theorem SlW.one {w : World} {v : Value} {x : Int} {N : Nat} (h : OneW w v x N) : SlW w v [x] := by
  obtain ⟨g, hv, _, hg, hc⟩ := h
  exact Or.inr ⟨x, g, rfl, hv, hg, hc⟩
theorem words_no (at' : Nat) (mb : Nat) (w : World) :
    Calls Tryz.prog 135 #[.agg #[], .int .i64 at', .map (some mb)] w fun e w' => ∃ v, e = .returned v ∧ SlW w' v [] ∧ Only (fun _ => False) w w' := by
  refine (nothing_words _ _ w).mono ?_
  rintro e w' ⟨rfl, ho⟩
  exact ⟨_, rfl, Or.inl ⟨rfl, rfl⟩, ho⟩
theorem words_word (n at' : Nat) (hn : n < 4294967296) (mb : Nat) (w : World) :
    Calls Tryz.prog 137 #[.agg #[.int .i64 n], .int .i64 at', .map (some mb)] w fun e w' => ∃ v, e = .returned v ∧ SlW w' v [(n : Int)] ∧ Only (fun _ => False) w w' := by
  refine (datum_words n hn _ _ w).mono ?_
  rintro e w' ⟨v, rfl, h1, ho⟩
  exact ⟨_, rfl, SlW.one h1, ho⟩
theorem words_ins (D : DataW Unit) (i : Ins) (lab : List UInt8) (xs : List Int) (at' n mb : Nat) (hat : at' ≤ 1000000) (he : StEnc D at' (.ins i lab) xs) (w : World) (hF : FormsAt w) (hM : MapAt w mb n D) :
    Calls Tryz.prog 143 #[instV i lab, .int .i64 at', .map (some mb)] w fun e w' => ∃ v, e = .returned v ∧ SlW w' v xs ∧ Only (fun _ => False) w w' := by
  cases lab with
  | nil =>
    obtain ⟨h0, h1, hd, rfl⟩ := he
    refine (inst_words i h0 h1 hd _ _ w hF).mono ?_
    rintro e w' ⟨v, rfl, h1, ho⟩
    exact ⟨_, rfl, SlW.one h1, ho⟩
  | cons c l =>
    obtain ⟨h0, h1, hl, worth, hw, hh, ha, hd, rfl⟩ := he
    refine (inst_words_lab i c l hl h0 h1 at' worth (by omega) (by omega) (by omega) (by omega) mb n D hh ha hd w hF hM).mono ?_
    rintro e w' ⟨v, rfl, h1, ho⟩
    exact ⟨_, rfl, SlW.one h1, ho⟩
def u8V (b : UInt8) : Value := .int .u8 (b.toNat : Int)
/-- The bytes of words. -/
def wordsB (xs : List Int) : List UInt8 := xs.flatMap fun x => fourB x.toNat
theorem four_cells (x : Int) (h0 : 0 ≤ x) (_h1 : x < 4294967296) : [Value.int .u8 (x % 256), .int .u8 (x / 256 % 256), .int .u8 (x / 65536 % 256), .int .u8 (x / 16777216 % 256)] = (wordsB [x]).map u8V := by
  have hb : ∀ m : Nat, (UInt8.ofNat (m % 256)).toNat = m % 256 := fun m => by rw [UInt8.toNat_ofNat']; omega
  obtain ⟨m, rfl⟩ : ∃ m : Nat, (m : Int) = x := ⟨x.toNat, by omega⟩
  simp only [wordsB, fourB, List.flatMap_cons, List.flatMap_nil, List.append_nil, List.map_cons, List.map_nil, u8V, hb, Int.toNat_natCast]
  rfl
theorem infoByte : (Tryz.prog.info? 5).map (fun i => (i.zero, i.size, i.bytes)) = some (some (.int .u8 0), 1, 1) := by kernel_rfl
theorem line_at {w : World} {pb mb base : Nat} {acc : List (Stm × Nat)} {n : Nat} {D : DataW Unit} {L : Nat} (h : PrAt w pb mb base acc n D L) (j : Nat) (hj : j < acc.length) :
    ∃ g c, w.cell? ⟨pb, 0, none⟩ = some (.slice (some ⟨g, 0, none⟩) acc.length c) ∧ w.cell? ⟨g, j * 2, none⟩ = some (stV (acc[j]).1) ∧ w.cell? ⟨g, j * 2 + 1, none⟩ = some (.int .i64 ((acc[j]).2 : Int)) := by
  obtain ⟨p, k, c, h0, hr⟩ := h.lines
  rcases hr.2 with ⟨_, hn⟩ | ⟨g, cap, cur, hv, hb, hgg, hnc, _, hcs, htk⟩
  · omega
  · obtain ⟨rfl, rfl, rfl⟩ : p = some ⟨g, 0, none⟩ ∧ k = acc.length ∧ c = cap := by simpa using hv
    have hfl : ∀ (l : List (Stm × Nat)) (j : Nat) (hj : j < l.length), (l.flatMap lineC)[j * 2]? = some (stV (l[j]).1) ∧ (l.flatMap lineC)[j * 2 + 1]? = some (.int .i64 ((l[j]).2 : Int)) := by
      intro l
      induction l with
      | nil => intro j hj; simp at hj
      | cons x l ih =>
        intro j hj
        cases j with
        | zero => exact ⟨rfl, rfl⟩
        | succ j =>
          have := ih j (by simpa using hj)
          rw [List.flatMap_cons]
          have e : ∀ q, (lineC x ++ l.flatMap lineC)[q + 2]? = (l.flatMap lineC)[q]? := fun q => rfl
          rw [show (j + 1) * 2 = j * 2 + 2 by omega, show j * 2 + 2 + 1 = (j * 2 + 1) + 2 by omega, e, e]
          exact this
    obtain ⟨f1, f2⟩ := hfl acc j hj
    have hc : ∀ q, q < acc.length * 2 → w.cell? ⟨g, q, none⟩ = (acc.flatMap lineC)[q]? := by
      intro q hq
      rw [← htk, List.getElem?_take, if_pos hq, Array.getElem?_toList]
      simp [World.cell?, hgg]
    exact ⟨g, c, h0, by rw [hc _ (by omega)]; exact f1, by rw [hc _ (by omega)]; exact f2⟩

set_option maxRecDepth 100000 in
set_option maxHeartbeats 4000000 in
theorem bytes_ok (pb mb base : Nat) (acc : List (Stm × Nat)) (n : Nat) (D : DataW Unit) (L : Nat) (j : Nat) (hj : j < acc.length) (xs : List Int) (hat : (acc[j]).2 ≤ 1000000) (he : StEnc D (acc[j]).2 (acc[j]).1 xs) (hxs : ∀ x ∈ xs, 0 ≤ x ∧ x < 4294967296) (w : World) (hp : PrAt w pb mb base acc n D L) (hF : FormsAt w) :
    Calls Tryz.prog 18 #[.pointer (some ⟨pb, 0, none⟩), .int .i64 j] w fun e w' => ∃ v, e = .returned v ∧ w'.ownsRow w.heap.size 5 1 v (wordsB xs).length ((wordsB xs).map u8V) ∧ Only (fun _ => False) w w' := by
  obtain ⟨g, c, hc0, hg0, hg1⟩ := line_at hp j hj
  obtain ⟨x, hx⟩ : ∃ x, acc[j] = x := ⟨_, rfl⟩
  rw [hx] at he hg0 hg1 hat
  obtain ⟨s, at'⟩ := x
  simp only at he hg0 hg1 hat
  obtain ⟨tid, pv, hsv⟩ : ∃ tid pv, stV s = .iface tid pv := by cases s using Vx.Stm.cs <;> exact ⟨_, _, rfl⟩
  have HSV : Hid (stV s = .iface tid pv) := hsv
  rw [hsv] at hg0
  have hc1 := hp.c1
  have HP : Hid (PrAt w pb mb base acc n D L) := hp
  have HXS : Hid (∀ x ∈ xs, 0 ≤ x ∧ x < 4294967296) := hxs
  have HF : Hid (FormsAt w) := hF
  have HE : Hid (StEnc D at' s xs) := he
  have hidx : 0 ≤ (j : Int) ∧ (j : Int) < (acc.length : Int) := by omega
  clear hx hsv hp hF he hxs
  go_enter Tryz.func18, Tryz.ntmps18
  have hcA : ∀ o, (w.alloc o).cell? ⟨pb, 1, none⟩ = some (.map (some mb)) := fun o => by
    rw [((Only.refl (fun _ => False) w).alloc o).cell (p := ⟨pb, 1, none⟩) (Nat.lt_of_lt_of_le HP.out.pbB HP.out.baseS) (fun h => h)]; exact hc1
  obtain ⟨fw, hme, hcf, hW⟩ : ∃ fw, (∀ wv, (method 286 tid pv "vault/asm.words").run Tryz.prog wv = .ok (fw, pv) wv) ∧ (∀ args wv, (callFunc fw args).run Tryz.prog wv = .ok (.enter fw args) wv) ∧
      ∀ w2, Only (fun _ => False) w w2 → Calls Tryz.prog fw #[pv, .int .i64 (at' : Int), .map (some mb)] w2 fun e w3 => ∃ p k c, e = .returned (.slice p k c) ∧ k = xs.length ∧ Hid (SlW w3 (.slice p k c) xs ∧ Only (fun _ => False) w w3) := by
    have hsw : ∀ w3 v, SlW w3 v xs → ∃ p k c, v = .slice p k c ∧ k = xs.length := by
      rintro w3 v (⟨rfl, rfl⟩ | ⟨x, g, rfl, rfl, _⟩)
      · exact ⟨_, _, _, rfl, rfl⟩
      · exact ⟨_, _, _, rfl, rfl⟩
    cases s using Vx.Stm.cs with
    | no =>
      obtain ⟨rfl, rfl⟩ := Value.iface.inj HSV.out
      refine ⟨135, fun _ => by kernel_rfl, fun _ _ => by simp [go_sem], fun w2 h2 => (words_no at' mb w2).mono ?_⟩
      rintro e w3 ⟨v, rfl, h3, ho⟩
      obtain rfl : xs = [] := HE.out
      obtain ⟨p, k, c, rfl, hk⟩ := hsw w3 v h3
      exact ⟨p, k, c, rfl, hk, h3, h2.trans ho⟩
    | word q =>
      obtain ⟨rfl, rfl⟩ := Value.iface.inj HSV.out
      refine ⟨137, fun _ => by kernel_rfl, fun _ _ => by simp [go_sem], fun w2 h2 => (words_word q at' HE.out.1 mb w2).mono ?_⟩
      rintro e w3 ⟨v, rfl, h3, ho⟩
      obtain rfl : xs = [(q : Int)] := HE.out.2
      obtain ⟨p, k, c, rfl, hk⟩ := hsw w3 v h3
      exact ⟨p, k, c, rfl, hk, h3, h2.trans ho⟩
    | ins i lab =>
      obtain ⟨rfl, rfl⟩ := Value.iface.inj HSV.out
      refine ⟨143, fun _ => by kernel_rfl, fun _ _ => by simp [go_sem], fun w2 h2 => (words_ins D i lab xs at' n mb hat HE.out w2 (HF.out.only h2 (fun h => h)) (HP.out.map.only h2 (fun h => h))).mono ?_⟩
      rintro e w3 ⟨v, rfl, h3, ho⟩
      obtain ⟨p, k, c, rfl, hk⟩ := hsw w3 v h3
      exact ⟨p, k, c, rfl, hk, h3, h2.trans ho⟩
  have HW : Hid (Calls Tryz.prog fw #[pv, .int .i64 (at' : Int), .map (some mb)] (w.alloc (.cells #[.iface tid pv, .int .i64 (at' : Int)] 81)).drew fun e w3 => ∃ p k c, e = .returned (.slice p k c) ∧ k = xs.length ∧ Hid (SlW w3 (.slice p k c) xs ∧ Only (fun _ => False) w w3)) := hW _ (((Only.refl _ w).alloc _).drew)
  clear hW HSV HE
  go_wp2_with fail
  go_cut [26, 27, 28] from 16 to 25 (fun v26 l27 z28 wx => ∃ p k c, v26 = .slice p k c ∧ l27 = .int .i64 (xs.length : Int) ∧ z28 = .int .i64 0 ∧ k = xs.length ∧ Hid (SlW wx (.slice p k c) xs ∧ Only (fun _ => False) w wx))
  case first =>
    go_region_with (refine HW.out.mono ?_; rintro e w3 ⟨p3, k3, c3, rfl, rfl, HS3⟩)
    all_goals (go_wp2_with fail; go_meet)
    all_goals exact ⟨p3, _, c3, rfl, rfl, rfl, rfl, HS3⟩
  case rest =>
    obtain ⟨p3, k3, c3, rfl, rfl, rfl, hk3, HS3⟩ := hcut
    obtain ⟨w3, hw3⟩ : ∃ w3, w3 = wc := ⟨_, rfl⟩
    subst hw3
    subst hk3
    have hxl : xs.length ≤ 1 := by rcases HS3.out.1 with ⟨rfl, _⟩ | ⟨x, g, rfl, _⟩ <;> simp
    obtain ⟨i0, hi, hz0, hz1, hz2⟩ := info_parts infoByte
    have hsz3 : w.heap.size ≤ w3.heap.size := HS3.out.2.size
    go_wp2_with fail
    go_loopw [6, 28] (fun v q wr => ∃ k : Nat, k ≤ xs.length ∧ q = .int .i64 k ∧ wr.ownsRow w3.heap.size 5 1 v (wordsB (xs.take k)).length ((wordsB (xs.take k)).map u8V) ∧ Below w3.heap.size w3 wr ∧ w3.heap.size ≤ wr.heap.size) (fun _ q _ => xs.length - (intOf q).toNat)
    case atStart => exact ⟨0, Nat.zero_le _, rfl, World.ownsRow_nil _ _ _ _, Below.refl _ _, Nat.le_refl _⟩
    case round =>
      obtain ⟨k, hk, rfl, hown, hbel, hbs⟩ := hrel
      by_cases hlt : k < xs.length
      · obtain rfl : k = 0 := by omega
        rcases HS3.out.1 with ⟨hx, _⟩ | ⟨x, g2, hx, hv, hg2, hcg⟩
        · rw [hx] at hlt; simp at hlt
        subst hx
        obtain ⟨rfl, rfl⟩ : p3 = some ⟨g2, 0, none⟩ ∧ c3 = 1 := by simpa using hv
        have hcx : wr.cell? ⟨g2, 0, none⟩ = some (.int .u32 x) := by rw [hbel.cell (p := ⟨g2, 0, none⟩) hg2]; exact hcg
        have hx0 := (HXS.out x (by simp)).1
        have hx1 := (HXS.out x (by simp)).2
        have HB4 : Hid ([Value.int .u8 (x % 256), .int .u8 (x / 256 % 256), .int .u8 (x / 65536 % 256), .int .u8 (x / 16777216 % 256)] = (wordsB [x]).map u8V) := four_cells x hx0 hx1
        clear hv hcg hx0 hx1
        have C1 : Hid (∀ (j : Nat) (u : Value), ([Value.int .u8 (x % 256), .int .u8 (x / 256 % 256), .int .u8 (x / 65536 % 256), .int .u8 (x / 16777216 % 256)])[j]? = some u → (wr.alloc (.cells #[.int .u8 (x % 256), .int .u8 (x / 256 % 256), .int .u8 (x / 65536 % 256), .int .u8 (x / 16777216 % 256)] 5)).cell? ((⟨wr.heap.size, 0, none⟩ : Addr).add j) = some u) := by
          intro j u hj
          match j, hj with
          | 0, hj => simp at hj; subst hj; simp [Addr.add, go_sem]
          | 1, hj => simp at hj; subst hj; simp [Addr.add, go_sem]
          | 2, hj => simp at hj; subst hj; simp [Addr.add, go_sem]
          | 3, hj => simp at hj; subst hj; simp [Addr.add, go_sem]
        have C2 : Hid (∀ u ∈ ([Value.int .u8 (x % 256), .int .u8 (x / 256 % 256), .int .u8 (x / 65536 % 256), .int .u8 (x / 16777216 % 256)]), u.oneCell' = true) := by
          intro u hu
          simp at hu
          rcases hu with rfl | rfl | rfl | rfl <;> rfl
        have C3 : Hid ((wordsB ([x].take 0)).length + 4 ≤ maxLen ∧ ((wordsB ([x].take 0)).length + 4) * 1 ≤ 140737488355328 ∧ w3.heap.size ≤ (wr.alloc (.cells #[.int .u8 (x % 256), .int .u8 (x / 256 % 256), .int .u8 (x / 65536 % 256), .int .u8 (x / 16777216 % 256)] 5)).heap.size) := by
          refine ⟨show 0 + 4 ≤ maxLen by decide, show (0 + 4) * 1 ≤ 140737488355328 by decide, ?_⟩
          simp; omega
        have HOW : Hid ((wr.alloc (.cells #[.int .u8 (x % 256), .int .u8 (x / 256 % 256), .int .u8 (x / 65536 % 256), .int .u8 (x / 16777216 % 256)] 5)).ownsRow w3.heap.size 5 1 u6 (wordsB ([x].take 0)).length ((wordsB ([x].take 0)).map u8V)) := hown.alloc _
        go_wp2_with (at_builtin; refine wpList_append_own _ rfl _ _ 47 rfl w3.heap.size 5 i0 (.int .u8 0) 1 1 Tryz.underlying47 hi hz0 hz1 hz2 rfl (by decide) _ _ _ rfl HOW.out ⟨wr.heap.size, 0, none⟩ 4 4 [.int .u8 (x % 256), .int .u8 (x / 256 % 256), .int .u8 (x / 65536 % 256), .int .u8 (x / 16777216 % 256)] rfl rfl C1.out C2.out C3.out.1 C3.out.2.1 C3.out.2.2 ?_)
        intro v' w4 hown' hgrow' _
        rw [HB4.out] at hown'
        have hbel4 : Below w3.heap.size w3 w4 := (hbel.alloc hbs _).grown hgrow' (by simp; omega) (fun k hk => (hown.lt k hk).1)
        have hbs4 : w3.heap.size ≤ w4.heap.size := by have := hgrow'.size; simp at this; omega
        have hown4 : w4.ownsRow w3.heap.size 5 1 v' (wordsB ([x].take 1)).length ((wordsB ([x].take 1)).map u8V) := hown'
        clear hown' hgrow' hown hbel hbs
        go_wp2_with fail
        go_roundw
        case rel => exact ⟨_, _, _, _, _, _, _, _, _, _, _, _, _, _, _, _, _, _, _, _, _, ⟨1, by simp, by go_num, hown4, hbel4, hbs4⟩, rfl⟩
        case measure => simp [intOf]
      · obtain rfl : k = xs.length := by omega
        rw [List.take_length] at hown
        go_wp2_with fail
        go_ret
        refine ⟨_, rfl, ?_, HS3.out.2.trans (Only.of_below hbel (fun k hk hb => by omega))⟩
        refine ⟨hown.1, ?_⟩
        rcases hown.2 with hn | ⟨g4, cap, cur, hv, hb, rest⟩
        · exact Or.inl hn
        · exact Or.inr ⟨g4, cap, cur, hv, by omega, rest⟩
end Go.Proofs.YtmfookpigilccaaGreatDoor

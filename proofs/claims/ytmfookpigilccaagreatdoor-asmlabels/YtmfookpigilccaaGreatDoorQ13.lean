/- Walks of package asm's atLabel, label, mark; a law on append in a region that draws. -/
import Derived.Test.YtmfookpigilccaaGreatDoorQ12
import Derived.Deep.RegionLaw
import Derived.Maps.AppendAt
namespace Go.Vx
/-- append onto a row of one's own, as one step of a region that draws. -/
theorem step_append_own {P : Program} {ops : Array Oper} {o : Oper} {a : Act} {w : World} {K : Act → World → Prop} {Q : Exit → Act → World → Prop} {E : Prop}
    (hg : o.guard = none) (s x : Operand) (t : TypeId) (hop : o.op = Op.call { callee := Callee.builtin Builtin.append, args := #[s, x], argTypes := #[t, t] })
    (base : Nat) (e : TypeId) (i : TypeInfo) (z : Value) (size bytes : Nat) (h1 : P.underlying t = some (.slice e)) (h2 : P.info? e = some i) (h3 : i.zero = some z) (h4 : i.size = size) (h5 : i.bytes = bytes) (h6 : z.cells.size = size) (h7 : 0 < size)
    (v : Value) (n : Nat) (xs : List Value) (hs : a.eval s = v) (hown : w.ownsRow base e size v n xs)
    (ad : Addr) (m c : Nat) (news : List Value) (hx : a.eval x = .slice (some ad) m c) (hn : news.length = m * size) (hc : ∀ j u, news[j]? = some u → w.cell? (ad.add j) = some u) (h1c : ∀ u ∈ news, u.oneCell' = true)
    (b1 : n + m ≤ maxLen) (b2 : (n + m) * bytes ≤ 140737488355328) (hb : base ≤ w.heap.size)
    (hK : ∀ v' w', w'.ownsRow base e size v' (n + m) (xs ++ news) → w.grownBy w' v.ownBlock → (v'.ownBlock = v.ownBlock ∨ v'.ownBlock = some w.heap.size) → K (a.put o.dst v') w') :
    if Region.wanted o (yielded ops a.tmps) = true then Oper.wp P o a w K Q else E := by
  have hw : Region.wanted o (yielded ops a.tmps) = true := by simp [Region.wanted, hg]
  rw [if_pos hw]
  obtain ⟨v', w', hrun, r1, r2, _, r3⟩ := run_append_own_at (P := P) w base t o.type e i z size bytes h1 h2 h3 h4 h5 h6 h7 v n xs hown ad m c news hn hc h1c b1 b2 hb
  unfold Oper.wp
  simp [execOp, hop, resolve, invoke, builtin, hs, hx, hrun, Result.andThen]
  exact hK v' w' r1 r2 r3
end Go.Vx
namespace Go.Proofs.YtmfookpigilccaaGreatDoor
open Go.ChangeShapes Go.WideShapes Go.ChangeAt Go.RowKit Go.Maps
open Go.Vx (strV labN Only Ins insV Stm stToks stOk stLen wordOf dec)

theorem atLabel_no (b : Nat) (ts : List (List UInt8)) (hl : ts.length ≤ 30000) (h : ∀ t, ts[1]? = some t → t ≠ [58]) (w : World) (hr : RdAt w b ts) :
    Calls Tryz.prog 34 #[.pointer (some ⟨b, 0, none⟩)] w fun e w' => e = .returned (.bool false) ∧ w' = w := by
  obtain ⟨hb, v, hc, hf, p, n, c, rfl, hn, hnc, h1⟩ := hr
  by_cases hlt : 1 < n
  · have hl1 : 1 < ts.length := by omega
    rcases h1 with h1 | ⟨g, o, rfl, hg, hj⟩
    · rw [h1] at hl1; simp at hl1
    have hc1 := hj 1 hl1
    obtain ⟨t, ht⟩ : ∃ t, ts[1] = t := ⟨_, rfl⟩
    rw [ht] at hc1
    have hne := h t (by rw [← ht]; exact List.getElem?_eq_getElem hl1)
    have e1 : (t == [58]) = false := by simp [hne]
    have hlt1 : (1 : Int) < (n : Int) := by omega
    have hlt2 : 0 ≤ (1 : Int) ∧ (1 : Int) < (n : Int) := by omega
    unfold strV at hc1
    clear hj ht hn h hne
    go_enter Tryz.func34, Tryz.ntmps34
    go_wp2
    go_ret
    exact ⟨rfl, rfl⟩
  · have hlt1 : ¬ (1 : Int) < (n : Int) := by omega
    clear hn h h1
    go_enter Tryz.func34, Tryz.ntmps34
    go_wp2
    go_ret
    exact ⟨rfl, rfl⟩
theorem atLabel_yes (b : Nat) (t : List UInt8) (ts : List (List UInt8)) (w : World) (hr : RdAt w b (t :: [58] :: ts)) :
    Calls Tryz.prog 34 #[.pointer (some ⟨b, 0, none⟩)] w fun e w' => e = .returned (.bool true) ∧ w' = w := by
  obtain ⟨hb, v, hc, hf, p, n, c, rfl, hn, hnc, h1⟩ := hr
  rcases h1 with h1 | ⟨g, o, rfl, hg, hj⟩
  · cases h1
  have hc1 : w.cell? ⟨g, o + 1, none⟩ = some (.string ⟨#[58]⟩) := hj 1 (by simp)
  have hlt1 : (1 : Int) < (n : Int) := by rw [hn]; simp; omega
  have hlt2 : 0 ≤ (1 : Int) ∧ (1 : Int) < (n : Int) := ⟨by omega, hlt1⟩
  clear hj hn
  go_enter Tryz.func34, Tryz.ntmps34
  go_wp2
  go_ret
  exact ⟨rfl, rfl⟩
theorem label_ok (b : Nat) (c : UInt8) (l : List UInt8) (hlen : l.length ≤ 20000) (hn : labN (c :: l) = true) (ts : List (List UInt8)) (hl : ts.length ≤ 30) (w : World) (hr : RdAt w b ((c :: l) :: [58] :: ts)) :
    Calls Tryz.prog 36 #[.pointer (some ⟨b, 0, none⟩)] w fun e w' => e = .returned (.string ⟨(c :: l).toArray⟩) ∧ RdAt w' b ts ∧ Only (fun k => k = b) w w' := by
  have HR : Hid (RdAt w b ((c :: l) :: [58] :: ts)) := hr
  have HLN : Hid (labN (c :: l) = true) := hn
  clear hr hn
  go_enter Tryz.func36, Tryz.ntmps36
  go_wp2_with fail
  refine (next_some b _ _ (by simp; omega) _ HR.out).mono ?_
  rintro e w1 ⟨rfl, hr1, ho1⟩
  have H1 : Hid (RdAt w1 b ([58] :: ts) ∧ Only (fun k => k = b) w w1) := ⟨hr1, ho1⟩
  unfold strV
  clear hr1 ho1
  go_wp2_with fail
  refine (isName_any c l hlen _).mono ?_
  rintro e w2 ⟨rfl, rfl⟩
  rw [HLN.out]
  go_wp2_with fail
  refine (must_ok b [58] ts (by omega) _ H1.out.1).mono ?_
  rintro e w3 ⟨rfl, hr3, ho3⟩
  have H3 : Hid (RdAt w3 b ts ∧ Only (fun k => k = b) w w3) := ⟨hr3, H1.out.2.trans ho3⟩
  clear hr3 ho3 H1
  go_wp2_with fail
  go_ret
  exact ⟨rfl, H3.out⟩
set_option maxHeartbeats 1000000 in
theorem mark_ok (pb mb n : Nat) (D : DataW Unit) (hn : n < 1000) (c : UInt8) (l : List UInt8) (hlen : l.length ≤ 20000) (hhas : Maps.has D (.string (c :: l)) = false) (L : Int) (h0 : 0 ≤ L) (h1 : L ≤ 1000000) (w : World) (hM : MapAt w mb n D)
    (hc1 : w.cell? ⟨pb, 1, none⟩ = some (.map (some mb))) (hc2 : w.cell? ⟨pb, 2, none⟩ = some (.int .i64 L)) :
    Calls Tryz.prog 35 #[.pointer (some ⟨pb, 0, none⟩), .string ⟨(c :: l).toArray⟩] w fun e w' => e = .returned (.tuple #[]) ∧ MapAt w' mb (n + 1) (D.put (.string (c :: l)) (.lit (.int .i64 L))) ∧ Only (fun k => k = mb) w w' := by
  have HM : Hid (MapAt w mb n D) := hM
  have HH : Hid (Maps.has D (.string (c :: l)) = false) := hhas
  have hkey : keyOf Tryz.prog 9 (.string ⟨(c :: l).toArray⟩) = some (.string (c :: l)) := Go.WideMaps.keyOf_string_mk Tryz.underlying9 (by unfold maxLen; simp [ByteArray.size]; omega)
  have hMd : ∀ wv : World, wv.heap = w.heap → MapAt wv mb n D := fun wv hv => by
    obtain ⟨es, clock, hb, F, hs, hD⟩ := hM
    exact ⟨es, clock, by rw [hv]; exact hb, F, hs, hD⟩
  have HMD : Hid (∀ wv : World, wv.heap = w.heap → MapAt wv mb n D) := hMd
  clear hM hhas hMd
  go_enter Tryz.func35, Tryz.ntmps35
  go_wp2_with (at_lookup; refine wpList_lookup_own_ok_int _ rfl _ _ 39 rfl 9 3 .i64 keyed9 Tryz.underlying39 Tryz.underlying3 (zero3 _) mb n D rfl HM.out _ _ rfl hkey ?_; intro cc hcc hwf; rw [HH.out])
  obtain ⟨w', hrun, r1, r2⟩ := (HMD.out w.drew rfl).update (t := 39) (e := 3) keyed9 Tryz.underlying39 (by unfold maxLen; omega) (val := .int .i64 L) hkey (plainElem_int Tryz.underlying3 (WalkArith.wf_i64 (by omega)))
  have R1 : Hid (MapAt w' mb (n + 1) (D.put (.string (c :: l)) (.lit (.int .i64 L)))) := r1
  have R2 : Hid (Only (fun k => k = mb) w w') := by
    have h : Only (fun k => k = mb) w.drew w' := Only.of_grown r2 (fun k hk => (Option.some.inj hk).symm)
    exact ⟨h.os, h.tape, h.output, h.size, h.block⟩
  clear r1 r2 hcc hwf
  go_region
  go_wp2_with fail
  first | go_end0 | refine bodyPost_ret (results_none rfl _ _ _) rfl ?_
  exact ⟨rfl, R1.out, R2.out⟩
end Go.Proofs.YtmfookpigilccaaGreatDoor

import Derived.Test.YtbmchgjilkoplaaDoorCk31
/- Chapter 7, the program's store: its boxes' numbers; Drop. -/
namespace Go.Proofs.YtbmchgjilkoplaaDoor
open Go.ChangeShapes Go.WideShapes Go.ChangeAt Go.RowKit
open Go.Vx
set_option linter.unusedVariables false
variable {U : Nat → Prop} {w : World} {xb mb : Nat} {D : DataW Value} {G : Int → Nat} {bs : List (Int × Int)} {es : List En} {Q : Sl → Pl}

/-- A map's keys, by what it has. -/
theorem keys_of {n : Nat} (hm : w.ownsMap Tryd.prog 3 RH mb n D) (hs : ∀ k, I64 k → Maps.has D (.int .i64 k) = (sizeF bs k).isSome) (hnd : (bs.map (·.1)).Nodup) (hib : ∀ b ∈ bs, I64 b.1) : (bs.map (·.1)).Perm (intKeys D) ∧ Maps.size D = bs.length := by
  obtain ⟨l, hD, hpw, _⟩ := hm.entries keyedI
  obtain ⟨l2, hD2, hko⟩ := hm.keysOf
  obtain rfl : l = l2 := by rw [hD] at hD2; simpa using hD2
  have hk : ∀ p ∈ l, ∃ x, p.1 = .int .i64 x ∧ I64 x := fun p hp => by
    obtain ⟨v, hv⟩ := hko p hp
    obtain ⟨x, _, hx, hw⟩ := Maps.keyOf_i64 Tryd.underlying3 hv
    exact ⟨x, hx, i64_wf hw⟩
  have hp : (bs.map (·.1)).Perm (intKeys D) := by
    rw [hD] at hs ⊢
    refine perm_intKeys hpw (fun p hp => ?_) hnd (fun x => ?_)
    · obtain ⟨x, hx, _⟩ := hk p hp
      exact ⟨x, hx⟩
    · constructor
      · intro hx
        obtain ⟨b, hb, rfl⟩ := List.mem_map.1 hx
        rw [hs _ (hib b hb), (mem_size hnd hb).1]
        rfl
      · intro hx
        have hx2 := hx
        rw [Maps.has_eq, List.any_eq_true] at hx2
        obtain ⟨p, hp, hpk⟩ := hx2
        obtain ⟨y, hy, hyi⟩ := hk p hp
        rw [hy] at hpk
        have hyx : y = x := by simpa [Lit.sameKey] using hpk
        subst hyx
        rw [hs y hyi] at hx
        obtain ⟨m, hm⟩ := Option.isSome_iff_exists.1 hx
        exact List.mem_map.2 ⟨_, size_mem hm, rfl⟩
  refine ⟨hp, ?_⟩
  have h1 := hp.length_eq
  rw [hD] at h1 ⊢
  rw [Maps.size_eq]
  simp only [intKeys, List.length_map] at h1
  exact h1.symm
theorem owns_exact {n : Nat} (hm : w.ownsMap Tryd.prog 3 RH mb n D) : w.ownsMap Tryd.prog 3 RH mb (Maps.size D) D := by
  obtain ⟨l, clock, hb, F, hs, rfl⟩ := hm
  exact ⟨l, clock, hb, F, by simp [Maps.size, length_sorted], rfl⟩
theorem XsAt.keys (h : XsAt U w xb mb D G bs Q) : (bs.map (·.1)).Perm (intKeys D) ∧ Maps.size D = bs.length := keys_of h.m h.hs h.nd h.ib
/-- One box less. -/
theorem XsAt.dropped {w3 : World} (h : XsAt U w xb mb D G bs Q) {num : Int} (hnum : I64 num) {i : Nat} (hi : boxF bs num = some i) (hm : w3.ownsMap Tryd.prog 3 RH mb bs.length (D.del (.int .i64 num))) (hgr : w.grownBy w3 (some mb)) :
    XsAt U w3 xb mb (D.del (.int .i64 num)) G (bs.eraseIdx i) Q ∧ Only (fun j => ¬ U j) w w3 := by
  obtain ⟨hil, _, _⟩ := boxF_at hi
  have ho3 : Only (fun j => j = mb) w w3 := ⟨hgr.os, hgr.tape, hgr.output, hgr.size, fun k hk hn => hgr.block k hk (fun e => hn (by injection e))⟩
  have hsz := sizeF_drop h.nd hi
  have hnek : ∀ k, k ≠ num → (Lit.int .i64 k) ≠ (Lit.int .i64 num) := fun k hk e => hk (by injection e)
  have hold : ∀ k n, sizeF (bs.eraseIdx i) k = some n → k ≠ num ∧ sizeF bs k = some n := fun k n hk => by
    rw [hsz k] at hk
    by_cases hkn : k = num
    · rw [if_pos hkn] at hk; cases hk
    · rw [if_neg hkn] at hk; exact ⟨hkn, hk⟩
  have hso : ∀ k, (sizeF (bs.eraseIdx i) k).isSome = true → (sizeF bs k).isSome = true := fun k hk => by
    obtain ⟨n, hn⟩ := Option.isSome_iff_exists.1 hk
    rw [(hold k n hn).2]; rfl
  have hhs : ∀ k, I64 k → Maps.has (D.del (.int .i64 num)) (.int .i64 k) = (sizeF (bs.eraseIdx i) k).isSome := fun k hk => by
    rw [hsz k]
    by_cases hkn : k = num
    · rw [if_pos hkn, hkn, Maps.has_del_same]; rfl
    · rw [if_neg hkn, Maps.has_del_other (hnek k hkn)]; exact h.hs k hk
  have hnd : ((bs.eraseIdx i).map (·.1)).Nodup := List.Nodup.sublist (List.Sublist.map _ (List.eraseIdx_sublist bs i)) h.nd
  have hib : ∀ b ∈ bs.eraseIdx i, I64 b.1 := fun b hb => h.ib b (List.mem_of_mem_eraseIdx hb)
  have hm2 : w3.ownsMap Tryd.prog 3 RH mb (bs.eraseIdx i).length (D.del (.int .i64 num)) := by
    rw [← (keys_of hm hhs hnd hib).2]
    exact owns_exact hm
  have hlen : (bs.eraseIdx i).length = bs.length - 1 := List.length_eraseIdx_of_lt hil
  refine ⟨⟨by rw [ho3.block _ (lt_of_some h.ns) (fun e => map_ne h.ns h.m e)]; exact h.ns, by rw [ho3.block _ (lt_of_some h.x) (fun e => map_ne h.x h.m e)]; exact h.x, hm2, hhs, fun k n z hk => ?_, fun k n hk => ?_, fun j k hj hk e => h.gi j k (hso j hj) (hso k hk) e, h.un, h.ux, h.um, fun k hk => h.ug k (hso k hk), fun j hj => Nat.lt_of_lt_of_le (h.low j hj) ho3.size, fun k n hk => h.bn k n (hold k n hk).2, hnd, hib, by rw [hlen]; have := h.nb; omega⟩, ho3.mono (fun j _ hj => by subst hj; exact h.um)⟩
  · obtain ⟨h1, h2⟩ := hold k n hk
    rw [Maps.atKey_del_other (hnek k h1)]
    exact h.ha k n z h2
  · obtain ⟨h1, h2⟩ := hold k n hk
    refine (h.bl k n h2).kept ho3 (fun j hj => ?_)
    have : G k = j := by simpa [Value.ownBlock] using hj
    rw [← this]
    exact (h.sep (b := k) (by rw [h2]; rfl)).2.2.1
theorem in_box (hf : Wf bs es) (hx : Wx bs es) {num n : Int} (hn : sizeF bs num = some n) : (∃ k : Nat, (k : Int) < n ∧ (plF es (num, (k : Int))).1.kind ≠ 0) ↔ ∃ j, inF es num = some j := by
  constructor
  · rintro ⟨k, hk, hq⟩
    cases hin : inF es num with
    | some j => exact ⟨j, rfl⟩
    | none =>
      exfalso
      refine hq ((plF_kind hx hf.once _).2 fun e he hE => ?_)
      have := idxF_none hin e he
      rw [hE] at this
      simp at this
  · rintro ⟨j, hj⟩
    obtain ⟨hjl, hjp⟩ := idxF_get hj
    have h1 := of_decide_eq_true hjp
    have hmem := List.getElem_mem hjl
    obtain ⟨b, hb, h2, h3, h4⟩ := hx.ix _ hmem
    have h5 := (mem_size hx.nd hb).1
    rw [h2, h1, hn] at h5
    injection h5 with h5
    refine ⟨(es[j - 0].at'.2).toNat, by omega, fun h6 => (plF_kind hx hf.once _).1 h6 _ hmem ?_⟩
    refine Prod.ext h1 ?_
    simp only
    omega
set_option maxRecDepth 100000 in
set_option maxHeartbeats 1000000 in
theorem xdrop_ok (hc : XcAt U w xb bs es) (num : Int) (hnum : I64 num) : Calls Tryd.prog 26 #[.pointer (some ⟨xb, 0, none⟩), .int .i64 num] w fun e w' => e = .returned (.int .i64 (dropE bs es num)) ∧ XcAt U w' xb (dropL bs es num) es ∧ Only (fun k => ¬ U k) w w' := by
  have HC := Vx.hid hc
  obtain ⟨mb, D, G, h, hf, hx, hl⟩ := hc
  have hlk := (h.look num hnum).2
  have c0 := h.c0
  cases hb : boxF bs num with
  | none =>
    have hs := sizeF_none hb
    have HE : Hid (dropE bs es num = 6) := by show dropE bs es num = 6; unfold dropE; rw [hb]
    have HR : Hid (XcAt U w xb (dropL bs es num) es) := by show XcAt U w xb (dropL bs es num) es; unfold dropL; rw [hb]; exact HC.out
    rw [lookV_none hs, hs] at hlk
    have hl2 : (Instr.lookup 77 (.map (some mb)) (.int .i64 num) true).run Tryd.prog w = .ok (.tuple #[.slice none 0 0, .bool false]) w := hlk
    clear h hf hx hl hlk hs hb hnum HC
    go_enter Tryd.func26, Tryd.ntmps26
    go_wp2_with fail
    all_goals
      go_ret
      exact ⟨by rw [HE.out]; try rfl, HR.out, Only.refl _ _⟩
  | some i =>
    obtain ⟨hil, _, hs⟩ := boxF_at hb
    generalize hn : bs[i].2 = n at hs
    have HCO := Vx.hid (contains_ok h num n hs)
    have HIN := Vx.hid (in_box hf hx hs)
    rw [lookV_some hs, hs] at hlk
    have hl2 : (Instr.lookup 77 (.map (some mb)) (.int .i64 num) true).run Tryd.prog w = .ok (.tuple #[.slice (some ⟨G num, 0, none⟩) n.toNat n.toNat, .bool true]) w := hlk
    have HX := Vx.hid h
    have HK := Vx.hid hnum
    have HB := Vx.hid hb
    cases hin : inF es num with
    | some j =>
      have HE : Hid (dropE bs es num = 10) := by show dropE bs es num = 10; unfold dropE; rw [hb, hin]
      have HR : Hid (∀ w2, Only (fun _ => False) w w2 → XcAt U w2 xb (dropL bs es num) es) := fun w2 h2 => by
        have : dropL bs es num = bs := by unfold dropL; rw [hb, hin]
        rw [this]
        exact ⟨mb, D, G, h.quiet h2, hf, hx, hl⟩
      have HT := Vx.hid (HIN.out.2 ⟨j, hin⟩)
      clear h hf hx hl hlk hs hb hnum HC hin hn
      go_enter Tryd.func26, Tryd.ntmps26
      go_wp2_with fail
      refine HCO.out.mono ?_
      rintro e w2 ⟨r, rfl, h1, h2⟩
      obtain rfl : r = true := h1.2 HT.out
      have H2 := Vx.hid h2
      clear h1 h2
      go_wp2_with fail
      all_goals
        go_ret
        exact ⟨by rw [HE.out]; try rfl, HR.out _ H2.out, H2.out.mono (fun _ _ h => h.elim)⟩
    | none =>
      have HE : Hid (dropE bs es num = 0) := by show dropE bs es num = 0; unfold dropE; rw [hb, hin]
      have HL : Hid (dropL bs es num = bs.eraseIdx i) := by show dropL bs es num = _; unfold dropL; rw [hb, hin]; exact drop_eq hil
      have hwd := hf.drop num
      have hxd := hx.drop num
      rw [HL.out] at hwd hxd
      have HWX := Vx.hid (⟨hwd, hxd, hl⟩ : _ ∧ _ ∧ _)
      have HNI := Vx.hid hin
      clear h hf hx hl hlk hs hb hnum HC hin hn hwd hxd
      go_enter Tryd.func26, Tryd.ntmps26
      go_wp2_with fail
      refine HCO.out.mono ?_
      rintro e w2 ⟨r, rfl, h1, h2⟩
      obtain rfl : r = false := by
        cases r with
        | false => rfl
        | true =>
          obtain ⟨j, hj⟩ := HIN.out.1 (h1.1 rfl)
          rw [HNI.out] at hj; cases hj
      have H2 := Vx.hid h2
      have HX2 := Vx.hid (HX.out.quiet h2)
      clear c0
      have c0 := HX2.out.c0
      clear h1 h2 hl2
      obtain ⟨w3, hrun, hm3, ht3⟩ := HX2.out.m.drop (t := 77) (e := 80) keyedI Tryd.underlying77 (keyI HK.out) 0
      have HF := Vx.hid (HX2.out.dropped HK.out HB.out hm3 ht3.grown)
      clear hm3 ht3
      go_wp2_with fail
      all_goals
        go_ret
        exact ⟨by rw [HE.out]; try rfl, by rw [HL.out]; exact ⟨mb, _, G, HF.out.1, HWX.out.1, HWX.out.2.1, HWX.out.2.2⟩, (H2.out.mono (fun _ _ h => h.elim)).trans HF.out.2⟩
end Go.Proofs.YtbmchgjilkoplaaDoor

/- Chapter 7, the program's store: relink. -/
namespace Go.Proofs.YtbmchgjilkoplaaDoor
open Go.ChangeShapes Go.WideShapes Go.ChangeAt Go.RowKit
open Go.Vx
set_option linter.unusedVariables false
variable {U : Nat → Prop} {w : World} {xb mb : Nat} {D : DataW Value} {G : Int → Nat} {bs : List (Int × Int)} {es : List En} {Q : Sl → Pl}

theorem XsAt.sameIn {Q2 : Sl → Pl} (h : XsAt U w xb mb D G bs Q) (hq : ∀ (k n : Int) (i : Nat), sizeF bs k = some n → (i : Int) < n → Q (k, (i : Int)) = Q2 (k, (i : Int))) : XsAt U w xb mb D G bs Q2 := by
  refine ⟨h.ns, h.x, h.m, h.hs, h.ha, fun k n hk => ?_, h.gi, h.un, h.ux, h.um, h.ug, h.low, h.bn, h.nd, h.ib, h.nb⟩
  have h1 := h.bl k n hk
  have hb := h.bn k n hk
  have e : rowQ Q k n.toNat = rowQ Q2 k n.toNat := by
    apply List.ext_getElem
    · rw [rowQ_len, rowQ_len]
    · intro i h2 h3
      rw [rowQ_at, rowQ_at]
      rw [rowQ_len] at h2
      exact hq k n i hk (by omega)
  rw [e] at h1
  exact h1
theorem ranges_only {S : Nat → Prop} {w w2 : World} {r n cnt : Nat} {left : Lit → Bool} (h : w.ranges Tryd.prog 3 RH mb r n D left cnt) (ho : Only S w w2) (hb : ¬ S mb) (hr : ¬ S r) : w2.ranges Tryd.prog 3 RH mb r n D left cnt := by
  have h1 := h.owns.lt
  have h2 := h.lt
  obtain ⟨l, clock, since, seen, c0, hb2, F, hs, hD, hr2, rest⟩ := h
  exact ⟨l, clock, since, seen, c0, (ho.block mb h1 hb).trans hb2, F, hs, hD, (ho.block r h2 hr).trans hr2, rest⟩
theorem iter_ne {w : World} {r n cnt k : Nat} {left : Lit → Bool} {c : Array Value} {t : TypeId} {fr : Nat × Nat} (h : w.ranges Tryd.prog 3 RH mb r n D left cnt) (hc : w.heap[k]? = some (.cells c t fr)) : r ≠ k := by
  obtain ⟨l, clock, since, seen, c0, hb2, F, hs, hD, hr2, rest⟩ := h
  rintro rfl
  rw [hr2] at hc
  cases hc
/-- What the next step of a range tells. -/
theorem XsAt.nextKey (h : XsAt U w xb mb D G bs Q) {x : Int} {kl : Lit} {y : DataW Value × List MemPlace} {p : Option Addr} {n c : Nat} (hkey : keyOf Tryd.prog 3 (.int .i64 x) = some kl) (hv : RH (.slice p n c) = some y) (hat : ∀ zd, D.atKey kl zd = y.1) :
    I64 x ∧ kl = .int .i64 x ∧ ∃ m, sizeF bs x = some m ∧ p = some ⟨G x, 0, none⟩ ∧ n = m.toNat ∧ c = m.toNat := by
  obtain ⟨x2, ex, rfl, hw⟩ := Maps.keyOf_i64 Tryd.underlying3 hkey
  obtain rfl : x = x2 := encZ_inj ex
  have hi := i64_wf hw
  have hh := Maps.has_true_of_atKey hat
  rw [h.hs x hi] at hh
  obtain ⟨m, hm⟩ := Option.isSome_iff_exists.1 hh
  obtain ⟨p2, n2, c2, e1, e2⟩ := RH_inv hv
  have h1 := hat (.held (.slice none 0 0))
  rw [h.ha x m _ hm, e2] at h1
  injection h1 with h1
  injection e1 with e1 e3 e4
  injection h1 with h1 h2 h3
  exact ⟨hi, rfl, m, hm, by rw [e1, h1], by rw [e3, h2], by rw [e4, h3]⟩
/-- Under way: those boxes still to come are as they were. -/
def QL (Q : Sl → Pl) (a t : Sl) (left : Lit → Bool) (s : Sl) : Pl := if left (.int .i64 s.1) = true then Q s else relF a t (Q s)
/-- .. within a box. -/
def QK (Q : Sl → Pl) (a t : Sl) (left : Lit → Bool) (c : Int) (k : Nat) (s : Sl) : Pl := if s.1 = c then (if s.2 < (k : Int) then relF a t (Q s) else Q s) else QL Q a t left s
theorem QK_set (Q : Sl → Pl) (a t : Sl) (left : Lit → Bool) (c : Int) (k : Nat) (s : Sl) : QK Q a t left c (k + 1) s = setQ (QK Q a t left c k) (c, (k : Int)) (relF a t (Q (c, (k : Int)))) s := by
  unfold setQ
  by_cases hs : s = (c, (k : Int))
  · rw [if_pos hs, hs]
    unfold QK
    rw [if_pos rfl, if_pos (by simp only; omega)]
  · rw [if_neg hs]
    unfold QK
    by_cases h1 : s.1 = c
    · rw [if_pos h1, if_pos h1]
      have h2 : s.2 ≠ (k : Int) := fun h2 => hs (Prod.ext h1 h2)
      by_cases h3 : s.2 < (k : Int)
      · rw [if_pos h3, if_pos (by omega)]
      · rw [if_neg h3, if_neg (by omega)]
    · rw [if_neg h1, if_neg h1]
theorem QK_at (Q : Sl → Pl) (a t : Sl) (left : Lit → Bool) (c : Int) (k : Nat) : QK Q a t left c k (c, (k : Int)) = Q (c, (k : Int)) := by
  unfold QK
  rw [if_pos rfl, if_neg (by simp)]
/-- What stands between the rounds. -/
structure RlR (U : Nat → Prop) (w : World) (xb mb r ab tb : Nat) (D : DataW Value) (G : Int → Nat) (bs : List (Int × Int)) (QQ : Sl → Pl) (a t : Sl) (left : Lit → Bool) (cnt : Nat) (wr : World) : Prop where
  rg : wr.ranges Tryd.prog 3 RH mb r bs.length D left cnt
  xs : XsAt U wr xb mb D G bs QQ
  av : wr.heap[ab]? = some (.cells #[.int .i64 a.1, .int .i64 a.2] 62 (0, 0))
  tv : wr.heap[tb]? = some (.cells #[.int .i64 t.1, .int .i64 t.2] 62 (0, 0))
  nr : ¬ U r
  on : Only (fun k => ¬ U k) w wr
theorem RlR.quiet {U : Nat → Prop} {w : World} {xb mb r ab tb : Nat} {D : DataW Value} {G : Int → Nat} {bs : List (Int × Int)} {QQ : Sl → Pl} {a t : Sl} {left : Lit → Bool} {cnt : Nat} {wr wx : World} (h : RlR U w xb mb r ab tb D G bs QQ a t left cnt wr) (ho : Only (fun _ => False) wr wx) : RlR U w xb mb r ab tb D G bs QQ a t left cnt wx :=
  ⟨ranges_only h.rg ho (fun h => h) (fun h => h), h.xs.quiet ho, by rw [ho.block ab (lt_of_some h.av) (fun h => h)]; exact h.av, by rw [ho.block tb (lt_of_some h.tv) (fun h => h)]; exact h.tv, h.nr, h.on.trans (ho.mono (fun _ _ h => h.elim))⟩
theorem RlR.same {U : Nat → Prop} {w : World} {xb mb r ab tb : Nat} {D : DataW Value} {G : Int → Nat} {bs : List (Int × Int)} {QQ Q2 : Sl → Pl} {a t : Sl} {left : Lit → Bool} {cnt : Nat} {wr : World} (h : RlR U w xb mb r ab tb D G bs QQ a t left cnt wr) (hq : ∀ (k n : Int) (i : Nat), sizeF bs k = some n → (i : Int) < n → QQ (k, (i : Int)) = Q2 (k, (i : Int))) : RlR U w xb mb r ab tb D G bs Q2 a t left cnt wr :=
  ⟨h.rg, h.xs.sameIn hq, h.av, h.tv, h.nr, h.on⟩
/-- One place put anew in a round. -/
theorem RlR.put {U : Nat → Prop} {w : World} {xb mb r ab tb : Nat} {D : DataW Value} {G : Int → Nat} {bs : List (Int × Int)} {QQ : Sl → Pl} {a t : Sl} {left : Lit → Bool} {cnt : Nat} {wr wx : World} (h : RlR U w xb mb r ab tb D G bs QQ a t left cnt wr) {c n : Int} (hn : sizeF bs c = some n) (k : Nat) (p : Pl) (hw : OwnL plL wx 0 105 (.slice (some ⟨G c, 0, none⟩) n.toNat n.toNat) ((rowQ QQ c n.toNat).set k p)) (ho : Only (fun j => j = G c) wr wx) : RlR U w xb mb r ab tb D G bs (setQ QQ (c, (k : Int)) p) a t left cnt wx := by
  obtain ⟨h1, h2⟩ := h.xs.put hn k p hw ho
  have hs : (sizeF bs c).isSome = true := by rw [hn]; rfl
  obtain ⟨cur, hc⟩ := own_tag (h.xs.bl c n hn) (k := G c) rfl
  have n1 : ab ≠ G c := tag_ne h.av hc (by decide)
  have n2 : tb ≠ G c := tag_ne h.tv hc (by decide)
  exact ⟨ranges_only h.rg ho (fun e => (h.xs.sep hs).2.2.1 e.symm) (iter_ne h.rg hc), h1, by rw [ho.block ab (lt_of_some h.av) n1]; exact h.av, by rw [ho.block tb (lt_of_some h.tv) n2]; exact h.tv, h.nr, h.on.trans h2⟩
end Go.Proofs.YtbmchgjilkoplaaDoor

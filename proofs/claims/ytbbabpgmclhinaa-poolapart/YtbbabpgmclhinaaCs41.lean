import Derived.Test.YtbbabpgmclhinaaCs40
/- Chapter 8, the program's pool: Give. -/
namespace Go.Proofs.Ytbbabpgmclhinaa
open Go.ChangeShapes Go.WideShapes Go.ChangeAt Go.RowKit
open Go.Vx
set_option linter.unusedVariables false
variable {U V S : Nat → Prop} {w w2 w3 wr wx : World} {xb pb mb gb r N cnt cnt2 B L c : Nat} {P a n : Int} {D D2 : DataW Value} {os rs os2 rs2 : List (Int × Int)} {ls : List Int}

theorem idxF_app {α : Type} {p : α → Bool} : ∀ {l : List α} {k i : Nat} (m : List α), idxF p l k = some i → idxF p (l ++ m) k = some i
  | [], k, i, m, h => by cases h
  | x :: l, k, i, m, h => by
    rw [List.cons_append]
    unfold idxF at h ⊢
    by_cases hp : p x = true
    · rw [if_pos hp] at h ⊢; exact h
    · rw [if_neg hp] at h ⊢; exact idxF_app m h
theorem gG_at {k num : Int} {i : Nat} (hi : rgF rs num = some i) (l : List Int) : rgF (gG k rs l) num = some i := by
  unfold gG
  split
  · exact idxF_app _ hi
  · exact hi
theorem set_fill (ns : List Int) (c j : Nat) (hl : ns.length = c) (hj : j < ns.length) : (ns.take j ++ List.replicate (c - j) 0).set j ns[j] = ns.take (j + 1) ++ List.replicate (c - (j + 1)) 0 := by
  have e : c - j = (c - (j + 1)) + 1 := by omega
  have e2 : (ns.take j).length = j := by rw [List.length_take]; omega
  rw [List.take_succ_eq_append_getElem hj, List.append_assoc, e, List.replicate_succ, List.set_append_right _ _ (by omega), e2, Nat.sub_self]
  rfl
theorem gvx_start {A M k : Int} {w5 : World} (hx : XqAt U w xb mb gb D N os rs) (hr : RgA w A M B w5) (hc : c ≤ 64) : GvX U w xb mb gb N B w5.heap.size c A M (gO k os []) (gG k rs []) (List.replicate c 0) (w5.alloc (.cells (fl inL (List.replicate c (0 : Int))).toArray 3)) := by
  have e1 : gO k os [] = os := by unfold gO; simp
  have e2 : gG k rs [] = rs := by unfold gG; simp
  rw [e1, e2]
  have ho : Only (fun _ => False) w5 (w5.alloc (.cells (fl inL (List.replicate c (0 : Int))).toArray 3)) := (Only.refl _ w5).alloc _
  have hs : (w5.alloc (.cells (fl inL (List.replicate c (0 : Int))).toArray 3)).heap.size = w5.heap.size + 1 := by simp
  have hB := (own_lt hr.2.2 (k := B) rfl).2
  have hsz := hr.1.size
  refine ⟨⟨D, hx.step (hr.1.trans ho) (fun _ _ h => h.elim) (fun k hk => ?_)⟩, own_made2 (heap_alloc_last w5 _) hsz (by rw [List.length_replicate]) (by omega), hr.2.2.kept ho (fun _ _ h => h), (hr.1.trans ho).mono (fun _ _ h => h.elim), hsz, by rw [List.length_replicate]⟩
  rcases hk with hk | hk | hk
  · exact Or.inl hk
  · exact Or.inr (by omega)
  · exact Or.inr (by have := hr.2.1; omega)
theorem GvX.cellL (h : GvX U w xb mb gb N B L c a n os rs ls wr) (j : Nat) (hj : j < ls.length) : wr.cell? ⟨L, j, none⟩ = some (.int .i64 ls[j]) ∧ wr.frozen? ⟨L, j, none⟩ = false := by
  have h9 := h.l.cell j 0 hj (by decide)
  have e9 : j * inL.sz + 0 = j := Nat.mul_one j
  rw [e9] at h9
  exact ⟨h9.trans rfl, h.l.fz j⟩
/-- What laying wants, out of what is there at the end. -/
theorem lay_wants {k num e : Int} {i : Nat} {ns : List Int} (hw : PWf (N : Int) os rs) (hi : rgF rs num = some i) (hf : PWf (N : Int) (gO k os ns) ((gG k rs ns).set i (num, e))) (hl : ns.length ≤ 64) (j : Nat) (hj : j < ns.length) :
    (k = 1 → ((rs ++ (ns.take j ++ [ns[j]]).map (fun y => (y, (0 : Int)))).map (·.1)).Nodup ∧ (∀ r ∈ rs ++ (ns.take j ++ [ns[j]]).map (fun y => (y, (0 : Int))), I64 r.1) ∧ (rs ++ (ns.take j).map (fun y => (y, (0 : Int)))).length < 1000000) ∧
    (k ≠ 1 → ((os ++ (ns.take j ++ [ns[j]]).map (fun y => (k, y))).map (·.2)).Nodup ∧ 0 ≤ ns[j] ∧ ns[j] < (N : Int)) := by
  rw [← List.take_succ_eq_append_getElem hj]
  constructor
  · intro hk
    have eG : gG k rs ns = rs ++ ns.map (fun y => (y, 0)) := if_pos hk
    rw [eG] at hf
    have hi2 : rgF (rs ++ ns.map (fun y => (y, (0 : Int)))) num = some i := idxF_app _ hi
    obtain ⟨hl2, hE⟩ := rgF_at hi2
    have hks := set_keys (y := e) hl2 hE
    have hrn := hf.rn
    rw [hks] at hrn
    have hsub : (rs ++ (ns.take (j + 1)).map (fun y => (y, (0 : Int)))).Sublist (rs ++ ns.map (fun y => (y, (0 : Int)))) := List.Sublist.append (List.Sublist.refl _) ((List.take_sublist _ _).map _)
    refine ⟨List.Nodup.sublist (hsub.map _) hrn, fun r hr => ?_, ?_⟩
    · have h1 : r.1 ∈ ((rs ++ ns.map (fun y => (y, (0 : Int)))).set i (num, e)).map (·.1) := by
        rw [hks]
        exact List.mem_map.2 ⟨r, hsub.mem hr, rfl⟩
      obtain ⟨r2, hr2, he2⟩ := List.mem_map.1 h1
      rw [← he2]
      exact hf.ri r2 hr2
    · have := hw.lr
      rw [List.length_append, List.length_map, List.length_take]
      omega
  · intro hk
    have eO : gO k os ns = os ++ ns.map (fun y => (k, y)) := if_neg hk
    rw [eO] at hf
    have hsub : (os ++ (ns.take (j + 1)).map (fun y => (k, y))).Sublist (os ++ ns.map (fun y => (k, y))) := List.Sublist.append (List.Sublist.refl _) ((List.take_sublist _ _).map _)
    have hok := hf.ok (k, ns[j]) (List.mem_append_right _ (List.mem_map.2 ⟨ns[j], List.getElem_mem hj, rfl⟩))
    exact ⟨List.Nodup.sublist (hsub.map _) hf.on, hok.2.2.1, hok.2.2.2⟩
theorem gG_keys {k num e : Int} {i : Nat} {ns : List Int} (hi : rgF rs num = some i) (hf : PWf (N : Int) (gO k os ns) ((gG k rs ns).set i (num, e))) : ((gG k rs ns).map (·.1)).Nodup ∧ (∀ r ∈ gG k rs ns, I64 r.1) ∧ (gG k rs ns).length < 1000000 := by
  obtain ⟨hl2, hE⟩ := rgF_at (gG_at (k := k) hi ns)
  have hks := set_keys (y := e) hl2 hE
  refine ⟨by rw [← hks]; exact hf.rn, fun r hr => ?_, ?_⟩
  · have h1 : r.1 ∈ ((gG k rs ns).set i (num, e)).map (·.1) := by
      rw [hks]
      exact List.mem_map.2 ⟨r, hr, rfl⟩
    obtain ⟨r2, hr2, he2⟩ := List.mem_map.1 h1
    rw [← he2]
    exact hf.ri r2 hr2
  · have := hf.lr
    rw [List.length_set] at this
    omega
/-- The mark is laid: the end. -/
theorem GvX.fin {k num e : Int} {i : Nat} {ns : List Int} (h : GvX U w xb mb gb N B L c a n (gO k os ns) (gG k rs ns) ns wr) (hi : rgF rs num = some i) (hf : PWf (N : Int) (gO k os ns) ((gG k rs ns).set i (num, e))) (hn : I64 num) (he : I64 e) :
    ∃ wx, (Instr.mapUpdate 65 (.map (some mb)) (.int .i64 num) (.int .i64 e)).run Try.prog wr = .ok () wx ∧ OwnL inL wx w.heap.size 3 (.slice (some ⟨L, 0, none⟩) c c) ns ∧ XpAt (fun k => U k ∨ (Value.slice (some ⟨L, 0, none⟩) c c).ownBlock = some k) wx xb (N : Int) (gO k os ns) ((gG k rs ns).set i (num, e)) ∧ Only (fun k => ¬ U k) w wx := by
  obtain ⟨D, hx⟩ := h.x
  obtain ⟨k1, k2, k3⟩ := gG_keys hi hf
  obtain ⟨wx, hrun, hm, hg⟩ := hx.m.update (t := 65) (e := 3) mi_keyed Try.underlying65 (by unfold maxLen; omega) (mi_key hn) (val := .int .i64 e) (d := .lit (.int .i64 e)) (ps := []) (mi_ri he)
  obtain ⟨hx2, ho2⟩ := hx.marked k1 k2 (gG_at hi ns) hm hg
  have hom := mi_grown hg
  obtain ⟨cur, hc⟩ := own_tag h.l (k := L) rfl
  refine ⟨wx, hrun, h.l.kept hom (fun j hj e2 => mi_ne hc hx.m ((own_same_block hj).symm.trans e2)), ⟨hf, mb, gb, _, N, rfl, hx2.step (Only.refl (fun _ => False) wx) (fun _ _ h => h.elim) (fun j hj => Or.inl ?_)⟩, h.on.trans (ho2.mono (fun j _ hj hu => hj (Or.inl hu)))⟩
  rcases hj with hj | hj
  · exact Or.inl hj
  · exact Or.inr (Or.inl (own_same_block hj))
set_option maxRecDepth 100000 in
set_option maxHeartbeats 4000000 in
theorem give_r4 (h : XpAt U w xb P os rs) (num kind order many : Int) (hn : I64 num) (hc : canE kind order many = 0) (i : Nat) (hi : rgF rs num = some i) (he : giveE os rs num kind order many = 0) : Calls Try.prog 9 #[.pointer (some ⟨xb, 0, none⟩), .int .i64 num, .int .i64 kind, .int .i64 order, .int .i64 many] w (GvQ U w xb P os rs num kind order many) := by
  have hge := give_can os rs num kind order many
  rw [if_neg (fun h => h hc), hi] at hge
  dsimp only at hge
  obtain ⟨b1, b2, b3, b4, b5⟩ := can_bd hc
  obtain ⟨q, rfl⟩ : ∃ q : Nat, order = (q : Int) := ⟨order.toNat, by omega⟩
  obtain ⟨c, rfl⟩ : ∃ c : Nat, many = (c : Int) := ⟨many.toNat, by omega⟩
  rw [Int.toNat_natCast] at hge
  obtain ⟨p, hp⟩ : ∃ p : Nat, p = 2 ^ q := ⟨_, rfl⟩
  rw [← hp] at hge
  have hpb : 1 ≤ p ∧ p ≤ 256 := by
    have h2 : 0 < 2 ^ q := Nat.pow_pos (by decide)
    have h3 : 2 ^ q ≤ 2 ^ 8 := Nat.pow_le_pow_right (by decide) (by omega)
    rw [hp]
    omega
  have hcond : ¬ ((kind = 1 ∧ pgN (1, num) ≤ (p : Int)) ∨ pgN (1, num) < (giveM os rs num i p : Int) + (c : Int) * (p : Int)) := fun hx => by
    rw [if_pos hx, he] at hge
    cases hge
  have HCA := Vx.hid (fun wv => pcan_ok kind (q : Int) (c : Int) wv)
  rw [hc] at HCA
  have hfw := h.wf.give num kind (q : Int) (c : Int)
  obtain ⟨hw, mb, gb, D, N, rfl, hx⟩ := h
  have HBE := Vx.hid (pbegin_ok hx hw num hn)
  obtain ⟨m, hm, hb, hgm⟩ := beg_num hw hi
  rw [hb] at HBE
  have HRA := Vx.hid (fun wv => praise_ok m q p hm (by omega) hp wv)
  obtain ⟨u, hu⟩ : ∃ u, u = upN m p := ⟨_, rfl⟩
  have hub : u < m + p := by rw [hu]; exact upN_bd (by omega)
  have hgm2 : giveM os rs num i p = u := by rw [hgm p, hu]
  rw [hgm2] at hcond
  rw [← hu] at HRA
  have hrg : RgOk num := rgF_ok hw.pg hi
  have HUN := Vx.hid (fun wv => punt_ok num hrg wv)
  have hbd := rg_bd hrg
  have eNs : giveNs os rs num kind (q : Int) i c = giveN (pgA (1, num) + (u : Int)) (p : Int) (if kind = 1 then 256 * (q : Int) else 0) c := by
    unfold giveNs
    rw [Int.toNat_natCast, ← hp, hgm2]
  obtain ⟨ns, hns⟩ : ∃ ns, ns = giveNs os rs num kind (q : Int) i c := ⟨_, rfl⟩
  have hnl : ns.length = c := by rw [hns, eNs, giveN_len]
  have e0 : (rgF rs num).getD 0 = i := by rw [hi]; rfl
  have eR : giveRs os rs num kind (q : Int) (c : Int) = ns := by
    unfold giveRs
    rw [if_pos he, e0, Int.toNat_natCast, hns]
  obtain ⟨cp, hcp⟩ : ∃ cp : Int, cp = (c : Int) * (p : Int) := ⟨_, rfl⟩
  have eO : giveRO os rs num kind (q : Int) (c : Int) = gO kind os ns := by
    unfold giveRO giveO gO
    rw [if_pos he, e0, Int.toNat_natCast, hns]
  have eG : giveRG os rs num kind (q : Int) (c : Int) = (gG kind rs ns).set i (num, (u : Int) + cp) := by
    unfold giveRG giveG gG
    rw [if_pos he]
    dsimp only
    rw [e0, Int.toNat_natCast, Int.toNat_natCast, ← hp, hgm2, hns, hcp]
  rw [eO, eG] at hfw
  have HQ : Hid (∀ e w', (∃ v, e = .returned (.tuple #[v, .int .i64 0]) ∧ OwnL inL w' w.heap.size 3 v ns ∧ XpAt (fun k => U k ∨ v.ownBlock = some k) w' xb (N : Int) (gO kind os ns) ((gG kind rs ns).set i (num, (u : Int) + cp)) ∧ Only (fun k => ¬ U k) w w') → GvQ U w xb (N : Int) os rs num kind (q : Int) (c : Int) e w') := fun e w' hh => by
    obtain ⟨v, h1, h2, h3, h4⟩ := hh
    exact ⟨v, by rw [h1, he], by rw [eR]; exact h2, by rw [eO, eG]; exact h3, h4⟩
  have HNS : Hid (∀ j (hj : j < ns.length), ns[j] = pgA (1, num) + (u : Int) + (j : Int) * (p : Int) + 256 * (q : Int)) := fun j hj => by
    have h1 : ns[j] = pgA (1, num) + (u : Int) + (j : Int) * (p : Int) + (if kind = 1 then 256 * (q : Int) else 0) := by
      have h2 : ns[j]? = some (pgA (1, num) + (u : Int) + (j : Int) * (p : Int) + (if kind = 1 then 256 * (q : Int) else 0)) := by
        rw [hns, eNs]
        unfold giveN
        rw [List.getElem?_map, List.getElem?_range (by omega)]
        rfl
      rw [List.getElem?_eq_getElem hj] at h2
      injection h2
    rw [h1]
    split
    · rfl
    · rename_i hk
      have := b3 hk
      omega
  have HLW : Hid (∀ j (hj : j < ns.length), _) := fun j hj => lay_wants hw hi hfw (by omega) j hj
  have HFW := Vx.hid (⟨hi, hfw, hn⟩ : _ ∧ _ ∧ _)
  have HX := Vx.hid hx
  generalize pgA (1, num) = A at HUN hbd HNS
  generalize pgN (1, num) = M at HUN hbd hcond
  have hcpb : 0 ≤ cp ∧ cp ≤ 16384 := by
    have h1 : (c : Int) * (p : Int) ≤ 64 * 256 := Int.mul_le_mul (by omega) (by omega) (by omega) (by omega)
    have h2 : 0 ≤ (c : Int) * (p : Int) := Int.mul_nonneg (by omega) (by omega)
    omega
  rw [← hcp] at hcond
  have hw1 : IntKind.i64.wrap ((c : Int) * (p : Int)) = cp := by rw [← hcp, IntKind.wrap_i64]; omega
  have hw2 : IntKind.i64.wrap ((u : Int) + cp) = (u : Int) + cp := by rw [IntKind.wrap_i64]; omega
  have HEI : Hid (I64 ((u : Int) + cp)) := by show I64 _; unfold I64; omega
  have hsh : IntKind.i64.wrap ((2 : Int) ^ q) = (p : Int) := by
    have : ((2 : Int) ^ q) = (p : Int) := by rw [hp]; exact (Int.natCast_pow 2 q).symm
    rw [this, IntKind.wrap_i64]; omega
  have hq8 : (0 : Int) ≤ (q : Int) ∧ (q : Int) ≤ 64 := by omega
  have hmk := make_ints c (by omega)
  have HBB : Hid (0 ≤ A ∧ A < 256 ∧ u ≤ 600 ∧ p ≤ 256 ∧ c ≤ 64 ∧ q ≤ 8 ∧ 1 ≤ c ∧ ns.length = c) := ⟨by omega, by omega, by omega, by omega, by omega, by omega, by omega, hnl⟩
  obtain ⟨s1, hs1⟩ : ∃ s1, s1 = A + (u : Int) := ⟨_, rfl⟩
  have hwa : IntKind.i64.wrap (A + (u : Int)) = s1 := by rw [← hs1, IntKind.wrap_i64]; omega
  obtain ⟨q6, hq6⟩ : ∃ q6 : Int, q6 = 256 * (q : Int) := ⟨_, rfl⟩
  have hwq : IntKind.i64.wrap (256 * (q : Int)) = q6 := by rw [← hq6, IntKind.wrap_i64]; omega
  rw [← hs1, ← hq6] at HNS
  have HSB : Hid (0 ≤ s1 ∧ s1 ≤ 900 ∧ 0 ≤ q6 ∧ q6 ≤ 2048) := ⟨by omega, by omega, by omega, by omega⟩
  have g1 : ¬ M < (u : Int) + cp := fun h => hcond (Or.inr h)
  have g2 : kind = 1 → ¬ M ≤ (p : Int) := fun h h2 => hcond (Or.inl ⟨h, h2⟩)
  clear he hw hx hc hi hn hge hb hgm hgm2 hrg hu hcp hp b1 b2 b3 b4 b5 hbd hpb hcpb hub hm hfw eNs hns hnl e0 eR eO eG hs1 hq6 hcond
  refine Calls.mono ?_ HQ.out
  clear HQ
  go_enter Try.func9, Try.ntmps9
  go_wp2_with fail
  refine (HCA.out _).mono ?_
  rintro e w' ⟨rfl, h⟩
  have h3 := h.symm; clear h; subst h3
  go_wp2_with fail
  refine HBE.out.mono ?_
  rintro e w3 ⟨rfl, h3⟩
  have H3 := Vx.hid h3
  clear h3
  go_wp2_with fail
  go_cut [15, 16] from 36 to 39 (fun v15 v16 wx => ∃ B, v15 = .pointer (some ⟨B, 0, none⟩) ∧ v16 = .int .i64 (p : Int) ∧ Hid (RgA w A M B wx))
  case first =>
    go_region_with (go_at_call 28; refine (HUN.out _).mono ?_; rintro e w4 ⟨rfl, h4⟩; have H4 := Vx.hid h4; first | (obtain ⟨⟨n0, n1⟩, nf⟩ := kept_or h4; have nf0 := nf 0; have nf1 := nf 1; clear nf h4) | (obtain ⟨⟨n0, n1⟩, nf⟩ := kept_or (((Only.refl (fun _ => False) (w3.alloc (.cells #[.int .i64 0, .int .i64 0] 75))).drew).trans h4); have nf0 := nf 0; have nf1 := nf 1; clear nf h4) | clear h4)
    all_goals (go_wp2_with fail; go_meet)
    all_goals first
      | exact ⟨_, rfl, rfl, rgA_1 H3.out H4.out⟩
      | exact ⟨_, rfl, rfl, rgA_2 H3.out H4.out⟩
  case rest =>
    obtain ⟨B, rfl, rfl, HR⟩ := hcut
    clear HUN HBE HCA H3
    go_wp2_with fail
    refine (HRA.out _).mono ?_
    rintro e w' ⟨rfl, h⟩
    have h3 := h.symm; clear h; subst h3
    obtain ⟨z0, z1⟩ := HR.out.bc
    clear HRA
    go_upto_region 10 with fail
    go_cut [61] from 48 to 60 (fun v wx => v = .bool false ∧ wx = wc)
    case first =>
      by_cases k1 : kind = 1
      · subst k1
        have g3 := g2 rfl
        clear g2
        go_wp2_with fail
        all_goals
          go_meet
          exact ⟨by first | rfl | simp_all, rfl⟩
      · have k1' : (kind == 1) = false := beq_eq_false_iff_ne.2 k1
        clear g2
        go_wp2_with fail
        all_goals
          go_meet
          exact ⟨by first | rfl | simp_all, rfl⟩
    case rest =>
      obtain ⟨rfl, hwc⟩ := hcut
      subst hwc
      have HG0 := Vx.hid (gvx_start (k := kind) HX.out HR.out (c := c) (by have := HBB.out; omega))
      have HG1 : Hid (GvX U w xb mb gb N B wc.heap.size c A M (gO kind os (ns.take 0)) (gG kind rs (ns.take 0)) (ns.take 0 ++ List.replicate (c - 0) 0) (wc.alloc (.cells (fl inL (List.replicate c (0 : Int))).toArray 3))) := by
        rw [List.take_zero, List.nil_append, Nat.sub_zero]; exact HG0.out
      clear HG0 g1 g2 HR z0 z1
      go_wp2_with fail
      generalize (wc.alloc (.cells (fl inL (List.replicate c (0 : Int))).toArray 3)) = w6 at HG1 ⊢
      obtain ⟨L, hL⟩ : ∃ L, L = wc.heap.size := ⟨_, rfl⟩
      rw [← hL] at HG1 ⊢
      clear hL hmk
      go_loopw [19, 66] (fun _ d wr => ∃ j : Nat, d = .int .i64 (j : Int) ∧ j ≤ c ∧ Hid (GvX U w xb mb gb N B L c A M (gO kind os (ns.take j)) (gG kind rs (ns.take j)) (ns.take j ++ List.replicate (c - j) 0) wr)) (fun _ d _ => c - (RowKit.intOf d).toNat)
      case atStart => exact ⟨0, rfl, by omega, HG1⟩
      case round =>
        clear HG1
        obtain ⟨j, rfl, hj, HG⟩ := hrel
        by_cases hlt : j < c
        · have h1 : (j : Int) < (c : Int) := by omega
          have hidx : 0 ≤ (j : Int) ∧ (j : Int) < (c : Int) := by omega
          have hwj : IntKind.i64.wrap ((j : Int) + 1) = (j : Int) + 1 := by have := HBB.out; rw [IntKind.wrap_i64]; omega
          have hjn : j < ns.length := by have := HBB.out; omega
          obtain ⟨l0, l1⟩ := HG.out.cellL j (by rw [List.length_append, List.length_take, List.length_replicate]; omega)
          obtain ⟨z0, z1⟩ := HG.out.bc
          generalize (ns.take j ++ List.replicate (c - j) (0 : Int))[j]'(by rw [List.length_append, List.length_take, List.length_replicate]; omega) = old at l0
          obtain ⟨jp, hjp⟩ : ∃ jp : Int, jp = (j : Int) * (p : Int) := ⟨_, rfl⟩
          have hjpb : 0 ≤ jp ∧ jp ≤ 16384 := by
            have h9 := HBB.out
            have h1 : (j : Int) * (p : Int) ≤ 64 * 256 := Int.mul_le_mul (by omega) (by omega) (by omega) (by omega)
            have h2 : 0 ≤ (j : Int) * (p : Int) := Int.mul_nonneg (by omega) (by omega)
            omega
          have hy := HNS.out j hjn
          rw [← hjp] at hy
          have wa : IntKind.i64.wrap ((j : Int) * (p : Int)) = jp := by rw [← hjp, IntKind.wrap_i64]; omega
          obtain ⟨s2, hs2⟩ : ∃ s2, s2 = s1 + jp := ⟨_, rfl⟩
          have wb : IntKind.i64.wrap (s1 + jp) = s2 := by have := HSB.out; rw [← hs2, IntKind.wrap_i64]; omega
          have HPT := Vx.hid (HG.out.put j ns[j])
          rw [set_fill ns c j (by have := HBB.out; omega) hjn] at HPT
          have HLY := Vx.hid (HPT.out.lay (HLW.out j hjn).1 (HLW.out j hjn).2)
          rw [← List.take_succ_eq_append_getElem hjn] at HLY
          generalize ns[j] = y at hy HPT HLY
          have wc' : IntKind.i64.wrap (s2 + q6) = y := by have := HSB.out; rw [hy, ← hs2, IntKind.wrap_i64]; omega
          have HJ1 : Hid (j + 1 ≤ c) := hlt
          clear hlt hjp hjpb hy hs2 HG hjn
          go_wp2_with fail
          refine HLY.out.mono ?_
          rintro e w8 ⟨⟨v, rfl⟩, HG8⟩
          clear l0 l1 z0 z1 HPT HLY
          go_wp2_with fail
          go_roundw
          case rel => exact ⟨j + 1, by go_num, HJ1.out, HG8⟩
          case measure => have := HJ1.out; simp only [RowKit.intOf]; omega
        · obtain rfl : j = c := by omega
          have h1 : ¬ (j : Int) < (j : Int) := by omega
          have hgf := HG.out
          have hln : ns.length = j := HBB.out.2.2.2.2.2.2.2
          rw [Nat.sub_self, List.replicate_zero, List.append_nil] at hgf
          have htk : ns.take j = ns := by rw [← hln]; exact List.take_length
          rw [htk] at hgf
          obtain ⟨Dx, hxx⟩ := hgf.x
          have c0 := hxx.c0
          obtain ⟨wx, hrun, f1, f2, f3⟩ := hgf.fin HFW.out.1 HFW.out.2.1 HFW.out.2.2 HEI.out
          have HF := Vx.hid (⟨f1, f2, f3⟩ : _ ∧ _ ∧ _)
          clear hlt hgf hln htk hxx f1 f2 f3 HG
          go_wp2_with fail
          all_goals
            go_ret2
            exact ⟨_, rfl, HF.out.1, HF.out.2.1, HF.out.2.2⟩
theorem xpgive_ok (h : XpAt U w xb P os rs) (num kind order many : Int) (h1 : I64 num) (h2 : I64 kind) (h3 : I64 order) (h4 : I64 many) : Calls Try.prog 9 #[.pointer (some ⟨xb, 0, none⟩), .int .i64 num, .int .i64 kind, .int .i64 order, .int .i64 many] w fun e w' => ∃ v, e = .returned (.tuple #[v, .int .i64 (giveE os rs num kind order many)]) ∧ OwnL inL w' w.heap.size 3 v (giveRs os rs num kind order many) ∧ XpAt (fun k => U k ∨ v.ownBlock = some k) w' xb P (giveRO os rs num kind order many) (giveRG os rs num kind order many) ∧ Only (fun k => ¬ U k) w w' := by
  by_cases hc : canE kind order many = 0
  · cases hi : rgF rs num with
    | none => exact give_r2 h num kind order many h1 hc hi
    | some i =>
      by_cases he : giveE os rs num kind order many = 0
      · exact give_r4 h num kind order many h1 hc i hi he
      · exact give_r3 h num kind order many h1 hc i hi he
  · exact give_r1 h num kind order many hc
end Go.Proofs.Ytbbabpgmclhinaa

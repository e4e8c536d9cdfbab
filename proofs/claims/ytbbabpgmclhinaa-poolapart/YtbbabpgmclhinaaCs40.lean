import Derived.Test.YtbbabpgmclhinaaCs39
import Derived.Deep.CutRange
/- Chapter 8, the program's pool: Give: no room. -/
namespace Go.Proofs.Ytbbabpgmclhinaa
open Go.ChangeShapes Go.WideShapes Go.ChangeAt Go.RowKit
open Go.Vx
set_option linter.unusedVariables false
variable {U V S : Nat → Prop} {w w2 w3 wr wx : World} {xb pb mb gb r N cnt cnt2 B L c : Nat} {P a n : Int} {D D2 : DataW Value} {os rs os2 rs2 : List (Int × Int)} {ls : List Int}

/-- Where giving begins, as a number. -/
theorem beg_num (hw : PWf P os rs) {num : Int} {i : Nat} (hi : rgF rs num = some i) : ∃ m : Nat, m ≤ 256 ∧ begR os rs num = ((m : Int), 0) ∧ ∀ p, giveM os rs num i p = upN m p := by
  obtain ⟨hl, hE⟩ := rgF_at hi
  have hmk := hw.marks _ (List.getElem_mem hl)
  have hg := getD_two hl (0, 0)
  refine ⟨if liesB os rs num = true then (rs.getD i (0, 0)).2.toNat else 0, ?_, ?_, fun p => rfl⟩
  · split
    · rw [hg]; omega
    · omega
  · unfold begR
    rw [hi]
    dsimp only
    split
    · rw [hg]
      congr 1
      omega
    · rfl
theorem kept_or {w4 wz : World} {x y : Value} {T : TypeId} (h : Only (fun _ => False) (wz.alloc (.cells #[x, y] T)) w4) : (w4.cell? ⟨wz.heap.size, 0, none⟩ = some x ∧ w4.cell? ⟨wz.heap.size, 1, none⟩ = some y) ∧ ∀ j, w4.frozen? ⟨wz.heap.size, j, none⟩ = false := two_cells (Only.keep h (heap_alloc_last wz _) (fun h => h))
/-- An untyped's region, laid. -/
def RgA (w : World) (A M : Int) (B : Nat) (wx : World) : Prop := Only (fun _ => False) w wx ∧ w.heap.size ≤ B ∧ OwnL slL wx 0 75 (.slice (some ⟨B, 0, none⟩) 1 1) [(A, M)]
theorem RgA.bc {A M : Int} (h : RgA w A M B wx) : wx.cell? ⟨B, 0, none⟩ = some (.int .i64 A) ∧ wx.cell? ⟨B, 1, none⟩ = some (.int .i64 M) := ⟨(h.2.2.cell 0 0 (Nat.zero_lt_one) (by decide)).trans rfl, (h.2.2.cell 0 1 (Nat.zero_lt_one) (by decide)).trans rfl⟩
theorem RgA.quiet {A M : Int} {w5 : World} (h : RgA w A M B wx) (ho : Only (fun _ => False) wx w5) : RgA w A M B w5 := ⟨h.1.trans ho, h.2.1, h.2.2.kept ho (fun _ _ h => h)⟩
theorem rgA_1 {A M : Int} {w4 : World} (h : Only (fun _ => False) w w3) (h4 : Only (fun _ => False) w3.drew w4) : RgA w A M w4.heap.size (w4.alloc (.cells #[.int .i64 A, .int .i64 M] 75)) := by
  have h5 : Only (fun _ => False) w w4 := h.trans (((Only.refl (fun _ => False) w3).drew).trans h4)
  exact ⟨h5.alloc _, h5.size, own_made (xs := [(A, M)]) (heap_alloc_last w4 _) rfl (by decide)⟩
theorem rgA_2 {A M : Int} {w4 : World} (h : Only (fun _ => False) w w3) (h4 : Only (fun _ => False) (w3.alloc (.cells #[.int .i64 0, .int .i64 0] 75)).drew w4) : RgA w A M w3.heap.size ((w4.setCell ⟨w3.heap.size, 0, none⟩ (.int .i64 A)).setCell ⟨w3.heap.size, 1, none⟩ (.int .i64 M)) := by
  have h6 : Only (fun _ => False) (w3.alloc (.cells #[.int .i64 0, .int .i64 0] 75)) w4 := ((Only.refl (fun _ => False) (w3.alloc (.cells #[.int .i64 0, .int .i64 0] 75))).drew).trans h4
  have h5 : Only (fun _ => False) w w4 := h.trans (((Only.refl (fun _ => False) w3).alloc _).trans h6)
  have h7 : OwnL slL w4 0 75 (.slice (some ⟨w3.heap.size, 0, none⟩) 1 1) [(0, 0)] := own_made (xs := [((0 : Int), (0 : Int))]) (Only.keep h6 (heap_alloc_last w3 _) (fun h => h)) rfl (by decide)
  obtain ⟨h8, h9⟩ := own_slot h7 rfl 0 (by decide) (A, M)
  exact ⟨Only.newer h5 h9 h.size, h.size, h8⟩
set_option maxRecDepth 100000 in
set_option maxHeartbeats 2000000 in
theorem give_r3 (h : XpAt U w xb P os rs) (num kind order many : Int) (hn : I64 num) (hc : canE kind order many = 0) (i : Nat) (hi : rgF rs num = some i) (he : giveE os rs num kind order many ≠ 0) : Calls Try.prog 9 #[.pointer (some ⟨xb, 0, none⟩), .int .i64 num, .int .i64 kind, .int .i64 order, .int .i64 many] w (GvQ U w xb P os rs num kind order many) := by
  have hge := give_can os rs num kind order many
  rw [if_neg (fun h => h hc), hi] at hge
  dsimp only at hge
  obtain ⟨b1, b2, b3, b4, b5⟩ := can_bd hc
  obtain ⟨q, rfl⟩ : ∃ q : Nat, order = (q : Int) := ⟨order.toNat, by omega⟩
  obtain ⟨c, rfl⟩ : ∃ c : Nat, many = (c : Int) := ⟨many.toNat, by omega⟩
  rw [Int.toNat_natCast] at hge
  obtain ⟨p, hp⟩ : ∃ p : Nat, p = 2 ^ q := ⟨_, rfl⟩
  rw [← hp] at hge
  have hpb : 1 ≤ p ∧ p ≤ 256 := by
    have h2 : 0 < 2 ^ q := Nat.pow_pos (by decide)
    have h3 : 2 ^ q ≤ 2 ^ 8 := Nat.pow_le_pow_right (by decide) (by omega)
    rw [hp]
    omega
  have hcond : (kind = 1 ∧ pgN (1, num) ≤ (p : Int)) ∨ pgN (1, num) < (giveM os rs num i p : Int) + (c : Int) * (p : Int) := by
    apply Classical.byContradiction
    intro hx
    rw [if_neg hx] at hge
    exact he hge
  have he2 : giveE os rs num kind (q : Int) (c : Int) = 14 := by rw [hge, if_pos hcond]
  have HK := Vx.hid (gvKeep h (num := num) (kind := kind) (order := (q : Int)) (many := (c : Int)) he)
  have HQ : Hid (∀ e w', e = .returned (.tuple #[.slice none 0 0, .int .i64 14]) ∧ Only (fun _ => False) w w' → GvQ U w xb P os rs num kind (q : Int) (c : Int) e w') := fun e w' hh => ⟨_, by rw [hh.1, he2], (HK.out _ hh.2).1, (HK.out _ hh.2).2.1, (HK.out _ hh.2).2.2⟩
  have HCA := Vx.hid (fun wv => pcan_ok kind (q : Int) (c : Int) wv)
  rw [hc] at HCA
  obtain ⟨hw, mb, gb, D, N, rfl, hx⟩ := h
  have HBE := Vx.hid (pbegin_ok hx hw num hn)
  obtain ⟨m, hm, hb, hgm⟩ := beg_num hw hi
  rw [hb] at HBE
  rw [hgm p] at hcond
  have HRA := Vx.hid (fun wv => praise_ok m q p hm (by omega) hp wv)
  obtain ⟨u, hu⟩ : ∃ u, u = upN m p := ⟨_, rfl⟩
  have hub : u < m + p := by rw [hu]; exact upN_bd (by omega)
  rw [← hu] at HRA hcond
  have hrg : RgOk num := rgF_ok hw.pg hi
  have HUN := Vx.hid (fun wv => punt_ok num hrg wv)
  have hbd := rg_bd hrg
  generalize pgA (1, num) = A at HUN hbd
  generalize pgN (1, num) = M at HUN hbd hcond
  obtain ⟨cp, hcp⟩ : ∃ cp : Int, cp = (c : Int) * (p : Int) := ⟨_, rfl⟩
  have hcpb : 0 ≤ cp ∧ cp ≤ 16384 := by
    have h1 : (c : Int) * (p : Int) ≤ 64 * 256 := Int.mul_le_mul (by omega) (by omega) (by omega) (by omega)
    have h2 : 0 ≤ (c : Int) * (p : Int) := Int.mul_nonneg (by omega) (by omega)
    omega
  rw [← hcp] at hcond
  have hw1 : IntKind.i64.wrap ((c : Int) * (p : Int)) = cp := by rw [← hcp, IntKind.wrap_i64]; omega
  have hw2 : IntKind.i64.wrap ((u : Int) + cp) = (u : Int) + cp := by rw [IntKind.wrap_i64]; omega
  have hsh : IntKind.i64.wrap ((2 : Int) ^ q) = (p : Int) := by
    have : ((2 : Int) ^ q) = (p : Int) := by rw [hp]; exact (Int.natCast_pow 2 q).symm
    rw [this, IntKind.wrap_i64]; omega
  have hq8 : (0 : Int) ≤ (q : Int) ∧ (q : Int) ≤ 64 := by omega
  clear he he2 HK hw hx hc hi hn hge hb hgm hrg hu hcp hp b1 b2 b3 b4 b5 hbd hpb hcpb hub hm
  refine Calls.mono ?_ HQ.out
  clear HQ
  go_enter Try.func9, Try.ntmps9
  go_wp2_with fail
  refine (HCA.out _).mono ?_
  rintro e w' ⟨rfl, h⟩
  have h3 := h.symm; clear h; subst h3
  go_wp2_with fail
  refine HBE.out.mono ?_
  rintro e w3 ⟨rfl, h3⟩
  have H3 := Vx.hid h3
  clear h3
  go_wp2_with fail
  go_cut [15, 16] from 36 to 39 (fun v15 v16 wx => ∃ B, v15 = .pointer (some ⟨B, 0, none⟩) ∧ v16 = .int .i64 (p : Int) ∧ Hid (RgA w A M B wx))
  case first =>
    go_region_with (go_at_call 28; refine (HUN.out _).mono ?_; rintro e w4 ⟨rfl, h4⟩; have H4 := Vx.hid h4; first | (obtain ⟨⟨n0, n1⟩, nf⟩ := kept_or h4; have nf0 := nf 0; have nf1 := nf 1; clear nf h4) | (obtain ⟨⟨n0, n1⟩, nf⟩ := kept_or (((Only.refl (fun _ => False) (w3.alloc (.cells #[.int .i64 0, .int .i64 0] 75))).drew).trans h4); have nf0 := nf 0; have nf1 := nf 1; clear nf h4) | clear h4)
    all_goals (go_wp2_with fail; go_meet)
    all_goals first
      | exact ⟨_, rfl, rfl, rgA_1 H3.out H4.out⟩
      | exact ⟨_, rfl, rfl, rgA_2 H3.out H4.out⟩
  case rest =>
    obtain ⟨B, rfl, rfl, HR⟩ := hcut
    go_wp2_with fail
    refine (HRA.out _).mono ?_
    rintro e w' ⟨rfl, h⟩
    have h3 := h.symm; clear h; subst h3
    obtain ⟨z0, z1⟩ := HR.out.bc
    have HF := Vx.hid HR.out.1
    clear HR
    by_cases k1 : kind = 1
    · subst k1
      by_cases g1 : M ≤ (p : Int)
      · clear hcond
        go_wp2_with fail
        all_goals
          go_ret2
          exact ⟨rfl, HF.out⟩
      · have g2 : M < (u : Int) + cp := by
          rcases hcond with h | h
          · exact absurd h.2 g1
          · exact h
        clear hcond
        go_wp2_with fail
        all_goals
          go_ret2
          exact ⟨rfl, HF.out⟩
    · have g2 : M < (u : Int) + cp := by
        rcases hcond with h | h
        · exact absurd h.1 k1
        · exact h
      have k1' : (kind == 1) = false := beq_eq_false_iff_ne.2 k1
      clear hcond
      go_wp2_with fail
      all_goals
        go_ret2
        exact ⟨rfl, HF.out⟩
end Go.Proofs.Ytbbabpgmclhinaa

import Derived.Test.YtdpgdjpphnbfnaaCi51
import Derived.Test.YtdpgdjpphnbfnaaCi52
import Derived.Test.YtdpgdjpphnbfnaaCi53
/- IpcScripts: its walk. -/
namespace Go.Proofs.Ytdpgdjpphnbfnaa
open Go.ChangeShapes Go.WideShapes Go.ChangeAt Go.RowKit
open Go.Vx
set_option linter.unusedVariables false
variable {W : World} {xb rb zb bb : Nat} {wr w2 : World} {n : Nat}

def b0S : Bs := ⟨[], []⟩
def z1S : Bs := openS b0S 1 true
def z2S : Bs := ringS z1S 1 6
theorem z1_eq : z1S = ⟨[⟨1, true, 0⟩], []⟩ := rfl
theorem z2_word : wordW z2S 1 = 6 := by
  unfold z2S
  rw [z1_eq]
  show orW 0 6 = 6
  unfold orW
  decide
theorem z2_err : wordE z2S 1 = 0 := rfl
theorem IlR.be {sz : Bs} (h : IlR W xb rb zb bb sz n wr) : Below W.heap.size W wr := by
  obtain ⟨X, R, Z, B, s, cs, V, L, h, _⟩ := h
  exact h.be
/-- At the end: a place more. -/
def IlE (W : World) (xb rb zb bb : Nat) (sz : Bs) (w' : World) : Prop := ∃ X R Z B sx sr cs V L, IlC W xb rb zb bb sz X R Z B sx sr cs V L w' ∧ (∀ j, j < 6 → (L j).length ≤ 1000000) ∧ lineE sx 777 = 0 ∧ lineR sx 777 = []
theorem IlR.open7 {sz : Bs} (h : IlR W xb rb zb bb sz n wr) (hn : n ≤ 300000) :
    Calls Try.prog 6 #[.pointer (some ⟨xb, 0, none⟩), .int .i64 777, .bool false] wr fun e w' => e = .returned (.int .i64 0) ∧ Hid (IlE W xb rb zb bb sz w') := by
  obtain ⟨X, R, Z, B, s, cs, V, L, h, hL, h1, h2, h3⟩ := h
  have hp : pF s.ps 777 = none := by
    cases hi : pF s.ps 777 with
    | none => rfl
    | some i =>
      obtain ⟨hl, he⟩ := pF_at hi
      exact absurd he (h3 _ (List.getElem_mem hl))
  have e1 : openE s 777 = 0 := by unfold openE; rw [hp]; rfl
  have e2 : openS s 777 false = ⟨s.ps ++ [⟨777, false, 0⟩], s.ws⟩ := if_pos e1
  have hwf := h.x.1
  refine (xopen_ok h.x (by omega) 777 (by unfold I64; omega) false).mono ?_
  rintro e w' ⟨rfl, hx, ho⟩
  rw [e1]
  refine ⟨rfl, _, R, Z, B, _, s, cs, V, L, h.xcall hx ho, fun j hj => Nat.le_trans (hL j hj) (by omega), ?_, ?_⟩
  · rw [e2]
    obtain ⟨i, hi⟩ := pF_mem.2 (show (777 : Int) ∈ (s.ps ++ [(⟨777, false, 0⟩ : Pc)]).map (·.num) by simp)
    unfold lineE
    show (match pF (s.ps ++ [(⟨777, false, 0⟩ : Pc)]) 777 with | none => (6 : Int) | some _ => 0) = 0
    rw [hi]
  · rw [e2]
    obtain ⟨i, hi⟩ := pF_mem.2 (show (777 : Int) ∈ (s.ps ++ [(⟨777, false, 0⟩ : Pc)]).map (·.num) by simp)
    unfold lineR
    show (match pF (s.ps ++ [(⟨777, false, 0⟩ : Pc)]) 777 with | none => [] | some _ => lineL ⟨s.ps ++ [⟨777, false, 0⟩], s.ws⟩ 777) = []
    rw [hi]
    show lineL s 777 = []
    unfold lineL
    rw [List.map_eq_nil_iff, List.filter_eq_nil_iff]
    intro x hx9 h9
    obtain ⟨p, hp9, h8, _⟩ := hwf.at' x hx9
    exact h3 p hp9 (h8.trans (of_decide_eq_true h9))
theorem IlE.quiet {sz : Bs} (h : IlE W xb rb zb bb sz wr) (ho : Only (fun _ => False) wr w2) : IlE W xb rb zb bb sz w2 := by
  obtain ⟨X, R, Z, B, sx, sr, cs, V, L, h, r⟩ := h
  exact ⟨X, R, Z, B, sx, sr, cs, V, L, h.quiet ho, r⟩
theorem IlE.line7 {sz : Bs} (h : IlE W xb rb zb bb sz wr) :
    Calls Try.prog 9 #[.pointer (some ⟨xb, 0, none⟩), .int .i64 777] wr fun e w' => (∃ p c, e = .returned (.tuple #[.slice p 0 c, .int .i64 0])) ∧ Hid (IlE W xb rb zb bb sz w') := by
  have h0 := h
  obtain ⟨X, R, Z, B, sx, sr, cs, V, L, h, _, e1, e2⟩ := h
  refine (xline_ok h.x 777 (by unfold I64; omega)).mono ?_
  rintro e w' ⟨v, rfl, hl, ho⟩
  rw [e2] at hl
  obtain ⟨p, c, rfl, _⟩ := hl.form
  rw [e1]
  exact ⟨⟨p, c, rfl⟩, h0.quiet ho⟩
theorem IlE.reads {sz : Bs} (h : IlE W xb rb zb bb sz wr) :
    Calls Try.prog 10 #[.pointer (some ⟨bb, 0, none⟩)] wr fun e w' => e = .returned (.bool true) ∧ w' = wr := by
  obtain ⟨X, R, Z, B, sx, sr, cs, V, L, h, hL, _⟩ := h
  exact reads_okQ h.b hL
theorem IlE.last (h : IlE W xb rb zb bb z2S wr) :
    Calls Try.prog 11 #[.pointer (some ⟨zb, 0, none⟩), .int .i64 1] wr fun e w' => e = .returned (.tuple #[.int .u32 6, .int .i64 0]) ∧ Hid (Below W.heap.size W w') := by
  obtain ⟨X, R, Z, B, sx, sr, cs, V, L, h, _⟩ := h
  refine (xword_ok h.z 1 (by unfold I64; omega)).mono ?_
  rintro e w' ⟨rfl, ho⟩
  rw [z2_word, z2_err]
  exact ⟨rfl, h.be.trans (ho.below h.be.size (fun _ _ h => h))⟩
def bkC : Obj := .cells #[.slice none 0 0, .slice none 0 0, .slice none 0 0, .slice none 0 0, .slice none 0 0, .slice none 0 0] 47
theorem IlR.start {w1 w2 w3 w4 w5 : World} (hx : XbX (fun k => k < W.heap.size) w1 xb b0S) (ho1 : Only (fun _ => False) W w1) (hw2 : w2 = w1.alloc (.cells #[.slice none 0 0, .slice none 0 0] 29)) (ho3 : Only (fun _ => False) w2 w3)
    (ho4 : Only (fun k => ¬ k < w2.heap.size) w3 w4) (ho5 : Only (fun k => ¬ k < w2.heap.size) w4 w5) (hz : XbX (fun k => k < w2.heap.size) w5 zb z2S) :
    IlR W xb w1.heap.size zb w5.heap.size z2S 0 (w5.alloc bkC) := by
  have o2 : Only (fun _ => False) w1 w2 := by rw [hw2]; exact (Only.refl _ w1).alloc _
  have hb2 : w2.heap[w1.heap.size]? = some (.cells #[.slice none 0 0, .slice none 0 0] 29 (0, 0)) := by rw [hw2]; exact heap_alloc_last w1 _
  have s12 : w2.heap.size = w1.heap.size + 1 := by rw [hw2]; simp
  have s1 := ho1.size
  have s3 := ho3.size
  have s4 := ho4.size
  have s5 := ho5.size
  have hr : RbX (fun k => k < w1.heap.size) w2 w1.heap.size b0S := ⟨_, _, hb2, OwnL.nil _ _ _ _, OwnL.nil _ _ _ _, by omega, fun k hk => (by cases hk), fun k hk => (by cases hk), fun k hk => by omega, Nat.zero_le _, Nat.zero_le _⟩
  obtain ⟨w6, hw6⟩ : ∃ w6, w6 = w5.alloc bkC := ⟨_, rfl⟩
  have ho6 : Only (fun _ => False) w5 w6 := by rw [hw6]; exact (Only.refl _ w5).alloc _
  have hb : w6.heap[w5.heap.size]? = some (.cells #[.slice none 0 0, .slice none 0 0, .slice none 0 0, .slice none 0 0, .slice none 0 0, .slice none 0 0] 47 (0, 0)) := by rw [hw6]; exact heap_alloc_last _ _
  have s6 : w6.heap.size = w5.heap.size + 1 := by rw [hw6]; simp
  rw [← hw6]
  have o26 : Only (fun k => w2.heap.size ≤ k) w2 w6 := (((ho3.mono (fun _ _ h => h.elim)).trans (ho4.mono (fun k _ h => by omega))).trans (ho5.mono (fun k _ h => by omega))).trans (ho6.mono (fun _ _ h => h.elim))
  have o16 : Only (fun k => w2.heap.size ≤ k) w1 w6 := (o2.mono (fun _ _ h => h.elim)).trans o26
  have o06 : Only (fun k => w2.heap.size ≤ k) W w6 := (ho1.mono (fun _ _ h => h.elim)).trans o16
  refine ⟨fun k => W.heap.size ≤ k ∧ k < w1.heap.size, fun k => k = w1.heap.size, fun k => w2.heap.size ≤ k ∧ k < w5.heap.size, fun _ => False, b0S, _, _, _, ⟨?_, ?_, ?_, Bk6.nil hb (fun j hj => by rcases (by omega : j = 0 ∨ j = 1 ∨ j = 2 ∨ j = 3 ∨ j = 4 ∨ j = 5) with rfl | rfl | rfl | rfl | rfl | rfl <;> rfl), ?_, ?_, ?_, ?_, ?_, ?_⟩, fun j hj => Nat.le_refl _, Nat.le_refl _, Nat.le_refl _, fun p hp => by cases hp⟩
  · refine hx.step o16 (fun k h1 h2 => by omega) (fun k h1 => ?_)
    by_cases h2 : k < W.heap.size
    · exact Or.inl h2
    · have h3 := h1.2
      exact Or.inr ⟨by omega, h1.1⟩
  · refine hr.step o26 (fun k h1 h2 => by omega) (fun k h1 => ?_)
    by_cases h2 : k < w1.heap.size
    · exact Or.inl h2
    · have h3 := h1.2
      exact Or.inr ⟨by omega, h1.1⟩
  · refine hz.step ho6 (fun _ _ h => h.elim) (fun k h1 => ?_)
    by_cases h2 : k < w2.heap.size
    · exact Or.inl h2
    · have h3 := h1.2
      exact Or.inr ⟨by omega, h1.1⟩
  · intro k hk
    exact ⟨by omega, by omega, by omega, by omega, fun h => h, by omega⟩
  · intro k hk
    exact ⟨by omega, by omega, by omega, fun h => h, by omega⟩
  · intro k hk
    exact ⟨by omega, by omega, fun h => h, by omega⟩
  · intro k hk
    exact hk.elim
  · omega
  · exact o06.below (Nat.le_refl _) (fun k hk h => by omega)
set_option maxRecDepth 100000 in
set_option maxHeartbeats 8000000 in
theorem ipcScripts_call (W : World) (pa : Option Addr) (len cap : Nat) (zs : List Stp) (hlen : zs.length = len) (hlc : len ≤ cap) (hcm : cap ≤ maxLen) (hp : ScAt W pa zs) (hz : ∀ z ∈ zs, z.ok) :
    Calls Try.prog 3 #[.slice pa len cap] W fun e w' => e = .returned (.bool true) ∧ Below W.heap.size W w' := by
  have HP := Vx.hid hp
  have HZ := Vx.hid hz
  have HL := Vx.hid hlen
  have hlm : (len : Int) ≤ 9223372036854775807 := by simp [maxLen] at hcm; omega
  have HNW := Vx.hid (fun wv => xnew_ok wv)
  have HZO : Hid (∀ (U : Nat → Prop) wv zb, XbX U wv zb b0S → Calls Try.prog 6 #[.pointer (some ⟨zb, 0, none⟩), .int .i64 1, .bool true] wv fun e w' => (∃ r, e = .returned (.int .i64 r)) ∧ Hid (XbX U w' zb z1S ∧ Only (fun k => ¬ U k) wv w')) := fun U wv zb h => by
    refine (xopen_ok h (by decide) 1 (by unfold I64; omega) true).mono ?_
    rintro e w' ⟨rfl, h1, h2⟩
    exact ⟨⟨_, rfl⟩, h1, h2⟩
  have HZR : Hid (∀ (U : Nat → Prop) wv zb, XbX U wv zb z1S → Calls Try.prog 7 #[.pointer (some ⟨zb, 0, none⟩), .int .i64 1, .int .u32 6] wv fun e w' => (∃ r, e = .returned r) ∧ Hid (XbX U w' zb z2S ∧ Only (fun k => ¬ U k) wv w')) := fun U wv zb h => by
    refine (xring_ok h 1 6 (by unfold I64; omega)).mono ?_
    rintro e w' ⟨rfl, h1, h2⟩
    exact ⟨⟨_, rfl⟩, h1, h2⟩
  clear hp hz hlen hlc hcm
  go_enter Try.func3, Try.ntmps3
  go_wp2_with fail
  refine (HNW.out _).mono ?_
  rintro e w1 ⟨xb, rfl, _, H1⟩
  go_wp2_with fail
  obtain ⟨rb, hrb⟩ : ∃ rb, rb = w1.heap.size := ⟨_, rfl⟩
  obtain ⟨w2, hw2⟩ : ∃ w2, w2 = w1.alloc (.cells #[.slice none 0 0, .slice none 0 0] 29) := ⟨_, rfl⟩
  have HW2 := Vx.hid hw2
  have HRB := Vx.hid hrb
  rw [← hw2, ← hrb]
  clear hw2 hrb
  refine (HNW.out _).mono ?_
  rintro e w3 ⟨zb, rfl, _, H3⟩
  go_wp2_with fail
  refine (HZO.out _ _ _ H3.out.1).mono ?_
  rintro e w4 ⟨⟨r4, rfl⟩, H4⟩
  go_wp2_with fail
  refine (HZR.out _ _ _ H4.out.1).mono ?_
  rintro e w5 ⟨⟨r5, rfl⟩, H5⟩
  have H0 := Vx.hid (IlR.start H1.out.1 H1.out.2 HW2.out H3.out.2 H4.out.2 H5.out.2 H5.out.1)
  rw [← HRB.out] at H0
  unfold bkC at H0
  clear H1 H3 H4 H5 HNW HZO HZR HW2 HRB
  go_wp2_with fail
  obtain ⟨bb, hbb⟩ : ∃ bb, bb = w5.heap.size := ⟨_, rfl⟩
  obtain ⟨w6, hw6⟩ : ∃ w6, w6 = w5.alloc (.cells #[.slice none 0 0, .slice none 0 0, .slice none 0 0, .slice none 0 0, .slice none 0 0, .slice none 0 0] 47) := ⟨_, rfl⟩
  rw [← hw6, ← hbb] at H0 ⊢
  clear hw6 hbb
  go_loopw [7, 8] (fun d _ wr => ∃ k : Nat, d = .int .i64 (k : Int) ∧ k ≤ len ∧ k ≤ 262144 ∧ Hid (IlR W xb rb zb bb z2S k wr)) (fun d _ _ => len - (RowKit.intOf d).toNat)
  case atStart => exact ⟨0, rfl, by omega, by omega, H0⟩
  case round =>
    obtain ⟨k, rfl, hk, hk2, HR⟩ := hrel
    by_cases hlt : k < len ∧ k < 262144
    · have h1 : (k : Int) < (len : Int) := by omega
      have h2 : (k : Int) < 262144 := by omega
      have hidx : 0 ≤ (k : Int) ∧ (k : Int) < (len : Int) := by omega
      have hkz : k < zs.length := by have := HL.out; omega
      obtain ⟨ab, ao, rfl, hcz⟩ : ∃ ab ao, pa = some ⟨ab, ao, none⟩ ∧ ∀ (j : Nat) (h : j < zs.length), W.cell? ⟨ab, ao + j * 6, none⟩ = some (.int .i64 (zs[j]).k) ∧ W.cell? ⟨ab, ao + j * 6 + 1, none⟩ = some (.int .i64 (zs[j]).a) ∧ W.cell? ⟨ab, ao + j * 6 + 2, none⟩ = some (.int .i64 (zs[j]).b) ∧ W.cell? ⟨ab, ao + j * 6 + 3, none⟩ = some (.int .i64 (zs[j]).c) ∧ W.cell? ⟨ab, ao + j * 6 + 4, none⟩ = some (.int .i64 (zs[j]).d) ∧ W.cell? ⟨ab, ao + j * 6 + 5, none⟩ = some (.string ⟨(zs[j]).s.toArray⟩) := by
        rcases HP.out with h | h
        · rw [h] at hkz; simp at hkz
        · exact h
      obtain ⟨hc0, hc1, hc2, hc3, hc4, hc5⟩ := hcz k hkz
      have hab : ab < W.heap.size := World.block_lt_of_cell? W _ hc0
      have hcc : ∀ o, wr.cell? ⟨ab, o, none⟩ = W.cell? ⟨ab, o, none⟩ := fun o => HR.out.be.cell (p := ⟨ab, o, none⟩) hab
      obtain ⟨z, hzk⟩ : ∃ z, zs[k] = z := ⟨_, rfl⟩
      have HOK := Vx.hid (HZ.out zs[k] (List.getElem_mem _))
      rw [hzk] at hc0 hc1 hc2 hc3 hc4 hc5 HOK
      rw [← hcc] at hc0 hc1 hc2 hc3 hc4 hc5
      obtain ⟨z0, z1, z2, z3, z4, zst⟩ := z
      dsimp only at hc0 hc1 hc2 hc3 hc4 hc5 HOK
      have hok := HOK.out
      unfold Stp.ok at hok
      dsimp only at hok
      have HST := Vx.hid (HR.out.passed (by omega) z0 z1 z2 z3 z4 hok.2.1 hok.2.2.1 hok.2.2.2.1 ⟨zst.toArray⟩)
      have hwk : IntKind.i64.wrap ((k : Int) + 1) = (k : Int) + 1 := by rw [IntKind.wrap_i64]; omega
      clear hcz hab hcc hzk HOK hok
      go_wp2_with fail
      refine HST.out.mono ?_
      rintro e w7 ⟨rfl, h7⟩
      have HR7 := Vx.hid h7
      clear h7
      go_wp2_with fail
      go_roundw
      case rel => exact ⟨k + 1, by go_num, by omega, by omega, HR7⟩
      case measure => simp only [RowKit.intOf]; omega
    · by_cases hl : k < len
      · have h1 : (k : Int) < (len : Int) := by omega
        obtain rfl : k = 262144 := by omega
        have h2 : ¬ ((262144 : Nat) : Int) < 262144 := by decide
        clear hlt hk2
        go_wp2_with fail
        go_loopw [9, 10, 11] (fun i _ _ wr => ∃ a : Nat, i = .int .i64 (a : Int) ∧ a ≤ 6 ∧ Hid (IlR W xb rb zb bb z2S (262144 + 2 * a) wr)) (fun i _ _ _ => 6 - (RowKit.intOf i).toNat)
        case atStart => exact ⟨0, rfl, by omega, HR⟩
        case round =>
          obtain ⟨a, rfl, ha, HA⟩ := hrel
          by_cases ha6 : a < 6
          · have g1 : (a : Int) < 6 := by omega
            have gw : IntKind.i64.wrap ((a : Int) + 1) = (a : Int) + 1 := by rw [IntKind.wrap_i64]; omega
            have HLA := Vx.hid (HA.out.passed (by omega) 8 ((a : Int) + 1) 0 0 0 (by unfold I64; omega) (by unfold I64; omega) (by unfold I64; omega) ⟨#[]⟩)
            go_wp2_with fail
            refine HLA.out.mono ?_
            rintro e w9 ⟨rfl, h7⟩
            have HLB := Vx.hid (h7.passed (by omega) 10 ((a : Int) + 1) 0 0 0 (by unfold I64; omega) (by unfold I64; omega) (by unfold I64; omega) ⟨#[]⟩)
            clear h7 HLA
            go_wp2_with fail
            refine HLB.out.mono ?_
            rintro e w10 ⟨rfl, h8⟩
            have HR8 : Hid (IlR W xb rb zb bb z2S (262144 + 2 * (a + 1)) w10) := by
              have e9 : 262144 + 2 * (a + 1) = 262144 + 2 * a + 1 + 1 := by omega
              rw [e9]
              exact h8
            clear h8 HLB
            go_wp2_with fail
            go_roundw
            case rel => exact ⟨a + 1, by go_num, by omega, HR8⟩
            case measure => simp only [RowKit.intOf]; omega
          · obtain rfl : a = 6 := by omega
            have g1 : ¬ ((6 : Nat) : Int) < 6 := by decide
            have HO7 := Vx.hid (HA.out.open7 (by omega))
            clear ha6 ha
            go_wp2_with fail
            refine HO7.out.mono ?_
            rintro e w7 ⟨rfl, H7⟩
            go_wp2_with fail
            refine H7.out.line7.mono ?_
            rintro e w8 ⟨⟨pz, cz, rfl⟩, H8⟩
            go_wp2_with fail
            refine H8.out.reads.mono ?_
            rintro e w' ⟨rfl, h⟩
            have h2' := h.symm; clear h; subst h2'
            go_wp2_with fail
            refine H8.out.last.mono ?_
            rintro e w9 ⟨rfl, HBE⟩
            go_wp2_with fail
            all_goals
              go_ret
              exact ⟨by try rfl, HBE.out⟩
      · have h1 : ¬ (k : Int) < (len : Int) := by omega
        clear hlt
        go_wp2_with fail
        go_loopw [9, 10, 11] (fun i _ _ wr => ∃ a : Nat, i = .int .i64 (a : Int) ∧ a ≤ 6 ∧ Hid (IlR W xb rb zb bb z2S (k + 2 * a) wr)) (fun i _ _ _ => 6 - (RowKit.intOf i).toNat)
        case atStart => exact ⟨0, rfl, by omega, HR⟩
        case round =>
          obtain ⟨a, rfl, ha, HA⟩ := hrel
          by_cases ha6 : a < 6
          · have g1 : (a : Int) < 6 := by omega
            have gw : IntKind.i64.wrap ((a : Int) + 1) = (a : Int) + 1 := by rw [IntKind.wrap_i64]; omega
            have HLA := Vx.hid (HA.out.passed (by omega) 8 ((a : Int) + 1) 0 0 0 (by unfold I64; omega) (by unfold I64; omega) (by unfold I64; omega) ⟨#[]⟩)
            go_wp2_with fail
            refine HLA.out.mono ?_
            rintro e w9 ⟨rfl, h7⟩
            have HLB := Vx.hid (h7.passed (by omega) 10 ((a : Int) + 1) 0 0 0 (by unfold I64; omega) (by unfold I64; omega) (by unfold I64; omega) ⟨#[]⟩)
            clear h7 HLA
            go_wp2_with fail
            refine HLB.out.mono ?_
            rintro e w10 ⟨rfl, h8⟩
            have HR8 : Hid (IlR W xb rb zb bb z2S (k + 2 * (a + 1)) w10) := by
              have e9 : k + 2 * (a + 1) = k + 2 * a + 1 + 1 := by omega
              rw [e9]
              exact h8
            clear h8 HLB
            go_wp2_with fail
            go_roundw
            case rel => exact ⟨a + 1, by go_num, by omega, HR8⟩
            case measure => simp only [RowKit.intOf]; omega
          · obtain rfl : a = 6 := by omega
            have g1 : ¬ ((6 : Nat) : Int) < 6 := by decide
            have HO7 := Vx.hid (HA.out.open7 (by omega))
            clear ha6 ha
            go_wp2_with fail
            refine HO7.out.mono ?_
            rintro e w7 ⟨rfl, H7⟩
            go_wp2_with fail
            refine H7.out.line7.mono ?_
            rintro e w8 ⟨⟨pz, cz, rfl⟩, H8⟩
            go_wp2_with fail
            refine H8.out.reads.mono ?_
            rintro e w' ⟨rfl, h⟩
            have h2' := h.symm; clear h; subst h2'
            go_wp2_with fail
            refine H8.out.last.mono ?_
            rintro e w9 ⟨rfl, HBE⟩
            go_wp2_with fail
            all_goals
              go_ret
              exact ⟨by try rfl, HBE.out⟩
end Go.Proofs.Ytdpgdjpphnbfnaa

import Derived.Test.YtdpgdjpphnbfnaaCi25
import Derived.Test.YtdpgdjpphnbfnaaCi4
import Derived.Deep.QuietTactic
/- The books: ownInts. -/
namespace Go.Proofs.Ytdpgdjpphnbfnaa
open Go.ChangeShapes Go.WideShapes Go.ChangeAt Go.RowKit
open Go.Vx
set_option linter.unusedVariables false
variable {B : Nat → Prop} {w : World} {bb o : Nat} {T : TypeId} {cs : Array Value} {V : Nat → Value} {L : Nat → List Sh}

theorem bk0 : Kind Try.prog shL 40 51 := kind_of (z := .slice none 0 0) (b := 24) Try.underlying40 (by kernel_rfl) rfl (by decide)
theorem inKq : Kind Try.prog inL 51 3 := kind_of (z := .int .i64 0) (b := 8) Try.underlying51 (by kernel_rfl) rfl (by decide)
def inM (c : Int) : Int := c
/-- A number put anew. -/
theorem own_int {w : World} {base g c m : Nat} {T : TypeId} {xs : List Int} (h : OwnL inL w base T (.slice (some ⟨g, 0, none⟩) m c) xs) (hm : m = xs.length) (k : Nat) (hk : k < xs.length) (y : Int) :
    OwnL inL (w.setCell ⟨g, k, none⟩ (.int .i64 y)) base T (.slice (some ⟨g, 0, none⟩) m c) (xs.set k y) ∧ Only (fun b => b = g) w (w.setCell ⟨g, k, none⟩ (.int .i64 y)) := by
  subst hm
  have h1 := (World.ownsRow.stored h k (.int .i64 y)).1
  refine ⟨?_, Only.setCell (S := fun b => b = g) (Only.refl _ w) (Or.inl rfl) _⟩
  have hz : (fl inL xs).set k (.int .i64 y) = fl inL (xs.set k y) := by
    refine fl_set inL xs k y hk _ (by simp) (fun j hj => ?_) (fun i hi => ?_)
    · have hj' : j < 1 := hj
      have hlen : (fl inL xs).length = xs.length * 1 := length_fl inL xs
      have hs2 : inL.sz = 1 := rfl
      obtain rfl : j = 0 := by omega
      rw [hs2, List.getElem?_set, if_pos (by omega), if_pos (by rw [hlen]; omega)]; rfl
    · have hs2 : inL.sz = 1 := rfl
      rw [hs2] at hi
      rw [List.getElem?_set, if_neg (by omega)]
  rw [hz] at h1
  show World.ownsRow _ _ _ _ _ (xs.set k y).length _
  rw [List.length_set]
  exact h1
set_option maxRecDepth 100000 in
set_option maxHeartbeats 4000000 in
theorem ownInts_okQ {base : Nat} {l : Value} {ms : List Int} (hk : Bk6 B w bb o T cs V L) (hsz : (L 0).length ≤ 1000000) (hl : OwnL inL w base 3 l ms) (hbase : base ≤ w.heap.size) (hm : ms.length ≤ 2000000) (hlB : ∀ k, l.ownBlock = some k → ¬ B k ∧ k ≠ bb) :
    Calls Try.prog 53 #[.pointer (some ⟨bb, o, none⟩), l] w fun e w' => e = .returned (.tuple #[]) ∧ ∃ cs2 v2 s1 s2, Bk6 (fun k => B k ∨ l.ownBlock = some k ∨ (w.heap.size ≤ k ∧ k < w'.heap.size)) w' bb o T cs2 (upd V 0 v2) (upd L 0 (L 0 ++ [s1, s2])) ∧ (∀ i, i < o → cs2[i]? = cs[i]?) ∧ Only (fun k => B k ∨ l.ownBlock = some k ∨ k = bb) w w' := by
  obtain ⟨pl, cl, rfl, _, _, hpl⟩ := hl.form
  obtain ⟨pv, cv, hv, _⟩ := (hk.k 0 (by decide)).at
  have h5 : w.cell? ⟨bb, o, none⟩ = some (V 0) := hk.cell (j := 0) (by decide)
  obtain ⟨Ln, hL⟩ : ∃ Ln, Ln = (L 0).length := ⟨_, rfl⟩
  obtain ⟨N, hN⟩ : ∃ N, N = ms.length := ⟨_, rfl⟩
  have q0 : Int.tdiv (Ln : Int) 2 = ((Ln / 2 : Nat) : Int) := by rw [Int.tdiv_eq_ediv_of_nonneg (by omega)]; omega
  have q0' : (Ln : Int) / 2 = ((Ln / 2 : Nat) : Int) := by omega
  have q1 : IntKind.i64.wrap ((Ln / 2 : Nat) : Int) = ((Ln / 2 : Nat) : Int) := by rw [IntKind.wrap_i64]; omega
  obtain ⟨c, hc⟩ : ∃ c : Int, c = -77 - ((Ln / 2 : Nat) : Int) := ⟨_, rfl⟩
  have q2 : -77 - ((Ln / 2 : Nat) : Int) = c := hc.symm
  have q3 : IntKind.i64.wrap c = c := by rw [IntKind.wrap_i64]; omega
  rw [← hN] at hlB hpl ⊢
  have HLm : Hid (∀ k, (Value.slice pl N cl).ownBlock = some k → k < w.heap.size) := fun k hkk => by
    obtain ⟨_, ⟨cur, h⟩, _⟩ := hl.blk (k := k) (by rw [← hN]; exact hkk)
    exact lt_of_some h
  have H0 : Hid (OqA inL 3 (inM c) w base (.slice pl N cl) N 0 (w)) := ⟨⟨ms, by rw [hN]; exact hl.kept (Only.refl _ _) (fun _ _ h => h), hN.symm, fun k hk => by omega⟩, Only.refl _ _⟩
  have HLB := Vx.hid hlB
  have HPL := Vx.hid hpl
  have HCC : Hid (c = -77 - (((L 0).length / 2 : Nat) : Int)) := by show c = _; rw [hc, hL]
  have HK := Vx.hid hk
  have HBS := Vx.hid hbase
  have HSZ := Vx.hid hsz
  have HV : Hid (V 0 = .slice pv Ln cv) := by show V 0 = _; rw [hv, hL]
  have hNm : N ≤ 2000000 := by omega
  have hNi : (N : Int) ≤ 2000000 := by omega
  rw [hv, ← hL] at h5
  obtain ⟨mb, hmb⟩ : ∃ mb, mb = w.heap.size - 1 := ⟨_, rfl⟩
  have HMB : Hid (w.heap.size ≤ mb + 1 ∧ (mb = w.heap.size - 1)) := ⟨by omega, hmb⟩
  clear hc
  generalize Ln / 2 = q at q0 q0' q1 q2
  clear hk hsz hl hbase hm hlB hpl hN hv hL
  go_enter Try.func53, Try.ntmps53
  go_wp2_with fail
  have HS0 : Hid (mb < w.heap.size) := by show mb < w.heap.size; have := lt_of_some HK.out.bl; omega
  clear hmb h5
  go_loopw [5] (fun d wr => ∃ i : Nat, d = .int .i64 (i : Int) ∧ i ≤ N ∧ Hid (mb < wr.heap.size) ∧ Hid (OqA inL 3 (inM c) w base (.slice pl N cl) N i wr)) (fun d _ => N - (intOf d).toNat)
  case atStart => exact ⟨0, rfl, by omega, HS0, H0⟩
  case round =>
    clear H0 HS0
    obtain ⟨i, rfl, hi, HS, HR⟩ := hrel
    by_cases hlt : i < N
    · have d1 : (i : Int) < (N : Int) := by omega
      have hidx : 0 ≤ (i : Int) ∧ (i : Int) < (N : Int) := by omega
      have v1 : IntKind.i64.wrap ((i : Int) + 1) = (i : Int) + 1 := by rw [IntKind.wrap_i64]; omega
      obtain ⟨g, rfl, _, _⟩ := HPL.out (by omega)
      obtain ⟨ms2, hms, hml, hmk⟩ := HR.out.ex
      obtain ⟨y0, c0⟩ : ∃ y, wr.cell? ⟨g, i, none⟩ = some y := ⟨_, by have h9 := hms.cell i 0 (by omega) (by decide); have e9 : i * inL.sz + 0 = i := Nat.mul_one i; rw [e9] at h9; exact h9.trans rfl⟩
      have f0 := hms.fz (i)

      have HS2 : Hid (mb < (wr.setCell ⟨g, i, none⟩ (.int .i64 c)).heap.size) := by show mb < _; simpa using HS.out
      have HR2 : Hid (OqA inL 3 (inM c) w base (.slice (some ⟨g, 0, none⟩) N cl) N (i + 1) (wr.setCell ⟨g, i, none⟩ (.int .i64 c))) := by
        obtain ⟨s1, s2⟩ := own_int hms hml.symm i (by omega) (inM c)
        refine ⟨⟨ms2.set i (inM c), s1, by simp [hml], fun k hk => ?_⟩, ?_⟩
        · rw [List.getElem?_set]
          by_cases hki : i = k
          · rw [if_pos hki, if_pos (by omega)]
          · rw [if_neg hki]; exact hmk k (by omega)
        · exact HR.out.on.trans (s2.mono (fun k _ hk => by rw [hk]; rfl))
      clear hms hml hmk hlt HR
      go_wp2_with fail
      go_roundw
      case rel => exact ⟨i + 1, by go_num, by omega, HS2, HR2⟩
      case measure => simp only [intOf]; omega
    · obtain rfl : i = N := by omega
      have d1 : ¬ (i : Int) < (i : Int) := by omega
      have HB0 : Hid (OqB (bkM 0) inL 3 (inM c) w mb base (.slice pl i cl) i 0 (.slice pl i cl) wr) := OqA_fin (by decide) HR.out
      clear hlt hi HR
      go_wp2_with fail
      go_loopw [6, 7] (fun y d wr => ∃ j : Nat, d = .int .i64 (j : Int) ∧ j ≤ 33 ∧ Hid (mb < wr.heap.size) ∧ Hid (OqB (bkM 0) inL 3 (inM c) w mb base (.slice pl i cl) i j y wr)) (fun _ d _ => 33 - (intOf d).toNat)
      case atStart => exact ⟨0, rfl, by omega, HS, HB0⟩
      case round =>
        clear HB0 HS
        obtain ⟨j, rfl, hj, HS, HR⟩ := hrel
        by_cases hj2 : j < 33
        · have d2 : (j : Int) < 33 := by omega
          have v1 : IntKind.i64.wrap ((j : Int) + 1) = (j : Int) + 1 := by rw [IntKind.wrap_i64]; omega

          have HLE : Hid ((List.replicate (i + j) (inM c)).length + 1 ≤ 10000000) := by show _ ≤ _; simp; omega
          have HBW : Hid (base ≤ wr.heap.size) := Nat.le_trans HBS.out HR.out.on.size
          clear hj2
          go_wp2_with (at_builtin; refine wpList_append_one inKq _ rfl _ _ rfl base _ _ rfl HR.out.own (inM c) _ _ rfl rfl rfl HLE.out HBW.out (fun x2 w4 h1 h2 h3 => ?_); have HR2 := Vx.hid (HR.out.push (by decide) h1 h2 h3 HMB.out.1 HS.out); have HS2 : Hid (mb < w4.heap.size) := Nat.lt_of_lt_of_le HS.out h2.size; clear h1 h2 h3)
          go_roundw
          case rel => exact ⟨j + 1, by go_num, by omega, HS2, HR2⟩
          case measure => simp only [intOf]; omega
        · obtain rfl : j = 33 := by omega
          have HKR : Hid (Bk6 B wr bb o T cs V L) := HK.out.only HR.out.on (fun k hb hs => (HLB.out k hs).1 hb) (fun hs => (HLB.out bb hs).2 rfl)
          have h5 : wr.cell? ⟨bb, o, none⟩ = some (V 0) := HKR.out.cell (j := 0) (by decide)
          rw [HV.out] at h5
          have HOW : Hid (OwnL shL wr 0 51 (.slice pv Ln cv) (L 0)) := by have := (HKR.out.k 0 (by decide)).own; rw [HV.out] at this; exact this
          obtain ⟨px, cx, hx, _⟩ := HR.out.own.form
          rw [List.length_replicate] at hx
          subst hx
          have HFZ := Vx.hid HKR.out.fz
          have HBB := Vx.hid HKR.out.bl
          have HVB : Hid (∀ k, (Value.slice pv Ln cv).ownBlock = some k → k ≠ bb) := fun k hkk e => by
            have h8 := (HKR.out.k 0 (by decide)).inB k (by rw [HV.out]; exact hkk)
            rw [e] at h8
            exact HKR.out.nb h8
          clear hj hj2
          go_wp2_with (at_builtin; refine append_twoQ bk0 _ rfl _ _ rfl _ (L 0) rfl HOW.out (pl, i, cl) (px, i + 33, cx) _ _ rfl rfl rfl rfl HSZ.out (fun v2 w4 h1 h2 h3 => ?_); obtain ⟨p2, c2, hv2, _⟩ := h1.form; subst hv2; have hsm := h2.block bb (lt_of_some HBB.out) (fun hv => HVB.out bb hv rfl); have hc5 := (World.cell?_of_block (a := ⟨bb, o, none⟩) hsm).trans h5; have hf5 := (World.frozen?_of_block (a := ⟨bb, o, none⟩) hsm).trans (HFZ.out (o)); have H1 := Vx.hid h1; have H2 := Vx.hid h2; have H3 := Vx.hid h3; clear h1 h2 h3 hsm)
          all_goals
            go_end0
            refine ⟨rfl, ?_⟩
            have hws : ∀ u : Value, (w4.setCell ⟨bb, o, none⟩ u).heap.size = w4.heap.size := fun u => by simp [World.setCell]
            rw [hws]
            obtain ⟨hb, hon⟩ := HK.out.push (j := 0) (by decide) (La := inL) rfl (by decide) HR.out rfl rfl hNm rfl HCC.out HLB.out HMB.out.1 H1.out (by rw [HV.out]; exact H2.out) (by rw [HV.out]; exact H3.out)
            have hln : (L 0 ++ [(pl, i, cl), (px, i + 33, cx)]).length = (L 0).length + 2 := by simp
            refine ⟨_, _, _, _, by simpa using hb, fun i hi => ?_, by simpa using hon⟩
            rw [Array.getElem?_setIfInBounds_ne (by omega)]
end Go.Proofs.Ytdpgdjpphnbfnaa

/- The law: two lists that are the same are told so: numbers, objects. -/
namespace Go.Proofs.Ytdpgdjpphnbfnaa
open Go.ChangeShapes Go.WideShapes Go.ChangeAt Go.RowKit
open Go.Vx
set_option linter.unusedVariables false

set_option maxRecDepth 100000 in
set_option maxHeartbeats 2000000 in
theorem sameInts_ok {w : World} {v1 v2 : Value} {xs : List Int} (h1 : LieL inL w v1 xs) (h2 : LieL inL w v2 xs) : Calls Try.prog 52 #[v1, v2] w fun e w' => e = .returned (.bool true) ∧ Only (fun _ => False) w w' := by
  obtain ⟨p1, c1, rfl, hn, q1⟩ := h1
  obtain ⟨p2, c2, rfl, _, q2⟩ := h2
  have HQ := Vx.hid (⟨q1, q2⟩ : _ ∧ _)
  obtain ⟨N, hN⟩ : ∃ N, N = xs.length := ⟨_, rfl⟩
  have HN := Vx.hid hN
  rw [← hN] at hn ⊢
  clear q1 q2 hN
  go_enter Try.func52, Try.ntmps52
  go_wp2_with fail
  go_loopw [5] (fun d wr => ∃ k j : Nat, d = .int .i64 (k : Int) ∧ k ≤ N ∧ wr = w.drewN j) (fun d _ => N - (intOf d).toNat)
  case atStart => exact ⟨0, 0, rfl, by omega, rfl⟩
  case round =>
    obtain ⟨k, jj, rfl, hk, rfl⟩ := hrel
    by_cases hlt : k < N
    · have hkl : k < xs.length := by have := HN.out; omega
      have h1 : (k : Int) < (N : Int) := by omega
      have hidk : 0 ≤ (k : Int) ∧ (k : Int) < (N : Int) := by omega
      have hwk : IntKind.i64.wrap ((k : Int) + 1) = (k : Int) + 1 := by rw [IntKind.wrap_i64]; omega
      obtain ⟨g1, rfl, ha⟩ := HQ.out.1 k hkl
      obtain ⟨g2, rfl, hb⟩ := HQ.out.2 k hkl
      generalize xs[k] = z at ha hb
      have e9 : k * inL.sz + 0 = k := Nat.mul_one k
      have a0 := ha 0 (by decide)
      have b0 := hb 0 (by decide)
      rw [e9] at a0 b0
      replace a0 : w.cell? ⟨g1, k, none⟩ = some (.int .i64 z) := a0
      replace b0 : w.cell? ⟨g2, k, none⟩ = some (.int .i64 z) := b0
      clear e9
      clear ha hb hlt
      go_wp2_with fail
      go_quiet (fail)
      go_wp2_with fail
      go_roundw
      case rel => exact ⟨k + 1, _, by go_num, by omega, rfl⟩
      case measure => simp only [intOf]; omega
    · obtain rfl : k = N := by omega
      have h1 : ¬ (k : Int) < (k : Int) := by omega
      clear hlt
      go_wp2_with fail
      all_goals
        go_ret
        exact ⟨rfl, (Only.refl _ _).drewN _⟩
end Go.Proofs.Ytdpgdjpphnbfnaa
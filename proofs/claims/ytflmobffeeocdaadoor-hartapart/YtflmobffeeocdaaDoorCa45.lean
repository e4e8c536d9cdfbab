import Derived.Test.YtflmobffeeocdaaDoorCa44
import Derived.Test.YtflmobffeeocdaaDoorCa20
import Derived.Test.YtflmobffeeocdaaDoorCa13
import Derived.Deep.RegionWith
import Derived.Test.YtflmobffeeocdaaDoorCa21
/- Walks of package hart: Step. -/
namespace Go.Proofs.YtflmobffeeocdaaDoor
open Go.ChangeShapes Go.WideShapes Go.ChangeAt Go.RowKit
open Go.Vx

/-- What Step leaves. -/
def StepP (U : Nat → Prop) (w : World) (bm n cb off : Nat) (T : TypeId) (cs : Array Value) (r : StepR) (e : Ending) (w' : World) : Prop :=
  (∃ c t, r = .error (c, t) ∧ e = .returned (.agg (evC true c t)) ∧ Only (fun _ => False) w w') ∨
  ∃ f' R' pc', r = .ok (f', R', pc') ∧ e = .returned (.agg (evC false 0 0)) ∧ MemAt U w' bm n f' ∧ (∃ cs', CxAt w' cb off T cs' R' pc' ∧ Beside cs cs' off) ∧ Only (fun k => ¬ U k ∨ k = cb) w w'
theorem MemAt.less {U V : Nat → Prop} {w : World} {bm n : Nat} {f : Nat → UInt8} (h : MemAt V w bm n f) (hUV : ∀ k, U k → V k) : MemAt U w bm n f := by
  obtain ⟨bp', q', h3⟩ := h
  exact ⟨bp', q', h3.pos, h3.top, h3.m, h3.p, h3.nil, h3.pg, h3.inj, fun hu => h3.um (hUV _ hu), fun hu => h3.up (hUV _ hu), fun i b hi hq hu => h3.ug i b hi hq (hUV _ hu), fun k hu => h3.low k (hUV k hu)⟩
set_option maxRecDepth 100000 in
set_option maxHeartbeats 2000000 in
theorem step_any {U : Nat → Prop} {w : World} {bm n cb off pc : Nat} {T : TypeId} {cs : Array Value} {R : Nat → Nat} {f : Nat → UInt8} (h : MemAt U w bm n f) (hus : UsesAt w) (hmi : MisAt w) (hfo : FormsAt w) (hc : CxAt w cb off T cs R pc) (hu : U cb) (hpc : pc < 4294967296) (hR : ∀ i, i < 32 → R i < 4294967296) (root : Int) :
    Calls Tryd.prog 9 #[.pointer (some ⟨bm, 0, none⟩), .int .i64 root, .pointer (some ⟨cb, off, none⟩)] w fun e w' => StepP U w bm n cb off T cs (stepF f n root R pc) e w' := by
  obtain ⟨w1, hw1⟩ : ∃ w1, w1 = (w.alloc (.cells (evC false 0 0) 40)).alloc (.cells #[.pointer (some ⟨bm, 0, none⟩), .int .i64 root, .pointer (some ⟨cb, off, none⟩)] 61) := ⟨_, rfl⟩
  have hcl : cb < w.heap.size := lt_of_some hc.b
  have hO1 : Only (fun _ => False) w w1 := by rw [hw1]; exact ((Only.refl _ w).alloc _).alloc _
  have hs1 : w1.heap.size = w.heap.size + 2 := by rw [hw1]; simp
  have hb0 : w1.heap[w.heap.size]? = some (.cells (evC false 0 0) 40 (0, 0)) := by
    rw [hw1, RowKit.Below.heap_alloc _ _ _ (by simp)]; exact heap_alloc_last w _
  obtain ⟨wA, hwA⟩ : ∃ wA, wA = w1.alloc (.cells (evC false 0 0) 40) := ⟨_, rfl⟩
  have hOA : Only (fun _ => False) w wA := by rw [hwA]; exact hO1.alloc _
  have hsA : wA.heap.size = w.heap.size + 3 := by rw [hwA]; simp [hs1]
  have hbA : wA.heap[w1.heap.size]? = some (.cells (evC false 0 0) 40 (0, 0)) := by rw [hwA]; exact heap_alloc_last w1 _
  have hbB : wA.heap[w.heap.size]? = some (.cells (evC false 0 0) 40 (0, 0)) := by
    rw [hwA, RowKit.Below.heap_alloc _ _ _ (by omega)]; exact hb0
  have HRUN := run_any (h.more hOA) (hus.only hOA (fun h => h)) (hmi.only hOA (fun h => h)) (hfo.only hOA (fun h => h)) (hc.only hOA (fun h => h)) (Or.inl hu) hpc hR root
  have HT : Hid (Calls Tryd.prog 18 #[.func (.func 19) #[.agg #[.pointer (some ⟨bm, 0, none⟩), .int .i64 root, .pointer (some ⟨cb, off, none⟩)]] #[]] w1 fun e w2 => ∃ b c t, e = .returned (.agg (evC b c t)) ∧ w2.heap[w.heap.size]? = some (.cells (evC false 0 0) 40 (0, 0)) ∧ ∀ w3, Only (fun k => k = w.heap.size) w2 w3 → StepP U w bm n cb off T cs (stepF f n root R pc) (.returned (.agg (evC b c t))) w3) := by
    cases hst : stepF f n root R pc with
    | error ct =>
      obtain ⟨c, t⟩ := ct
      refine (told_err _ c t w1 (fun wv => Only (fun _ => False) wA wv) ?_).mono ?_
      · rw [← hwA]
        refine HRUN.mono ?_
        rintro e w' (⟨c', t', h1, rfl, ho⟩ | ⟨f', R', pc', h1, _⟩)
        · rw [hst] at h1
          injection h1 with h1
          injection h1 with h1 h2
          subst h1 h2
          exact ⟨rfl, ho, by rw [ho.block _ (lt_of_some hbA) (fun h => h)]; exact hbA⟩
        · rw [hst] at h1; cases h1
      · rintro e w2 ⟨rfl, wv, hv, ho⟩
        have hb2 : w2.heap[w.heap.size]? = some (.cells (evC false 0 0) 40 (0, 0)) := by
          rw [ho.block _ (Nat.lt_of_lt_of_le (lt_of_some hbB) hv.size) (by omega), hv.block _ (lt_of_some hbB) (fun h => h)]; exact hbB
        refine ⟨true, c, t, rfl, hb2, fun w3 h3 => Or.inl ⟨c, t, rfl, rfl, ?_⟩⟩
        exact ⟨h3.os.trans (ho.os.trans ((hOA.trans hv).os)), h3.tape.trans (ho.tape.trans ((hOA.trans hv).tape)), h3.output.trans (ho.output.trans ((hOA.trans hv).output)), Nat.le_trans (hOA.trans hv).size (Nat.le_trans ho.size h3.size), fun k hk _ => by
          rw [h3.block k (Nat.lt_of_lt_of_le hk (Nat.le_trans (hOA.trans hv).size ho.size)) (by omega), ho.block k (Nat.lt_of_lt_of_le hk (hOA.trans hv).size) (by omega), (hOA.trans hv).block k hk (fun h => h)]⟩
    | ok r =>
      obtain ⟨f', R', pc'⟩ := r
      refine (told_ok _ w1 (fun wv => MemAt (fun k => U k ∨ (w.heap.size ≤ k ∧ k < wA.heap.size)) wv bm n f' ∧ (∃ cs', CxAt wv cb off T cs' R' pc' ∧ Beside cs cs' off) ∧ Only (fun k => ¬ (U k ∨ (w.heap.size ≤ k ∧ k < wA.heap.size)) ∨ k = cb) wA wv) ?_).mono ?_
      · rw [← hwA]
        refine HRUN.mono ?_
        rintro e w' (⟨c', t', h1, _⟩ | ⟨f2, R2, pc2, h1, rfl, h2, h3, h4⟩)
        · rw [hst] at h1; cases h1
        · rw [hst] at h1
          injection h1 with h1
          injection h1 with h1 h5
          injection h5 with h5 h6
          subst h1 h5 h6
          refine ⟨rfl, ⟨h2, h3, h4⟩, ?_⟩
          rw [h4.block _ (lt_of_some hbA) (by rintro (hn | hn); exact hn (Or.inr ⟨by omega, by omega⟩); omega)]
          exact hbA
      · rintro e w2 ⟨rfl, wv, ⟨h2, ⟨cs', h3, hbe⟩, h4⟩, ho⟩
        have hzv := h4.size
        have hb2 : w2.heap[w.heap.size]? = some (.cells (evC false 0 0) 40 (0, 0)) := by
          rw [ho.block _ (by omega) (by omega), h4.block _ (lt_of_some hbB) (by rintro (hn | hn); exact hn (Or.inr ⟨by omega, by omega⟩); omega)]; exact hbB
        refine ⟨false, 0, 0, rfl, hb2, fun w3 h3' => Or.inr ⟨f', R', pc', rfl, rfl, ?_, ⟨cs', ?_, hbe⟩, ?_⟩⟩
        · have m2 := h2.only ho (fun k hk _ => by rw [hk]; exact Or.inr ⟨by omega, by omega⟩)
          have m3 := m2.only h3' (fun k hk _ => by rw [hk]; exact Or.inr ⟨by omega, by omega⟩)
          exact m3.less (fun k hk => Or.inl hk)
        · exact (h3.only ho (by omega)).only h3' (by omega)
        · have hsz : w.heap.size ≤ wv.heap.size := by omega
          exact ⟨h3'.os.trans (ho.os.trans (h4.os.trans hOA.os)), h3'.tape.trans (ho.tape.trans (h4.tape.trans hOA.tape)), h3'.output.trans (ho.output.trans (h4.output.trans hOA.output)), Nat.le_trans hsz (Nat.le_trans ho.size h3'.size), fun k hk hn => by
            rw [h3'.block k (Nat.lt_of_lt_of_le hk (Nat.le_trans hsz ho.size)) (by omega), ho.block k (Nat.lt_of_lt_of_le hk hsz) (by omega), h4.block k (by omega) (by rintro (hx | hx); exact hn (Or.inl (fun hu' => hx (Or.inl hu'))); exact hn (Or.inr hx)), hOA.block k hk (fun h => h)]⟩
  clear h hus hmi hfo hc hu hpc hR HRUN hOA hsA hbA hbB hwA hO1 hb0
  have hmf : ∀ (fn : Fn) (first cap : Array Value) (w : World), (Instr.makeFunc fn first cap).run Tryd.prog w = .ok (.func fn first cap) w := fun _ _ _ _ => rfl
  have hs1' : w.heap.size + 2 = w1.heap.size := hs1.symm
  clear hs1
  subst hw1
  clear hs1'
  go_enter Tryd.func9, Tryd.ntmps9
  go_wp2_with fail
  refine HT.out.mono ?_
  rintro e w2 ⟨b, c, t, rfl, hb2, hfin⟩
  obtain ⟨s1, s2⟩ := ev_set (b := false) (c := 0) (t := 0) hb2 b c t
  have HFI := Vx.hid (hfin _ s2)
  have HS1 := Vx.hid s1
  have h0 : w2.cell? ⟨w.heap.size, 0, none⟩ = some (.bool false) := (cell_of_row _ _ 0 _ _ (0, 0) hb2).trans rfl
  have h1 : w2.cell? ⟨w.heap.size, 1, none⟩ = some (.int .i64 0) := (cell_of_row _ _ 1 _ _ (0, 0) hb2).trans rfl
  have h2 : w2.cell? ⟨w.heap.size, 2, none⟩ = some (.int .u32 0) := (cell_of_row _ _ 2 _ _ (0, 0) hb2).trans rfl
  have f0 : w2.frozen? ⟨w.heap.size, 0, none⟩ = false := by simp [World.frozen?, hb2]
  have f1 : w2.frozen? ⟨w.heap.size, 1, none⟩ = false := by simp [World.frozen?, hb2]
  have f2 : w2.frozen? ⟨w.heap.size, 2, none⟩ = false := by simp [World.frozen?, hb2]
  have hl : w.heap.size < w2.heap.size := lt_of_some hb2
  have k0 : (((w2.setCell ⟨w.heap.size, 0, none⟩ (.bool b)).setCell ⟨w.heap.size, 1, none⟩ (.int .i64 c)).setCell ⟨w.heap.size, 2, none⟩ (.int .u32 (t : Int))).cell? ⟨w.heap.size, 0, none⟩ = some (.bool b) := (cell_of_row _ _ 0 _ _ (0, 0) s1).trans rfl
  have k1 : (((w2.setCell ⟨w.heap.size, 0, none⟩ (.bool b)).setCell ⟨w.heap.size, 1, none⟩ (.int .i64 c)).setCell ⟨w.heap.size, 2, none⟩ (.int .u32 (t : Int))).cell? ⟨w.heap.size, 1, none⟩ = some (.int .i64 c) := (cell_of_row _ _ 1 _ _ (0, 0) s1).trans rfl
  have k2 : (((w2.setCell ⟨w.heap.size, 0, none⟩ (.bool b)).setCell ⟨w.heap.size, 1, none⟩ (.int .i64 c)).setCell ⟨w.heap.size, 2, none⟩ (.int .u32 (t : Int))).cell? ⟨w.heap.size, 2, none⟩ = some (.int .u32 (t : Int)) := (cell_of_row _ _ 2 _ _ (0, 0) s1).trans rfl
  have HK := Vx.hid (⟨k0, k1, k2⟩ : _ ∧ _ ∧ _)
  clear hb2 hfin s1 s2 HT k0 k1 k2
  unfold evC at *
  go_wp2_with fail
  obtain ⟨k0, k1, k2⟩ := HK.out
  refine bodyPost_ret (v := .agg #[.bool b, .int .i64 c, .int .u32 (t : Int)]) ?_ rfl HFI.out
  simp [results, Tryd.results9, go_sem, k0, k1, k2]
end Go.Proofs.YtflmobffeeocdaaDoor

/- Walks of isa.build and isa.Encode. -/
namespace Go.Proofs.YtflmobffeeocdaaDoor
open Go.ChangeShapes Go.WideShapes Go.ChangeAt Go.RowKit
open Go.Vx (regMask spreadOf kindOf formOf ins insV zeroIns fits dec Ins wordOf)

set_option maxHeartbeats 1000000 in
theorem build_any (i : Ins) (h0 : 1 ≤ i.op) (h1 : i.op ≤ 48) (w : World) (hF : FormsAt w) :
    Calls Tryd.prog 38 #[insV i] w fun e w' => e = .returned (.int .u32 (wordOf i)) ∧ Below w.heap.size w w' := by
  have hz := hF.1
  have hc1 := (hF.2 i.op (by omega) h1).1
  have hc2 := (hF.2 i.op (by omega) h1).2
  have hk : (0 : Int) ≤ (kindOf i.op : Int) := by omega
  have hkn := Vx.kindOf_le i.op
  have hk2 : (kindOf i.op : Int) ≤ 7 := by omega
  have hm0 : 0 ≤ i.imm % 4294967296 := by omega
  have hm1 : i.imm % 4294967296 < 4294967296 := by omega
  unfold insV
  go_enter Tryd.func38, Tryd.ntmps38
  go_wp2
  go_quiet ((first | (go_at_call 48; exact Calls.quiet_of_same (reg_any _ hk hk2 _)) | (go_at_call 49; exact Calls.quiet_of_same (spread_any _ _ hk hk2 hm0 hm1 _))))
  go_wp2
  go_ret
  refine ⟨ret_int (Vx.word_num i h0 h1), ?_⟩
  exact below_drewN (((Below.refl _ _).alloc (Nat.le_refl _) _).alloc (by simp) _) _

set_option maxHeartbeats 1000000 in
theorem encode_far (i : Ins) (h : ¬ (1 ≤ i.op ∧ i.op ≤ 48)) (w : World) :
    Calls Tryd.prog 20 #[insV i] w fun e w' => e = .returned (.tuple #[.int .u32 0, .int .i64 8]) ∧ Below w.heap.size w w' := by
  unfold insV
  by_cases h1 : i.op < 1
  · clear h
    go_enter Tryd.func20, Tryd.ntmps20
    go_wp2
    go_ret2
    exact ⟨rfl, (Below.refl _ _).alloc (Nat.le_refl _) _⟩
  · have h2 : 48 < i.op := by omega
    clear h
    go_enter Tryd.func20, Tryd.ntmps20
    go_wp2
    go_ret2
    exact ⟨rfl, (Below.refl _ _).alloc (Nat.le_refl _) _⟩

set_option maxHeartbeats 1000000 in
theorem encode_ok (i : Ins) (h0 : 1 ≤ i.op) (h1 : i.op ≤ 48) (hd : dec (wordOf i) = i) (w : World) (hF : FormsAt w) :
    Calls Tryd.prog 20 #[insV i] w fun e w' => e = .returned (.tuple #[.int .u32 (wordOf i), .int .i64 0]) ∧ Below w.heap.size w w' := by
  have hz := hF.1
  have HF : Hid (FormsAt w) := hF
  have Hd : Hid (dec (wordOf i) = i) := hd
  obtain ⟨hw0, hw1⟩ := Vx.word_bound i h0 h1
  have HI : Hid (insV i = .agg #[.int .i64 i.op, .int .i64 i.rd, .int .i64 i.rs1, .int .i64 i.rs2, .int .i64 i.imm]) := rfl
  clear hF hd
  rw [HI.out]
  go_enter Tryd.func20, Tryd.ntmps20
  go_wp2_with fail
  rw [← HI.out]
  refine (build_any i h0 h1 _ (HF.out.below hz ((Below.refl _ _).alloc (Nat.le_refl _) _))).mono ?_
  rintro e w1 ⟨rfl, hb1⟩
  have hs1 : w.heap.size + 1 ≤ w1.heap.size := by have := hb1.size; simpa using this
  have hc : ∀ o, w1.cell? ⟨w.heap.size, o, none⟩ = (w.alloc (.cells #[.int .i64 i.op, .int .i64 i.rd, .int .i64 i.rs1, .int .i64 i.rs2, .int .i64 i.imm] 66)).cell? ⟨w.heap.size, o, none⟩ := fun o => hb1.cell (p := ⟨w.heap.size, o, none⟩) (by simp)
  have HF1 : Hid (FormsAt w1) := HF.out.below hz (((Below.refl _ _).alloc (Nat.le_refl _) _).trans (hb1.mono (by simp)))
  have HB1 : Hid (Below w.heap.size w w1) := ((Below.refl _ _).alloc (Nat.le_refl _) _).trans (hb1.mono (by simp))
  have hs2 : w.heap.size < w1.heap.size := by omega
  clear hb1
  go_wp2_with fail
  go_region_with (go_at_call 39; refine (decode_any _ hw0 hw1 w1.drew HF1.out).mono ?_; rintro e w2 ⟨rfl, hb2⟩; rw [Hd.out]; unfold insV; have hc2 := fun o => hb2.cell (p := ⟨w.heap.size, o, none⟩) hs2; have HB2 := show Hid _ from hb2; clear hb2)
  all_goals
    go_wp2
    go_ret2
    exact ⟨rfl, HB1.out.drew.trans (HB2.out.mono (by show w.heap.size ≤ w1.heap.size; omega))⟩

set_option maxHeartbeats 1000000 in
theorem encode_no (i : Ins) (h0 : 1 ≤ i.op) (h1 : i.op ≤ 48) (hd : dec (wordOf i) ≠ i) (w : World) (hF : FormsAt w) :
    Calls Tryd.prog 20 #[insV i] w fun e w' => e = .returned (.tuple #[.int .u32 0, .int .i64 8]) ∧ Below w.heap.size w w' := by
  have hz := hF.1
  have HF : Hid (FormsAt w) := hF
  have hne := ins_ne hd
  obtain ⟨hw0, hw1⟩ := Vx.word_bound i h0 h1
  have HI : Hid (insV i = .agg #[.int .i64 i.op, .int .i64 i.rd, .int .i64 i.rs1, .int .i64 i.rs2, .int .i64 i.imm]) := rfl
  clear hF hd
  rcases hne with hn0 | ⟨hn0, hn1⟩ | ⟨hn0, hn1, hn2⟩ | ⟨hn0, hn1, hn2, hn3⟩ | ⟨hn0, hn1, hn2, hn3, hn4⟩
  all_goals
    rw [HI.out]
    go_enter Tryd.func20, Tryd.ntmps20
    go_wp2_with fail
    rw [← HI.out]
    refine (build_any i h0 h1 _ (HF.out.below hz ((Below.refl _ _).alloc (Nat.le_refl _) _))).mono ?_
    rintro e w1 ⟨rfl, hb1⟩
    have hs1 : w.heap.size + 1 ≤ w1.heap.size := by have := hb1.size; simpa using this
    have hc : ∀ o, w1.cell? ⟨w.heap.size, o, none⟩ = (w.alloc (.cells #[.int .i64 i.op, .int .i64 i.rd, .int .i64 i.rs1, .int .i64 i.rs2, .int .i64 i.imm] 66)).cell? ⟨w.heap.size, o, none⟩ := fun o => hb1.cell (p := ⟨w.heap.size, o, none⟩) (by simp)
    have HF1 : Hid (FormsAt w1) := HF.out.below hz (((Below.refl _ _).alloc (Nat.le_refl _) _).trans (hb1.mono (by simp)))
    have HB1 : Hid (Below w.heap.size w w1) := ((Below.refl _ _).alloc (Nat.le_refl _) _).trans (hb1.mono (by simp))
    have hs2 : w.heap.size < w1.heap.size := by omega
    clear hb1
    go_wp2_with fail
    go_region_with (go_at_call 39; refine (decode_any _ hw0 hw1 w1.drew HF1.out).mono ?_; rintro e w2 ⟨rfl, hb2⟩; unfold insV; have hc2 := fun o => hb2.cell (p := ⟨w.heap.size, o, none⟩) hs2; have HB2 := show Hid _ from hb2; clear hb2)
    all_goals
      go_wp2
      go_ret2
      exact ⟨rfl, HB1.out.drew.trans (HB2.out.mono (by show w.heap.size ≤ w1.heap.size; omega))⟩
end Go.Proofs.YtflmobffeeocdaaDoor

/- The contracts of isa.Encode by whether an instruction has a word. -/
namespace Go.Proofs.YtflmobffeeocdaaDoor
open Go.ChangeShapes Go.WideShapes Go.ChangeAt Go.RowKit
open Go.Vx (insV dec Ins wordOf)

theorem encode_good (i : Ins) (h : Good i) (w : World) (hF : FormsAt w) :
    Calls Tryd.prog 20 #[insV i] w fun e w' => e = .returned (.tuple #[.int .u32 (wordOf i), .int .i64 0]) ∧ Below w.heap.size w w' := encode_ok i h.1 h.2.1 h.2.2 w hF
theorem encode_bad (i : Ins) (h : ¬ Good i) (w : World) (hF : FormsAt w) :
    Calls Tryd.prog 20 #[insV i] w fun e w' => e = .returned (.tuple #[.int .u32 0, .int .i64 8]) ∧ Below w.heap.size w w' := by
  by_cases h1 : 1 ≤ i.op ∧ i.op ≤ 48
  · exact encode_no i h1.1 h1.2 (fun e => h ⟨h1.1, h1.2, e⟩) w hF
  · exact encode_far i h1 w
theorem good_addi : Good ⟨19, 1, 0, 0, 5⟩ := ⟨by decide, by decide, dec_addi⟩
theorem encode_addi (w : World) (hF : FormsAt w) :
    Calls Tryd.prog 20 #[.agg #[.int .i64 19, .int .i64 1, .int .i64 0, .int .i64 0, .int .i64 5]] w fun e w' => e = .returned (.tuple #[.int .u32 5243027, .int .i64 0]) ∧ Below w.heap.size w w' :=
  encode_good ⟨19, 1, 0, 0, 5⟩ good_addi w hF

end Go.Proofs.YtflmobffeeocdaaDoor

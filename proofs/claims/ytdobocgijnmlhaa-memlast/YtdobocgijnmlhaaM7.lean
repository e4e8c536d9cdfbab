/- MemLast's walk. -/
import Derived.Test.YtdobocgijnmlhaaM6
namespace Go.Proofs.Ytdobocgijnmlhaa
open Go.ChangeShapes Go.WideShapes Go.ChangeAt Go.RowKit
open Go.Vx

/-- Patches where they lie. -/
def PatAt (w : World) (pa : Option Addr) (zs : List (Int × List UInt8)) : Prop :=
  zs = [] ∨ ∃ ab ao, pa = some ⟨ab, ao, none⟩ ∧ ∀ (j : Nat) (h : j < zs.length), w.cell? ⟨ab, ao + j * 2, none⟩ = some (.int .i64 (zs[j]).1) ∧ w.cell? ⟨ab, ao + j * 2 + 1, none⟩ = some (.string ⟨(zs[j]).2.toArray⟩)
/-- A block that was made behind a memory is none of its own. -/
theorem MemAt.beside {U : Nat → Prop} {w : World} {bm n : Nat} {f : Nat → UInt8} (h : MemAt U w bm n f) (o : Obj) : MemAt (fun k => U k ∨ k = w.heap.size) (w.alloc o) bm n f := by
  obtain ⟨bp, q, h⟩ := h
  have hk : ∀ b x, w.heap[b]? = some x → (w.alloc o).heap[b]? = some x := fun b x hb => by
    rw [RowKit.Below.heap_alloc _ _ _ (lt_of_some hb)]; exact hb
  have hs : ∀ b x, w.heap[b]? = some x → ¬ U b → ¬ (U b ∨ b = w.heap.size) := fun b x hb hu hc => by
    have := lt_of_some hb
    rcases hc with hc | hc
    · exact hu hc
    · omega
  refine ⟨bp, q, h.pos, h.top, hk _ _ h.m, hk _ _ h.p, h.nil, fun i hi b hb => hk _ _ (h.pg i hi b hb), h.inj, hs _ _ h.m h.um, hs _ _ h.p h.up, fun i b hi hb => hs _ _ (h.pg i hi b hb) (h.ug i b hi hb), ?_⟩
  intro k hk
  simp
  rcases hk with hk | hk
  · have := h.low k hk; omega
  · omega
/-- What a round of MemLast leaves. -/
def LastR (W : World) (g bm n : Nat) (wr : World) : Prop :=
  ∃ f, MemAt (fun k => k < W.heap.size ∨ k = g) wr bm n f ∧ wr.heap[g]? = some (.cells (rowV f 0 (4096 * n)).toArray 5 (0, 0)) ∧ Below W.heap.size W wr
theorem LastR.cell {W : World} {g bm n : Nat} {wr : World} (h : LastR W g bm n wr) {p : Addr} (hp : p.block < W.heap.size) : wr.cell? p = W.cell? p := by
  obtain ⟨f, _, _, hb⟩ := h
  exact hb.cell hp
theorem last_write {W : World} {g bm n : Nat} {wr : World} (hg : W.heap.size ≤ g) (h : LastR W g bm n wr) (a : Nat) (s : List UInt8) (hin : a + s.length ≤ 4096 * n) :
    Calls Try.prog 6 #[.pointer (some ⟨bm, 0, none⟩), .int .i64 (a : Int), .string ⟨s.toArray⟩] wr fun e w2 => ∃ (cur : List Value) (o : Nat), e = .returned (.int .i64 0) ∧
      Hid ((∀ wv, (Instr.slice 28 (.slice (some ⟨g, 0, none⟩) (4096 * n) (4096 * n)) (some (.int .i64 (a : Int))) none none).run Try.prog wv = .ok (.slice (some ⟨g, o, none⟩) (4096 * n - a) (4096 * n - a)) wv) ∧
        w2.heap[g]? = some (.cells cur.toArray 5 (0, 0)) ∧ o + (s.take (4096 * n - a)).length ≤ cur.length ∧ (s.take (4096 * n - a)).length = s.length ∧ LastR W g bm n (w2.setRow g (splice cur o ((s.take (4096 * n - a)).map byteV)).toArray)) := by
  obtain ⟨f, ⟨bp, q, hm⟩, hgr, hb⟩ := h
  refine (write_ok hm a s hin).mono ?_
  rintro e w2 ⟨rfl, hm2, ho⟩
  have hg2 : w2.heap[g]? = some (.cells (rowV f 0 (4096 * n)).toArray 5 (0, 0)) := by
    rw [ho.block g (lt_of_some hgr) (fun hn => hn (Or.inr rfl))]; exact hgr
  have htk : s.take (4096 * n - a) = s := List.take_of_length_le (by omega)
  have hb2 : Below W.heap.size W w2 := hb.trans (ho.below (Nat.le_of_lt (Nat.lt_of_le_of_lt hg (lt_of_some hgr))) (fun k hk hn => hn (Or.inl hk)))
  have hl2 : ∀ cs : Array Value, cs = (rowV (putF f a s) 0 (4096 * n)).toArray → LastR W g bm n (w2.setRow g cs) := by
    rintro cs rfl
    refine ⟨putF f a s, ?_, setRow_heap w2 g _ _ _ _ hg2, below_setRow hb2 hg _⟩
    exact hm2.only (S := fun k => k = g) (only_row w2 g _) (fun k hk _ => Or.inr hk)
  by_cases ha : a < 4096 * n
  · refine ⟨rowV f 0 (4096 * n), a, rfl, fun wv => bytes_from g (4096 * n) a ha wv, hg2, ?_, by rw [htk], hl2 _ ?_⟩
    · rw [htk, length_rowV]; omega
    · rw [htk, splice_row f 0 (4096 * n) a s (by omega), Nat.zero_add]
  · obtain rfl : a = 4096 * n := by omega
    obtain rfl : s = [] := List.length_eq_zero_iff.1 (by omega)
    refine ⟨rowV f 0 (4096 * n), 0, rfl, fun wv => ?_, hg2, by simp, by simp, hl2 _ ?_⟩
    · have hu : Try.prog.underlying 28 = some (.slice (Try.prog.elem 28)) := by kernel_rfl
      have he : Try.prog.elem 28 = 5 := by kernel_rfl
      have hsz : (sizeOf 5).run Try.prog wv = .ok 1 wv := by
        have := sizeByte
        cases hq : Try.prog.info? 5 with
        | none => rw [hq] at this; simp at this
        | some i => rw [hq] at this; simp at this; simp [sizeOf, typeInfo, hq, this]
      rw [run_slice_l wv 28 (some ⟨g, 0, none⟩) (4096 * n) (4096 * n) hu .i64 ((4096 * n : Nat) : Int) (by omega) (by omega), he, hsz]
      simp only [Result.andThen, sliced, Int.toNat_natCast, Nat.sub_self, if_true]
    · rw [putF_nil]
      simp [splice]
theorem last_write_at {W : World} {g bm n N : Nat} {wr : World} (hN : N = 4096 * n) (hg : W.heap.size ≤ g) (h : LastR W g bm n wr) (a : Nat) (s : List UInt8) (hin : a + s.length ≤ N) :
    Calls Try.prog 6 #[.pointer (some ⟨bm, 0, none⟩), .int .i64 (a : Int), .string ⟨s.toArray⟩] wr fun e w2 => ∃ (cur : List Value) (o : Nat), e = .returned (.int .i64 0) ∧
      Hid ((∀ wv, (Instr.slice 28 (.slice (some ⟨g, 0, none⟩) N N) (some (.int .i64 (a : Int))) none none).run Try.prog wv = .ok (.slice (some ⟨g, o, none⟩) (N - a) (N - a)) wv) ∧
        w2.heap[g]? = some (.cells cur.toArray 5 (0, 0)) ∧ o + (s.take (N - a)).length ≤ cur.length ∧ (s.take (N - a)).length = s.length ∧ LastR W g bm n (w2.setRow g (splice cur o ((s.take (N - a)).map byteV)).toArray)) := by
  subst hN
  exact last_write hg h a s hin
set_option maxRecDepth 100000 in
theorem memLast_call (W : World) (x : Int) (hx0 : -9223372036854775808 ≤ x) (hx1 : x ≤ 9223372036854775807) (pa : Option Addr) (len cap : Nat) (zs : List (Int × List UInt8)) (hlen : zs.length = len) (hlc : len ≤ cap) (hcm : cap ≤ maxLen) (hp : PatAt W pa zs)
    (hz : ∀ z ∈ zs, (-9223372036854775808 ≤ z.1 ∧ z.1 ≤ 9223372036854775807) ∧ z.2.length ≤ maxLen) :
    Calls Try.prog 3 #[.int .i64 x, .slice pa len cap] W fun e w' => e = .returned (.bool true) ∧ Below W.heap.size W w' := by
  have HPK := Vx.hid (pick_any 6 (by decide) (by decide) x hx0 hx1 W)
  have hk : pickN x 6 < 6 := Nat.mod_lt _ (by decide)
  generalize pickN x 6 = r at HPK hk
  have HP := Vx.hid hp
  have HZ := Vx.hid hz
  have HL := Vx.hid hlen
  have HNW := Vx.hid (new_ok (1 + r) (by omega) (by omega) W)
  have hw0 : IntKind.i64.wrap (1 + (r : Int)) = ((1 + r : Nat) : Int) := by rw [IntKind.wrap_i64]; omega
  have hlm : (len : Int) ≤ 9223372036854775807 := by simp [maxLen] at hcm; omega
  have HNB : Hid (1 ≤ 1 + r ∧ 1 + r ≤ 6) := ⟨by omega, by omega⟩
  generalize 1 + r = n at HNW hw0 HNB
  obtain ⟨N, hN⟩ : ∃ N, N = 4096 * n := ⟨_, rfl⟩
  have hNb : N ≤ 24576 := by have := HNB.out; omega
  have hw1 : IntKind.i64.wrap ((n : Int) * 4096) = (N : Int) := by have := HNB.out; rw [IntKind.wrap_i64]; omega
  have hmk := fun wv => make_bytes N (by omega) wv
  have HPL := Vx.hid hlc
  have HN := Vx.hid hN
  clear hp hz hlen hk hx0 hx1 hlc hcm hN
  go_enter Try.func3, Try.ntmps3
  go_wp2_with fail
  refine HPK.out.mono ?_
  rintro e w' ⟨rfl, h⟩
  have h2 := h.symm; clear h; subst h2
  go_wp2_with fail
  refine HNW.out.mono ?_
  rintro e w1 ⟨bm, rfl, hb1, hb2, ho1, hm1⟩
  have HM1 := Vx.hid (hm1 (fun k => k < W.heap.size) (fun _ h => h))
  have HO1 := Vx.hid ho1
  have H0 : Hid (LastR W w1.heap.size bm n (w1.alloc (.cells (rowV (fun _ => 0) 0 N).toArray 5))) :=
    ⟨fun _ => 0, HM1.out.beside _, (by rw [HN.out]; exact heap_alloc_last _ _), (HO1.out.alloc _).below (Nat.le_refl _) (fun _ _ h => h)⟩
  have hg : W.heap.size ≤ w1.heap.size := HO1.out.size
  have hmk1 := hmk w1
  clear hm1 ho1 hmk
  generalize w1.heap.size = g at H0 hg hmk1
  go_wp2_with fail
  go_loopw [9] (fun d wr => ∃ k : Nat, d = .int .i64 (k : Int) ∧ k ≤ len ∧ k ≤ 262144 ∧ Hid (LastR W g bm n wr)) (fun d _ => len - (intOf d).toNat)
  case atStart => exact ⟨0, rfl, by omega, by omega, H0⟩
  case round =>
    obtain ⟨k, rfl, hk, hk2, HR⟩ := hrel
    by_cases hlt : k < len ∧ k < 262144
    · have h1 : (k : Int) < (len : Int) := by omega
      have h2 : (k : Int) < 262144 := by omega
      have hidx : 0 ≤ (k : Int) ∧ (k : Int) < (len : Int) := by omega
      have hkz : k < zs.length := by have := HL.out; omega
      obtain ⟨ab, ao, rfl, hcz⟩ : ∃ ab ao, pa = some ⟨ab, ao, none⟩ ∧ ∀ (j : Nat) (h : j < zs.length), W.cell? ⟨ab, ao + j * 2, none⟩ = some (.int .i64 (zs[j]).1) ∧ W.cell? ⟨ab, ao + j * 2 + 1, none⟩ = some (.string ⟨(zs[j]).2.toArray⟩) := by
        rcases HP.out with h | h
        · rw [h] at hkz; simp at hkz
        · exact h
      obtain ⟨hc1, hc2⟩ := hcz k hkz
      obtain ⟨⟨hz0, hz1⟩, hz2⟩ := HZ.out zs[k] (List.getElem_mem _)
      have hr1 : wr.cell? ⟨ab, ao + k * 2, none⟩ = some (.int .i64 (zs[k]).1) := by rw [HR.out.cell (World.block_lt_of_cell? W _ hc1)]; exact hc1
      have hr2 : wr.cell? ⟨ab, ao + k * 2 + 1, none⟩ = some (.string ⟨(zs[k]).2.toArray⟩) := by rw [HR.out.cell (World.block_lt_of_cell? W _ hc2)]; exact hc2
      obtain ⟨z, hz⟩ : ∃ z, zs[k] = z := ⟨_, rfl⟩
      rw [hz] at hr1 hr2 hz0 hz1 hz2
      obtain ⟨x1, s⟩ := z
      simp only at hr1 hr2 hz0 hz1 hz2
      obtain ⟨p, hp⟩ : ∃ p : ByteArray, p = ⟨s.toArray⟩ := ⟨_, rfl⟩
      rw [← hp] at hr2
      have hps : p.size = s.length := by rw [hp]; simp [ByteArray.size]
      have HPP := Vx.hid hp
      have hsm : (s.length : Int) ≤ 9223372036854775807 := by simp [maxLen] at hz2; omega
      have hw2 : IntKind.i64.wrap ((N : Int) - (s.length : Int)) = (N : Int) - (s.length : Int) := by rw [IntKind.wrap_i64]; omega
      clear hz hcz hc1 hc2 hlt hp hz2
      by_cases hfit : 0 ≤ x1 ∧ x1 ≤ (N : Int) - (s.length : Int)
      · obtain ⟨y, rfl⟩ : ∃ y : Nat, x1 = (y : Int) := ⟨x1.toNat, by omega⟩
        have d1 : decide (0 ≤ (y : Int)) = true := decide_eq_true hfit.1
        have d2 : (y : Int) ≤ (N : Int) - (s.length : Int) := hfit.2
        have HWR := Vx.hid (last_write_at HN.out hg HR.out y s (by omega))
        clear hfit
        rw [← HPP.out] at HWR
        go_wp2_with fail
        refine HWR.out.mono ?_
        rintro e w2 ⟨cur, o, rfl, H2⟩
        have hsl := H2.out.1
        go_wp2_with (refine Vx.wpList_copy_str rfl (.tmp 75) (.tmp 76) 28 9 rfl 5 Try.underlying28 sizeByte g o (N - y) (N - y) s (by simp [Act.eval]) (by simp [Act.eval]; exact HPP.out) cur 5 H2.out.2.1 H2.out.2.2.1 s.length H2.out.2.2.2.1 (fun wx => Hid (LastR W g bm n wx)) H2.out.2.2.2.2 ?_; intro w3 H3)
        go_roundw
        case rel => exact ⟨k + 1, by go_num, by omega, by omega, H3⟩
        case measure => simp [intOf]; omega
      · have HNO : Hid (Calls Try.prog 6 #[.pointer (some ⟨bm, 0, none⟩), .int .i64 x1, .string p] wr fun e w' => e = .returned (.int .i64 1) ∧ w' = wr) := by
          obtain ⟨f, hm, _, _⟩ := HR.out
          rw [HPP.out]
          refine write_no hm x1 s ?_
          have := HN.out
          unfold insB
          by_cases h0 : 0 ≤ x1
          · by_cases h3 : x1 ≤ (n : Int) * 4096
            · have : ¬ ((s.length : Nat) : Int) ≤ (n : Int) * 4096 - x1 := by omega
              simp [this]
            · simp [h3]
          · simp [h0]
        by_cases h0 : 0 ≤ x1
        · have h3 : ¬ x1 ≤ (N : Int) - (s.length : Int) := by omega
          have d0 : decide (0 ≤ x1) = true := decide_eq_true h0
          have d3 : decide (x1 ≤ (N : Int) - (s.length : Int)) = false := decide_eq_false h3
          clear hfit hz0 hz1
          go_wp2_with fail
          refine HNO.out.mono ?_
          rintro e w' ⟨rfl, h⟩
          have h2 := h.symm; clear h; subst h2
          go_wp2_with fail
          go_roundw
          case rel => exact ⟨k + 1, by go_num, by omega, by omega, HR⟩
          case measure => simp [intOf]; omega
        · clear hfit hz0 hz1
          have d0 : decide (0 ≤ x1) = false := decide_eq_false h0
          go_wp2_with fail
          refine HNO.out.mono ?_
          rintro e w' ⟨rfl, h⟩
          have h2 := h.symm; clear h; subst h2
          go_wp2_with fail
          go_roundw
          case rel => exact ⟨k + 1, by go_num, by omega, by omega, HR⟩
          case measure => simp [intOf]; omega
    · have HE : Hid (∃ t : List UInt8, Calls Try.prog 7 #[.pointer (some ⟨bm, 0, none⟩), .int .i64 0, .int .i64 (N : Int)] wr fun e w2 => e = .returned (.tuple #[.string ⟨t.toArray⟩, .int .i64 0]) ∧ Hid (Below W.heap.size W w2 ∧ (convert 28 9 (.slice (some ⟨g, 0, none⟩) N N)).run Try.prog w2 = .ok (.string ⟨t.toArray⟩) w2)) := by
        obtain ⟨f, hm, hgr, hb⟩ := HR.out
        refine ⟨rowL f 0 N, ?_⟩
        refine (read_ok hm 0 N (by have := HN.out; omega)).mono ?_
        rintro e w2 ⟨rfl, ho⟩
        refine ⟨rfl, hb.trans (ho.below (Nat.le_of_lt (Nat.lt_of_le_of_lt hg (lt_of_some hgr))) (fun _ _ h => h)), ?_⟩
        have hl := length_rowL f 0 N
        have h := run_convert_bytes_back (P := Try.prog) w2 28 9 5 ⟨g, 0, none⟩ N (rowL f 0 N) Try.underlying28 Try.underlying5 Try.underlying9 (fun j hj => by
          have hadd : (⟨g, 0, none⟩ : Addr).add j = ⟨g, j, none⟩ := by unfold Addr.add; split <;> simp_all
          have hg2 : w2.heap[g]? = some (.cells (rowV f 0 (4096 * n)).toArray 5 (0, 0)) := by rw [ho.block g (lt_of_some hgr) (fun h => h)]; exact hgr
          rw [hadd, cell_of_row _ _ j _ _ (0, 0) hg2]
          rw [hl] at hj
          have h1 := get_rowV f 0 (4096 * n) j (by have := HN.out; omega)
          have h2 : (rowL f 0 N)[j] = f (0 + j) := by
            have := get_rowL f 0 N j hj
            rw [List.getElem?_eq_getElem (by rw [hl]; exact hj)] at this
            exact Option.some.inj this
          rw [h2]
          simpa [byteV] using h1)
        rw [hl] at h
        exact h
      obtain ⟨t, HT⟩ := HE.out
      have HTT := Vx.hid HT
      have hgo : (¬ (k : Int) < (len : Int)) ∨ ((k : Int) < (len : Int) ∧ ¬ (k : Int) < 262144) := by omega
      clear HE HT hlt
      rcases hgo with h1 | ⟨h1, h2⟩
      · go_wp2_with fail
        refine HTT.out.mono ?_
        rintro e w2 ⟨rfl, H2⟩
        have hcv := H2.out.2
        go_wp2_with fail
        all_goals
          go_ret
          exact ⟨rfl, H2.out.1⟩
      · go_wp2_with fail
        refine HTT.out.mono ?_
        rintro e w2 ⟨rfl, H2⟩
        have hcv := H2.out.2
        go_wp2_with fail
        all_goals
          go_ret
          exact ⟨rfl, H2.out.1⟩
end Go.Proofs.Ytdobocgijnmlhaa

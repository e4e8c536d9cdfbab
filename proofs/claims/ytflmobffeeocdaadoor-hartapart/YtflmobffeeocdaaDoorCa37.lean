import Derived.Test.YtflmobffeeocdaaDoorCa26
/- Walks of package hart: run (made by gen_e6.py). -/
namespace Go.Proofs.YtflmobffeeocdaaDoor
open Go.ChangeShapes Go.WideShapes Go.ChangeAt Go.RowKit
open Go.Vx

theorem m32_up (v : Int) : m32 (((m32 v : Nat) : Int) * 4096) = m32 (v * 4096) := by unfold m32; omega
theorem m32_add (a v : Int) : IntKind.u32.wrap (a + ((m32 v : Nat) : Int)) = (m32 (a + v) : Nat) := by rw [wrap_u32_m, m32_cast, m32_cast, m32_cast]; omega

set_option maxRecDepth 100000 in
set_option maxHeartbeats 2000000 in
theorem run_lui {U : Nat → Prop} {w : World} {bm n cb off pc : Nat} {T : TypeId} {cs : Array Value} {R : Nat → Nat} {f : Nat → UInt8} (h : MemAt U w bm n f) (hus : UsesAt w) (hmi : MisAt w) (hfo : FormsAt w) (hc : CxAt w cb off T cs R pc) (hu : U cb) (hpc : pc < 4294967296) (hR : ∀ i, i < 32 → R i < 4294967296) (root : Int) (p : Nat) (hp : placeF f n root pc 4 0 = .ok p) (op rd r1 r2 : Nat) (im : Int) (hi : InsIs (dec (wordF f p : Nat)) op rd r1 r2 im) (hop : op = 1) :
    Calls Tryd.prog 19 #[.agg #[.pointer (some ⟨bm, 0, none⟩), .int .i64 root, .pointer (some ⟨cb, off, none⟩)]] w fun e w' => RunP U w bm n cb off T cs (exeF f n root R pc op rd (regF R r1) (regF R r2) im) e w' := by
  have HFE : Hid (∀ wv, Only (fun _ => False) w wv → Calls Tryd.prog 30 #[.agg #[.pointer (some ⟨bm, 0, none⟩), .int .i64 root, .pointer (some ⟨cb, off, none⟩)]] wv fun e w' => e = .returned (.agg #[.int .i64 (op : Int), .int .i64 (rd : Int), .int .i64 (r1 : Int), .int .i64 (r2 : Int), .int .i64 im]) ∧ Hid (Only (fun _ => False) wv w')) := fun wv hv => by
    refine (fetch_good (h.only hv (fun _ h _ => h.elim)) (hus.only hv (fun h => h)) (hmi.only hv (fun h => h)) (hfo.only hv (fun h => h)) (hc.only hv (fun h => h)).ctx hpc root p hp).mono ?_
    rintro e w' ⟨⟨h0, _⟩ | ⟨_, rfl⟩, ho⟩
    · rw [hi.e] at h0
      have := hi.lo
      have h1 : (op : Int) = 0 := h0
      omega
    · rw [hi.e]
      exact ⟨rfl, ho⟩
  have HRE : Hid (∀ wv, Only (fun _ => False) w wv → ∀ r : Nat, r < 32 → Calls Tryd.prog 31 #[.agg #[.pointer (some ⟨bm, 0, none⟩), .int .i64 root, .pointer (some ⟨cb, off, none⟩)], .int .i64 (r : Int)] wv fun e w' => e = .returned (.int .u32 (regF R r : Nat)) ∧ Hid (Only (fun _ => False) wv w')) := fun wv hv r hr => register_any (hc.only hv (fun h => h)).ctx _ root r hr
  have HAB : Hid (regF R r1 < 4294967296 ∧ regF R r2 < 4294967296) := by
    constructor
    · unfold regF; split
      · decide
      · exact hR r1 hi.hr1
    · unfold regF; split
      · decide
      · exact hR r2 hi.hr2
  have HREG := Vx.hid (⟨hi.hr1, hi.hr2⟩ : r1 < 32 ∧ r2 < 32)
  have HINS := Vx.hid (⟨hi.lo, hi.hi, hi.hrd, hi.i0, hi.i1, hi.no⟩ : 1 ≤ op ∧ op ≤ 48 ∧ rd < 32 ∧ -1048576 ≤ im ∧ im ≤ 1048576 ∧ (((5 ≤ op ∧ op ≤ 10) ∨ (16 ≤ op ∧ op ≤ 18)) → rd = 0))
  have HMEM := Vx.hid (⟨h, hus, hmi, hc, hu⟩ : _ ∧ _ ∧ _ ∧ _ ∧ _)
  have HPC := Vx.hid (⟨hpc, place_mod hp⟩ : pc < 4294967296 ∧ pc % 4 = 0)
  have hwim : IntKind.u32.wrap im = (m32 im : Nat) := wrap_u32_m im
  have hnx : IntKind.u32.wrap ((pc : Int) + 4) = (m32 ((pc : Int) + 4) : Nat) := wrap_u32_m _
  have hcp := hc.ctx.p
  have hcl : cb < w.heap.size := lt_of_some hc.b
  have HOP := Vx.hid hop
  clear h hus hmi hfo hc hu hpc hR hp hi hop
  go_enter Tryd.func19, Tryd.ntmps19
  go_wp2_with fail
  have HO1 : Hid (Only (fun _ => False) w (w.alloc (.cells #[.pointer (some ⟨bm, 0, none⟩), .int .i64 root, .pointer (some ⟨cb, off, none⟩)] 61))) := (Only.refl _ w).alloc _
  refine (HFE.out _ HO1.out).mono ?_
  rintro e w2 ⟨rfl, h2⟩
  have hbk : w2.heap[w.heap.size]? = some (.cells #[.pointer (some ⟨bm, 0, none⟩), .int .i64 root, .pointer (some ⟨cb, off, none⟩)] 61 (0, 0)) := by
    rw [h2.out.block _ (by simp) (fun h => h)]; exact heap_alloc_last w _
  have HO2 := Vx.hid (HO1.out.trans h2.out)
  have g0 : w2.cell? ⟨w.heap.size, 0, none⟩ = some (.pointer (some ⟨bm, 0, none⟩)) := by rw [cell_of_row _ _ 0 _ _ (0, 0) hbk]; rfl
  have g1 : w2.cell? ⟨w.heap.size, 1, none⟩ = some (.int .i64 root) := by rw [cell_of_row _ _ 1 _ _ (0, 0) hbk]; rfl
  have g2 : w2.cell? ⟨w.heap.size, 2, none⟩ = some (.pointer (some ⟨cb, off, none⟩)) := by rw [cell_of_row _ _ 2 _ _ (0, 0) hbk]; rfl
  have g3 : w2.cell? ⟨cb, off + 32, none⟩ = some (.int .u32 (pc : Int)) := by rw [HO2.out.cell (p := ⟨cb, off + 32, none⟩) hcl (fun h => h)]; exact hcp
  have hgl : w.heap.size < w2.heap.size := lt_of_some hbk
  have hcl2 : cb < w2.heap.size := Nat.lt_of_lt_of_le hcl HO2.out.size
  obtain ⟨g, hg⟩ : ∃ g, g = w.heap.size := ⟨_, rfl⟩
  have HGW : Hid (w.heap.size ≤ g) := by show _ ≤ _; omega
  rw [← hg] at g0 g1 g2 hgl ⊢
  clear hbk HO1 h2 hcp hcl hg HFE
  go_wp2_with fail
  obtain ⟨W6, hW6⟩ : ∃ W6, W6 = w2.alloc (.cells #[.int .i64 (op : Int), .int .i64 (rd : Int), .int .i64 (r1 : Int), .int .i64 (r2 : Int), .int .i64 im] 66) := ⟨_, rfl⟩
  have hO6 : Only (fun _ => False) w2 W6 := by rw [hW6]; exact (Only.refl _ w2).alloc _
  have hik : W6.heap[w2.heap.size]? = some (.cells #[.int .i64 (op : Int), .int .i64 (rd : Int), .int .i64 (r1 : Int), .int .i64 (r2 : Int), .int .i64 im] 66 (0, 0)) := by rw [hW6]; exact heap_alloc_last w2 _
  rw [← hW6]
  have HI2 : Hid (w2.heap.size < W6.heap.size) := lt_of_some hik
  have hgl6 : g < W6.heap.size := Nat.lt_of_lt_of_le hgl hO6.size
  have hcl6 : cb < W6.heap.size := Nat.lt_of_lt_of_le hcl2 hO6.size
  obtain ⟨gi, hgi⟩ : ∃ gi, gi = w2.heap.size := ⟨_, rfl⟩
  have HGI : Hid (w.heap.size ≤ gi) := by show _ ≤ _; rw [hgi]; exact HO2.out.size
  rw [← hgi] at hik HI2 ⊢
  have HS : Hid (∀ wv, Only (fun k => k ≠ g ∧ k ≠ gi ∧ k ≠ cb) W6 wv → wv.cell? ⟨g, 0, none⟩ = some (.pointer (some ⟨bm, 0, none⟩)) ∧ wv.cell? ⟨g, 1, none⟩ = some (.int .i64 root) ∧ wv.cell? ⟨g, 2, none⟩ = some (.pointer (some ⟨cb, off, none⟩)) ∧ wv.cell? ⟨gi, 0, none⟩ = some (.int .i64 (op : Int)) ∧ wv.cell? ⟨gi, 1, none⟩ = some (.int .i64 (rd : Int)) ∧ wv.cell? ⟨gi, 2, none⟩ = some (.int .i64 (r1 : Int)) ∧ wv.cell? ⟨gi, 3, none⟩ = some (.int .i64 (r2 : Int)) ∧ wv.cell? ⟨gi, 4, none⟩ = some (.int .i64 im)) := fun wv hv => by
    have i0 : ∀ j, wv.cell? ⟨gi, j, none⟩ = (#[.int .i64 (op : Int), .int .i64 (rd : Int), .int .i64 (r1 : Int), .int .i64 (r2 : Int), .int .i64 im] : Array Value)[j]? := fun j => by
      rw [hv.cell (p := ⟨gi, j, none⟩) HI2.out (fun h => h.2.1 rfl), cell_of_row _ _ j _ _ (0, 0) hik]
    refine ⟨?_, ?_, ?_, by rw [i0]; rfl, by rw [i0]; rfl, by rw [i0]; rfl, by rw [i0]; rfl, by rw [i0]; rfl⟩
    · rw [hv.cell (p := ⟨g, 0, none⟩) hgl6 (fun h => h.1 rfl), hO6.cell (p := ⟨g, 0, none⟩) hgl (fun h => h)]; exact g0
    · rw [hv.cell (p := ⟨g, 1, none⟩) hgl6 (fun h => h.1 rfl), hO6.cell (p := ⟨g, 1, none⟩) hgl (fun h => h)]; exact g1
    · rw [hv.cell (p := ⟨g, 2, none⟩) hgl6 (fun h => h.1 rfl), hO6.cell (p := ⟨g, 2, none⟩) hgl (fun h => h)]; exact g2
  have HO6 := Vx.hid (HO2.out.trans hO6)
  have HFQ : Hid (∀ wv, Only (fun _ => False) W6 wv → Only (fun k => k ≠ g ∧ k ≠ gi ∧ k ≠ cb) W6 wv) := fun wv hv => hv.mono (fun _ _ h => h.elim)
  have HK : Hid (Only (fun _ => False) W6 W6.drew) := (Only.refl _ W6).drew
  have HRR : Hid (∀ wv, Only (fun _ => False) W6 wv → ∀ z : Int, (z = (r1 : Int) ∨ z = (r2 : Int)) → Calls Tryd.prog 31 #[.agg #[.pointer (some ⟨bm, 0, none⟩), .int .i64 root, .pointer (some ⟨cb, off, none⟩)], .int .i64 z] wv fun e w' => e = .returned (.int .u32 (regF R z.toNat : Nat)) ∧ Hid (Only (fun _ => False) W6 w')) := fun wv hv z hz => by
    have hz2 : ∃ r : Nat, z = (r : Int) ∧ r < 32 := by
      rcases hz with rfl | rfl
      · exact ⟨r1, rfl, HREG.out.1⟩
      · exact ⟨r2, rfl, HREG.out.2⟩
    obtain ⟨r, rfl, hr⟩ := hz2
    rw [Int.toNat_natCast]
    refine (HRE.out wv (HO6.out.trans hv) r hr).mono ?_
    rintro e w' ⟨rfl, h5⟩
    exact ⟨rfl, hv.trans h5.out⟩
  have HGN : Hid (g ≠ gi) := by have := hgl; show g ≠ gi; omega
  have HLT : Hid (g < W6.heap.size ∧ gi < W6.heap.size ∧ cb < W6.heap.size) := ⟨hgl6, HI2.out, hcl6⟩
  clear g0 g1 g2 g3 hgl hcl2 HO2 hW6 hO6 hik hgl6 hcl6 hgi HRE
  go_region_held3 (fun wv => Hid (Only (fun _ => False) W6 wv) ∧ wv.cell? ⟨g, 0, none⟩ = some (.pointer (some ⟨bm, 0, none⟩)) ∧ wv.cell? ⟨g, 1, none⟩ = some (.int .i64 root) ∧ wv.cell? ⟨g, 2, none⟩ = some (.pointer (some ⟨cb, off, none⟩)) ∧ wv.cell? ⟨gi, 0, none⟩ = some (.int .i64 (op : Int)) ∧ wv.cell? ⟨gi, 1, none⟩ = some (.int .i64 (rd : Int)) ∧ wv.cell? ⟨gi, 2, none⟩ = some (.int .i64 (r1 : Int)) ∧ wv.cell? ⟨gi, 3, none⟩ = some (.int .i64 (r2 : Int)) ∧ wv.cell? ⟨gi, 4, none⟩ = some (.int .i64 im)) (first | exact ⟨HK.out, HS.out _ (HFQ.out _ HK.out)⟩ | exact ⟨h6, HS.out _ (HFQ.out _ h6.out)⟩ | exact ⟨h5, HS.out _ (HFQ.out _ h5.out)⟩) (first | (go_at_call 31; refine (HRR.out _ h5.out _ ?_).mono ?_; (first | exact Or.inl rfl | exact Or.inr rfl); rintro e w6 ⟨rfl, h6⟩) | (go_at_call 31; refine (HRR.out _ HK.out _ ?_).mono ?_; (first | exact Or.inl rfl | exact Or.inr rfl); rintro e w5 ⟨rfl, h5⟩))
  have hop := HOP.out
  have HM7 := Vx.hid (HMEM.out.1.only (HO6.out.trans h6.out) (fun _ h _ => h.elim))
  have HC7 := Vx.hid (HMEM.out.2.2.2.1.only (HO6.out.trans h6.out) (fun h => h))
  have HU := Vx.hid HMEM.out.2.2.2.2
  have HN7 : Hid (Only (fun k => ¬ U k) w w6) := (HO6.out.trans h6.out).mono (fun _ _ h => h.elim)
  have hcr : w6.cell? ⟨cb, off + rd, none⟩ = some (.int .u32 (R rd : Nat)) := HC7.out.ctx.r rd HINS.out.2.2.1
  have hcp : w6.cell? ⟨cb, off + 32, none⟩ = some (.int .u32 (pc : Int)) := HC7.out.ctx.p
  have hfr := HC7.out.fz (off + rd)
  have hfp := HC7.out.fz (off + 32)
  have hcp2 : ∀ v, (w6.setCell ⟨cb, off + rd, none⟩ v).cell? ⟨cb, off + 32, none⟩ = some (.int .u32 (pc : Int)) := fun v => by
    rw [World.cell?_setCell_other _ _ _ _ (by intro e; injection e with _ e2; have := HINS.out.2.2.1; omega)]; exact hcp
  have hg2 : ∀ v, (w6.setCell ⟨cb, off + rd, none⟩ v).cell? ⟨g, 2, none⟩ = some (.pointer (some ⟨cb, off, none⟩)) := fun v => by
    rw [World.cell?_setCell_other _ _ _ _ (by intro e; injection e with e2; have := HGW.out; have := lt_of_some HMEM.out.2.2.2.1.b; omega)]; exact (HS.out _ (HFQ.out _ h6.out)).2.2.1
  have hcb6 : cb < w6.heap.size := World.block_lt_of_cell? w6 _ hcp
  have hidx : 0 ≤ (rd : Int) ∧ (rd : Int) < 32 := by have := HINS.out.2.2.1; omega
  have HEX : Hid (exeF f n root R pc op rd (regF R r1) (regF R r2) im = .ok (f, Vx.setR R rd (m32 (im * 4096)), m32 ((pc : Int) + 4))) := by
    show _ = _
    rw [hop]; exact exe_lui HPC.out.2
  have hwa : IntKind.u32.wrap ((pc : Int) + ((m32 (im * 4096) : Nat) : Int)) = (m32 ((pc : Int) + im * 4096) : Nat) := m32_add _ _
  have HUP : Hid (∀ wv, Calls Tryd.prog 32 #[.int .u32 (m32 im : Nat)] wv fun e w' => e = .returned (.int .u32 (m32 (im * 4096) : Nat)) ∧ w' = wv) := fun wv => by
    have h := upper_any (m32 im : Nat) wv
    rw [m32_up] at h
    exact h
  have e1 : ((op : Int) == 1) = true := by rw [beq_iff_eq]; omega
  clear HS HFQ HK HRR h5 h6 HMEM HREG HO6 HGN HLT HGI HGW HI2
  clear hop
  by_cases hrd : rd = 0
  · subst hrd
    have HFI : Hid (RunP U w bm n cb off T cs (exeF f n root R pc op 0 (regF R r1) (regF R r2) im) (.returned (.tuple #[])) (w6.setCell ⟨cb, off + 32, none⟩ (.int .u32 (m32 ((pc : Int) + 4) : Nat)))) := run_pc HU.out HM7.out HC7.out HN7.out _ _ (by rw [HEX.out, setR_zero])
    clear HEX HM7 HC7 HU HN7 HINS HAB HPC
    go_wp2_with fail
    refine (HUP.out _).mono ?_
    rintro e w' ⟨rfl, h⟩
    have h2 := h.symm; clear h; subst h2
    go_wp2_with fail
    all_goals
      first | go_end0 | refine bodyPost_ret (results_none rfl _ _ _) rfl ?_
      exact HFI.out
  · have hrb : ((rd : Int) != 0) = true := by simp; omega
    have hrb2 : ¬ (rd : Int) = 0 := by omega
    have HFI : Hid (RunP U w bm n cb off T cs (exeF f n root R pc op rd (regF R r1) (regF R r2) im) (.returned (.tuple #[])) ((w6.setCell ⟨cb, off + rd, none⟩ (.int .u32 (m32 (im * 4096) : Nat))).setCell ⟨cb, off + 32, none⟩ (.int .u32 (m32 ((pc : Int) + 4) : Nat)))) := run_rd HU.out HM7.out HC7.out HN7.out rd _ _ HINS.out.2.2.1 hrd _ HEX.out
    clear HEX HM7 HC7 HU HN7 HINS HAB HPC hrd
    go_wp2_with fail
    refine (HUP.out _).mono ?_
    rintro e w' ⟨rfl, h⟩
    have h2 := h.symm; clear h; subst h2
    go_wp2_with fail
    all_goals
      first | go_end0 | refine bodyPost_ret (results_none rfl _ _ _) rfl ?_
      exact HFI.out

set_option maxRecDepth 100000 in
set_option maxHeartbeats 2000000 in
theorem run_auipc {U : Nat → Prop} {w : World} {bm n cb off pc : Nat} {T : TypeId} {cs : Array Value} {R : Nat → Nat} {f : Nat → UInt8} (h : MemAt U w bm n f) (hus : UsesAt w) (hmi : MisAt w) (hfo : FormsAt w) (hc : CxAt w cb off T cs R pc) (hu : U cb) (hpc : pc < 4294967296) (hR : ∀ i, i < 32 → R i < 4294967296) (root : Int) (p : Nat) (hp : placeF f n root pc 4 0 = .ok p) (op rd r1 r2 : Nat) (im : Int) (hi : InsIs (dec (wordF f p : Nat)) op rd r1 r2 im) (hop : op = 2) :
    Calls Tryd.prog 19 #[.agg #[.pointer (some ⟨bm, 0, none⟩), .int .i64 root, .pointer (some ⟨cb, off, none⟩)]] w fun e w' => RunP U w bm n cb off T cs (exeF f n root R pc op rd (regF R r1) (regF R r2) im) e w' := by
  have HFE : Hid (∀ wv, Only (fun _ => False) w wv → Calls Tryd.prog 30 #[.agg #[.pointer (some ⟨bm, 0, none⟩), .int .i64 root, .pointer (some ⟨cb, off, none⟩)]] wv fun e w' => e = .returned (.agg #[.int .i64 (op : Int), .int .i64 (rd : Int), .int .i64 (r1 : Int), .int .i64 (r2 : Int), .int .i64 im]) ∧ Hid (Only (fun _ => False) wv w')) := fun wv hv => by
    refine (fetch_good (h.only hv (fun _ h _ => h.elim)) (hus.only hv (fun h => h)) (hmi.only hv (fun h => h)) (hfo.only hv (fun h => h)) (hc.only hv (fun h => h)).ctx hpc root p hp).mono ?_
    rintro e w' ⟨⟨h0, _⟩ | ⟨_, rfl⟩, ho⟩
    · rw [hi.e] at h0
      have := hi.lo
      have h1 : (op : Int) = 0 := h0
      omega
    · rw [hi.e]
      exact ⟨rfl, ho⟩
  have HRE : Hid (∀ wv, Only (fun _ => False) w wv → ∀ r : Nat, r < 32 → Calls Tryd.prog 31 #[.agg #[.pointer (some ⟨bm, 0, none⟩), .int .i64 root, .pointer (some ⟨cb, off, none⟩)], .int .i64 (r : Int)] wv fun e w' => e = .returned (.int .u32 (regF R r : Nat)) ∧ Hid (Only (fun _ => False) wv w')) := fun wv hv r hr => register_any (hc.only hv (fun h => h)).ctx _ root r hr
  have HAB : Hid (regF R r1 < 4294967296 ∧ regF R r2 < 4294967296) := by
    constructor
    · unfold regF; split
      · decide
      · exact hR r1 hi.hr1
    · unfold regF; split
      · decide
      · exact hR r2 hi.hr2
  have HREG := Vx.hid (⟨hi.hr1, hi.hr2⟩ : r1 < 32 ∧ r2 < 32)
  have HINS := Vx.hid (⟨hi.lo, hi.hi, hi.hrd, hi.i0, hi.i1, hi.no⟩ : 1 ≤ op ∧ op ≤ 48 ∧ rd < 32 ∧ -1048576 ≤ im ∧ im ≤ 1048576 ∧ (((5 ≤ op ∧ op ≤ 10) ∨ (16 ≤ op ∧ op ≤ 18)) → rd = 0))
  have HMEM := Vx.hid (⟨h, hus, hmi, hc, hu⟩ : _ ∧ _ ∧ _ ∧ _ ∧ _)
  have HPC := Vx.hid (⟨hpc, place_mod hp⟩ : pc < 4294967296 ∧ pc % 4 = 0)
  have hwim : IntKind.u32.wrap im = (m32 im : Nat) := wrap_u32_m im
  have hnx : IntKind.u32.wrap ((pc : Int) + 4) = (m32 ((pc : Int) + 4) : Nat) := wrap_u32_m _
  have hcp := hc.ctx.p
  have hcl : cb < w.heap.size := lt_of_some hc.b
  have HOP := Vx.hid hop
  clear h hus hmi hfo hc hu hpc hR hp hi hop
  go_enter Tryd.func19, Tryd.ntmps19
  go_wp2_with fail
  have HO1 : Hid (Only (fun _ => False) w (w.alloc (.cells #[.pointer (some ⟨bm, 0, none⟩), .int .i64 root, .pointer (some ⟨cb, off, none⟩)] 61))) := (Only.refl _ w).alloc _
  refine (HFE.out _ HO1.out).mono ?_
  rintro e w2 ⟨rfl, h2⟩
  have hbk : w2.heap[w.heap.size]? = some (.cells #[.pointer (some ⟨bm, 0, none⟩), .int .i64 root, .pointer (some ⟨cb, off, none⟩)] 61 (0, 0)) := by
    rw [h2.out.block _ (by simp) (fun h => h)]; exact heap_alloc_last w _
  have HO2 := Vx.hid (HO1.out.trans h2.out)
  have g0 : w2.cell? ⟨w.heap.size, 0, none⟩ = some (.pointer (some ⟨bm, 0, none⟩)) := by rw [cell_of_row _ _ 0 _ _ (0, 0) hbk]; rfl
  have g1 : w2.cell? ⟨w.heap.size, 1, none⟩ = some (.int .i64 root) := by rw [cell_of_row _ _ 1 _ _ (0, 0) hbk]; rfl
  have g2 : w2.cell? ⟨w.heap.size, 2, none⟩ = some (.pointer (some ⟨cb, off, none⟩)) := by rw [cell_of_row _ _ 2 _ _ (0, 0) hbk]; rfl
  have g3 : w2.cell? ⟨cb, off + 32, none⟩ = some (.int .u32 (pc : Int)) := by rw [HO2.out.cell (p := ⟨cb, off + 32, none⟩) hcl (fun h => h)]; exact hcp
  have hgl : w.heap.size < w2.heap.size := lt_of_some hbk
  have hcl2 : cb < w2.heap.size := Nat.lt_of_lt_of_le hcl HO2.out.size
  obtain ⟨g, hg⟩ : ∃ g, g = w.heap.size := ⟨_, rfl⟩
  have HGW : Hid (w.heap.size ≤ g) := by show _ ≤ _; omega
  rw [← hg] at g0 g1 g2 hgl ⊢
  clear hbk HO1 h2 hcp hcl hg HFE
  go_wp2_with fail
  obtain ⟨W6, hW6⟩ : ∃ W6, W6 = w2.alloc (.cells #[.int .i64 (op : Int), .int .i64 (rd : Int), .int .i64 (r1 : Int), .int .i64 (r2 : Int), .int .i64 im] 66) := ⟨_, rfl⟩
  have hO6 : Only (fun _ => False) w2 W6 := by rw [hW6]; exact (Only.refl _ w2).alloc _
  have hik : W6.heap[w2.heap.size]? = some (.cells #[.int .i64 (op : Int), .int .i64 (rd : Int), .int .i64 (r1 : Int), .int .i64 (r2 : Int), .int .i64 im] 66 (0, 0)) := by rw [hW6]; exact heap_alloc_last w2 _
  rw [← hW6]
  have HI2 : Hid (w2.heap.size < W6.heap.size) := lt_of_some hik
  have hgl6 : g < W6.heap.size := Nat.lt_of_lt_of_le hgl hO6.size
  have hcl6 : cb < W6.heap.size := Nat.lt_of_lt_of_le hcl2 hO6.size
  obtain ⟨gi, hgi⟩ : ∃ gi, gi = w2.heap.size := ⟨_, rfl⟩
  have HGI : Hid (w.heap.size ≤ gi) := by show _ ≤ _; rw [hgi]; exact HO2.out.size
  rw [← hgi] at hik HI2 ⊢
  have HS : Hid (∀ wv, Only (fun k => k ≠ g ∧ k ≠ gi ∧ k ≠ cb) W6 wv → wv.cell? ⟨g, 0, none⟩ = some (.pointer (some ⟨bm, 0, none⟩)) ∧ wv.cell? ⟨g, 1, none⟩ = some (.int .i64 root) ∧ wv.cell? ⟨g, 2, none⟩ = some (.pointer (some ⟨cb, off, none⟩)) ∧ wv.cell? ⟨gi, 0, none⟩ = some (.int .i64 (op : Int)) ∧ wv.cell? ⟨gi, 1, none⟩ = some (.int .i64 (rd : Int)) ∧ wv.cell? ⟨gi, 2, none⟩ = some (.int .i64 (r1 : Int)) ∧ wv.cell? ⟨gi, 3, none⟩ = some (.int .i64 (r2 : Int)) ∧ wv.cell? ⟨gi, 4, none⟩ = some (.int .i64 im)) := fun wv hv => by
    have i0 : ∀ j, wv.cell? ⟨gi, j, none⟩ = (#[.int .i64 (op : Int), .int .i64 (rd : Int), .int .i64 (r1 : Int), .int .i64 (r2 : Int), .int .i64 im] : Array Value)[j]? := fun j => by
      rw [hv.cell (p := ⟨gi, j, none⟩) HI2.out (fun h => h.2.1 rfl), cell_of_row _ _ j _ _ (0, 0) hik]
    refine ⟨?_, ?_, ?_, by rw [i0]; rfl, by rw [i0]; rfl, by rw [i0]; rfl, by rw [i0]; rfl, by rw [i0]; rfl⟩
    · rw [hv.cell (p := ⟨g, 0, none⟩) hgl6 (fun h => h.1 rfl), hO6.cell (p := ⟨g, 0, none⟩) hgl (fun h => h)]; exact g0
    · rw [hv.cell (p := ⟨g, 1, none⟩) hgl6 (fun h => h.1 rfl), hO6.cell (p := ⟨g, 1, none⟩) hgl (fun h => h)]; exact g1
    · rw [hv.cell (p := ⟨g, 2, none⟩) hgl6 (fun h => h.1 rfl), hO6.cell (p := ⟨g, 2, none⟩) hgl (fun h => h)]; exact g2
  have HO6 := Vx.hid (HO2.out.trans hO6)
  have HFQ : Hid (∀ wv, Only (fun _ => False) W6 wv → Only (fun k => k ≠ g ∧ k ≠ gi ∧ k ≠ cb) W6 wv) := fun wv hv => hv.mono (fun _ _ h => h.elim)
  have HK : Hid (Only (fun _ => False) W6 W6.drew) := (Only.refl _ W6).drew
  have HRR : Hid (∀ wv, Only (fun _ => False) W6 wv → ∀ z : Int, (z = (r1 : Int) ∨ z = (r2 : Int)) → Calls Tryd.prog 31 #[.agg #[.pointer (some ⟨bm, 0, none⟩), .int .i64 root, .pointer (some ⟨cb, off, none⟩)], .int .i64 z] wv fun e w' => e = .returned (.int .u32 (regF R z.toNat : Nat)) ∧ Hid (Only (fun _ => False) W6 w')) := fun wv hv z hz => by
    have hz2 : ∃ r : Nat, z = (r : Int) ∧ r < 32 := by
      rcases hz with rfl | rfl
      · exact ⟨r1, rfl, HREG.out.1⟩
      · exact ⟨r2, rfl, HREG.out.2⟩
    obtain ⟨r, rfl, hr⟩ := hz2
    rw [Int.toNat_natCast]
    refine (HRE.out wv (HO6.out.trans hv) r hr).mono ?_
    rintro e w' ⟨rfl, h5⟩
    exact ⟨rfl, hv.trans h5.out⟩
  have HGN : Hid (g ≠ gi) := by have := hgl; show g ≠ gi; omega
  have HLT : Hid (g < W6.heap.size ∧ gi < W6.heap.size ∧ cb < W6.heap.size) := ⟨hgl6, HI2.out, hcl6⟩
  clear g0 g1 g2 g3 hgl hcl2 HO2 hW6 hO6 hik hgl6 hcl6 hgi HRE
  go_region_held3 (fun wv => Hid (Only (fun _ => False) W6 wv) ∧ wv.cell? ⟨g, 0, none⟩ = some (.pointer (some ⟨bm, 0, none⟩)) ∧ wv.cell? ⟨g, 1, none⟩ = some (.int .i64 root) ∧ wv.cell? ⟨g, 2, none⟩ = some (.pointer (some ⟨cb, off, none⟩)) ∧ wv.cell? ⟨gi, 0, none⟩ = some (.int .i64 (op : Int)) ∧ wv.cell? ⟨gi, 1, none⟩ = some (.int .i64 (rd : Int)) ∧ wv.cell? ⟨gi, 2, none⟩ = some (.int .i64 (r1 : Int)) ∧ wv.cell? ⟨gi, 3, none⟩ = some (.int .i64 (r2 : Int)) ∧ wv.cell? ⟨gi, 4, none⟩ = some (.int .i64 im)) (first | exact ⟨HK.out, HS.out _ (HFQ.out _ HK.out)⟩ | exact ⟨h6, HS.out _ (HFQ.out _ h6.out)⟩ | exact ⟨h5, HS.out _ (HFQ.out _ h5.out)⟩) (first | (go_at_call 31; refine (HRR.out _ h5.out _ ?_).mono ?_; (first | exact Or.inl rfl | exact Or.inr rfl); rintro e w6 ⟨rfl, h6⟩) | (go_at_call 31; refine (HRR.out _ HK.out _ ?_).mono ?_; (first | exact Or.inl rfl | exact Or.inr rfl); rintro e w5 ⟨rfl, h5⟩))
  have hop := HOP.out
  have HM7 := Vx.hid (HMEM.out.1.only (HO6.out.trans h6.out) (fun _ h _ => h.elim))
  have HC7 := Vx.hid (HMEM.out.2.2.2.1.only (HO6.out.trans h6.out) (fun h => h))
  have HU := Vx.hid HMEM.out.2.2.2.2
  have HN7 : Hid (Only (fun k => ¬ U k) w w6) := (HO6.out.trans h6.out).mono (fun _ _ h => h.elim)
  have hcr : w6.cell? ⟨cb, off + rd, none⟩ = some (.int .u32 (R rd : Nat)) := HC7.out.ctx.r rd HINS.out.2.2.1
  have hcp : w6.cell? ⟨cb, off + 32, none⟩ = some (.int .u32 (pc : Int)) := HC7.out.ctx.p
  have hfr := HC7.out.fz (off + rd)
  have hfp := HC7.out.fz (off + 32)
  have hcp2 : ∀ v, (w6.setCell ⟨cb, off + rd, none⟩ v).cell? ⟨cb, off + 32, none⟩ = some (.int .u32 (pc : Int)) := fun v => by
    rw [World.cell?_setCell_other _ _ _ _ (by intro e; injection e with _ e2; have := HINS.out.2.2.1; omega)]; exact hcp
  have hg2 : ∀ v, (w6.setCell ⟨cb, off + rd, none⟩ v).cell? ⟨g, 2, none⟩ = some (.pointer (some ⟨cb, off, none⟩)) := fun v => by
    rw [World.cell?_setCell_other _ _ _ _ (by intro e; injection e with e2; have := HGW.out; have := lt_of_some HMEM.out.2.2.2.1.b; omega)]; exact (HS.out _ (HFQ.out _ h6.out)).2.2.1
  have hcb6 : cb < w6.heap.size := World.block_lt_of_cell? w6 _ hcp
  have hidx : 0 ≤ (rd : Int) ∧ (rd : Int) < 32 := by have := HINS.out.2.2.1; omega
  have HEX : Hid (exeF f n root R pc op rd (regF R r1) (regF R r2) im = .ok (f, Vx.setR R rd (m32 ((pc : Int) + im * 4096)), m32 ((pc : Int) + 4))) := by
    show _ = _
    rw [hop]; exact exe_auipc HPC.out.2
  have hwa : IntKind.u32.wrap ((pc : Int) + ((m32 (im * 4096) : Nat) : Int)) = (m32 ((pc : Int) + im * 4096) : Nat) := m32_add _ _
  have HUP : Hid (∀ wv, Calls Tryd.prog 32 #[.int .u32 (m32 im : Nat)] wv fun e w' => e = .returned (.int .u32 (m32 (im * 4096) : Nat)) ∧ w' = wv) := fun wv => by
    have h := upper_any (m32 im : Nat) wv
    rw [m32_up] at h
    exact h
  have e1 : ((op : Int) == 1) = false := by rw [beq_eq_false_iff_ne]; omega
  have e2 : ((op : Int) == 2) = true := by rw [beq_iff_eq]; omega
  clear HS HFQ HK HRR h5 h6 HMEM HREG HO6 HGN HLT HGI HGW HI2
  clear hop
  by_cases hrd : rd = 0
  · subst hrd
    have HFI : Hid (RunP U w bm n cb off T cs (exeF f n root R pc op 0 (regF R r1) (regF R r2) im) (.returned (.tuple #[])) (w6.setCell ⟨cb, off + 32, none⟩ (.int .u32 (m32 ((pc : Int) + 4) : Nat)))) := run_pc HU.out HM7.out HC7.out HN7.out _ _ (by rw [HEX.out, setR_zero])
    clear HEX HM7 HC7 HU HN7 HINS HAB HPC
    go_wp2_with fail
    refine (HUP.out _).mono ?_
    rintro e w' ⟨rfl, h⟩
    have h2 := h.symm; clear h; subst h2
    go_wp2_with fail
    all_goals
      first | go_end0 | refine bodyPost_ret (results_none rfl _ _ _) rfl ?_
      exact HFI.out
  · have hrb : ((rd : Int) != 0) = true := by simp; omega
    have hrb2 : ¬ (rd : Int) = 0 := by omega
    have HFI : Hid (RunP U w bm n cb off T cs (exeF f n root R pc op rd (regF R r1) (regF R r2) im) (.returned (.tuple #[])) ((w6.setCell ⟨cb, off + rd, none⟩ (.int .u32 (m32 ((pc : Int) + im * 4096) : Nat))).setCell ⟨cb, off + 32, none⟩ (.int .u32 (m32 ((pc : Int) + 4) : Nat)))) := run_rd HU.out HM7.out HC7.out HN7.out rd _ _ HINS.out.2.2.1 hrd _ HEX.out
    clear HEX HM7 HC7 HU HN7 HINS HAB HPC hrd
    go_wp2_with fail
    refine (HUP.out _).mono ?_
    rintro e w' ⟨rfl, h⟩
    have h2 := h.symm; clear h; subst h2
    go_wp2_with fail
    all_goals
      first | go_end0 | refine bodyPost_ret (results_none rfl _ _ _) rfl ?_
      exact HFI.out

set_option maxRecDepth 100000 in
set_option maxHeartbeats 2000000 in
theorem run_fence {U : Nat → Prop} {w : World} {bm n cb off pc : Nat} {T : TypeId} {cs : Array Value} {R : Nat → Nat} {f : Nat → UInt8} (h : MemAt U w bm n f) (hus : UsesAt w) (hmi : MisAt w) (hfo : FormsAt w) (hc : CxAt w cb off T cs R pc) (hu : U cb) (hpc : pc < 4294967296) (hR : ∀ i, i < 32 → R i < 4294967296) (root : Int) (p : Nat) (hp : placeF f n root pc 4 0 = .ok p) (op rd r1 r2 : Nat) (im : Int) (hi : InsIs (dec (wordF f p : Nat)) op rd r1 r2 im) (hop : op = 38) :
    Calls Tryd.prog 19 #[.agg #[.pointer (some ⟨bm, 0, none⟩), .int .i64 root, .pointer (some ⟨cb, off, none⟩)]] w fun e w' => RunP U w bm n cb off T cs (exeF f n root R pc op rd (regF R r1) (regF R r2) im) e w' := by
  have HFE : Hid (∀ wv, Only (fun _ => False) w wv → Calls Tryd.prog 30 #[.agg #[.pointer (some ⟨bm, 0, none⟩), .int .i64 root, .pointer (some ⟨cb, off, none⟩)]] wv fun e w' => e = .returned (.agg #[.int .i64 (op : Int), .int .i64 (rd : Int), .int .i64 (r1 : Int), .int .i64 (r2 : Int), .int .i64 im]) ∧ Hid (Only (fun _ => False) wv w')) := fun wv hv => by
    refine (fetch_good (h.only hv (fun _ h _ => h.elim)) (hus.only hv (fun h => h)) (hmi.only hv (fun h => h)) (hfo.only hv (fun h => h)) (hc.only hv (fun h => h)).ctx hpc root p hp).mono ?_
    rintro e w' ⟨⟨h0, _⟩ | ⟨_, rfl⟩, ho⟩
    · rw [hi.e] at h0
      have := hi.lo
      have h1 : (op : Int) = 0 := h0
      omega
    · rw [hi.e]
      exact ⟨rfl, ho⟩
  have HRE : Hid (∀ wv, Only (fun _ => False) w wv → ∀ r : Nat, r < 32 → Calls Tryd.prog 31 #[.agg #[.pointer (some ⟨bm, 0, none⟩), .int .i64 root, .pointer (some ⟨cb, off, none⟩)], .int .i64 (r : Int)] wv fun e w' => e = .returned (.int .u32 (regF R r : Nat)) ∧ Hid (Only (fun _ => False) wv w')) := fun wv hv r hr => register_any (hc.only hv (fun h => h)).ctx _ root r hr
  have HAB : Hid (regF R r1 < 4294967296 ∧ regF R r2 < 4294967296) := by
    constructor
    · unfold regF; split
      · decide
      · exact hR r1 hi.hr1
    · unfold regF; split
      · decide
      · exact hR r2 hi.hr2
  have HREG := Vx.hid (⟨hi.hr1, hi.hr2⟩ : r1 < 32 ∧ r2 < 32)
  have HINS := Vx.hid (⟨hi.lo, hi.hi, hi.hrd, hi.i0, hi.i1, hi.no⟩ : 1 ≤ op ∧ op ≤ 48 ∧ rd < 32 ∧ -1048576 ≤ im ∧ im ≤ 1048576 ∧ (((5 ≤ op ∧ op ≤ 10) ∨ (16 ≤ op ∧ op ≤ 18)) → rd = 0))
  have HMEM := Vx.hid (⟨h, hus, hmi, hc, hu⟩ : _ ∧ _ ∧ _ ∧ _ ∧ _)
  have HPC := Vx.hid (⟨hpc, place_mod hp⟩ : pc < 4294967296 ∧ pc % 4 = 0)
  have hwim : IntKind.u32.wrap im = (m32 im : Nat) := wrap_u32_m im
  have hnx : IntKind.u32.wrap ((pc : Int) + 4) = (m32 ((pc : Int) + 4) : Nat) := wrap_u32_m _
  have hcp := hc.ctx.p
  have hcl : cb < w.heap.size := lt_of_some hc.b
  have HOP := Vx.hid hop
  clear h hus hmi hfo hc hu hpc hR hp hi hop
  go_enter Tryd.func19, Tryd.ntmps19
  go_wp2_with fail
  have HO1 : Hid (Only (fun _ => False) w (w.alloc (.cells #[.pointer (some ⟨bm, 0, none⟩), .int .i64 root, .pointer (some ⟨cb, off, none⟩)] 61))) := (Only.refl _ w).alloc _
  refine (HFE.out _ HO1.out).mono ?_
  rintro e w2 ⟨rfl, h2⟩
  have hbk : w2.heap[w.heap.size]? = some (.cells #[.pointer (some ⟨bm, 0, none⟩), .int .i64 root, .pointer (some ⟨cb, off, none⟩)] 61 (0, 0)) := by
    rw [h2.out.block _ (by simp) (fun h => h)]; exact heap_alloc_last w _
  have HO2 := Vx.hid (HO1.out.trans h2.out)
  have g0 : w2.cell? ⟨w.heap.size, 0, none⟩ = some (.pointer (some ⟨bm, 0, none⟩)) := by rw [cell_of_row _ _ 0 _ _ (0, 0) hbk]; rfl
  have g1 : w2.cell? ⟨w.heap.size, 1, none⟩ = some (.int .i64 root) := by rw [cell_of_row _ _ 1 _ _ (0, 0) hbk]; rfl
  have g2 : w2.cell? ⟨w.heap.size, 2, none⟩ = some (.pointer (some ⟨cb, off, none⟩)) := by rw [cell_of_row _ _ 2 _ _ (0, 0) hbk]; rfl
  have g3 : w2.cell? ⟨cb, off + 32, none⟩ = some (.int .u32 (pc : Int)) := by rw [HO2.out.cell (p := ⟨cb, off + 32, none⟩) hcl (fun h => h)]; exact hcp
  have hgl : w.heap.size < w2.heap.size := lt_of_some hbk
  have hcl2 : cb < w2.heap.size := Nat.lt_of_lt_of_le hcl HO2.out.size
  obtain ⟨g, hg⟩ : ∃ g, g = w.heap.size := ⟨_, rfl⟩
  have HGW : Hid (w.heap.size ≤ g) := by show _ ≤ _; omega
  rw [← hg] at g0 g1 g2 hgl ⊢
  clear hbk HO1 h2 hcp hcl hg HFE
  go_wp2_with fail
  obtain ⟨W6, hW6⟩ : ∃ W6, W6 = w2.alloc (.cells #[.int .i64 (op : Int), .int .i64 (rd : Int), .int .i64 (r1 : Int), .int .i64 (r2 : Int), .int .i64 im] 66) := ⟨_, rfl⟩
  have hO6 : Only (fun _ => False) w2 W6 := by rw [hW6]; exact (Only.refl _ w2).alloc _
  have hik : W6.heap[w2.heap.size]? = some (.cells #[.int .i64 (op : Int), .int .i64 (rd : Int), .int .i64 (r1 : Int), .int .i64 (r2 : Int), .int .i64 im] 66 (0, 0)) := by rw [hW6]; exact heap_alloc_last w2 _
  rw [← hW6]
  have HI2 : Hid (w2.heap.size < W6.heap.size) := lt_of_some hik
  have hgl6 : g < W6.heap.size := Nat.lt_of_lt_of_le hgl hO6.size
  have hcl6 : cb < W6.heap.size := Nat.lt_of_lt_of_le hcl2 hO6.size
  obtain ⟨gi, hgi⟩ : ∃ gi, gi = w2.heap.size := ⟨_, rfl⟩
  have HGI : Hid (w.heap.size ≤ gi) := by show _ ≤ _; rw [hgi]; exact HO2.out.size
  rw [← hgi] at hik HI2 ⊢
  have HS : Hid (∀ wv, Only (fun k => k ≠ g ∧ k ≠ gi ∧ k ≠ cb) W6 wv → wv.cell? ⟨g, 0, none⟩ = some (.pointer (some ⟨bm, 0, none⟩)) ∧ wv.cell? ⟨g, 1, none⟩ = some (.int .i64 root) ∧ wv.cell? ⟨g, 2, none⟩ = some (.pointer (some ⟨cb, off, none⟩)) ∧ wv.cell? ⟨gi, 0, none⟩ = some (.int .i64 (op : Int)) ∧ wv.cell? ⟨gi, 1, none⟩ = some (.int .i64 (rd : Int)) ∧ wv.cell? ⟨gi, 2, none⟩ = some (.int .i64 (r1 : Int)) ∧ wv.cell? ⟨gi, 3, none⟩ = some (.int .i64 (r2 : Int)) ∧ wv.cell? ⟨gi, 4, none⟩ = some (.int .i64 im)) := fun wv hv => by
    have i0 : ∀ j, wv.cell? ⟨gi, j, none⟩ = (#[.int .i64 (op : Int), .int .i64 (rd : Int), .int .i64 (r1 : Int), .int .i64 (r2 : Int), .int .i64 im] : Array Value)[j]? := fun j => by
      rw [hv.cell (p := ⟨gi, j, none⟩) HI2.out (fun h => h.2.1 rfl), cell_of_row _ _ j _ _ (0, 0) hik]
    refine ⟨?_, ?_, ?_, by rw [i0]; rfl, by rw [i0]; rfl, by rw [i0]; rfl, by rw [i0]; rfl, by rw [i0]; rfl⟩
    · rw [hv.cell (p := ⟨g, 0, none⟩) hgl6 (fun h => h.1 rfl), hO6.cell (p := ⟨g, 0, none⟩) hgl (fun h => h)]; exact g0
    · rw [hv.cell (p := ⟨g, 1, none⟩) hgl6 (fun h => h.1 rfl), hO6.cell (p := ⟨g, 1, none⟩) hgl (fun h => h)]; exact g1
    · rw [hv.cell (p := ⟨g, 2, none⟩) hgl6 (fun h => h.1 rfl), hO6.cell (p := ⟨g, 2, none⟩) hgl (fun h => h)]; exact g2
  have HO6 := Vx.hid (HO2.out.trans hO6)
  have HFQ : Hid (∀ wv, Only (fun _ => False) W6 wv → Only (fun k => k ≠ g ∧ k ≠ gi ∧ k ≠ cb) W6 wv) := fun wv hv => hv.mono (fun _ _ h => h.elim)
  have HK : Hid (Only (fun _ => False) W6 W6.drew) := (Only.refl _ W6).drew
  have HRR : Hid (∀ wv, Only (fun _ => False) W6 wv → ∀ z : Int, (z = (r1 : Int) ∨ z = (r2 : Int)) → Calls Tryd.prog 31 #[.agg #[.pointer (some ⟨bm, 0, none⟩), .int .i64 root, .pointer (some ⟨cb, off, none⟩)], .int .i64 z] wv fun e w' => e = .returned (.int .u32 (regF R z.toNat : Nat)) ∧ Hid (Only (fun _ => False) W6 w')) := fun wv hv z hz => by
    have hz2 : ∃ r : Nat, z = (r : Int) ∧ r < 32 := by
      rcases hz with rfl | rfl
      · exact ⟨r1, rfl, HREG.out.1⟩
      · exact ⟨r2, rfl, HREG.out.2⟩
    obtain ⟨r, rfl, hr⟩ := hz2
    rw [Int.toNat_natCast]
    refine (HRE.out wv (HO6.out.trans hv) r hr).mono ?_
    rintro e w' ⟨rfl, h5⟩
    exact ⟨rfl, hv.trans h5.out⟩
  have HGN : Hid (g ≠ gi) := by have := hgl; show g ≠ gi; omega
  have HLT : Hid (g < W6.heap.size ∧ gi < W6.heap.size ∧ cb < W6.heap.size) := ⟨hgl6, HI2.out, hcl6⟩
  clear g0 g1 g2 g3 hgl hcl2 HO2 hW6 hO6 hik hgl6 hcl6 hgi HRE
  go_region_held3 (fun wv => Hid (Only (fun _ => False) W6 wv) ∧ wv.cell? ⟨g, 0, none⟩ = some (.pointer (some ⟨bm, 0, none⟩)) ∧ wv.cell? ⟨g, 1, none⟩ = some (.int .i64 root) ∧ wv.cell? ⟨g, 2, none⟩ = some (.pointer (some ⟨cb, off, none⟩)) ∧ wv.cell? ⟨gi, 0, none⟩ = some (.int .i64 (op : Int)) ∧ wv.cell? ⟨gi, 1, none⟩ = some (.int .i64 (rd : Int)) ∧ wv.cell? ⟨gi, 2, none⟩ = some (.int .i64 (r1 : Int)) ∧ wv.cell? ⟨gi, 3, none⟩ = some (.int .i64 (r2 : Int)) ∧ wv.cell? ⟨gi, 4, none⟩ = some (.int .i64 im)) (first | exact ⟨HK.out, HS.out _ (HFQ.out _ HK.out)⟩ | exact ⟨h6, HS.out _ (HFQ.out _ h6.out)⟩ | exact ⟨h5, HS.out _ (HFQ.out _ h5.out)⟩) (first | (go_at_call 31; refine (HRR.out _ h5.out _ ?_).mono ?_; (first | exact Or.inl rfl | exact Or.inr rfl); rintro e w6 ⟨rfl, h6⟩) | (go_at_call 31; refine (HRR.out _ HK.out _ ?_).mono ?_; (first | exact Or.inl rfl | exact Or.inr rfl); rintro e w5 ⟨rfl, h5⟩))
  have hop := HOP.out
  have HM7 := Vx.hid (HMEM.out.1.only (HO6.out.trans h6.out) (fun _ h _ => h.elim))
  have HC7 := Vx.hid (HMEM.out.2.2.2.1.only (HO6.out.trans h6.out) (fun h => h))
  have HU := Vx.hid HMEM.out.2.2.2.2
  have HN7 : Hid (Only (fun k => ¬ U k) w w6) := (HO6.out.trans h6.out).mono (fun _ _ h => h.elim)
  have hcr : w6.cell? ⟨cb, off + rd, none⟩ = some (.int .u32 (R rd : Nat)) := HC7.out.ctx.r rd HINS.out.2.2.1
  have hcp : w6.cell? ⟨cb, off + 32, none⟩ = some (.int .u32 (pc : Int)) := HC7.out.ctx.p
  have hfr := HC7.out.fz (off + rd)
  have hfp := HC7.out.fz (off + 32)
  have hcp2 : ∀ v, (w6.setCell ⟨cb, off + rd, none⟩ v).cell? ⟨cb, off + 32, none⟩ = some (.int .u32 (pc : Int)) := fun v => by
    rw [World.cell?_setCell_other _ _ _ _ (by intro e; injection e with _ e2; have := HINS.out.2.2.1; omega)]; exact hcp
  have hg2 : ∀ v, (w6.setCell ⟨cb, off + rd, none⟩ v).cell? ⟨g, 2, none⟩ = some (.pointer (some ⟨cb, off, none⟩)) := fun v => by
    rw [World.cell?_setCell_other _ _ _ _ (by intro e; injection e with e2; have := HGW.out; have := lt_of_some HMEM.out.2.2.2.1.b; omega)]; exact (HS.out _ (HFQ.out _ h6.out)).2.2.1
  have hcb6 : cb < w6.heap.size := World.block_lt_of_cell? w6 _ hcp
  have hidx : 0 ≤ (rd : Int) ∧ (rd : Int) < 32 := by have := HINS.out.2.2.1; omega
  have HFI : Hid (RunP U w bm n cb off T cs (exeF f n root R pc op rd (regF R r1) (regF R r2) im) (.returned (.tuple #[])) (w6.setCell ⟨cb, off + 32, none⟩ (.int .u32 (m32 ((pc : Int) + 4) : Nat)))) := run_pc HU.out HM7.out HC7.out HN7.out _ _ (by rw [hop]; exact exe_fence HPC.out.2)
  have e1 : ((op : Int) == 1) = false := by rw [beq_eq_false_iff_ne]; omega
  have e2 : ((op : Int) == 2) = false := by rw [beq_eq_false_iff_ne]; omega
  have e3 : ((op : Int) == 3) = false := by rw [beq_eq_false_iff_ne]; omega
  have e4 : ((op : Int) == 4) = false := by rw [beq_eq_false_iff_ne]; omega
  have e5 : ((op : Int) == 5) = false := by rw [beq_eq_false_iff_ne]; omega
  have e6 : ((op : Int) == 6) = false := by rw [beq_eq_false_iff_ne]; omega
  have e7 : ((op : Int) == 7) = false := by rw [beq_eq_false_iff_ne]; omega
  have e8 : ((op : Int) == 8) = false := by rw [beq_eq_false_iff_ne]; omega
  have e9 : ((op : Int) == 9) = false := by rw [beq_eq_false_iff_ne]; omega
  have e10 : ((op : Int) == 10) = false := by rw [beq_eq_false_iff_ne]; omega
  have e11 : ((op : Int) == 11) = false := by rw [beq_eq_false_iff_ne]; omega
  have e12 : ((op : Int) == 12) = false := by rw [beq_eq_false_iff_ne]; omega
  have e13 : ((op : Int) == 13) = false := by rw [beq_eq_false_iff_ne]; omega
  have e14 : ((op : Int) == 14) = false := by rw [beq_eq_false_iff_ne]; omega
  have e15 : ((op : Int) == 15) = false := by rw [beq_eq_false_iff_ne]; omega
  have e16 : ((op : Int) == 16) = false := by rw [beq_eq_false_iff_ne]; omega
  have e17 : ((op : Int) == 17) = false := by rw [beq_eq_false_iff_ne]; omega
  have e18 : ((op : Int) == 18) = false := by rw [beq_eq_false_iff_ne]; omega
  have e19 : ((op : Int) == 19) = false := by rw [beq_eq_false_iff_ne]; omega
  have e20 : ((op : Int) == 20) = false := by rw [beq_eq_false_iff_ne]; omega
  have e21 : ((op : Int) == 21) = false := by rw [beq_eq_false_iff_ne]; omega
  have e22 : ((op : Int) == 22) = false := by rw [beq_eq_false_iff_ne]; omega
  have e23 : ((op : Int) == 23) = false := by rw [beq_eq_false_iff_ne]; omega
  have e24 : ((op : Int) == 24) = false := by rw [beq_eq_false_iff_ne]; omega
  have e25 : ((op : Int) == 25) = false := by rw [beq_eq_false_iff_ne]; omega
  have e26 : ((op : Int) == 26) = false := by rw [beq_eq_false_iff_ne]; omega
  have e27 : ((op : Int) == 27) = false := by rw [beq_eq_false_iff_ne]; omega
  have e38 : ((op : Int) == 38) = true := by rw [beq_iff_eq]; omega
  clear HS HFQ HK HRR h5 h6 HMEM HREG HO6 HGN HLT HGI HGW HI2
  clear hop HM7 HC7 HU HN7 HINS HAB HPC
  go_wp2_with fail
  all_goals
    first | go_end0 | refine bodyPost_ret (results_none rfl _ _ _) rfl ?_
    exact HFI.out

set_option maxRecDepth 100000 in
set_option maxHeartbeats 2000000 in
theorem run_ecall {U : Nat → Prop} {w : World} {bm n cb off pc : Nat} {T : TypeId} {cs : Array Value} {R : Nat → Nat} {f : Nat → UInt8} (h : MemAt U w bm n f) (hus : UsesAt w) (hmi : MisAt w) (hfo : FormsAt w) (hc : CxAt w cb off T cs R pc) (hu : U cb) (hpc : pc < 4294967296) (hR : ∀ i, i < 32 → R i < 4294967296) (root : Int) (p : Nat) (hp : placeF f n root pc 4 0 = .ok p) (op rd r1 r2 : Nat) (im : Int) (hi : InsIs (dec (wordF f p : Nat)) op rd r1 r2 im) (hop : op = 39) :
    Calls Tryd.prog 19 #[.agg #[.pointer (some ⟨bm, 0, none⟩), .int .i64 root, .pointer (some ⟨cb, off, none⟩)]] w fun e w' => RunP U w bm n cb off T cs (exeF f n root R pc op rd (regF R r1) (regF R r2) im) e w' := by
  have HFE : Hid (∀ wv, Only (fun _ => False) w wv → Calls Tryd.prog 30 #[.agg #[.pointer (some ⟨bm, 0, none⟩), .int .i64 root, .pointer (some ⟨cb, off, none⟩)]] wv fun e w' => e = .returned (.agg #[.int .i64 (op : Int), .int .i64 (rd : Int), .int .i64 (r1 : Int), .int .i64 (r2 : Int), .int .i64 im]) ∧ Hid (Only (fun _ => False) wv w')) := fun wv hv => by
    refine (fetch_good (h.only hv (fun _ h _ => h.elim)) (hus.only hv (fun h => h)) (hmi.only hv (fun h => h)) (hfo.only hv (fun h => h)) (hc.only hv (fun h => h)).ctx hpc root p hp).mono ?_
    rintro e w' ⟨⟨h0, _⟩ | ⟨_, rfl⟩, ho⟩
    · rw [hi.e] at h0
      have := hi.lo
      have h1 : (op : Int) = 0 := h0
      omega
    · rw [hi.e]
      exact ⟨rfl, ho⟩
  have HRE : Hid (∀ wv, Only (fun _ => False) w wv → ∀ r : Nat, r < 32 → Calls Tryd.prog 31 #[.agg #[.pointer (some ⟨bm, 0, none⟩), .int .i64 root, .pointer (some ⟨cb, off, none⟩)], .int .i64 (r : Int)] wv fun e w' => e = .returned (.int .u32 (regF R r : Nat)) ∧ Hid (Only (fun _ => False) wv w')) := fun wv hv r hr => register_any (hc.only hv (fun h => h)).ctx _ root r hr
  have HAB : Hid (regF R r1 < 4294967296 ∧ regF R r2 < 4294967296) := by
    constructor
    · unfold regF; split
      · decide
      · exact hR r1 hi.hr1
    · unfold regF; split
      · decide
      · exact hR r2 hi.hr2
  have HREG := Vx.hid (⟨hi.hr1, hi.hr2⟩ : r1 < 32 ∧ r2 < 32)
  have HINS := Vx.hid (⟨hi.lo, hi.hi, hi.hrd, hi.i0, hi.i1, hi.no⟩ : 1 ≤ op ∧ op ≤ 48 ∧ rd < 32 ∧ -1048576 ≤ im ∧ im ≤ 1048576 ∧ (((5 ≤ op ∧ op ≤ 10) ∨ (16 ≤ op ∧ op ≤ 18)) → rd = 0))
  have HMEM := Vx.hid (⟨h, hus, hmi, hc, hu⟩ : _ ∧ _ ∧ _ ∧ _ ∧ _)
  have HPC := Vx.hid (⟨hpc, place_mod hp⟩ : pc < 4294967296 ∧ pc % 4 = 0)
  have hwim : IntKind.u32.wrap im = (m32 im : Nat) := wrap_u32_m im
  have hnx : IntKind.u32.wrap ((pc : Int) + 4) = (m32 ((pc : Int) + 4) : Nat) := wrap_u32_m _
  have hcp := hc.ctx.p
  have hcl : cb < w.heap.size := lt_of_some hc.b
  have HOP := Vx.hid hop
  clear h hus hmi hfo hc hu hpc hR hp hi hop
  go_enter Tryd.func19, Tryd.ntmps19
  go_wp2_with fail
  have HO1 : Hid (Only (fun _ => False) w (w.alloc (.cells #[.pointer (some ⟨bm, 0, none⟩), .int .i64 root, .pointer (some ⟨cb, off, none⟩)] 61))) := (Only.refl _ w).alloc _
  refine (HFE.out _ HO1.out).mono ?_
  rintro e w2 ⟨rfl, h2⟩
  have hbk : w2.heap[w.heap.size]? = some (.cells #[.pointer (some ⟨bm, 0, none⟩), .int .i64 root, .pointer (some ⟨cb, off, none⟩)] 61 (0, 0)) := by
    rw [h2.out.block _ (by simp) (fun h => h)]; exact heap_alloc_last w _
  have HO2 := Vx.hid (HO1.out.trans h2.out)
  have g0 : w2.cell? ⟨w.heap.size, 0, none⟩ = some (.pointer (some ⟨bm, 0, none⟩)) := by rw [cell_of_row _ _ 0 _ _ (0, 0) hbk]; rfl
  have g1 : w2.cell? ⟨w.heap.size, 1, none⟩ = some (.int .i64 root) := by rw [cell_of_row _ _ 1 _ _ (0, 0) hbk]; rfl
  have g2 : w2.cell? ⟨w.heap.size, 2, none⟩ = some (.pointer (some ⟨cb, off, none⟩)) := by rw [cell_of_row _ _ 2 _ _ (0, 0) hbk]; rfl
  have g3 : w2.cell? ⟨cb, off + 32, none⟩ = some (.int .u32 (pc : Int)) := by rw [HO2.out.cell (p := ⟨cb, off + 32, none⟩) hcl (fun h => h)]; exact hcp
  have hgl : w.heap.size < w2.heap.size := lt_of_some hbk
  have hcl2 : cb < w2.heap.size := Nat.lt_of_lt_of_le hcl HO2.out.size
  obtain ⟨g, hg⟩ : ∃ g, g = w.heap.size := ⟨_, rfl⟩
  have HGW : Hid (w.heap.size ≤ g) := by show _ ≤ _; omega
  rw [← hg] at g0 g1 g2 hgl ⊢
  clear hbk HO1 h2 hcp hcl hg HFE
  go_wp2_with fail
  obtain ⟨W6, hW6⟩ : ∃ W6, W6 = w2.alloc (.cells #[.int .i64 (op : Int), .int .i64 (rd : Int), .int .i64 (r1 : Int), .int .i64 (r2 : Int), .int .i64 im] 66) := ⟨_, rfl⟩
  have hO6 : Only (fun _ => False) w2 W6 := by rw [hW6]; exact (Only.refl _ w2).alloc _
  have hik : W6.heap[w2.heap.size]? = some (.cells #[.int .i64 (op : Int), .int .i64 (rd : Int), .int .i64 (r1 : Int), .int .i64 (r2 : Int), .int .i64 im] 66 (0, 0)) := by rw [hW6]; exact heap_alloc_last w2 _
  rw [← hW6]
  have HI2 : Hid (w2.heap.size < W6.heap.size) := lt_of_some hik
  have hgl6 : g < W6.heap.size := Nat.lt_of_lt_of_le hgl hO6.size
  have hcl6 : cb < W6.heap.size := Nat.lt_of_lt_of_le hcl2 hO6.size
  obtain ⟨gi, hgi⟩ : ∃ gi, gi = w2.heap.size := ⟨_, rfl⟩
  have HGI : Hid (w.heap.size ≤ gi) := by show _ ≤ _; rw [hgi]; exact HO2.out.size
  rw [← hgi] at hik HI2 ⊢
  have HS : Hid (∀ wv, Only (fun k => k ≠ g ∧ k ≠ gi ∧ k ≠ cb) W6 wv → wv.cell? ⟨g, 0, none⟩ = some (.pointer (some ⟨bm, 0, none⟩)) ∧ wv.cell? ⟨g, 1, none⟩ = some (.int .i64 root) ∧ wv.cell? ⟨g, 2, none⟩ = some (.pointer (some ⟨cb, off, none⟩)) ∧ wv.cell? ⟨gi, 0, none⟩ = some (.int .i64 (op : Int)) ∧ wv.cell? ⟨gi, 1, none⟩ = some (.int .i64 (rd : Int)) ∧ wv.cell? ⟨gi, 2, none⟩ = some (.int .i64 (r1 : Int)) ∧ wv.cell? ⟨gi, 3, none⟩ = some (.int .i64 (r2 : Int)) ∧ wv.cell? ⟨gi, 4, none⟩ = some (.int .i64 im)) := fun wv hv => by
    have i0 : ∀ j, wv.cell? ⟨gi, j, none⟩ = (#[.int .i64 (op : Int), .int .i64 (rd : Int), .int .i64 (r1 : Int), .int .i64 (r2 : Int), .int .i64 im] : Array Value)[j]? := fun j => by
      rw [hv.cell (p := ⟨gi, j, none⟩) HI2.out (fun h => h.2.1 rfl), cell_of_row _ _ j _ _ (0, 0) hik]
    refine ⟨?_, ?_, ?_, by rw [i0]; rfl, by rw [i0]; rfl, by rw [i0]; rfl, by rw [i0]; rfl, by rw [i0]; rfl⟩
    · rw [hv.cell (p := ⟨g, 0, none⟩) hgl6 (fun h => h.1 rfl), hO6.cell (p := ⟨g, 0, none⟩) hgl (fun h => h)]; exact g0
    · rw [hv.cell (p := ⟨g, 1, none⟩) hgl6 (fun h => h.1 rfl), hO6.cell (p := ⟨g, 1, none⟩) hgl (fun h => h)]; exact g1
    · rw [hv.cell (p := ⟨g, 2, none⟩) hgl6 (fun h => h.1 rfl), hO6.cell (p := ⟨g, 2, none⟩) hgl (fun h => h)]; exact g2
  have HO6 := Vx.hid (HO2.out.trans hO6)
  have HFQ : Hid (∀ wv, Only (fun _ => False) W6 wv → Only (fun k => k ≠ g ∧ k ≠ gi ∧ k ≠ cb) W6 wv) := fun wv hv => hv.mono (fun _ _ h => h.elim)
  have HK : Hid (Only (fun _ => False) W6 W6.drew) := (Only.refl _ W6).drew
  have HRR : Hid (∀ wv, Only (fun _ => False) W6 wv → ∀ z : Int, (z = (r1 : Int) ∨ z = (r2 : Int)) → Calls Tryd.prog 31 #[.agg #[.pointer (some ⟨bm, 0, none⟩), .int .i64 root, .pointer (some ⟨cb, off, none⟩)], .int .i64 z] wv fun e w' => e = .returned (.int .u32 (regF R z.toNat : Nat)) ∧ Hid (Only (fun _ => False) W6 w')) := fun wv hv z hz => by
    have hz2 : ∃ r : Nat, z = (r : Int) ∧ r < 32 := by
      rcases hz with rfl | rfl
      · exact ⟨r1, rfl, HREG.out.1⟩
      · exact ⟨r2, rfl, HREG.out.2⟩
    obtain ⟨r, rfl, hr⟩ := hz2
    rw [Int.toNat_natCast]
    refine (HRE.out wv (HO6.out.trans hv) r hr).mono ?_
    rintro e w' ⟨rfl, h5⟩
    exact ⟨rfl, hv.trans h5.out⟩
  have HGN : Hid (g ≠ gi) := by have := hgl; show g ≠ gi; omega
  have HLT : Hid (g < W6.heap.size ∧ gi < W6.heap.size ∧ cb < W6.heap.size) := ⟨hgl6, HI2.out, hcl6⟩
  clear g0 g1 g2 g3 hgl hcl2 HO2 hW6 hO6 hik hgl6 hcl6 hgi HRE
  go_region_held3 (fun wv => Hid (Only (fun _ => False) W6 wv) ∧ wv.cell? ⟨g, 0, none⟩ = some (.pointer (some ⟨bm, 0, none⟩)) ∧ wv.cell? ⟨g, 1, none⟩ = some (.int .i64 root) ∧ wv.cell? ⟨g, 2, none⟩ = some (.pointer (some ⟨cb, off, none⟩)) ∧ wv.cell? ⟨gi, 0, none⟩ = some (.int .i64 (op : Int)) ∧ wv.cell? ⟨gi, 1, none⟩ = some (.int .i64 (rd : Int)) ∧ wv.cell? ⟨gi, 2, none⟩ = some (.int .i64 (r1 : Int)) ∧ wv.cell? ⟨gi, 3, none⟩ = some (.int .i64 (r2 : Int)) ∧ wv.cell? ⟨gi, 4, none⟩ = some (.int .i64 im)) (first | exact ⟨HK.out, HS.out _ (HFQ.out _ HK.out)⟩ | exact ⟨h6, HS.out _ (HFQ.out _ h6.out)⟩ | exact ⟨h5, HS.out _ (HFQ.out _ h5.out)⟩) (first | (go_at_call 31; refine (HRR.out _ h5.out _ ?_).mono ?_; (first | exact Or.inl rfl | exact Or.inr rfl); rintro e w6 ⟨rfl, h6⟩) | (go_at_call 31; refine (HRR.out _ HK.out _ ?_).mono ?_; (first | exact Or.inl rfl | exact Or.inr rfl); rintro e w5 ⟨rfl, h5⟩))
  have hop := HOP.out
  have HM7 := Vx.hid (HMEM.out.1.only (HO6.out.trans h6.out) (fun _ h _ => h.elim))
  have HC7 := Vx.hid (HMEM.out.2.2.2.1.only (HO6.out.trans h6.out) (fun h => h))
  have HU := Vx.hid HMEM.out.2.2.2.2
  have HN7 : Hid (Only (fun k => ¬ U k) w w6) := (HO6.out.trans h6.out).mono (fun _ _ h => h.elim)
  have hcr : w6.cell? ⟨cb, off + rd, none⟩ = some (.int .u32 (R rd : Nat)) := HC7.out.ctx.r rd HINS.out.2.2.1
  have hcp : w6.cell? ⟨cb, off + 32, none⟩ = some (.int .u32 (pc : Int)) := HC7.out.ctx.p
  have hfr := HC7.out.fz (off + rd)
  have hfp := HC7.out.fz (off + 32)
  have hcp2 : ∀ v, (w6.setCell ⟨cb, off + rd, none⟩ v).cell? ⟨cb, off + 32, none⟩ = some (.int .u32 (pc : Int)) := fun v => by
    rw [World.cell?_setCell_other _ _ _ _ (by intro e; injection e with _ e2; have := HINS.out.2.2.1; omega)]; exact hcp
  have hg2 : ∀ v, (w6.setCell ⟨cb, off + rd, none⟩ v).cell? ⟨g, 2, none⟩ = some (.pointer (some ⟨cb, off, none⟩)) := fun v => by
    rw [World.cell?_setCell_other _ _ _ _ (by intro e; injection e with e2; have := HGW.out; have := lt_of_some HMEM.out.2.2.2.1.b; omega)]; exact (HS.out _ (HFQ.out _ h6.out)).2.2.1
  have hcb6 : cb < w6.heap.size := World.block_lt_of_cell? w6 _ hcp
  have hidx : 0 ≤ (rd : Int) ∧ (rd : Int) < 32 := by have := HINS.out.2.2.1; omega
  have HFI : Hid (RunP U w bm n cb off T cs (exeF f n root R pc op rd (regF R r1) (regF R r2) im) (.panicked (trapP 8 0)) w6) := Or.inl ⟨8, 0, by rw [hop]; rfl, rfl, HO6.out.trans h6.out⟩
  have e1 : ((op : Int) == 1) = false := by rw [beq_eq_false_iff_ne]; omega
  have e2 : ((op : Int) == 2) = false := by rw [beq_eq_false_iff_ne]; omega
  have e3 : ((op : Int) == 3) = false := by rw [beq_eq_false_iff_ne]; omega
  have e4 : ((op : Int) == 4) = false := by rw [beq_eq_false_iff_ne]; omega
  have e5 : ((op : Int) == 5) = false := by rw [beq_eq_false_iff_ne]; omega
  have e6 : ((op : Int) == 6) = false := by rw [beq_eq_false_iff_ne]; omega
  have e7 : ((op : Int) == 7) = false := by rw [beq_eq_false_iff_ne]; omega
  have e8 : ((op : Int) == 8) = false := by rw [beq_eq_false_iff_ne]; omega
  have e9 : ((op : Int) == 9) = false := by rw [beq_eq_false_iff_ne]; omega
  have e10 : ((op : Int) == 10) = false := by rw [beq_eq_false_iff_ne]; omega
  have e11 : ((op : Int) == 11) = false := by rw [beq_eq_false_iff_ne]; omega
  have e12 : ((op : Int) == 12) = false := by rw [beq_eq_false_iff_ne]; omega
  have e13 : ((op : Int) == 13) = false := by rw [beq_eq_false_iff_ne]; omega
  have e14 : ((op : Int) == 14) = false := by rw [beq_eq_false_iff_ne]; omega
  have e15 : ((op : Int) == 15) = false := by rw [beq_eq_false_iff_ne]; omega
  have e16 : ((op : Int) == 16) = false := by rw [beq_eq_false_iff_ne]; omega
  have e17 : ((op : Int) == 17) = false := by rw [beq_eq_false_iff_ne]; omega
  have e18 : ((op : Int) == 18) = false := by rw [beq_eq_false_iff_ne]; omega
  have e19 : ((op : Int) == 19) = false := by rw [beq_eq_false_iff_ne]; omega
  have e20 : ((op : Int) == 20) = false := by rw [beq_eq_false_iff_ne]; omega
  have e21 : ((op : Int) == 21) = false := by rw [beq_eq_false_iff_ne]; omega
  have e22 : ((op : Int) == 22) = false := by rw [beq_eq_false_iff_ne]; omega
  have e23 : ((op : Int) == 23) = false := by rw [beq_eq_false_iff_ne]; omega
  have e24 : ((op : Int) == 24) = false := by rw [beq_eq_false_iff_ne]; omega
  have e25 : ((op : Int) == 25) = false := by rw [beq_eq_false_iff_ne]; omega
  have e26 : ((op : Int) == 26) = false := by rw [beq_eq_false_iff_ne]; omega
  have e27 : ((op : Int) == 27) = false := by rw [beq_eq_false_iff_ne]; omega
  have e38 : ((op : Int) == 38) = false := by rw [beq_eq_false_iff_ne]; omega
  have e39 : ((op : Int) == 39) = true := by rw [beq_iff_eq]; omega
  clear HS HFQ HK HRR h5 h6 HMEM HREG HO6 HGN HLT HGI HGW HI2
  clear hop HM7 HC7 HU HN7 HINS HAB HPC
  go_wp2_with fail
  all_goals
    exact ⟨rfl, HFI.out⟩

set_option maxRecDepth 100000 in
set_option maxHeartbeats 2000000 in
theorem run_ebreak {U : Nat → Prop} {w : World} {bm n cb off pc : Nat} {T : TypeId} {cs : Array Value} {R : Nat → Nat} {f : Nat → UInt8} (h : MemAt U w bm n f) (hus : UsesAt w) (hmi : MisAt w) (hfo : FormsAt w) (hc : CxAt w cb off T cs R pc) (hu : U cb) (hpc : pc < 4294967296) (hR : ∀ i, i < 32 → R i < 4294967296) (root : Int) (p : Nat) (hp : placeF f n root pc 4 0 = .ok p) (op rd r1 r2 : Nat) (im : Int) (hi : InsIs (dec (wordF f p : Nat)) op rd r1 r2 im) (hop : op = 40) :
    Calls Tryd.prog 19 #[.agg #[.pointer (some ⟨bm, 0, none⟩), .int .i64 root, .pointer (some ⟨cb, off, none⟩)]] w fun e w' => RunP U w bm n cb off T cs (exeF f n root R pc op rd (regF R r1) (regF R r2) im) e w' := by
  have HFE : Hid (∀ wv, Only (fun _ => False) w wv → Calls Tryd.prog 30 #[.agg #[.pointer (some ⟨bm, 0, none⟩), .int .i64 root, .pointer (some ⟨cb, off, none⟩)]] wv fun e w' => e = .returned (.agg #[.int .i64 (op : Int), .int .i64 (rd : Int), .int .i64 (r1 : Int), .int .i64 (r2 : Int), .int .i64 im]) ∧ Hid (Only (fun _ => False) wv w')) := fun wv hv => by
    refine (fetch_good (h.only hv (fun _ h _ => h.elim)) (hus.only hv (fun h => h)) (hmi.only hv (fun h => h)) (hfo.only hv (fun h => h)) (hc.only hv (fun h => h)).ctx hpc root p hp).mono ?_
    rintro e w' ⟨⟨h0, _⟩ | ⟨_, rfl⟩, ho⟩
    · rw [hi.e] at h0
      have := hi.lo
      have h1 : (op : Int) = 0 := h0
      omega
    · rw [hi.e]
      exact ⟨rfl, ho⟩
  have HRE : Hid (∀ wv, Only (fun _ => False) w wv → ∀ r : Nat, r < 32 → Calls Tryd.prog 31 #[.agg #[.pointer (some ⟨bm, 0, none⟩), .int .i64 root, .pointer (some ⟨cb, off, none⟩)], .int .i64 (r : Int)] wv fun e w' => e = .returned (.int .u32 (regF R r : Nat)) ∧ Hid (Only (fun _ => False) wv w')) := fun wv hv r hr => register_any (hc.only hv (fun h => h)).ctx _ root r hr
  have HAB : Hid (regF R r1 < 4294967296 ∧ regF R r2 < 4294967296) := by
    constructor
    · unfold regF; split
      · decide
      · exact hR r1 hi.hr1
    · unfold regF; split
      · decide
      · exact hR r2 hi.hr2
  have HREG := Vx.hid (⟨hi.hr1, hi.hr2⟩ : r1 < 32 ∧ r2 < 32)
  have HINS := Vx.hid (⟨hi.lo, hi.hi, hi.hrd, hi.i0, hi.i1, hi.no⟩ : 1 ≤ op ∧ op ≤ 48 ∧ rd < 32 ∧ -1048576 ≤ im ∧ im ≤ 1048576 ∧ (((5 ≤ op ∧ op ≤ 10) ∨ (16 ≤ op ∧ op ≤ 18)) → rd = 0))
  have HMEM := Vx.hid (⟨h, hus, hmi, hc, hu⟩ : _ ∧ _ ∧ _ ∧ _ ∧ _)
  have HPC := Vx.hid (⟨hpc, place_mod hp⟩ : pc < 4294967296 ∧ pc % 4 = 0)
  have hwim : IntKind.u32.wrap im = (m32 im : Nat) := wrap_u32_m im
  have hnx : IntKind.u32.wrap ((pc : Int) + 4) = (m32 ((pc : Int) + 4) : Nat) := wrap_u32_m _
  have hcp := hc.ctx.p
  have hcl : cb < w.heap.size := lt_of_some hc.b
  have HOP := Vx.hid hop
  clear h hus hmi hfo hc hu hpc hR hp hi hop
  go_enter Tryd.func19, Tryd.ntmps19
  go_wp2_with fail
  have HO1 : Hid (Only (fun _ => False) w (w.alloc (.cells #[.pointer (some ⟨bm, 0, none⟩), .int .i64 root, .pointer (some ⟨cb, off, none⟩)] 61))) := (Only.refl _ w).alloc _
  refine (HFE.out _ HO1.out).mono ?_
  rintro e w2 ⟨rfl, h2⟩
  have hbk : w2.heap[w.heap.size]? = some (.cells #[.pointer (some ⟨bm, 0, none⟩), .int .i64 root, .pointer (some ⟨cb, off, none⟩)] 61 (0, 0)) := by
    rw [h2.out.block _ (by simp) (fun h => h)]; exact heap_alloc_last w _
  have HO2 := Vx.hid (HO1.out.trans h2.out)
  have g0 : w2.cell? ⟨w.heap.size, 0, none⟩ = some (.pointer (some ⟨bm, 0, none⟩)) := by rw [cell_of_row _ _ 0 _ _ (0, 0) hbk]; rfl
  have g1 : w2.cell? ⟨w.heap.size, 1, none⟩ = some (.int .i64 root) := by rw [cell_of_row _ _ 1 _ _ (0, 0) hbk]; rfl
  have g2 : w2.cell? ⟨w.heap.size, 2, none⟩ = some (.pointer (some ⟨cb, off, none⟩)) := by rw [cell_of_row _ _ 2 _ _ (0, 0) hbk]; rfl
  have g3 : w2.cell? ⟨cb, off + 32, none⟩ = some (.int .u32 (pc : Int)) := by rw [HO2.out.cell (p := ⟨cb, off + 32, none⟩) hcl (fun h => h)]; exact hcp
  have hgl : w.heap.size < w2.heap.size := lt_of_some hbk
  have hcl2 : cb < w2.heap.size := Nat.lt_of_lt_of_le hcl HO2.out.size
  obtain ⟨g, hg⟩ : ∃ g, g = w.heap.size := ⟨_, rfl⟩
  have HGW : Hid (w.heap.size ≤ g) := by show _ ≤ _; omega
  rw [← hg] at g0 g1 g2 hgl ⊢
  clear hbk HO1 h2 hcp hcl hg HFE
  go_wp2_with fail
  obtain ⟨W6, hW6⟩ : ∃ W6, W6 = w2.alloc (.cells #[.int .i64 (op : Int), .int .i64 (rd : Int), .int .i64 (r1 : Int), .int .i64 (r2 : Int), .int .i64 im] 66) := ⟨_, rfl⟩
  have hO6 : Only (fun _ => False) w2 W6 := by rw [hW6]; exact (Only.refl _ w2).alloc _
  have hik : W6.heap[w2.heap.size]? = some (.cells #[.int .i64 (op : Int), .int .i64 (rd : Int), .int .i64 (r1 : Int), .int .i64 (r2 : Int), .int .i64 im] 66 (0, 0)) := by rw [hW6]; exact heap_alloc_last w2 _
  rw [← hW6]
  have HI2 : Hid (w2.heap.size < W6.heap.size) := lt_of_some hik
  have hgl6 : g < W6.heap.size := Nat.lt_of_lt_of_le hgl hO6.size
  have hcl6 : cb < W6.heap.size := Nat.lt_of_lt_of_le hcl2 hO6.size
  obtain ⟨gi, hgi⟩ : ∃ gi, gi = w2.heap.size := ⟨_, rfl⟩
  have HGI : Hid (w.heap.size ≤ gi) := by show _ ≤ _; rw [hgi]; exact HO2.out.size
  rw [← hgi] at hik HI2 ⊢
  have HS : Hid (∀ wv, Only (fun k => k ≠ g ∧ k ≠ gi ∧ k ≠ cb) W6 wv → wv.cell? ⟨g, 0, none⟩ = some (.pointer (some ⟨bm, 0, none⟩)) ∧ wv.cell? ⟨g, 1, none⟩ = some (.int .i64 root) ∧ wv.cell? ⟨g, 2, none⟩ = some (.pointer (some ⟨cb, off, none⟩)) ∧ wv.cell? ⟨gi, 0, none⟩ = some (.int .i64 (op : Int)) ∧ wv.cell? ⟨gi, 1, none⟩ = some (.int .i64 (rd : Int)) ∧ wv.cell? ⟨gi, 2, none⟩ = some (.int .i64 (r1 : Int)) ∧ wv.cell? ⟨gi, 3, none⟩ = some (.int .i64 (r2 : Int)) ∧ wv.cell? ⟨gi, 4, none⟩ = some (.int .i64 im)) := fun wv hv => by
    have i0 : ∀ j, wv.cell? ⟨gi, j, none⟩ = (#[.int .i64 (op : Int), .int .i64 (rd : Int), .int .i64 (r1 : Int), .int .i64 (r2 : Int), .int .i64 im] : Array Value)[j]? := fun j => by
      rw [hv.cell (p := ⟨gi, j, none⟩) HI2.out (fun h => h.2.1 rfl), cell_of_row _ _ j _ _ (0, 0) hik]
    refine ⟨?_, ?_, ?_, by rw [i0]; rfl, by rw [i0]; rfl, by rw [i0]; rfl, by rw [i0]; rfl, by rw [i0]; rfl⟩
    · rw [hv.cell (p := ⟨g, 0, none⟩) hgl6 (fun h => h.1 rfl), hO6.cell (p := ⟨g, 0, none⟩) hgl (fun h => h)]; exact g0
    · rw [hv.cell (p := ⟨g, 1, none⟩) hgl6 (fun h => h.1 rfl), hO6.cell (p := ⟨g, 1, none⟩) hgl (fun h => h)]; exact g1
    · rw [hv.cell (p := ⟨g, 2, none⟩) hgl6 (fun h => h.1 rfl), hO6.cell (p := ⟨g, 2, none⟩) hgl (fun h => h)]; exact g2
  have HO6 := Vx.hid (HO2.out.trans hO6)
  have HFQ : Hid (∀ wv, Only (fun _ => False) W6 wv → Only (fun k => k ≠ g ∧ k ≠ gi ∧ k ≠ cb) W6 wv) := fun wv hv => hv.mono (fun _ _ h => h.elim)
  have HK : Hid (Only (fun _ => False) W6 W6.drew) := (Only.refl _ W6).drew
  have HRR : Hid (∀ wv, Only (fun _ => False) W6 wv → ∀ z : Int, (z = (r1 : Int) ∨ z = (r2 : Int)) → Calls Tryd.prog 31 #[.agg #[.pointer (some ⟨bm, 0, none⟩), .int .i64 root, .pointer (some ⟨cb, off, none⟩)], .int .i64 z] wv fun e w' => e = .returned (.int .u32 (regF R z.toNat : Nat)) ∧ Hid (Only (fun _ => False) W6 w')) := fun wv hv z hz => by
    have hz2 : ∃ r : Nat, z = (r : Int) ∧ r < 32 := by
      rcases hz with rfl | rfl
      · exact ⟨r1, rfl, HREG.out.1⟩
      · exact ⟨r2, rfl, HREG.out.2⟩
    obtain ⟨r, rfl, hr⟩ := hz2
    rw [Int.toNat_natCast]
    refine (HRE.out wv (HO6.out.trans hv) r hr).mono ?_
    rintro e w' ⟨rfl, h5⟩
    exact ⟨rfl, hv.trans h5.out⟩
  have HGN : Hid (g ≠ gi) := by have := hgl; show g ≠ gi; omega
  have HLT : Hid (g < W6.heap.size ∧ gi < W6.heap.size ∧ cb < W6.heap.size) := ⟨hgl6, HI2.out, hcl6⟩
  clear g0 g1 g2 g3 hgl hcl2 HO2 hW6 hO6 hik hgl6 hcl6 hgi HRE
  go_region_held3 (fun wv => Hid (Only (fun _ => False) W6 wv) ∧ wv.cell? ⟨g, 0, none⟩ = some (.pointer (some ⟨bm, 0, none⟩)) ∧ wv.cell? ⟨g, 1, none⟩ = some (.int .i64 root) ∧ wv.cell? ⟨g, 2, none⟩ = some (.pointer (some ⟨cb, off, none⟩)) ∧ wv.cell? ⟨gi, 0, none⟩ = some (.int .i64 (op : Int)) ∧ wv.cell? ⟨gi, 1, none⟩ = some (.int .i64 (rd : Int)) ∧ wv.cell? ⟨gi, 2, none⟩ = some (.int .i64 (r1 : Int)) ∧ wv.cell? ⟨gi, 3, none⟩ = some (.int .i64 (r2 : Int)) ∧ wv.cell? ⟨gi, 4, none⟩ = some (.int .i64 im)) (first | exact ⟨HK.out, HS.out _ (HFQ.out _ HK.out)⟩ | exact ⟨h6, HS.out _ (HFQ.out _ h6.out)⟩ | exact ⟨h5, HS.out _ (HFQ.out _ h5.out)⟩) (first | (go_at_call 31; refine (HRR.out _ h5.out _ ?_).mono ?_; (first | exact Or.inl rfl | exact Or.inr rfl); rintro e w6 ⟨rfl, h6⟩) | (go_at_call 31; refine (HRR.out _ HK.out _ ?_).mono ?_; (first | exact Or.inl rfl | exact Or.inr rfl); rintro e w5 ⟨rfl, h5⟩))
  have hop := HOP.out
  have HM7 := Vx.hid (HMEM.out.1.only (HO6.out.trans h6.out) (fun _ h _ => h.elim))
  have HC7 := Vx.hid (HMEM.out.2.2.2.1.only (HO6.out.trans h6.out) (fun h => h))
  have HU := Vx.hid HMEM.out.2.2.2.2
  have HN7 : Hid (Only (fun k => ¬ U k) w w6) := (HO6.out.trans h6.out).mono (fun _ _ h => h.elim)
  have hcr : w6.cell? ⟨cb, off + rd, none⟩ = some (.int .u32 (R rd : Nat)) := HC7.out.ctx.r rd HINS.out.2.2.1
  have hcp : w6.cell? ⟨cb, off + 32, none⟩ = some (.int .u32 (pc : Int)) := HC7.out.ctx.p
  have hfr := HC7.out.fz (off + rd)
  have hfp := HC7.out.fz (off + 32)
  have hcp2 : ∀ v, (w6.setCell ⟨cb, off + rd, none⟩ v).cell? ⟨cb, off + 32, none⟩ = some (.int .u32 (pc : Int)) := fun v => by
    rw [World.cell?_setCell_other _ _ _ _ (by intro e; injection e with _ e2; have := HINS.out.2.2.1; omega)]; exact hcp
  have hg2 : ∀ v, (w6.setCell ⟨cb, off + rd, none⟩ v).cell? ⟨g, 2, none⟩ = some (.pointer (some ⟨cb, off, none⟩)) := fun v => by
    rw [World.cell?_setCell_other _ _ _ _ (by intro e; injection e with e2; have := HGW.out; have := lt_of_some HMEM.out.2.2.2.1.b; omega)]; exact (HS.out _ (HFQ.out _ h6.out)).2.2.1
  have hcb6 : cb < w6.heap.size := World.block_lt_of_cell? w6 _ hcp
  have hidx : 0 ≤ (rd : Int) ∧ (rd : Int) < 32 := by have := HINS.out.2.2.1; omega
  have HFI : Hid (RunP U w bm n cb off T cs (exeF f n root R pc op rd (regF R r1) (regF R r2) im) (.panicked (trapP 3 pc)) w6) := Or.inl ⟨3, pc, by rw [hop]; rfl, rfl, HO6.out.trans h6.out⟩
  have e1 : ((op : Int) == 1) = false := by rw [beq_eq_false_iff_ne]; omega
  have e2 : ((op : Int) == 2) = false := by rw [beq_eq_false_iff_ne]; omega
  have e3 : ((op : Int) == 3) = false := by rw [beq_eq_false_iff_ne]; omega
  have e4 : ((op : Int) == 4) = false := by rw [beq_eq_false_iff_ne]; omega
  have e5 : ((op : Int) == 5) = false := by rw [beq_eq_false_iff_ne]; omega
  have e6 : ((op : Int) == 6) = false := by rw [beq_eq_false_iff_ne]; omega
  have e7 : ((op : Int) == 7) = false := by rw [beq_eq_false_iff_ne]; omega
  have e8 : ((op : Int) == 8) = false := by rw [beq_eq_false_iff_ne]; omega
  have e9 : ((op : Int) == 9) = false := by rw [beq_eq_false_iff_ne]; omega
  have e10 : ((op : Int) == 10) = false := by rw [beq_eq_false_iff_ne]; omega
  have e11 : ((op : Int) == 11) = false := by rw [beq_eq_false_iff_ne]; omega
  have e12 : ((op : Int) == 12) = false := by rw [beq_eq_false_iff_ne]; omega
  have e13 : ((op : Int) == 13) = false := by rw [beq_eq_false_iff_ne]; omega
  have e14 : ((op : Int) == 14) = false := by rw [beq_eq_false_iff_ne]; omega
  have e15 : ((op : Int) == 15) = false := by rw [beq_eq_false_iff_ne]; omega
  have e16 : ((op : Int) == 16) = false := by rw [beq_eq_false_iff_ne]; omega
  have e17 : ((op : Int) == 17) = false := by rw [beq_eq_false_iff_ne]; omega
  have e18 : ((op : Int) == 18) = false := by rw [beq_eq_false_iff_ne]; omega
  have e19 : ((op : Int) == 19) = false := by rw [beq_eq_false_iff_ne]; omega
  have e20 : ((op : Int) == 20) = false := by rw [beq_eq_false_iff_ne]; omega
  have e21 : ((op : Int) == 21) = false := by rw [beq_eq_false_iff_ne]; omega
  have e22 : ((op : Int) == 22) = false := by rw [beq_eq_false_iff_ne]; omega
  have e23 : ((op : Int) == 23) = false := by rw [beq_eq_false_iff_ne]; omega
  have e24 : ((op : Int) == 24) = false := by rw [beq_eq_false_iff_ne]; omega
  have e25 : ((op : Int) == 25) = false := by rw [beq_eq_false_iff_ne]; omega
  have e26 : ((op : Int) == 26) = false := by rw [beq_eq_false_iff_ne]; omega
  have e27 : ((op : Int) == 27) = false := by rw [beq_eq_false_iff_ne]; omega
  have e38 : ((op : Int) == 38) = false := by rw [beq_eq_false_iff_ne]; omega
  have e39 : ((op : Int) == 39) = false := by rw [beq_eq_false_iff_ne]; omega
  have e40 : ((op : Int) == 40) = true := by rw [beq_iff_eq]; omega
  clear HS HFQ HK HRR h5 h6 HMEM HREG HO6 HGN HLT HGI HGW HI2
  clear hop HM7 HC7 HU HN7 HINS HAB HPC
  go_wp2_with fail
  all_goals
    exact ⟨rfl, HFI.out⟩


end Go.Proofs.YtflmobffeeocdaaDoor

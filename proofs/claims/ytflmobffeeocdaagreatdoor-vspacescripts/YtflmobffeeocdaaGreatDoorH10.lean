/- Walks of the scripts: the steps of chapter 5 that tell lists (made by gen_h10.py). -/
import Derived.Test.YtflmobffeeocdaaGreatDoorH8
import Derived.Test.YtflmobffeeocdaaGreatDoorG6
import Derived.Test.YtflmobffeeocdaaGreatDoorG7
namespace Go.Proofs.YtflmobffeeocdaaGreatDoor
open Go.ChangeShapes Go.WideShapes Go.ChangeAt Go.RowKit
open Go.Vx

def errA (n : Nat) (root : Int) : Nat := if hasB n root = true then 0 else 1
def tabsA (f : Nat → UInt8) (n : Nat) (root : Int) : List (Int × Int × Int) := if hasB n root = true then tabsF f n root.toNat 1024 else []
def mapsA (f : Nat → UInt8) (n : Nat) (root : Int) : List (Int × Int × Int) := if hasB n root = true then mapsF f (tabsF f n root.toNat 1024) else []
theorem tabsA_len (f : Nat → UInt8) (n : Nat) (root : Int) : (tabsA f n root).length ≤ 2000000 := by
  unfold tabsA
  split
  · have := tabsF_len f n root.toNat 1024
    omega
  · exact Nat.zero_le _
theorem mapsA_len (f : Nat → UInt8) (n : Nat) (root : Int) : (mapsA f n root).length ≤ 2000000 := by
  unfold mapsA
  split
  · have h1 := tabsF_len f n root.toNat 1024
    have h2 := mapsF_len f (tabsF f n root.toNat 1024)
    omega
  · exact Nat.zero_le _

theorem tables_all {U : Nat → Prop} {w : World} {bm n : Nat} {f : Nat → UInt8} (h : MemAt U w bm n f) (root : Int) :
    Calls Tryz.prog 47 #[.pointer (some ⟨bm, 0, none⟩), .int .i64 root] w fun e w' => ∃ v, e = .returned (.tuple #[v, .int .i64 (errA n root : Nat)]) ∧ MkR w v (tabsA f n root) w' := by
  unfold errA tabsA
  by_cases hb : hasB n root = true
  · rw [if_pos hb, if_pos hb]
    obtain ⟨r, rfl, hr⟩ := hasB_nat hb
    exact tables_ok h r hr
  · rw [if_neg hb, if_neg hb]
    refine (tables_no h root (by simpa using hb)).mono ?_
    rintro e w' ⟨rfl, ho⟩
    exact ⟨_, rfl, MkR.start ho⟩
theorem mappings_all {U : Nat → Prop} {w : World} {bm n : Nat} {f : Nat → UInt8} (h : MemAt U w bm n f) (root : Int) :
    Calls Tryz.prog 51 #[.pointer (some ⟨bm, 0, none⟩), .int .i64 root] w fun e w' => ∃ v, e = .returned (.tuple #[v, .int .i64 (errA n root : Nat)]) ∧ MkR w v (mapsA f n root) w' := by
  unfold errA mapsA
  by_cases hb : hasB n root = true
  · rw [if_pos hb, if_pos hb]
    obtain ⟨r, rfl, hr⟩ := hasB_nat hb
    exact mappings_ok h r hr
  · rw [if_neg hb, if_neg hb]
    refine (mappings_no h root (by simpa using hb)).mono ?_
    rintro e w' ⟨rfl, ho⟩
    exact ⟨_, rfl, MkR.start ho⟩
theorem refTables_all {w : World} {br bb n : Nat} {f : Nat → UInt8} (h : RefAt w br bb n f) (root : Int) :
    Calls Tryz.prog 48 #[.pointer (some ⟨br, 0, none⟩), .int .i64 root] w fun e w' => ∃ v, e = .returned (.tuple #[v, .int .i64 (errA n root : Nat)]) ∧ MkR w v (tabsA f n root) w' := by
  unfold errA tabsA
  by_cases hb : hasB n root = true
  · rw [if_pos hb, if_pos hb]
    obtain ⟨r, rfl, hr⟩ := hasB_nat hb
    exact refTables_ok h r hr
  · rw [if_neg hb, if_neg hb]
    refine (refTables_no h root (by simpa using hb)).mono ?_
    rintro e w' ⟨rfl, ho⟩
    exact ⟨_, rfl, MkR.start ho⟩
theorem refMappings_all {w : World} {br bb n : Nat} {f : Nat → UInt8} (h : RefAt w br bb n f) (root : Int) :
    Calls Tryz.prog 52 #[.pointer (some ⟨br, 0, none⟩), .int .i64 root] w fun e w' => ∃ v, e = .returned (.tuple #[v, .int .i64 (errA n root : Nat)]) ∧ MkR w v (mapsA f n root) w' := by
  unfold errA mapsA
  by_cases hb : hasB n root = true
  · rw [if_pos hb, if_pos hb]
    obtain ⟨r, rfl, hr⟩ := hasB_nat hb
    exact refMappings_ok h r hr
  · rw [if_neg hb, if_neg hb]
    refine (refMappings_no h root (by simpa using hb)).mono ?_
    rintro e w' ⟨rfl, ho⟩
    exact ⟨_, rfl, MkR.start ho⟩
/-- What such a step leaves. -/
def LsR (B : Nat → Prop) (w : World) (sb : Nat) (v : Value) (ss : List Value) (w' : World) : Prop := ∃ w3 l, Only (fun _ => False) w w3 ∧ (∀ k, l.ownBlock = some k → w.heap.size ≤ k) ∧ (∀ k, l.ownBlock = some k → k < w3.heap.size) ∧ OmR B w3 sb v l ss w'
set_option maxRecDepth 100000 in
set_option maxHeartbeats 4000000 in
theorem spaces_tables {U Bk : Nat → Prop} {w : World} {sb bm br bb n : Nat} {f : Nat → UInt8} {v : Value} {ss : List Value} (h : StAt U w sb bm br bb n f f) (h4 : SbM w sb v) (h5 : BkM Bk w sb v ss) (hBl : ∀ k, Bk k → k < w.heap.size) (hBs : ¬ Bk sb) (hlen : ss.length ≤ 1000000) (A B C D : Int) (hA : I64 A) (hC : I64 C) (s : List UInt8) :
    Calls Tryz.prog 13 #[.pointer (some ⟨sb, 0, none⟩), .agg (opv 13 A B C D ⟨s.toArray⟩)] w fun e w' => e = .returned (.bool true) ∧ LsR Bk w sb v ss w' := by
  have hB0 := MvI.begin h 13 A B C D s
  obtain ⟨wA, hwA⟩ : ∃ wA, wA = w.alloc (.cells (opv 13 A B C D ⟨s.toArray⟩) 51) := ⟨_, rfl⟩
  rw [← hwA] at hB0
  have hoA : Only (fun _ => False) w wA := by rw [hwA]; exact (Only.refl _ w).alloc _
  have HPA := Vx.hid (pageL_any hB0.st A hA)
  have HPC := Vx.hid (pageL_any hB0.st C hC)
  generalize nearF A n = pa at HPA
  generalize nearF C n = pc at HPC
  have HM : Hid (Calls Tryz.prog 47 #[.pointer (some ⟨bm, 0, none⟩), .int .i64 pa] wA fun e w' => ∃ l, e = .returned (.tuple #[l, .int .i64 (errA n pa : Nat)]) ∧ MkR wA l (tabsA f n pa) w') := tables_all hB0.st.m pa
  have HR : Hid (∀ wv, Only (fun _ => False) wA wv → Calls Tryz.prog 48 #[.pointer (some ⟨br, 0, none⟩), .int .i64 pa] wv fun e w' => ∃ l, e = .returned (.tuple #[l, .int .i64 (errA n pa : Nat)]) ∧ MkR wv l (tabsA f n pa) w') := fun wv hv => refTables_all (hB0.st.only hv).r pa
  have HLN := Vx.hid (tabsA_len f n pa)
  generalize tabsA f n pa = ms at HM HR HLN
  generalize errA n pa = er at HM HR
  have HSM := Vx.hid (fun wv l k (h1 : Vx.OwnM wv wA.heap.size 104 l ms) b2 (h2 : Vx.OwnM wv b2 104 k ms) => sameMaps_ok h1 h2 HLN.out)
  have HOM : Hid (∀ wv l, Only (fun _ => False) wA wv → Vx.OwnM wv wA.heap.size 104 l ms → Calls Tryz.prog 50 #[.pointer (some ⟨sb, 68, none⟩), l] wv fun e w' => e = .returned (.tuple #[]) ∧ LsR Bk w sb v ss w') := fun wv l hv hl => by
    have hsA : w.heap.size ≤ wA.heap.size := hoA.size
    refine (ownMaps_ok (h5.only (hoA.trans hv) (fun _ _ h => h) (fun h => h)) hlen hl hv.size HLN.out (fun k hk => ?_) hBs ((h4.only (hoA.trans hv) (fun h => h)).has 70 (by decide)).2).mono ?_
    · have h1 := (World.ownsRow.lt hl k hk).1
      refine ⟨fun hb => ?_, fun e => ?_⟩
      · have := hBl k hb; omega
      · have := h4.lt; omega
    · rintro e w' ⟨rfl, hom⟩
      exact ⟨rfl, wv, l, hoA.trans hv, fun k hk => Nat.le_trans hsA (World.ownsRow.lt hl k hk).1, fun k hk => (World.ownsRow.lt hl k hk).2, hom⟩
  have HC0 : Hid (∀ wv, Only (fun _ => False) wA wv → wv.cell? ⟨sb, 0, none⟩ = some (.pointer (some ⟨bm, 0, none⟩)) ∧ wv.cell? ⟨sb, 1, none⟩ = some (.pointer (some ⟨br, 0, none⟩))) := fun wv hv => ⟨(hB0.st.only hv).c0, (hB0.st.only hv).c1⟩
  have c0 := hB0.st.c0
  obtain ⟨x, hxe, hxl⟩ : ∃ x : Nat, IntKind.u32.wrap B = (x : Int) ∧ x < 4294967296 := ⟨(B % 4294967296).toNat, by rw [IntKind.wrap_u32]; omega, by omega⟩
  have hk0 : wA.cell? ⟨w.heap.size, 0, none⟩ = some (.int .i64 13) := by rw [hwA, cell_of_row _ _ 0 _ _ (0, 0) (heap_alloc_last w _)]; rfl
  obtain ⟨hk1, hk2, hk3, _⟩ := hB0.op.cells
  obtain ⟨p, hp⟩ : ∃ p : ByteArray, p = ⟨s.toArray⟩ := ⟨_, rfl⟩
  rw [← hp] at hwA ⊢
  clear h hB0 hA hC hp hxl h4 h5 hBl hBs hlen hoA
  unfold opv at *
  go_enter Tryz.func13, Tryz.ntmps13
  go_wp2_with fail
  rw [← hwA]
  refine HPA.out.mono ?_
  rintro e w' ⟨rfl, h⟩
  have h2 := h.symm; clear h; subst h2
  clear hwA
  generalize w.heap.size = ob at *
  go_wp2_with fail
  refine HPC.out.mono ?_
  rintro e w' ⟨rfl, h⟩
  have h2 := h.symm; clear h; subst h2
  go_wp2_with fail
  refine HM.out.mono ?_
  rintro e w2 ⟨l, rfl, hl⟩
  have HL := Vx.hid hl
  obtain ⟨_, c1⟩ := HC0.out _ hl.on
  clear hl
  go_wp2_with fail
  refine (HR.out _ HL.out.on).mono ?_
  rintro e w3 ⟨k, rfl, hk⟩
  have HK := Vx.hid hk
  clear hk
  go_wp2_with fail
  refine (HSM.out w3 l k (HL.out.o.quiet HK.out.on) _ HK.out.o).mono ?_
  rintro e w4 ⟨rfl, ho4⟩
  have HO4 := Vx.hid ho4
  clear ho4
  go_wp2_with fail
  refine (HOM.out w4 l ((HL.out.on.trans HK.out.on).trans HO4.out) ((HL.out.o.quiet HK.out.on).quiet HO4.out)).mono ?_
  rintro e w5 ⟨rfl, h5⟩
  have H5 := Vx.hid h5
  clear h5
  go_wp2_with fail
  all_goals
    go_ret
    exact ⟨rfl, H5.out⟩
set_option maxRecDepth 100000 in
set_option maxHeartbeats 4000000 in
theorem spaces_maps {U Bk : Nat → Prop} {w : World} {sb bm br bb n : Nat} {f : Nat → UInt8} {v : Value} {ss : List Value} (h : StAt U w sb bm br bb n f f) (h4 : SbM w sb v) (h5 : BkM Bk w sb v ss) (hBl : ∀ k, Bk k → k < w.heap.size) (hBs : ¬ Bk sb) (hlen : ss.length ≤ 1000000) (A B C D : Int) (hA : I64 A) (hC : I64 C) (s : List UInt8) :
    Calls Tryz.prog 13 #[.pointer (some ⟨sb, 0, none⟩), .agg (opv 14 A B C D ⟨s.toArray⟩)] w fun e w' => e = .returned (.bool true) ∧ LsR Bk w sb v ss w' := by
  have hB0 := MvI.begin h 14 A B C D s
  obtain ⟨wA, hwA⟩ : ∃ wA, wA = w.alloc (.cells (opv 14 A B C D ⟨s.toArray⟩) 51) := ⟨_, rfl⟩
  rw [← hwA] at hB0
  have hoA : Only (fun _ => False) w wA := by rw [hwA]; exact (Only.refl _ w).alloc _
  have HPA := Vx.hid (pageL_any hB0.st A hA)
  have HPC := Vx.hid (pageL_any hB0.st C hC)
  generalize nearF A n = pa at HPA
  generalize nearF C n = pc at HPC
  have HM : Hid (Calls Tryz.prog 51 #[.pointer (some ⟨bm, 0, none⟩), .int .i64 pa] wA fun e w' => ∃ l, e = .returned (.tuple #[l, .int .i64 (errA n pa : Nat)]) ∧ MkR wA l (mapsA f n pa) w') := mappings_all hB0.st.m pa
  have HR : Hid (∀ wv, Only (fun _ => False) wA wv → Calls Tryz.prog 52 #[.pointer (some ⟨br, 0, none⟩), .int .i64 pa] wv fun e w' => ∃ l, e = .returned (.tuple #[l, .int .i64 (errA n pa : Nat)]) ∧ MkR wv l (mapsA f n pa) w') := fun wv hv => refMappings_all (hB0.st.only hv).r pa
  have HLN := Vx.hid (mapsA_len f n pa)
  generalize mapsA f n pa = ms at HM HR HLN
  generalize errA n pa = er at HM HR
  have HSM := Vx.hid (fun wv l k (h1 : Vx.OwnM wv wA.heap.size 104 l ms) b2 (h2 : Vx.OwnM wv b2 104 k ms) => sameMaps_ok h1 h2 HLN.out)
  have HOM : Hid (∀ wv l, Only (fun _ => False) wA wv → Vx.OwnM wv wA.heap.size 104 l ms → Calls Tryz.prog 50 #[.pointer (some ⟨sb, 68, none⟩), l] wv fun e w' => e = .returned (.tuple #[]) ∧ LsR Bk w sb v ss w') := fun wv l hv hl => by
    have hsA : w.heap.size ≤ wA.heap.size := hoA.size
    refine (ownMaps_ok (h5.only (hoA.trans hv) (fun _ _ h => h) (fun h => h)) hlen hl hv.size HLN.out (fun k hk => ?_) hBs ((h4.only (hoA.trans hv) (fun h => h)).has 70 (by decide)).2).mono ?_
    · have h1 := (World.ownsRow.lt hl k hk).1
      refine ⟨fun hb => ?_, fun e => ?_⟩
      · have := hBl k hb; omega
      · have := h4.lt; omega
    · rintro e w' ⟨rfl, hom⟩
      exact ⟨rfl, wv, l, hoA.trans hv, fun k hk => Nat.le_trans hsA (World.ownsRow.lt hl k hk).1, fun k hk => (World.ownsRow.lt hl k hk).2, hom⟩
  have HC0 : Hid (∀ wv, Only (fun _ => False) wA wv → wv.cell? ⟨sb, 0, none⟩ = some (.pointer (some ⟨bm, 0, none⟩)) ∧ wv.cell? ⟨sb, 1, none⟩ = some (.pointer (some ⟨br, 0, none⟩))) := fun wv hv => ⟨(hB0.st.only hv).c0, (hB0.st.only hv).c1⟩
  have c0 := hB0.st.c0
  obtain ⟨x, hxe, hxl⟩ : ∃ x : Nat, IntKind.u32.wrap B = (x : Int) ∧ x < 4294967296 := ⟨(B % 4294967296).toNat, by rw [IntKind.wrap_u32]; omega, by omega⟩
  have hk0 : wA.cell? ⟨w.heap.size, 0, none⟩ = some (.int .i64 14) := by rw [hwA, cell_of_row _ _ 0 _ _ (0, 0) (heap_alloc_last w _)]; rfl
  obtain ⟨hk1, hk2, hk3, _⟩ := hB0.op.cells
  obtain ⟨p, hp⟩ : ∃ p : ByteArray, p = ⟨s.toArray⟩ := ⟨_, rfl⟩
  rw [← hp] at hwA ⊢
  clear h hB0 hA hC hp hxl h4 h5 hBl hBs hlen hoA
  unfold opv at *
  go_enter Tryz.func13, Tryz.ntmps13
  go_wp2_with fail
  rw [← hwA]
  refine HPA.out.mono ?_
  rintro e w' ⟨rfl, h⟩
  have h2 := h.symm; clear h; subst h2
  clear hwA
  generalize w.heap.size = ob at *
  go_wp2_with fail
  refine HPC.out.mono ?_
  rintro e w' ⟨rfl, h⟩
  have h2 := h.symm; clear h; subst h2
  go_wp2_with fail
  refine HM.out.mono ?_
  rintro e w2 ⟨l, rfl, hl⟩
  have HL := Vx.hid hl
  obtain ⟨_, c1⟩ := HC0.out _ hl.on
  clear hl
  go_wp2_with fail
  refine (HR.out _ HL.out.on).mono ?_
  rintro e w3 ⟨k, rfl, hk⟩
  have HK := Vx.hid hk
  clear hk
  go_wp2_with fail
  refine (HSM.out w3 l k (HL.out.o.quiet HK.out.on) _ HK.out.o).mono ?_
  rintro e w4 ⟨rfl, ho4⟩
  have HO4 := Vx.hid ho4
  clear ho4
  go_wp2_with fail
  refine (HOM.out w4 l ((HL.out.on.trans HK.out.on).trans HO4.out) ((HL.out.o.quiet HK.out.on).quiet HO4.out)).mono ?_
  rintro e w5 ⟨rfl, h5⟩
  have H5 := Vx.hid h5
  clear h5
  go_wp2_with fail
  all_goals
    go_ret
    exact ⟨rfl, H5.out⟩
end Go.Proofs.YtflmobffeeocdaaGreatDoor

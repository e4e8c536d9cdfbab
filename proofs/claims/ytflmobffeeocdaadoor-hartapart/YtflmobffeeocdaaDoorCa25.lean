import Derived.Test.YtflmobffeeocdaaDoorCa22
/- Walks of package hart: fetch, where the walk ends well. -/
namespace Go.Proofs.YtflmobffeeocdaaDoor
open Go.ChangeShapes Go.WideShapes Go.ChangeAt Go.RowKit
open Go.Vx

theorem only_of_below {w w' : World} (h : Below w.heap.size w w') : Only (fun _ => False) w w' := Only.of_below h (fun k h1 h2 => by omega)
theorem FormsAt.only {S : Nat → Prop} {w w' : World} (h : FormsAt w) (ho : Only S w w') (hS : ¬ S 0) : FormsAt w' := by
  refine ⟨Nat.lt_of_lt_of_le h.1 ho.size, fun op h0 h1 => ?_⟩
  rw [ho.cell (p := ⟨0, op.toNat * 2, none⟩) h.1 hS, ho.cell (p := ⟨0, op.toNat * 2 + 1, none⟩) h.1 hS]
  exact h.2 op h0 h1
/-- What fetch makes of a word. -/
def FetP (x : Nat) (i : Ins) (e : Ending) : Prop := (i.op = 0 ∧ e = .panicked (trapP 2 x)) ∨ (i.op ≠ 0 ∧ e = .returned (insV i))
set_option maxRecDepth 100000 in
set_option maxHeartbeats 4000000 in
theorem fetch_good {U : Nat → Prop} {w : World} {bm n cb off pc : Nat} {R : Nat → Nat} {f : Nat → UInt8} (h : MemAt U w bm n f) (hus : UsesAt w) (hmi : MisAt w) (hfo : FormsAt w) (hc : CtxAt w cb off R pc) (hpc : pc < 4294967296) (root : Int) (a : Nat) (hp : placeF f n root pc 4 0 = .ok a) :
    Calls Tryd.prog 30 #[.agg #[.pointer (some ⟨bm, 0, none⟩), .int .i64 root, .pointer (some ⟨cb, off, none⟩)]] w fun e w' => FetP (wordF f a) (dec (wordF f a : Nat)) e ∧ Only (fun _ => False) w w' := by
  have hin := place_in (Or.inr (Or.inr rfl)) hp
  have HPL : Hid (∀ wv, Only (fun _ => False) w wv → Calls Tryd.prog 44 #[.agg #[.pointer (some ⟨bm, 0, none⟩), .int .i64 root, .pointer (some ⟨cb, off, none⟩)], .int .u32 (pc : Int), .int .u32 4, .int .i64 0] wv fun e w' => e = .returned (.int .i64 (a : Nat)) ∧ Hid (Only (fun _ => False) wv w')) := fun wv hv => by
    refine (hplace_any (h.only hv (fun _ h _ => h.elim)) (hus.only hv (fun h => h)) (hmi.only hv (fun h => h)) root ⟨cb, off, none⟩ pc hpc 4 (by decide) (by decide) 0 (by decide)).mono ?_
    rintro e w' ⟨⟨c', t', h1, _⟩ | ⟨a', h1, rfl⟩, ho⟩
    · rw [hp] at h1; cases h1
    · rw [hp] at h1
      injection h1 with h1
      subst h1
      exact ⟨rfl, ho⟩
  have HWD : Hid (∀ wv, Only (fun _ => False) w wv → Calls Tryd.prog 42 #[.pointer (some ⟨bm, 0, none⟩), .int .i64 (a : Nat)] wv fun e w' => e = .returned (.tuple #[.int .u32 (wordF f a : Nat), .int .i64 0]) ∧ Hid (Only (fun _ => False) wv w')) := fun wv hv => by
    refine (word_ok (h.only hv (fun _ h _ => h.elim)) a hin.1 hin.2).mono ?_
    rintro e w' ⟨rfl, ho⟩
    exact ⟨rfl, ho⟩
  have hwl := wordF_lt f a
  have HDE : Hid (∀ wv, Only (fun _ => False) w wv → Calls Tryd.prog 39 #[.int .u32 (wordF f a : Nat)] wv fun e w' => e = .returned (insV (dec (wordF f a : Nat))) ∧ Hid (Only (fun _ => False) wv w')) := fun wv hv => by
    refine (decode_any (wordF f a : Nat) (by omega) (by omega) wv (hfo.only hv (fun h => h))).mono ?_
    rintro e w' ⟨rfl, hb⟩
    exact ⟨rfl, only_of_below hb⟩
  have hl : cb < w.heap.size := World.block_lt_of_cell? w _ hc.p
  have hcp := hc.p
  generalize wordF f a = x at HWD HDE hwl ⊢
  obtain ⟨⟨op, rd, r1, r2, im⟩, hd⟩ : ∃ i, dec (x : Nat) = i := ⟨_, rfl⟩
  rw [hd] at HDE ⊢
  clear h hus hmi hc hpc hp hin hfo hd hwl
  unfold insV at *
  simp only at *
  go_enter Tryd.func30, Tryd.ntmps30
  go_wp2_with fail
  obtain ⟨W1, hW1⟩ : ∃ W1, W1 = ((w.alloc (.cells #[.pointer (some ⟨bm, 0, none⟩), .int .i64 root, .pointer (some ⟨cb, off, none⟩)] 61)).alloc (.cells #[.int .i64 0, .int .i64 0, .int .i64 0, .int .i64 0, .int .i64 0] 66)) := ⟨_, rfl⟩
  have HO1 : Hid (Only (fun _ => False) w W1) := by rw [hW1]; exact ((Only.refl _ w).alloc _).alloc _
  have hb : W1.heap[w.heap.size]? = some (.cells #[.pointer (some ⟨bm, 0, none⟩), .int .i64 root, .pointer (some ⟨cb, off, none⟩)] 61 (0, 0)) := by
    rw [hW1, RowKit.Below.heap_alloc _ _ _ (by simp)]; exact heap_alloc_last w _
  have hz : W1.heap[w.heap.size + 1]? = some (.cells #[.int .i64 0, .int .i64 0, .int .i64 0, .int .i64 0, .int .i64 0] 66 (0, 0)) := by
    rw [hW1]
    have := heap_alloc_last (w.alloc (.cells #[.pointer (some ⟨bm, 0, none⟩), .int .i64 root, .pointer (some ⟨cb, off, none⟩)] 61)) (.cells #[.int .i64 0, .int .i64 0, .int .i64 0, .int .i64 0, .int .i64 0] 66)
    simpa using this
  have g0 : W1.cell? ⟨w.heap.size, 0, none⟩ = some (.pointer (some ⟨bm, 0, none⟩)) := by rw [cell_of_row _ _ 0 _ _ (0, 0) hb]; rfl
  have g1 : W1.cell? ⟨w.heap.size, 1, none⟩ = some (.int .i64 root) := by rw [cell_of_row _ _ 1 _ _ (0, 0) hb]; rfl
  have g2 : W1.cell? ⟨w.heap.size, 2, none⟩ = some (.pointer (some ⟨cb, off, none⟩)) := by rw [cell_of_row _ _ 2 _ _ (0, 0) hb]; rfl
  have g3 : W1.cell? ⟨cb, off + 32, none⟩ = some (.int .u32 (pc : Int)) := by rw [HO1.out.cell (p := ⟨cb, off + 32, none⟩) hl (fun h => h)]; exact hcp
  have hgl : w.heap.size < W1.heap.size := lt_of_some hb
  have hcl : cb < W1.heap.size := Nat.lt_of_lt_of_le hl HO1.out.size
  rw [← hW1]
  have HZ := Vx.hid hz
  clear hW1 hb hcp hz
  obtain ⟨g, hg⟩ : ∃ g, g = w.heap.size := ⟨_, rfl⟩
  rw [← hg] at g0 g1 g2 hl hgl HZ ⊢
  have HG : Hid (w.heap.size ≤ g) := by show w.heap.size ≤ g; omega
  clear hg
  have HS : Hid (∀ wv, Only (fun _ => False) W1 wv → wv.cell? ⟨g, 0, none⟩ = some (.pointer (some ⟨bm, 0, none⟩)) ∧ wv.cell? ⟨g, 1, none⟩ = some (.int .i64 root) ∧ wv.cell? ⟨g, 2, none⟩ = some (.pointer (some ⟨cb, off, none⟩)) ∧ wv.cell? ⟨cb, off + 32, none⟩ = some (.int .u32 (pc : Int))) := fun wv hv =>
    ⟨by rw [hv.cell (p := ⟨g, 0, none⟩) hgl (fun h => h)]; exact g0, by rw [hv.cell (p := ⟨g, 1, none⟩) hgl (fun h => h)]; exact g1, by rw [hv.cell (p := ⟨g, 2, none⟩) hgl (fun h => h)]; exact g2, by rw [hv.cell (p := ⟨cb, off + 32, none⟩) hcl (fun h => h)]; exact g3⟩
  have HK : Hid (Hid (Only (fun _ => False) W1 W1.drew)) := (Only.refl (fun _ => False) W1).drew
  go_region_held3 (fun wv => Hid (Only (fun _ => False) W1 wv) ∧ wv.cell? ⟨g, 0, none⟩ = some (.pointer (some ⟨bm, 0, none⟩)) ∧ wv.cell? ⟨g, 1, none⟩ = some (.int .i64 root) ∧ wv.cell? ⟨g, 2, none⟩ = some (.pointer (some ⟨cb, off, none⟩)) ∧ wv.cell? ⟨cb, off + 32, none⟩ = some (.int .u32 (pc : Int))) (first | exact ⟨HK.out, HS.out _ HK.out⟩ | exact ⟨h7, HS.out _ h7⟩ | exact ⟨h6, HS.out _ h6⟩) (first | (go_at_call 44; refine (HPL.out _ (HO1.out.trans HK.out)).mono ?_; rintro e w5 ⟨rfl, h5⟩; have h6 := Vx.hid (HK.out.trans h5)) | (go_at_call 42; refine (HWD.out _ (HO1.out.trans h6)).mono ?_; rintro e w6 ⟨rfl, h5⟩; have h7 := Vx.hid (h6.out.trans h5)))
  go_wp2_with fail
  refine (HDE.out _ (HO1.out.trans h7)).mono ?_
  rintro z w8 ⟨rfl, h8⟩
  have H9 := Vx.hid (h7.out.trans h8)
  have hz8 : w8.heap[g + 1]? = some (.cells #[.int .i64 0, .int .i64 0, .int .i64 0, .int .i64 0, .int .i64 0] 66 (0, 0)) := by
    rw [H9.out.block (g + 1) (lt_of_some HZ.out) (fun h => h)]; exact HZ.out
  have hlt : g + 1 < w8.heap.size := lt_of_some hz8
  have HH : Hid (w.heap.size ≤ g) := HG
  have z0 : w8.cell? ⟨g + 1, 0, none⟩ = some (.int .i64 0) := by rw [cell_of_row _ _ 0 _ _ (0, 0) hz8]; rfl
  have y0 : w8.frozen? ⟨g + 1, 0, none⟩ = false := by simp [World.frozen?, hz8]
  have z1 : w8.cell? ⟨g + 1, 1, none⟩ = some (.int .i64 0) := by rw [cell_of_row _ _ 1 _ _ (0, 0) hz8]; rfl
  have y1 : w8.frozen? ⟨g + 1, 1, none⟩ = false := by simp [World.frozen?, hz8]
  have z2 : w8.cell? ⟨g + 1, 2, none⟩ = some (.int .i64 0) := by rw [cell_of_row _ _ 2 _ _ (0, 0) hz8]; rfl
  have y2 : w8.frozen? ⟨g + 1, 2, none⟩ = false := by simp [World.frozen?, hz8]
  have z3 : w8.cell? ⟨g + 1, 3, none⟩ = some (.int .i64 0) := by rw [cell_of_row _ _ 3 _ _ (0, 0) hz8]; rfl
  have y3 : w8.frozen? ⟨g + 1, 3, none⟩ = false := by simp [World.frozen?, hz8]
  have z4 : w8.cell? ⟨g + 1, 4, none⟩ = some (.int .i64 0) := by rw [cell_of_row _ _ 4 _ _ (0, 0) hz8]; rfl
  have y4 : w8.frozen? ⟨g + 1, 4, none⟩ = false := by simp [World.frozen?, hz8]
  clear h8 h7 h6 h5 HDE HWD HPL HS HK g0 g1 g2 g3 hz8
  by_cases ho : op = 0
  · subst ho
    go_wp2_with fail
    all_goals
      refine ⟨rfl, Or.inl ⟨rfl, rfl⟩, (HO1.out.trans H9.out).alloc _⟩
  · have hb0 : (op == 0) = false := by simpa using ho
    go_wp2_with fail
    refine bodyPost_ret (v := insV ⟨op, rd, r1, r2, im⟩) ?_ rfl ⟨Or.inr ⟨ho, rfl⟩, ?_⟩
    · simp [results, Tryd.results30, go_sem, insV, hlt, z0, z1, z2, z3, z4]
    · have hh : w.heap.size ≤ g + 1 := Nat.le_succ_of_le HH.out
      exact ((((((HO1.out.trans H9.out).setCell (p := ⟨g + 1, 0, none⟩) (Or.inr hh) _).setCell (p := ⟨g + 1, 1, none⟩) (Or.inr hh) _).setCell (p := ⟨g + 1, 2, none⟩) (Or.inr hh) _).setCell (p := ⟨g + 1, 3, none⟩) (Or.inr hh) _).setCell (p := ⟨g + 1, 4, none⟩) (Or.inr hh) _).alloc _
end Go.Proofs.YtflmobffeeocdaaDoor

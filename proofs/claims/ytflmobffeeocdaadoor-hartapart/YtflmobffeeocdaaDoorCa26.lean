import Derived.Test.YtflmobffeeocdaaDoorCa24
import Derived.Test.YtflmobffeeocdaaDoorCa25
/- Walks of package hart: what run leaves. -/
namespace Go.Proofs.YtflmobffeeocdaaDoor
open Go.ChangeShapes Go.WideShapes Go.ChangeAt Go.RowKit
open Go.Vx

/-- A hart's registers and pc, in a block. -/
structure CxAt (w : World) (cb off : Nat) (T : TypeId) (cs : Array Value) (R : Nat → Nat) (pc : Nat) : Prop where
  b : w.heap[cb]? = some (.cells cs T (0, 0))
  r : ∀ i, i < 32 → cs[off + i]? = some (.int .u32 (R i : Nat))
  p : cs[off + 32]? = some (.int .u32 (pc : Int))
theorem CxAt.ctx {w : World} {cb off : Nat} {T : TypeId} {cs : Array Value} {R : Nat → Nat} {pc : Nat} (h : CxAt w cb off T cs R pc) : CtxAt w cb off R pc :=
  ⟨fun i hi => by rw [cell_of_row _ _ (off + i) _ _ (0, 0) h.b]; exact h.r i hi, by rw [cell_of_row _ _ (off + 32) _ _ (0, 0) h.b]; exact h.p⟩
theorem CxAt.only {S : Nat → Prop} {w w' : World} {cb off : Nat} {T : TypeId} {cs : Array Value} {R : Nat → Nat} {pc : Nat} (h : CxAt w cb off T cs R pc) (ho : Only S w w') (hS : ¬ S cb) : CxAt w' cb off T cs R pc :=
  ⟨by rw [ho.block cb (lt_of_some h.b) hS]; exact h.b, h.r, h.p⟩
theorem CxAt.fz {w : World} {cb off : Nat} {T : TypeId} {cs : Array Value} {R : Nat → Nat} {pc : Nat} (h : CxAt w cb off T cs R pc) (j : Nat) : w.frozen? ⟨cb, j, none⟩ = false := by
  have h1 := h.b
  simp [World.frozen?, h1]
/-- All but the registers and the pc is as it was. -/
def Beside (cs cs' : Array Value) (off : Nat) : Prop := cs'.size = cs.size ∧ ∀ j, (j < off ∨ off + 33 ≤ j) → cs'[j]? = cs[j]?
theorem Beside.trans {a b c : Array Value} {off : Nat} (h : Beside a b off) (k : Beside b c off) : Beside a c off := ⟨k.1.trans h.1, fun j hj => (k.2 j hj).trans (h.2 j hj)⟩
theorem CxAt.setPc {w : World} {cb off : Nat} {T : TypeId} {cs : Array Value} {R : Nat → Nat} {pc : Nat} (h : CxAt w cb off T cs R pc) (v : Nat) :
    ∃ cs', CxAt (w.setCell ⟨cb, off + 32, none⟩ (.int .u32 (v : Int))) cb off T cs' R v ∧ Beside cs cs' off := by
  have hlt : off + 32 < cs.size := (Array.getElem?_eq_some_iff.1 h.p).1
  refine ⟨cs.setIfInBounds (off + 32) (.int .u32 (v : Int)), ⟨heap_setCell_same _ _ _ _ _ _ h.b, fun i hi => ?_, ?_⟩, by simp, fun j hj => ?_⟩
  · rw [Array.getElem?_setIfInBounds, if_neg (by omega)]; exact h.r i hi
  · rw [Array.getElem?_setIfInBounds, if_pos rfl, if_pos hlt]
  · rw [Array.getElem?_setIfInBounds, if_neg (by omega)]
theorem CxAt.setR {w : World} {cb off : Nat} {T : TypeId} {cs : Array Value} {R : Nat → Nat} {pc : Nat} (h : CxAt w cb off T cs R pc) (rd v : Nat) (hrd : rd < 32) (h0 : rd ≠ 0) :
    ∃ cs', CxAt (w.setCell ⟨cb, off + rd, none⟩ (.int .u32 (v : Int))) cb off T cs' (Vx.setR R rd v) pc ∧ Beside cs cs' off := by
  have hlt : off + 32 < cs.size := (Array.getElem?_eq_some_iff.1 h.p).1
  refine ⟨cs.setIfInBounds (off + rd) (.int .u32 (v : Int)), ⟨heap_setCell_same _ _ _ _ _ _ h.b, fun i hi => ?_, ?_⟩, by simp, fun j hj => ?_⟩
  · rw [Array.getElem?_setIfInBounds]
    unfold Vx.setR
    rw [if_neg h0]
    by_cases hi2 : i = rd
    · rw [if_pos (by omega), if_pos (by omega), if_pos hi2]
    · rw [if_neg (by omega), if_neg hi2]; exact h.r i hi
  · rw [Array.getElem?_setIfInBounds, if_neg (by omega)]; exact h.p
  · rw [Array.getElem?_setIfInBounds, if_neg (by omega)]
theorem place_mod {f : Nat → UInt8} {n : Nat} {root : Int} {va len u a : Nat} (h : placeF f n root va len u = .ok a) : va % len = 0 := by
  unfold placeF placeG at h
  split at h
  · cases h
  · rename_i h1
    simpa using h1
theorem next_mod {pc : Nat} (h4 : pc % 4 = 0) : m32 ((pc : Int) + 4) % 4 = 0 := by unfold m32; omega
theorem setR_zero (R : Nat → Nat) (v : Nat) : Vx.setR R 0 v = R := if_pos rfl
theorem toF_next {op a b : Nat} {im : Int} {pc : Nat} (h : op ≠ 3 ∧ op ≠ 4 ∧ (op < 5 ∨ 10 < op)) : toF op a b im pc = m32 ((pc : Int) + 4) := by
  unfold toF
  rw [if_neg (by omega), if_neg (by omega), if_neg (by omega)]
theorem exe_sum {f : Nat → UInt8} {n : Nat} {root : Int} {R : Nat → Nat} {pc op rd a b : Nat} {im : Int} (h4 : pc % 4 = 0) (h : (28 ≤ op ∧ op ≤ 37) ∨ (41 ≤ op ∧ op ≤ 48)) : exeF f n root R pc op rd a b im = .ok (f, Vx.setR R rd (arithF op a b), m32 ((pc : Int) + 4)) := by
  unfold exeF
  rw [if_neg (by omega), if_neg (by omega), if_neg (by omega), if_neg (by omega), toF_next (by omega), if_pos (by unfold setsB; simp; omega)]
  unfold plainG
  rw [if_neg (by have := next_mod h4; omega)]
  unfold valF
  rw [if_neg (by omega), if_neg (by omega), if_neg (by omega), if_neg (by omega)]
theorem exe_imm {f : Nat → UInt8} {n : Nat} {root : Int} {R : Nat → Nat} {pc op rd a b : Nat} {im : Int} (h4 : pc % 4 = 0) (h : 19 ≤ op ∧ op ≤ 27) : exeF f n root R pc op rd a b im = .ok (f, Vx.setR R rd (arithF op a (m32 im)), m32 ((pc : Int) + 4)) := by
  unfold exeF
  rw [if_neg (by omega), if_neg (by omega), if_neg (by omega), if_neg (by omega), toF_next (by omega), if_pos (by unfold setsB; simp; omega)]
  unfold plainG
  rw [if_neg (by have := next_mod h4; omega)]
  unfold valF
  rw [if_neg (by omega), if_neg (by omega), if_neg (by omega), if_pos h]
theorem exe_lui {f : Nat → UInt8} {n : Nat} {root : Int} {R : Nat → Nat} {pc rd a b : Nat} {im : Int} (h4 : pc % 4 = 0) : exeF f n root R pc 1 rd a b im = .ok (f, Vx.setR R rd (m32 (im * 4096)), m32 ((pc : Int) + 4)) := by
  unfold exeF
  rw [if_neg (by omega), if_neg (by omega), if_neg (by omega), if_neg (by omega), toF_next (by omega), if_pos (by rfl)]
  unfold plainG
  rw [if_neg (by have := next_mod h4; omega)]
  rfl
theorem exe_auipc {f : Nat → UInt8} {n : Nat} {root : Int} {R : Nat → Nat} {pc rd a b : Nat} {im : Int} (h4 : pc % 4 = 0) : exeF f n root R pc 2 rd a b im = .ok (f, Vx.setR R rd (m32 ((pc : Int) + im * 4096)), m32 ((pc : Int) + 4)) := by
  unfold exeF
  rw [if_neg (by omega), if_neg (by omega), if_neg (by omega), if_neg (by omega), toF_next (by omega), if_pos (by rfl)]
  unfold plainG
  rw [if_neg (by have := next_mod h4; omega)]
  rfl
theorem exe_fence {f : Nat → UInt8} {n : Nat} {root : Int} {R : Nat → Nat} {pc rd a b : Nat} {im : Int} (h4 : pc % 4 = 0) : exeF f n root R pc 38 rd a b im = .ok (f, R, m32 ((pc : Int) + 4)) := by
  unfold exeF
  rw [if_neg (by omega), if_neg (by omega), if_neg (by omega), if_neg (by omega), toF_next (by omega), if_neg (by decide)]
  unfold plainG
  rw [if_neg (by have := next_mod h4; omega), setR_zero]
theorem exe_jal {f : Nat → UInt8} {n : Nat} {root : Int} {R : Nat → Nat} {pc rd a b : Nat} {im : Int} : exeF f n root R pc 3 rd a b im = plainG f R rd (m32 ((pc : Int) + 4)) (m32 ((pc : Int) + im)) := rfl
theorem exe_jalr {f : Nat → UInt8} {n : Nat} {root : Int} {R : Nat → Nat} {pc rd a b : Nat} {im : Int} : exeF f n root R pc 4 rd a b im = plainG f R rd (m32 ((pc : Int) + 4)) (m32 ((a : Int) + im) - m32 ((a : Int) + im) % 2) := rfl
theorem exe_goes {f : Nat → UInt8} {n : Nat} {root : Int} {R : Nat → Nat} {pc op rd a b : Nat} {im : Int} (h : 5 ≤ op ∧ op ≤ 10) (ht : takesF op a b = true) : ∃ v, exeF f n root R pc op rd a b im = plainG f R 0 v (m32 ((pc : Int) + im)) := by
  refine ⟨valF op a b im pc, ?_⟩
  unfold exeF
  rw [if_neg (by omega), if_neg (by omega), if_neg (by omega), if_neg (by omega), if_neg (by unfold setsB; simp; omega)]
  unfold toF
  rw [if_neg (by omega), if_neg (by omega), if_pos ⟨h.1, h.2, ht⟩]
theorem exe_stays {f : Nat → UInt8} {n : Nat} {root : Int} {R : Nat → Nat} {pc op rd a b : Nat} {im : Int} (h4 : pc % 4 = 0) (h : 5 ≤ op ∧ op ≤ 10) (ht : takesF op a b = false) : exeF f n root R pc op rd a b im = .ok (f, R, m32 ((pc : Int) + 4)) := by
  unfold exeF
  rw [if_neg (by omega), if_neg (by omega), if_neg (by omega), if_neg (by omega), if_neg (by unfold setsB; simp; omega)]
  unfold toF
  rw [if_neg (by omega), if_neg (by omega), if_neg (by rw [ht]; simp)]
  unfold plainG
  rw [if_neg (by have := next_mod h4; omega), setR_zero]
theorem exe_load {f : Nat → UInt8} {n : Nat} {root : Int} {R : Nat → Nat} {pc op rd a b : Nat} {im : Int} (h : 11 ≤ op ∧ op ≤ 15) : exeF f n root R pc op rd a b im = loadG f R pc op rd (placeF f n root (m32 ((a : Int) + im)) (bytesF op) 1) := by
  unfold exeF
  rw [if_neg (by omega), if_neg (by omega), if_pos h]
theorem exe_store {f : Nat → UInt8} {n : Nat} {root : Int} {R : Nat → Nat} {pc op rd a b : Nat} {im : Int} (h : 16 ≤ op ∧ op ≤ 18) : exeF f n root R pc op rd a b im = storeG f R pc op b (placeF f n root (m32 ((a : Int) + im)) (bytesF op) 2) := by
  unfold exeF
  rw [if_neg (by omega), if_neg (by omega), if_neg (by omega), if_pos h]
/-- What run leaves. -/
def RunP (U : Nat → Prop) (w : World) (bm n cb off : Nat) (T : TypeId) (cs : Array Value) (r : StepR) (e : Ending) (w' : World) : Prop :=
  (∃ c t, r = .error (c, t) ∧ e = .panicked (trapP c t) ∧ Only (fun _ => False) w w') ∨
  ∃ f' R' pc', r = .ok (f', R', pc') ∧ e = .returned (.tuple #[]) ∧ MemAt U w' bm n f' ∧ (∃ cs', CxAt w' cb off T cs' R' pc' ∧ Beside cs cs' off) ∧ Only (fun k => ¬ U k ∨ k = cb) w w'
/-- The pc alone is set. -/
theorem run_pc {U : Nat → Prop} {w w6 : World} {bm n cb off : Nat} {T : TypeId} {cs : Array Value} {f' : Nat → UInt8} {R : Nat → Nat} {pc : Nat} (hu : U cb) (hm : MemAt U w6 bm n f') (hc : CxAt w6 cb off T cs R pc) (ho : Only (fun k => ¬ U k) w w6) (dst : Nat) (r : StepR) (hr : r = .ok (f', R, dst)) :
    RunP U w bm n cb off T cs r (.returned (.tuple #[])) (w6.setCell ⟨cb, off + 32, none⟩ (.int .u32 (dst : Int))) := by
  have o1 : Only (fun k => k = cb) w6 (w6.setCell ⟨cb, off + 32, none⟩ (.int .u32 (dst : Int))) := Only.setCell (p := ⟨cb, off + 32, none⟩) (S := fun k => k = cb) (Only.refl _ w6) (Or.inl rfl) _
  exact Or.inr ⟨f', R, dst, hr, rfl, hm.only o1 (fun k hk _ => by rw [hk]; exact hu), hc.setPc dst, (ho.mono (fun _ _ h => Or.inl h)).trans (o1.mono (fun _ _ h => Or.inr h))⟩
/-- A register and the pc are set. -/
theorem run_rd {U : Nat → Prop} {w w6 : World} {bm n cb off : Nat} {T : TypeId} {cs : Array Value} {f' : Nat → UInt8} {R : Nat → Nat} {pc : Nat} (hu : U cb) (hm : MemAt U w6 bm n f') (hc : CxAt w6 cb off T cs R pc) (ho : Only (fun k => ¬ U k) w w6) (rd v dst : Nat) (hrd : rd < 32) (h0 : rd ≠ 0) (r : StepR) (hr : r = .ok (f', Vx.setR R rd v, dst)) :
    RunP U w bm n cb off T cs r (.returned (.tuple #[])) ((w6.setCell ⟨cb, off + rd, none⟩ (.int .u32 (v : Int))).setCell ⟨cb, off + 32, none⟩ (.int .u32 (dst : Int))) := by
  have o1 : Only (fun k => k = cb) w6 (w6.setCell ⟨cb, off + rd, none⟩ (.int .u32 (v : Int))) := Only.setCell (p := ⟨cb, off + rd, none⟩) (S := fun k => k = cb) (Only.refl _ w6) (Or.inl rfl) _
  have o2 : Only (fun k => k = cb) w6 ((w6.setCell ⟨cb, off + rd, none⟩ (.int .u32 (v : Int))).setCell ⟨cb, off + 32, none⟩ (.int .u32 (dst : Int))) := Only.setCell (p := ⟨cb, off + 32, none⟩) (S := fun k => k = cb) o1 (Or.inl rfl) _
  obtain ⟨cs1, h1, b1⟩ := hc.setR rd v hrd h0
  obtain ⟨cs2, h2, b2⟩ := h1.setPc dst
  exact Or.inr ⟨f', _, dst, hr, rfl, hm.only o2 (fun k hk _ => by rw [hk]; exact hu), ⟨cs2, h2, b1.trans b2⟩, (ho.mono (fun _ _ h => Or.inl h)).trans (o2.mono (fun _ _ h => Or.inr h))⟩
end Go.Proofs.YtflmobffeeocdaaDoor

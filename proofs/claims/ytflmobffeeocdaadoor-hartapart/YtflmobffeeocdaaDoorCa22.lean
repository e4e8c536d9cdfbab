import Derived.Test.YtflmobffeeocdaaDoorCa17
import Derived.Test.YtflmobffeeocdaaDoorCa21
import Derived.Test.YtflmobffeeocdaaDoorCa13
import Derived.Deep.RegionHeld3
import Derived.RegionDies
/- Chapter 6, pure: what a step makes. -/
namespace Go.Vx
theorem neqF (a b : Int) (h : a ≠ b) : (a == b) = false := by rw [beq_eq_false_iff_ne]; exact h
/-- A register is set. -/
def setR (R : Nat → Nat) (rd v : Nat) : Nat → Nat := if rd = 0 then R else fun i => if i = rd then v else R i
/-- Where an instruction goes. -/
def toF (op a b : Nat) (imm : Int) (pc : Nat) : Nat :=
  if op = 3 then m32 ((pc : Int) + imm) else if op = 4 then m32 ((a : Int) + imm) - m32 ((a : Int) + imm) % 2
  else if 5 ≤ op ∧ op ≤ 10 ∧ takesF op a b = true then m32 ((pc : Int) + imm) else m32 ((pc : Int) + 4)
/-- What it makes. -/
def valF (op a b : Nat) (imm : Int) (pc : Nat) : Nat :=
  if op = 1 then m32 (imm * 4096) else if op = 2 then m32 ((pc : Int) + imm * 4096) else if op = 3 ∨ op = 4 then m32 ((pc : Int) + 4)
  else if 19 ≤ op ∧ op ≤ 27 then arithF op a (m32 imm) else arithF op a b
/-- Does it set a register? -/
def setsB (op : Nat) : Bool := decide (op ≤ 4) || (decide (19 ≤ op) && decide (op ≠ 38))
/-- What a load makes of bytes. -/
def ldF (op v : Nat) : Nat := if op = 11 ∧ 128 ≤ v then v + 4294967296 - 256 else if op = 12 ∧ 32768 ≤ v then v + 4294967296 - 65536 else v
abbrev StepR := Except (Int × Nat) ((Nat → UInt8) × (Nat → Nat) × Nat)
def loadG (f : Nat → UInt8) (R : Nat → Nat) (pc op rd : Nat) : Except (Int × Nat) Nat → StepR
  | .error e => .error e
  | .ok p => .ok (f, setR R rd (ldF op (partF f p (bytesF op))), m32 ((pc : Int) + 4))
def storeG (f : Nat → UInt8) (R : Nat → Nat) (pc op b : Nat) : Except (Int × Nat) Nat → StepR
  | .error e => .error e
  | .ok p => .ok (putF f p ((fourB b).take (bytesF op)), R, m32 ((pc : Int) + 4))
def plainG (f : Nat → UInt8) (R : Nat → Nat) (rd v dst : Nat) : StepR := if dst % 4 ≠ 0 then .error (0, dst) else .ok (f, setR R rd v, dst)
end Go.Vx
namespace Go.Proofs.YtflmobffeeocdaaDoor
open Go.ChangeShapes Go.WideShapes Go.ChangeAt Go.RowKit
open Go.Vx

/-- What an instruction does. -/
def exeF (f : Nat → UInt8) (n : Nat) (root : Int) (R : Nat → Nat) (pc : Nat) (op rd a b : Nat) (imm : Int) : StepR :=
  if op = 39 then .error (8, 0) else if op = 40 then .error (3, pc)
  else if 11 ≤ op ∧ op ≤ 15 then loadG f R pc op rd (placeF f n root (m32 ((a : Int) + imm)) (bytesF op) 1)
  else if 16 ≤ op ∧ op ≤ 18 then storeG f R pc op b (placeF f n root (m32 ((a : Int) + imm)) (bytesF op) 2)
  else plainG f R (if setsB op = true then rd else 0) (valF op a b imm pc) (toF op a b imm pc)
def decG (f : Nat → UInt8) (n : Nat) (root : Int) (R : Nat → Nat) (pc : Nat) : Except (Int × Nat) Nat → StepR
  | .error e => .error e
  | .ok p => if (dec (wordF f p : Nat)).op = 0 then .error (2, wordF f p) else
      exeF f n root R pc (dec (wordF f p : Nat)).op.toNat (dec (wordF f p : Nat)).rd.toNat (regF R (dec (wordF f p : Nat)).rs1.toNat) (regF R (dec (wordF f p : Nat)).rs2.toNat) (dec (wordF f p : Nat)).imm
/-- What a step does. -/
def stepF (f : Nat → UInt8) (n : Nat) (root : Int) (R : Nat → Nat) (pc : Nat) : StepR := decG f n root R pc (placeF f n root pc 4 0)
theorem kinds_le : ∀ n : Fin 49, kinds.getD n.val 0 ≤ 7 := by decide +kernel
theorem kinds_none : ∀ n : Fin 49, ((5 ≤ n.val ∧ n.val ≤ 10) ∨ (16 ≤ n.val ∧ n.val ≤ 18)) → 6 ≤ kinds.getD n.val 0 := by decide +kernel
theorem gather_bound (k : Nat) (hk : k ≤ 7) (x : Nat) (hx : x < 4294967296) : -1048576 ≤ gatherOf k (x : Int) ∧ gatherOf k (x : Int) ≤ 1048576 := by
  have hc : k = 0 ∨ k = 1 ∨ k = 2 ∨ k = 3 ∨ k = 4 ∨ k = 5 ∨ k = 6 ∨ k = 7 := by omega
  rcases hc with rfl | rfl | rfl | rfl | rfl | rfl | rfl | rfl <;> simp only [gatherOf] <;> omega
/-- What a word's instruction can be. -/
structure InsIs (i : Ins) (op rd r1 r2 : Nat) (im : Int) : Prop where
  e : i = ⟨op, rd, r1, r2, im⟩
  lo : 1 ≤ op
  hi : op ≤ 48
  hrd : rd < 32
  hr1 : r1 < 32
  hr2 : r2 < 32
  i0 : -1048576 ≤ im
  i1 : im ≤ 1048576
  no : ((5 ≤ op ∧ op ≤ 10) ∨ (16 ≤ op ∧ op ≤ 18)) → rd = 0
theorem dec_is (x : Nat) (hx : x < 4294967296) (h0 : (dec (x : Int)).op ≠ 0) : ∃ op rd r1 r2 im, InsIs (dec (x : Int)) op rd r1 r2 im := by
  rcases find_cases (x : Int) 48 1 with h | ⟨o, h1, h2, h3, h4⟩
  · exact absurd (by show (findFrom 48 1 (x : Int)).op = 0; rw [h]; rfl) h0
  · have hd : dec (x : Int) = ins o x := h4
    obtain ⟨op, rfl⟩ : ∃ op : Nat, o = (op : Int) := ⟨o.toNat, by omega⟩
    have hk : kindOf (op : Int) ≤ 7 := kinds_le ⟨op, by omega⟩
    have hg := gather_bound (kindOf (op : Int)) hk x hx
    have hn : ((5 ≤ op ∧ op ≤ 10) ∨ (16 ≤ op ∧ op ≤ 18)) → 6 ≤ kindOf (op : Int) := fun h => kinds_none ⟨op, by omega⟩ h
    refine ⟨op, (rdF (kindOf (op : Int)) x).toNat, (rs1F (kindOf (op : Int)) x).toNat, (rs2F (kindOf (op : Int)) x).toNat, gatherOf (kindOf (op : Int)) x, ?_, by omega, by omega, ?_, ?_, ?_, hg.1, hg.2, ?_⟩
    · rw [hd]
      unfold ins
      have e1 : ((rdF (kindOf (op : Int)) x).toNat : Int) = rdF (kindOf (op : Int)) x := by unfold rdF; split <;> omega
      have e2 : ((rs1F (kindOf (op : Int)) x).toNat : Int) = rs1F (kindOf (op : Int)) x := by unfold rs1F; split <;> omega
      have e3 : ((rs2F (kindOf (op : Int)) x).toNat : Int) = rs2F (kindOf (op : Int)) x := by unfold rs2F; split <;> omega
      rw [e1, e2, e3]
    · unfold rdF; split <;> omega
    · unfold rs1F; split <;> omega
    · unfold rs2F; split <;> omega
    · intro h
      have := hn h
      unfold rdF
      rw [if_neg (by omega)]
      rfl
theorem decG_ok {f : Nat → UInt8} {n : Nat} {root : Int} {R : Nat → Nat} {pc p op rd r1 r2 : Nat} {im : Int} (h : InsIs (dec (wordF f p : Nat)) op rd r1 r2 im) : decG f n root R pc (.ok p) = exeF f n root R pc op rd (regF R r1) (regF R r2) im := by
  show (if (dec (wordF f p : Nat)).op = 0 then _ else _) = _
  rw [h.e]
  have := h.lo
  rw [if_neg (by show ¬ (op : Int) = 0; omega)]
  rfl
theorem partF_lt (f : Nat → UInt8) (a k : Nat) : partF f a k < 4294967296 := by
  have h0 := (f a).toNat_lt
  have h1 := (f (a + 1)).toNat_lt
  have h2 := (f (a + 2)).toNat_lt
  have h3 := wordF_lt f a
  unfold partF
  split <;> omega
end Go.Proofs.YtflmobffeeocdaaDoor

/- Walks of package hart: fetch. -/
namespace Go.Proofs.YtflmobffeeocdaaDoor
open Go.ChangeShapes Go.WideShapes Go.ChangeAt Go.RowKit
open Go.Vx

theorem CtxAt.only {S : Nat → Prop} {w w' : World} {cb off : Nat} {R : Nat → Nat} {pc : Nat} (h : CtxAt w cb off R pc) (ho : Only S w w') (hS : ¬ S cb) : CtxAt w' cb off R pc := by
  have hl : cb < w.heap.size := World.block_lt_of_cell? w _ h.p
  exact ⟨fun i hi => by rw [ho.cell (p := ⟨cb, off + i, none⟩) hl hS]; exact h.r i hi, by rw [ho.cell (p := ⟨cb, off + 32, none⟩) hl hS]; exact h.p⟩
theorem place_in {f : Nat → UInt8} {n : Nat} {root : Int} {va len u a : Nat} (hl : len = 1 ∨ len = 2 ∨ len = 4) (h : placeF f n root va len u = .ok a) : a % len = 0 ∧ a + len ≤ 4096 * n := by
  unfold placeF placeG at h
  split at h
  · cases h
  · rename_i h1
    split at h
    · cases h
    · rename_i h2
      injection h with h
      subst h
      have h3 : (walkF f n root va u).2 = -1 := by simpa using h2
      have h4 : va % len = 0 := by simpa using h1
      unfold walkF at h3 ⊢
      split at h3
      · omega
      · rename_i h5
        rw [if_neg h5]
        split at h3
        · omega
        · rename_i h6
          rw [if_neg h6]
          unfold endF at h3 ⊢
          split at h3
          · simp only at h3; omega
          · rename_i h7
            rw [if_neg h7]
            split at h3
            · simp only at h3; omega
            · rename_i h8
              rw [if_neg h8]
              simp only
              have hS := leaf_size f n root va
              generalize (leafF f n root va).2.1 = S at h8 hS ⊢
              generalize (leafF f n root va).1 / 1024 = q at h8 ⊢
              rcases hS with rfl | rfl <;> rcases hl with rfl | rfl | rfl <;> omega
set_option maxRecDepth 100000 in
set_option maxHeartbeats 4000000 in
theorem fetch_trap {U : Nat → Prop} {w : World} {bm n cb off pc : Nat} {R : Nat → Nat} {f : Nat → UInt8} (h : MemAt U w bm n f) (hus : UsesAt w) (hmi : MisAt w) (hc : CtxAt w cb off R pc) (hpc : pc < 4294967296) (root : Int) (c : Int) (t : Nat) (hp : placeF f n root pc 4 0 = .error (c, t)) :
    Calls Tryd.prog 30 #[.agg #[.pointer (some ⟨bm, 0, none⟩), .int .i64 root, .pointer (some ⟨cb, off, none⟩)]] w fun e w' => e = .panicked (trapP c t) ∧ Only (fun _ => False) w w' := by
  have HC := Vx.hid hc
  have HPL : Hid (∀ wv, Only (fun _ => False) w wv → Calls Tryd.prog 44 #[.agg #[.pointer (some ⟨bm, 0, none⟩), .int .i64 root, .pointer (some ⟨cb, off, none⟩)], .int .u32 (pc : Int), .int .u32 4, .int .i64 0] wv fun e w' => e = .panicked (trapP c t) ∧ Hid (Only (fun _ => False) w w')) := fun wv hv => by
    refine (hplace_any (h.only hv (fun _ h _ => h.elim)) (hus.only hv (fun h => h)) (hmi.only hv (fun h => h)) root ⟨cb, off, none⟩ pc hpc 4 (by decide) (by decide) 0 (by decide)).mono ?_
    rintro e w' ⟨⟨c', t', h1, rfl⟩ | ⟨a, h1, _⟩, ho⟩
    · rw [hp] at h1
      injection h1 with h1
      injection h1 with h1 h2
      subst h1 h2
      exact ⟨rfl, hv.trans ho⟩
    · rw [hp] at h1; cases h1
  have hl : cb < w.heap.size := World.block_lt_of_cell? w _ hc.p
  have hcp := hc.p
  clear h hus hmi hc hpc hp
  go_enter Tryd.func30, Tryd.ntmps30
  go_wp2_with fail
  obtain ⟨W1, hW1⟩ : ∃ W1, W1 = ((w.alloc (.cells #[.pointer (some ⟨bm, 0, none⟩), .int .i64 root, .pointer (some ⟨cb, off, none⟩)] 61)).alloc (.cells #[.int .i64 0, .int .i64 0, .int .i64 0, .int .i64 0, .int .i64 0] 66)) := ⟨_, rfl⟩
  have HO1 : Hid (Only (fun _ => False) w W1) := by rw [hW1]; exact ((Only.refl _ w).alloc _).alloc _
  have hb : W1.heap[w.heap.size]? = some (.cells #[.pointer (some ⟨bm, 0, none⟩), .int .i64 root, .pointer (some ⟨cb, off, none⟩)] 61 (0, 0)) := by
    rw [hW1, RowKit.Below.heap_alloc _ _ _ (by simp)]; exact heap_alloc_last w _
  have g0 : W1.cell? ⟨w.heap.size, 0, none⟩ = some (.pointer (some ⟨bm, 0, none⟩)) := by rw [cell_of_row _ _ 0 _ _ (0, 0) hb]; rfl
  have g1 : W1.cell? ⟨w.heap.size, 1, none⟩ = some (.int .i64 root) := by rw [cell_of_row _ _ 1 _ _ (0, 0) hb]; rfl
  have g2 : W1.cell? ⟨w.heap.size, 2, none⟩ = some (.pointer (some ⟨cb, off, none⟩)) := by rw [cell_of_row _ _ 2 _ _ (0, 0) hb]; rfl
  have g3 : W1.cell? ⟨cb, off + 32, none⟩ = some (.int .u32 (pc : Int)) := by rw [HO1.out.cell (p := ⟨cb, off + 32, none⟩) hl (fun h => h)]; exact hcp
  rw [← hW1]
  clear hW1 hb hcp HC
  generalize w.heap.size = g at g0 g1 g2 hl ⊢
  go_region_dies
  all_goals
    refine (HPL.out _ HO1.out.drew).mono ?_
    rintro e w5 ⟨rfl, hb5⟩
    exact ⟨rfl, rfl, hb5⟩
end Go.Proofs.YtflmobffeeocdaaDoor

/- Walks of package hart: load, store. -/
namespace Go.Proofs.YtflmobffeeocdaaDoor
open Go.ChangeShapes Go.WideShapes Go.ChangeAt Go.RowKit
open Go.Vx

theorem bytes_cases (op : Nat) : bytesF op = 1 ∨ bytesF op = 2 ∨ bytesF op = 4 := by
  unfold bytesF
  split
  · exact Or.inr (Or.inr rfl)
  · split
    · exact Or.inr (Or.inl rfl)
    · exact Or.inl rfl
set_option maxRecDepth 100000 in
set_option maxHeartbeats 4000000 in
theorem load_trap {U : Nat → Prop} {w : World} {bm n cb off : Nat} {f : Nat → UInt8} (h : MemAt U w bm n f) (hus : UsesAt w) (hmi : MisAt w) (root : Int) (op : Nat) (ho : 11 ≤ op) (ho2 : op ≤ 15) (va : Nat) (hva : va < 4294967296) (c : Int) (t : Nat) (hp : placeF f n root va (bytesF op) 1 = .error (c, t)) :
    Calls Tryd.prog 35 #[.agg #[.pointer (some ⟨bm, 0, none⟩), .int .i64 root, .pointer (some ⟨cb, off, none⟩)], .int .i64 (op : Int), .int .u32 (va : Int)] w fun e w' => e = .panicked (trapP c t) ∧ Only (fun _ => False) w w' := by
  have HLN := Vx.hid (fun wv => length_any op ho (by omega) wv)
  have hb := bytes_cases op
  have HPL : Hid (∀ wv, Only (fun _ => False) w wv → Calls Tryd.prog 44 #[.agg #[.pointer (some ⟨bm, 0, none⟩), .int .i64 root, .pointer (some ⟨cb, off, none⟩)], .int .u32 (va : Int), .int .u32 (bytesF op : Nat), .int .i64 1] wv fun e w' => e = .panicked (trapP c t) ∧ Hid (Only (fun _ => False) w w')) := fun wv hv => by
    refine (hplace_any (h.only hv (fun _ h _ => h.elim)) (hus.only hv (fun h => h)) (hmi.only hv (fun h => h)) root ⟨cb, off, none⟩ va hva (bytesF op) (by omega) (by omega) 1 (by decide)).mono ?_
    rintro e w' ⟨⟨c', t', h1, rfl⟩ | ⟨a, h1, _⟩, ho⟩
    · rw [hp] at h1
      injection h1 with h1
      injection h1 with h1 h2
      subst h1 h2
      exact ⟨rfl, hv.trans ho⟩
    · rw [hp] at h1; cases h1
  have hw8 : IntKind.i64.wrap ((bytesF op : Nat) : Int) = ((bytesF op : Nat) : Int) := by rw [IntKind.wrap_i64]; omega
  generalize bytesF op = len at HLN HPL hw8
  clear h hus hmi hva hp hb ho ho2
  go_enter Tryd.func35, Tryd.ntmps35
  go_wp2_with fail
  refine (HLN.out _).mono ?_
  rintro e w' ⟨rfl, h⟩
  have h2 := h.symm; clear h; subst h2
  go_wp2_with fail
  obtain ⟨W1, hW1⟩ : ∃ W1, W1 = w.alloc (.cells #[.pointer (some ⟨bm, 0, none⟩), .int .i64 root, .pointer (some ⟨cb, off, none⟩)] 61) := ⟨_, rfl⟩
  have HO1 : Hid (Only (fun _ => False) w W1) := by rw [hW1]; exact (Only.refl _ w).alloc _
  have hb : W1.heap[w.heap.size]? = some (.cells #[.pointer (some ⟨bm, 0, none⟩), .int .i64 root, .pointer (some ⟨cb, off, none⟩)] 61 (0, 0)) := by
    rw [hW1]; exact heap_alloc_last w _
  have g0 : W1.cell? ⟨w.heap.size, 0, none⟩ = some (.pointer (some ⟨bm, 0, none⟩)) := by rw [cell_of_row _ _ 0 _ _ (0, 0) hb]; rfl
  have g1 : W1.cell? ⟨w.heap.size, 1, none⟩ = some (.int .i64 root) := by rw [cell_of_row _ _ 1 _ _ (0, 0) hb]; rfl
  have g2 : W1.cell? ⟨w.heap.size, 2, none⟩ = some (.pointer (some ⟨cb, off, none⟩)) := by rw [cell_of_row _ _ 2 _ _ (0, 0) hb]; rfl
  rw [← hW1]
  clear hW1 hb
  generalize w.heap.size = g at g0 g1 g2 ⊢
  go_region_dies
  all_goals
    refine (HPL.out _ HO1.out.drew).mono ?_
    rintro e w5 ⟨rfl, hb5⟩
    exact ⟨rfl, rfl, hb5⟩
end Go.Proofs.YtflmobffeeocdaaDoor

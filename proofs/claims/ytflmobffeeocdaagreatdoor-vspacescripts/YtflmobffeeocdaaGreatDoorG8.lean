/- Walks of the scripts: the books with lists of mappings in them; reads. -/
import Derived.Test.YtflmobffeeocdaaGreatDoorG2
import Derived.Test.YtflmobffeeocdaaGreatDoorV5
namespace Go.Proofs.YtflmobffeeocdaaGreatDoor
open Go.ChangeShapes Go.WideShapes Go.ChangeAt Go.RowKit
open Go.Vx

/-- A list whose elements are all marks; it lies in blocks of B. -/
def MkAt (B : Nat → Prop) (w : World) (c : Int) (s : Value) : Prop := ∃ p n cap, s = .slice p n cap ∧ n ≤ 3000000 ∧ (0 < n → ∃ g cur, p = some ⟨g, 0, none⟩ ∧ B g ∧ w.heap[g]? = some (.cells cur 104 (0, 0)) ∧ ∀ k, k < n → cur[k * 3 + 1]? = some (.int .i64 c))
theorem MkAt.keep {B C : Nat → Prop} {w w' : World} {c : Int} {s : Value} (h : MkAt B w c s) (hk : ∀ g cur, B g → w.heap[g]? = some (.cells cur 104 (0, 0)) → w'.heap[g]? = w.heap[g]?) (hBC : ∀ k, B k → C k) : MkAt C w' c s := by
  obtain ⟨p, n, cap, rfl, hn, h⟩ := h
  refine ⟨p, n, cap, rfl, hn, fun h0 => ?_⟩
  obtain ⟨g, cur, hp, hg, hl, hc⟩ := h h0
  exact ⟨g, cur, hp, hBC g hg, by rw [hk g cur hg hl]; exact hl, hc⟩
theorem MkAt.only {B C S : Nat → Prop} {w w' : World} {c : Int} {s : Value} (h : MkAt B w c s) (ho : Only S w w') (hS : ∀ k, B k → ¬ S k) (hBC : ∀ k, B k → C k) : MkAt C w' c s :=
  h.keep (fun g _ hg hl => ho.block g (lt_of_some hl) (hS g hg)) hBC
/-- The book of mappings. -/
structure BkM (B : Nat → Prop) (w : World) (sb : Nat) (v : Value) (ss : List Value) : Prop where
  own : w.ownsRow 0 86 1 v ss.length ss
  inB : ∀ k, v.ownBlock = some k → B k
  marks : ∀ (i : Nat) (h : i < ss.length), MkAt B w (-77 - ((i / 2 : Nat) : Int)) ss[i]
  even : ss.length % 2 = 0
  c0 : w.cell? ⟨sb, 68, none⟩ = some (.slice none 0 0)
  c1 : w.cell? ⟨sb, 69, none⟩ = some (.slice none 0 0)
  c2 : w.cell? ⟨sb, 70, none⟩ = some v
  c3 : w.cell? ⟨sb, 71, none⟩ = some (.slice none 0 0)
  c4 : w.cell? ⟨sb, 72, none⟩ = some (.slice none 0 0)
  c5 : w.cell? ⟨sb, 73, none⟩ = some (.slice none 0 0)
theorem BkM.only {B S : Nat → Prop} {w w' : World} {sb : Nat} {v : Value} {ss : List Value} (h : BkM B w sb v ss) (ho : Only S w w') (hS : ∀ k, B k → ¬ S k) (hsb : ¬ S sb) : BkM B w' sb v ss := by
  have hl : sb < w.heap.size := World.block_lt_of_cell? w ⟨sb, 68, none⟩ h.c0
  have e : ∀ j, w'.cell? ⟨sb, j, none⟩ = w.cell? ⟨sb, j, none⟩ := fun j => ho.cell (p := ⟨sb, j, none⟩) hl hsb
  refine ⟨⟨h.own.1, h.own.2.imp (fun h => h) (fun ⟨g, cap, cur, a, b, c, d⟩ => ⟨g, cap, cur, a, b, ?_, d⟩)⟩, h.inB, fun i hi => (h.marks i hi).only ho hS (fun _ h => h), h.even, by rw [e]; exact h.c0, by rw [e]; exact h.c1, by rw [e]; exact h.c2, by rw [e]; exact h.c3, by rw [e]; exact h.c4, by rw [e]; exact h.c5⟩
  rw [ho.block g (lt_of_some c) (hS g (h.inB g (by rw [a]; rfl)))]
  exact c
theorem readsMore_m {B : Nat → Prop} {w : World} {sb : Nat} {v : Value} {ss : List Value} (h : BkM B w sb v ss) :
    Calls Tryz.prog 56 #[.pointer (some ⟨sb, 68, none⟩)] w fun e w' => e = .returned (.bool true) ∧ w' = w := by
  have h3 := h.c3
  have h4 := h.c4
  have h5 := h.c5
  clear h
  go_enter Tryz.func56, Tryz.ntmps56
  go_wp2_with fail
  go_loopw [3] (fun i wr => i = .int .i64 0 ∧ wr = w) (fun _ _ => 0)
  case atStart => exact ⟨rfl, rfl⟩
  case round =>
    obtain ⟨rfl, rfl⟩ := hrel
    go_wp2_with fail
    go_loopw [5] (fun i wx => i = .int .i64 0 ∧ wx = wr) (fun _ _ => 0)
    case atStart => exact ⟨rfl, rfl⟩
    case round =>
      obtain ⟨rfl, rfl⟩ := hrel
      go_wp2_with fail
      go_loopw [7] (fun i wx => i = .int .i64 0 ∧ wx = wr) (fun _ _ => 0)
      case atStart => exact ⟨rfl, rfl⟩
      case round =>
        obtain ⟨rfl, rfl⟩ := hrel
        go_wp2_with fail
        all_goals
          go_ret
          exact ⟨rfl, rfl⟩
theorem BkM.form {B : Nat → Prop} {w : World} {sb : Nat} {v : Value} {ss : List Value} (h : BkM B w sb v ss) : ∃ p c, v = .slice p ss.length c ∧ (∀ (i : Nat) (hi : i < ss.length), ∃ g, p = some ⟨g, 0, none⟩ ∧ w.cell? ⟨g, i, none⟩ = some ss[i]) := by
  rcases h.own.2 with ⟨hv, h0⟩ | ⟨g, cap, cur, hv, hb, hg, hnc, hcm, hcs, htk⟩
  · exact ⟨none, 0, by rw [hv, h0], fun i hi => by omega⟩
  · refine ⟨_, cap, hv, fun i hi => ⟨g, rfl, ?_⟩⟩
    have ho := h.own
    rw [hv] at ho
    rw [World.ownsRow.cellAt ho i (by omega)]
    exact List.getElem?_eq_getElem hi
set_option maxRecDepth 100000 in
set_option maxHeartbeats 2000000 in
theorem reads_m {B : Nat → Prop} {w : World} {sb : Nat} {v : Value} {ss : List Value} (h : BkM B w sb v ss) (hl : ss.length ≤ 1000000) :
    Calls Tryz.prog 15 #[.pointer (some ⟨sb, 68, none⟩)] w fun e w' => e = .returned (.bool true) ∧ w' = w := by
  obtain ⟨pv, cv, rfl, hcells⟩ := h.form
  have HC := Vx.hid hcells
  have HB := Vx.hid h
  have h3 := h.c0
  have h4 := h.c1
  obtain ⟨L, hL⟩ : ∃ L, L = ss.length := ⟨_, rfl⟩
  have HL := Vx.hid hL
  rw [← hL] at hl HB
  have hlm : (L : Int) ≤ 1000000 := by omega
  clear h hcells hL
  go_enter Tryz.func15, Tryz.ntmps15
  go_wp2_with fail
  go_loopw [3] (fun i wr => i = .int .i64 0 ∧ wr = w) (fun _ _ => 0)
  case atStart => exact ⟨rfl, rfl⟩
  case round =>
    obtain ⟨rfl, rfl⟩ := hrel
    go_wp2_with fail
    go_loopw [5] (fun i wx => i = .int .i64 0 ∧ wx = wr) (fun _ _ => 0)
    case atStart => exact ⟨rfl, rfl⟩
    case round =>
      obtain ⟨rfl, rfl⟩ := hrel
      go_wp2_with fail
      go_loopw [7] (fun d wx => ∃ i : Nat, d = .int .i64 (i : Int) ∧ i ≤ L ∧ wx = wr) (fun d _ => L - (intOf d).toNat)
      case atStart => exact ⟨0, rfl, by omega, rfl⟩
      case round =>
        obtain ⟨i, rfl, hi, rfl⟩ := hrel
        by_cases hlt : i < L
        · have d1 : (i : Int) < (L : Int) := by omega
          have hidx : 0 ≤ (i : Int) ∧ (i : Int) < (L : Int) := by omega
          have hiS : i < ss.length := by have := HL.out; omega
          have v1 : IntKind.i64.wrap ((i : Int) + 1) = (i : Int) + 1 := by rw [IntKind.wrap_i64]; omega
          obtain ⟨g, rfl, hci⟩ := HC.out i hiS
          obtain ⟨p, n, cap, hs, hn, hk⟩ := HB.out.marks i hiS
          rw [hs] at hci
          have HK := Vx.hid hk
          have h5 := HB.out.c2
          have q0 : Int.tdiv (i : Int) 2 = ((i / 2 : Nat) : Int) := by rw [Int.tdiv_eq_ediv_of_nonneg (by omega)]; omega
          have q0' : (i : Int) / 2 = ((i / 2 : Nat) : Int) := by omega
          have q1 : IntKind.i64.wrap ((i / 2 : Nat) : Int) = ((i / 2 : Nat) : Int) := by rw [IntKind.wrap_i64]; omega
          have q2 : IntKind.i64.wrap (-77 - ((i / 2 : Nat) : Int)) = -77 - ((i / 2 : Nat) : Int) := by rw [IntKind.wrap_i64]; omega
          generalize i / 2 = q at q0 q0' q1 q2 HK
          have hnm : (n : Int) ≤ 3000000 := by omega
          clear hs hk hiS hlt
          go_wp2_with fail
          go_loopw [8] (fun d wx => ∃ k : Nat, d = .int .i64 (k : Int) ∧ k ≤ n ∧ wx = wr) (fun d _ => n - (intOf d).toNat)
          case atStart => exact ⟨0, rfl, by omega, rfl⟩
          case round =>
            obtain ⟨k, rfl, hk, rfl⟩ := hrel
            by_cases hk2 : k < n
            · have d2 : (k : Int) < (n : Int) := by omega
              have hidk : 0 ≤ (k : Int) ∧ (k : Int) < (n : Int) := by omega
              have v2 : IntKind.i64.wrap ((k : Int) + 1) = (k : Int) + 1 := by rw [IntKind.wrap_i64]; omega
              obtain ⟨g2, cur, rfl, _, hbl, hcell⟩ := HK.out (by omega)
              have hcell2 : wr.cell? ⟨g2, k * 3 + 1, none⟩ = some (.int .i64 (-77 - (q : Int))) := by rw [cell_of_row _ _ (k * 3 + 1) _ _ (0, 0) hbl]; exact hcell k hk2
              clear hcell hk2 hbl
              go_wp2_with fail
              go_roundw
              case rel => exact ⟨k + 1, by go_num, by omega, trivial⟩
              case measure => simp only [intOf]; omega
            · have d2 : ¬ (k : Int) < (n : Int) := by omega
              clear hk2
              go_wp2_with fail
              go_roundw
              case rel => exact ⟨i + 1, by go_num, by omega, trivial⟩
              case measure => simp only [intOf]; omega
        · have d1 : ¬ (i : Int) < (L : Int) := by omega
          have h5 := HB.out.c2
          have HM := Vx.hid (readsMore_m HB.out)
          clear hlt
          go_wp2_with fail
          refine HM.out.mono ?_
          rintro e w' ⟨rfl, h⟩
          have h2 := h.symm; clear h; subst h2
          go_wp2_with fail
          all_goals
            go_ret
            exact ⟨rfl, rfl⟩
end Go.Proofs.YtflmobffeeocdaaGreatDoor

import Derived.Test.YtflmobffeeocdaaGreatDoorCh22
import Derived.Test.YtflmobffeeocdaaGreatDoorCh23
import Derived.Test.YtflmobffeeocdaaGreatDoorCh25
import Derived.Test.YtflmobffeeocdaaGreatDoorCh26
import Derived.Test.YtflmobffeeocdaaGreatDoorCh27
import Derived.Test.YtflmobffeeocdaaGreatDoorCh28
import Derived.Test.YtflmobffeeocdaaGreatDoorCh29
import Derived.Test.YtflmobffeeocdaaGreatDoorCh34
import Derived.Defers
import Derived.Recover
import Derived.Laws.Pointers
import Derived.Test.YtflmobffeeocdaaGreatDoorCh36
/- Walks of package hart: run, whole. -/
namespace Go.Proofs.YtflmobffeeocdaaGreatDoor
open Go.ChangeShapes Go.WideShapes Go.ChangeAt Go.RowKit
open Go.Vx

theorem run_ins {U : Nat → Prop} {w : World} {bm n cb off pc : Nat} {T : TypeId} {cs : Array Value} {R : Nat → Nat} {f : Nat → UInt8} (h : MemAt U w bm n f) (hus : UsesAt w) (hmi : MisAt w) (hfo : FormsAt w) (hc : CxAt w cb off T cs R pc) (hu : U cb) (hpc : pc < 4294967296) (hR : ∀ i, i < 32 → R i < 4294967296) (root : Int) (p : Nat) (hp : placeF f n root pc 4 0 = .ok p) (op rd r1 r2 : Nat) (im : Int) (hi : InsIs (dec (wordF f p : Nat)) op rd r1 r2 im) :
    Calls Tryz.prog 76 #[.agg #[.pointer (some ⟨bm, 0, none⟩), .int .i64 root, .pointer (some ⟨cb, off, none⟩)]] w fun e w' => RunP U w bm n cb off T cs (exeF f n root R pc op rd (regF R r1) (regF R r2) im) e w' := by
  have h1 := hi.lo
  have h2 := hi.hi
  have hcs : op = 1 ∨ op = 2 ∨ op = 3 ∨ op = 4 ∨ (op = 5 ∨ op = 6 ∨ op = 7) ∨ (op = 8 ∨ op = 9 ∨ op = 10) ∨ (op = 11 ∨ op = 12 ∨ op = 13) ∨ (op = 14 ∨ op = 15) ∨ (op = 16 ∨ op = 17 ∨ op = 18) ∨ (op = 19 ∨ op = 20 ∨ op = 21 ∨ op = 22 ∨ op = 23) ∨ (op = 24 ∨ op = 25 ∨ op = 26 ∨ op = 27) ∨ op = 38 ∨ op = 39 ∨ op = 40 ∨ ((28 ≤ op ∧ op ≤ 37) ∨ (41 ≤ op ∧ op ≤ 48)) := by omega
  rcases hcs with o | o | o | o | o | o | o | o | o | o | o | o | o | o | o
  · exact run_lui h hus hmi hfo hc hu hpc hR root p hp op rd r1 r2 im hi o
  · exact run_auipc h hus hmi hfo hc hu hpc hR root p hp op rd r1 r2 im hi o
  · exact run_jal h hus hmi hfo hc hu hpc hR root p hp op rd r1 r2 im hi o
  · exact run_jalr h hus hmi hfo hc hu hpc hR root p hp op rd r1 r2 im hi o
  · exact run_goes1 h hus hmi hfo hc hu hpc hR root p hp op rd r1 r2 im hi o
  · exact run_goes2 h hus hmi hfo hc hu hpc hR root p hp op rd r1 r2 im hi o
  · exact run_load1 h hus hmi hfo hc hu hpc hR root p hp op rd r1 r2 im hi o
  · exact run_load2 h hus hmi hfo hc hu hpc hR root p hp op rd r1 r2 im hi o
  · exact run_store h hus hmi hfo hc hu hpc hR root p hp op rd r1 r2 im hi o
  · exact run_imm1 h hus hmi hfo hc hu hpc hR root p hp op rd r1 r2 im hi o
  · exact run_imm2 h hus hmi hfo hc hu hpc hR root p hp op rd r1 r2 im hi o
  · exact run_fence h hus hmi hfo hc hu hpc hR root p hp op rd r1 r2 im hi o
  · exact run_ecall h hus hmi hfo hc hu hpc hR root p hp op rd r1 r2 im hi o
  · exact run_ebreak h hus hmi hfo hc hu hpc hR root p hp op rd r1 r2 im hi o
  · exact run_sum h hus hmi hfo hc hu hpc hR root p hp op rd r1 r2 im hi o
/-- Where fetch gives up, so does run. -/
theorem run_gives {w : World} {bm cb off : Nat} (root : Int) (P : List PanicEntry) (hf : ∀ wv, Only (fun _ => False) w wv → Calls Tryz.prog 88 #[.agg #[.pointer (some ⟨bm, 0, none⟩), .int .i64 root, .pointer (some ⟨cb, off, none⟩)]] wv fun e w' => e = .panicked P ∧ Only (fun _ => False) wv w') :
    Calls Tryz.prog 76 #[.agg #[.pointer (some ⟨bm, 0, none⟩), .int .i64 root, .pointer (some ⟨cb, off, none⟩)]] w fun e w' => e = .panicked P ∧ Only (fun _ => False) w w' := by
  have HF := Vx.hid hf
  clear hf
  go_enter Tryz.func76, Tryz.ntmps76
  go_wp2_with fail
  have HO1 : Hid (Only (fun _ => False) w (w.alloc (.cells #[.pointer (some ⟨bm, 0, none⟩), .int .i64 root, .pointer (some ⟨cb, off, none⟩)] 125))) := (Only.refl _ w).alloc _
  refine (HF.out _ HO1.out).mono ?_
  rintro e w8 ⟨rfl, h8⟩
  have HF2 := Vx.hid (HO1.out.trans h8)
  clear h8 HO1 HF
  first | exact ⟨rfl, rfl, HF2.out⟩ | (go_wp2_with fail; all_goals exact ⟨rfl, rfl, HF2.out⟩)
theorem run_any {U : Nat → Prop} {w : World} {bm n cb off pc : Nat} {T : TypeId} {cs : Array Value} {R : Nat → Nat} {f : Nat → UInt8} (h : MemAt U w bm n f) (hus : UsesAt w) (hmi : MisAt w) (hfo : FormsAt w) (hc : CxAt w cb off T cs R pc) (hu : U cb) (hpc : pc < 4294967296) (hR : ∀ i, i < 32 → R i < 4294967296) (root : Int) :
    Calls Tryz.prog 76 #[.agg #[.pointer (some ⟨bm, 0, none⟩), .int .i64 root, .pointer (some ⟨cb, off, none⟩)]] w fun e w' => RunP U w bm n cb off T cs (stepF f n root R pc) e w' := by
  cases hp : placeF f n root pc 4 0 with
  | error ct =>
    obtain ⟨c, t⟩ := ct
    refine (run_gives root (trapP c t) (fun wv hv => ?_)).mono ?_
    · exact fetch_trap (h.only hv (fun _ h _ => h.elim)) (hus.only hv (fun h => h)) (hmi.only hv (fun h => h)) (hc.only hv (fun h => h)).ctx hpc root c t hp
    · rintro e w' ⟨rfl, ho⟩
      exact Or.inl ⟨c, t, by unfold stepF; rw [hp]; rfl, rfl, ho⟩
  | ok p =>
    by_cases h0 : (dec (wordF f p : Nat)).op = 0
    · refine (run_gives root (trapP 2 (wordF f p)) (fun wv hv => ?_)).mono ?_
      · refine (fetch_good (h.only hv (fun _ h _ => h.elim)) (hus.only hv (fun h => h)) (hmi.only hv (fun h => h)) (hfo.only hv (fun h => h)) (hc.only hv (fun h => h)).ctx hpc root p hp).mono ?_
        rintro e w' ⟨⟨_, rfl⟩ | ⟨h1, _⟩, ho⟩
        · exact ⟨rfl, ho⟩
        · exact absurd h0 h1
      · rintro e w' ⟨rfl, ho⟩
        exact Or.inl ⟨2, wordF f p, by unfold stepF; rw [hp]; exact if_pos h0, rfl, ho⟩
    · obtain ⟨op, rd, r1, r2, im, hi⟩ := dec_is (wordF f p) (wordF_lt f p) h0
      have he : stepF f n root R pc = exeF f n root R pc op rd (regF R r1) (regF R r2) im := by
        unfold stepF; rw [hp]; exact decG_ok hi
      rw [he]
      exact run_ins h hus hmi hfo hc hu hpc hR root p hp op rd r1 r2 im hi
end Go.Proofs.YtflmobffeeocdaaGreatDoor

/- Walks of package hart: told, Step. -/
namespace Go.Proofs.YtflmobffeeocdaaGreatDoor
open Go.ChangeShapes Go.WideShapes Go.ChangeAt Go.RowKit
open Go.Vx

/-- An event's cells. -/
def evC (b : Bool) (c : Int) (t : Nat) : Array Value := #[.bool b, .int .i64 c, .int .u32 (t : Int)]
/-- An event laid into its cells. -/
theorem ev_set {w : World} {eb : Nat} {b : Bool} {c : Int} {t : Nat} (hb : w.heap[eb]? = some (.cells (evC b c t) 93 (0, 0))) (b2 : Bool) (c2 : Int) (t2 : Nat) :
    (((w.setCell ⟨eb, 0, none⟩ (.bool b2)).setCell ⟨eb, 1, none⟩ (.int .i64 c2)).setCell ⟨eb, 2, none⟩ (.int .u32 (t2 : Int))).heap[eb]? = some (.cells (evC b2 c2 t2) 93 (0, 0)) ∧ Only (fun k => k = eb) w (((w.setCell ⟨eb, 0, none⟩ (.bool b2)).setCell ⟨eb, 1, none⟩ (.int .i64 c2)).setCell ⟨eb, 2, none⟩ (.int .u32 (t2 : Int))) := by
  have o0 : Only (fun k => k = eb) w w := Only.refl _ w
  refine ⟨?_, ((o0.setCell (p := ⟨eb, 0, none⟩) (Or.inl rfl) _).setCell (p := ⟨eb, 1, none⟩) (Or.inl rfl) _).setCell (p := ⟨eb, 2, none⟩) (Or.inl rfl) _⟩
  rw [heap_setCell_same _ _ _ _ _ _ (heap_setCell_same _ _ _ _ _ _ (heap_setCell_same _ _ _ _ _ _ hb))]
  rfl
theorem told_idle (p : Addr) (w : World) :
    CallsD Tryz.prog 87 #[.pointer (some p)] .returning w fun e u' w' => e = .returned (.tuple #[]) ∧ u' = .returning ∧ w' = w := by
  refine callsD_of_wpS Tryz.func87 rfl fun c₀ cs hu => ?_
  apply wpS_seq
  apply wpS_region
  simp [wpOpsS, go_sem, recoverD, hu, Tryz.ntmps87, Exit.thenS]
  have hq : ∀ w, (binOp .eql 20 .nilIface .nilIface).run Tryz.prog w = .ok (.bool true) w := fun _ => by kernel_rfl
  refine wpS_of_wp ?_
  go_wp2_with fail
  cases c₀
  simp_all [bodyPostS, results, Tryz.results87]
set_option maxRecDepth 100000 in
set_option maxHeartbeats 2000000 in
theorem told_trap (eb : Nat) (c : Int) (t : Nat) (older : List PanicEntry) (w : World) (hb : w.heap[eb]? = some (.cells (evC false 0 0) 93 (0, 0))) :
    CallsD Tryz.prog 87 #[.pointer (some ⟨eb, 0, none⟩)] (.panicking ({ v := .iface 149 (.agg #[.int .i64 c, .int .u32 (t : Int)]), recovered := false } :: older)) w fun e u' w' =>
      e = .returned (.tuple #[]) ∧ u' = .panicking ({ v := .iface 149 (.agg #[.int .i64 c, .int .u32 (t : Int)]), recovered := true } :: older) ∧ w'.heap[eb]? = some (.cells (evC true c t) 93 (0, 0)) ∧ Only (fun k => k = eb) w w' := by
  refine callsD_of_wpS Tryz.func87 rfl fun c₀ cs hu => ?_
  apply wpS_seq
  apply wpS_region
  simp [wpOpsS, go_sem, recoverD, hu, Tryz.ntmps87, Exit.thenS]
  have hq : ∀ w, (binOp .eql 20 (.iface 149 (.agg #[.int .i64 c, .int .u32 (t : Int)])) .nilIface).run Tryz.prog w = .ok (.bool false) w := fun _ => by kernel_rfl
  have hta : ∀ w, (Instr.typeAssert (.iface 149 (.agg #[.int .i64 c, .int .u32 (t : Int)])) 20 149 true).run Tryz.prog w = .ok (.tuple #[.agg #[.int .i64 c, .int .u32 (t : Int)], .bool true]) w := fun _ => by kernel_rfl
  have h0 : w.cell? ⟨eb, 0, none⟩ = some (.bool false) := by rw [cell_of_row _ _ 0 _ _ (0, 0) hb]; rfl
  have h1 : w.cell? ⟨eb, 1, none⟩ = some (.int .i64 0) := by rw [cell_of_row _ _ 1 _ _ (0, 0) hb]; rfl
  have h2 : w.cell? ⟨eb, 2, none⟩ = some (.int .u32 0) := by rw [cell_of_row _ _ 2 _ _ (0, 0) hb]; rfl
  have f0 : w.frozen? ⟨eb, 0, none⟩ = false := by simp [World.frozen?, hb]
  have f1 : w.frozen? ⟨eb, 1, none⟩ = false := by simp [World.frozen?, hb]
  have f2 : w.frozen? ⟨eb, 2, none⟩ = false := by simp [World.frozen?, hb]
  have hl : eb < w.heap.size := lt_of_some hb
  obtain ⟨s1, s2⟩ := ev_set hb true c t
  have HFI : Hid (∀ o, (((((w.setCell ⟨eb, 0, none⟩ (.bool true)).setCell ⟨eb, 1, none⟩ (.int .i64 c)).setCell ⟨eb, 2, none⟩ (.int .u32 (t : Int))).alloc o).heap[eb]? = some (.cells (evC true c t) 93 (0, 0))) ∧ Only (fun k => k = eb) w ((((w.setCell ⟨eb, 0, none⟩ (.bool true)).setCell ⟨eb, 1, none⟩ (.int .i64 c)).setCell ⟨eb, 2, none⟩ (.int .u32 (t : Int))).alloc o)) := fun o => ⟨by rw [RowKit.Below.heap_alloc _ _ _ (lt_of_some s1)]; exact s1, s2.alloc o⟩
  clear hb s1 s2
  refine wpS_of_wp ?_
  go_wp2_with fail
  simp [bodyPostS, results, Tryz.results87]
  exact HFI.out _
set_option maxRecDepth 100000 in
set_option maxHeartbeats 1000000 in
theorem told_ok (sv : Value) (w : World) (Q : World → Prop)
    (h : Calls Tryz.prog 76 #[sv] (w.alloc (.cells (evC false 0 0) 93)) fun e w' => e = .returned (.tuple #[]) ∧ Q w' ∧ w'.heap[w.heap.size]? = some (.cells (evC false 0 0) 93 (0, 0))) :
    Calls Tryz.prog 75 #[.func (.func 76) #[sv] #[]] w fun e w' => e = .returned (.agg (evC false 0 0)) ∧ ∃ w1, Q w1 ∧ Only (fun k => k = w.heap.size) w1 w' := by
  have hmf : ∀ (fn : Fn) (first cap : Array Value) (w : World), (Instr.makeFunc fn first cap).run Tryz.prog w = .ok (.func fn first cap) w := fun _ _ _ _ => rfl
  have H := Vx.hid h
  clear h
  unfold evC at *
  go_enter_defers Tryz.func75, Tryz.ntmps75
  go_wp2_with fail
  refine H.out.mono ?_
  rintro e w1 ⟨rfl, hQ, hb⟩
  have HQ := Vx.hid hQ
  obtain ⟨s1, s2⟩ := ev_set (b := false) (c := 0) (t := 0) hb false 0 0
  have h0 : w1.cell? ⟨w.heap.size, 0, none⟩ = some (.bool false) := by rw [cell_of_row _ _ 0 _ _ (0, 0) hb]; rfl
  have h1 : w1.cell? ⟨w.heap.size, 1, none⟩ = some (.int .i64 0) := by rw [cell_of_row _ _ 1 _ _ (0, 0) hb]; rfl
  have h2 : w1.cell? ⟨w.heap.size, 2, none⟩ = some (.int .u32 0) := by rw [cell_of_row _ _ 2 _ _ (0, 0) hb]; rfl
  have f0 : w1.frozen? ⟨w.heap.size, 0, none⟩ = false := by simp [World.frozen?, hb]
  have f1 : w1.frozen? ⟨w.heap.size, 1, none⟩ = false := by simp [World.frozen?, hb]
  have f2 : w1.frozen? ⟨w.heap.size, 2, none⟩ = false := by simp [World.frozen?, hb]
  have hl : w.heap.size < w1.heap.size := lt_of_some hb
  have HS1 := Vx.hid s1
  have HS2 := Vx.hid s2
  clear hQ hb H s1 s2
  go_wp2_with fail
  refine leaves_cons (f := 87) (args := #[.pointer (some ⟨w.heap.size, 0, none⟩)]) (by simp) (by simp [go_sem]) ?_
  refine (told_idle ⟨w.heap.size, 0, none⟩ _).mono ?_
  rintro e u' w'' ⟨rfl, rfl, rfl⟩
  have k0 : (((w1.setCell ⟨w.heap.size, 0, none⟩ (.bool false)).setCell ⟨w.heap.size, 1, none⟩ (.int .i64 0)).setCell ⟨w.heap.size, 2, none⟩ (.int .u32 0)).cell? ⟨w.heap.size, 0, none⟩ = some (.bool false) := (cell_of_row _ _ 0 _ _ (0, 0) HS1.out).trans rfl
  have k1 : (((w1.setCell ⟨w.heap.size, 0, none⟩ (.bool false)).setCell ⟨w.heap.size, 1, none⟩ (.int .i64 0)).setCell ⟨w.heap.size, 2, none⟩ (.int .u32 0)).cell? ⟨w.heap.size, 1, none⟩ = some (.int .i64 0) := (cell_of_row _ _ 1 _ _ (0, 0) HS1.out).trans rfl
  have k2 : (((w1.setCell ⟨w.heap.size, 0, none⟩ (.bool false)).setCell ⟨w.heap.size, 1, none⟩ (.int .i64 0)).setCell ⟨w.heap.size, 2, none⟩ (.int .u32 0)).cell? ⟨w.heap.size, 2, none⟩ = some (.int .u32 0) := (cell_of_row _ _ 2 _ _ (0, 0) HS1.out).trans rfl
  have HFI : Hid (∃ w2, Q w2 ∧ Only (fun k => k = w.heap.size) w2 (((w1.setCell ⟨w.heap.size, 0, none⟩ (.bool false)).setCell ⟨w.heap.size, 1, none⟩ (.int .i64 0)).setCell ⟨w.heap.size, 2, none⟩ (.int .u32 0))) := ⟨w1, HQ.out, HS2.out⟩
  clear h0 h1 h2 f0 f1 f2 HS1 HS2 HQ hmf
  obtain ⟨wf, hwf⟩ : ∃ wf, wf = (((w1.setCell ⟨w.heap.size, 0, none⟩ (.bool false)).setCell ⟨w.heap.size, 1, none⟩ (.int .i64 0)).setCell ⟨w.heap.size, 2, none⟩ (.int .u32 0)) := ⟨_, rfl⟩
  rw [← hwf] at k0 k1 k2 HFI ⊢
  clear hwf
  simp [Leaves, settle, results, Tryz.results75, go_sem, k0, k1, k2]
  exact HFI.out
set_option maxRecDepth 100000 in
set_option maxHeartbeats 1000000 in
theorem told_err (sv : Value) (c : Int) (t : Nat) (w : World) (Q : World → Prop)
    (h : Calls Tryz.prog 76 #[sv] (w.alloc (.cells (evC false 0 0) 93)) fun e w' => e = .panicked (trapP c t) ∧ Q w' ∧ w'.heap[w.heap.size]? = some (.cells (evC false 0 0) 93 (0, 0))) :
    Calls Tryz.prog 75 #[.func (.func 76) #[sv] #[]] w fun e w' => e = .returned (.agg (evC true c t)) ∧ ∃ w1, Q w1 ∧ Only (fun k => k = w.heap.size) w1 w' := by
  have hmf : ∀ (fn : Fn) (first cap : Array Value) (w : World), (Instr.makeFunc fn first cap).run Tryz.prog w = .ok (.func fn first cap) w := fun _ _ _ _ => rfl
  have H := Vx.hid h
  clear h
  unfold evC at *
  go_enter_defers Tryz.func75, Tryz.ntmps75
  go_wp2_with fail
  refine H.out.mono ?_
  rintro e w1 ⟨rfl, hQ, hb⟩
  have HQ := Vx.hid hQ
  have HB := Vx.hid hb
  clear hQ hb H
  try go_wp2_with fail
  refine leaves_cons (f := 87) (args := #[.pointer (some ⟨w.heap.size, 0, none⟩)]) (by simp) (by simp [go_sem]) ?_
  refine (told_trap w.heap.size c t [] _ HB.out).mono ?_
  rintro e u' w2 ⟨rfl, rfl, hb2, ho2⟩
  have k0 : w2.cell? ⟨w.heap.size, 0, none⟩ = some (.bool true) := (cell_of_row _ _ 0 _ _ (0, 0) hb2).trans rfl
  have k1 : w2.cell? ⟨w.heap.size, 1, none⟩ = some (.int .i64 c) := (cell_of_row _ _ 1 _ _ (0, 0) hb2).trans rfl
  have k2 : w2.cell? ⟨w.heap.size, 2, none⟩ = some (.int .u32 (t : Int)) := (cell_of_row _ _ 2 _ _ (0, 0) hb2).trans rfl
  simp [Leaves, settle, results, Tryz.results75, go_sem, k0, k1, k2]
  exact ⟨w1, HQ.out, ho2⟩
end Go.Proofs.YtflmobffeeocdaaGreatDoor

/- Walks of package hart: Step. -/
namespace Go.Proofs.YtflmobffeeocdaaGreatDoor
open Go.ChangeShapes Go.WideShapes Go.ChangeAt Go.RowKit
open Go.Vx

/-- What Step leaves. -/
def StepP (U : Nat → Prop) (w : World) (bm n cb off : Nat) (T : TypeId) (cs : Array Value) (r : StepR) (e : Ending) (w' : World) : Prop :=
  (∃ c t, r = .error (c, t) ∧ e = .returned (.agg (evC true c t)) ∧ Only (fun _ => False) w w') ∨
  ∃ f' R' pc', r = .ok (f', R', pc') ∧ e = .returned (.agg (evC false 0 0)) ∧ MemAt U w' bm n f' ∧ (∃ cs', CxAt w' cb off T cs' R' pc' ∧ Beside cs cs' off) ∧ Only (fun k => ¬ U k ∨ k = cb) w w'
theorem MemAt.less {U V : Nat → Prop} {w : World} {bm n : Nat} {f : Nat → UInt8} (h : MemAt V w bm n f) (hUV : ∀ k, U k → V k) : MemAt U w bm n f := by
  obtain ⟨bp', q', h3⟩ := h
  exact ⟨bp', q', h3.pos, h3.top, h3.m, h3.p, h3.nil, h3.pg, h3.inj, fun hu => h3.um (hUV _ hu), fun hu => h3.up (hUV _ hu), fun i b hi hq hu => h3.ug i b hi hq (hUV _ hu), fun k hu => h3.low k (hUV k hu)⟩
set_option maxRecDepth 100000 in
set_option maxHeartbeats 2000000 in
theorem step_any {U : Nat → Prop} {w : World} {bm n cb off pc : Nat} {T : TypeId} {cs : Array Value} {R : Nat → Nat} {f : Nat → UInt8} (h : MemAt U w bm n f) (hus : UsesAt w) (hmi : MisAt w) (hfo : FormsAt w) (hc : CxAt w cb off T cs R pc) (hu : U cb) (hpc : pc < 4294967296) (hR : ∀ i, i < 32 → R i < 4294967296) (root : Int) :
    Calls Tryz.prog 53 #[.pointer (some ⟨bm, 0, none⟩), .int .i64 root, .pointer (some ⟨cb, off, none⟩)] w fun e w' => StepP U w bm n cb off T cs (stepF f n root R pc) e w' := by
  obtain ⟨w1, hw1⟩ : ∃ w1, w1 = (w.alloc (.cells (evC false 0 0) 93)).alloc (.cells #[.pointer (some ⟨bm, 0, none⟩), .int .i64 root, .pointer (some ⟨cb, off, none⟩)] 125) := ⟨_, rfl⟩
  have hcl : cb < w.heap.size := lt_of_some hc.b
  have hO1 : Only (fun _ => False) w w1 := by rw [hw1]; exact ((Only.refl _ w).alloc _).alloc _
  have hs1 : w1.heap.size = w.heap.size + 2 := by rw [hw1]; simp
  have hb0 : w1.heap[w.heap.size]? = some (.cells (evC false 0 0) 93 (0, 0)) := by
    rw [hw1, RowKit.Below.heap_alloc _ _ _ (by simp)]; exact heap_alloc_last w _
  obtain ⟨wA, hwA⟩ : ∃ wA, wA = w1.alloc (.cells (evC false 0 0) 93) := ⟨_, rfl⟩
  have hOA : Only (fun _ => False) w wA := by rw [hwA]; exact hO1.alloc _
  have hsA : wA.heap.size = w.heap.size + 3 := by rw [hwA]; simp [hs1]
  have hbA : wA.heap[w1.heap.size]? = some (.cells (evC false 0 0) 93 (0, 0)) := by rw [hwA]; exact heap_alloc_last w1 _
  have hbB : wA.heap[w.heap.size]? = some (.cells (evC false 0 0) 93 (0, 0)) := by
    rw [hwA, RowKit.Below.heap_alloc _ _ _ (by omega)]; exact hb0
  have HRUN := run_any (h.more hOA) (hus.only hOA (fun h => h)) (hmi.only hOA (fun h => h)) (hfo.only hOA (fun h => h)) (hc.only hOA (fun h => h)) (Or.inl hu) hpc hR root
  have HT : Hid (Calls Tryz.prog 75 #[.func (.func 76) #[.agg #[.pointer (some ⟨bm, 0, none⟩), .int .i64 root, .pointer (some ⟨cb, off, none⟩)]] #[]] w1 fun e w2 => ∃ b c t, e = .returned (.agg (evC b c t)) ∧ w2.heap[w.heap.size]? = some (.cells (evC false 0 0) 93 (0, 0)) ∧ ∀ w3, Only (fun k => k = w.heap.size) w2 w3 → StepP U w bm n cb off T cs (stepF f n root R pc) (.returned (.agg (evC b c t))) w3) := by
    cases hst : stepF f n root R pc with
    | error ct =>
      obtain ⟨c, t⟩ := ct
      refine (told_err _ c t w1 (fun wv => Only (fun _ => False) wA wv) ?_).mono ?_
      · rw [← hwA]
        refine HRUN.mono ?_
        rintro e w' (⟨c', t', h1, rfl, ho⟩ | ⟨f', R', pc', h1, _⟩)
        · rw [hst] at h1
          injection h1 with h1
          injection h1 with h1 h2
          subst h1 h2
          exact ⟨rfl, ho, by rw [ho.block _ (lt_of_some hbA) (fun h => h)]; exact hbA⟩
        · rw [hst] at h1; cases h1
      · rintro e w2 ⟨rfl, wv, hv, ho⟩
        have hb2 : w2.heap[w.heap.size]? = some (.cells (evC false 0 0) 93 (0, 0)) := by
          rw [ho.block _ (Nat.lt_of_lt_of_le (lt_of_some hbB) hv.size) (by omega), hv.block _ (lt_of_some hbB) (fun h => h)]; exact hbB
        refine ⟨true, c, t, rfl, hb2, fun w3 h3 => Or.inl ⟨c, t, rfl, rfl, ?_⟩⟩
        exact ⟨h3.os.trans (ho.os.trans ((hOA.trans hv).os)), h3.tape.trans (ho.tape.trans ((hOA.trans hv).tape)), h3.output.trans (ho.output.trans ((hOA.trans hv).output)), Nat.le_trans (hOA.trans hv).size (Nat.le_trans ho.size h3.size), fun k hk _ => by
          rw [h3.block k (Nat.lt_of_lt_of_le hk (Nat.le_trans (hOA.trans hv).size ho.size)) (by omega), ho.block k (Nat.lt_of_lt_of_le hk (hOA.trans hv).size) (by omega), (hOA.trans hv).block k hk (fun h => h)]⟩
    | ok r =>
      obtain ⟨f', R', pc'⟩ := r
      refine (told_ok _ w1 (fun wv => MemAt (fun k => U k ∨ (w.heap.size ≤ k ∧ k < wA.heap.size)) wv bm n f' ∧ (∃ cs', CxAt wv cb off T cs' R' pc' ∧ Beside cs cs' off) ∧ Only (fun k => ¬ (U k ∨ (w.heap.size ≤ k ∧ k < wA.heap.size)) ∨ k = cb) wA wv) ?_).mono ?_
      · rw [← hwA]
        refine HRUN.mono ?_
        rintro e w' (⟨c', t', h1, _⟩ | ⟨f2, R2, pc2, h1, rfl, h2, h3, h4⟩)
        · rw [hst] at h1; cases h1
        · rw [hst] at h1
          injection h1 with h1
          injection h1 with h1 h5
          injection h5 with h5 h6
          subst h1 h5 h6
          refine ⟨rfl, ⟨h2, h3, h4⟩, ?_⟩
          rw [h4.block _ (lt_of_some hbA) (by rintro (hn | hn); exact hn (Or.inr ⟨by omega, by omega⟩); omega)]
          exact hbA
      · rintro e w2 ⟨rfl, wv, ⟨h2, ⟨cs', h3, hbe⟩, h4⟩, ho⟩
        have hzv := h4.size
        have hb2 : w2.heap[w.heap.size]? = some (.cells (evC false 0 0) 93 (0, 0)) := by
          rw [ho.block _ (by omega) (by omega), h4.block _ (lt_of_some hbB) (by rintro (hn | hn); exact hn (Or.inr ⟨by omega, by omega⟩); omega)]; exact hbB
        refine ⟨false, 0, 0, rfl, hb2, fun w3 h3' => Or.inr ⟨f', R', pc', rfl, rfl, ?_, ⟨cs', ?_, hbe⟩, ?_⟩⟩
        · have m2 := h2.only ho (fun k hk _ => by rw [hk]; exact Or.inr ⟨by omega, by omega⟩)
          have m3 := m2.only h3' (fun k hk _ => by rw [hk]; exact Or.inr ⟨by omega, by omega⟩)
          exact m3.less (fun k hk => Or.inl hk)
        · exact (h3.only ho (by omega)).only h3' (by omega)
        · have hsz : w.heap.size ≤ wv.heap.size := by omega
          exact ⟨h3'.os.trans (ho.os.trans (h4.os.trans hOA.os)), h3'.tape.trans (ho.tape.trans (h4.tape.trans hOA.tape)), h3'.output.trans (ho.output.trans (h4.output.trans hOA.output)), Nat.le_trans hsz (Nat.le_trans ho.size h3'.size), fun k hk hn => by
            rw [h3'.block k (Nat.lt_of_lt_of_le hk (Nat.le_trans hsz ho.size)) (by omega), ho.block k (Nat.lt_of_lt_of_le hk hsz) (by omega), h4.block k (by omega) (by rintro (hx | hx); exact hn (Or.inl (fun hu' => hx (Or.inl hu'))); exact hn (Or.inr hx)), hOA.block k hk (fun h => h)]⟩
  clear h hus hmi hfo hc hu hpc hR HRUN hOA hsA hbA hbB hwA hO1 hb0
  have hmf : ∀ (fn : Fn) (first cap : Array Value) (w : World), (Instr.makeFunc fn first cap).run Tryz.prog w = .ok (.func fn first cap) w := fun _ _ _ _ => rfl
  have hs1' : w.heap.size + 2 = w1.heap.size := hs1.symm
  clear hs1
  subst hw1
  clear hs1'
  go_enter Tryz.func53, Tryz.ntmps53
  go_wp2_with fail
  refine HT.out.mono ?_
  rintro e w2 ⟨b, c, t, rfl, hb2, hfin⟩
  obtain ⟨s1, s2⟩ := ev_set (b := false) (c := 0) (t := 0) hb2 b c t
  have HFI := Vx.hid (hfin _ s2)
  have HS1 := Vx.hid s1
  have h0 : w2.cell? ⟨w.heap.size, 0, none⟩ = some (.bool false) := (cell_of_row _ _ 0 _ _ (0, 0) hb2).trans rfl
  have h1 : w2.cell? ⟨w.heap.size, 1, none⟩ = some (.int .i64 0) := (cell_of_row _ _ 1 _ _ (0, 0) hb2).trans rfl
  have h2 : w2.cell? ⟨w.heap.size, 2, none⟩ = some (.int .u32 0) := (cell_of_row _ _ 2 _ _ (0, 0) hb2).trans rfl
  have f0 : w2.frozen? ⟨w.heap.size, 0, none⟩ = false := by simp [World.frozen?, hb2]
  have f1 : w2.frozen? ⟨w.heap.size, 1, none⟩ = false := by simp [World.frozen?, hb2]
  have f2 : w2.frozen? ⟨w.heap.size, 2, none⟩ = false := by simp [World.frozen?, hb2]
  have hl : w.heap.size < w2.heap.size := lt_of_some hb2
  have k0 : (((w2.setCell ⟨w.heap.size, 0, none⟩ (.bool b)).setCell ⟨w.heap.size, 1, none⟩ (.int .i64 c)).setCell ⟨w.heap.size, 2, none⟩ (.int .u32 (t : Int))).cell? ⟨w.heap.size, 0, none⟩ = some (.bool b) := (cell_of_row _ _ 0 _ _ (0, 0) s1).trans rfl
  have k1 : (((w2.setCell ⟨w.heap.size, 0, none⟩ (.bool b)).setCell ⟨w.heap.size, 1, none⟩ (.int .i64 c)).setCell ⟨w.heap.size, 2, none⟩ (.int .u32 (t : Int))).cell? ⟨w.heap.size, 1, none⟩ = some (.int .i64 c) := (cell_of_row _ _ 1 _ _ (0, 0) s1).trans rfl
  have k2 : (((w2.setCell ⟨w.heap.size, 0, none⟩ (.bool b)).setCell ⟨w.heap.size, 1, none⟩ (.int .i64 c)).setCell ⟨w.heap.size, 2, none⟩ (.int .u32 (t : Int))).cell? ⟨w.heap.size, 2, none⟩ = some (.int .u32 (t : Int)) := (cell_of_row _ _ 2 _ _ (0, 0) s1).trans rfl
  have HK := Vx.hid (⟨k0, k1, k2⟩ : _ ∧ _ ∧ _)
  clear hb2 hfin s1 s2 HT k0 k1 k2
  unfold evC at *
  go_wp2_with fail
  obtain ⟨k0, k1, k2⟩ := HK.out
  refine bodyPost_ret (v := .agg #[.bool b, .int .i64 c, .int .u32 (t : Int)]) ?_ rfl HFI.out
  simp [results, Tryz.results53, go_sem, k0, k1, k2]
end Go.Proofs.YtflmobffeeocdaaGreatDoor

/- Walks of the document's chapter 6: a context; trapped. -/
namespace Go.Proofs.YtflmobffeeocdaaGreatDoor
open Go.ChangeShapes Go.WideShapes Go.ChangeAt Go.RowKit
open Go.Vx

/-- The document's registers and pc, in a block. -/
structure DxAt (w : World) (cb off : Nat) (T : TypeId) (cs : Array Value) (R : Nat → Nat) (pc : Nat) : Prop where
  b : w.heap[cb]? = some (.cells cs T (0, 0))
  r : ∀ i, i < 32 → cs[off + i]? = some (.int .i64 (R i : Nat))
  p : cs[off + 32]? = some (.int .i64 (pc : Int))
theorem DxAt.only {S : Nat → Prop} {w w' : World} {cb off : Nat} {T : TypeId} {cs : Array Value} {R : Nat → Nat} {pc : Nat} (h : DxAt w cb off T cs R pc) (ho : Only S w w') (hS : ¬ S cb) : DxAt w' cb off T cs R pc :=
  ⟨by rw [ho.block cb (lt_of_some h.b) hS]; exact h.b, h.r, h.p⟩
theorem DxAt.fz {w : World} {cb off : Nat} {T : TypeId} {cs : Array Value} {R : Nat → Nat} {pc : Nat} (h : DxAt w cb off T cs R pc) (j : Nat) : w.frozen? ⟨cb, j, none⟩ = false := by
  have h1 := h.b
  simp [World.frozen?, h1]
theorem DxAt.cr {w : World} {cb off : Nat} {T : TypeId} {cs : Array Value} {R : Nat → Nat} {pc : Nat} (h : DxAt w cb off T cs R pc) (i : Nat) (hi : i < 32) : w.cell? ⟨cb, off + i, none⟩ = some (.int .i64 (R i : Nat)) := by
  rw [cell_of_row _ _ (off + i) _ _ (0, 0) h.b]; exact h.r i hi
theorem DxAt.cp {w : World} {cb off : Nat} {T : TypeId} {cs : Array Value} {R : Nat → Nat} {pc : Nat} (h : DxAt w cb off T cs R pc) : w.cell? ⟨cb, off + 32, none⟩ = some (.int .i64 (pc : Int)) := by
  rw [cell_of_row _ _ (off + 32) _ _ (0, 0) h.b]; exact h.p
theorem DxAt.setPc {w : World} {cb off : Nat} {T : TypeId} {cs : Array Value} {R : Nat → Nat} {pc : Nat} (h : DxAt w cb off T cs R pc) (v : Nat) :
    ∃ cs', DxAt (w.setCell ⟨cb, off + 32, none⟩ (.int .i64 (v : Int))) cb off T cs' R v ∧ Beside cs cs' off := by
  have hlt : off + 32 < cs.size := (Array.getElem?_eq_some_iff.1 h.p).1
  refine ⟨cs.setIfInBounds (off + 32) (.int .i64 (v : Int)), ⟨heap_setCell_same _ _ _ _ _ _ h.b, fun i hi => ?_, ?_⟩, by simp, fun j hj => ?_⟩
  · rw [Array.getElem?_setIfInBounds, if_neg (by omega)]; exact h.r i hi
  · rw [Array.getElem?_setIfInBounds, if_pos rfl, if_pos hlt]
  · rw [Array.getElem?_setIfInBounds, if_neg (by omega)]
theorem DxAt.setR {w : World} {cb off : Nat} {T : TypeId} {cs : Array Value} {R : Nat → Nat} {pc : Nat} (h : DxAt w cb off T cs R pc) (rd v : Nat) (hrd : rd < 32) (h0 : rd ≠ 0) :
    ∃ cs', DxAt (w.setCell ⟨cb, off + rd, none⟩ (.int .i64 (v : Int))) cb off T cs' (Vx.setR R rd v) pc ∧ Beside cs cs' off := by
  have hlt : off + 32 < cs.size := (Array.getElem?_eq_some_iff.1 h.p).1
  refine ⟨cs.setIfInBounds (off + rd) (.int .i64 (v : Int)), ⟨heap_setCell_same _ _ _ _ _ _ h.b, fun i hi => ?_, ?_⟩, by simp, fun j hj => ?_⟩
  · rw [Array.getElem?_setIfInBounds]
    unfold Vx.setR
    rw [if_neg h0]
    by_cases hi2 : i = rd
    · rw [if_pos (by omega), if_pos (by omega), if_pos hi2]
    · rw [if_neg (by omega), if_neg hi2]; exact h.r i hi
  · rw [Array.getElem?_setIfInBounds, if_neg (by omega)]; exact h.p
  · rw [Array.getElem?_setIfInBounds, if_neg (by omega)]
/-- What the document's step leaves. -/
def DocP (w : World) (br bb n cb off : Nat) (T : TypeId) (cs : Array Value) (r : StepR) (e : Ending) (w' : World) : Prop :=
  (∃ c t, r = .error (c, t) ∧ e = .returned (.agg (evC true c t)) ∧ Only (fun _ => False) w w') ∨
  ∃ f' R' pc', r = .ok (f', R', pc') ∧ e = .returned (.agg (evC false 0 0)) ∧ RefAt w' br bb n f' ∧ (∃ cs', DxAt w' cb off T cs' R' pc' ∧ Beside cs cs' off) ∧ Only (fun k => k = bb ∨ k = cb) w w'
theorem trapped_any (c : Int) (t : Nat) (ht : t < 4294967296) (w : World) :
    Calls Tryz.prog 77 #[.int .i64 c, .int .i64 (t : Int)] w fun e w' => e = .returned (.agg (evC true c t)) ∧ Only (fun _ => False) w w' := by
  have h1 : IntKind.u32.wrap (t : Int) = (t : Int) := wrap_u32_n t ht
  clear ht
  unfold evC
  go_enter Tryz.func77, Tryz.ntmps77
  go_wp2_with fail
  refine bodyPost_ret (v := .agg #[.bool true, .int .i64 c, .int .u32 (t : Int)]) ?_ rfl ⟨rfl, (Only.refl _ w).alloc _⟩
  simp [results, Tryz.results77, go_sem]
theorem walk_cause (f : Nat → UInt8) (n : Nat) (root : Int) (va : Nat) (u : Nat) (hu : u < 3) : (walkF f n root va u).2 = -1 ∨ 0 ≤ (walkF f n root va u).2 := by
  unfold walkF
  rw [if_neg (by omega)]
  split
  · right; exact Int.natCast_nonneg _
  · unfold endF
    split
    · right; exact Int.natCast_nonneg _
    · split
      · right; exact Int.natCast_nonneg _
      · left; rfl
/-- The event that stands where a step's result lies. -/
theorem ev_read {w : World} {eb : Nat} {b : Bool} {c : Int} {t : Nat} (h : w.heap[eb]? = some (.cells (evC b c t) 93 (0, 0))) : w.cell? ⟨eb, 0, none⟩ = some (.bool b) ∧ w.cell? ⟨eb, 1, none⟩ = some (.int .i64 c) ∧ w.cell? ⟨eb, 2, none⟩ = some (.int .u32 (t : Int)) ∧ (∀ j, w.frozen? ⟨eb, j, none⟩ = false) ∧ eb < w.heap.size :=
  ⟨(cell_of_row _ _ 0 _ _ (0, 0) h).trans rfl, (cell_of_row _ _ 1 _ _ (0, 0) h).trans rfl, (cell_of_row _ _ 2 _ _ (0, 0) h).trans rfl, fun j => by simp [World.frozen?, h], lt_of_some h⟩
theorem hi_step (f : Nat → UInt8) (a n k : Nat) (hn : n = 1 ∨ n = 2 ∨ n = 4) (hk : k < n) : 256 * (partF f a n / 256 ^ (k + 1)) + (f (a + k)).toNat = partF f a n / 256 ^ k := by
  have h0 := (f a).toNat_lt
  have h1 := (f (a + 1)).toNat_lt
  have h2 := (f (a + 2)).toNat_lt
  have h3 := (f (a + 3)).toNat_lt
  have hc : k = 0 ∨ k = 1 ∨ k = 2 ∨ k = 3 := by omega
  rcases hn with rfl | rfl | rfl <;> rcases hc with rfl | rfl | rfl | rfl <;> first | omega | (simp only [partF, wordF]; simp; omega)
theorem hi_top (f : Nat → UInt8) (a n : Nat) (hn : n = 1 ∨ n = 2 ∨ n = 4) : partF f a n / 256 ^ n = 0 := by
  have h0 := (f a).toNat_lt
  have h1 := (f (a + 1)).toNat_lt
  have h2 := (f (a + 2)).toNat_lt
  have h3 := (f (a + 3)).toNat_lt
  rcases hn with rfl | rfl | rfl <;> simp only [partF, wordF] <;> omega
theorem wrap_ext (P LV : Nat) (m : Int) (h : P < 4294967296) (h0 : 0 ≤ m) (h1 : m ≤ 65536) (hx : (LV : Int) = (P : Int) + 4294967296 - m) : IntKind.i64.wrap ((P : Int) + 4294967296 - m) = (LV : Int) := by
  rw [← hx, IntKind.wrap_i64]; omega
theorem ld11_hi (v : Nat) (h : 128 ≤ v) : ((ldF 11 v : Nat) : Int) = (v : Int) + 4294967296 - 256 := by
  have e : ldF 11 v = v + 4294967296 - 256 := if_pos ⟨rfl, h⟩
  rw [e]; omega
theorem ld11_lo (v : Nat) (h : ¬ 128 ≤ v) : ldF 11 v = v := by
  unfold ldF; rw [if_neg (by omega), if_neg (by omega)]
theorem ld12_hi (v : Nat) (h : 32768 ≤ v) : ((ldF 12 v : Nat) : Int) = (v : Int) + 4294967296 - 65536 := by
  have e : ldF 12 v = v + 4294967296 - 65536 := by unfold ldF; rw [if_neg (by omega), if_pos ⟨rfl, h⟩]
  rw [e]; omega
theorem ld12_lo (v : Nat) (h : ¬ 32768 ≤ v) : ldF 12 v = v := by
  unfold ldF; rw [if_neg (by omega), if_neg (by omega)]
theorem ld_other (op v : Nat) (h1 : op ≠ 11) (h2 : op ≠ 12) : ldF op v = v := by
  unfold ldF; rw [if_neg (by omega), if_neg (by omega)]
end Go.Proofs.YtflmobffeeocdaaGreatDoor

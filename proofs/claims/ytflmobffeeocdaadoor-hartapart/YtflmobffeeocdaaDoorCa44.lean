import Derived.Test.YtflmobffeeocdaaDoorCa35
import Derived.Test.YtflmobffeeocdaaDoorCa36
import Derived.Test.YtflmobffeeocdaaDoorCa38
import Derived.Test.YtflmobffeeocdaaDoorCa39
import Derived.Test.YtflmobffeeocdaaDoorCa40
import Derived.Test.YtflmobffeeocdaaDoorCa41
import Derived.Test.YtflmobffeeocdaaDoorCa42
import Derived.Test.YtflmobffeeocdaaDoorCa43
import Derived.Defers
import Derived.Recover
import Derived.Laws.Pointers
/- Walks of package hart: run, whole. -/
namespace Go.Proofs.YtflmobffeeocdaaDoor
open Go.ChangeShapes Go.WideShapes Go.ChangeAt Go.RowKit
open Go.Vx

theorem run_ins {U : Nat → Prop} {w : World} {bm n cb off pc : Nat} {T : TypeId} {cs : Array Value} {R : Nat → Nat} {f : Nat → UInt8} (h : MemAt U w bm n f) (hus : UsesAt w) (hmi : MisAt w) (hfo : FormsAt w) (hc : CxAt w cb off T cs R pc) (hu : U cb) (hpc : pc < 4294967296) (hR : ∀ i, i < 32 → R i < 4294967296) (root : Int) (p : Nat) (hp : placeF f n root pc 4 0 = .ok p) (op rd r1 r2 : Nat) (im : Int) (hi : InsIs (dec (wordF f p : Nat)) op rd r1 r2 im) :
    Calls Tryd.prog 19 #[.agg #[.pointer (some ⟨bm, 0, none⟩), .int .i64 root, .pointer (some ⟨cb, off, none⟩)]] w fun e w' => RunP U w bm n cb off T cs (exeF f n root R pc op rd (regF R r1) (regF R r2) im) e w' := by
  have h1 := hi.lo
  have h2 := hi.hi
  have hcs : op = 1 ∨ op = 2 ∨ op = 3 ∨ op = 4 ∨ (op = 5 ∨ op = 6 ∨ op = 7) ∨ (op = 8 ∨ op = 9 ∨ op = 10) ∨ (op = 11 ∨ op = 12 ∨ op = 13) ∨ (op = 14 ∨ op = 15) ∨ (op = 16 ∨ op = 17 ∨ op = 18) ∨ (op = 19 ∨ op = 20 ∨ op = 21 ∨ op = 22 ∨ op = 23) ∨ (op = 24 ∨ op = 25 ∨ op = 26 ∨ op = 27) ∨ op = 38 ∨ op = 39 ∨ op = 40 ∨ ((28 ≤ op ∧ op ≤ 37) ∨ (41 ≤ op ∧ op ≤ 48)) := by omega
  rcases hcs with o | o | o | o | o | o | o | o | o | o | o | o | o | o | o
  · exact run_lui h hus hmi hfo hc hu hpc hR root p hp op rd r1 r2 im hi o
  · exact run_auipc h hus hmi hfo hc hu hpc hR root p hp op rd r1 r2 im hi o
  · exact run_jal h hus hmi hfo hc hu hpc hR root p hp op rd r1 r2 im hi o
  · exact run_jalr h hus hmi hfo hc hu hpc hR root p hp op rd r1 r2 im hi o
  · exact run_goes1 h hus hmi hfo hc hu hpc hR root p hp op rd r1 r2 im hi o
  · exact run_goes2 h hus hmi hfo hc hu hpc hR root p hp op rd r1 r2 im hi o
  · exact run_load1 h hus hmi hfo hc hu hpc hR root p hp op rd r1 r2 im hi o
  · exact run_load2 h hus hmi hfo hc hu hpc hR root p hp op rd r1 r2 im hi o
  · exact run_store h hus hmi hfo hc hu hpc hR root p hp op rd r1 r2 im hi o
  · exact run_imm1 h hus hmi hfo hc hu hpc hR root p hp op rd r1 r2 im hi o
  · exact run_imm2 h hus hmi hfo hc hu hpc hR root p hp op rd r1 r2 im hi o
  · exact run_fence h hus hmi hfo hc hu hpc hR root p hp op rd r1 r2 im hi o
  · exact run_ecall h hus hmi hfo hc hu hpc hR root p hp op rd r1 r2 im hi o
  · exact run_ebreak h hus hmi hfo hc hu hpc hR root p hp op rd r1 r2 im hi o
  · exact run_sum h hus hmi hfo hc hu hpc hR root p hp op rd r1 r2 im hi o
/-- Where fetch gives up, so does run. -/
theorem run_gives {w : World} {bm cb off : Nat} (root : Int) (P : List PanicEntry) (hf : ∀ wv, Only (fun _ => False) w wv → Calls Tryd.prog 30 #[.agg #[.pointer (some ⟨bm, 0, none⟩), .int .i64 root, .pointer (some ⟨cb, off, none⟩)]] wv fun e w' => e = .panicked P ∧ Only (fun _ => False) wv w') :
    Calls Tryd.prog 19 #[.agg #[.pointer (some ⟨bm, 0, none⟩), .int .i64 root, .pointer (some ⟨cb, off, none⟩)]] w fun e w' => e = .panicked P ∧ Only (fun _ => False) w w' := by
  have HF := Vx.hid hf
  clear hf
  go_enter Tryd.func19, Tryd.ntmps19
  go_wp2_with fail
  have HO1 : Hid (Only (fun _ => False) w (w.alloc (.cells #[.pointer (some ⟨bm, 0, none⟩), .int .i64 root, .pointer (some ⟨cb, off, none⟩)] 61))) := (Only.refl _ w).alloc _
  refine (HF.out _ HO1.out).mono ?_
  rintro e w8 ⟨rfl, h8⟩
  have HF2 := Vx.hid (HO1.out.trans h8)
  clear h8 HO1 HF
  first | exact ⟨rfl, rfl, HF2.out⟩ | (go_wp2_with fail; all_goals exact ⟨rfl, rfl, HF2.out⟩)
theorem run_any {U : Nat → Prop} {w : World} {bm n cb off pc : Nat} {T : TypeId} {cs : Array Value} {R : Nat → Nat} {f : Nat → UInt8} (h : MemAt U w bm n f) (hus : UsesAt w) (hmi : MisAt w) (hfo : FormsAt w) (hc : CxAt w cb off T cs R pc) (hu : U cb) (hpc : pc < 4294967296) (hR : ∀ i, i < 32 → R i < 4294967296) (root : Int) :
    Calls Tryd.prog 19 #[.agg #[.pointer (some ⟨bm, 0, none⟩), .int .i64 root, .pointer (some ⟨cb, off, none⟩)]] w fun e w' => RunP U w bm n cb off T cs (stepF f n root R pc) e w' := by
  cases hp : placeF f n root pc 4 0 with
  | error ct =>
    obtain ⟨c, t⟩ := ct
    refine (run_gives root (trapP c t) (fun wv hv => ?_)).mono ?_
    · exact fetch_trap (h.only hv (fun _ h _ => h.elim)) (hus.only hv (fun h => h)) (hmi.only hv (fun h => h)) (hc.only hv (fun h => h)).ctx hpc root c t hp
    · rintro e w' ⟨rfl, ho⟩
      exact Or.inl ⟨c, t, by unfold stepF; rw [hp]; rfl, rfl, ho⟩
  | ok p =>
    by_cases h0 : (dec (wordF f p : Nat)).op = 0
    · refine (run_gives root (trapP 2 (wordF f p)) (fun wv hv => ?_)).mono ?_
      · refine (fetch_good (h.only hv (fun _ h _ => h.elim)) (hus.only hv (fun h => h)) (hmi.only hv (fun h => h)) (hfo.only hv (fun h => h)) (hc.only hv (fun h => h)).ctx hpc root p hp).mono ?_
        rintro e w' ⟨⟨_, rfl⟩ | ⟨h1, _⟩, ho⟩
        · exact ⟨rfl, ho⟩
        · exact absurd h0 h1
      · rintro e w' ⟨rfl, ho⟩
        exact Or.inl ⟨2, wordF f p, by unfold stepF; rw [hp]; exact if_pos h0, rfl, ho⟩
    · obtain ⟨op, rd, r1, r2, im, hi⟩ := dec_is (wordF f p) (wordF_lt f p) h0
      have he : stepF f n root R pc = exeF f n root R pc op rd (regF R r1) (regF R r2) im := by
        unfold stepF; rw [hp]; exact decG_ok hi
      rw [he]
      exact run_ins h hus hmi hfo hc hu hpc hR root p hp op rd r1 r2 im hi
end Go.Proofs.YtflmobffeeocdaaDoor

/- Walks of package hart: told, Step. -/
namespace Go.Proofs.YtflmobffeeocdaaDoor
open Go.ChangeShapes Go.WideShapes Go.ChangeAt Go.RowKit
open Go.Vx

/-- An event's cells. -/
def evC (b : Bool) (c : Int) (t : Nat) : Array Value := #[.bool b, .int .i64 c, .int .u32 (t : Int)]
/-- An event laid into its cells. -/
theorem ev_set {w : World} {eb : Nat} {b : Bool} {c : Int} {t : Nat} (hb : w.heap[eb]? = some (.cells (evC b c t) 40 (0, 0))) (b2 : Bool) (c2 : Int) (t2 : Nat) :
    (((w.setCell ⟨eb, 0, none⟩ (.bool b2)).setCell ⟨eb, 1, none⟩ (.int .i64 c2)).setCell ⟨eb, 2, none⟩ (.int .u32 (t2 : Int))).heap[eb]? = some (.cells (evC b2 c2 t2) 40 (0, 0)) ∧ Only (fun k => k = eb) w (((w.setCell ⟨eb, 0, none⟩ (.bool b2)).setCell ⟨eb, 1, none⟩ (.int .i64 c2)).setCell ⟨eb, 2, none⟩ (.int .u32 (t2 : Int))) := by
  have o0 : Only (fun k => k = eb) w w := Only.refl _ w
  refine ⟨?_, ((o0.setCell (p := ⟨eb, 0, none⟩) (Or.inl rfl) _).setCell (p := ⟨eb, 1, none⟩) (Or.inl rfl) _).setCell (p := ⟨eb, 2, none⟩) (Or.inl rfl) _⟩
  rw [heap_setCell_same _ _ _ _ _ _ (heap_setCell_same _ _ _ _ _ _ (heap_setCell_same _ _ _ _ _ _ hb))]
  rfl
theorem told_idle (p : Addr) (w : World) :
    CallsD Tryd.prog 29 #[.pointer (some p)] .returning w fun e u' w' => e = .returned (.tuple #[]) ∧ u' = .returning ∧ w' = w := by
  refine callsD_of_wpS Tryd.func29 rfl fun c₀ cs hu => ?_
  apply wpS_seq
  apply wpS_region
  simp [wpOpsS, go_sem, recoverD, hu, Tryd.ntmps29, Exit.thenS]
  have hq : ∀ w, (binOp .eql 20 .nilIface .nilIface).run Tryd.prog w = .ok (.bool true) w := fun _ => by kernel_rfl
  refine wpS_of_wp ?_
  go_wp2_with fail
  cases c₀
  simp_all [bodyPostS, results, Tryd.results29]
set_option maxRecDepth 100000 in
set_option maxHeartbeats 2000000 in
theorem told_trap (eb : Nat) (c : Int) (t : Nat) (older : List PanicEntry) (w : World) (hb : w.heap[eb]? = some (.cells (evC false 0 0) 40 (0, 0))) :
    CallsD Tryd.prog 29 #[.pointer (some ⟨eb, 0, none⟩)] (.panicking ({ v := .iface 81 (.agg #[.int .i64 c, .int .u32 (t : Int)]), recovered := false } :: older)) w fun e u' w' =>
      e = .returned (.tuple #[]) ∧ u' = .panicking ({ v := .iface 81 (.agg #[.int .i64 c, .int .u32 (t : Int)]), recovered := true } :: older) ∧ w'.heap[eb]? = some (.cells (evC true c t) 40 (0, 0)) ∧ Only (fun k => k = eb) w w' := by
  refine callsD_of_wpS Tryd.func29 rfl fun c₀ cs hu => ?_
  apply wpS_seq
  apply wpS_region
  simp [wpOpsS, go_sem, recoverD, hu, Tryd.ntmps29, Exit.thenS]
  have hq : ∀ w, (binOp .eql 20 (.iface 81 (.agg #[.int .i64 c, .int .u32 (t : Int)])) .nilIface).run Tryd.prog w = .ok (.bool false) w := fun _ => by kernel_rfl
  have hta : ∀ w, (Instr.typeAssert (.iface 81 (.agg #[.int .i64 c, .int .u32 (t : Int)])) 20 81 true).run Tryd.prog w = .ok (.tuple #[.agg #[.int .i64 c, .int .u32 (t : Int)], .bool true]) w := fun _ => by kernel_rfl
  have h0 : w.cell? ⟨eb, 0, none⟩ = some (.bool false) := by rw [cell_of_row _ _ 0 _ _ (0, 0) hb]; rfl
  have h1 : w.cell? ⟨eb, 1, none⟩ = some (.int .i64 0) := by rw [cell_of_row _ _ 1 _ _ (0, 0) hb]; rfl
  have h2 : w.cell? ⟨eb, 2, none⟩ = some (.int .u32 0) := by rw [cell_of_row _ _ 2 _ _ (0, 0) hb]; rfl
  have f0 : w.frozen? ⟨eb, 0, none⟩ = false := by simp [World.frozen?, hb]
  have f1 : w.frozen? ⟨eb, 1, none⟩ = false := by simp [World.frozen?, hb]
  have f2 : w.frozen? ⟨eb, 2, none⟩ = false := by simp [World.frozen?, hb]
  have hl : eb < w.heap.size := lt_of_some hb
  obtain ⟨s1, s2⟩ := ev_set hb true c t
  have HFI : Hid (∀ o, (((((w.setCell ⟨eb, 0, none⟩ (.bool true)).setCell ⟨eb, 1, none⟩ (.int .i64 c)).setCell ⟨eb, 2, none⟩ (.int .u32 (t : Int))).alloc o).heap[eb]? = some (.cells (evC true c t) 40 (0, 0))) ∧ Only (fun k => k = eb) w ((((w.setCell ⟨eb, 0, none⟩ (.bool true)).setCell ⟨eb, 1, none⟩ (.int .i64 c)).setCell ⟨eb, 2, none⟩ (.int .u32 (t : Int))).alloc o)) := fun o => ⟨by rw [RowKit.Below.heap_alloc _ _ _ (lt_of_some s1)]; exact s1, s2.alloc o⟩
  clear hb s1 s2
  refine wpS_of_wp ?_
  go_wp2_with fail
  simp [bodyPostS, results, Tryd.results29]
  exact HFI.out _
set_option maxRecDepth 100000 in
set_option maxHeartbeats 1000000 in
theorem told_ok (sv : Value) (w : World) (Q : World → Prop)
    (h : Calls Tryd.prog 19 #[sv] (w.alloc (.cells (evC false 0 0) 40)) fun e w' => e = .returned (.tuple #[]) ∧ Q w' ∧ w'.heap[w.heap.size]? = some (.cells (evC false 0 0) 40 (0, 0))) :
    Calls Tryd.prog 18 #[.func (.func 19) #[sv] #[]] w fun e w' => e = .returned (.agg (evC false 0 0)) ∧ ∃ w1, Q w1 ∧ Only (fun k => k = w.heap.size) w1 w' := by
  have hmf : ∀ (fn : Fn) (first cap : Array Value) (w : World), (Instr.makeFunc fn first cap).run Tryd.prog w = .ok (.func fn first cap) w := fun _ _ _ _ => rfl
  have H := Vx.hid h
  clear h
  unfold evC at *
  go_enter_defers Tryd.func18, Tryd.ntmps18
  go_wp2_with fail
  refine H.out.mono ?_
  rintro e w1 ⟨rfl, hQ, hb⟩
  have HQ := Vx.hid hQ
  obtain ⟨s1, s2⟩ := ev_set (b := false) (c := 0) (t := 0) hb false 0 0
  have h0 : w1.cell? ⟨w.heap.size, 0, none⟩ = some (.bool false) := by rw [cell_of_row _ _ 0 _ _ (0, 0) hb]; rfl
  have h1 : w1.cell? ⟨w.heap.size, 1, none⟩ = some (.int .i64 0) := by rw [cell_of_row _ _ 1 _ _ (0, 0) hb]; rfl
  have h2 : w1.cell? ⟨w.heap.size, 2, none⟩ = some (.int .u32 0) := by rw [cell_of_row _ _ 2 _ _ (0, 0) hb]; rfl
  have f0 : w1.frozen? ⟨w.heap.size, 0, none⟩ = false := by simp [World.frozen?, hb]
  have f1 : w1.frozen? ⟨w.heap.size, 1, none⟩ = false := by simp [World.frozen?, hb]
  have f2 : w1.frozen? ⟨w.heap.size, 2, none⟩ = false := by simp [World.frozen?, hb]
  have hl : w.heap.size < w1.heap.size := lt_of_some hb
  have HS1 := Vx.hid s1
  have HS2 := Vx.hid s2
  clear hQ hb H s1 s2
  go_wp2_with fail
  refine leaves_cons (f := 29) (args := #[.pointer (some ⟨w.heap.size, 0, none⟩)]) (by simp) (by simp [go_sem]) ?_
  refine (told_idle ⟨w.heap.size, 0, none⟩ _).mono ?_
  rintro e u' w'' ⟨rfl, rfl, rfl⟩
  have k0 : (((w1.setCell ⟨w.heap.size, 0, none⟩ (.bool false)).setCell ⟨w.heap.size, 1, none⟩ (.int .i64 0)).setCell ⟨w.heap.size, 2, none⟩ (.int .u32 0)).cell? ⟨w.heap.size, 0, none⟩ = some (.bool false) := (cell_of_row _ _ 0 _ _ (0, 0) HS1.out).trans rfl
  have k1 : (((w1.setCell ⟨w.heap.size, 0, none⟩ (.bool false)).setCell ⟨w.heap.size, 1, none⟩ (.int .i64 0)).setCell ⟨w.heap.size, 2, none⟩ (.int .u32 0)).cell? ⟨w.heap.size, 1, none⟩ = some (.int .i64 0) := (cell_of_row _ _ 1 _ _ (0, 0) HS1.out).trans rfl
  have k2 : (((w1.setCell ⟨w.heap.size, 0, none⟩ (.bool false)).setCell ⟨w.heap.size, 1, none⟩ (.int .i64 0)).setCell ⟨w.heap.size, 2, none⟩ (.int .u32 0)).cell? ⟨w.heap.size, 2, none⟩ = some (.int .u32 0) := (cell_of_row _ _ 2 _ _ (0, 0) HS1.out).trans rfl
  have HFI : Hid (∃ w2, Q w2 ∧ Only (fun k => k = w.heap.size) w2 (((w1.setCell ⟨w.heap.size, 0, none⟩ (.bool false)).setCell ⟨w.heap.size, 1, none⟩ (.int .i64 0)).setCell ⟨w.heap.size, 2, none⟩ (.int .u32 0))) := ⟨w1, HQ.out, HS2.out⟩
  clear h0 h1 h2 f0 f1 f2 HS1 HS2 HQ hmf
  obtain ⟨wf, hwf⟩ : ∃ wf, wf = (((w1.setCell ⟨w.heap.size, 0, none⟩ (.bool false)).setCell ⟨w.heap.size, 1, none⟩ (.int .i64 0)).setCell ⟨w.heap.size, 2, none⟩ (.int .u32 0)) := ⟨_, rfl⟩
  rw [← hwf] at k0 k1 k2 HFI ⊢
  clear hwf
  simp [Leaves, settle, results, Tryd.results18, go_sem, k0, k1, k2]
  exact HFI.out
set_option maxRecDepth 100000 in
set_option maxHeartbeats 1000000 in
theorem told_err (sv : Value) (c : Int) (t : Nat) (w : World) (Q : World → Prop)
    (h : Calls Tryd.prog 19 #[sv] (w.alloc (.cells (evC false 0 0) 40)) fun e w' => e = .panicked (trapP c t) ∧ Q w' ∧ w'.heap[w.heap.size]? = some (.cells (evC false 0 0) 40 (0, 0))) :
    Calls Tryd.prog 18 #[.func (.func 19) #[sv] #[]] w fun e w' => e = .returned (.agg (evC true c t)) ∧ ∃ w1, Q w1 ∧ Only (fun k => k = w.heap.size) w1 w' := by
  have hmf : ∀ (fn : Fn) (first cap : Array Value) (w : World), (Instr.makeFunc fn first cap).run Tryd.prog w = .ok (.func fn first cap) w := fun _ _ _ _ => rfl
  have H := Vx.hid h
  clear h
  unfold evC at *
  go_enter_defers Tryd.func18, Tryd.ntmps18
  go_wp2_with fail
  refine H.out.mono ?_
  rintro e w1 ⟨rfl, hQ, hb⟩
  have HQ := Vx.hid hQ
  have HB := Vx.hid hb
  clear hQ hb H
  try go_wp2_with fail
  refine leaves_cons (f := 29) (args := #[.pointer (some ⟨w.heap.size, 0, none⟩)]) (by simp) (by simp [go_sem]) ?_
  refine (told_trap w.heap.size c t [] _ HB.out).mono ?_
  rintro e u' w2 ⟨rfl, rfl, hb2, ho2⟩
  have k0 : w2.cell? ⟨w.heap.size, 0, none⟩ = some (.bool true) := (cell_of_row _ _ 0 _ _ (0, 0) hb2).trans rfl
  have k1 : w2.cell? ⟨w.heap.size, 1, none⟩ = some (.int .i64 c) := (cell_of_row _ _ 1 _ _ (0, 0) hb2).trans rfl
  have k2 : w2.cell? ⟨w.heap.size, 2, none⟩ = some (.int .u32 (t : Int)) := (cell_of_row _ _ 2 _ _ (0, 0) hb2).trans rfl
  simp [Leaves, settle, results, Tryd.results18, go_sem, k0, k1, k2]
  exact ⟨w1, HQ.out, ho2⟩
end Go.Proofs.YtflmobffeeocdaaDoor

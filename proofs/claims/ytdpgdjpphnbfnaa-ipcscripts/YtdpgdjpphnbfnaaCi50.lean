import Derived.Test.YtdpgdjpphnbfnaaCi46
import Derived.Test.YtdpgdjpphnbfnaaCi48
import Derived.Deep.RegionHeld3
import Derived.Deep.CutRange
/- IpcScripts: passes: Send. -/
namespace Go.Proofs.Ytdpgdjpphnbfnaa
open Go.ChangeShapes Go.WideShapes Go.ChangeAt Go.RowKit
open Go.Vx
set_option linter.unusedVariables false
variable {W : World} {xb rb zb bb : Nat} {sz s : Bs} {X R Z Bk : Nat → Prop} {cs : Array Value} {V : Nat → Value} {L : Nat → List Sh} {wr : World}

theorem mem_upd {F : List (Nat × Obj)} {p : Nat × Obj} {b : Nat} {o o2 : Obj} (h : p ∈ F) (hne : p.1 ≠ b) : p ∈ (b, o2) :: ((b, o) :: F).filter fun p => decide (p.1 ≠ b) := by
  refine List.mem_cons_of_mem _ (List.mem_filter.2 ⟨List.mem_cons_of_mem _ h, ?_⟩)
  simpa using hne
theorem oc_set11 {w : World} {b : Nat} (h : w.heap[b]? = some (.cells #[.int .i64 0, .int .i64 0, .int .u32 0, .int .u32 0, .int .u32 0, .int .u32 0, .int .u32 0, .int .u32 0, .bool false, .bool false, .bool false] 37 (0, 0))) (o0 o1 o2 o3 o4 o5 o6 o7 : Int) (o8 o9 o10 : Bool) : (((((((((((w.setCell ⟨b, 0, none⟩ (.int .i64 o0)).setCell ⟨b, 1, none⟩ (.int .i64 o1)).setCell ⟨b, 2, none⟩ (.int .u32 o2)).setCell ⟨b, 3, none⟩ (.int .u32 o3)).setCell ⟨b, 4, none⟩ (.int .u32 o4)).setCell ⟨b, 5, none⟩ (.int .u32 o5)).setCell ⟨b, 6, none⟩ (.int .u32 o6)).setCell ⟨b, 7, none⟩ (.int .u32 o7)).setCell ⟨b, 8, none⟩ (.bool o8)).setCell ⟨b, 9, none⟩ (.bool o9)).setCell ⟨b, 10, none⟩ (.bool o10)).heap[b]? = some (.cells #[.int .i64 o0, .int .i64 o1, .int .u32 o2, .int .u32 o3, .int .u32 o4, .int .u32 o5, .int .u32 o6, .int .u32 o7, .bool o8, .bool o9, .bool o10] 37 (0, 0)) ∧ Only (fun k => k = b) w (((((((((((w.setCell ⟨b, 0, none⟩ (.int .i64 o0)).setCell ⟨b, 1, none⟩ (.int .i64 o1)).setCell ⟨b, 2, none⟩ (.int .u32 o2)).setCell ⟨b, 3, none⟩ (.int .u32 o3)).setCell ⟨b, 4, none⟩ (.int .u32 o4)).setCell ⟨b, 5, none⟩ (.int .u32 o5)).setCell ⟨b, 6, none⟩ (.int .u32 o6)).setCell ⟨b, 7, none⟩ (.int .u32 o7)).setCell ⟨b, 8, none⟩ (.bool o8)).setCell ⟨b, 9, none⟩ (.bool o9)).setCell ⟨b, 10, none⟩ (.bool o10)) := by
  refine ⟨?_, only_set11 _ _ _ _ _ _ _ _ _ _ _ _ _⟩
  have h0 : (w.setCell ⟨b, 0, none⟩ (.int .i64 o0)).heap[b]? = some (.cells #[.int .i64 o0, .int .i64 0, .int .u32 0, .int .u32 0, .int .u32 0, .int .u32 0, .int .u32 0, .int .u32 0, .bool false, .bool false, .bool false] 37 (0, 0)) := by rw [heap_setCell_same _ _ 0 _ _ (.int .i64 o0) h]; rfl
  have h1 : ((w.setCell ⟨b, 0, none⟩ (.int .i64 o0)).setCell ⟨b, 1, none⟩ (.int .i64 o1)).heap[b]? = some (.cells #[.int .i64 o0, .int .i64 o1, .int .u32 0, .int .u32 0, .int .u32 0, .int .u32 0, .int .u32 0, .int .u32 0, .bool false, .bool false, .bool false] 37 (0, 0)) := by rw [heap_setCell_same _ _ 1 _ _ (.int .i64 o1) h0]; rfl
  have h2 : (((w.setCell ⟨b, 0, none⟩ (.int .i64 o0)).setCell ⟨b, 1, none⟩ (.int .i64 o1)).setCell ⟨b, 2, none⟩ (.int .u32 o2)).heap[b]? = some (.cells #[.int .i64 o0, .int .i64 o1, .int .u32 o2, .int .u32 0, .int .u32 0, .int .u32 0, .int .u32 0, .int .u32 0, .bool false, .bool false, .bool false] 37 (0, 0)) := by rw [heap_setCell_same _ _ 2 _ _ (.int .u32 o2) h1]; rfl
  have h3 : ((((w.setCell ⟨b, 0, none⟩ (.int .i64 o0)).setCell ⟨b, 1, none⟩ (.int .i64 o1)).setCell ⟨b, 2, none⟩ (.int .u32 o2)).setCell ⟨b, 3, none⟩ (.int .u32 o3)).heap[b]? = some (.cells #[.int .i64 o0, .int .i64 o1, .int .u32 o2, .int .u32 o3, .int .u32 0, .int .u32 0, .int .u32 0, .int .u32 0, .bool false, .bool false, .bool false] 37 (0, 0)) := by rw [heap_setCell_same _ _ 3 _ _ (.int .u32 o3) h2]; rfl
  have h4 : (((((w.setCell ⟨b, 0, none⟩ (.int .i64 o0)).setCell ⟨b, 1, none⟩ (.int .i64 o1)).setCell ⟨b, 2, none⟩ (.int .u32 o2)).setCell ⟨b, 3, none⟩ (.int .u32 o3)).setCell ⟨b, 4, none⟩ (.int .u32 o4)).heap[b]? = some (.cells #[.int .i64 o0, .int .i64 o1, .int .u32 o2, .int .u32 o3, .int .u32 o4, .int .u32 0, .int .u32 0, .int .u32 0, .bool false, .bool false, .bool false] 37 (0, 0)) := by rw [heap_setCell_same _ _ 4 _ _ (.int .u32 o4) h3]; rfl
  have h5 : ((((((w.setCell ⟨b, 0, none⟩ (.int .i64 o0)).setCell ⟨b, 1, none⟩ (.int .i64 o1)).setCell ⟨b, 2, none⟩ (.int .u32 o2)).setCell ⟨b, 3, none⟩ (.int .u32 o3)).setCell ⟨b, 4, none⟩ (.int .u32 o4)).setCell ⟨b, 5, none⟩ (.int .u32 o5)).heap[b]? = some (.cells #[.int .i64 o0, .int .i64 o1, .int .u32 o2, .int .u32 o3, .int .u32 o4, .int .u32 o5, .int .u32 0, .int .u32 0, .bool false, .bool false, .bool false] 37 (0, 0)) := by rw [heap_setCell_same _ _ 5 _ _ (.int .u32 o5) h4]; rfl
  have h6 : (((((((w.setCell ⟨b, 0, none⟩ (.int .i64 o0)).setCell ⟨b, 1, none⟩ (.int .i64 o1)).setCell ⟨b, 2, none⟩ (.int .u32 o2)).setCell ⟨b, 3, none⟩ (.int .u32 o3)).setCell ⟨b, 4, none⟩ (.int .u32 o4)).setCell ⟨b, 5, none⟩ (.int .u32 o5)).setCell ⟨b, 6, none⟩ (.int .u32 o6)).heap[b]? = some (.cells #[.int .i64 o0, .int .i64 o1, .int .u32 o2, .int .u32 o3, .int .u32 o4, .int .u32 o5, .int .u32 o6, .int .u32 0, .bool false, .bool false, .bool false] 37 (0, 0)) := by rw [heap_setCell_same _ _ 6 _ _ (.int .u32 o6) h5]; rfl
  have h7 : ((((((((w.setCell ⟨b, 0, none⟩ (.int .i64 o0)).setCell ⟨b, 1, none⟩ (.int .i64 o1)).setCell ⟨b, 2, none⟩ (.int .u32 o2)).setCell ⟨b, 3, none⟩ (.int .u32 o3)).setCell ⟨b, 4, none⟩ (.int .u32 o4)).setCell ⟨b, 5, none⟩ (.int .u32 o5)).setCell ⟨b, 6, none⟩ (.int .u32 o6)).setCell ⟨b, 7, none⟩ (.int .u32 o7)).heap[b]? = some (.cells #[.int .i64 o0, .int .i64 o1, .int .u32 o2, .int .u32 o3, .int .u32 o4, .int .u32 o5, .int .u32 o6, .int .u32 o7, .bool false, .bool false, .bool false] 37 (0, 0)) := by rw [heap_setCell_same _ _ 7 _ _ (.int .u32 o7) h6]; rfl
  have h8 : (((((((((w.setCell ⟨b, 0, none⟩ (.int .i64 o0)).setCell ⟨b, 1, none⟩ (.int .i64 o1)).setCell ⟨b, 2, none⟩ (.int .u32 o2)).setCell ⟨b, 3, none⟩ (.int .u32 o3)).setCell ⟨b, 4, none⟩ (.int .u32 o4)).setCell ⟨b, 5, none⟩ (.int .u32 o5)).setCell ⟨b, 6, none⟩ (.int .u32 o6)).setCell ⟨b, 7, none⟩ (.int .u32 o7)).setCell ⟨b, 8, none⟩ (.bool o8)).heap[b]? = some (.cells #[.int .i64 o0, .int .i64 o1, .int .u32 o2, .int .u32 o3, .int .u32 o4, .int .u32 o5, .int .u32 o6, .int .u32 o7, .bool o8, .bool false, .bool false] 37 (0, 0)) := by rw [heap_setCell_same _ _ 8 _ _ (.bool o8) h7]; rfl
  have h9 : ((((((((((w.setCell ⟨b, 0, none⟩ (.int .i64 o0)).setCell ⟨b, 1, none⟩ (.int .i64 o1)).setCell ⟨b, 2, none⟩ (.int .u32 o2)).setCell ⟨b, 3, none⟩ (.int .u32 o3)).setCell ⟨b, 4, none⟩ (.int .u32 o4)).setCell ⟨b, 5, none⟩ (.int .u32 o5)).setCell ⟨b, 6, none⟩ (.int .u32 o6)).setCell ⟨b, 7, none⟩ (.int .u32 o7)).setCell ⟨b, 8, none⟩ (.bool o8)).setCell ⟨b, 9, none⟩ (.bool o9)).heap[b]? = some (.cells #[.int .i64 o0, .int .i64 o1, .int .u32 o2, .int .u32 o3, .int .u32 o4, .int .u32 o5, .int .u32 o6, .int .u32 o7, .bool o8, .bool o9, .bool false] 37 (0, 0)) := by rw [heap_setCell_same _ _ 9 _ _ (.bool o9) h8]; rfl
  have h10 : (((((((((((w.setCell ⟨b, 0, none⟩ (.int .i64 o0)).setCell ⟨b, 1, none⟩ (.int .i64 o1)).setCell ⟨b, 2, none⟩ (.int .u32 o2)).setCell ⟨b, 3, none⟩ (.int .u32 o3)).setCell ⟨b, 4, none⟩ (.int .u32 o4)).setCell ⟨b, 5, none⟩ (.int .u32 o5)).setCell ⟨b, 6, none⟩ (.int .u32 o6)).setCell ⟨b, 7, none⟩ (.int .u32 o7)).setCell ⟨b, 8, none⟩ (.bool o8)).setCell ⟨b, 9, none⟩ (.bool o9)).setCell ⟨b, 10, none⟩ (.bool o10)).heap[b]? = some (.cells #[.int .i64 o0, .int .i64 o1, .int .u32 o2, .int .u32 o3, .int .u32 o4, .int .u32 o5, .int .u32 o6, .int .u32 o7, .bool o8, .bool o9, .bool o10] 37 (0, 0)) := by rw [heap_setCell_same _ _ 10 _ _ (.bool o10) h9]; rfl
  exact h10
set_option maxRecDepth 100000 in
set_option maxHeartbeats 8000000 in
theorem psd_send (h : IlC W xb rb zb bb sz X R Z Bk s s cs V L wr) (A B C E : Int) (iA : I64 A) (iB : I64 B) (iC : I64 C) (st : ByteArray) {n : Nat} (hL : ∀ j, j < 6 → (L j).length ≤ 2 * n) (hn : n ≤ 300000) (h1 : s.ps.length ≤ n) (h2 : s.ws.length ≤ n) (h3 : Ok7 s) :
    Calls Try.prog 8 #[.pointer (some ⟨xb, 0, none⟩), .pointer (some ⟨rb, 0, none⟩), .pointer (some ⟨bb, 0, none⟩), .agg #[.int .i64 2, .int .i64 A, .int .i64 B, .int .i64 C, .int .i64 E, .string st]] wr fun e w' => e = .returned (.bool true) ∧ IlR W xb rb zb bb sz (n + 1) w' := by
  obtain ⟨oo, hoo⟩ : ∃ oo : Obj, oo = .cells #[.int .i64 2, .int .i64 A, .int .i64 B, .int .i64 C, .int .i64 E, .string st] 50 (0, 0) := ⟨_, rfl⟩
  have HP1 : Hid (IlI W xb rb zb bb sz Z Bk cs V L [(wr.heap.size, oo)] s s (wr.alloc oo)) := IlI.alloc (F := []) ⟨X, R, h, fun p hp => by cases hp⟩ oo
  have HWF : Hid (BWf s) := h.x.1
  have HLN : Hid (∀ j, j < 6 → (L j).length ≤ 2 * (n + 1)) := fun j hj => Nat.le_trans (hL j hj) (by omega)
  have HB1 : Hid (s.ps.length ≤ n ∧ s.ws.length ≤ n ∧ Ok7 s) := ⟨h1, h2, h3⟩
  have HNA : Hid (∀ wv, Calls Try.prog 22 #[.int .i64 A, .int .i64 5] wv fun e w' => e = .returned (.int .i64 (nearF A 5)) ∧ Only (fun _ => False) wv w') := fun wv => (near_any A iA 5 (by decide) wv).mono (fun _ _ h => ⟨h.1, by rw [h.2]; exact Only.refl _ _⟩)
  have iN := near_i64 iA 5 (by decide)
  have n7 := near_777 A
  generalize nearF A 5 = N at HNA iN n7
  have HPB : Hid (∀ wv, Calls Try.prog 23 #[.int .i64 B, .int .i64 6] wv fun e w' => e = .returned (.int .i64 (pickL B 6 : Nat)) ∧ Only (fun _ => False) wv w') := fun wv => (pickL_any 6 (by decide) (by decide) B iB.1 iB.2 wv).mono (fun _ _ h => ⟨h.1, by rw [h.2]; exact Only.refl _ _⟩)
  have iT : I64 ((pickL B 6 : Nat) : Int) := by
    have : pickL B 6 < 6 := Nat.mod_lt _ (by decide)
    unfold I64
    omega
  generalize ((pickL B 6 : Nat) : Int) = T at HPB iT
  have HNC := Vx.hid (fun wv => near_any C iC 9 (by decide) wv)
  have HMS := Vx.hid (fun wv => message_ok E wv)
  generalize nearF C 9 = NC at HNC
  generalize msgF E = ms at HMS
  have HXC : Hid (∀ F wv, IlI W xb rb zb bb sz Z Bk cs V L F s s wv → Calls Try.prog 15 #[.pointer (some ⟨xb, 0, none⟩), .int .i64 N, .int .i64 T, .int .i64 NC, msV ms] wv fun e w' => e = .returned (ocV (sendR s N T NC ms)) ∧ Hid (IlI W xb rb zb bb sz Z Bk cs V L F (sendS s N T NC ms) s w')) := fun F wv h => h.xcall (fun U hx => xsend_ok hx (by omega) N T NC iN iT ms)
  have HRC : Hid (∀ F wv, IlI W xb rb zb bb sz Z Bk cs V L F (sendS s N T NC ms) s wv → Calls Try.prog 26 #[.pointer (some ⟨rb, 0, none⟩), .int .i64 N, .int .i64 T, .int .i64 NC, msV ms] wv fun e w' => e = .returned (ocV (sendR s N T NC ms)) ∧ Hid (IlI W xb rb zb bb sz Z Bk cs V L F (sendS s N T NC ms) (sendS s N T NC ms) w')) := fun F wv h => h.rcall (fun U hr => by obtain ⟨vp, vw, hr⟩ := hr; exact rsend_ok hr (by omega) N T NC ms)
  have HSM : Hid ((sendS s N T NC ms).ps.length ≤ n + 1 ∧ (sendS s N T NC ms).ws.length ≤ n + 1 ∧ Ok7 (sendS s N T NC ms)) := by
    have h8 := sz_send s N T NC ms
    exact ⟨by have := h8.1; omega, by have := h8.2.1; omega, h8.2.2 h3⟩
  generalize sendS s N T NC ms = s2 at HXC HRC HSM
  generalize sendR s N T NC ms = oc at HXC HRC
  obtain ⟨o0, o1, ⟨o2, o3, o4, o5, o6, o7⟩, o8, o9, o10⟩ := oc
  unfold ocV at HXC HRC
  dsimp only at HXC HRC
  obtain ⟨m0, m1, m2, m3, m4, m5⟩ := ms
  unfold msV at HXC HRC HMS
  dsimp only at HXC HRC HMS
  clear h h1 h2 h3
  go_enter Try.func8, Try.ntmps8
  go_upto_region 1 with fail
  rw [← hoo]
  obtain ⟨w1, hw1⟩ : ∃ w1, w1 = wr.alloc oo := ⟨_, rfl⟩
  rw [← hw1] at HP1 ⊢
  obtain ⟨ob, hob⟩ : ∃ ob, ob = wr.heap.size := ⟨_, rfl⟩
  rw [← hob] at HP1 ⊢
  clear hw1 hob
  have HCO : Hid (∀ F sx sr wv, IlI W xb rb zb bb sz Z Bk cs V L F sx sr wv → (ob, oo) ∈ F → wv.cell? ⟨ob, 0, none⟩ = some (.int .i64 2) ∧ wv.cell? ⟨ob, 1, none⟩ = some (.int .i64 A) ∧ wv.cell? ⟨ob, 2, none⟩ = some (.int .i64 B) ∧ wv.cell? ⟨ob, 3, none⟩ = some (.int .i64 C) ∧ wv.cell? ⟨ob, 4, none⟩ = some (.int .i64 E)) := fun F sx sr wv h hm => by
    have h1 := h.at hm
    rw [hoo] at h1
    exact ⟨(cell_of_row _ _ 0 _ _ (0, 0) h1).trans rfl, (cell_of_row _ _ 1 _ _ (0, 0) h1).trans rfl, (cell_of_row _ _ 2 _ _ (0, 0) h1).trans rfl, (cell_of_row _ _ 3 _ _ (0, 0) h1).trans rfl, (cell_of_row _ _ 4 _ _ (0, 0) h1).trans rfl⟩
  clear hoo
  obtain ⟨F, hF⟩ : ∃ F : List (Nat × Obj), F = [(ob, oo)] := ⟨_, rfl⟩
  have HMO : Hid ((ob, oo) ∈ F) := by show (ob, oo) ∈ F; rw [hF]; simp
  rw [← hF] at HP1
  clear hF
  obtain ⟨k0, k1, k2, k3, k4⟩ := HCO.out _ _ _ _ HP1.out HMO.out
  go_wp2_with fail
  refine (HNA.out _).mono ?_
  rintro e w2 ⟨rfl, hq⟩
  have HP2 := Vx.hid (HP1.out.quiet hq)
  clear hq k0 k1 k2 k3 k4
  obtain ⟨k0, k1, k2, k3, k4⟩ := HCO.out _ _ _ _ HP2.out HMO.out
  go_wp2_with fail
  refine (HPB.out _).mono ?_
  rintro e w3 ⟨rfl, hq⟩
  have HP3 := Vx.hid (HP2.out.quiet hq)
  clear hq k0 k1 k2 k3 k4
  obtain ⟨k0, k1, k2, k3, k4⟩ := HCO.out _ _ _ _ HP3.out HMO.out
  have HCE : Hid (∀ F sx sr wv, IlI W xb rb zb bb sz Z Bk cs V L F sx sr wv → (ob, oo) ∈ F → wv.cell? ⟨ob, 3, none⟩ = some (.int .i64 C) ∧ wv.cell? ⟨ob, 4, none⟩ = some (.int .i64 E)) := fun F sx sr wv h hm => by
    obtain ⟨k0, k1, k2, k3, k4⟩ := HCO.out _ _ _ _ h hm
    exact ⟨k3, k4⟩
  have HQT : Hid (∀ F sx sr wv wq, IlI W xb rb zb bb sz Z Bk cs V L F sx sr wv → Only (fun _ => False) wv wq → IlI W xb rb zb bb sz Z Bk cs V L F sx sr wq) := fun F sx sr wv wq h ho => h.quiet ho
  have HUP : Hid (∀ F b sx sr wv, IlI W xb rb zb bb sz Z Bk cs V L ((b, .cells #[.int .i64 0, .int .i64 0, .int .u32 0, .int .u32 0, .int .u32 0, .int .u32 0, .int .u32 0, .int .u32 0, .bool false, .bool false, .bool false] 37 (0, 0)) :: F) sx sr wv → IlI W xb rb zb bb sz Z Bk cs V L ((b, .cells #[.int .i64 o0, .int .i64 o1, .int .u32 o2, .int .u32 o3, .int .u32 o4, .int .u32 o5, .int .u32 o6, .int .u32 o7, .bool o8, .bool o9, .bool o10] 37 (0, 0)) :: ((b, .cells #[.int .i64 0, .int .i64 0, .int .u32 0, .int .u32 0, .int .u32 0, .int .u32 0, .int .u32 0, .int .u32 0, .bool false, .bool false, .bool false] 37 (0, 0)) :: F).filter fun p => decide (p.1 ≠ b)) sx sr (((((((((((wv.setCell ⟨b, 0, none⟩ (.int .i64 o0)).setCell ⟨b, 1, none⟩ (.int .i64 o1)).setCell ⟨b, 2, none⟩ (.int .u32 o2)).setCell ⟨b, 3, none⟩ (.int .u32 o3)).setCell ⟨b, 4, none⟩ (.int .u32 o4)).setCell ⟨b, 5, none⟩ (.int .u32 o5)).setCell ⟨b, 6, none⟩ (.int .u32 o6)).setCell ⟨b, 7, none⟩ (.int .u32 o7)).setCell ⟨b, 8, none⟩ (.bool o8)).setCell ⟨b, 9, none⟩ (.bool o9)).setCell ⟨b, 10, none⟩ (.bool o10))) := fun F b sx sr wv h => by
    have h1 := h.at List.mem_cons_self
    exact h.upd List.mem_cons_self (oc_set11 h1 o0 o1 o2 o3 o4 o5 o6 o7 o8 o9 o10).2 (oc_set11 h1 o0 o1 o2 o3 o4 o5 o6 o7 o8 o9 o10).1
  have HUC : Hid (∀ F b sx sr wv, IlI W xb rb zb bb sz Z Bk cs V L ((b, .cells #[.int .i64 0, .int .i64 0, .int .u32 0, .int .u32 0, .int .u32 0, .int .u32 0, .int .u32 0, .int .u32 0, .bool false, .bool false, .bool false] 37 (0, 0)) :: F) sx sr wv → (ob, oo) ∈ F → ob ≠ b → (((((((((((wv.setCell ⟨b, 0, none⟩ (.int .i64 o0)).setCell ⟨b, 1, none⟩ (.int .i64 o1)).setCell ⟨b, 2, none⟩ (.int .u32 o2)).setCell ⟨b, 3, none⟩ (.int .u32 o3)).setCell ⟨b, 4, none⟩ (.int .u32 o4)).setCell ⟨b, 5, none⟩ (.int .u32 o5)).setCell ⟨b, 6, none⟩ (.int .u32 o6)).setCell ⟨b, 7, none⟩ (.int .u32 o7)).setCell ⟨b, 8, none⟩ (.bool o8)).setCell ⟨b, 9, none⟩ (.bool o9)).setCell ⟨b, 10, none⟩ (.bool o10)).cell? ⟨ob, 3, none⟩ = some (.int .i64 C) ∧ (((((((((((wv.setCell ⟨b, 0, none⟩ (.int .i64 o0)).setCell ⟨b, 1, none⟩ (.int .i64 o1)).setCell ⟨b, 2, none⟩ (.int .u32 o2)).setCell ⟨b, 3, none⟩ (.int .u32 o3)).setCell ⟨b, 4, none⟩ (.int .u32 o4)).setCell ⟨b, 5, none⟩ (.int .u32 o5)).setCell ⟨b, 6, none⟩ (.int .u32 o6)).setCell ⟨b, 7, none⟩ (.int .u32 o7)).setCell ⟨b, 8, none⟩ (.bool o8)).setCell ⟨b, 9, none⟩ (.bool o9)).setCell ⟨b, 10, none⟩ (.bool o10)).cell? ⟨ob, 4, none⟩ = some (.int .i64 E)) := fun F b sx sr wv h hm hne => HCE.out _ _ _ _ (HUP.out _ _ _ _ _ h) (mem_upd hm hne)
  go_upto_region 9 with fail
  clear k0 k1 k2 k3 k4
  go_cut [13] from 60 to 69 (fun v6 wx => ∃ gb F2, v6 = .pointer (some ⟨gb, 0, none⟩) ∧ Hid (IlI W xb rb zb bb sz Z Bk cs V L F2 s2 s wx) ∧ Hid ((gb, .cells #[.int .i64 o0, .int .i64 o1, .int .u32 o2, .int .u32 o3, .int .u32 o4, .int .u32 o5, .int .u32 o6, .int .u32 o7, .bool o8, .bool o9, .bool o10] 37 (0, 0)) ∈ F2) ∧ Hid ((ob, oo) ∈ F2))
  case first =>
    have HI0 := Vx.hid (HP3.out.quiet ((Only.refl _ _).drew))
    have HIA : Hid (∀ o, _) := fun o => (HP3.out.alloc o).quiet ((Only.refl _ _).drew)
    have HS0 := Vx.hid (HCE.out _ _ _ _ HI0.out HMO.out)
    have HSA := Vx.hid (fun o => HCE.out _ _ _ _ (HIA.out o) (List.mem_cons_of_mem _ HMO.out))
    have HS1 := HS0
    have HSB := HSA
    have HS2 := HS0
    have HSC := HSA
    have HSD := HS0
    have HIQ := HI0
    have HL0 := Vx.hid (⟨lt_of_some (HP3.out.at HMO.out), trivial⟩ : _ ∧ True)
    have HLQ := HL0
    go_region_held3 (fun wv => wv.cell? ⟨ob, 3, none⟩ = some (.int .i64 C) ∧ wv.cell? ⟨ob, 4, none⟩ = some (.int .i64 E)) (first | with_reducible exact HS0.out | with_reducible exact HSA.out _ | with_reducible exact HS1.out | with_reducible exact HSB.out _ | with_reducible exact HS2.out | with_reducible exact HSC.out _ | with_reducible exact HSD.out) (first | (go_at_call 22; refine (HNC.out _).mono ?_; rintro e w' ⟨rfl, h⟩; have h3 := h.symm; clear h; subst h3) | (go_at_call 25; refine (HMS.out _).mono ?_; rintro e wq ⟨rfl, hq⟩; have HIQ := Vx.hid (HQT.out _ _ _ _ _ (by first | exact HI0.out | exact HIA.out _) hq); clear hq; have HS1 := Vx.hid (HCE.out _ _ _ _ HIQ.out (by first | exact HMO.out | exact List.mem_cons_of_mem _ HMO.out | exact List.mem_cons_of_mem _ (List.mem_cons_of_mem _ HMO.out))); have HSB := Vx.hid (fun o => HCE.out _ _ _ _ (HIQ.out.alloc o) (List.mem_cons_of_mem _ (by first | exact HMO.out | exact List.mem_cons_of_mem _ HMO.out | exact List.mem_cons_of_mem _ (List.mem_cons_of_mem _ HMO.out)))); have HLQ : Hid (ob < wq.heap.size ∧ True) := ⟨lt_of_some (HIQ.out.at (by first | exact HMO.out | exact List.mem_cons_of_mem _ HMO.out | exact List.mem_cons_of_mem _ (List.mem_cons_of_mem _ HMO.out))), trivial⟩) | (go_at_call 15; refine (HXC.out _ _ (by first | exact HIQ.out | exact HIQ.out.alloc _)).mono ?_; rintro e wl ⟨rfl, HJL⟩; have HS2 := Vx.hid (HCE.out _ _ _ _ HJL.out (by first | exact HMO.out | exact List.mem_cons_of_mem _ HMO.out | exact List.mem_cons_of_mem _ (List.mem_cons_of_mem _ HMO.out))); have HSC := Vx.hid (fun o => HCE.out _ _ _ _ (HJL.out.alloc o) (List.mem_cons_of_mem _ (by first | exact HMO.out | exact List.mem_cons_of_mem _ HMO.out | exact List.mem_cons_of_mem _ (List.mem_cons_of_mem _ HMO.out)))); try (obtain ⟨z0, z1, z2, z3, z4, z5, z6, z7, z8, z9, z10, hfz, hzl⟩ := z11_of (HJL.out.at List.mem_cons_self); have HSD := Vx.hid (HUC.out _ _ _ _ _ HJL.out HMO.out (by first | exact Nat.ne_of_lt HL0.out.1 | exact Nat.ne_of_lt HLQ.out.1)))))
    · go_wp2_with fail
      go_meet
      exact ⟨_, _, rfl, HJL.out.alloc _, List.mem_cons_self, List.mem_cons_of_mem _ HMO.out⟩
    · go_wp2_with fail
      go_meet
      exact ⟨_, _, rfl, HUP.out _ _ _ _ _ HJL.out, List.mem_cons_self, mem_upd HMO.out (Nat.ne_of_lt HLQ.out.1)⟩
    · go_wp2_with fail
      go_meet
      exact ⟨_, _, rfl, HUP.out _ _ _ _ _ HJL.out, List.mem_cons_self, mem_upd HMO.out (Nat.ne_of_lt HL0.out.1)⟩
    · go_wp2_with fail
      go_meet
      exact ⟨_, _, rfl, HUP.out _ _ _ _ _ HJL.out, List.mem_cons_self, mem_upd HMO.out (Nat.ne_of_lt HL0.out.1)⟩
  case rest =>
    obtain ⟨yb, F2, rfl, HPx, HMY, HMO2⟩ := hcut
    go_upto_region 10 with fail
    go_cut [14] from 70 to 79 (fun v6 wx => ∃ gb F2, v6 = .pointer (some ⟨gb, 0, none⟩) ∧ Hid (IlI W xb rb zb bb sz Z Bk cs V L F2 s2 s2 wx) ∧ Hid ((gb, .cells #[.int .i64 o0, .int .i64 o1, .int .u32 o2, .int .u32 o3, .int .u32 o4, .int .u32 o5, .int .u32 o6, .int .u32 o7, .bool o8, .bool o9, .bool o10] 37 (0, 0)) ∈ F2) ∧ Hid ((ob, oo) ∈ F2) ∧ Hid ((yb, .cells #[.int .i64 o0, .int .i64 o1, .int .u32 o2, .int .u32 o3, .int .u32 o4, .int .u32 o5, .int .u32 o6, .int .u32 o7, .bool o8, .bool o9, .bool o10] 37 (0, 0)) ∈ F2))
    case first =>
      have HI0 := Vx.hid (HPx.out.quiet ((Only.refl _ _).drew))
      have HIA : Hid (∀ o, _) := fun o => (HPx.out.alloc o).quiet ((Only.refl _ _).drew)
      have HS0 := Vx.hid (HCE.out _ _ _ _ HI0.out HMO2.out)
      have HSA := Vx.hid (fun o => HCE.out _ _ _ _ (HIA.out o) (List.mem_cons_of_mem _ HMO2.out))
      have HS1 := HS0
      have HSB := HSA
      have HS2 := HS0
      have HSC := HSA
      have HSD := HS0
      have HIQ := HI0
      have HL0 := Vx.hid (⟨lt_of_some (HPx.out.at HMO2.out), lt_of_some (HPx.out.at HMY.out), trivial⟩ : _ ∧ _ ∧ True)
      have HLQ := HL0
      go_region_held3 (fun wv => wv.cell? ⟨ob, 3, none⟩ = some (.int .i64 C) ∧ wv.cell? ⟨ob, 4, none⟩ = some (.int .i64 E)) (first | with_reducible exact HS0.out | with_reducible exact HSA.out _ | with_reducible exact HS1.out | with_reducible exact HSB.out _ | with_reducible exact HS2.out | with_reducible exact HSC.out _ | with_reducible exact HSD.out) (first | (go_at_call 22; refine (HNC.out _).mono ?_; rintro e w' ⟨rfl, h⟩; have h3 := h.symm; clear h; subst h3) | (go_at_call 25; refine (HMS.out _).mono ?_; rintro e wq ⟨rfl, hq⟩; have HIQ := Vx.hid (HQT.out _ _ _ _ _ (by first | exact HI0.out | exact HIA.out _) hq); clear hq; have HS1 := Vx.hid (HCE.out _ _ _ _ HIQ.out (by first | exact HMO2.out | exact List.mem_cons_of_mem _ HMO2.out | exact List.mem_cons_of_mem _ (List.mem_cons_of_mem _ HMO2.out))); have HSB := Vx.hid (fun o => HCE.out _ _ _ _ (HIQ.out.alloc o) (List.mem_cons_of_mem _ (by first | exact HMO2.out | exact List.mem_cons_of_mem _ HMO2.out | exact List.mem_cons_of_mem _ (List.mem_cons_of_mem _ HMO2.out)))); have HLQ : Hid (ob < wq.heap.size ∧ yb < wq.heap.size ∧ True) := ⟨lt_of_some (HIQ.out.at (by first | exact HMO2.out | exact List.mem_cons_of_mem _ HMO2.out | exact List.mem_cons_of_mem _ (List.mem_cons_of_mem _ HMO2.out))), lt_of_some (HIQ.out.at (by first | exact HMY.out | exact List.mem_cons_of_mem _ HMY.out | exact List.mem_cons_of_mem _ (List.mem_cons_of_mem _ HMY.out))), trivial⟩) | (go_at_call 26; refine (HRC.out _ _ (by first | exact HIQ.out | exact HIQ.out.alloc _)).mono ?_; rintro e wl ⟨rfl, HJL⟩; have HS2 := Vx.hid (HCE.out _ _ _ _ HJL.out (by first | exact HMO2.out | exact List.mem_cons_of_mem _ HMO2.out | exact List.mem_cons_of_mem _ (List.mem_cons_of_mem _ HMO2.out))); have HSC := Vx.hid (fun o => HCE.out _ _ _ _ (HJL.out.alloc o) (List.mem_cons_of_mem _ (by first | exact HMO2.out | exact List.mem_cons_of_mem _ HMO2.out | exact List.mem_cons_of_mem _ (List.mem_cons_of_mem _ HMO2.out)))); try (obtain ⟨z0, z1, z2, z3, z4, z5, z6, z7, z8, z9, z10, hfz, hzl⟩ := z11_of (HJL.out.at List.mem_cons_self); have HSD := Vx.hid (HUC.out _ _ _ _ _ HJL.out HMO2.out (by first | exact Nat.ne_of_lt HL0.out.1 | exact Nat.ne_of_lt HLQ.out.1)))))
      · go_wp2_with fail
        go_meet
        exact ⟨_, _, rfl, HJL.out.alloc _, List.mem_cons_self, List.mem_cons_of_mem _ HMO2.out, List.mem_cons_of_mem _ HMY.out⟩
      · go_wp2_with fail
        go_meet
        exact ⟨_, _, rfl, HUP.out _ _ _ _ _ HJL.out, List.mem_cons_self, mem_upd HMO2.out (Nat.ne_of_lt HLQ.out.1), mem_upd HMY.out (Nat.ne_of_lt HLQ.out.2.1)⟩
      · go_wp2_with fail
        go_meet
        exact ⟨_, _, rfl, HUP.out _ _ _ _ _ HJL.out, List.mem_cons_self, mem_upd HMO2.out (Nat.ne_of_lt HL0.out.1), mem_upd HMY.out (Nat.ne_of_lt HL0.out.2.1)⟩
      · go_wp2_with fail
        go_meet
        exact ⟨_, _, rfl, HUP.out _ _ _ _ _ HJL.out, List.mem_cons_self, mem_upd HMO2.out (Nat.ne_of_lt HL0.out.1), mem_upd HMY.out (Nat.ne_of_lt HL0.out.2.1)⟩
    case rest =>
      obtain ⟨zb2, F3, rfl, HPr, HMZ, HMO3, HMY3⟩ := hcut
      have hz7 := HPr.out.at HMZ.out
      have hy7 := HPr.out.at HMY3.out
      have c0 := (cell_of_row _ _ 0 _ _ (0, 0) hz7)
      simp only [List.getElem?_toArray, List.getElem?_cons_zero] at c0
      have c1 := (cell_of_row _ _ 1 _ _ (0, 0) hz7)
      simp only [List.getElem?_toArray, List.getElem?_cons_zero, List.getElem?_cons_succ] at c1
      have c2 := (cell_of_row _ _ 2 _ _ (0, 0) hz7)
      simp only [List.getElem?_toArray, List.getElem?_cons_zero, List.getElem?_cons_succ] at c2
      have c3 := (cell_of_row _ _ 3 _ _ (0, 0) hz7)
      simp only [List.getElem?_toArray, List.getElem?_cons_zero, List.getElem?_cons_succ] at c3
      have c4 := (cell_of_row _ _ 4 _ _ (0, 0) hz7)
      simp only [List.getElem?_toArray, List.getElem?_cons_zero, List.getElem?_cons_succ] at c4
      have c5 := (cell_of_row _ _ 5 _ _ (0, 0) hz7)
      simp only [List.getElem?_toArray, List.getElem?_cons_zero, List.getElem?_cons_succ] at c5
      have c6 := (cell_of_row _ _ 6 _ _ (0, 0) hz7)
      simp only [List.getElem?_toArray, List.getElem?_cons_zero, List.getElem?_cons_succ] at c6
      have c7 := (cell_of_row _ _ 7 _ _ (0, 0) hz7)
      simp only [List.getElem?_toArray, List.getElem?_cons_zero, List.getElem?_cons_succ] at c7
      have c8 := (cell_of_row _ _ 8 _ _ (0, 0) hz7)
      simp only [List.getElem?_toArray, List.getElem?_cons_zero, List.getElem?_cons_succ] at c8
      have c9 := (cell_of_row _ _ 9 _ _ (0, 0) hz7)
      simp only [List.getElem?_toArray, List.getElem?_cons_zero, List.getElem?_cons_succ] at c9
      have c10 := (cell_of_row _ _ 10 _ _ (0, 0) hz7)
      simp only [List.getElem?_toArray, List.getElem?_cons_zero, List.getElem?_cons_succ] at c10
      have d0 := (cell_of_row _ _ 0 _ _ (0, 0) hy7)
      simp only [List.getElem?_toArray, List.getElem?_cons_zero] at d0
      have d1 := (cell_of_row _ _ 1 _ _ (0, 0) hy7)
      simp only [List.getElem?_toArray, List.getElem?_cons_zero, List.getElem?_cons_succ] at d1
      have d2 := (cell_of_row _ _ 2 _ _ (0, 0) hy7)
      simp only [List.getElem?_toArray, List.getElem?_cons_zero, List.getElem?_cons_succ] at d2
      have d3 := (cell_of_row _ _ 3 _ _ (0, 0) hy7)
      simp only [List.getElem?_toArray, List.getElem?_cons_zero, List.getElem?_cons_succ] at d3
      have d4 := (cell_of_row _ _ 4 _ _ (0, 0) hy7)
      simp only [List.getElem?_toArray, List.getElem?_cons_zero, List.getElem?_cons_succ] at d4
      have d5 := (cell_of_row _ _ 5 _ _ (0, 0) hy7)
      simp only [List.getElem?_toArray, List.getElem?_cons_zero, List.getElem?_cons_succ] at d5
      have d6 := (cell_of_row _ _ 6 _ _ (0, 0) hy7)
      simp only [List.getElem?_toArray, List.getElem?_cons_zero, List.getElem?_cons_succ] at d6
      have d7 := (cell_of_row _ _ 7 _ _ (0, 0) hy7)
      simp only [List.getElem?_toArray, List.getElem?_cons_zero, List.getElem?_cons_succ] at d7
      have d8 := (cell_of_row _ _ 8 _ _ (0, 0) hy7)
      simp only [List.getElem?_toArray, List.getElem?_cons_zero, List.getElem?_cons_succ] at d8
      have d9 := (cell_of_row _ _ 9 _ _ (0, 0) hy7)
      simp only [List.getElem?_toArray, List.getElem?_cons_zero, List.getElem?_cons_succ] at d9
      have d10 := (cell_of_row _ _ 10 _ _ (0, 0) hy7)
      simp only [List.getElem?_toArray, List.getElem?_cons_zero, List.getElem?_cons_succ] at d10
      have hEW := fun wv => run_equal_words wv o3 o4 o5 o6
      clear hz7 hy7
      go_wp2_with fail
      all_goals
        go_ret
        exact ⟨by try rfl, HPr.out.fin HLN.out HSM.out.1 HSM.out.2.1 HSM.out.2.2⟩
end Go.Proofs.Ytdpgdjpphnbfnaa

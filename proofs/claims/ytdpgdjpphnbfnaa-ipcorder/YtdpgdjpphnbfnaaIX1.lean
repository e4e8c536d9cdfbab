/- Chapter 10, the program's bus: where it lies; what stays; looks into its maps. -/
import Derived.Test.YtdpgdjpphnbfnaaMP2
import Derived.Test.YtdpgdjpphnbfnaaIQ4
import Derived.Test.YtdpgdjpphnbfnaaIB3
import Derived.Test.YtdpgdjpphnbfnaaIB12
namespace Go.Proofs.Ytdpgdjpphnbfnaa
open Go.ChangeShapes Go.WideShapes Go.ChangeAt Go.RowKit
open Go.Vx
set_option linter.unusedVariables false

theorem ip_zero (w : World) : (zeroValue 71).run Try.prog w = .ok (.pointer none) w := by kernel_rfl
/-- A waiter's cells, a place's. -/
def wxC (x : Wt) : Array Value := #[.int .i64 x.thr, .int .i64 x.at', .int .i64 x.how, .int .u32 x.m.lab, .int .u32 x.m.w0, .int .u32 x.m.w1, .int .u32 x.m.w2, .int .u32 x.m.w3, .int .u32 x.m.bdg]
def plC (p : Pc) (v : Value) : Array Value := #[.bool p.bell, .int .u32 p.word, v]
/-- The program's bus; U: blocks that are none of its own; GP, GW: where a place, a waiter lies; Q: a place's line. -/
structure XbAt (U : Nat → Prop) (w : World) (xb mp mw : Nat) (DP DW : DataW Value) (GP GW : Int → Nat) (Q : Int → Value) (s : Bs) : Prop where
  x : w.heap[xb]? = some (.cells #[.map (some mp), .map (some mw)] 70 (0, 0))
  pm : MapAt w mp DP (s.ps.map (·.num)) GP
  wm : MapAt w mw DW (s.ws.map (·.thr)) GW
  mn : mp ≠ mw
  pb : ∀ p ∈ s.ps, w.heap[GP p.num]? = some (.cells (plC p (Q p.num)) 76 (0, 0))
  wb : ∀ x ∈ s.ws, w.heap[GW x.thr]? = some (.cells (wxC x) 84 (0, 0))
  gp : ∀ p ∈ s.ps, ∀ q ∈ s.ps, GP p.num = GP q.num → p.num = q.num
  gw : ∀ x ∈ s.ws, ∀ y ∈ s.ws, GW x.thr = GW y.thr → x.thr = y.thr
  qs : ∀ p ∈ s.ps, OwnL prL w 0 79 (Q p.num) ((lineL s p.num).map GW)
  qd : ∀ p ∈ s.ps, ∀ q ∈ s.ps, ∀ k, (Q p.num).ownBlock = some k → (Q q.num).ownBlock = some k → p.num = q.num
  ux : ¬ U xb
  u1 : ¬ U mp
  u2 : ¬ U mw
  up : ∀ p ∈ s.ps, ¬ U (GP p.num)
  uw : ∀ x ∈ s.ws, ¬ U (GW x.thr)
  uq : ∀ p ∈ s.ps, ∀ k, (Q p.num).ownBlock = some k → ¬ U k
  low : ∀ k, U k → k < w.heap.size
  np : s.ps.length ≤ 1000000
  nl : s.ws.length ≤ 1000000
variable {U V S : Nat → Prop} {w w2 : World} {xb mp mw : Nat} {DP DW : DataW Value} {GP GW : Int → Nat} {Q : Int → Value} {s : Bs}

theorem XbAt.aside (h : XbAt U w xb mp mw DP DW GP GW Q s) (ho : Only S w w2) (s1 : ¬ S xb) (s2 : ¬ S mp) (s3 : ¬ S mw) (s4 : ∀ p ∈ s.ps, ¬ S (GP p.num)) (s5 : ∀ x ∈ s.ws, ¬ S (GW x.thr)) (s6 : ∀ p ∈ s.ps, ∀ k, (Q p.num).ownBlock = some k → ¬ S k)
    (v1 : ¬ V xb) (v2 : ¬ V mp) (v3 : ¬ V mw) (v4 : ∀ p ∈ s.ps, ¬ V (GP p.num)) (v5 : ∀ x ∈ s.ws, ¬ V (GW x.thr)) (v6 : ∀ p ∈ s.ps, ∀ k, (Q p.num).ownBlock = some k → ¬ V k) (vl : ∀ k, V k → k < w2.heap.size) : XbAt V w2 xb mp mw DP DW GP GW Q s :=
  ⟨Only.keep ho h.x s1, h.pm.keep ho s2, h.wm.keep ho s3, h.mn, fun p hp => Only.keep ho (h.pb p hp) (s4 p hp), fun x hx => Only.keep ho (h.wb x hx) (s5 x hx), h.gp, h.gw, fun p hp => (h.qs p hp).kept ho (fun k hk => s6 p hp k hk), h.qd, v1, v2, v3, v4, v5, v6, vl, h.np, h.nl⟩
theorem XbAt.step (h : XbAt U w xb mp mw DP DW GP GW Q s) (ho : Only S w w2) (hS : ∀ k, k < w.heap.size → S k → U k) (hV : ∀ k, V k → U k ∨ (w.heap.size ≤ k ∧ k < w2.heap.size)) : XbAt V w2 xb mp mw DP DW GP GW Q s := by
  have l1 := lt_of_some h.x
  have l2 := h.pm.own.lt
  have l3 := h.wm.own.lt
  have l4 : ∀ p ∈ s.ps, GP p.num < w.heap.size := fun p hp => lt_of_some (h.pb p hp)
  have l5 : ∀ x ∈ s.ws, GW x.thr < w.heap.size := fun x hx => lt_of_some (h.wb x hx)
  have l6 : ∀ p ∈ s.ps, ∀ k, (Q p.num).ownBlock = some k → k < w.heap.size := fun p hp k hk => (own_lt (h.qs p hp) hk).2
  have hv : ∀ k, k < w.heap.size → ¬ U k → ¬ V k := fun k hk hu hv => by
    rcases hV k hv with h3 | h3
    · exact hu h3
    · omega
  exact h.aside ho (fun s => h.ux (hS _ l1 s)) (fun s => h.u1 (hS _ l2 s)) (fun s => h.u2 (hS _ l3 s)) (fun p hp s => h.up p hp (hS _ (l4 p hp) s)) (fun x hx s => h.uw x hx (hS _ (l5 x hx) s)) (fun p hp k hk s => h.uq p hp k hk (hS _ (l6 p hp k hk) s))
    (hv _ l1 h.ux) (hv _ l2 h.u1) (hv _ l3 h.u2) (fun p hp => hv _ (l4 p hp) (h.up p hp)) (fun x hx => hv _ (l5 x hx) (h.uw x hx)) (fun p hp k hk => hv _ (l6 p hp k hk) (h.uq p hp k hk)) (fun k hk => by
    rcases hV k hk with h3 | h3
    · exact Nat.lt_of_lt_of_le (h.low k h3) ho.size
    · exact h3.2)
theorem XbAt.quiet (h : XbAt U w xb mp mw DP DW GP GW Q s) (ho : Only (fun _ => False) w w2) : XbAt U w2 xb mp mw DP DW GP GW Q s := h.step ho (fun _ _ h => h.elim) (fun _ h => Or.inl h)
/-- But for where its parts lie. -/
def XbX (U : Nat → Prop) (w : World) (xb : Nat) (s : Bs) : Prop := BWf s ∧ ∃ mp mw DP DW GP GW Q, XbAt U w xb mp mw DP DW GP GW Q s
theorem XbX.step (h : XbX U w xb s) (ho : Only S w w2) (hS : ∀ k, k < w.heap.size → S k → U k) (hV : ∀ k, V k → U k ∨ (w.heap.size ≤ k ∧ k < w2.heap.size)) : XbX V w2 xb s := by
  obtain ⟨hb, mp, mw, DP, DW, GP, GW, Q, h⟩ := h
  exact ⟨hb, mp, mw, DP, DW, GP, GW, Q, h.step ho hS hV⟩
theorem XbX.quiet (h : XbX U w xb s) (ho : Only (fun _ => False) w w2) : XbX U w2 xb s := h.step ho (fun _ _ h => h.elim) (fun _ h => Or.inl h)
theorem xb_steps (xb : Nat) (s : Bs) : StepsR (fun U w => XbX U w xb s) := fun U V S w w2 h ho hS hV => XbX.step h ho hS hV
theorem XbAt.c0 (h : XbAt U w xb mp mw DP DW GP GW Q s) : w.cell? ⟨xb, 0, none⟩ = some (.map (some mp)) := (cell_of_row _ _ 0 _ _ (0, 0) h.x).trans rfl
theorem XbAt.c1 (h : XbAt U w xb mp mw DP DW GP GW Q s) : w.cell? ⟨xb, 1, none⟩ = some (.map (some mw)) := (cell_of_row _ _ 1 _ _ (0, 0) h.x).trans rfl
theorem XbAt.fz (h : XbAt U w xb mp mw DP DW GP GW Q s) (j : Nat) : w.frozen? ⟨xb, j, none⟩ = false := by
  have := h.x
  simp [World.frozen?, this]
theorem pF_mem {ps : List Pc} {n : Int} : (∃ i, pF ps n = some i) ↔ n ∈ ps.map (·.num) := by
  constructor
  · rintro ⟨i, hi⟩
    obtain ⟨hl, hE⟩ := pF_at hi
    exact List.mem_map.2 ⟨_, List.getElem_mem hl, hE⟩
  · intro h
    obtain ⟨e, he, rfl⟩ := List.mem_map.1 h
    cases hi : pF ps e.num with
    | some i => exact ⟨i, rfl⟩
    | none => have := idxF_none hi e he; simp at this
theorem tF_mem {ws : List Wt} {t : Int} : (∃ i, tF ws t = some i) ↔ t ∈ ws.map (·.thr) := by
  constructor
  · rintro ⟨i, hi⟩
    obtain ⟨hl, hE⟩ := tF_at hi
    exact List.mem_map.2 ⟨_, List.getElem_mem hl, hE⟩
  · intro h
    obtain ⟨e, he, rfl⟩ := List.mem_map.1 h
    cases hi : tF ws e.thr with
    | some i => exact ⟨i, rfl⟩
    | none => have := idxF_none hi e he; simp at this
theorem XbAt.lookP_some (h : XbAt U w xb mp mw DP DW GP GW Q s) {n : Int} {i : Nat} (hi : pF s.ps n = some i) (hn : I64 n) : (Instr.lookup 67 (.map (some mp)) (.int .i64 n) false).run Try.prog w = .ok (.pointer (some ⟨GP n, 0, none⟩)) w := by
  have := h.pm.look (t := 67) (e := 71) Try.underlying67 ip_zero n hn
  unfold mpV at this
  rw [if_pos (pF_mem.1 ⟨i, hi⟩)] at this
  exact this
theorem XbAt.lookP_none (h : XbAt U w xb mp mw DP DW GP GW Q s) {n : Int} (hi : pF s.ps n = none) (hn : I64 n) : (Instr.lookup 67 (.map (some mp)) (.int .i64 n) false).run Try.prog w = .ok (.pointer none) w := by
  have := h.pm.look (t := 67) (e := 71) Try.underlying67 ip_zero n hn
  unfold mpV at this
  rw [if_neg (fun h9 => by obtain ⟨i, h8⟩ := pF_mem.2 h9; rw [hi] at h8; cases h8)] at this
  exact this
theorem XbAt.lookW_some (h : XbAt U w xb mp mw DP DW GP GW Q s) {n : Int} {i : Nat} (hi : tF s.ws n = some i) (hn : I64 n) : (Instr.lookup 68 (.map (some mw)) (.int .i64 n) false).run Try.prog w = .ok (.pointer (some ⟨GW n, 0, none⟩)) w := by
  have := h.wm.look (t := 68) (e := 79) Try.underlying68 iw_zero n hn
  unfold mpV at this
  rw [if_pos (tF_mem.1 ⟨i, hi⟩)] at this
  exact this
theorem XbAt.lookW_none (h : XbAt U w xb mp mw DP DW GP GW Q s) {n : Int} (hi : tF s.ws n = none) (hn : I64 n) : (Instr.lookup 68 (.map (some mw)) (.int .i64 n) false).run Try.prog w = .ok (.pointer none) w := by
  have := h.wm.look (t := 68) (e := 79) Try.underlying68 iw_zero n hn
  unfold mpV at this
  rw [if_neg (fun h9 => by obtain ⟨i, h8⟩ := tF_mem.2 h9; rw [hi] at h8; cases h8)] at this
  exact this
/-- A place where it lies. -/
structure L3 (w : World) (g : Nat) (p : Pc) (v : Value) : Prop where
  c0 : w.cell? ⟨g, 0, none⟩ = some (.bool p.bell)
  c1 : w.cell? ⟨g, 1, none⟩ = some (.int .u32 p.word)
  c2 : w.cell? ⟨g, 2, none⟩ = some v
  fz : ∀ j, w.frozen? ⟨g, j, none⟩ = false
theorem l3_of {g : Nat} {p : Pc} {v : Value} (h : w.heap[g]? = some (.cells (plC p v) 76 (0, 0))) : L3 w g p v :=
  ⟨(cell_of_row _ _ 0 _ _ (0, 0) h).trans rfl, (cell_of_row _ _ 1 _ _ (0, 0) h).trans rfl, (cell_of_row _ _ 2 _ _ (0, 0) h).trans rfl, fun j => by simp [World.frozen?, h]⟩
/-- A waiter where it lies. -/
structure V9 (w : World) (g : Nat) (x : Wt) : Prop where
  c0 : w.cell? ⟨g, 0, none⟩ = some (.int .i64 x.thr)
  c1 : w.cell? ⟨g, 1, none⟩ = some (.int .i64 x.at')
  c2 : w.cell? ⟨g, 2, none⟩ = some (.int .i64 x.how)
  c3 : w.cell? ⟨g, 3, none⟩ = some (.int .u32 x.m.lab)
  c4 : w.cell? ⟨g, 4, none⟩ = some (.int .u32 x.m.w0)
  c5 : w.cell? ⟨g, 5, none⟩ = some (.int .u32 x.m.w1)
  c6 : w.cell? ⟨g, 6, none⟩ = some (.int .u32 x.m.w2)
  c7 : w.cell? ⟨g, 7, none⟩ = some (.int .u32 x.m.w3)
  c8 : w.cell? ⟨g, 8, none⟩ = some (.int .u32 x.m.bdg)
  fz : ∀ j, w.frozen? ⟨g, j, none⟩ = false
theorem v9_of {g : Nat} {x : Wt} (h : w.heap[g]? = some (.cells (wxC x) 84 (0, 0))) : V9 w g x :=
  ⟨(cell_of_row _ _ 0 _ _ (0, 0) h).trans rfl, (cell_of_row _ _ 1 _ _ (0, 0) h).trans rfl, (cell_of_row _ _ 2 _ _ (0, 0) h).trans rfl, (cell_of_row _ _ 3 _ _ (0, 0) h).trans rfl, (cell_of_row _ _ 4 _ _ (0, 0) h).trans rfl, (cell_of_row _ _ 5 _ _ (0, 0) h).trans rfl, (cell_of_row _ _ 6 _ _ (0, 0) h).trans rfl, (cell_of_row _ _ 7 _ _ (0, 0) h).trans rfl, (cell_of_row _ _ 8 _ _ (0, 0) h).trans rfl, fun j => by simp [World.frozen?, h]⟩
theorem XbAt.place (h : XbAt U w xb mp mw DP DW GP GW Q s) {n : Int} {i : Nat} (hi : pF s.ps n = some i) : ∃ hl : i < s.ps.length, s.ps[i].num = n ∧ pAt s i = s.ps[i] ∧ w.heap[GP n]? = some (.cells (plC s.ps[i] (Q n)) 76 (0, 0)) ∧ L3 w (GP n) s.ps[i] (Q n) ∧ s.ps[i] ∈ s.ps := by
  obtain ⟨hl, hn⟩ := pF_at hi
  have hb := h.pb _ (List.getElem_mem hl)
  rw [hn] at hb
  exact ⟨hl, hn, getD_d hl, hb, l3_of hb, List.getElem_mem hl⟩
theorem XbAt.waiter (h : XbAt U w xb mp mw DP DW GP GW Q s) {n : Int} {i : Nat} (hi : tF s.ws n = some i) : ∃ hl : i < s.ws.length, s.ws[i].thr = n ∧ wAt s i = s.ws[i] ∧ w.heap[GW n]? = some (.cells (wxC s.ws[i]) 84 (0, 0)) ∧ V9 w (GW n) s.ws[i] ∧ s.ws[i] ∈ s.ws := by
  obtain ⟨hl, hn⟩ := tF_at hi
  have hb := h.wb _ (List.getElem_mem hl)
  rw [hn] at hb
  exact ⟨hl, hn, getD_d hl, hb, v9_of hb, List.getElem_mem hl⟩
end Go.Proofs.Ytdpgdjpphnbfnaa

import Derived.Test.YtflmobffeeocdaaGreatDoorCh2
import Derived.Test.YtflmobffeeocdaaGreatDoorCh6
import Derived.Deep.RegionHeld3
/- MemLast's walk: the law's own bytes beside the memory's. -/
namespace Go.Vx
/-- copy out of a string, as one operation. -/
theorem wpList_copy_str {P : Program} {w : World} {ops : Array Oper} {rest : List Oper} {o : Oper} {a : Act} {Q : Exit → Act → World → Prop} (hgd : o.guard = none) (d x : Operand) (dT sT : TypeId)
    (ho : o.op = .call { callee := .builtin .copy, args := #[d, x], argTypes := #[dT, sT] }) (elem : TypeId) (hu : P.underlying dT = some (.slice elem)) (hsz : (P.info? elem).map (·.size) = some 1)
    (g off dLen dCap : Nat) (s : List UInt8) (hd : a.eval d = .slice (some ⟨g, off, none⟩) dLen dCap) (hs : a.eval x = .string ⟨s.toArray⟩)
    (cur : List Value) (t : TypeId) (hg : w.heap[g]? = some (.cells cur.toArray t (0, 0))) (hfit : off + (s.take dLen).length ≤ cur.length)
    (c : Nat) (hc : (s.take dLen).length = c) (R : World → Prop) (hR : R (w.setRow g (splice cur off ((s.take dLen).map byteV)).toArray)) (h : ∀ w', R w' → wpList P ops Q rest (a.put o.dst (goInt c)) w') : wpList P ops Q (o :: rest) a w := by
  refine wpList_plain hgd fun K hK => ?_
  have hrun := run_copy_str (P := P) w dT sT o.type elem g off dLen dCap s cur t hu hsz hg hfit
  rw [hc] at hrun
  generalize w.setRow g (splice cur off ((s.take dLen).map byteV)).toArray = w2 at hrun hR
  unfold Oper.wp
  simp [execOp, ho, resolve, invoke, builtin, hd, hs, hrun, Result.andThen]
  exact hK _ _ (h _ hR)
end Go.Vx
namespace Go.Proofs.YtflmobffeeocdaaGreatDoor
open Go.ChangeShapes Go.WideShapes Go.ChangeAt Go.RowKit
open Go.Vx

/-- Patches where they lie. -/
def PatAt (w : World) (pa : Option Addr) (zs : List (Int × List UInt8)) : Prop :=
  zs = [] ∨ ∃ ab ao, pa = some ⟨ab, ao, none⟩ ∧ ∀ (j : Nat) (h : j < zs.length), w.cell? ⟨ab, ao + j * 2, none⟩ = some (.int .i64 (zs[j]).1) ∧ w.cell? ⟨ab, ao + j * 2 + 1, none⟩ = some (.string ⟨(zs[j]).2.toArray⟩)
/-- A block that was made behind a memory is none of its own. -/
theorem MemAt.beside {U : Nat → Prop} {w : World} {bm n : Nat} {f : Nat → UInt8} (h : MemAt U w bm n f) (o : Obj) : MemAt (fun k => U k ∨ k = w.heap.size) (w.alloc o) bm n f := by
  obtain ⟨bp, q, h⟩ := h
  have hk : ∀ b x, w.heap[b]? = some x → (w.alloc o).heap[b]? = some x := fun b x hb => by
    rw [RowKit.Below.heap_alloc _ _ _ (lt_of_some hb)]; exact hb
  have hs : ∀ b x, w.heap[b]? = some x → ¬ U b → ¬ (U b ∨ b = w.heap.size) := fun b x hb hu hc => by
    have := lt_of_some hb
    rcases hc with hc | hc
    · exact hu hc
    · omega
  refine ⟨bp, q, h.pos, h.top, hk _ _ h.m, hk _ _ h.p, h.nil, fun i hi b hb => hk _ _ (h.pg i hi b hb), h.inj, hs _ _ h.m h.um, hs _ _ h.p h.up, fun i b hi hb => hs _ _ (h.pg i hi b hb) (h.ug i b hi hb), ?_⟩
  intro k hk
  simp
  rcases hk with hk | hk
  · have := h.low k hk; omega
  · omega
end Go.Proofs.YtflmobffeeocdaaGreatDoor

/- Walks of the scripts: pick, near, place, page; the state of a script. -/
namespace Go.Proofs.YtflmobffeeocdaaGreatDoor
open Go.ChangeShapes Go.WideShapes Go.ChangeAt Go.RowKit
open Go.Vx

/-- The number that pick makes. -/
def pickL (n : Int) (m : Nat) : Nat := (if n < 0 then (-(n + 1)).toNat else n.toNat) % m
theorem pickL_any (m : Nat) (hm : 1 ≤ m) (hm2 : m ≤ 2097152) (n : Int) (h0 : -9223372036854775808 ≤ n) (h1 : n ≤ 9223372036854775807) (w : World) :
    Calls Tryz.prog 24 #[.int .i64 n, .int .i64 (m : Int)] w fun e w' => e = .returned (.int .i64 (pickL n m : Nat)) ∧ w' = w := by
  have hz : ¬ (m : Int) = 0 := by omega
  have hz1 : ¬ (m : Int) = -1 := by omega
  by_cases hn : n < 0
  · have hr : -(n + 1).tmod (m : Int) = (pickL n m : Nat) := by
      rw [← Int.neg_tmod, Int.tmod_eq_emod_of_nonneg (by omega)]
      unfold pickL
      rw [if_pos hn, Int.natCast_emod, Int.toNat_of_nonneg (by omega)]
    have HR := Vx.hid hr
    clear hr
    generalize pickL n m = k at HR
    go_enter Tryz.func24, Tryz.ntmps24
    go_wp2
    all_goals
      go_ret
      refine ⟨?_, rfl⟩
      show Ending.returned (Value.int .i64 (-(n + 1).tmod (m : Int))) = _
      rw [HR.out]
  · have hr : n.tmod (m : Int) = (pickL n m : Nat) := by
      rw [Int.tmod_eq_emod_of_nonneg (by omega)]
      unfold pickL
      rw [if_neg hn, Int.natCast_emod, Int.toNat_of_nonneg (by omega)]
    have hk : (pickL n m) < m := Nat.mod_lt _ (by omega)
    generalize pickL n m = k at hr hk
    have hw3 : IntKind.i64.wrap (k : Int) = (k : Int) := by rw [IntKind.wrap_i64]; omega
    go_enter Tryz.func24, Tryz.ntmps24
    go_wp2
    all_goals
      go_ret
      first | exact ⟨rfl, rfl⟩ | skip
/-- A number of 64 bits. -/
def I64 (n : Int) : Prop := -9223372036854775808 ≤ n ∧ n ≤ 9223372036854775807
def nearF (c : Int) (n : Nat) : Int := if c.tmod 31 = 30 then c else (pickL c (n + 2) : Nat) - 1
theorem near_i64 {c : Int} (h : I64 c) (n : Nat) (hn : n ≤ 1048576) : I64 (nearF c n) := by
  unfold nearF
  split
  · exact h
  · have : pickL c (n + 2) < n + 2 := Nat.mod_lt _ (by omega)
    unfold I64
    omega
theorem near_any (c : Int) (h : I64 c) (n : Nat) (hn : n ≤ 1048576) (w : World) :
    Calls Tryz.prog 11 #[.int .i64 c, .int .i64 (n : Int)] w fun e w' => e = .returned (.int .i64 (nearF c n)) ∧ w' = w := by
  obtain ⟨h0, h1⟩ := h
  by_cases h3 : c.tmod 31 = 30
  · have HN : Hid (nearF c n = c) := if_pos h3
    go_enter Tryz.func11, Tryz.ntmps11
    go_wp2_with fail
    all_goals
      go_ret
      rw [HN.out]
      exact ⟨rfl, rfl⟩
  · have HN : Hid (nearF c n = (pickL c (n + 2) : Nat) - 1) := if_neg h3
    have HP := Vx.hid (pickL_any (n + 2) (by omega) (by omega) c h0 h1)
    have hk : pickL c (n + 2) < n + 2 := Nat.mod_lt _ (by omega)
    generalize pickL c (n + 2) = k at HP HN hk
    obtain ⟨m, hm⟩ : ∃ m, m = n + 2 := ⟨_, rfl⟩
    rw [← hm] at HP
    have e1 : (n : Int) + 2 = (m : Int) := by omega
    have w1 : IntKind.i64.wrap (m : Int) = (m : Int) := by rw [IntKind.wrap_i64]; omega
    have w2 : IntKind.i64.wrap ((k : Int) - 1) = (k : Int) - 1 := by rw [IntKind.wrap_i64]; omega
    clear hm hk
    go_enter Tryz.func11, Tryz.ntmps11
    go_wp2_with fail
    refine (HP.out _).mono ?_
    rintro e w' ⟨rfl, h⟩
    have h3 := h.symm; clear h; subst h3
    go_wp2_with fail
    all_goals
      go_ret
      rw [HN.out]
      exact ⟨rfl, rfl⟩
/-- Where a script stands: the store's two memories, each with its bytes. -/
structure StAt (U : Nat → Prop) (w : World) (sb bm br bb n : Nat) (f g : Nat → UInt8) : Prop where
  c0 : w.cell? ⟨sb, 0, none⟩ = some (.pointer (some ⟨bm, 0, none⟩))
  c1 : w.cell? ⟨sb, 1, none⟩ = some (.pointer (some ⟨br, 0, none⟩))
  sbl : sb < w.heap.size
  m : MemAt U w bm n f
  r : RefAt w br bb n g
  us : U sb
  ur : U br
  ub : U bb
  ne : sb ≠ bb
theorem StAt.only {U : Nat → Prop} {w w' : World} {sb bm br bb n : Nat} {f g : Nat → UInt8} (h : StAt U w sb bm br bb n f g) (ho : Only (fun _ => False) w w') : StAt U w' sb bm br bb n f g :=
  ⟨by rw [ho.cell (p := ⟨sb, 0, none⟩) h.sbl (fun h => h)]; exact h.c0, by rw [ho.cell (p := ⟨sb, 1, none⟩) h.sbl (fun h => h)]; exact h.c1, Nat.lt_of_lt_of_le h.sbl ho.size, h.m.only ho (fun _ h _ => h.elim), h.r.only ho (fun h => h) (fun h => h), h.us, h.ur, h.ub, h.ne⟩
theorem StAt.mem {U : Nat → Prop} {w w' : World} {sb bm br bb n : Nat} {f f' g : Nat → UInt8} (h : StAt U w sb bm br bb n f g) (ho : Only (fun k => ¬ U k) w w') (hm : MemAt U w' bm n f') : StAt U w' sb bm br bb n f' g :=
  ⟨by rw [ho.cell (p := ⟨sb, 0, none⟩) h.sbl (fun hn => hn h.us)]; exact h.c0, by rw [ho.cell (p := ⟨sb, 1, none⟩) h.sbl (fun hn => hn h.us)]; exact h.c1, Nat.lt_of_lt_of_le h.sbl ho.size, hm, h.r.only ho (fun hn => hn h.ur) (fun hn => hn h.ub), h.us, h.ur, h.ub, h.ne⟩
theorem StAt.ref {U : Nat → Prop} {w w' : World} {sb bm br bb n : Nat} {f g g' : Nat → UInt8} (h : StAt U w sb bm br bb n f g) (ho : Only (fun k => k = bb) w w') (hr : RefAt w' br bb n g') : StAt U w' sb bm br bb n f g' :=
  ⟨by rw [ho.cell (p := ⟨sb, 0, none⟩) h.sbl h.ne]; exact h.c0, by rw [ho.cell (p := ⟨sb, 1, none⟩) h.sbl h.ne]; exact h.c1, Nat.lt_of_lt_of_le h.sbl ho.size, h.m.only ho (fun k hk _ => by rw [hk]; exact h.ub), hr, h.us, h.ur, h.ub, h.ne⟩
/-- One more block beside it. -/
theorem StAt.beside {U : Nat → Prop} {w : World} {sb bm br bb n : Nat} {f g : Nat → UInt8} (h : StAt U w sb bm br bb n f g) (o : Obj) : StAt (fun k => U k ∨ k = w.heap.size) (w.alloc o) sb bm br bb n f g := by
  have ho : Only (fun _ => False) w (w.alloc o) := (Only.refl _ w).alloc o
  exact ⟨by rw [ho.cell (p := ⟨sb, 0, none⟩) h.sbl (fun h => h)]; exact h.c0, by rw [ho.cell (p := ⟨sb, 1, none⟩) h.sbl (fun h => h)]; exact h.c1, Nat.lt_of_lt_of_le h.sbl ho.size, h.m.beside o, h.r.only ho (fun h => h) (fun h => h), Or.inl h.us, Or.inl h.ur, Or.inl h.ub, h.ne⟩
/-- A step of a script in a block. -/
structure OpAt (w : World) (ob : Nat) (K A B C D : Int) (s : List UInt8) : Prop where
  o : w.heap[ob]? = some (.cells #[.int .i64 K, .int .i64 A, .int .i64 B, .int .i64 C, .int .i64 D, .string ⟨s.toArray⟩] 51 (0, 0))
theorem OpAt.only {S : Nat → Prop} {w w' : World} {ob : Nat} {K A B C D : Int} {s : List UInt8} (h : OpAt w ob K A B C D s) (ho : Only S w w') (hS : ¬ S ob) : OpAt w' ob K A B C D s :=
  ⟨by rw [ho.block ob (lt_of_some h.o) hS]; exact h.o⟩
theorem OpAt.cells {w : World} {ob : Nat} {K A B C D : Int} {s : List UInt8} (h : OpAt w ob K A B C D s) : w.cell? ⟨ob, 1, none⟩ = some (.int .i64 A) ∧ w.cell? ⟨ob, 2, none⟩ = some (.int .i64 B) ∧ w.cell? ⟨ob, 3, none⟩ = some (.int .i64 C) ∧ w.cell? ⟨ob, 5, none⟩ = some (.string ⟨s.toArray⟩) := by
  refine ⟨?_, ?_, ?_, ?_⟩
  · rw [cell_of_row _ _ 1 _ _ (0, 0) h.o]; rfl
  · rw [cell_of_row _ _ 2 _ _ (0, 0) h.o]; rfl
  · rw [cell_of_row _ _ 3 _ _ (0, 0) h.o]; rfl
  · rw [cell_of_row _ _ 5 _ _ (0, 0) h.o]; rfl
theorem place_any {U : Nat → Prop} {w : World} {sb bm br bb n : Nat} {f g : Nat → UInt8} (h : StAt U w sb bm br bb n f g) (a : Int) (ha : I64 a) :
    Calls Tryz.prog 26 #[.pointer (some ⟨sb, 0, none⟩), .int .i64 a] w fun e w' => e = .returned (.int .i64 (nearF a (4096 * n))) ∧ w' = w := by
  have hc1 := h.c1
  have hcr := h.r.cr
  have hn := h.r.top
  have HN := Vx.hid (near_any a ha (4096 * n) (by omega) w)
  obtain ⟨N, hN⟩ : ∃ N, N = 4096 * n := ⟨_, rfl⟩
  rw [← hN] at hcr HN ⊢
  clear h hn hN
  go_enter Tryz.func26, Tryz.ntmps26
  go_wp2_with fail
  refine HN.out.mono ?_
  rintro e w' ⟨rfl, h⟩
  have h3 := h.symm; clear h; subst h3
  go_wp2_with fail
  all_goals
    go_ret
    exact ⟨rfl, rfl⟩
theorem pageL_any {U : Nat → Prop} {w : World} {sb bm br bb n : Nat} {f g : Nat → UInt8} (h : StAt U w sb bm br bb n f g) (a : Int) (ha : I64 a) :
    Calls Tryz.prog 33 #[.pointer (some ⟨sb, 0, none⟩), .int .i64 a] w fun e w' => e = .returned (.int .i64 (nearF a n)) ∧ w' = w := by
  have hc1 := h.c1
  have hcr := h.r.cr
  have hn := h.r.top
  have HN := Vx.hid (near_any a ha n (by omega) w)
  obtain ⟨N, hN⟩ : ∃ N, N = 4096 * n := ⟨_, rfl⟩
  rw [← hN] at hcr
  have q1 : Int.tdiv (N : Int) 4096 = (n : Int) := by rw [Int.tdiv_eq_ediv_of_nonneg (by omega)]; omega
  have q2 : (N : Int) / 4096 = (n : Int) := by omega
  have q3 : IntKind.i64.wrap (n : Int) = (n : Int) := by rw [IntKind.wrap_i64]; omega
  clear h hn hN
  go_enter Tryz.func33, Tryz.ntmps33
  go_wp2_with fail
  refine HN.out.mono ?_
  rintro e w' ⟨rfl, h⟩
  have h3 := h.symm; clear h; subst h3
  go_wp2_with fail
  all_goals
    go_ret
    exact ⟨rfl, rfl⟩
end Go.Proofs.YtflmobffeeocdaaGreatDoor

/- Walks of the scripts: moves. -/
namespace Go.Proofs.YtflmobffeeocdaaGreatDoor
open Go.ChangeShapes Go.WideShapes Go.ChangeAt Go.RowKit
open Go.Vx

/-- What a step leaves. -/
def MvR (U : Nat → Prop) (w : World) (sb bm br bb n : Nat) (w' : World) : Prop := (∃ f, StAt U w' sb bm br bb n f f) ∧ Only (fun k => ¬ U k ∨ k = bb) w w'
def opv (K A B C D : Int) (p : ByteArray) : Array Value := #[.int .i64 K, .int .i64 A, .int .i64 B, .int .i64 C, .int .i64 D, .string p]
/-- A step under way. -/
structure MvI (U : Nat → Prop) (w : World) (sb bm br bb n ob : Nat) (K A B C D : Int) (s : List UInt8) (wv : World) (f g : Nat → UInt8) : Prop where
  st : StAt (fun k => U k ∨ k = ob) wv sb bm br bb n f g
  op : OpAt wv ob K A B C D s
  on : Only (fun k => ¬ U k ∨ k = bb) w wv
  u : U sb ∧ U br ∧ U bb
  nb : ob ≠ bb
  nw : w.heap.size ≤ ob
theorem MvI.begin {U : Nat → Prop} {w : World} {sb bm br bb n : Nat} {f g : Nat → UInt8} (h : StAt U w sb bm br bb n f g) (K A B C D : Int) (s : List UInt8) :
    MvI U w sb bm br bb n w.heap.size K A B C D s (w.alloc (.cells (opv K A B C D ⟨s.toArray⟩) 51)) f g :=
  ⟨h.beside _, ⟨heap_alloc_last _ _⟩, (Only.refl _ w).alloc _, ⟨h.us, h.ur, h.ub⟩, Nat.ne_of_gt (lt_of_some h.r.b), Nat.le_refl _⟩
theorem MvI.quiet {U : Nat → Prop} {w : World} {sb bm br bb n ob : Nat} {K A B C D : Int} {s : List UInt8} {wv wx : World} {f g : Nat → UInt8} (h : MvI U w sb bm br bb n ob K A B C D s wv f g) (ho : Only (fun _ => False) wv wx) : MvI U w sb bm br bb n ob K A B C D s wx f g :=
  ⟨h.st.only ho, h.op.only ho (fun h => h), h.on.trans (ho.mono (fun _ _ h => h.elim)), h.u, h.nb, h.nw⟩
theorem MvI.drew {U : Nat → Prop} {w : World} {sb bm br bb n ob : Nat} {K A B C D : Int} {s : List UInt8} {wv : World} {f g : Nat → UInt8} (h : MvI U w sb bm br bb n ob K A B C D s wv f g) : MvI U w sb bm br bb n ob K A B C D s wv.drew f g :=
  h.quiet ((Only.refl _ _).drew)
theorem MvI.mem {U : Nat → Prop} {w : World} {sb bm br bb n ob : Nat} {K A B C D : Int} {s : List UInt8} {wv wx : World} {f f' g : Nat → UInt8} (h : MvI U w sb bm br bb n ob K A B C D s wv f g) (ho : Only (fun k => ¬ (U k ∨ k = ob)) wv wx) (hm : MemAt (fun k => U k ∨ k = ob) wx bm n f') : MvI U w sb bm br bb n ob K A B C D s wx f' g :=
  ⟨h.st.mem ho hm, h.op.only ho (fun hn => hn (Or.inr rfl)), h.on.trans (ho.mono (fun _ _ hn => Or.inl (fun hu => hn (Or.inl hu)))), h.u, h.nb, h.nw⟩
theorem MvI.ref {U : Nat → Prop} {w : World} {sb bm br bb n ob : Nat} {K A B C D : Int} {s : List UInt8} {wv wx : World} {f g g' : Nat → UInt8} (h : MvI U w sb bm br bb n ob K A B C D s wv f g) (ho : Only (fun k => k = bb) wv wx) (hr : RefAt wx br bb n g') : MvI U w sb bm br bb n ob K A B C D s wx f g' :=
  ⟨h.st.ref ho hr, h.op.only ho h.nb, h.on.trans (ho.mono (fun _ _ hn => Or.inr hn)), h.u, h.nb, h.nw⟩
theorem MvI.cells {U : Nat → Prop} {w : World} {sb bm br bb n ob : Nat} {K A B C D : Int} {s : List UInt8} {wv : World} {f g : Nat → UInt8} (h : MvI U w sb bm br bb n ob K A B C D s wv f g) {p : ByteArray} (hp : p = ⟨s.toArray⟩) :
    wv.cell? ⟨sb, 0, none⟩ = some (.pointer (some ⟨bm, 0, none⟩)) ∧ wv.cell? ⟨sb, 1, none⟩ = some (.pointer (some ⟨br, 0, none⟩)) ∧ wv.cell? ⟨ob, 1, none⟩ = some (.int .i64 A) ∧ wv.cell? ⟨ob, 2, none⟩ = some (.int .i64 B) ∧ wv.cell? ⟨ob, 5, none⟩ = some (.string p) := by
  have h2 := h.op.cells
  rw [hp]
  exact ⟨h.st.c0, h.st.c1, h2.1, h2.2.1, h2.2.2.2⟩
theorem MvI.fin {U : Nat → Prop} {w : World} {sb bm br bb n ob : Nat} {K A B C D : Int} {s : List UInt8} {wv : World} {f : Nat → UInt8} (h : MvI U w sb bm br bb n ob K A B C D s wv f f) : MvR U w sb bm br bb n wv :=
  ⟨⟨f, h.st.c0, h.st.c1, h.st.sbl, h.st.m.weaken (fun _ hk => Or.inl hk), h.st.r, h.u.1, h.u.2.1, h.u.2.2, h.st.ne⟩, h.on⟩
set_option maxRecDepth 100000 in
set_option maxHeartbeats 4000000 in
theorem moves_read {U : Nat → Prop} {w : World} {sb bm br bb n : Nat} {f : Nat → UInt8} (h : StAt U w sb bm br bb n f f) (A B C D : Int) (_hA : I64 A) (_hB : I64 B) (s : List UInt8) (_hs : s.length ≤ 9223372036854775807) :
    Calls Tryz.prog 12 #[.pointer (some ⟨sb, 0, none⟩), .agg (opv 2 A B C D ⟨s.toArray⟩)] w fun e w' => e = .returned (.bool true) ∧ MvR U w sb bm br bb n w' := by
  have HB0 := Vx.hid (MvI.begin h 2 A B C D s)
  have HFIN : Hid (∀ wv f, MvI U w sb bm br bb n w.heap.size 2 A B C D s wv f f → MvR U w sb bm br bb n wv) := fun wv f h => h.fin
  obtain ⟨p, hp⟩ : ∃ p : ByteArray, p = ⟨s.toArray⟩ := ⟨_, rfl⟩
  have HPP := Vx.hid hp
  have HCE : Hid (∀ wv f g, MvI U w sb bm br bb n w.heap.size 2 A B C D s wv f g → _) := fun wv f g h => h.cells hp
  have HPA := Vx.hid (fun wv f g (h : MvI U w sb bm br bb n w.heap.size 2 A B C D s wv f g) => place_any h.st A _hA)
  have hiA := near_i64 _hA (4096 * n) (by have := h.r.top; omega)
  have HNR := Vx.hid (fun wv => near_any B _hB 64 (by decide) wv)
  have hbB := near_i64 _hB 64 (by decide)
  generalize nearF B 64 = nb at HNR hbB
  generalize nearF A (4096 * n) = pl at HPA hiA ⊢
  have HM : Hid (∀ wv, MvI U w sb bm br bb n w.heap.size 2 A B C D s wv f f → Calls Tryz.prog 25 #[.pointer (some ⟨bm, 0, none⟩), .int .i64 pl, .int .i64 nb] wv fun e w1 => e = .returned (.tuple #[.string ⟨(readF f n pl nb).1.toArray⟩, .int .i64 ((readF f n pl nb).2 : Nat)]) ∧ Hid (MvI U w sb bm br bb n w.heap.size 2 A B C D s w1 f f)) := fun wv hv => by
    refine (read_any hv.st.m pl nb).mono ?_
    rintro e w1 ⟨rfl, ho⟩
    exact ⟨rfl, hv.quiet ho⟩
  have HR : Hid (∀ wv, MvI U w sb bm br bb n w.heap.size 2 A B C D s wv f f → Calls Tryz.prog 27 #[.pointer (some ⟨br, 0, none⟩), .int .i64 pl, .int .i64 nb] wv fun e w1 => e = .returned (.tuple #[.string ⟨(readF f n pl nb).1.toArray⟩, .int .i64 ((readF f n pl nb).2 : Nat)]) ∧ Hid (MvI U w sb bm br bb n w.heap.size 2 A B C D s w1 f f)) := fun wv hv => by
    refine (refRead_any hv.st.r pl nb hbB.2).mono ?_
    rintro e w1 ⟨rfl, rfl⟩
    exact ⟨rfl, hv⟩
  generalize (readF f n pl nb).2 = rc at HM HR
  generalize (readF f n pl nb).1 = rs at HM HR
  clear hbB
  rw [← hp] at HB0 ⊢
  clear h hp _hA _hB _hs hiA
  unfold opv at *
  go_enter Tryz.func12, Tryz.ntmps12
  obtain ⟨wA, hwA⟩ : ∃ wA, wA = w.alloc (.cells #[Value.int .i64 2, .int .i64 A, .int .i64 B, .int .i64 C, .int .i64 D, .string p] 51) := ⟨_, rfl⟩
  have hk0 : wA.cell? ⟨w.heap.size, 0, none⟩ = some (.int .i64 2) := by rw [hwA, cell_of_row _ _ 0 _ _ (0, 0) (heap_alloc_last w _)]; rfl
  rw [← hwA] at HB0
  go_wp2_with fail
  refine (HNR.out _).mono ?_
  rintro e w' ⟨rfl, h⟩
  have h3 := h.symm; clear h; subst h3
  rw [← hwA]
  clear hwA
  generalize w.heap.size = ob at *
  have HI0 := Vx.hid HB0.out.drew
  have HS0 := Vx.hid (HCE.out _ _ _ HI0.out)
  go_wp2_with fail
  go_region_held3 (fun wv => wv.cell? ⟨sb, 0, none⟩ = some (.pointer (some ⟨bm, 0, none⟩)) ∧ wv.cell? ⟨sb, 1, none⟩ = some (.pointer (some ⟨br, 0, none⟩)) ∧ wv.cell? ⟨ob, 1, none⟩ = some (.int .i64 A) ∧ wv.cell? ⟨ob, 2, none⟩ = some (.int .i64 B) ∧ wv.cell? ⟨ob, 5, none⟩ = some (.string p)) (first | exact HS0.out | exact HS1.out) (first | (go_at_call 26; refine (HPA.out _ _ _ HI0.out).mono ?_; rintro e w' ⟨rfl, h⟩; have h3 := h.symm; clear h; subst h3) | (go_at_call 25; refine (HM.out _ HI0.out).mono ?_; rintro e w1 ⟨rfl, HI1⟩; have HS1 := Vx.hid (HCE.out _ _ _ HI1.out)))
  all_goals
    go_wp2_with fail
    have HI2 := Vx.hid HI1.out.drew
    have HS2 := Vx.hid (HCE.out _ _ _ HI2.out)
    go_region_held3 (fun wv => wv.cell? ⟨sb, 0, none⟩ = some (.pointer (some ⟨bm, 0, none⟩)) ∧ wv.cell? ⟨sb, 1, none⟩ = some (.pointer (some ⟨br, 0, none⟩)) ∧ wv.cell? ⟨ob, 1, none⟩ = some (.int .i64 A) ∧ wv.cell? ⟨ob, 2, none⟩ = some (.int .i64 B) ∧ wv.cell? ⟨ob, 5, none⟩ = some (.string p)) (first | exact HS2.out | exact HS3.out) (first | (go_at_call 26; refine (HPA.out _ _ _ HI2.out).mono ?_; rintro e w' ⟨rfl, h⟩; have h3 := h.symm; clear h; subst h3) | (go_at_call 27; refine (HR.out _ HI2.out).mono ?_; rintro e w2 ⟨rfl, HI3⟩; have HS3 := Vx.hid (HCE.out _ _ _ HI3.out)))
    all_goals
      go_wp2_with fail
      all_goals
        go_ret
        exact ⟨rfl, HFIN.out _ _ HI3.out⟩
set_option maxRecDepth 100000 in
set_option maxHeartbeats 4000000 in
theorem moves_write {U : Nat → Prop} {w : World} {sb bm br bb n : Nat} {f : Nat → UInt8} (h : StAt U w sb bm br bb n f f) (A B C D : Int) (_hA : I64 A) (_hB : I64 B) (s : List UInt8) (_hs : s.length ≤ 9223372036854775807) :
    Calls Tryz.prog 12 #[.pointer (some ⟨sb, 0, none⟩), .agg (opv 3 A B C D ⟨s.toArray⟩)] w fun e w' => e = .returned (.bool true) ∧ MvR U w sb bm br bb n w' := by
  have HB0 := Vx.hid (MvI.begin h 3 A B C D s)
  have HFIN : Hid (∀ wv f, MvI U w sb bm br bb n w.heap.size 3 A B C D s wv f f → MvR U w sb bm br bb n wv) := fun wv f h => h.fin
  obtain ⟨p, hp⟩ : ∃ p : ByteArray, p = ⟨s.toArray⟩ := ⟨_, rfl⟩
  have HPP := Vx.hid hp
  have HCE : Hid (∀ wv f g, MvI U w sb bm br bb n w.heap.size 3 A B C D s wv f g → _) := fun wv f g h => h.cells hp
  have HPA := Vx.hid (fun wv f g (h : MvI U w sb bm br bb n w.heap.size 3 A B C D s wv f g) => place_any h.st A _hA)
  have hiA := near_i64 _hA (4096 * n) (by have := h.r.top; omega)
  generalize nearF A (4096 * n) = pl at HPA hiA ⊢
  have HM : Hid (∀ wv, MvI U w sb bm br bb n w.heap.size 3 A B C D s wv f f → Calls Tryz.prog 28 #[.pointer (some ⟨bm, 0, none⟩), .int .i64 pl, .string ⟨s.toArray⟩] wv fun e w1 => e = .returned (.int .i64 ((writeF f n pl s).2 : Nat)) ∧ Hid (MvI U w sb bm br bb n w.heap.size 3 A B C D s w1 (writeF f n pl s).1 f)) := fun wv hv => by
    refine (write_any hv.st.m pl s).mono ?_
    rintro e w1 ⟨rfl, hm, ho⟩
    exact ⟨rfl, hv.mem ho hm⟩
  have HR : Hid (∀ wv, MvI U w sb bm br bb n w.heap.size 3 A B C D s wv (writeF f n pl s).1 f → Calls Tryz.prog 29 #[.pointer (some ⟨br, 0, none⟩), .int .i64 pl, .string ⟨s.toArray⟩] wv fun e w1 => e = .returned (.int .i64 ((writeF f n pl s).2 : Nat)) ∧ Hid (MvI U w sb bm br bb n w.heap.size 3 A B C D s w1 (writeF f n pl s).1 (writeF f n pl s).1)) := fun wv hv => by
    refine (refWrite_any hv.st.r pl s _hs).mono ?_
    rintro e w1 ⟨rfl, hr, ho⟩
    exact ⟨rfl, hv.ref ho hr⟩
  generalize (writeF f n pl s).2 = rc at HM HR
  generalize (writeF f n pl s).1 = f1 at HM HR
  rw [← hp] at HB0 HM HR ⊢
  clear h hp _hA _hB _hs hiA
  unfold opv at *
  go_enter Tryz.func12, Tryz.ntmps12
  obtain ⟨wA, hwA⟩ : ∃ wA, wA = w.alloc (.cells #[Value.int .i64 3, .int .i64 A, .int .i64 B, .int .i64 C, .int .i64 D, .string p] 51) := ⟨_, rfl⟩
  have hk0 : wA.cell? ⟨w.heap.size, 0, none⟩ = some (.int .i64 3) := by rw [hwA, cell_of_row _ _ 0 _ _ (0, 0) (heap_alloc_last w _)]; rfl
  rw [← hwA] at HB0
  go_wp2_with fail
  rw [← hwA]
  clear hwA
  generalize w.heap.size = ob at *
  have HI0 := Vx.hid HB0.out.drew
  have HS0 := Vx.hid (HCE.out _ _ _ HI0.out)
  go_region_held3 (fun wv => wv.cell? ⟨sb, 0, none⟩ = some (.pointer (some ⟨bm, 0, none⟩)) ∧ wv.cell? ⟨sb, 1, none⟩ = some (.pointer (some ⟨br, 0, none⟩)) ∧ wv.cell? ⟨ob, 1, none⟩ = some (.int .i64 A) ∧ wv.cell? ⟨ob, 2, none⟩ = some (.int .i64 B) ∧ wv.cell? ⟨ob, 5, none⟩ = some (.string p)) (first | exact HS0.out | exact HS1.out) (first | (go_at_call 26; refine (HPA.out _ _ _ HI0.out).mono ?_; rintro e w' ⟨rfl, h⟩; have h3 := h.symm; clear h; subst h3) | (go_at_call 28; refine (HM.out _ HI0.out).mono ?_; rintro e w1 ⟨rfl, HI1⟩; have HS1 := Vx.hid (HCE.out _ _ _ HI1.out)))
  all_goals
    go_wp2_with fail
    have HI2 := Vx.hid HI1.out.drew
    have HS2 := Vx.hid (HCE.out _ _ _ HI2.out)
    go_region_held3 (fun wv => wv.cell? ⟨sb, 0, none⟩ = some (.pointer (some ⟨bm, 0, none⟩)) ∧ wv.cell? ⟨sb, 1, none⟩ = some (.pointer (some ⟨br, 0, none⟩)) ∧ wv.cell? ⟨ob, 1, none⟩ = some (.int .i64 A) ∧ wv.cell? ⟨ob, 2, none⟩ = some (.int .i64 B) ∧ wv.cell? ⟨ob, 5, none⟩ = some (.string p)) (first | exact HS2.out | exact HS3.out) (first | (go_at_call 26; refine (HPA.out _ _ _ HI2.out).mono ?_; rintro e w' ⟨rfl, h⟩; have h3 := h.symm; clear h; subst h3) | (go_at_call 29; refine (HR.out _ HI2.out).mono ?_; rintro e w2 ⟨rfl, HI3⟩; have HS3 := Vx.hid (HCE.out _ _ _ HI3.out)))
    all_goals
      go_wp2_with fail
      all_goals
        go_ret
        exact ⟨rfl, HFIN.out _ _ HI3.out⟩
end Go.Proofs.YtflmobffeeocdaaGreatDoor

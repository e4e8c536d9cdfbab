/- Walks of package vspace: Tables. -/
import Derived.Test.YtflmobffeeocdaaGreatDoorG1
namespace Go.Vx
theorem Only.grown {S : Nat → Prop} {w0 w w' : World} {row : Option Nat} (h : Only S w0 w) (hg : w.grownBy w' row) (hr : ∀ k, row = some k → S k ∨ w0.heap.size ≤ k) : Only S w0 w' :=
  ⟨hg.os.trans h.os, hg.tape.trans h.tape, hg.output.trans h.output, Nat.le_trans h.size hg.size, fun k hk hn => (hg.block k (Nat.lt_of_lt_of_le hk h.size) (fun e => by
    rcases hr k e.symm with h1 | h1
    · exact hn h1
    · omega)).trans (h.block k hk hn)⟩
theorem Only.both {w w' : World} (h : Only (fun _ => False) w w') : w.grownBy w' none := ⟨h.os, h.tape, h.output, h.size, fun k hk _ => h.block k hk (fun h => h)⟩
/-- A list of mappings that a call has made. -/
def OwnM (w : World) (base : Nat) (e : TypeId) (v : Value) (ms : List (Int × Int × Int)) : Prop := w.ownsRow base e 3 v ms.length (flat ms)
theorem OwnM.quiet {w w' : World} {base : Nat} {e : TypeId} {v : Value} {ms : List (Int × Int × Int)} (h : OwnM w base e v ms) (ho : Only (fun _ => False) w w') : OwnM w' base e v ms := by
  refine World.ownsRow.kept h ho.both ?_
  cases hv : v.ownBlock with
  | none => exact Or.inl rfl
  | some k => exact Or.inr (by simp)
/-- What such a list looks like. -/
theorem OwnM.form {w : World} {base : Nat} {e : TypeId} {v : Value} {ms : List (Int × Int × Int)} (h : OwnM w base e v ms) : ∃ p c, v = .slice p ms.length c ∧ ms.length ≤ c ∧ c ≤ maxLen ∧ (0 < ms.length → ∃ g, p = some ⟨g, 0, none⟩ ∧ base ≤ g ∧ g < w.heap.size) := by
  rcases h.2 with ⟨hv, h0⟩ | ⟨g, cap, cur, hv, hb, hg, hnc, hcm, _⟩
  · exact ⟨none, 0, by rw [hv, h0], by omega, by decide, fun h => by omega⟩
  · exact ⟨_, cap, hv, hnc, hcm, fun _ => ⟨g, rfl, hb, lt_of_some hg⟩⟩
theorem OwnM.at {w : World} {base g c : Nat} {e : TypeId} {ms : List (Int × Int × Int)} (h : OwnM w base e (.slice (some ⟨g, 0, none⟩) ms.length c) ms) (k : Nat) (hk : k < ms.length) :
    w.cell? ⟨g, k * 3, none⟩ = some (.int .u32 ms[k].1) ∧ w.cell? ⟨g, k * 3 + 1, none⟩ = some (.int .i64 ms[k].2.1) ∧ w.cell? ⟨g, k * 3 + 2, none⟩ = some (.int .i64 ms[k].2.2) := by
  have h0 := World.ownsRow.cellAt h (k * 3) (by omega)
  have h1 := World.ownsRow.cellAt h (k * 3 + 1) (by omega)
  have h2 := World.ownsRow.cellAt h (k * 3 + 2) (by omega)
  have g0 := get_flat ms k 0 hk (by decide)
  rw [Nat.add_zero] at g0
  rw [g0] at h0
  rw [get_flat ms k 1 hk (by decide)] at h1
  rw [get_flat ms k 2 hk (by decide)] at h2
  exact ⟨h0, h1, h2⟩
end Go.Vx
namespace Go.Proofs.YtflmobffeeocdaaGreatDoor
open Go.ChangeShapes Go.WideShapes Go.ChangeAt Go.RowKit
open Go.Vx

theorem infoMp : ∃ i, Tryz.prog.info? 104 = some i ∧ i.zero = some (.agg #[.int .u32 0, .int .i64 0, .int .i64 0]) ∧ i.size = 3 ∧ i.bytes = 24 := by
  have h : (Tryz.prog.info? 104).map (fun i => (i.zero, i.size, i.bytes)) = some (some (.agg #[.int .u32 0, .int .i64 0, .int .i64 0]), 3, 24) := by kernel_rfl
  cases hq : Tryz.prog.info? 104 with
  | none => rw [hq] at h; simp at h
  | some i =>
    rw [hq] at h
    simp only [Option.map_some, Option.some.injEq, Prod.mk.injEq] at h
    exact ⟨i, rfl, h.1, h.2.1, h.2.2⟩
/-- append of one mapping, as the walk meets it. -/
theorem append_mp (w : World) {ops : Array Oper} {rest : List Oper} {o : Oper} {a : Act} {Q : Exit → Act → World → Prop} (hgd : o.guard = none) (s x : Operand)
    (ho : o.op = .call { callee := .builtin .append, args := #[s, x], argTypes := #[86, 86] }) (base : Nat) (v : Value) (ms : List (Int × Int × Int)) (hs : a.eval s = v) (hown : OwnM w base 104 v ms)
    (y : Int × Int × Int) (hx : a.eval x = .slice (some ⟨w.heap.size, 0, none⟩) 1 1) (hlen : ms.length ≤ 2000000) (hbase : base ≤ w.heap.size)
    (h : ∀ g cap w', OwnM w' base 104 (.slice (some ⟨g, 0, none⟩) (ms.length + 1) cap) (ms ++ [y]) → Only (fun k => v.ownBlock = some k) w w' → (v.ownBlock = some g ∨ w.heap.size ≤ g) → wpList Tryz.prog ops Q rest (a.put o.dst (.slice (some ⟨g, 0, none⟩) (ms.length + 1) cap)) w') :
    wpList Tryz.prog ops Q (o :: rest) a (w.alloc (.cells #[.int .u32 y.1, .int .i64 y.2.1, .int .i64 y.2.2] 104)) := by
  obtain ⟨i, hi, hz, hsz, hby⟩ := infoMp
  refine wpList_append_keep _ hgd s x 86 ho base 104 i _ 3 24 Tryz.underlying86 hi hz hsz hby rfl (by decide) v ms.length (flat ms) hs (World.ownsRow.alloc hown _) ⟨w.heap.size, 0, none⟩ 1 1 (cells3 y) hx rfl (fun j u hj => ?_) (fun u hu => oneCell_flat [y] u (by rw [flat_one]; exact hu)) (by decide) (by unfold maxLen; omega) (by omega) (by simp; omega) (fun g cap w' h1 h2 h3 => ?_)
  · rw [addr_add, Nat.zero_add, cell_of_row _ _ j _ _ (0, 0) (heap_alloc_last w _)]
    have hj' : (cells3 y)[j]? = some u := hj
    simpa [cells3] using hj'
  · refine h g cap w' ?_ ?_ (by rcases h2 with h2 | h2; exact Or.inl h2.1; exact Or.inr (by rw [h2.1]; simp))
    · show w'.ownsRow _ _ _ _ (ms ++ [y]).length (flat (ms ++ [y]))
      rw [flat_app, flat_one, List.length_append]
      exact h1
    · rcases h2 with ⟨h2, h4⟩ | ⟨_, h4⟩
      · exact Only.grown (((Only.refl (fun k => v.ownBlock = some k) w).alloc _)) h4 (fun k hk => Or.inl (by rw [h2, hk]))
      · exact Only.grown (((Only.refl (fun k => v.ownBlock = some k) w).alloc _)) h4 (fun k hk => by cases hk)
/-- What a list's making keeps. -/
structure MkR (w : World) (v : Value) (ms : List (Int × Int × Int)) (wr : World) : Prop where
  o : OwnM wr w.heap.size 104 v ms
  on : Only (fun _ => False) w wr
theorem MkR.quiet {w : World} {v : Value} {ms : List (Int × Int × Int)} {wr wx : World} (h : MkR w v ms wr) (ho : Only (fun _ => False) wr wx) : MkR w v ms wx := ⟨h.o.quiet ho, h.on.trans ho⟩
theorem MkR.push {w : World} {v v' : Value} {ms ms' : List (Int × Int × Int)} {wr wx : World} (h : MkR w v ms wr) (ho : OwnM wx w.heap.size 104 v' ms') (hon : Only (fun k => v.ownBlock = some k) wr wx) : MkR w v' ms' wx :=
  ⟨ho, ⟨hon.os.trans h.on.os, hon.tape.trans h.on.tape, hon.output.trans h.on.output, Nat.le_trans h.on.size hon.size, fun k hk _ => (hon.block k (Nat.lt_of_lt_of_le hk h.on.size) (fun e => by have := (World.ownsRow.lt h.o k e).1; omega)).trans (h.on.block k hk (fun h => h))⟩⟩
theorem MkR.start {w w1 : World} (ho : Only (fun _ => False) w w1) : MkR w (.slice none 0 0) [] w1 := ⟨World.ownsRow_nil _ _ _ _, ho⟩
theorem tables_no {U : Nat → Prop} {w : World} {bm n : Nat} {f : Nat → UInt8} (h : MemAt U w bm n f) (root : Int) (hb : hasB n root = false) :
    Calls Tryz.prog 47 #[.pointer (some ⟨bm, 0, none⟩), .int .i64 root] w fun e w' => e = .returned (.tuple #[.slice none 0 0, .int .i64 1]) ∧ Only (fun _ => False) w w' := by
  have HTH := Vx.hid (there1 h root)
  rw [hb] at HTH
  clear h hb
  go_enter Tryz.func47, Tryz.ntmps47
  go_wp2_with fail
  refine HTH.out.mono ?_
  rintro e w1 ⟨rfl, h1⟩
  have HO1 : Hid (Only (fun _ => False) w w1) := by show Only _ _ _; rw [h1]; exact (Only.refl _ w).alloc _
  clear h1
  go_wp2_with fail
  all_goals
    go_ret2
    exact ⟨rfl, HO1.out⟩
set_option maxHeartbeats 2000000 in
theorem tables_ok {U : Nat → Prop} {w : World} {bm n : Nat} {f : Nat → UInt8} (h : MemAt U w bm n f) (root : Nat) (hb : root < n) :
    Calls Tryz.prog 47 #[.pointer (some ⟨bm, 0, none⟩), .int .i64 (root : Int)] w fun e w' => ∃ v, e = .returned (.tuple #[v, .int .i64 0]) ∧ MkR w v (tabsF f n root 1024) w' := by
  have HTH := Vx.hid (there1 h (root : Int))
  rw [show hasB n (root : Int) = true by simp [hasB]; exact hb] at HTH
  have HM := Vx.hid h
  have HTB := Vx.hid (fun va (hv : va < 4294967296) wv (hm : MemAt U wv bm n f) => table_any hm root va hb hv)
  clear h hb
  go_enter Tryz.func47, Tryz.ntmps47
  go_wp2_with fail
  refine HTH.out.mono ?_
  rintro e w1 ⟨rfl, h1⟩
  have HO1 : Hid (Only (fun _ => False) w w1) := by show Only _ _ _; rw [h1]; exact (Only.refl _ w).alloc _
  clear h1
  go_wp2_with fail
  go_loopw [6, 16] (fun lv d wr => ∃ k : Nat, d = .int .u32 (k : Int) ∧ k ≤ 1024 ∧ Hid (MkR w lv (tabsF f n root k) wr)) (fun _ d _ => 1024 - (intOf d).toNat)
  case atStart => exact ⟨0, rfl, by omega, MkR.start HO1.out⟩
  case round =>
    obtain ⟨k, rfl, hk, HR⟩ := hrel
    by_cases hlt : k < 1024
    · have h1 : (k : Int) < 1024 := by omega
      have w1' : IntKind.u32.wrap ((k : Int) + 1) = (k : Int) + 1 := by rw [IntKind.wrap_u32]; omega
      have e1 : (k : Int) * 4194304 = ((4194304 * k : Nat) : Int) := by omega
      have w2' : IntKind.u32.wrap ((4194304 * k : Nat) : Int) = ((4194304 * k : Nat) : Int) := by rw [IntKind.wrap_u32]; omega
      have HTK := Vx.hid (HTB.out (4194304 * k) (by omega) wr (HM.out.quiet HR.out.on))
      have HLN := Vx.hid (tabsF_len f n root k)
      have HS := Vx.hid (tabsF_succ f n root k)
      generalize 4194304 * k = va at e1 w2' HTK HS
      generalize tabF f n root va = TF at HTK HS
      cases TF with
      | none =>
        have HS2 : Hid (tabsF f n root (k + 1) = tabsF f n root k) := by show _ = _; rw [HS.out]; exact List.append_nil _
        clear HS
        simp only [Option.getD_none, Option.isSome_none] at HTK
        go_wp2_with fail
        refine HTK.out.mono ?_
        rintro e w2 ⟨rfl, ho2⟩
        have HR2 : Hid (MkR w u6 (tabsF f n root (k + 1)) w2) := by show MkR _ _ _ _; rw [HS2.out]; exact HR.out.quiet ho2
        clear ho2
        go_wp2_with fail
        go_roundw
        case rel => exact ⟨k + 1, by go_num, by omega, HR2⟩
        case measure => simp only [intOf]; omega
      | some p =>
        simp only [Option.getD_some, Option.isSome_some] at HTK
        go_wp2_with fail
        refine HTK.out.mono ?_
        rintro e w2 ⟨rfl, ho2⟩
        have HR2 := Vx.hid (HR.out.quiet ho2)
        clear ho2
        have hl2 : (tabsF f n root k).length ≤ 2000000 := by have := HLN.out; omega
        have hb2 : w.heap.size ≤ w2.heap.size := HR2.out.on.size
        have HL2 := Vx.hid hl2
        have HB2 := Vx.hid hb2
        clear hl2 hb2
        go_wp2_with (at_builtin; refine append_mp _ rfl _ _ rfl w.heap.size _ _ rfl HR2.out.o ((va : Int), (p : Int), 0) rfl HL2.out HB2.out (fun g cap w3 h1 h2 _ => ?_))
        have HR3 : Hid (MkR w (.slice (some ⟨g, 0, none⟩) ((tabsF f n root k).length + 1) cap) (tabsF f n root (k + 1)) w3) := by show MkR _ _ _ _; rw [HS.out]; exact HR2.out.push h1 h2
        clear h1 h2
        go_wp2_with fail
        go_roundw
        case rel => exact ⟨k + 1, by go_num, by omega, HR3⟩
        case measure => simp only [intOf]; omega
    · obtain rfl : k = 1024 := by omega
      clear hlt hk
      go_wp2_with fail
      all_goals
        go_ret2
        exact ⟨_, rfl, HR.out⟩
end Go.Proofs.YtflmobffeeocdaaGreatDoor

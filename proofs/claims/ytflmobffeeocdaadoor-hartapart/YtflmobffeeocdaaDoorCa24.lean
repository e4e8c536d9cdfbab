import Derived.Test.YtflmobffeeocdaaDoorCa23
/- Walks of package hart: store. -/
namespace Go.Vx
/-- The bytes that are laid till now. -/
def stL (b len k : Nat) : List Value := ((fourB b).take k ++ List.replicate (len - k) 0).map byteV
theorem stL_length (b len k : Nat) (hk : k ≤ len) (h4 : len ≤ 4) : (stL b len k).length = len := by
  unfold stL
  rw [List.length_map, List.length_append, List.length_take, List.length_replicate, show (fourB b).length = 4 from rfl]
  omega
theorem stL_set (b len k : Nat) (hk : k < len) (h4 : len ≤ 4) : (stL b len k).set k (byteV ((fourB b).getD k 0)) = stL b len (k + 1) := by
  have hc : k = 0 ∨ k = 1 ∨ k = 2 ∨ k = 3 := by omega
  have hl : len = 1 ∨ len = 2 ∨ len = 3 ∨ len = 4 := by omega
  rcases hc with rfl | rfl | rfl | rfl <;> rcases hl with rfl | rfl | rfl | rfl <;> first | omega | rfl
theorem stL_zero (b len : Nat) : stL b len 0 = rowV (fun _ => 0) 0 len := by
  apply List.ext_getElem?
  intro j
  by_cases hj : j < len
  · rw [get_rowV _ _ _ _ hj]
    unfold stL
    simp [hj]
  · rw [List.getElem?_eq_none (l := rowV (fun _ => 0) 0 len) (by rw [length_rowV]; omega)]
    unfold stL
    simp
    omega
theorem stL_end (b len : Nat) : stL b len len = ((fourB b).take len).map byteV := by
  unfold stL
  simp
/-- A row of bytes under way. -/
structure StR (w : World) (gb b len k : Nat) (wr : World) : Prop where
  row : ∃ T, wr.heap[gb]? = some (.cells (stL b len k).toArray T (0, 0))
  new : w.heap.size ≤ gb
  on : Only (fun _ => False) w wr
theorem StR.cell {w wr : World} {gb b len k : Nat} (h : StR w gb b len k wr) (hk : k < len) (h4 : len ≤ 4) : (∃ v, wr.cell? ⟨gb, k, none⟩ = some v) ∧ wr.frozen? ⟨gb, k, none⟩ = false := by
  obtain ⟨T, h1⟩ := h.row
  refine ⟨⟨(stL b len k)[k]'(by rw [stL_length b len k (by omega) h4]; exact hk), ?_⟩, by simp [World.frozen?, h1]⟩
  rw [cell_of_row _ _ k _ _ (0, 0) h1]
  simp [stL_length b len k (by omega) h4, hk]
theorem StR.set {w wr : World} {gb b len k : Nat} (h : StR w gb b len k wr) (hk : k < len) (h4 : len ≤ 4) (X : Int) (hX : X = (((fourB b).getD k 0).toNat : Int)) : StR w gb b len (k + 1) (wr.setCell ⟨gb, k, none⟩ (.int .u8 X)) := by
  obtain ⟨T, h1⟩ := h.row
  refine ⟨⟨T, ?_⟩, h.new, h.on.setCell (p := ⟨gb, k, none⟩) (Or.inr h.new) _⟩
  rw [heap_setCell_same _ _ _ _ _ _ h1, ← stL_set b len k hk h4, hX]
  simp [byteV]
theorem StR.bytes {w wr : World} {gb b len : Nat} (h : StR w gb b len len wr) : ∀ (j : Nat) (hj : j < ((fourB b).take len).length), wr.cell? ⟨gb, j, none⟩ = some (.int .u8 ((((fourB b).take len)[j]).toNat : Int)) := by
  intro j hj
  obtain ⟨T, h1⟩ := h.row
  rw [cell_of_row _ _ j _ _ (0, 0) h1, stL_end]
  simp only [List.getElem?_toArray, List.getElem?_map, List.getElem?_eq_getElem hj]
  rfl
theorem four_at (b k : Nat) (hk : k < 4) : (((fourB b).getD k 0).toNat : Int) = (b : Int) / 2 ^ (8 * k) % 256 := by
  have hc : k = 0 ∨ k = 1 ∨ k = 2 ∨ k = 3 := by omega
  rcases hc with rfl | rfl | rfl | rfl
  · show ((UInt8.ofNat (b % 256)).toNat : Int) = _
    rw [byte_of]; simp
  · show ((UInt8.ofNat (b / 256 % 256)).toNat : Int) = _
    rw [byte_of]; simp
  · show ((UInt8.ofNat (b / 65536 % 256)).toNat : Int) = _
    rw [byte_of]; simp
  · show ((UInt8.ofNat (b / 16777216 % 256)).toNat : Int) = _
    rw [byte_of]; simp
end Go.Vx
namespace Go.Proofs.YtflmobffeeocdaaDoor
open Go.ChangeShapes Go.WideShapes Go.ChangeAt Go.RowKit
open Go.Vx

theorem make_u32 (n : Nat) (h : n ≤ 1048576) (w : World) : (Instr.makeSlice 57 (.int .u32 (n : Int)) (.int .u32 (n : Int))).run Tryd.prog w = .ok (.slice (some ⟨w.heap.size, 0, none⟩) n n) (w.alloc (.cells (rowV (fun _ => 0) 0 n).toArray 5)) := by
  have hi := infoByte
  cases hq : Tryd.prog.info? 5 with
  | none => rw [hq] at hi; simp at hi
  | some i =>
    rw [hq] at hi
    simp only [Option.map_some, Option.some.injEq, Prod.mk.injEq] at hi
    have := run_make (P := Tryd.prog) w 57 5 i (.int .u8 0) Tryd.underlying57 hq hi.1 .u32 .u32 n n (by omega) (by omega) (by rw [hi.2.2]; omega) (by omega)
    rw [this, hi.2.1, Nat.mul_one]
    simp only [Int.toNat_natCast, Value.cells]
    rw [made_bytes]
theorem conv_back (wv : World) (g c : Nat) (l : List UInt8) (hc : ∀ (j : Nat) (hj : j < l.length), wv.cell? ⟨g, j, none⟩ = some (.int .u8 ((l[j]).toNat : Int))) : (convert 57 9 (.slice (some ⟨g, 0, none⟩) l.length c)).run Tryd.prog wv = .ok (.string ⟨l.toArray⟩) wv :=
  run_convert_bytes_back (P := Tryd.prog) wv 57 9 5 ⟨g, 0, none⟩ c l Tryd.underlying57 Tryd.underlying5 Tryd.underlying9 (fun j hj => by rw [addr_add, Nat.zero_add]; exact hc j hj)
/-- What is new may stand beside a memory. -/
theorem MemAt.more {U : Nat → Prop} {w wv : World} {bm n : Nat} {f : Nat → UInt8} (h : MemAt U w bm n f) (ho : Only (fun _ => False) w wv) : MemAt (fun k => U k ∨ (w.heap.size ≤ k ∧ k < wv.heap.size)) wv bm n f := by
  obtain ⟨bp, q, h1⟩ := h
  have h2 := h1.only ho (fun _ h _ => h.elim)
  refine ⟨bp, q, h2.pos, h2.top, h2.m, h2.p, h2.nil, h2.pg, h2.inj, ?_, ?_, ?_, ?_⟩
  · rintro (hu | hu)
    · exact h2.um hu
    · have := lt_of_some h1.m; omega
  · rintro (hu | hu)
    · exact h2.up hu
    · have := lt_of_some h1.p; omega
  · rintro i b hi hq (hu | hu)
    · exact h2.ug i b hi hq hu
    · have := lt_of_some (h1.pg i hi b hq); omega
  · rintro k (hu | hu)
    · exact h2.low k hu
    · exact hu.2
theorem only_more {U : Nat → Prop} {w wr wv : World} (ho : Only (fun _ => False) w wr) (hv : Only (fun k => ¬ (U k ∨ (w.heap.size ≤ k ∧ k < wr.heap.size))) wr wv) : Only (fun k => ¬ U k) w wv :=
  (ho.mono (fun _ _ h => h.elim)).trans (hv.mono (fun _ _ hk hu => hk (Or.inl hu)))
/-- What store makes of the place. -/
def StoP (U : Nat → Prop) (w : World) (bm n : Nat) (f : Nat → UInt8) (s : List UInt8) (r : Except (Int × Nat) Nat) (e : Ending) (w' : World) : Prop :=
  (∃ c t, r = .error (c, t) ∧ e = .panicked (trapP c t) ∧ Only (fun _ => False) w w') ∨ ∃ a, r = .ok a ∧ e = .returned (.tuple #[]) ∧ MemAt U w' bm n (putF f a s) ∧ Only (fun k => ¬ U k) w w'
set_option maxRecDepth 100000 in
set_option maxHeartbeats 4000000 in
theorem store_any {U : Nat → Prop} {w : World} {bm n cb off : Nat} {f : Nat → UInt8} (h : MemAt U w bm n f) (hus : UsesAt w) (hmi : MisAt w) (root : Int) (op : Nat) (ho : 16 ≤ op) (ho2 : op ≤ 18) (va : Nat) (hva : va < 4294967296) (b : Nat) :
    Calls Tryd.prog 36 #[.agg #[.pointer (some ⟨bm, 0, none⟩), .int .i64 root, .pointer (some ⟨cb, off, none⟩)], .int .i64 (op : Int), .int .u32 (va : Int), .int .u32 (b : Int)] w fun e w' => StoP U w bm n f ((fourB b).take (bytesF op)) (placeF f n root va (bytesF op) 2) e w' := by
  have HLN := Vx.hid (fun wv => length_any op (by omega) ho2 wv)
  have hb := bytes_cases op
  have HPI : Hid (∀ a, placeF f n root va (bytesF op) 2 = .ok a → a + ((fourB b).take (bytesF op)).length ≤ 4096 * n) := fun a hp => by
    have := (place_in hb hp).2
    rw [List.length_take, show (fourB b).length = 4 from rfl]
    omega
  have HPL : Hid (∀ wv, Only (fun _ => False) w wv → Calls Tryd.prog 44 #[.agg #[.pointer (some ⟨bm, 0, none⟩), .int .i64 root, .pointer (some ⟨cb, off, none⟩)], .int .u32 (va : Int), .int .u32 (bytesF op : Nat), .int .i64 2] wv fun e w' => ((∃ c t, placeF f n root va (bytesF op) 2 = .error (c, t) ∧ e = .panicked (trapP c t)) ∨ ∃ a, placeF f n root va (bytesF op) 2 = .ok a ∧ e = .returned (.int .i64 (a : Nat))) ∧ Hid (Only (fun _ => False) wv w')) := fun wv hv =>
    hplace_any (h.only hv (fun _ h _ => h.elim)) (hus.only hv (fun h => h)) (hmi.only hv (fun h => h)) root ⟨cb, off, none⟩ va hva (bytesF op) (by omega) (by omega) 2 (by decide)
  have HWR : Hid (∀ wr wv a, Only (fun _ => False) w wr → Only (fun _ => False) wr wv → a + ((fourB b).take (bytesF op)).length ≤ 4096 * n → Calls Tryd.prog 6 #[.pointer (some ⟨bm, 0, none⟩), .int .i64 (a : Nat), .string ⟨((fourB b).take (bytesF op)).toArray⟩] wv fun e w' => e = .returned (.int .i64 0) ∧ Hid (MemAt U w' bm n (putF f a ((fourB b).take (bytesF op))) ∧ Only (fun k => ¬ (U k ∨ (w.heap.size ≤ k ∧ k < wr.heap.size))) wr w')) := fun wr wv a hr hv hin => by
    obtain ⟨bp, q, hm⟩ := (h.more hr).only hv (fun _ h _ => h.elim)
    refine (write_ok hm a _ hin).mono ?_
    rintro e w' ⟨rfl, h1, h2⟩
    refine ⟨rfl, ?_, (hv.mono (fun _ _ h => h.elim)).trans h2⟩
    obtain ⟨bp', q', h3⟩ := h1
    exact ⟨bp', q', h3.pos, h3.top, h3.m, h3.p, h3.nil, h3.pg, h3.inj, fun hu => h3.um (Or.inl hu), fun hu => h3.up (Or.inl hu), fun i b hi hq hu => h3.ug i b hi hq (Or.inl hu), fun k hu => h3.low k (Or.inl hu)⟩
  have HMK := Vx.hid (fun wv => make_u32 (bytesF op) (by omega) wv)
  have HZ := Vx.hid (stL_zero b (bytesF op))
  have HFO := Vx.hid (fun k (hk : k < 4) => four_at b k hk)
  have HCB := Vx.hid (fun wv g c hc => conv_back wv g c ((fourB b).take (bytesF op)) hc)
  have HTL : Hid (((fourB b).take (bytesF op)).length = bytesF op) := by
    show _ = _
    rw [List.length_take, show (fourB b).length = 4 from rfl]; omega
  generalize bytesF op = len at HLN HPL hb HPI HWR HMK HZ HCB HTL
  have h4 : len ≤ 4 := by omega
  have HSB := Vx.hid (fun (ww wr : World) (gb : Nat) (h : StR ww gb b len len wr) => h.bytes)
  have hmk := HMK.out (w.alloc (.cells #[.pointer (some ⟨bm, 0, none⟩), .int .i64 root, .pointer (some ⟨cb, off, none⟩)] 61))
  clear h hus hmi hva ho ho2 HMK
  go_enter Tryd.func36, Tryd.ntmps36
  go_wp2_with fail
  refine (HLN.out _).mono ?_
  rintro e w' ⟨rfl, h⟩
  have h2 := h.symm; clear h; subst h2
  go_wp2_with fail
  obtain ⟨W2, hW2⟩ : ∃ W2, W2 = ((w.alloc (.cells #[.pointer (some ⟨bm, 0, none⟩), .int .i64 root, .pointer (some ⟨cb, off, none⟩)] 61)).alloc (.cells (rowV (fun _ => 0) 0 len).toArray 5)) := ⟨_, rfl⟩
  have HO2 : Hid (Only (fun _ => False) w W2) := by rw [hW2]; exact ((Only.refl _ w).alloc _).alloc _
  have hbk : W2.heap[w.heap.size]? = some (.cells #[.pointer (some ⟨bm, 0, none⟩), .int .i64 root, .pointer (some ⟨cb, off, none⟩)] 61 (0, 0)) := by
    rw [hW2, RowKit.Below.heap_alloc _ _ _ (by simp)]; exact heap_alloc_last w _
  have hrow : W2.heap[w.heap.size + 1]? = some (.cells (stL b len 0).toArray 5 (0, 0)) := by
    rw [hW2, HZ.out]
    have := heap_alloc_last (w.alloc (.cells #[.pointer (some ⟨bm, 0, none⟩), .int .i64 root, .pointer (some ⟨cb, off, none⟩)] 61)) (.cells (rowV (fun _ => 0) 0 len).toArray 5)
    simpa using this
  have HSR : Hid (StR w (w.heap.size + 1) b len 0 W2) := ⟨⟨_, hrow⟩, by omega, HO2.out⟩
  have HBK : Hid (∀ wv, Only (fun k => k = w.heap.size + 1) W2 wv → wv.cell? ⟨w.heap.size, 0, none⟩ = some (.pointer (some ⟨bm, 0, none⟩)) ∧ wv.cell? ⟨w.heap.size, 1, none⟩ = some (.int .i64 root) ∧ wv.cell? ⟨w.heap.size, 2, none⟩ = some (.pointer (some ⟨cb, off, none⟩))) := fun wv hv => by
    have h5 : wv.heap[w.heap.size]? = some (.cells #[.pointer (some ⟨bm, 0, none⟩), .int .i64 root, .pointer (some ⟨cb, off, none⟩)] 61 (0, 0)) := by
      rw [hv.block _ (lt_of_some hbk) (by omega)]; exact hbk
    exact ⟨by rw [cell_of_row _ _ 0 _ _ (0, 0) h5]; rfl, by rw [cell_of_row _ _ 1 _ _ (0, 0) h5]; rfl, by rw [cell_of_row _ _ 2 _ _ (0, 0) h5]; rfl⟩
  rw [← hW2]
  clear hW2 hmk hbk hrow HO2 HZ HLN
  generalize w.heap.size + 1 = gb at HSR HBK ⊢
  obtain ⟨g, hg⟩ : ∃ g, g = w.heap.size := ⟨_, rfl⟩
  have HGW : Hid (w.heap.size ≤ g) := by show _ ≤ _; omega
  rw [← hg] at HBK ⊢
  clear hg
  go_loopw [17] (fun i wr => ∃ k : Nat, k ≤ len ∧ i = .int .i64 (k : Int) ∧ Hid (StR w gb b len k wr ∧ Only (fun k => k = gb) W2 wr)) (fun i _ => len - (intOf i).toNat)
  case atStart => exact ⟨0, Nat.zero_le _, rfl, HSR.out, Only.refl _ _⟩
  case round =>
    obtain ⟨k, hk, rfl, HR⟩ := hrel
    by_cases hlt : k < len
    · obtain ⟨⟨v0, hc0⟩, hf0⟩ := HR.out.1.cell hlt h4
      have hfo := HFO.out k (by omega)
      have HSET := Vx.hid (fun X hX => HR.out.1.set hlt h4 X hX)
      have HON := Vx.hid (fun X => HR.out.2.setCell (p := ⟨gb, k, none⟩) (Or.inl rfl) X)
      have hi : 0 ≤ (k : Int) ∧ (k : Int) < (len : Int) := by omega
      have hl2 : (k : Int) < (len : Int) := by omega
      have hk4 : k = 0 ∨ k = 1 ∨ k = 2 ∨ k = 3 := by omega
      clear hk
      rcases hk4 with rfl | rfl | rfl | rfl
      all_goals
        simp at hfo
        have HFX := Vx.hid hfo
        clear hfo
        go_wp2_with fail
        all_goals
          go_roundw
          case rel => exact ⟨_, hlt, rfl, HSET.out _ HFX.out.symm, HON.out _⟩
          case measure => simp [intOf]; omega
    · have hkl : k = len := by omega
      subst hkl
      have hl2 : ¬ (k : Int) < (k : Int) := by omega
      clear hlt hk
      go_wp2_with fail
      have hgb : gb < wr.heap.size := by obtain ⟨T, h1⟩ := HR.out.1.row; exact lt_of_some h1
      have HBY := Vx.hid (HSB.out _ _ _ HR.out.1)
      obtain ⟨U2, hU2⟩ : ∃ U2 : Nat → Prop, U2 = fun k => U k ∨ (w.heap.size ≤ k ∧ k < wr.heap.size) := ⟨_, rfl⟩
      have hub : U2 gb := by rw [hU2]; exact Or.inr ⟨HR.out.1.new, hgb⟩
      have hug : g < wr.heap.size ∧ U2 g := by
        have h1 := World.block_lt_of_cell? wr _ (HBK.out wr HR.out.2).1
        rw [hU2]; exact ⟨h1, Or.inr ⟨HGW.out, h1⟩⟩
      have HCV : Hid (∀ wv, Only (fun k => ¬ U2 k) wr wv → (convert 57 9 (.slice (some ⟨gb, 0, none⟩) k k)).run Tryd.prog wv = .ok (.string ⟨((fourB b).take k).toArray⟩) wv) := fun wv hv => by
        have h1 := HCB.out wv gb k (fun j hj => by rw [hv.cell (p := ⟨gb, j, none⟩) hgb (fun h => h hub)]; exact HBY.out j hj)
        rw [HTL.out] at h1
        exact h1
      have HS : Hid (∀ wv, Only (fun k => ¬ U2 k) wr wv → (wv.cell? ⟨g, 0, none⟩ = some (.pointer (some ⟨bm, 0, none⟩)) ∧ wv.cell? ⟨g, 1, none⟩ = some (.int .i64 root) ∧ wv.cell? ⟨g, 2, none⟩ = some (.pointer (some ⟨cb, off, none⟩))) ∧ (convert 57 9 (.slice (some ⟨gb, 0, none⟩) k k)).run Tryd.prog wv = .ok (.string ⟨((fourB b).take k).toArray⟩) wv) := fun wv hv => by
        obtain ⟨b0, b1, b2⟩ := HBK.out wr HR.out.2
        refine ⟨⟨?_, ?_, ?_⟩, HCV.out wv hv⟩
        · rw [hv.cell (p := ⟨g, 0, none⟩) hug.1 (fun h => h hug.2)]; exact b0
        · rw [hv.cell (p := ⟨g, 1, none⟩) hug.1 (fun h => h hug.2)]; exact b1
        · rw [hv.cell (p := ⟨g, 2, none⟩) hug.1 (fun h => h hug.2)]; exact b2
      have HW := Vx.hid HR.out.1.on
      obtain ⟨sp, hsp⟩ : ∃ p : ByteArray, p = ⟨((fourB b).take k).toArray⟩ := ⟨_, rfl⟩
      rw [← hsp] at HS HWR
      have HPP := Vx.hid (⟨HPL, HPI⟩ : _ ∧ _)
      have HWR2 : Hid (∀ wv a, Only (fun _ => False) wr wv → a + ((fourB b).take k).length ≤ 4096 * n → Calls Tryd.prog 6 #[.pointer (some ⟨bm, 0, none⟩), .int .i64 (a : Nat), .string sp] wv fun e w' => e = .returned (.int .i64 0) ∧ Hid (MemAt U w' bm n (putF f a ((fourB b).take k)) ∧ Only (fun k => ¬ U2 k) wr w')) := fun wv a hv hin => by rw [hU2]; exact HWR.out wr wv a HW.out hv hin
      have HUW : Hid (∀ wv, Only (fun k => ¬ U2 k) wr wv → Only (fun k => ¬ U k) w wv) := fun wv hv => by rw [hU2] at hv; exact only_more HW.out hv
      have HFQ : Hid (∀ wv, Only (fun _ => False) wr wv → Only (fun k => ¬ U2 k) wr wv) := fun wv hv => hv.mono (fun _ _ h => h.elim)
      clear HCV HBY HCB HTL HSB HBK HR HFO hgb hsp hb h4 HPL HPI HSR HWR hub hug hU2 HGW
      cases hpf : placeF f n root va k 2 with
      | error ct =>
        obtain ⟨c, t⟩ := ct
        have HPT : Hid (∀ wv, Only (fun _ => False) wr wv → Calls Tryd.prog 44 #[.agg #[.pointer (some ⟨bm, 0, none⟩), .int .i64 root, .pointer (some ⟨cb, off, none⟩)], .int .u32 (va : Int), .int .u32 (k : Int), .int .i64 2] wv fun e w' => e = .panicked (trapP c t) ∧ Hid (Only (fun _ => False) w w')) := fun wv hv => by
          refine (HPP.out.1.out wv (HW.out.trans hv)).mono ?_
          rintro e w' ⟨⟨c', t', h1, rfl⟩ | ⟨a, h1, _⟩, ho⟩
          · rw [hpf] at h1
            injection h1 with h1
            injection h1 with h1 h2
            subst h1 h2
            exact ⟨rfl, (HW.out.trans hv).trans ho.out⟩
          · rw [hpf] at h1; cases h1
        obtain ⟨⟨g0, g1, g2⟩, g3⟩ := HS.out wr.drew (HFQ.out _ (Only.refl _ wr).drew)
        have HD : Hid (Only (fun _ => False) wr wr.drew) := (Only.refl _ wr).drew
        have HPF := Vx.hid hpf
        clear HPP HS HWR2 HW hpf HUW HFQ
        go_region_dies
        all_goals
          refine (HPT.out _ HD.out).mono ?_
          rintro e w5 ⟨rfl, hb5⟩
          exact ⟨rfl, Or.inl ⟨c, t, HPF.out, rfl, hb5.out⟩⟩
      | ok a =>
        have HPT : Hid (∀ wv, Only (fun _ => False) wr wv → Calls Tryd.prog 44 #[.agg #[.pointer (some ⟨bm, 0, none⟩), .int .i64 root, .pointer (some ⟨cb, off, none⟩)], .int .u32 (va : Int), .int .u32 (k : Int), .int .i64 2] wv fun e w' => e = .returned (.int .i64 (a : Nat)) ∧ Hid (Only (fun _ => False) wr w')) := fun wv hv => by
          refine (HPP.out.1.out wv (HW.out.trans hv)).mono ?_
          rintro e w' ⟨⟨c', t', h1, _⟩ | ⟨a', h1, rfl⟩, ho⟩
          · rw [hpf] at h1; cases h1
          · rw [hpf] at h1
            injection h1 with h1
            subst h1
            exact ⟨rfl, hv.trans ho.out⟩
        have HWT : Hid (∀ wv, Only (fun _ => False) wr wv → Calls Tryd.prog 6 #[.pointer (some ⟨bm, 0, none⟩), .int .i64 (a : Nat), .string sp] wv fun e w' => e = .returned (.int .i64 0) ∧ Hid (MemAt U w' bm n (putF f a ((fourB b).take k)) ∧ Only (fun k => ¬ U2 k) wr w')) := fun wv hv => HWR2.out wv a hv (HPP.out.2.out a hpf)
        have HK : Hid (Only (fun _ => False) wr wr.drew) := (Only.refl _ wr).drew
        have HPF := Vx.hid hpf
        clear HPP HWR2 HW hpf
        go_region_held3 (fun wv => Hid (Only (fun k => ¬ U2 k) wr wv) ∧ (wv.cell? ⟨g, 0, none⟩ = some (.pointer (some ⟨bm, 0, none⟩)) ∧ wv.cell? ⟨g, 1, none⟩ = some (.int .i64 root) ∧ wv.cell? ⟨g, 2, none⟩ = some (.pointer (some ⟨cb, off, none⟩))) ∧ (convert 57 9 (.slice (some ⟨gb, 0, none⟩) k k)).run Tryd.prog wv = .ok (.string sp) wv) (first | exact ⟨HFQ.out _ HK.out, HS.out _ (HFQ.out _ HK.out)⟩ | exact ⟨h6.out.2, HS.out _ h6.out.2⟩ | exact ⟨HFQ.out _ h5.out, HS.out _ (HFQ.out _ h5.out)⟩) (first | (go_at_call 44; refine (HPT.out _ HK.out).mono ?_; rintro e w5 ⟨rfl, h5⟩) | (go_at_call 6; refine (HWT.out _ h5.out).mono ?_; rintro e w6 ⟨rfl, h6⟩))
        have HFI : Hid (StoP U w bm n f ((fourB b).take k) (placeF f n root va k 2) (.returned (.tuple #[])) w6) := Or.inr ⟨a, HPF.out, rfl, h6.out.1, HUW.out _ h6.out.2⟩
        clear h6 h5 HK HWT HPT HS HUW HFQ
        go_wp2_with fail
        first | go_end0 | refine bodyPost_ret (results_none rfl _ _ _) rfl ?_
        exact HFI.out
end Go.Proofs.YtflmobffeeocdaaDoor

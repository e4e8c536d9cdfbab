import Derived.Test.YtflmobffeeocdaaGreatDoorCh19
import Derived.Test.YtflmobffeeocdaaGreatDoorCh20
/- Walks of package hart: load, where the walk ends well. -/
namespace Go.Vx
theorem part_step (f : Nat → UInt8) (p k : Nat) (hk : k < 4) : bits .or .u32 (partF f p k : Nat) (((f (p + k)).toNat : Int) * 2 ^ (8 * k) % 4294967296) = (partF f p (k + 1) : Nat) := by
  have h0 := (f p).toNat_lt
  have h1 := (f (p + 1)).toNat_lt
  have h2 := (f (p + 2)).toNat_lt
  have h3 := (f (p + 3)).toNat_lt
  have hc : k = 0 ∨ k = 1 ∨ k = 2 ∨ k = 3 := by omega
  rcases hc with rfl | rfl | rfl | rfl
  · rw [u32_join_low 0 1 _ _ rfl (by decide) (by simp only [partF]; omega)]
    simp only [partF]; simp; omega
  · rw [u32_join_low 8 256 _ _ rfl (by decide) (by simp only [partF]; omega)]
    simp only [partF]; simp; omega
  · rw [u32_join_low 16 65536 _ _ rfl (by decide) (by simp only [partF]; omega)]
    simp only [partF]; simp; omega
  · rw [u32_join_low 24 16777216 _ _ rfl (by decide) (by simp only [partF]; omega)]
    simp only [partF, wordF]; simp; omega
/-- Bytes out of a string: the new row. -/
theorem bytes_row {P : Program} (w : World) (src dst e : TypeId) (hs : P.underlying src = some .string) (hd : P.underlying dst = some (.slice e)) (he : P.underlying e = some (.int .u8)) (l : List UInt8) :
    ∃ cap w', (convert src dst (.string ⟨l.toArray⟩)).run P w = .ok (.slice (some ⟨w.heap.size, 0, none⟩) l.length cap) w' ∧ Only (fun _ => False) w w' ∧ ∀ (j : Nat) (h : j < l.length), w'.cell? ⟨w.heap.size, j, none⟩ = some (byteV l[j]) := by
  have h := run_bytes_of_string w src dst e ⟨l.toArray⟩ hs hd he
  have hl : (⟨l.toArray⟩ : ByteArray).size = l.length := by simp [ByteArray.size]
  rw [hl] at h
  refine ⟨_, _, h, ((Only.refl _ w).drew).alloc _, fun j hj => ?_⟩
  have hb : (w.drew.alloc (.cells (bytesRow ⟨l.toArray⟩ (grownCap w l.length 0 e)) e ((bytesRow ⟨l.toArray⟩ (grownCap w l.length 0 e)).size, (bytesRow ⟨l.toArray⟩ (grownCap w l.length 0 e)).size + 1))).heap[w.heap.size]? = some (.cells (bytesRow ⟨l.toArray⟩ (grownCap w l.length 0 e)) e ((bytesRow ⟨l.toArray⟩ (grownCap w l.length 0 e)).size, (bytesRow ⟨l.toArray⟩ (grownCap w l.length 0 e)).size + 1)) := heap_alloc_last w.drew _
  rw [cell_of_row _ _ j _ _ _ hb]
  unfold bytesRow byteV
  rw [Array.getElem?_append_left (by simpa using hj)]
  simp [hj]
end Go.Vx
namespace Go.Proofs.YtflmobffeeocdaaGreatDoor
open Go.ChangeShapes Go.WideShapes Go.ChangeAt Go.RowKit
open Go.Vx

theorem wrap_i8 (n : Int) : IntKind.i8.wrap n = (n + 128) % 256 - 128 := by
  simp [IntKind.wrap, IntKind.bits, IntKind.signed]; split <;> omega
theorem wrap_i16 (n : Int) : IntKind.i16.wrap n = (n + 32768) % 65536 - 32768 := by
  simp [IntKind.wrap, IntKind.bits, IntKind.signed]; split <;> omega
theorem ld_11 (v : Nat) (h : v < 256) : IntKind.u32.wrap (IntKind.i8.wrap (v : Int)) = (ldF 11 v : Nat) := by
  rw [IntKind.wrap_u32, wrap_i8]; unfold ldF
  by_cases h1 : 128 ≤ v
  · rw [if_pos ⟨rfl, h1⟩]; omega
  · rw [if_neg (by omega), if_neg (by omega)]; omega
theorem ld_12 (v : Nat) (h : v < 65536) : IntKind.u32.wrap (IntKind.i16.wrap (v : Int)) = (ldF 12 v : Nat) := by
  rw [IntKind.wrap_u32, wrap_i16]; unfold ldF
  rw [if_neg (by omega)]
  by_cases h1 : 32768 ≤ v
  · rw [if_pos ⟨rfl, h1⟩]; omega
  · rw [if_neg (by omega)]; omega
set_option maxRecDepth 100000 in
set_option maxHeartbeats 4000000 in
theorem load_good {U : Nat → Prop} {w : World} {bm n cb off : Nat} {f : Nat → UInt8} (h : MemAt U w bm n f) (hus : UsesAt w) (hmi : MisAt w) (root : Int) (op : Nat) (ho : 11 ≤ op) (ho2 : op ≤ 15) (va : Nat) (hva : va < 4294967296) (a : Nat) (hp : placeF f n root va (bytesF op) 1 = .ok a) :
    Calls Tryz.prog 93 #[.agg #[.pointer (some ⟨bm, 0, none⟩), .int .i64 root, .pointer (some ⟨cb, off, none⟩)], .int .i64 (op : Int), .int .u32 (va : Int)] w fun e w' => e = .returned (.int .u32 (ldF op (partF f a (bytesF op)) : Nat)) ∧ Only (fun _ => False) w w' := by
  have HLN := Vx.hid (fun wv => length_any op ho (by omega) wv)
  have hb := bytes_cases op
  have hin := place_in hb hp
  have HPL : Hid (∀ wv, Only (fun _ => False) w wv → Calls Tryz.prog 101 #[.agg #[.pointer (some ⟨bm, 0, none⟩), .int .i64 root, .pointer (some ⟨cb, off, none⟩)], .int .u32 (va : Int), .int .u32 (bytesF op : Nat), .int .i64 1] wv fun e w' => e = .returned (.int .i64 (a : Nat)) ∧ Hid (Only (fun _ => False) wv w')) := fun wv hv => by
    refine (hplace_any (h.only hv (fun _ h _ => h.elim)) (hus.only hv (fun h => h)) (hmi.only hv (fun h => h)) root ⟨cb, off, none⟩ va hva (bytesF op) (by omega) (by omega) 1 (by decide)).mono ?_
    rintro e w' ⟨⟨c', t', h1, _⟩ | ⟨a', h1, rfl⟩, ho⟩
    · rw [hp] at h1; cases h1
    · rw [hp] at h1
      injection h1 with h1
      subst h1
      exact ⟨rfl, ho⟩
  have HRD : Hid (∀ wv, Only (fun _ => False) w wv → Calls Tryz.prog 25 #[.pointer (some ⟨bm, 0, none⟩), .int .i64 (a : Nat), .int .i64 (bytesF op : Nat)] wv fun e w' => e = .returned (.tuple #[.string ⟨(rowL f a (bytesF op)).toArray⟩, .int .i64 0]) ∧ Hid (Only (fun _ => False) wv w')) := fun wv hv => read_ok (h.only hv (fun _ h _ => h.elim)) a (bytesF op) (by omega)
  have hw8 : IntKind.i64.wrap ((bytesF op : Nat) : Int) = ((bytesF op : Nat) : Int) := by rw [IntKind.wrap_i64]; omega
  have HBY := Vx.hid (fun wv => bytes_row (P := Tryz.prog) wv 9 66 5 Tryz.underlying9 Tryz.underlying66 Tryz.underlying5 (rowL f a (bytesF op)))
  have HRL : Hid ((rowL f a (bytesF op)).length = bytesF op ∧ ∀ j (h : j < (rowL f a (bytesF op)).length), (rowL f a (bytesF op))[j] = f (a + j)) := ⟨length_rowL _ _ _, fun j h => by
    have h1 := get_rowL f a (bytesF op) j (by rw [length_rowL] at h; exact h)
    rw [List.getElem?_eq_getElem h] at h1
    exact Option.some.inj h1⟩
  have HP8 : Hid (bytesF op = 1 → partF f a 1 < 256) := fun _ => (f a).toNat_lt
  have HP16 : Hid (bytesF op = 2 → partF f a 2 < 65536) := fun _ => by
    have h0 := (f a).toNat_lt
    have h1 := (f (a + 1)).toNat_lt
    show (f a).toNat + 256 * (f (a + 1)).toNat < 65536
    omega
  have hc : op = 11 ∨ op = 12 ∨ op = 13 ∨ op = 14 ∨ op = 15 := by omega
  have HBF : Hid (bytesF 11 = 1 ∧ bytesF 12 = 2) := ⟨rfl, rfl⟩
  have HLF : Hid (∀ v, ldF 13 v = v ∧ ldF 14 v = v ∧ ldF 15 v = v) := fun v => ⟨rfl, rfl, rfl⟩
  obtain ⟨len, hlen⟩ : ∃ len, bytesF op = len := ⟨_, rfl⟩
  have HLEN := Vx.hid hlen
  rw [hlen] at hb HLN HPL HRD hw8 HBY HRL HP8 HP16 ⊢
  generalize rowL f a len = l at HRD HBY HRL
  obtain ⟨sz, hsz⟩ : ∃ p : ByteArray, p = ⟨l.toArray⟩ := ⟨_, rfl⟩
  rw [← hsz] at HRD HBY
  clear h hus hmi hva hp hin ho ho2 hlen hsz
  go_enter Tryz.func93, Tryz.ntmps93
  go_wp2_with fail
  refine (HLN.out _).mono ?_
  rintro e w' ⟨rfl, h⟩
  have h2 := h.symm; clear h; subst h2
  go_wp2_with fail
  obtain ⟨W1, hW1⟩ : ∃ W1, W1 = w.alloc (.cells #[.pointer (some ⟨bm, 0, none⟩), .int .i64 root, .pointer (some ⟨cb, off, none⟩)] 125) := ⟨_, rfl⟩
  have HO1 : Hid (Only (fun _ => False) w W1) := by rw [hW1]; exact (Only.refl _ w).alloc _
  have hbk : W1.heap[w.heap.size]? = some (.cells #[.pointer (some ⟨bm, 0, none⟩), .int .i64 root, .pointer (some ⟨cb, off, none⟩)] 125 (0, 0)) := by
    rw [hW1]; exact heap_alloc_last w _
  have g0 : W1.cell? ⟨w.heap.size, 0, none⟩ = some (.pointer (some ⟨bm, 0, none⟩)) := by rw [cell_of_row _ _ 0 _ _ (0, 0) hbk]; rfl
  have g1 : W1.cell? ⟨w.heap.size, 1, none⟩ = some (.int .i64 root) := by rw [cell_of_row _ _ 1 _ _ (0, 0) hbk]; rfl
  have g2 : W1.cell? ⟨w.heap.size, 2, none⟩ = some (.pointer (some ⟨cb, off, none⟩)) := by rw [cell_of_row _ _ 2 _ _ (0, 0) hbk]; rfl
  have hgl : w.heap.size < W1.heap.size := lt_of_some hbk
  rw [← hW1]
  clear hW1 hbk
  generalize w.heap.size = g at g0 g1 g2 hgl ⊢
  have HS : Hid (∀ wv, Only (fun _ => False) W1 wv → wv.cell? ⟨g, 0, none⟩ = some (.pointer (some ⟨bm, 0, none⟩)) ∧ wv.cell? ⟨g, 1, none⟩ = some (.int .i64 root) ∧ wv.cell? ⟨g, 2, none⟩ = some (.pointer (some ⟨cb, off, none⟩))) := fun wv hv =>
    ⟨by rw [hv.cell (p := ⟨g, 0, none⟩) hgl (fun h => h)]; exact g0, by rw [hv.cell (p := ⟨g, 1, none⟩) hgl (fun h => h)]; exact g1, by rw [hv.cell (p := ⟨g, 2, none⟩) hgl (fun h => h)]; exact g2⟩
  have HK : Hid (Hid (Only (fun _ => False) W1 W1.drew)) := (Only.refl (fun _ => False) W1).drew
  go_region_held3 (fun wv => Hid (Only (fun _ => False) W1 wv) ∧ wv.cell? ⟨g, 0, none⟩ = some (.pointer (some ⟨bm, 0, none⟩)) ∧ wv.cell? ⟨g, 1, none⟩ = some (.int .i64 root) ∧ wv.cell? ⟨g, 2, none⟩ = some (.pointer (some ⟨cb, off, none⟩))) (first | exact ⟨HK.out, HS.out _ HK.out⟩ | exact ⟨h7, HS.out _ h7⟩ | exact ⟨h6, HS.out _ h6⟩) (first | (go_at_call 101; refine (HPL.out _ (HO1.out.trans HK.out)).mono ?_; rintro e w5 ⟨rfl, h5⟩; have h6 := Vx.hid (HK.out.trans h5)) | (go_at_call 25; refine (HRD.out _ (HO1.out.trans h6)).mono ?_; rintro e w6 ⟨rfl, h5⟩; have h7 := Vx.hid (h6.out.trans h5)))
  have H9 := Vx.hid (HO1.out.trans h7)
  obtain ⟨cap, wy, hcv, hoy, hcy⟩ := HBY.out w6
  have HO9 := Vx.hid (H9.out.trans hoy)
  obtain ⟨hll, hlj⟩ := HRL.out
  have hcy2 : ∀ j, j < len → wy.cell? ⟨w6.heap.size, j, none⟩ = some (.int .u8 ((f (a + j)).toNat : Int)) := fun j hj => by
    have h1 := hcy j (by omega)
    rw [hlj j (by omega)] at h1
    exact h1
  rw [hll] at hcv
  have HCY := Vx.hid hcy2
  have HST := Vx.hid (fun k (hk : k < 4) => part_step f a k hk)
  clear hcy hcy2 hoy h7 h6 h5 HS HK g0 g1 g2 hgl HBY HRD HPL HLN HO1 H9 hlj hll HRL
  generalize w6.heap.size = gb at hcv HCY
  go_wp2_with fail
  go_loop [10, 30] (fun t i => ∃ k : Nat, k ≤ len ∧ i = .int .i64 (k : Int) ∧ t = .int .u32 (partF f a k : Nat)) (fun _ i => len - (intOf i).toNat)
  case atStart => exact ⟨0, Nat.zero_le _, rfl, rfl⟩
  case round =>
    obtain ⟨k, hk, rfl, rfl⟩ := hrel
    by_cases hlt : k < len
    · have hck := HCY.out k hlt
      have hst := HST.out k (by omega)
      have hbk := (f (a + k)).toNat_lt
      generalize (f (a + k)).toNat = x at hck hst hbk
      have hi : 0 ≤ (k : Int) ∧ (k : Int) < (len : Int) := by omega
      have hl2 : (k : Int) < (len : Int) := by omega
      have hk4 : k = 0 ∨ k = 1 ∨ k = 2 ∨ k = 3 := by omega
      clear hk
      rcases hk4 with rfl | rfl | rfl | rfl
      · simp at hst
        go_wp2_with fail
        all_goals
          go_round
          case rel => exact ⟨1, by omega, by go_num, by rw [← hst]; first | rfl | rw [Int.emod_eq_of_lt (by omega) (by omega)]⟩
          case measure => simp [intOf]; omega
      · simp at hst
        go_wp2_with fail
        all_goals
          go_round
          case rel => exact ⟨2, by omega, by go_num, by rw [← hst]; first | rfl | rw [Int.emod_eq_of_lt (by omega) (by omega)]⟩
          case measure => simp [intOf]; omega
      · simp at hst
        go_wp2_with fail
        all_goals
          go_round
          case rel => exact ⟨3, by omega, by go_num, by rw [← hst]; first | rfl | rw [Int.emod_eq_of_lt (by omega) (by omega)]⟩
          case measure => simp [intOf]; omega
      · simp at hst
        go_wp2_with fail
        all_goals
          go_round
          case rel => exact ⟨4, by omega, by go_num, by rw [← hst]; first | rfl | rw [Int.emod_eq_of_lt (by omega) (by omega)]⟩
          case measure => simp [intOf]; omega
    · have hkl : k = len := by omega
      subst hkl
      have hl2 : ¬ (k : Int) < (k : Int) := by omega
      have hp8 := HP8.out
      have hp16 := HP16.out
      obtain ⟨hb1, hb2⟩ := HBF.out
      have hle := HLEN.out
      rcases hc with rfl | rfl | rfl | rfl | rfl
      · have e1 : k = 1 := by rw [← hle]; exact hb1
        subst e1
        have HV := Vx.hid (ld_11 _ (hp8 rfl))
        clear hp8 hp16 hb1 hb2 hle hlt hk
        go_wp2_with fail
        all_goals
          go_ret
          rw [← HV.out]
          exact ⟨rfl, HO9.out⟩
      · have e1 : k = 2 := by rw [← hle]; exact hb2
        subst e1
        have HV := Vx.hid (ld_12 _ (hp16 rfl))
        clear hp8 hp16 hb1 hb2 hle hlt hk
        go_wp2_with fail
        all_goals
          go_ret
          rw [← HV.out]
          exact ⟨rfl, HO9.out⟩
      all_goals
        clear hp8 hp16 hb1 hb2 hle hlt hk
        go_wp2_with fail
        all_goals
          go_ret
          first | rw [(HLF.out _).1] | rw [(HLF.out _).2.1] | rw [(HLF.out _).2.2]
          exact ⟨rfl, HO9.out⟩
end Go.Proofs.YtflmobffeeocdaaGreatDoor

/- Walks of package hart: store. -/
namespace Go.Vx
/-- The bytes that are laid till now. -/
def stL (b len k : Nat) : List Value := ((fourB b).take k ++ List.replicate (len - k) 0).map byteV
theorem stL_length (b len k : Nat) (hk : k ≤ len) (h4 : len ≤ 4) : (stL b len k).length = len := by
  unfold stL
  rw [List.length_map, List.length_append, List.length_take, List.length_replicate, show (fourB b).length = 4 from rfl]
  omega
theorem stL_set (b len k : Nat) (hk : k < len) (h4 : len ≤ 4) : (stL b len k).set k (byteV ((fourB b).getD k 0)) = stL b len (k + 1) := by
  have hc : k = 0 ∨ k = 1 ∨ k = 2 ∨ k = 3 := by omega
  have hl : len = 1 ∨ len = 2 ∨ len = 3 ∨ len = 4 := by omega
  rcases hc with rfl | rfl | rfl | rfl <;> rcases hl with rfl | rfl | rfl | rfl <;> first | omega | rfl
theorem stL_zero (b len : Nat) : stL b len 0 = rowV (fun _ => 0) 0 len := by
  apply List.ext_getElem?
  intro j
  by_cases hj : j < len
  · rw [get_rowV _ _ _ _ hj]
    unfold stL
    simp [hj]
  · rw [List.getElem?_eq_none (l := rowV (fun _ => 0) 0 len) (by rw [length_rowV]; omega)]
    unfold stL
    simp
    omega
theorem stL_end (b len : Nat) : stL b len len = ((fourB b).take len).map byteV := by
  unfold stL
  simp
/-- A row of bytes under way. -/
structure StR (w : World) (gb b len k : Nat) (wr : World) : Prop where
  row : ∃ T, wr.heap[gb]? = some (.cells (stL b len k).toArray T (0, 0))
  new : w.heap.size ≤ gb
  on : Only (fun _ => False) w wr
theorem StR.cell {w wr : World} {gb b len k : Nat} (h : StR w gb b len k wr) (hk : k < len) (h4 : len ≤ 4) : (∃ v, wr.cell? ⟨gb, k, none⟩ = some v) ∧ wr.frozen? ⟨gb, k, none⟩ = false := by
  obtain ⟨T, h1⟩ := h.row
  refine ⟨⟨(stL b len k)[k]'(by rw [stL_length b len k (by omega) h4]; exact hk), ?_⟩, by simp [World.frozen?, h1]⟩
  rw [cell_of_row _ _ k _ _ (0, 0) h1]
  simp [stL_length b len k (by omega) h4, hk]
theorem StR.set {w wr : World} {gb b len k : Nat} (h : StR w gb b len k wr) (hk : k < len) (h4 : len ≤ 4) (X : Int) (hX : X = (((fourB b).getD k 0).toNat : Int)) : StR w gb b len (k + 1) (wr.setCell ⟨gb, k, none⟩ (.int .u8 X)) := by
  obtain ⟨T, h1⟩ := h.row
  refine ⟨⟨T, ?_⟩, h.new, h.on.setCell (p := ⟨gb, k, none⟩) (Or.inr h.new) _⟩
  rw [heap_setCell_same _ _ _ _ _ _ h1, ← stL_set b len k hk h4, hX]
  simp [byteV]
theorem StR.bytes {w wr : World} {gb b len : Nat} (h : StR w gb b len len wr) : ∀ (j : Nat) (hj : j < ((fourB b).take len).length), wr.cell? ⟨gb, j, none⟩ = some (.int .u8 ((((fourB b).take len)[j]).toNat : Int)) := by
  intro j hj
  obtain ⟨T, h1⟩ := h.row
  rw [cell_of_row _ _ j _ _ (0, 0) h1, stL_end]
  simp only [List.getElem?_toArray, List.getElem?_map, List.getElem?_eq_getElem hj]
  rfl
theorem four_at (b k : Nat) (hk : k < 4) : (((fourB b).getD k 0).toNat : Int) = (b : Int) / 2 ^ (8 * k) % 256 := by
  have hc : k = 0 ∨ k = 1 ∨ k = 2 ∨ k = 3 := by omega
  rcases hc with rfl | rfl | rfl | rfl
  · show ((UInt8.ofNat (b % 256)).toNat : Int) = _
    rw [byte_of]; simp
  · show ((UInt8.ofNat (b / 256 % 256)).toNat : Int) = _
    rw [byte_of]; simp
  · show ((UInt8.ofNat (b / 65536 % 256)).toNat : Int) = _
    rw [byte_of]; simp
  · show ((UInt8.ofNat (b / 16777216 % 256)).toNat : Int) = _
    rw [byte_of]; simp
end Go.Vx
namespace Go.Proofs.YtflmobffeeocdaaGreatDoor
open Go.ChangeShapes Go.WideShapes Go.ChangeAt Go.RowKit
open Go.Vx

theorem make_u32 (n : Nat) (h : n ≤ 1048576) (w : World) : (Instr.makeSlice 66 (.int .u32 (n : Int)) (.int .u32 (n : Int))).run Tryz.prog w = .ok (.slice (some ⟨w.heap.size, 0, none⟩) n n) (w.alloc (.cells (rowV (fun _ => 0) 0 n).toArray 5)) := by
  have hi := infoByte
  cases hq : Tryz.prog.info? 5 with
  | none => rw [hq] at hi; simp at hi
  | some i =>
    rw [hq] at hi
    simp only [Option.map_some, Option.some.injEq, Prod.mk.injEq] at hi
    have := run_make (P := Tryz.prog) w 66 5 i (.int .u8 0) Tryz.underlying66 hq hi.1 .u32 .u32 n n (by omega) (by omega) (by rw [hi.2.2]; omega) (by omega)
    rw [this, hi.2.1, Nat.mul_one]
    simp only [Int.toNat_natCast, Value.cells]
    rw [made_bytes]
theorem conv_back (wv : World) (g c : Nat) (l : List UInt8) (hc : ∀ (j : Nat) (hj : j < l.length), wv.cell? ⟨g, j, none⟩ = some (.int .u8 ((l[j]).toNat : Int))) : (convert 66 9 (.slice (some ⟨g, 0, none⟩) l.length c)).run Tryz.prog wv = .ok (.string ⟨l.toArray⟩) wv :=
  run_convert_bytes_back (P := Tryz.prog) wv 66 9 5 ⟨g, 0, none⟩ c l Tryz.underlying66 Tryz.underlying5 Tryz.underlying9 (fun j hj => by rw [addr_add, Nat.zero_add]; exact hc j hj)
/-- What is new may stand beside a memory. -/
theorem MemAt.more {U : Nat → Prop} {w wv : World} {bm n : Nat} {f : Nat → UInt8} (h : MemAt U w bm n f) (ho : Only (fun _ => False) w wv) : MemAt (fun k => U k ∨ (w.heap.size ≤ k ∧ k < wv.heap.size)) wv bm n f := by
  obtain ⟨bp, q, h1⟩ := h
  have h2 := h1.only ho (fun _ h _ => h.elim)
  refine ⟨bp, q, h2.pos, h2.top, h2.m, h2.p, h2.nil, h2.pg, h2.inj, ?_, ?_, ?_, ?_⟩
  · rintro (hu | hu)
    · exact h2.um hu
    · have := lt_of_some h1.m; omega
  · rintro (hu | hu)
    · exact h2.up hu
    · have := lt_of_some h1.p; omega
  · rintro i b hi hq (hu | hu)
    · exact h2.ug i b hi hq hu
    · have := lt_of_some (h1.pg i hi b hq); omega
  · rintro k (hu | hu)
    · exact h2.low k hu
    · exact hu.2
theorem only_more {U : Nat → Prop} {w wr wv : World} (ho : Only (fun _ => False) w wr) (hv : Only (fun k => ¬ (U k ∨ (w.heap.size ≤ k ∧ k < wr.heap.size))) wr wv) : Only (fun k => ¬ U k) w wv :=
  (ho.mono (fun _ _ h => h.elim)).trans (hv.mono (fun _ _ hk hu => hk (Or.inl hu)))
/-- What store makes of the place. -/
def StoP (U : Nat → Prop) (w : World) (bm n : Nat) (f : Nat → UInt8) (s : List UInt8) (r : Except (Int × Nat) Nat) (e : Ending) (w' : World) : Prop :=
  (∃ c t, r = .error (c, t) ∧ e = .panicked (trapP c t) ∧ Only (fun _ => False) w w') ∨ ∃ a, r = .ok a ∧ e = .returned (.tuple #[]) ∧ MemAt U w' bm n (putF f a s) ∧ Only (fun k => ¬ U k) w w'
set_option maxRecDepth 100000 in
set_option maxHeartbeats 4000000 in
theorem store_any {U : Nat → Prop} {w : World} {bm n cb off : Nat} {f : Nat → UInt8} (h : MemAt U w bm n f) (hus : UsesAt w) (hmi : MisAt w) (root : Int) (op : Nat) (ho : 16 ≤ op) (ho2 : op ≤ 18) (va : Nat) (hva : va < 4294967296) (b : Nat) :
    Calls Tryz.prog 94 #[.agg #[.pointer (some ⟨bm, 0, none⟩), .int .i64 root, .pointer (some ⟨cb, off, none⟩)], .int .i64 (op : Int), .int .u32 (va : Int), .int .u32 (b : Int)] w fun e w' => StoP U w bm n f ((fourB b).take (bytesF op)) (placeF f n root va (bytesF op) 2) e w' := by
  have HLN := Vx.hid (fun wv => length_any op (by omega) ho2 wv)
  have hb := bytes_cases op
  have HPI : Hid (∀ a, placeF f n root va (bytesF op) 2 = .ok a → a + ((fourB b).take (bytesF op)).length ≤ 4096 * n) := fun a hp => by
    have := (place_in hb hp).2
    rw [List.length_take, show (fourB b).length = 4 from rfl]
    omega
  have HPL : Hid (∀ wv, Only (fun _ => False) w wv → Calls Tryz.prog 101 #[.agg #[.pointer (some ⟨bm, 0, none⟩), .int .i64 root, .pointer (some ⟨cb, off, none⟩)], .int .u32 (va : Int), .int .u32 (bytesF op : Nat), .int .i64 2] wv fun e w' => ((∃ c t, placeF f n root va (bytesF op) 2 = .error (c, t) ∧ e = .panicked (trapP c t)) ∨ ∃ a, placeF f n root va (bytesF op) 2 = .ok a ∧ e = .returned (.int .i64 (a : Nat))) ∧ Hid (Only (fun _ => False) wv w')) := fun wv hv =>
    hplace_any (h.only hv (fun _ h _ => h.elim)) (hus.only hv (fun h => h)) (hmi.only hv (fun h => h)) root ⟨cb, off, none⟩ va hva (bytesF op) (by omega) (by omega) 2 (by decide)
  have HWR : Hid (∀ wr wv a, Only (fun _ => False) w wr → Only (fun _ => False) wr wv → a + ((fourB b).take (bytesF op)).length ≤ 4096 * n → Calls Tryz.prog 28 #[.pointer (some ⟨bm, 0, none⟩), .int .i64 (a : Nat), .string ⟨((fourB b).take (bytesF op)).toArray⟩] wv fun e w' => e = .returned (.int .i64 0) ∧ Hid (MemAt U w' bm n (putF f a ((fourB b).take (bytesF op))) ∧ Only (fun k => ¬ (U k ∨ (w.heap.size ≤ k ∧ k < wr.heap.size))) wr w')) := fun wr wv a hr hv hin => by
    obtain ⟨bp, q, hm⟩ := (h.more hr).only hv (fun _ h _ => h.elim)
    refine (write_ok hm a _ hin).mono ?_
    rintro e w' ⟨rfl, h1, h2⟩
    refine ⟨rfl, ?_, (hv.mono (fun _ _ h => h.elim)).trans h2⟩
    obtain ⟨bp', q', h3⟩ := h1
    exact ⟨bp', q', h3.pos, h3.top, h3.m, h3.p, h3.nil, h3.pg, h3.inj, fun hu => h3.um (Or.inl hu), fun hu => h3.up (Or.inl hu), fun i b hi hq hu => h3.ug i b hi hq (Or.inl hu), fun k hu => h3.low k (Or.inl hu)⟩
  have HMK := Vx.hid (fun wv => make_u32 (bytesF op) (by omega) wv)
  have HZ := Vx.hid (stL_zero b (bytesF op))
  have HFO := Vx.hid (fun k (hk : k < 4) => four_at b k hk)
  have HCB := Vx.hid (fun wv g c hc => conv_back wv g c ((fourB b).take (bytesF op)) hc)
  have HTL : Hid (((fourB b).take (bytesF op)).length = bytesF op) := by
    show _ = _
    rw [List.length_take, show (fourB b).length = 4 from rfl]; omega
  generalize bytesF op = len at HLN HPL hb HPI HWR HMK HZ HCB HTL
  have h4 : len ≤ 4 := by omega
  have HSB := Vx.hid (fun (ww wr : World) (gb : Nat) (h : StR ww gb b len len wr) => h.bytes)
  have hmk := HMK.out (w.alloc (.cells #[.pointer (some ⟨bm, 0, none⟩), .int .i64 root, .pointer (some ⟨cb, off, none⟩)] 125))
  clear h hus hmi hva ho ho2 HMK
  go_enter Tryz.func94, Tryz.ntmps94
  go_wp2_with fail
  refine (HLN.out _).mono ?_
  rintro e w' ⟨rfl, h⟩
  have h2 := h.symm; clear h; subst h2
  go_wp2_with fail
  obtain ⟨W2, hW2⟩ : ∃ W2, W2 = ((w.alloc (.cells #[.pointer (some ⟨bm, 0, none⟩), .int .i64 root, .pointer (some ⟨cb, off, none⟩)] 125)).alloc (.cells (rowV (fun _ => 0) 0 len).toArray 5)) := ⟨_, rfl⟩
  have HO2 : Hid (Only (fun _ => False) w W2) := by rw [hW2]; exact ((Only.refl _ w).alloc _).alloc _
  have hbk : W2.heap[w.heap.size]? = some (.cells #[.pointer (some ⟨bm, 0, none⟩), .int .i64 root, .pointer (some ⟨cb, off, none⟩)] 125 (0, 0)) := by
    rw [hW2, RowKit.Below.heap_alloc _ _ _ (by simp)]; exact heap_alloc_last w _
  have hrow : W2.heap[w.heap.size + 1]? = some (.cells (stL b len 0).toArray 5 (0, 0)) := by
    rw [hW2, HZ.out]
    have := heap_alloc_last (w.alloc (.cells #[.pointer (some ⟨bm, 0, none⟩), .int .i64 root, .pointer (some ⟨cb, off, none⟩)] 125)) (.cells (rowV (fun _ => 0) 0 len).toArray 5)
    simpa using this
  have HSR : Hid (StR w (w.heap.size + 1) b len 0 W2) := ⟨⟨_, hrow⟩, by omega, HO2.out⟩
  have HBK : Hid (∀ wv, Only (fun k => k = w.heap.size + 1) W2 wv → wv.cell? ⟨w.heap.size, 0, none⟩ = some (.pointer (some ⟨bm, 0, none⟩)) ∧ wv.cell? ⟨w.heap.size, 1, none⟩ = some (.int .i64 root) ∧ wv.cell? ⟨w.heap.size, 2, none⟩ = some (.pointer (some ⟨cb, off, none⟩))) := fun wv hv => by
    have h5 : wv.heap[w.heap.size]? = some (.cells #[.pointer (some ⟨bm, 0, none⟩), .int .i64 root, .pointer (some ⟨cb, off, none⟩)] 125 (0, 0)) := by
      rw [hv.block _ (lt_of_some hbk) (by omega)]; exact hbk
    exact ⟨by rw [cell_of_row _ _ 0 _ _ (0, 0) h5]; rfl, by rw [cell_of_row _ _ 1 _ _ (0, 0) h5]; rfl, by rw [cell_of_row _ _ 2 _ _ (0, 0) h5]; rfl⟩
  rw [← hW2]
  clear hW2 hmk hbk hrow HO2 HZ HLN
  generalize w.heap.size + 1 = gb at HSR HBK ⊢
  obtain ⟨g, hg⟩ : ∃ g, g = w.heap.size := ⟨_, rfl⟩
  have HGW : Hid (w.heap.size ≤ g) := by show _ ≤ _; omega
  rw [← hg] at HBK ⊢
  clear hg
  go_loopw [17] (fun i wr => ∃ k : Nat, k ≤ len ∧ i = .int .i64 (k : Int) ∧ Hid (StR w gb b len k wr ∧ Only (fun k => k = gb) W2 wr)) (fun i _ => len - (intOf i).toNat)
  case atStart => exact ⟨0, Nat.zero_le _, rfl, HSR.out, Only.refl _ _⟩
  case round =>
    obtain ⟨k, hk, rfl, HR⟩ := hrel
    by_cases hlt : k < len
    · obtain ⟨⟨v0, hc0⟩, hf0⟩ := HR.out.1.cell hlt h4
      have hfo := HFO.out k (by omega)
      have HSET := Vx.hid (fun X hX => HR.out.1.set hlt h4 X hX)
      have HON := Vx.hid (fun X => HR.out.2.setCell (p := ⟨gb, k, none⟩) (Or.inl rfl) X)
      have hi : 0 ≤ (k : Int) ∧ (k : Int) < (len : Int) := by omega
      have hl2 : (k : Int) < (len : Int) := by omega
      have hk4 : k = 0 ∨ k = 1 ∨ k = 2 ∨ k = 3 := by omega
      clear hk
      rcases hk4 with rfl | rfl | rfl | rfl
      all_goals
        simp at hfo
        have HFX := Vx.hid hfo
        clear hfo
        go_wp2_with fail
        all_goals
          go_roundw
          case rel => exact ⟨_, hlt, rfl, HSET.out _ HFX.out.symm, HON.out _⟩
          case measure => simp [intOf]; omega
    · have hkl : k = len := by omega
      subst hkl
      have hl2 : ¬ (k : Int) < (k : Int) := by omega
      clear hlt hk
      go_wp2_with fail
      have hgb : gb < wr.heap.size := by obtain ⟨T, h1⟩ := HR.out.1.row; exact lt_of_some h1
      have HBY := Vx.hid (HSB.out _ _ _ HR.out.1)
      obtain ⟨U2, hU2⟩ : ∃ U2 : Nat → Prop, U2 = fun k => U k ∨ (w.heap.size ≤ k ∧ k < wr.heap.size) := ⟨_, rfl⟩
      have hub : U2 gb := by rw [hU2]; exact Or.inr ⟨HR.out.1.new, hgb⟩
      have hug : g < wr.heap.size ∧ U2 g := by
        have h1 := World.block_lt_of_cell? wr _ (HBK.out wr HR.out.2).1
        rw [hU2]; exact ⟨h1, Or.inr ⟨HGW.out, h1⟩⟩
      have HCV : Hid (∀ wv, Only (fun k => ¬ U2 k) wr wv → (convert 66 9 (.slice (some ⟨gb, 0, none⟩) k k)).run Tryz.prog wv = .ok (.string ⟨((fourB b).take k).toArray⟩) wv) := fun wv hv => by
        have h1 := HCB.out wv gb k (fun j hj => by rw [hv.cell (p := ⟨gb, j, none⟩) hgb (fun h => h hub)]; exact HBY.out j hj)
        rw [HTL.out] at h1
        exact h1
      have HS : Hid (∀ wv, Only (fun k => ¬ U2 k) wr wv → (wv.cell? ⟨g, 0, none⟩ = some (.pointer (some ⟨bm, 0, none⟩)) ∧ wv.cell? ⟨g, 1, none⟩ = some (.int .i64 root) ∧ wv.cell? ⟨g, 2, none⟩ = some (.pointer (some ⟨cb, off, none⟩))) ∧ (convert 66 9 (.slice (some ⟨gb, 0, none⟩) k k)).run Tryz.prog wv = .ok (.string ⟨((fourB b).take k).toArray⟩) wv) := fun wv hv => by
        obtain ⟨b0, b1, b2⟩ := HBK.out wr HR.out.2
        refine ⟨⟨?_, ?_, ?_⟩, HCV.out wv hv⟩
        · rw [hv.cell (p := ⟨g, 0, none⟩) hug.1 (fun h => h hug.2)]; exact b0
        · rw [hv.cell (p := ⟨g, 1, none⟩) hug.1 (fun h => h hug.2)]; exact b1
        · rw [hv.cell (p := ⟨g, 2, none⟩) hug.1 (fun h => h hug.2)]; exact b2
      have HW := Vx.hid HR.out.1.on
      obtain ⟨sp, hsp⟩ : ∃ p : ByteArray, p = ⟨((fourB b).take k).toArray⟩ := ⟨_, rfl⟩
      rw [← hsp] at HS HWR
      have HPP := Vx.hid (⟨HPL, HPI⟩ : _ ∧ _)
      have HWR2 : Hid (∀ wv a, Only (fun _ => False) wr wv → a + ((fourB b).take k).length ≤ 4096 * n → Calls Tryz.prog 28 #[.pointer (some ⟨bm, 0, none⟩), .int .i64 (a : Nat), .string sp] wv fun e w' => e = .returned (.int .i64 0) ∧ Hid (MemAt U w' bm n (putF f a ((fourB b).take k)) ∧ Only (fun k => ¬ U2 k) wr w')) := fun wv a hv hin => by rw [hU2]; exact HWR.out wr wv a HW.out hv hin
      have HUW : Hid (∀ wv, Only (fun k => ¬ U2 k) wr wv → Only (fun k => ¬ U k) w wv) := fun wv hv => by rw [hU2] at hv; exact only_more HW.out hv
      have HFQ : Hid (∀ wv, Only (fun _ => False) wr wv → Only (fun k => ¬ U2 k) wr wv) := fun wv hv => hv.mono (fun _ _ h => h.elim)
      clear HCV HBY HCB HTL HSB HBK HR HFO hgb hsp hb h4 HPL HPI HSR HWR hub hug hU2 HGW
      cases hpf : placeF f n root va k 2 with
      | error ct =>
        obtain ⟨c, t⟩ := ct
        have HPT : Hid (∀ wv, Only (fun _ => False) wr wv → Calls Tryz.prog 101 #[.agg #[.pointer (some ⟨bm, 0, none⟩), .int .i64 root, .pointer (some ⟨cb, off, none⟩)], .int .u32 (va : Int), .int .u32 (k : Int), .int .i64 2] wv fun e w' => e = .panicked (trapP c t) ∧ Hid (Only (fun _ => False) w w')) := fun wv hv => by
          refine (HPP.out.1.out wv (HW.out.trans hv)).mono ?_
          rintro e w' ⟨⟨c', t', h1, rfl⟩ | ⟨a, h1, _⟩, ho⟩
          · rw [hpf] at h1
            injection h1 with h1
            injection h1 with h1 h2
            subst h1 h2
            exact ⟨rfl, (HW.out.trans hv).trans ho.out⟩
          · rw [hpf] at h1; cases h1
        obtain ⟨⟨g0, g1, g2⟩, g3⟩ := HS.out wr.drew (HFQ.out _ (Only.refl _ wr).drew)
        have HD : Hid (Only (fun _ => False) wr wr.drew) := (Only.refl _ wr).drew
        have HPF := Vx.hid hpf
        clear HPP HS HWR2 HW hpf HUW HFQ
        go_region_dies
        all_goals
          refine (HPT.out _ HD.out).mono ?_
          rintro e w5 ⟨rfl, hb5⟩
          exact ⟨rfl, Or.inl ⟨c, t, HPF.out, rfl, hb5.out⟩⟩
      | ok a =>
        have HPT : Hid (∀ wv, Only (fun _ => False) wr wv → Calls Tryz.prog 101 #[.agg #[.pointer (some ⟨bm, 0, none⟩), .int .i64 root, .pointer (some ⟨cb, off, none⟩)], .int .u32 (va : Int), .int .u32 (k : Int), .int .i64 2] wv fun e w' => e = .returned (.int .i64 (a : Nat)) ∧ Hid (Only (fun _ => False) wr w')) := fun wv hv => by
          refine (HPP.out.1.out wv (HW.out.trans hv)).mono ?_
          rintro e w' ⟨⟨c', t', h1, _⟩ | ⟨a', h1, rfl⟩, ho⟩
          · rw [hpf] at h1; cases h1
          · rw [hpf] at h1
            injection h1 with h1
            subst h1
            exact ⟨rfl, hv.trans ho.out⟩
        have HWT : Hid (∀ wv, Only (fun _ => False) wr wv → Calls Tryz.prog 28 #[.pointer (some ⟨bm, 0, none⟩), .int .i64 (a : Nat), .string sp] wv fun e w' => e = .returned (.int .i64 0) ∧ Hid (MemAt U w' bm n (putF f a ((fourB b).take k)) ∧ Only (fun k => ¬ U2 k) wr w')) := fun wv hv => HWR2.out wv a hv (HPP.out.2.out a hpf)
        have HK : Hid (Only (fun _ => False) wr wr.drew) := (Only.refl _ wr).drew
        have HPF := Vx.hid hpf
        clear HPP HWR2 HW hpf
        go_region_held3 (fun wv => Hid (Only (fun k => ¬ U2 k) wr wv) ∧ (wv.cell? ⟨g, 0, none⟩ = some (.pointer (some ⟨bm, 0, none⟩)) ∧ wv.cell? ⟨g, 1, none⟩ = some (.int .i64 root) ∧ wv.cell? ⟨g, 2, none⟩ = some (.pointer (some ⟨cb, off, none⟩))) ∧ (convert 66 9 (.slice (some ⟨gb, 0, none⟩) k k)).run Tryz.prog wv = .ok (.string sp) wv) (first | exact ⟨HFQ.out _ HK.out, HS.out _ (HFQ.out _ HK.out)⟩ | exact ⟨h6.out.2, HS.out _ h6.out.2⟩ | exact ⟨HFQ.out _ h5.out, HS.out _ (HFQ.out _ h5.out)⟩) (first | (go_at_call 101; refine (HPT.out _ HK.out).mono ?_; rintro e w5 ⟨rfl, h5⟩) | (go_at_call 28; refine (HWT.out _ h5.out).mono ?_; rintro e w6 ⟨rfl, h6⟩))
        have HFI : Hid (StoP U w bm n f ((fourB b).take k) (placeF f n root va k 2) (.returned (.tuple #[])) w6) := Or.inr ⟨a, HPF.out, rfl, h6.out.1, HUW.out _ h6.out.2⟩
        clear h6 h5 HK HWT HPT HS HUW HFQ
        go_wp2_with fail
        first | go_end0 | refine bodyPost_ret (results_none rfl _ _ _) rfl ?_
        exact HFI.out
end Go.Proofs.YtflmobffeeocdaaGreatDoor

/- Walks of package hart: what run leaves. -/
namespace Go.Proofs.YtflmobffeeocdaaGreatDoor
open Go.ChangeShapes Go.WideShapes Go.ChangeAt Go.RowKit
open Go.Vx

/-- A hart's registers and pc, in a block. -/
structure CxAt (w : World) (cb off : Nat) (T : TypeId) (cs : Array Value) (R : Nat → Nat) (pc : Nat) : Prop where
  b : w.heap[cb]? = some (.cells cs T (0, 0))
  r : ∀ i, i < 32 → cs[off + i]? = some (.int .u32 (R i : Nat))
  p : cs[off + 32]? = some (.int .u32 (pc : Int))
theorem CxAt.ctx {w : World} {cb off : Nat} {T : TypeId} {cs : Array Value} {R : Nat → Nat} {pc : Nat} (h : CxAt w cb off T cs R pc) : CtxAt w cb off R pc :=
  ⟨fun i hi => by rw [cell_of_row _ _ (off + i) _ _ (0, 0) h.b]; exact h.r i hi, by rw [cell_of_row _ _ (off + 32) _ _ (0, 0) h.b]; exact h.p⟩
theorem CxAt.only {S : Nat → Prop} {w w' : World} {cb off : Nat} {T : TypeId} {cs : Array Value} {R : Nat → Nat} {pc : Nat} (h : CxAt w cb off T cs R pc) (ho : Only S w w') (hS : ¬ S cb) : CxAt w' cb off T cs R pc :=
  ⟨by rw [ho.block cb (lt_of_some h.b) hS]; exact h.b, h.r, h.p⟩
theorem CxAt.fz {w : World} {cb off : Nat} {T : TypeId} {cs : Array Value} {R : Nat → Nat} {pc : Nat} (h : CxAt w cb off T cs R pc) (j : Nat) : w.frozen? ⟨cb, j, none⟩ = false := by
  have h1 := h.b
  simp [World.frozen?, h1]
/-- All but the registers and the pc is as it was. -/
def Beside (cs cs' : Array Value) (off : Nat) : Prop := cs'.size = cs.size ∧ ∀ j, (j < off ∨ off + 33 ≤ j) → cs'[j]? = cs[j]?
theorem Beside.trans {a b c : Array Value} {off : Nat} (h : Beside a b off) (k : Beside b c off) : Beside a c off := ⟨k.1.trans h.1, fun j hj => (k.2 j hj).trans (h.2 j hj)⟩
theorem CxAt.setPc {w : World} {cb off : Nat} {T : TypeId} {cs : Array Value} {R : Nat → Nat} {pc : Nat} (h : CxAt w cb off T cs R pc) (v : Nat) :
    ∃ cs', CxAt (w.setCell ⟨cb, off + 32, none⟩ (.int .u32 (v : Int))) cb off T cs' R v ∧ Beside cs cs' off := by
  have hlt : off + 32 < cs.size := (Array.getElem?_eq_some_iff.1 h.p).1
  refine ⟨cs.setIfInBounds (off + 32) (.int .u32 (v : Int)), ⟨heap_setCell_same _ _ _ _ _ _ h.b, fun i hi => ?_, ?_⟩, by simp, fun j hj => ?_⟩
  · rw [Array.getElem?_setIfInBounds, if_neg (by omega)]; exact h.r i hi
  · rw [Array.getElem?_setIfInBounds, if_pos rfl, if_pos hlt]
  · rw [Array.getElem?_setIfInBounds, if_neg (by omega)]
theorem CxAt.setR {w : World} {cb off : Nat} {T : TypeId} {cs : Array Value} {R : Nat → Nat} {pc : Nat} (h : CxAt w cb off T cs R pc) (rd v : Nat) (hrd : rd < 32) (h0 : rd ≠ 0) :
    ∃ cs', CxAt (w.setCell ⟨cb, off + rd, none⟩ (.int .u32 (v : Int))) cb off T cs' (Vx.setR R rd v) pc ∧ Beside cs cs' off := by
  have hlt : off + 32 < cs.size := (Array.getElem?_eq_some_iff.1 h.p).1
  refine ⟨cs.setIfInBounds (off + rd) (.int .u32 (v : Int)), ⟨heap_setCell_same _ _ _ _ _ _ h.b, fun i hi => ?_, ?_⟩, by simp, fun j hj => ?_⟩
  · rw [Array.getElem?_setIfInBounds]
    unfold Vx.setR
    rw [if_neg h0]
    by_cases hi2 : i = rd
    · rw [if_pos (by omega), if_pos (by omega), if_pos hi2]
    · rw [if_neg (by omega), if_neg hi2]; exact h.r i hi
  · rw [Array.getElem?_setIfInBounds, if_neg (by omega)]; exact h.p
  · rw [Array.getElem?_setIfInBounds, if_neg (by omega)]
theorem place_mod {f : Nat → UInt8} {n : Nat} {root : Int} {va len u a : Nat} (h : placeF f n root va len u = .ok a) : va % len = 0 := by
  unfold placeF placeG at h
  split at h
  · cases h
  · rename_i h1
    simpa using h1
theorem next_mod {pc : Nat} (h4 : pc % 4 = 0) : m32 ((pc : Int) + 4) % 4 = 0 := by unfold m32; omega
theorem setR_zero (R : Nat → Nat) (v : Nat) : Vx.setR R 0 v = R := if_pos rfl
theorem toF_next {op a b : Nat} {im : Int} {pc : Nat} (h : op ≠ 3 ∧ op ≠ 4 ∧ (op < 5 ∨ 10 < op)) : toF op a b im pc = m32 ((pc : Int) + 4) := by
  unfold toF
  rw [if_neg (by omega), if_neg (by omega), if_neg (by omega)]
theorem exe_sum {f : Nat → UInt8} {n : Nat} {root : Int} {R : Nat → Nat} {pc op rd a b : Nat} {im : Int} (h4 : pc % 4 = 0) (h : (28 ≤ op ∧ op ≤ 37) ∨ (41 ≤ op ∧ op ≤ 48)) : exeF f n root R pc op rd a b im = .ok (f, Vx.setR R rd (arithF op a b), m32 ((pc : Int) + 4)) := by
  unfold exeF
  rw [if_neg (by omega), if_neg (by omega), if_neg (by omega), if_neg (by omega), toF_next (by omega), if_pos (by unfold setsB; simp; omega)]
  unfold plainG
  rw [if_neg (by have := next_mod h4; omega)]
  unfold valF
  rw [if_neg (by omega), if_neg (by omega), if_neg (by omega), if_neg (by omega)]
theorem exe_imm {f : Nat → UInt8} {n : Nat} {root : Int} {R : Nat → Nat} {pc op rd a b : Nat} {im : Int} (h4 : pc % 4 = 0) (h : 19 ≤ op ∧ op ≤ 27) : exeF f n root R pc op rd a b im = .ok (f, Vx.setR R rd (arithF op a (m32 im)), m32 ((pc : Int) + 4)) := by
  unfold exeF
  rw [if_neg (by omega), if_neg (by omega), if_neg (by omega), if_neg (by omega), toF_next (by omega), if_pos (by unfold setsB; simp; omega)]
  unfold plainG
  rw [if_neg (by have := next_mod h4; omega)]
  unfold valF
  rw [if_neg (by omega), if_neg (by omega), if_neg (by omega), if_pos h]
theorem exe_lui {f : Nat → UInt8} {n : Nat} {root : Int} {R : Nat → Nat} {pc rd a b : Nat} {im : Int} (h4 : pc % 4 = 0) : exeF f n root R pc 1 rd a b im = .ok (f, Vx.setR R rd (m32 (im * 4096)), m32 ((pc : Int) + 4)) := by
  unfold exeF
  rw [if_neg (by omega), if_neg (by omega), if_neg (by omega), if_neg (by omega), toF_next (by omega), if_pos (by rfl)]
  unfold plainG
  rw [if_neg (by have := next_mod h4; omega)]
  rfl
theorem exe_auipc {f : Nat → UInt8} {n : Nat} {root : Int} {R : Nat → Nat} {pc rd a b : Nat} {im : Int} (h4 : pc % 4 = 0) : exeF f n root R pc 2 rd a b im = .ok (f, Vx.setR R rd (m32 ((pc : Int) + im * 4096)), m32 ((pc : Int) + 4)) := by
  unfold exeF
  rw [if_neg (by omega), if_neg (by omega), if_neg (by omega), if_neg (by omega), toF_next (by omega), if_pos (by rfl)]
  unfold plainG
  rw [if_neg (by have := next_mod h4; omega)]
  rfl
theorem exe_fence {f : Nat → UInt8} {n : Nat} {root : Int} {R : Nat → Nat} {pc rd a b : Nat} {im : Int} (h4 : pc % 4 = 0) : exeF f n root R pc 38 rd a b im = .ok (f, R, m32 ((pc : Int) + 4)) := by
  unfold exeF
  rw [if_neg (by omega), if_neg (by omega), if_neg (by omega), if_neg (by omega), toF_next (by omega), if_neg (by decide)]
  unfold plainG
  rw [if_neg (by have := next_mod h4; omega), setR_zero]
theorem exe_jal {f : Nat → UInt8} {n : Nat} {root : Int} {R : Nat → Nat} {pc rd a b : Nat} {im : Int} : exeF f n root R pc 3 rd a b im = plainG f R rd (m32 ((pc : Int) + 4)) (m32 ((pc : Int) + im)) := rfl
theorem exe_jalr {f : Nat → UInt8} {n : Nat} {root : Int} {R : Nat → Nat} {pc rd a b : Nat} {im : Int} : exeF f n root R pc 4 rd a b im = plainG f R rd (m32 ((pc : Int) + 4)) (m32 ((a : Int) + im) - m32 ((a : Int) + im) % 2) := rfl
theorem exe_goes {f : Nat → UInt8} {n : Nat} {root : Int} {R : Nat → Nat} {pc op rd a b : Nat} {im : Int} (h : 5 ≤ op ∧ op ≤ 10) (ht : takesF op a b = true) : ∃ v, exeF f n root R pc op rd a b im = plainG f R 0 v (m32 ((pc : Int) + im)) := by
  refine ⟨valF op a b im pc, ?_⟩
  unfold exeF
  rw [if_neg (by omega), if_neg (by omega), if_neg (by omega), if_neg (by omega), if_neg (by unfold setsB; simp; omega)]
  unfold toF
  rw [if_neg (by omega), if_neg (by omega), if_pos ⟨h.1, h.2, ht⟩]
theorem exe_stays {f : Nat → UInt8} {n : Nat} {root : Int} {R : Nat → Nat} {pc op rd a b : Nat} {im : Int} (h4 : pc % 4 = 0) (h : 5 ≤ op ∧ op ≤ 10) (ht : takesF op a b = false) : exeF f n root R pc op rd a b im = .ok (f, R, m32 ((pc : Int) + 4)) := by
  unfold exeF
  rw [if_neg (by omega), if_neg (by omega), if_neg (by omega), if_neg (by omega), if_neg (by unfold setsB; simp; omega)]
  unfold toF
  rw [if_neg (by omega), if_neg (by omega), if_neg (by rw [ht]; simp)]
  unfold plainG
  rw [if_neg (by have := next_mod h4; omega), setR_zero]
theorem exe_load {f : Nat → UInt8} {n : Nat} {root : Int} {R : Nat → Nat} {pc op rd a b : Nat} {im : Int} (h : 11 ≤ op ∧ op ≤ 15) : exeF f n root R pc op rd a b im = loadG f R pc op rd (placeF f n root (m32 ((a : Int) + im)) (bytesF op) 1) := by
  unfold exeF
  rw [if_neg (by omega), if_neg (by omega), if_pos h]
theorem exe_store {f : Nat → UInt8} {n : Nat} {root : Int} {R : Nat → Nat} {pc op rd a b : Nat} {im : Int} (h : 16 ≤ op ∧ op ≤ 18) : exeF f n root R pc op rd a b im = storeG f R pc op b (placeF f n root (m32 ((a : Int) + im)) (bytesF op) 2) := by
  unfold exeF
  rw [if_neg (by omega), if_neg (by omega), if_neg (by omega), if_pos h]
/-- What run leaves. -/
def RunP (U : Nat → Prop) (w : World) (bm n cb off : Nat) (T : TypeId) (cs : Array Value) (r : StepR) (e : Ending) (w' : World) : Prop :=
  (∃ c t, r = .error (c, t) ∧ e = .panicked (trapP c t) ∧ Only (fun _ => False) w w') ∨
  ∃ f' R' pc', r = .ok (f', R', pc') ∧ e = .returned (.tuple #[]) ∧ MemAt U w' bm n f' ∧ (∃ cs', CxAt w' cb off T cs' R' pc' ∧ Beside cs cs' off) ∧ Only (fun k => ¬ U k ∨ k = cb) w w'
/-- The pc alone is set. -/
theorem run_pc {U : Nat → Prop} {w w6 : World} {bm n cb off : Nat} {T : TypeId} {cs : Array Value} {f' : Nat → UInt8} {R : Nat → Nat} {pc : Nat} (hu : U cb) (hm : MemAt U w6 bm n f') (hc : CxAt w6 cb off T cs R pc) (ho : Only (fun k => ¬ U k) w w6) (dst : Nat) (r : StepR) (hr : r = .ok (f', R, dst)) :
    RunP U w bm n cb off T cs r (.returned (.tuple #[])) (w6.setCell ⟨cb, off + 32, none⟩ (.int .u32 (dst : Int))) := by
  have o1 : Only (fun k => k = cb) w6 (w6.setCell ⟨cb, off + 32, none⟩ (.int .u32 (dst : Int))) := Only.setCell (p := ⟨cb, off + 32, none⟩) (S := fun k => k = cb) (Only.refl _ w6) (Or.inl rfl) _
  exact Or.inr ⟨f', R, dst, hr, rfl, hm.only o1 (fun k hk _ => by rw [hk]; exact hu), hc.setPc dst, (ho.mono (fun _ _ h => Or.inl h)).trans (o1.mono (fun _ _ h => Or.inr h))⟩
/-- A register and the pc are set. -/
theorem run_rd {U : Nat → Prop} {w w6 : World} {bm n cb off : Nat} {T : TypeId} {cs : Array Value} {f' : Nat → UInt8} {R : Nat → Nat} {pc : Nat} (hu : U cb) (hm : MemAt U w6 bm n f') (hc : CxAt w6 cb off T cs R pc) (ho : Only (fun k => ¬ U k) w w6) (rd v dst : Nat) (hrd : rd < 32) (h0 : rd ≠ 0) (r : StepR) (hr : r = .ok (f', Vx.setR R rd v, dst)) :
    RunP U w bm n cb off T cs r (.returned (.tuple #[])) ((w6.setCell ⟨cb, off + rd, none⟩ (.int .u32 (v : Int))).setCell ⟨cb, off + 32, none⟩ (.int .u32 (dst : Int))) := by
  have o1 : Only (fun k => k = cb) w6 (w6.setCell ⟨cb, off + rd, none⟩ (.int .u32 (v : Int))) := Only.setCell (p := ⟨cb, off + rd, none⟩) (S := fun k => k = cb) (Only.refl _ w6) (Or.inl rfl) _
  have o2 : Only (fun k => k = cb) w6 ((w6.setCell ⟨cb, off + rd, none⟩ (.int .u32 (v : Int))).setCell ⟨cb, off + 32, none⟩ (.int .u32 (dst : Int))) := Only.setCell (p := ⟨cb, off + 32, none⟩) (S := fun k => k = cb) o1 (Or.inl rfl) _
  obtain ⟨cs1, h1, b1⟩ := hc.setR rd v hrd h0
  obtain ⟨cs2, h2, b2⟩ := h1.setPc dst
  exact Or.inr ⟨f', _, dst, hr, rfl, hm.only o2 (fun k hk _ => by rw [hk]; exact hu), ⟨cs2, h2, b1.trans b2⟩, (ho.mono (fun _ _ h => Or.inl h)).trans (o2.mono (fun _ _ h => Or.inr h))⟩
end Go.Proofs.YtflmobffeeocdaaGreatDoor

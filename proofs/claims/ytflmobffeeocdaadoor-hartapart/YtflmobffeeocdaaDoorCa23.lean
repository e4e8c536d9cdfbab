import Derived.Test.YtflmobffeeocdaaDoorCa22
/- Walks of package hart: load, where the walk ends well. -/
namespace Go.Vx
theorem part_step (f : Nat → UInt8) (p k : Nat) (hk : k < 4) : bits .or .u32 (partF f p k : Nat) (((f (p + k)).toNat : Int) * 2 ^ (8 * k) % 4294967296) = (partF f p (k + 1) : Nat) := by
  have h0 := (f p).toNat_lt
  have h1 := (f (p + 1)).toNat_lt
  have h2 := (f (p + 2)).toNat_lt
  have h3 := (f (p + 3)).toNat_lt
  have hc : k = 0 ∨ k = 1 ∨ k = 2 ∨ k = 3 := by omega
  rcases hc with rfl | rfl | rfl | rfl
  · rw [u32_join_low 0 1 _ _ rfl (by decide) (by simp only [partF]; omega)]
    simp only [partF]; simp; omega
  · rw [u32_join_low 8 256 _ _ rfl (by decide) (by simp only [partF]; omega)]
    simp only [partF]; simp; omega
  · rw [u32_join_low 16 65536 _ _ rfl (by decide) (by simp only [partF]; omega)]
    simp only [partF]; simp; omega
  · rw [u32_join_low 24 16777216 _ _ rfl (by decide) (by simp only [partF]; omega)]
    simp only [partF, wordF]; simp; omega
/-- Bytes out of a string: the new row. -/
theorem bytes_row {P : Program} (w : World) (src dst e : TypeId) (hs : P.underlying src = some .string) (hd : P.underlying dst = some (.slice e)) (he : P.underlying e = some (.int .u8)) (l : List UInt8) :
    ∃ cap w', (convert src dst (.string ⟨l.toArray⟩)).run P w = .ok (.slice (some ⟨w.heap.size, 0, none⟩) l.length cap) w' ∧ Only (fun _ => False) w w' ∧ ∀ (j : Nat) (h : j < l.length), w'.cell? ⟨w.heap.size, j, none⟩ = some (byteV l[j]) := by
  have h := run_bytes_of_string w src dst e ⟨l.toArray⟩ hs hd he
  have hl : (⟨l.toArray⟩ : ByteArray).size = l.length := by simp [ByteArray.size]
  rw [hl] at h
  refine ⟨_, _, h, ((Only.refl _ w).drew).alloc _, fun j hj => ?_⟩
  have hb : (w.drew.alloc (.cells (bytesRow ⟨l.toArray⟩ (grownCap w l.length 0 e)) e ((bytesRow ⟨l.toArray⟩ (grownCap w l.length 0 e)).size, (bytesRow ⟨l.toArray⟩ (grownCap w l.length 0 e)).size + 1))).heap[w.heap.size]? = some (.cells (bytesRow ⟨l.toArray⟩ (grownCap w l.length 0 e)) e ((bytesRow ⟨l.toArray⟩ (grownCap w l.length 0 e)).size, (bytesRow ⟨l.toArray⟩ (grownCap w l.length 0 e)).size + 1)) := heap_alloc_last w.drew _
  rw [cell_of_row _ _ j _ _ _ hb]
  unfold bytesRow byteV
  rw [Array.getElem?_append_left (by simpa using hj)]
  simp [hj]
end Go.Vx
namespace Go.Proofs.YtflmobffeeocdaaDoor
open Go.ChangeShapes Go.WideShapes Go.ChangeAt Go.RowKit
open Go.Vx

theorem wrap_i8 (n : Int) : IntKind.i8.wrap n = (n + 128) % 256 - 128 := by
  simp [IntKind.wrap, IntKind.bits, IntKind.signed]; split <;> omega
theorem wrap_i16 (n : Int) : IntKind.i16.wrap n = (n + 32768) % 65536 - 32768 := by
  simp [IntKind.wrap, IntKind.bits, IntKind.signed]; split <;> omega
theorem ld_11 (v : Nat) (h : v < 256) : IntKind.u32.wrap (IntKind.i8.wrap (v : Int)) = (ldF 11 v : Nat) := by
  rw [IntKind.wrap_u32, wrap_i8]; unfold ldF
  by_cases h1 : 128 ≤ v
  · rw [if_pos ⟨rfl, h1⟩]; omega
  · rw [if_neg (by omega), if_neg (by omega)]; omega
theorem ld_12 (v : Nat) (h : v < 65536) : IntKind.u32.wrap (IntKind.i16.wrap (v : Int)) = (ldF 12 v : Nat) := by
  rw [IntKind.wrap_u32, wrap_i16]; unfold ldF
  rw [if_neg (by omega)]
  by_cases h1 : 32768 ≤ v
  · rw [if_pos ⟨rfl, h1⟩]; omega
  · rw [if_neg (by omega)]; omega
set_option maxRecDepth 100000 in
set_option maxHeartbeats 4000000 in
theorem load_good {U : Nat → Prop} {w : World} {bm n cb off : Nat} {f : Nat → UInt8} (h : MemAt U w bm n f) (hus : UsesAt w) (hmi : MisAt w) (root : Int) (op : Nat) (ho : 11 ≤ op) (ho2 : op ≤ 15) (va : Nat) (hva : va < 4294967296) (a : Nat) (hp : placeF f n root va (bytesF op) 1 = .ok a) :
    Calls Tryd.prog 35 #[.agg #[.pointer (some ⟨bm, 0, none⟩), .int .i64 root, .pointer (some ⟨cb, off, none⟩)], .int .i64 (op : Int), .int .u32 (va : Int)] w fun e w' => e = .returned (.int .u32 (ldF op (partF f a (bytesF op)) : Nat)) ∧ Only (fun _ => False) w w' := by
  have HLN := Vx.hid (fun wv => length_any op ho (by omega) wv)
  have hb := bytes_cases op
  have hin := place_in hb hp
  have HPL : Hid (∀ wv, Only (fun _ => False) w wv → Calls Tryd.prog 44 #[.agg #[.pointer (some ⟨bm, 0, none⟩), .int .i64 root, .pointer (some ⟨cb, off, none⟩)], .int .u32 (va : Int), .int .u32 (bytesF op : Nat), .int .i64 1] wv fun e w' => e = .returned (.int .i64 (a : Nat)) ∧ Hid (Only (fun _ => False) wv w')) := fun wv hv => by
    refine (hplace_any (h.only hv (fun _ h _ => h.elim)) (hus.only hv (fun h => h)) (hmi.only hv (fun h => h)) root ⟨cb, off, none⟩ va hva (bytesF op) (by omega) (by omega) 1 (by decide)).mono ?_
    rintro e w' ⟨⟨c', t', h1, _⟩ | ⟨a', h1, rfl⟩, ho⟩
    · rw [hp] at h1; cases h1
    · rw [hp] at h1
      injection h1 with h1
      subst h1
      exact ⟨rfl, ho⟩
  have HRD : Hid (∀ wv, Only (fun _ => False) w wv → Calls Tryd.prog 7 #[.pointer (some ⟨bm, 0, none⟩), .int .i64 (a : Nat), .int .i64 (bytesF op : Nat)] wv fun e w' => e = .returned (.tuple #[.string ⟨(rowL f a (bytesF op)).toArray⟩, .int .i64 0]) ∧ Hid (Only (fun _ => False) wv w')) := fun wv hv => read_ok (h.only hv (fun _ h _ => h.elim)) a (bytesF op) (by omega)
  have hw8 : IntKind.i64.wrap ((bytesF op : Nat) : Int) = ((bytesF op : Nat) : Int) := by rw [IntKind.wrap_i64]; omega
  have HBY := Vx.hid (fun wv => bytes_row (P := Tryd.prog) wv 9 57 5 Tryd.underlying9 Tryd.underlying57 Tryd.underlying5 (rowL f a (bytesF op)))
  have HRL : Hid ((rowL f a (bytesF op)).length = bytesF op ∧ ∀ j (h : j < (rowL f a (bytesF op)).length), (rowL f a (bytesF op))[j] = f (a + j)) := ⟨length_rowL _ _ _, fun j h => by
    have h1 := get_rowL f a (bytesF op) j (by rw [length_rowL] at h; exact h)
    rw [List.getElem?_eq_getElem h] at h1
    exact Option.some.inj h1⟩
  have HP8 : Hid (bytesF op = 1 → partF f a 1 < 256) := fun _ => (f a).toNat_lt
  have HP16 : Hid (bytesF op = 2 → partF f a 2 < 65536) := fun _ => by
    have h0 := (f a).toNat_lt
    have h1 := (f (a + 1)).toNat_lt
    show (f a).toNat + 256 * (f (a + 1)).toNat < 65536
    omega
  have hc : op = 11 ∨ op = 12 ∨ op = 13 ∨ op = 14 ∨ op = 15 := by omega
  have HBF : Hid (bytesF 11 = 1 ∧ bytesF 12 = 2) := ⟨rfl, rfl⟩
  have HLF : Hid (∀ v, ldF 13 v = v ∧ ldF 14 v = v ∧ ldF 15 v = v) := fun v => ⟨rfl, rfl, rfl⟩
  obtain ⟨len, hlen⟩ : ∃ len, bytesF op = len := ⟨_, rfl⟩
  have HLEN := Vx.hid hlen
  rw [hlen] at hb HLN HPL HRD hw8 HBY HRL HP8 HP16 ⊢
  generalize rowL f a len = l at HRD HBY HRL
  obtain ⟨sz, hsz⟩ : ∃ p : ByteArray, p = ⟨l.toArray⟩ := ⟨_, rfl⟩
  rw [← hsz] at HRD HBY
  clear h hus hmi hva hp hin ho ho2 hlen hsz
  go_enter Tryd.func35, Tryd.ntmps35
  go_wp2_with fail
  refine (HLN.out _).mono ?_
  rintro e w' ⟨rfl, h⟩
  have h2 := h.symm; clear h; subst h2
  go_wp2_with fail
  obtain ⟨W1, hW1⟩ : ∃ W1, W1 = w.alloc (.cells #[.pointer (some ⟨bm, 0, none⟩), .int .i64 root, .pointer (some ⟨cb, off, none⟩)] 61) := ⟨_, rfl⟩
  have HO1 : Hid (Only (fun _ => False) w W1) := by rw [hW1]; exact (Only.refl _ w).alloc _
  have hbk : W1.heap[w.heap.size]? = some (.cells #[.pointer (some ⟨bm, 0, none⟩), .int .i64 root, .pointer (some ⟨cb, off, none⟩)] 61 (0, 0)) := by
    rw [hW1]; exact heap_alloc_last w _
  have g0 : W1.cell? ⟨w.heap.size, 0, none⟩ = some (.pointer (some ⟨bm, 0, none⟩)) := by rw [cell_of_row _ _ 0 _ _ (0, 0) hbk]; rfl
  have g1 : W1.cell? ⟨w.heap.size, 1, none⟩ = some (.int .i64 root) := by rw [cell_of_row _ _ 1 _ _ (0, 0) hbk]; rfl
  have g2 : W1.cell? ⟨w.heap.size, 2, none⟩ = some (.pointer (some ⟨cb, off, none⟩)) := by rw [cell_of_row _ _ 2 _ _ (0, 0) hbk]; rfl
  have hgl : w.heap.size < W1.heap.size := lt_of_some hbk
  rw [← hW1]
  clear hW1 hbk
  generalize w.heap.size = g at g0 g1 g2 hgl ⊢
  have HS : Hid (∀ wv, Only (fun _ => False) W1 wv → wv.cell? ⟨g, 0, none⟩ = some (.pointer (some ⟨bm, 0, none⟩)) ∧ wv.cell? ⟨g, 1, none⟩ = some (.int .i64 root) ∧ wv.cell? ⟨g, 2, none⟩ = some (.pointer (some ⟨cb, off, none⟩))) := fun wv hv =>
    ⟨by rw [hv.cell (p := ⟨g, 0, none⟩) hgl (fun h => h)]; exact g0, by rw [hv.cell (p := ⟨g, 1, none⟩) hgl (fun h => h)]; exact g1, by rw [hv.cell (p := ⟨g, 2, none⟩) hgl (fun h => h)]; exact g2⟩
  have HK : Hid (Hid (Only (fun _ => False) W1 W1.drew)) := (Only.refl (fun _ => False) W1).drew
  go_region_held3 (fun wv => Hid (Only (fun _ => False) W1 wv) ∧ wv.cell? ⟨g, 0, none⟩ = some (.pointer (some ⟨bm, 0, none⟩)) ∧ wv.cell? ⟨g, 1, none⟩ = some (.int .i64 root) ∧ wv.cell? ⟨g, 2, none⟩ = some (.pointer (some ⟨cb, off, none⟩))) (first | exact ⟨HK.out, HS.out _ HK.out⟩ | exact ⟨h7, HS.out _ h7⟩ | exact ⟨h6, HS.out _ h6⟩) (first | (go_at_call 44; refine (HPL.out _ (HO1.out.trans HK.out)).mono ?_; rintro e w5 ⟨rfl, h5⟩; have h6 := Vx.hid (HK.out.trans h5)) | (go_at_call 7; refine (HRD.out _ (HO1.out.trans h6)).mono ?_; rintro e w6 ⟨rfl, h5⟩; have h7 := Vx.hid (h6.out.trans h5)))
  have H9 := Vx.hid (HO1.out.trans h7)
  obtain ⟨cap, wy, hcv, hoy, hcy⟩ := HBY.out w6
  have HO9 := Vx.hid (H9.out.trans hoy)
  obtain ⟨hll, hlj⟩ := HRL.out
  have hcy2 : ∀ j, j < len → wy.cell? ⟨w6.heap.size, j, none⟩ = some (.int .u8 ((f (a + j)).toNat : Int)) := fun j hj => by
    have h1 := hcy j (by omega)
    rw [hlj j (by omega)] at h1
    exact h1
  rw [hll] at hcv
  have HCY := Vx.hid hcy2
  have HST := Vx.hid (fun k (hk : k < 4) => part_step f a k hk)
  clear hcy hcy2 hoy h7 h6 h5 HS HK g0 g1 g2 hgl HBY HRD HPL HLN HO1 H9 hlj hll HRL
  generalize w6.heap.size = gb at hcv HCY
  go_wp2_with fail
  go_loop [10, 30] (fun t i => ∃ k : Nat, k ≤ len ∧ i = .int .i64 (k : Int) ∧ t = .int .u32 (partF f a k : Nat)) (fun _ i => len - (intOf i).toNat)
  case atStart => exact ⟨0, Nat.zero_le _, rfl, rfl⟩
  case round =>
    obtain ⟨k, hk, rfl, rfl⟩ := hrel
    by_cases hlt : k < len
    · have hck := HCY.out k hlt
      have hst := HST.out k (by omega)
      have hbk := (f (a + k)).toNat_lt
      generalize (f (a + k)).toNat = x at hck hst hbk
      have hi : 0 ≤ (k : Int) ∧ (k : Int) < (len : Int) := by omega
      have hl2 : (k : Int) < (len : Int) := by omega
      have hk4 : k = 0 ∨ k = 1 ∨ k = 2 ∨ k = 3 := by omega
      clear hk
      rcases hk4 with rfl | rfl | rfl | rfl
      · simp at hst
        go_wp2_with fail
        all_goals
          go_round
          case rel => exact ⟨1, by omega, by go_num, by rw [← hst]; first | rfl | rw [Int.emod_eq_of_lt (by omega) (by omega)]⟩
          case measure => simp [intOf]; omega
      · simp at hst
        go_wp2_with fail
        all_goals
          go_round
          case rel => exact ⟨2, by omega, by go_num, by rw [← hst]; first | rfl | rw [Int.emod_eq_of_lt (by omega) (by omega)]⟩
          case measure => simp [intOf]; omega
      · simp at hst
        go_wp2_with fail
        all_goals
          go_round
          case rel => exact ⟨3, by omega, by go_num, by rw [← hst]; first | rfl | rw [Int.emod_eq_of_lt (by omega) (by omega)]⟩
          case measure => simp [intOf]; omega
      · simp at hst
        go_wp2_with fail
        all_goals
          go_round
          case rel => exact ⟨4, by omega, by go_num, by rw [← hst]; first | rfl | rw [Int.emod_eq_of_lt (by omega) (by omega)]⟩
          case measure => simp [intOf]; omega
    · have hkl : k = len := by omega
      subst hkl
      have hl2 : ¬ (k : Int) < (k : Int) := by omega
      have hp8 := HP8.out
      have hp16 := HP16.out
      obtain ⟨hb1, hb2⟩ := HBF.out
      have hle := HLEN.out
      rcases hc with rfl | rfl | rfl | rfl | rfl
      · have e1 : k = 1 := by rw [← hle]; exact hb1
        subst e1
        have HV := Vx.hid (ld_11 _ (hp8 rfl))
        clear hp8 hp16 hb1 hb2 hle hlt hk
        go_wp2_with fail
        all_goals
          go_ret
          rw [← HV.out]
          exact ⟨rfl, HO9.out⟩
      · have e1 : k = 2 := by rw [← hle]; exact hb2
        subst e1
        have HV := Vx.hid (ld_12 _ (hp16 rfl))
        clear hp8 hp16 hb1 hb2 hle hlt hk
        go_wp2_with fail
        all_goals
          go_ret
          rw [← HV.out]
          exact ⟨rfl, HO9.out⟩
      all_goals
        clear hp8 hp16 hb1 hb2 hle hlt hk
        go_wp2_with fail
        all_goals
          go_ret
          first | rw [(HLF.out _).1] | rw [(HLF.out _).2.1] | rw [(HLF.out _).2.2]
          exact ⟨rfl, HO9.out⟩
end Go.Proofs.YtflmobffeeocdaaDoor

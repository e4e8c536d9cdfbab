import Derived.Test.YtflmobffeeocdaaGreatDoorCh13
import Derived.Test.YtflmobffeeocdaaGreatDoorCh14
import Derived.WalkLawsBesides
/- A walk of the function that tells the pictures. -/
namespace Go.Vx
theorem pickAt_pics (n : Nat) (h : n < 49) : pickAt (pics.map fun l => Value.string ⟨l.toArray⟩).toArray n = .string ⟨(pics.getD n []).toArray⟩ := by
  have hl : n < pics.length := by simpa [pics] using h
  simp only [pickAt, List.getD_eq_getElem?_getD, List.getElem?_map]
  rw [List.getElem?_eq_getElem hl]
  rfl
end Go.Vx
namespace Go.Proofs.YtflmobffeeocdaaGreatDoor
open Go.ChangeShapes Go.WideShapes Go.ChangeAt Go.RowKit
set_option maxRecDepth 100000 in
set_option maxHeartbeats 1000000 in
theorem picture_any (op : Int) (h0 : 0 ≤ op) (h1 : op ≤ 48) (w : World) :
    Calls Tryz.prog 106 #[.int .i64 op] w fun e w' => e = .returned (.string ⟨(Vx.pic op).toArray⟩) ∧ Below w.heap.size w w' := by
  have hget := fun (cs : Array Value) (h : cs.size = 49) => Vx.pickAt_get cs op.toNat (by omega)
  have HP : Hid (Vx.pickAt (Vx.pics.map fun l => Value.string ⟨l.toArray⟩).toArray op.toNat = .string ⟨(Vx.pic op).toArray⟩) := Vx.pickAt_pics op.toNat (by omega)
  go_enter Tryz.func106, Tryz.ntmps106
  go_wp2
  go_ret
  refine ⟨ret_valI HP.out, ?_⟩
  exact (Below.refl _ _).alloc (Nat.le_refl _) _
theorem signed_any (op : Int) (w : World) :
    Calls Tryz.prog 107 #[.int .i64 op] w fun e w' => e = .returned (.bool (decide (op < 25) || decide (27 < op))) ∧ w' = w := by
  by_cases h : op < 25
  · go_enter Tryz.func107, Tryz.ntmps107
    go_wp2
    go_ret
    exact ⟨ret_valI (by simp [h]), rfl⟩
  · by_cases h2 : 27 < op
    · go_enter Tryz.func107, Tryz.ntmps107
      go_wp2
      go_ret
      exact ⟨ret_valI (by simp), rfl⟩
    · go_enter Tryz.func107, Tryz.ntmps107
      go_wp2
      go_ret
      exact ⟨ret_valI (by simp [h, h2]), rfl⟩
end Go.Proofs.YtflmobffeeocdaaGreatDoor

/- A walk of the document's 'drawn': a word by its picture. -/

namespace Go.Proofs.YtflmobffeeocdaaGreatDoor
open Go.ChangeShapes Go.WideShapes Go.ChangeAt Go.RowKit
open Go.Vx (kindOf formOf ins insV zeroIns fits goF St s0 pic stepF insOf)

/-- The block of the instruction that is being drawn. -/
def IAt (w : World) (B : Nat) (op : Int) (s : St) : Prop :=
  w.cell? ⟨B, 0, none⟩ = some (.int .i64 op) ∧ w.cell? ⟨B, 1, none⟩ = some (.int .i64 s.rd) ∧ w.cell? ⟨B, 2, none⟩ = some (.int .i64 s.rs1) ∧ w.cell? ⟨B, 3, none⟩ = some (.int .i64 s.rs2) ∧ w.cell? ⟨B, 4, none⟩ = some (.int .i64 s.imm) ∧ ∀ o, w.frozen? ⟨B, o, none⟩ = false
/-- What 'drawn' hands back. -/
def drawnV (op : Int) : Option St → Value
  | some s => .tuple #[insV (insOf op s), .bool true]
  | none => .tuple #[insV zeroIns, .bool false]
/-- What the numbers of a state are bounded by behind k signs. -/
def StOk (k : Nat) (s : St) : Prop := 0 ≤ s.rd ∧ s.rd < 2 ^ k ∧ 0 ≤ s.rs1 ∧ s.rs1 < 2 ^ k ∧ 0 ≤ s.rs2 ∧ s.rs2 < 2 ^ k ∧ 0 ≤ s.imm ∧ s.imm ≤ k * 1048576 ∧ -1 ≤ s.top ∧ s.top ≤ 20

theorem go_next (x : Nat) (l : List UInt8) (k : Nat) (hl : l.length = 32) (hk : k < 32) (s : St) (b : Int) (hb : b = ((x / 2 ^ (31 - k) % 2 : Nat) : Int)) :
    goF x (l.drop k) s = match stepF (l[k]'(by omega)) b s with | none => none | some s' => goF x (l.drop (k + 1)) s' := by
  rw [List.drop_eq_getElem_cons (by omega), goF]
  have e : (l.drop (k + 1)).length = 31 - k := by rw [List.length_drop]; omega
  rw [e, hb]
  rfl
theorem bit_num (x k : Nat) : bits .and .i64 ((x : Int) / 2 ^ (31 - k)) 1 = ((x / 2 ^ (31 - k) % 2 : Nat) : Int) := by
  rw [Vx.i64_and1]
  simp only [Int.natCast_emod, Int.natCast_ediv, Int.natCast_pow]
  rfl
theorem shl_bound (b : Int) (m : Nat) (h0 : 0 ≤ b) (h1 : b ≤ 1) (hm : m ≤ 20) : 0 ≤ b * 2 ^ m ∧ b * 2 ^ m ≤ 1048576 := by
  have h2 : (2 : Nat) ^ m ≤ 2 ^ 20 := Nat.pow_le_pow_right (by decide) hm
  have e : ((2 ^ m : Nat) : Int) ≤ ((2 ^ 20 : Nat) : Int) := Int.ofNat_le.2 h2
  have e2 : (2 : Int) ^ m ≤ 1048576 := by simpa using e
  have e3 : (0 : Int) < 2 ^ m := Int.pow_pos (by decide)
  have hb : b = 0 ∨ b = 1 := by omega
  rcases hb with rfl | rfl
  · rw [Int.zero_mul]; decide
  · rw [Int.one_mul]; omega
theorem pow_next (k : Nat) : (2 : Int) ^ (k + 1) = 2 * 2 ^ k := by rw [Int.pow_succ, Int.mul_comm]
theorem pow_le (k : Nat) (h : k ≤ 32) : (2 : Int) ^ k ≤ 4294967296 := by
  have : (2 : Nat) ^ k ≤ 2 ^ 32 := Nat.pow_le_pow_right (by decide) h
  have e : ((2 ^ k : Nat) : Int) ≤ ((2 ^ 32 : Nat) : Int) := Int.ofNat_le.2 this
  simpa using e
theorem StOk.next {k : Nat} {s : St} (h : StOk k s) : StOk (k + 1) s := by
  obtain ⟨r1, r2, r3, r4, r5, r6, r7, r8, r9, r10⟩ := h
  have := pow_next k
  exact ⟨r1, by omega, r3, by omega, r5, by omega, r7, by omega, r9, r10⟩
theorem StOk.rd {k : Nat} {s : St} (h : StOk k s) {b : Int} (h0 : 0 ≤ b) (h1 : b ≤ 1) : StOk (k + 1) { s with rd := 2 * s.rd + b } := by
  obtain ⟨r1, r2, r3, r4, r5, r6, r7, r8, r9, r10⟩ := h
  have := pow_next k
  exact ⟨by show 0 ≤ 2 * s.rd + b; omega, by show 2 * s.rd + b < _; omega, r3, by show s.rs1 < _; omega, r5, by show s.rs2 < _; omega, r7, by show s.imm ≤ _; omega, r9, r10⟩
theorem StOk.rs1 {k : Nat} {s : St} (h : StOk k s) {b : Int} (h0 : 0 ≤ b) (h1 : b ≤ 1) : StOk (k + 1) { s with rs1 := 2 * s.rs1 + b } := by
  obtain ⟨r1, r2, r3, r4, r5, r6, r7, r8, r9, r10⟩ := h
  have := pow_next k
  exact ⟨r1, by show s.rd < _; omega, by show 0 ≤ 2 * s.rs1 + b; omega, by show 2 * s.rs1 + b < _; omega, r5, by show s.rs2 < _; omega, r7, by show s.imm ≤ _; omega, r9, r10⟩
theorem StOk.rs2 {k : Nat} {s : St} (h : StOk k s) {b : Int} (h0 : 0 ≤ b) (h1 : b ≤ 1) : StOk (k + 1) { s with rs2 := 2 * s.rs2 + b } := by
  obtain ⟨r1, r2, r3, r4, r5, r6, r7, r8, r9, r10⟩ := h
  have := pow_next k
  exact ⟨r1, by show s.rd < _; omega, r3, by show s.rs1 < _; omega, by show 0 ≤ 2 * s.rs2 + b; omega, by show 2 * s.rs2 + b < _; omega, r7, by show s.imm ≤ _; omega, r9, r10⟩
theorem StOk.imm {k : Nat} {s : St} (h : StOk k s) {v t : Int} (h0 : 0 ≤ v) (h1 : v ≤ 1048576) (h2 : -1 ≤ t) (h3 : t ≤ 20) : StOk (k + 1) { s with imm := s.imm + v, top := t } := by
  obtain ⟨r1, r2, r3, r4, r5, r6, r7, r8, r9, r10⟩ := h
  have := pow_next k
  exact ⟨r1, by show s.rd < _; omega, r3, by show s.rs1 < _; omega, r5, by show s.rs2 < _; omega, by show 0 ≤ s.imm + v; omega, by show s.imm + v ≤ _; omega, h2, h3⟩
theorem IAt.rd {w : World} {B : Nat} {op : Int} {s : St} (h : IAt w B op s) (v : Int) : IAt (w.setCell ⟨B, 1, none⟩ (.int .i64 v)) B op { s with rd := v } := by
  obtain ⟨c0, c1, c2, c3, c4, hf⟩ := h
  simp [IAt, go_sem, c0, c1, c2, c3, c4, hf]
theorem IAt.rs1 {w : World} {B : Nat} {op : Int} {s : St} (h : IAt w B op s) (v : Int) : IAt (w.setCell ⟨B, 2, none⟩ (.int .i64 v)) B op { s with rs1 := v } := by
  obtain ⟨c0, c1, c2, c3, c4, hf⟩ := h
  simp [IAt, go_sem, c0, c1, c2, c3, c4, hf]
theorem IAt.rs2 {w : World} {B : Nat} {op : Int} {s : St} (h : IAt w B op s) (v : Int) : IAt (w.setCell ⟨B, 3, none⟩ (.int .i64 v)) B op { s with rs2 := v } := by
  obtain ⟨c0, c1, c2, c3, c4, hf⟩ := h
  simp [IAt, go_sem, c0, c1, c2, c3, c4, hf]
theorem IAt.imm {w : World} {B : Nat} {op : Int} {s : St} (h : IAt w B op s) (v t : Int) : IAt (w.setCell ⟨B, 4, none⟩ (.int .i64 v)) B op { s with imm := v, top := t } := by
  obtain ⟨c0, c1, c2, c3, c4, hf⟩ := h
  simp [IAt, go_sem, c0, c1, c2, c3, c4, hf]

set_option maxRecDepth 20000 in
set_option maxHeartbeats 2000000 in
theorem drawn_any (op : Int) (x : Nat) (h0 : 1 ≤ op) (h1 : op ≤ 48) (_hx : x < 4294967296) (w : World) :
    Calls Tryz.prog 96 #[.int .i64 op, .int .i64 (x : Int)] w fun e w' =>
      e = .returned (drawnV op (goF x (pic op) s0)) ∧ Below w.heap.size w w' := by
  go_enter Tryz.func96, Tryz.ntmps96
  go_wp2_with fail
  refine (picture_any op (by omega) h1 _).mono ?_
  rintro e w1 ⟨rfl, hb1⟩
  obtain ⟨hlen, hall⟩ := Vx.pic_signs op h0 h1
  have Hlen : Hid ((pic op).length = 32) := hlen
  have Hall : Hid ((pic op).all Vx.signOk = true) := hall
  clear hlen hall
  obtain ⟨p, hp⟩ : ∃ p : ByteArray, p = ⟨(pic op).toArray⟩ := ⟨_, rfl⟩
  have hsz : w.heap.size + 1 ≤ w1.heap.size := by have := hb1.size; simpa using this
  have hb1' : Below (w.heap.size + 1) (w.alloc (.cells #[.int .i64 0, .int .i64 0, .int .i64 0, .int .i64 0, .int .i64 0] 129)) w1 := by simpa using hb1
  have HB1 : Hid (Below (w.heap.size + 1) (w.alloc (.cells #[.int .i64 0, .int .i64 0, .int .i64 0, .int .i64 0, .int .i64 0] 129)) w1) := hb1'
  clear hb1'
  clear hb1
  rw [← hp]
  have Hp : Hid (p = ⟨(pic op).toArray⟩) := hp
  clear hp
  go_wp2_with fail
  go_loopw [8, 9] (fun t i wr => ∃ k : Nat, ∃ s : St, k ≤ 32 ∧ i = .int .i64 k ∧ t = .int .i64 s.top ∧ Hid (goF x ((pic op).drop k) s = goF x (pic op) s0) ∧ StOk k s ∧ IAt wr w1.heap.size op s ∧ Below w1.heap.size w1 wr) (fun _ i _ => 32 - (intOf i).toNat)
  case atStart =>
    exact ⟨0, s0, by omega, rfl, rfl, rfl, by simp [StOk, s0], by simp [IAt, s0], (Below.refl _ _).alloc (Nat.le_refl _) _⟩
  case round =>
    obtain ⟨k, s, hk, rfl, rfl, Hg, hok, hi, hbr⟩ := hrel
    have HOK : Hid (StOk k s) := hok
    have HI : Hid (IAt wr w1.heap.size op s) := hi
    obtain ⟨r1, r2, r3, r4, r5, r6, r7, r8, r9, r10⟩ := hok
    obtain ⟨c0, c1, c2, c3, c4, hfr⟩ := hi
    have hpl := pow_le k hk
    have q2 : s.rd ≤ 4294967296 := by omega
    have q4 : s.rs1 ≤ 4294967296 := by omega
    have q6 : s.rs2 ≤ 4294967296 := by omega
    have q8 : s.imm ≤ 33554432 := by omega
    have hsr : w1.heap.size ≤ wr.heap.size := hbr.size
    have HBR : Hid (Below w1.heap.size w1 wr) := hbr
    obtain ⟨hcl, hfz⟩ : (∀ o, wr.cell? ⟨w.heap.size, o, none⟩ = (w.alloc (.cells #[.int .i64 0, .int .i64 0, .int .i64 0, .int .i64 0, .int .i64 0] 129)).cell? ⟨w.heap.size, o, none⟩) ∧ (∀ o, wr.frozen? ⟨w.heap.size, o, none⟩ = (w.alloc (.cells #[.int .i64 0, .int .i64 0, .int .i64 0, .int .i64 0, .int .i64 0] 129)).frozen? ⟨w.heap.size, o, none⟩) := by
      refine ⟨fun o => ?_, fun o => ?_⟩
      · rw [hbr.cell (p := ⟨w.heap.size, o, none⟩) (by show w.heap.size < _; omega), HB1.out.cell (p := ⟨w.heap.size, o, none⟩) (Nat.lt_succ_self _)]
      · rw [hbr.frozen (p := ⟨w.heap.size, o, none⟩) (by show w.heap.size < _; omega), HB1.out.frozen (p := ⟨w.heap.size, o, none⟩) (Nat.lt_succ_self _)]
    have HBW : Hid (Below w.heap.size w wr) := (((Below.refl _ _).alloc (Nat.le_refl _) _).trans (HB1.out.mono (by omega))).trans (hbr.mono (by omega))
    clear r2 r4 r6 r8 hpl hbr
    by_cases hlt : k < 32
    · obtain ⟨b, hbit⟩ : ∃ b, bits .and .i64 ((x : Int) / 2 ^ (31 - k)) 1 = b := ⟨_, rfl⟩
      have hb2 : 0 ≤ b ∧ b ≤ 1 := by rw [← hbit, bit_num]; omega
      obtain ⟨hb2, hb3⟩ := hb2
      have hn := go_next x (pic op) k Hlen.out hlt s b (by rw [← hbit, bit_num])
      rw [Hg.out] at hn
      obtain ⟨c, hc⟩ : ∃ c, (pic op)[k]'(by rw [Hlen.out]; exact hlt) = c := ⟨_, rfl⟩
      have hsign : Vx.signOk c = true := by rw [← hc]; exact List.all_eq_true.1 Hall.out _ (List.getElem_mem _)
      have hidx := index_sign p (pic op) k Hp.out (by rw [Hlen.out]; exact hlt)
      rw [hc] at hn hidx
      have HN : Hid (goF x (pic op) s0 = match stepF c b s with | none => none | some s' => goF x ((pic op).drop (k + 1)) s') := hn
      clear hn hc Hg Hall Hp
      by_cases h68 : c = 68
      · subst h68
        have hcn : ((68 : UInt8).toNat : Int) = 68 := rfl
        rw [hcn] at hidx
        clear hcn
        have Hg2 : Hid (goF x ((pic op).drop (k + 1)) { s with rd := 2 * s.rd + b } = goF x (pic op) s0) := HN.out.symm
        clear HN hsign
        go_wp2
        go_roundw
        case rel => exact ⟨k + 1, { s with rd := 2 * s.rd + b }, by omega, by go_num, rfl, Hg2, HOK.out.rd hb2 hb3, HI.out.rd _, HBR.out.setCell (Nat.le_refl _) _⟩
        case measure => simp [intOf]; omega
      by_cases h83 : c = 83
      · subst h83
        have hcn : ((83 : UInt8).toNat : Int) = 83 := rfl
        rw [hcn] at hidx
        clear hcn
        have Hg2 : Hid (goF x ((pic op).drop (k + 1)) { s with rs1 := 2 * s.rs1 + b } = goF x (pic op) s0) := HN.out.symm
        clear HN hsign
        go_wp2
        go_roundw
        case rel => exact ⟨k + 1, { s with rs1 := 2 * s.rs1 + b }, by omega, by go_num, rfl, Hg2, HOK.out.rs1 hb2 hb3, HI.out.rs1 _, HBR.out.setCell (Nat.le_refl _) _⟩
        case measure => simp [intOf]; omega
      by_cases h84 : c = 84
      · subst h84
        have hcn : ((84 : UInt8).toNat : Int) = 84 := rfl
        rw [hcn] at hidx
        clear hcn
        have Hg2 : Hid (goF x ((pic op).drop (k + 1)) { s with rs2 := 2 * s.rs2 + b } = goF x (pic op) s0) := HN.out.symm
        clear HN hsign
        go_wp2
        go_roundw
        case rel => exact ⟨k + 1, { s with rs2 := 2 * s.rs2 + b }, by omega, by go_num, rfl, Hg2, HOK.out.rs2 hb2 hb3, HI.out.rs2 _, HBR.out.setCell (Nat.le_refl _) _⟩
        case measure => simp [intOf]; omega
      by_cases h48 : c = 48
      · subst h48
        have hcn : ((48 : UInt8).toNat : Int) = 48 := rfl
        rw [hcn] at hidx
        clear hcn hsign
        by_cases hbb : b = 0
        · subst hbb
          have Hg2 : Hid (goF x ((pic op).drop (k + 1)) s = goF x (pic op) s0) := HN.out.symm
          clear HN
          go_wp2
          go_roundw
          case rel => exact ⟨k + 1, s, by omega, by go_num, rfl, Hg2, HOK.out.next, HI.out, HBR.out⟩
          case measure => simp [intOf]; omega
        · have hbo : b = 1 := by omega
          subst hbo
          have Hg2 : Hid (goF x (pic op) s0 = none) := HN.out
          clear HN
          go_wp2
          refine bodyPost_ret (v := .tuple #[insV zeroIns, .bool false]) ?_ rfl ⟨?_, ?_⟩
          · simp [results, Tryz.results96, go_sem, insV, zeroIns, hcl]
          · rw [Hg2.out]; rfl
          · exact (((((HBW.out.setCell (Nat.le_refl _) _).setCell (Nat.le_refl _) _).setCell (Nat.le_refl _) _).setCell (Nat.le_refl _) _).setCell (Nat.le_refl _) _)
      by_cases h49 : c = 49
      · subst h49
        have hcn : ((49 : UInt8).toNat : Int) = 49 := rfl
        rw [hcn] at hidx
        clear hcn hsign
        by_cases hbb : b = 1
        · subst hbb
          have Hg2 : Hid (goF x ((pic op).drop (k + 1)) s = goF x (pic op) s0) := HN.out.symm
          clear HN
          go_wp2
          go_roundw
          case rel => exact ⟨k + 1, s, by omega, by go_num, rfl, Hg2, HOK.out.next, HI.out, HBR.out⟩
          case measure => simp [intOf]; omega
        · have hbo : b = 0 := by omega
          subst hbo
          have Hg2 : Hid (goF x (pic op) s0 = none) := HN.out
          clear HN
          go_wp2
          refine bodyPost_ret (v := .tuple #[insV zeroIns, .bool false]) ?_ rfl ⟨?_, ?_⟩
          · simp [results, Tryz.results96, go_sem, insV, zeroIns, hcl]
          · rw [Hg2.out]; rfl
          · exact (((((HBW.out.setCell (Nat.le_refl _) _).setCell (Nat.le_refl _) _).setCell (Nat.le_refl _) _).setCell (Nat.le_refl _) _).setCell (Nat.le_refl _) _)
      have hcc : 97 ≤ c.toNat ∧ c.toNat ≤ 117 := by
        simp only [Vx.signOk, h48, h49, h68, h83, h84, beq_iff_eq, Bool.or_eq_true, Bool.and_eq_true, decide_eq_true_eq, false_or] at hsign
        rw [UInt8.le_iff_toNat_le, UInt8.le_iff_toNat_le] at hsign
        exact hsign
      have Hs : Hid (stepF c b s = some { s with imm := s.imm + b * 2 ^ (c.toNat - 97), top := if s.top < (c.toNat : Int) - 97 then (c.toNat : Int) - 97 else s.top }) := by
        show stepF c b s = _
        simp only [stepF, h48, h49, h68, h83, h84, if_false]
      clear hsign h48 h49 h68 h83 h84
      have Hg3 : Hid (goF x ((pic op).drop (k + 1)) { s with imm := s.imm + b * 2 ^ (c.toNat - 97), top := if s.top < (c.toNat : Int) - 97 then (c.toNat : Int) - 97 else s.top } = goF x (pic op) s0) := by
        have := HN.out
        rw [Hs.out] at this
        exact this.symm
      clear HN Hs
      generalize c.toNat = n at hcc hidx Hg3
      obtain ⟨hn1, hn2⟩ := hcc
      obtain ⟨v, hv⟩ : ∃ v, b * 2 ^ (n - 97) = v := ⟨_, rfl⟩
      have hvb : 0 ≤ v ∧ v ≤ 1048576 := by rw [← hv]; exact shl_bound b (n - 97) hb2 hb3 (by omega)
      obtain ⟨hv0, hv1⟩ := hvb
      rw [hv] at Hg3
      have t1 : ((n : Int) == 48) = false := beq_eq_false_iff_ne.2 (by omega)
      have t2 : ((n : Int) == 49) = false := beq_eq_false_iff_ne.2 (by omega)
      have t3 : ((n : Int) == 68) = false := beq_eq_false_iff_ne.2 (by omega)
      have t4 : ((n : Int) == 83) = false := beq_eq_false_iff_ne.2 (by omega)
      have t5 : ((n : Int) == 84) = false := beq_eq_false_iff_ne.2 (by omega)
      by_cases htop : s.top < (n : Int) - 97
      · rw [if_pos htop] at Hg3
        go_wp2
        go_roundw
        case rel => exact ⟨k + 1, { s with imm := s.imm + v, top := (n : Int) - 97 }, by omega, by go_num, rfl, Hg3, HOK.out.imm hv0 hv1 (by omega) (by omega), HI.out.imm _ _, HBR.out.setCell (Nat.le_refl _) _⟩
        case measure => simp [intOf]; omega
      · rw [if_neg htop] at Hg3
        go_wp2
        go_roundw
        case rel => exact ⟨k + 1, { s with imm := s.imm + v, top := s.top }, by omega, by go_num, rfl, Hg3, HOK.out.imm hv0 hv1 r9 r10, HI.out.imm _ _, HBR.out.setCell (Nat.le_refl _) _⟩
        case measure => simp [intOf]; omega
    · have hk32 : k = 32 := by omega
      subst hk32
      have Hf : Hid (some s = goF x (pic op) s0) := by
        have := Hg.out
        rw [List.drop_of_length_le (by rw [Hlen.out]; exact Nat.le_refl _)] at this
        exact this
      clear Hg
      by_cases hsg : (decide (op < 25) || decide (27 < op)) = true
      · have HF0 : Hid (Vx.finImm op s = if 0 ≤ s.top ∧ s.imm / 2 ^ s.top.toNat % 2 = 1 then s.imm - 2 * 2 ^ s.top.toNat else s.imm) := by
          show Vx.finImm op s = _
          unfold Vx.finImm
          rw [hsg]
          simp
        have hsc := signed_any op
        rw [hsg] at hsc
        have HSC : Hid (∀ w : World, Calls Tryz.prog 107 #[.int .i64 op] w fun e w' => e = .returned (.bool true) ∧ w' = w) := hsc
        clear hsc hsg
        by_cases ht : 0 ≤ s.top
        · obtain ⟨q, hq⟩ : ∃ q, bits .and .i64 (s.imm / 2 ^ s.top.toNat) 1 = q := ⟨_, rfl⟩
          have hq2 : s.imm / 2 ^ s.top.toNat % 2 = q := by rw [← hq, Vx.i64_and1]
          obtain ⟨z, hz⟩ : ∃ z : Int, 2 * 2 ^ s.top.toNat = z := ⟨_, rfl⟩
          have hzb : 0 ≤ z ∧ z ≤ 2097152 := by
            have := shl_bound 1 s.top.toNat (by omega) (by omega) (by omega)
            rw [← hz]; omega
          obtain ⟨hz0, hz1⟩ := hzb
          have hqb : q = 0 ∨ q = 1 := by omega
          rw [hq2, hz] at HF0
          rcases hqb with rfl | rfl
          · have HF : Hid (Vx.finImm op s = s.imm) := by
              show Vx.finImm op s = _
              rw [HF0.out]; simp
            clear HF0 hq2 hz
            go_wp2_with (go_at_call 107; refine (HSC.out _).mono ?_; rintro e w' ⟨rfl, rfl⟩)
            refine bodyPost_ret (v := .tuple #[insV (insOf op s), .bool true]) ?_ rfl ⟨?_, ?_⟩
            · simp [results, Tryz.results96, go_sem, insV, insOf, HF.out, hcl]
            · rw [← Hf.out]; rfl
            · exact (((((HBW.out.setCell (Nat.le_refl _) _).setCell (Nat.le_refl _) _).setCell (Nat.le_refl _) _).setCell (Nat.le_refl _) _).setCell (Nat.le_refl _) _)
          · have HF : Hid (Vx.finImm op s = s.imm - z) := by
              show Vx.finImm op s = _
              rw [HF0.out]; simp [ht]
            clear HF0 hq2
            go_wp2_with (go_at_call 107; refine (HSC.out _).mono ?_; rintro e w' ⟨rfl, rfl⟩)
            refine bodyPost_ret (v := .tuple #[insV (insOf op s), .bool true]) ?_ rfl ⟨?_, ?_⟩
            · simp [results, Tryz.results96, go_sem, insV, insOf, HF.out, hcl]
            · rw [← Hf.out]; rfl
            · exact ((((((HBW.out.setCell (by show w.heap.size ≤ w1.heap.size; omega) _).setCell (Nat.le_refl _) _).setCell (Nat.le_refl _) _).setCell (Nat.le_refl _) _).setCell (Nat.le_refl _) _).setCell (Nat.le_refl _) _)
        · have HF : Hid (Vx.finImm op s = s.imm) := by
            show Vx.finImm op s = _
            rw [HF0.out, if_neg (by omega)]
          clear HF0
          go_wp2_with (go_at_call 107; refine (HSC.out _).mono ?_; rintro e w' ⟨rfl, rfl⟩)
          refine bodyPost_ret (v := .tuple #[insV (insOf op s), .bool true]) ?_ rfl ⟨?_, ?_⟩
          · simp [results, Tryz.results96, go_sem, insV, insOf, HF.out, hcl]
          · rw [← Hf.out]; rfl
          · exact (((((HBW.out.setCell (Nat.le_refl _) _).setCell (Nat.le_refl _) _).setCell (Nat.le_refl _) _).setCell (Nat.le_refl _) _).setCell (Nat.le_refl _) _)
      · have HF : Hid (Vx.finImm op s = s.imm) := by
          show Vx.finImm op s = _
          unfold Vx.finImm
          rw [if_neg (fun h => hsg h.1)]
        have hsc := signed_any op
        rw [Bool.not_eq_true] at hsg
        rw [hsg] at hsc
        have HSC : Hid (∀ w : World, Calls Tryz.prog 107 #[.int .i64 op] w fun e w' => e = .returned (.bool false) ∧ w' = w) := hsc
        clear hsc hsg
        go_wp2_with (go_at_call 107; refine (HSC.out _).mono ?_; rintro e w' ⟨rfl, rfl⟩)
        refine bodyPost_ret (v := .tuple #[insV (insOf op s), .bool true]) ?_ rfl ⟨?_, ?_⟩
        · simp [results, Tryz.results96, go_sem, insV, insOf, HF.out, hcl]
        · rw [← Hf.out]; rfl
        · exact (((((HBW.out.setCell (Nat.le_refl _) _).setCell (Nat.le_refl _) _).setCell (Nat.le_refl _) _).setCell (Nat.le_refl _) _).setCell (Nat.le_refl _) _)
end Go.Proofs.YtflmobffeeocdaaGreatDoor

/- A walk of the document's 'Decode'. -/
namespace Go.Proofs.YtflmobffeeocdaaGreatDoor
open Go.ChangeShapes Go.WideShapes Go.ChangeAt Go.RowKit
open Go.Vx (kindOf formOf ins insV zeroIns fits goF St s0 pic stepF insOf dec findFrom)

theorem drawn_yes (op : Int) (x : Nat) (h0 : 1 ≤ op) (h1 : op ≤ 48) (hx : x < 4294967296) (hf : fits op x = true) (w : World) :
    Calls Tryz.prog 96 #[.int .i64 op, .int .i64 (x : Int)] w fun e w' => e = .returned (.tuple #[insV (ins op x), .bool true]) ∧ Below w.heap.size w w' := by
  refine (drawn_any op x h0 h1 hx w).mono ?_
  rintro e w' ⟨rfl, hb⟩
  refine ⟨?_, hb⟩
  rw [Vx.drawn_num op x h0 h1 hx, if_pos hf, ← Vx.insOf_kind op x h0 h1 hx]
  rfl
theorem drawn_no (op : Int) (x : Nat) (h0 : 1 ≤ op) (h1 : op ≤ 48) (hx : x < 4294967296) (hf : fits op x = false) (w : World) :
    Calls Tryz.prog 96 #[.int .i64 op, .int .i64 (x : Int)] w fun e w' => e = .returned (.tuple #[insV zeroIns, .bool false]) ∧ Below w.heap.size w w' := by
  refine (drawn_any op x h0 h1 hx w).mono ?_
  rintro e w' ⟨rfl, hb⟩
  refine ⟨?_, hb⟩
  rw [Vx.drawn_num op x h0 h1 hx, if_neg (by rw [hf]; decide)]
  rfl

set_option maxHeartbeats 1000000 in
theorem refDecode_any (x : Nat) (hx : x < 4294967296) (w : World) :
    Calls Tryz.prog 78 #[.int .i64 (x : Int)] w fun e w' => e = .returned (insV (dec x)) ∧ Below w.heap.size w w' := by
  go_enter Tryz.func78, Tryz.ntmps78
  go_wp2
  go_loopw [3] (fun t wr => ∃ op : Int, 1 ≤ op ∧ op ≤ 49 ∧ t = .int .i64 op ∧ Hid (findFrom (49 - op).toNat op x = dec x) ∧ Below (w.heap.size + 1) (w.alloc (.cells #[.int .i64 0, .int .i64 0, .int .i64 0, .int .i64 0, .int .i64 0] 129)) wr) (fun t _ => (49 - intOf t).toNat)
  case atStart => exact ⟨1, by omega, by omega, rfl, rfl, Below.refl _ _⟩
  case round =>
    obtain ⟨op, h1, h2, rfl, Hd, hb⟩ := hrel
    have hs : w.heap.size + 1 ≤ wr.heap.size := by have := hb.size; simpa using this
    have HB : Hid (Below (w.heap.size + 1) (w.alloc (.cells #[.int .i64 0, .int .i64 0, .int .i64 0, .int .i64 0, .int .i64 0] 129)) wr) := hb
    obtain ⟨hcl, hfr⟩ : (∀ o, wr.cell? ⟨w.heap.size, o, none⟩ = (w.alloc (.cells #[.int .i64 0, .int .i64 0, .int .i64 0, .int .i64 0, .int .i64 0] 129)).cell? ⟨w.heap.size, o, none⟩) ∧ (∀ o, wr.frozen? ⟨w.heap.size, o, none⟩ = (w.alloc (.cells #[.int .i64 0, .int .i64 0, .int .i64 0, .int .i64 0, .int .i64 0] 129)).frozen? ⟨w.heap.size, o, none⟩) :=
      ⟨fun o => hb.cell (p := ⟨w.heap.size, o, none⟩) (Nat.lt_succ_self _), fun o => hb.frozen (p := ⟨w.heap.size, o, none⟩) (Nat.lt_succ_self _)⟩
    clear hb
    by_cases hlt : op ≤ 48
    · cases hfit : fits op x with
      | false =>
        have Hm : Hid (findFrom (49 - (op + 1)).toNat (op + 1) x = dec x) := by
          have e : (49 - op).toNat = (49 - (op + 1)).toNat + 1 := by omega
          have := Hd.out
          rw [e, Vx.findFrom_miss _ _ _ hfit] at this
          exact this
        have Hfit : Hid (fits op x = false) := hfit
        clear hfit Hd hcl hfr
        go_wp2_with fail
        refine (drawn_no op x (by omega) hlt hx Hfit.out _).mono ?_
        rintro e w2 ⟨rfl, hb2⟩
        unfold insV
        have hs2 : wr.heap.size ≤ w2.heap.size := hb2.size
        have HB2 : Hid (Below wr.heap.size wr w2) := hb2
        clear hb2
        go_wp2
        go_roundw
        case rel => exact ⟨op + 1, by omega, by omega, by go_num, Hm, (HB.out.trans (HB2.out.mono hs)).alloc (by omega) _⟩
        case measure => simp [intOf]; omega
      | true =>
        have Hm : Hid (ins op x = dec x) := by
          have e : (49 - op).toNat = (49 - (op + 1)).toNat + 1 := by omega
          have := Hd.out
          rw [e, Vx.findFrom_hit _ _ _ hfit] at this
          exact this
        have Hfit : Hid (fits op x = true) := hfit
        clear hfit
        go_wp2_with fail
        refine (drawn_yes op x (by omega) hlt hx Hfit.out _).mono ?_
        rintro e w2 ⟨rfl, hb2⟩
        rw [Hm.out]
        unfold insV
        have hs2 : wr.heap.size ≤ w2.heap.size := hb2.size
        have hs3 : w.heap.size < w2.heap.size := by omega
        have hb3 : Below (w.heap.size + 1) (w.alloc (.cells #[.int .i64 0, .int .i64 0, .int .i64 0, .int .i64 0, .int .i64 0] 129)) w2 := HB.out.trans (hb2.mono hs)
        obtain ⟨hcl2, hfr2⟩ : (∀ o, w2.cell? ⟨w.heap.size, o, none⟩ = (w.alloc (.cells #[.int .i64 0, .int .i64 0, .int .i64 0, .int .i64 0, .int .i64 0] 129)).cell? ⟨w.heap.size, o, none⟩) ∧ (∀ o, w2.frozen? ⟨w.heap.size, o, none⟩ = (w.alloc (.cells #[.int .i64 0, .int .i64 0, .int .i64 0, .int .i64 0, .int .i64 0] 129)).frozen? ⟨w.heap.size, o, none⟩) :=
          ⟨fun o => hb3.cell (p := ⟨w.heap.size, o, none⟩) (Nat.lt_succ_self _), fun o => hb3.frozen (p := ⟨w.heap.size, o, none⟩) (Nat.lt_succ_self _)⟩
        have HBW : Hid (Below w.heap.size w w2) := ((Below.refl _ _).alloc (Nat.le_refl _) _).trans (hb3.mono (by omega))
        clear hcl hfr hb2 hb3
        go_wp2
        refine bodyPost_ret (v := insV (dec x)) ?_ rfl ⟨rfl, ?_⟩
        · simp [results, Tryz.results78, go_sem, insV, hcl2, hs3]
        · exact (((((HBW.out.setCell (Nat.le_refl _) _).setCell (Nat.le_refl _) _).setCell (Nat.le_refl _) _).setCell (Nat.le_refl _) _).setCell (Nat.le_refl _) _).alloc (by simp; omega) _
    · have hop : op = 49 := by omega
      subst hop
      have Hm : Hid (zeroIns = dec x) := Hd.out
      go_wp2
      refine bodyPost_ret (v := insV (dec x)) ?_ rfl ⟨rfl, ?_⟩
      · simp [results, Tryz.results78, go_sem, insV, ← Hm.out, zeroIns, hcl]
      · have hbw : Below w.heap.size w wr := ((Below.refl _ _).alloc (Nat.le_refl _) _).trans (HB.out.mono (by omega))
        exact (((((hbw.setCell (Nat.le_refl _) _).setCell (Nat.le_refl _) _).setCell (Nat.le_refl _) _).setCell (Nat.le_refl _) _).setCell (Nat.le_refl _) _)
end Go.Proofs.YtflmobffeeocdaaGreatDoor

import Derived.Test.YtbbabpgmclhinaaCs38
/- Chapter 8, the program's pool: Give: what stands between the rounds. -/
namespace Go.Proofs.Ytbbabpgmclhinaa
open Go.ChangeShapes Go.WideShapes Go.ChangeAt Go.RowKit
open Go.Vx
set_option linter.unusedVariables false
variable {U V S : Nat → Prop} {w w2 w3 wr wx : World} {xb pb mb gb r N cnt cnt2 B L c : Nat} {P a n : Int} {D D2 : DataW Value} {os rs os2 rs2 : List (Int × Int)} {ls : List Int}

theorem fl_inL (xs : List Int) : fl inL xs = xs.map (fun x => .int .i64 x) := by
  induction xs with
  | nil => rfl
  | cons a l ih => rw [fl_cons, ih]; rfl
theorem in_info : (Try.prog.info? 3).map (fun i => (i.zero, i.size, i.bytes)) = some (some (.int .i64 0), 1, 8) := by kernel_rfl
theorem made_ints (n : Nat) : madeCells #[.int .i64 0] (n * 1) = (fl inL (List.replicate n (0 : Int))).toArray := by
  obtain ⟨Z, hZ⟩ : ∃ Z : Array Value, Z = #[.int .i64 0] := ⟨_, rfl⟩
  rw [← hZ]
  have hs : Z.size = 1 := by rw [hZ]; rfl
  apply Array.ext'
  apply List.ext_getElem?
  intro j
  rw [List.toList_toArray, fl_inL, Nat.mul_one]
  by_cases hj : j < n
  · simp only [madeCells, Array.toList_map, Array.toList_range, List.getElem?_map, List.getElem?_range hj, Option.map_some, hs, Nat.mod_one]
    rw [List.getElem?_replicate, if_pos hj, hZ]
    rfl
  · rw [List.getElem?_eq_none (by simp [madeCells]; omega), List.getElem?_eq_none (by simp; omega)]
theorem make_ints (n : Nat) (h : n ≤ 1000) (w : World) : (Instr.makeSlice 34 (.int .i64 (n : Int)) (.int .i64 (n : Int))).run Try.prog w = .ok (.slice (some ⟨w.heap.size, 0, none⟩) n n) (w.alloc (.cells (fl inL (List.replicate n (0 : Int))).toArray 3)) := by
  have hi := in_info
  cases hq : Try.prog.info? 3 with
  | none => rw [hq] at hi; simp at hi
  | some i =>
    rw [hq] at hi
    simp only [Option.map_some, Option.some.injEq, Prod.mk.injEq] at hi
    have := run_make (P := Try.prog) w 34 3 i _ Try.underlying34 hq hi.1 .i64 .i64 n n (by omega) (by omega) (by rw [hi.2.2]; omega) (by omega)
    rw [this, hi.2.1]
    simp only [Int.toNat_natCast, Value.cells]
    rw [made_ints]
theorem own_made2 {α : Type} {Ly : Lay α} {w : World} {g n base : Nat} {T : TypeId} {xs : List α} (h : w.heap[g]? = some (.cells (fl Ly xs).toArray T (0, 0))) (hb : base ≤ g) (hn : n = xs.length) (hm : n ≤ 10000) : OwnL Ly w base T (.slice (some ⟨g, 0, none⟩) n n) xs := by
  subst hn
  refine ⟨by rw [length_fl], Or.inr ⟨g, xs.length, _, rfl, hb, h, Nat.le_refl _, by unfold maxLen; omega, ?_, ?_⟩⟩
  · simp only [List.size_toArray]; rw [length_fl]
  · rw [List.toList_toArray, ← length_fl, List.take_length]
theorem own_num {w : World} {base g m cc : Nat} {T : TypeId} {xs : List Int} (h : OwnL inL w base T (.slice (some ⟨g, 0, none⟩) m cc) xs) (hm : m = xs.length) (k : Nat) (y : Int) :
    OwnL inL (w.setCell ⟨g, k, none⟩ (.int .i64 y)) base T (.slice (some ⟨g, 0, none⟩) m cc) (xs.set k y) ∧ Only (fun b => b = g) w (w.setCell ⟨g, k, none⟩ (.int .i64 y)) := by
  subst hm
  have h0 := (World.ownsRow.stored h k (.int .i64 y)).1
  refine ⟨?_, Only.setCell (S := fun b => b = g) (Only.refl _ w) (Or.inl rfl) _⟩
  have hz : (fl inL xs).set k (.int .i64 y) = fl inL (xs.set k y) := by rw [fl_inL, fl_inL, List.map_set]
  rw [hz] at h0
  show World.ownsRow _ _ _ _ _ (xs.set k y).length _
  rw [List.length_set]
  exact h0
def gO (k : Int) (os : List (Int × Int)) (l : List Int) : List (Int × Int) := if k = 1 then os else os ++ l.map (fun y => (k, y))
def gG (k : Int) (rs : List (Int × Int)) (l : List Int) : List (Int × Int) := if k = 1 then rs ++ l.map (fun y => (y, 0)) else rs
/-- Under way. -/
structure GvX (U : Nat → Prop) (w : World) (xb mb gb N B L c : Nat) (a n : Int) (os rs : List (Int × Int)) (ls : List Int) (wr : World) : Prop where
  x : ∃ D, XqAt (fun k => U k ∨ k = L ∨ k = B) wr xb mb gb D N os rs
  l : OwnL inL wr w.heap.size 3 (.slice (some ⟨L, 0, none⟩) c c) ls
  b : OwnL slL wr 0 75 (.slice (some ⟨B, 0, none⟩) 1 1) [(a, n)]
  on : Only (fun k => ¬ U k) w wr
  lb : w.heap.size ≤ L
  lc : ls.length = c
theorem GvX.bc (h : GvX U w xb mb gb N B L c a n os rs ls wr) : wr.cell? ⟨B, 0, none⟩ = some (.int .i64 a) ∧ wr.cell? ⟨B, 1, none⟩ = some (.int .i64 n) := ⟨(h.b.cell 0 0 (Nat.zero_lt_one) (by decide)).trans rfl, (h.b.cell 0 1 (Nat.zero_lt_one) (by decide)).trans rfl⟩
theorem own_same_block {g j n c : Nat} (hj : (Value.slice (some ⟨g, 0, none⟩) n c).ownBlock = some j) : j = g := by
  have : g = j := by simpa [Value.ownBlock] using hj
  exact this.symm
theorem GvX.put (h : GvX U w xb mb gb N B L c a n os rs ls wr) (k : Nat) (y : Int) : GvX U w xb mb gb N B L c a n os rs (ls.set k y) (wr.setCell ⟨L, k, none⟩ (.int .i64 y)) := by
  obtain ⟨h1, ho⟩ := own_num h.l h.lc.symm k y
  obtain ⟨D, hx⟩ := h.x
  obtain ⟨cur, hc⟩ := own_tag h.l (k := L) rfl
  obtain ⟨cur2, hc2⟩ := own_tag h.b (k := B) rfl
  refine ⟨⟨D, hx.step ho (fun j _ hj => Or.inr (Or.inl hj)) (fun _ h => Or.inl h)⟩, h1, h.b.kept ho (fun j hj e => tag_ne hc hc2 (by decide) (e.symm.trans (own_same_block hj))), Only.newer h.on ho h.lb, h.lb, by rw [List.length_set]; exact h.lc⟩
theorem GvX.grow (h : GvX U w xb mb gb N B L c a n os rs ls wr) (hx : ∃ D, XqAt (fun k => U k ∨ k = L ∨ k = B) wx xb mb gb D N os2 rs2) (ho : Only (fun j => ¬ (U j ∨ j = L ∨ j = B)) wr wx) : GvX U w xb mb gb N B L c a n os2 rs2 ls wx :=
  ⟨hx, h.l.kept ho (fun j hj hn => hn (Or.inr (Or.inl (own_same_block hj)))), h.b.kept ho (fun j hj hn => hn (Or.inr (Or.inr (own_same_block hj)))), h.on.trans (ho.mono (fun j _ hj hu => hj (Or.inl hu))), h.lb, h.lc⟩
theorem GvX.lay {k y : Int} {l : List Int} (h : GvX U w xb mb gb N B L c a n (gO k os l) (gG k rs l) ls wr)
    (h1 : k = 1 → ((rs ++ (l ++ [y]).map (fun y => (y, (0 : Int)))).map (·.1)).Nodup ∧ (∀ r ∈ rs ++ (l ++ [y]).map (fun y => (y, (0 : Int))), I64 r.1) ∧ (rs ++ l.map (fun y => (y, (0 : Int)))).length < 1000000)
    (h2 : k ≠ 1 → ((os ++ (l ++ [y]).map (fun y => (k, y))).map (·.2)).Nodup ∧ 0 ≤ y ∧ y < (N : Int)) :
    Calls Try.prog 25 #[.pointer (some ⟨xb, 0, none⟩), .agg #[.int .i64 k, .int .i64 y]] wr fun e w' => (∃ v, e = .returned v) ∧ Hid (GvX U w xb mb gb N B L c a n (gO k os (l ++ [y])) (gG k rs (l ++ [y])) ls w') := by
  obtain ⟨D, hx⟩ := h.x
  by_cases hk : k = 1
  · subst hk
    obtain ⟨hn, hi, hlen⟩ := h1 rfl
    have e1 : ∀ l, gO 1 os l = os := fun l => if_pos rfl
    have e2 : ∀ l, gG 1 rs l = rs ++ l.map (fun y => (y, 0)) := fun l => if_pos rfl
    rw [e1, e2] at hx
    rw [e1, e2] at h ⊢
    have e3 : rs ++ (l ++ [y]).map (fun y => (y, (0 : Int))) = (rs ++ l.map (fun y => (y, (0 : Int)))) ++ [(y, 0)] := by simp
    rw [e3] at hn hi ⊢
    rw [List.map_append, List.nodup_append] at hn
    refine (play_unt hx hn.1 (fun r hr => hi r (List.mem_append_left _ hr)) hlen y (hi (y, 0) (by simp)) (fun hm => hn.2.2 y hm y (by simp) rfl)).mono ?_
    rintro e w' ⟨hv, hx2, ho⟩
    exact ⟨hv, h.grow hx2 ho⟩
  · obtain ⟨hn, hy0, hyN⟩ := h2 hk
    have e1 : ∀ l, gO k os l = os ++ l.map (fun y => (k, y)) := fun l => if_neg hk
    have e2 : ∀ l, gG k rs l = rs := fun l => if_neg hk
    rw [e1, e2] at hx
    rw [e1, e2] at h ⊢
    have e3 : os ++ (l ++ [y]).map (fun y => (k, y)) = (os ++ l.map (fun y => (k, y))) ++ [(k, y)] := by simp
    rw [e3] at hn ⊢
    rw [List.map_append, List.nodup_append] at hn
    have hrow := row_add (N := N) (o := (k, y)) hn.1 (fun x hx3 he => hn.2.2 x.2 (List.mem_map.2 ⟨x, hx3, rfl⟩) y (by simp) he) hy0
    obtain ⟨q, rfl⟩ : ∃ q : Nat, y = (q : Int) := ⟨y.toNat, by omega⟩
    have e8 : ((k, (q : Int)).2).toNat = q := by simp
    rw [e8] at hrow
    refine (play_obj hx k q hk (by omega) hrow).mono ?_
    rintro e w' ⟨hv, hx2, ho⟩
    exact ⟨hv, h.grow ⟨D, hx2⟩ ho⟩
end Go.Proofs.Ytbbabpgmclhinaa

/- Chapter 8, the program's pool: Give: its refusals. -/
namespace Go.Proofs.Ytbbabpgmclhinaa
open Go.ChangeShapes Go.WideShapes Go.ChangeAt Go.RowKit
open Go.Vx
set_option linter.unusedVariables false
variable {U V S : Nat → Prop} {w w2 w3 wr wx : World} {xb pb mb gb r N cnt cnt2 B L c : Nat} {P a n : Int} {D D2 : DataW Value} {os rs os2 rs2 : List (Int × Int)} {ls : List Int}

theorem give_can (os rs : List (Int × Int)) (num kind order many : Int) : giveE os rs num kind order many = if canE kind order many ≠ 0 then canE kind order many else match rgF rs num with
  | none => 6
  | some i => if (kind = 1 ∧ pgN (1, num) ≤ ((2 ^ order.toNat : Nat) : Int)) ∨ pgN (1, num) < (giveM os rs num i (2 ^ order.toNat) : Int) + many * ((2 ^ order.toNat : Nat) : Int) then 14 else 0 := by
  unfold giveE canE
  by_cases h1 : kind < 1 ∨ 8 < kind
  · rw [if_pos h1, if_pos h1]; rfl
  · rw [if_neg h1, if_neg h1]
    by_cases h2 : order < 0 ∨ 8 < order ∨ (kind ≠ 1 ∧ order ≠ 0) ∨ many < 1 ∨ 64 < many
    · rw [if_pos h2, if_pos h2]; rfl
    · rw [if_neg h2, if_neg h2]; rfl
theorem can_bd {k o c : Int} (h : canE k o c = 0) : (1 ≤ k ∧ k ≤ 8) ∧ (0 ≤ o ∧ o ≤ 8) ∧ (k ≠ 1 → o = 0) ∧ 1 ≤ c ∧ c ≤ 64 := by
  unfold canE at h
  by_cases h1 : k < 1 ∨ 8 < k
  · rw [if_pos h1] at h; cases h
  · rw [if_neg h1] at h
    by_cases h2 : o < 0 ∨ 8 < o ∨ (k ≠ 1 ∧ o ≠ 0) ∨ c < 1 ∨ 64 < c
    · rw [if_pos h2] at h; cases h
    · omega
/-- Nothing was given. -/
theorem gvKeep (h : XpAt U w xb P os rs) {num kind order many : Int} (he : giveE os rs num kind order many ≠ 0) (wv : World) (hv : Only (fun _ => False) w wv) :
    OwnL inL wv w.heap.size 3 (.slice none 0 0) (giveRs os rs num kind order many) ∧ XpAt (fun k => U k ∨ (Value.slice none 0 0).ownBlock = some k) wv xb P (giveRO os rs num kind order many) (giveRG os rs num kind order many) ∧ Only (fun k => ¬ U k) w wv := by
  have e1 : giveRs os rs num kind order many = [] := if_neg he
  have e2 : giveRO os rs num kind order many = os := if_neg he
  have e3 : giveRG os rs num kind order many = rs := if_neg he
  rw [e1, e2, e3]
  refine ⟨OwnL.nil _ _ _ _, h.step hv (fun _ _ h => h.elim) (fun k hk => ?_), hv.mono (fun _ _ h => h.elim)⟩
  rcases hk with hk | hk
  · exact Or.inl hk
  · cases hk
def GvQ (U : Nat → Prop) (w : World) (xb : Nat) (P : Int) (os rs : List (Int × Int)) (num kind order many : Int) (e : Ending) (w' : World) : Prop := ∃ v, e = .returned (.tuple #[v, .int .i64 (giveE os rs num kind order many)]) ∧ OwnL inL w' w.heap.size 3 v (giveRs os rs num kind order many) ∧ XpAt (fun k => U k ∨ v.ownBlock = some k) w' xb P (giveRO os rs num kind order many) (giveRG os rs num kind order many) ∧ Only (fun k => ¬ U k) w w'
set_option maxHeartbeats 1000000 in
theorem give_r1 (h : XpAt U w xb P os rs) (num kind order many : Int) (hc : canE kind order many ≠ 0) : Calls Try.prog 9 #[.pointer (some ⟨xb, 0, none⟩), .int .i64 num, .int .i64 kind, .int .i64 order, .int .i64 many] w (GvQ U w xb P os rs num kind order many) := by
  have he : giveE os rs num kind order many = canE kind order many := by rw [give_can, if_pos hc]
  have HK := Vx.hid (gvKeep h (num := num) (kind := kind) (order := order) (many := many) (by rw [he]; exact hc))
  have HCA := Vx.hid (fun wv => pcan_ok kind order many wv)
  have HQ : Hid (∀ e w', e = .returned (.tuple #[.slice none 0 0, .int .i64 (canE kind order many)]) ∧ Only (fun _ => False) w w' → GvQ U w xb P os rs num kind order many e w') := fun e w' hh => ⟨_, by rw [hh.1, he], (HK.out _ hh.2).1, (HK.out _ hh.2).2.1, (HK.out _ hh.2).2.2⟩
  generalize canE kind order many = er at HCA HQ hc
  have hc2 : (er == 0) = false := beq_eq_false_iff_ne.2 hc
  have hc3 : (er != 0) = true := by simpa using hc
  clear h he HK
  refine Calls.mono ?_ HQ.out
  clear HQ
  go_enter Try.func9, Try.ntmps9
  go_wp2_with fail
  refine (HCA.out _).mono ?_
  rintro e w' ⟨rfl, h⟩
  have h3 := h.symm; clear h; subst h3
  go_wp2_with fail
  all_goals
    go_ret2
    exact ⟨rfl, Only.refl _ _⟩
set_option maxHeartbeats 1000000 in
theorem give_r2 (h : XpAt U w xb P os rs) (num kind order many : Int) (hn : I64 num) (hc : canE kind order many = 0) (hi : rgF rs num = none) : Calls Try.prog 9 #[.pointer (some ⟨xb, 0, none⟩), .int .i64 num, .int .i64 kind, .int .i64 order, .int .i64 many] w (GvQ U w xb P os rs num kind order many) := by
  have he : giveE os rs num kind order many = 6 := by rw [give_can, if_neg (fun h => h hc), hi]
  have HK := Vx.hid (gvKeep h (num := num) (kind := kind) (order := order) (many := many) (by rw [he]; decide))
  have HCA := Vx.hid (fun wv => pcan_ok kind order many wv)
  have HQ : Hid (∀ e w', e = .returned (.tuple #[.slice none 0 0, .int .i64 6]) ∧ Only (fun _ => False) w w' → GvQ U w xb P os rs num kind order many e w') := fun e w' hh => ⟨_, by rw [hh.1, he], (HK.out _ hh.2).1, (HK.out _ hh.2).2.1, (HK.out _ hh.2).2.2⟩
  obtain ⟨hw, mb, gb, D, N, rfl, hx⟩ := h
  have HBE := Vx.hid (pbegin_ok hx hw num hn)
  have e2 : begR os rs num = (0, 6) := by unfold begR; rw [hi]
  rw [e2] at HBE
  rw [hc] at HCA
  clear he HK hw hx e2 hc hi hn
  refine Calls.mono ?_ HQ.out
  clear HQ
  go_enter Try.func9, Try.ntmps9
  go_wp2_with fail
  refine (HCA.out _).mono ?_
  rintro e w' ⟨rfl, h⟩
  have h3 := h.symm; clear h; subst h3
  go_wp2_with fail
  refine HBE.out.mono ?_
  rintro e w3 ⟨rfl, h3⟩
  have H3 := Vx.hid h3
  clear h3
  go_wp2_with fail
  all_goals
    go_ret2
    exact ⟨rfl, H3.out⟩
end Go.Proofs.Ytbbabpgmclhinaa

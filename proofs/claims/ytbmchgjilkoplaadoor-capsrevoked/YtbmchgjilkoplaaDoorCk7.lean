import Derived.Test.YtbmchgjilkoplaaDoorCk6
import Derived.Test.YtbmchgjilkoplaaDoorCk2
/- Lists of one's own, common to the packages: kinds, tags, where a grown list lies; a list as it lies. -/
namespace Go.Vx
theorem nodup_le {α : Type} [DecidableEq α] : ∀ (l m : List α), l.Nodup → (∀ x ∈ l, x ∈ m) → l.length ≤ m.length
  | [], m, _, _ => Nat.zero_le _
  | x :: l, m, hn, hs => by
    rw [List.nodup_cons] at hn
    have hx := hs x (by simp)
    have h1 := nodup_le l (m.erase x) hn.2 (fun y hy => by
      have hyx : y ≠ x := fun e => hn.1 (by rw [← e]; exact hy)
      exact (List.mem_erase_of_ne hyx).2 (hs y (by simp [hy])))
    rw [List.length_erase_of_mem hx] at h1
    have : 0 < m.length := List.length_pos_of_mem hx
    rw [List.length_cons]
    omega
end Go.Vx
namespace Go.Proofs.YtbmchgjilkoplaaDoor
open Go.ChangeShapes Go.WideShapes Go.ChangeAt Go.RowKit
open Go.Vx
set_option linter.unusedVariables false

theorem kind_of {α : Type} {L : Lay α} {t e : TypeId} {z : Value} {b : Nat} (ht : Tryd.prog.underlying t = some (.slice e)) (h : (Tryd.prog.info? e).map (fun i => (i.zero, i.size, i.bytes)) = some (some z, L.sz, b)) (hz : z.cells.size = L.sz) (hb : b ≤ 1000) : Kind Tryd.prog L t e := by
  refine ⟨ht, ?_⟩
  cases hq : Tryd.prog.info? e with
  | none => rw [hq] at h; simp at h
  | some i =>
    rw [hq] at h
    simp only [Option.map_some, Option.some.injEq, Prod.mk.injEq] at h
    exact ⟨i, z, rfl, h.1, h.2.1, by omega, hz⟩
theorem own_tag {α : Type} {L : Lay α} {w : World} {base : Nat} {e : TypeId} {v : Value} {xs : List α} (h : OwnL L w base e v xs) {k : Nat} (hk : v.ownBlock = some k) : ∃ cur, w.heap[k]? = some (.cells cur e (0, 0)) := by
  rcases h.2 with ⟨hv, _⟩ | ⟨g, cap, cur, hv, _, hg, _⟩
  · rw [hv] at hk; cases hk
  · rw [hv] at hk
    have : g = k := by simpa [Value.ownBlock] using hk
    subst this
    exact ⟨cur, hg⟩
theorem tag_ne {w : World} {j k : Nat} {c d : Array Value} {t u : TypeId} (h : w.heap[j]? = some (.cells c t (0, 0))) (h' : w.heap[k]? = some (.cells d u (0, 0))) (hn : t ≠ u) : j ≠ k := by
  rintro rfl
  rw [h] at h'
  injection h' with h'
  injection h' with _ h'
  exact hn h'
/-- Where a grown list lies. -/
theorem lies_of {w w3 : World} {v v' : Value} (h : v'.ownBlock = v.ownBlock ∨ ∃ g, v'.ownBlock = some g ∧ w.heap.size ≤ g ∧ Only (fun _ => False) w w3) : ∀ k, v'.ownBlock = some k → v.ownBlock = some k ∨ w.heap.size ≤ k := by
  intro k hk
  rcases h with h | ⟨g, h, hg, _⟩
  · rw [h] at hk; exact Or.inl hk
  · rw [h] at hk
    injection hk with hk
    subst hk
    exact Or.inr hg
theorem own_zero {α : Type} {L : Lay α} {w : World} {base : Nat} {e : TypeId} {v : Value} {xs : List α} (h : OwnL L w base e v xs) : OwnL L w 0 e v xs :=
  ⟨h.1, h.2.imp (fun h => h) (fun ⟨g, cap, cur, a, b, c⟩ => ⟨g, cap, cur, a, Nat.zero_le _, c⟩)⟩
theorem own_lt {α : Type} {L : Lay α} {w : World} {base : Nat} {e : TypeId} {v : Value} {xs : List α} (h : OwnL L w base e v xs) {k : Nat} (hk : v.ownBlock = some k) : base ≤ k ∧ k < w.heap.size := World.ownsRow.lt h k hk
theorem Only.keep {S : Nat → Prop} {w w2 : World} (h : Only S w w2) {b : Nat} {o : Obj} (hb : w.heap[b]? = some o) (hS : ¬ S b) : w2.heap[b]? = some o := by rw [h.block b (lt_of_some hb) hS]; exact hb
/-- The marks of a slot, where it lies. -/
theorem own_slot {w : World} {base g c m : Nat} {T : TypeId} {xs : List Sl} (h : OwnL slL w base T (.slice (some ⟨g, 0, none⟩) m c) xs) (hm : m = xs.length) (k : Nat) (hk : k < xs.length) (y : Sl) :
    OwnL slL ((w.setCell ⟨g, k * 2, none⟩ (.int .i64 y.1)).setCell ⟨g, k * 2 + 1, none⟩ (.int .i64 y.2)) base T (.slice (some ⟨g, 0, none⟩) m c) (xs.set k y) ∧ Only (fun b => b = g) w ((w.setCell ⟨g, k * 2, none⟩ (.int .i64 y.1)).setCell ⟨g, k * 2 + 1, none⟩ (.int .i64 y.2)) := by
  subst hm
  have h0 := (World.ownsRow.stored h (k * 2) (.int .i64 y.1)).1
  have h1 := (World.ownsRow.stored h0 (k * 2 + 1) (.int .i64 y.2)).1
  have o1 : Only (fun b => b = g) w (w.setCell ⟨g, k * 2, none⟩ (.int .i64 y.1)) := Only.setCell (S := fun b => b = g) (Only.refl _ w) (Or.inl rfl) _
  have o2 := Only.setCell (S := fun b => b = g) o1 (p := ⟨g, k * 2 + 1, none⟩) (Or.inl rfl) (.int .i64 y.2)
  refine ⟨?_, o2⟩
  have hz : ((fl slL xs).set (k * 2) (.int .i64 y.1)).set (k * 2 + 1) (.int .i64 y.2) = fl slL (xs.set k y) := by
    refine fl_set slL xs k y hk _ (by simp) (fun j hj => ?_) (fun i hi => ?_)
    · have hj' : j < 2 := hj
      have hlen : (fl slL xs).length = xs.length * 2 := length_fl slL xs
      have hs2 : slL.sz = 2 := rfl
      rw [hs2, List.getElem?_set, List.getElem?_set]
      rcases (by omega : j = 0 ∨ j = 1) with rfl | rfl
      · rw [if_neg (by omega), if_pos (by omega), if_pos (by rw [hlen]; omega)]; rfl
      · rw [if_pos (by omega), if_pos (by rw [List.length_set, hlen]; omega)]; rfl
    · have hs2 : slL.sz = 2 := rfl
      rw [hs2] at hi
      rw [List.getElem?_set, List.getElem?_set, if_neg (by omega), if_neg (by omega)]
  rw [hz] at h1
  show World.ownsRow _ _ _ _ _ (xs.set k y).length _
  rw [List.length_set]
  exact h1
/-- Numbers in a row. -/
def inL : Lay Int := ⟨fun x => [.int .i64 x], 1, fun _ => rfl, fun a u hu => by simp only [List.mem_cons, List.not_mem_nil, or_false] at hu; subst hu; rfl, by decide⟩
/-- A list as it lies. -/
def LieL {α : Type} (L : Lay α) (w : World) (v : Value) (xs : List α) : Prop := ∃ p c, v = .slice p xs.length c ∧ xs.length ≤ 10000000 ∧ ∀ (k : Nat) (hk : k < xs.length), ∃ g, p = some ⟨g, 0, none⟩ ∧ ∀ j, j < L.sz → w.cell? ⟨g, k * L.sz + j, none⟩ = (L.cf xs[k])[j]?
theorem own_lie {α : Type} {L : Lay α} {w : World} {base : Nat} {e : TypeId} {v : Value} {xs : List α} (h : OwnL L w base e v xs) (hn : xs.length ≤ 10000000) : LieL L w v xs := by
  obtain ⟨p, c, rfl, _, _, hg⟩ := h.form
  refine ⟨p, c, rfl, hn, fun k hk => ?_⟩
  obtain ⟨g, rfl, _⟩ := hg (by omega)
  exact ⟨g, rfl, fun j hj => h.cell k j hk hj⟩
end Go.Proofs.YtbmchgjilkoplaaDoor

/- Chapter 7, the document's store: Make. -/
namespace Go.Proofs.YtbmchgjilkoplaaDoor
open Go.ChangeShapes Go.WideShapes Go.ChangeAt Go.RowKit
open Go.Vx
set_option linter.unusedVariables false

theorem bxK : Kind Tryd.prog bxL 27 116 := kind_of (z := .agg #[.int .i64 0, .int .i64 0]) (b := 16) Tryd.underlying27 (by kernel_rfl) rfl (by decide)
theorem slK : Kind Tryd.prog slL 57 62 := kind_of (z := .agg #[.int .i64 0, .int .i64 0]) (b := 16) Tryd.underlying57 (by kernel_rfl) rfl (by decide)
theorem enK : Kind Tryd.prog enL 28 72 := kind_of (z := .agg #[.int .i64 0, .int .i64 0, .int .i64 0, .int .i64 0, .int .i64 0, .int .u32 0, .int .u32 0, .int .i64 0, .int .i64 0, .int .u32 0, .int .i64 0, .int .i64 0]) (b := 88) Tryd.underlying28 (by kernel_rfl) rfl (by decide)
/-- Some store of the document's. -/
def RcAt (U : Nat → Prop) (w : World) (rb : Nat) (bs : List (Int × Int)) (es : List En) : Prop := ∃ vb ve, RsAt U w rb vb ve bs es
theorem RsAt.fz {U : Nat → Prop} {w : World} {rb : Nat} {vb ve : Value} {bs : List (Int × Int)} {es : List En} (h : RsAt U w rb vb ve bs es) (j : Nat) : w.frozen? ⟨rb, j, none⟩ = false := by
  have := h.r
  simp [World.frozen?, this]
/-- Other boxes in the place of these. -/
theorem RsAt.setB {U : Nat → Prop} {w w3 : World} {rb : Nat} {vb ve v' : Value} {bs bs' : List (Int × Int)} {es : List En} (h : RsAt U w rb vb ve bs es) (ho : OwnL bxL w3 0 116 v' bs') (hon : Only (fun k => vb.ownBlock = some k) w w3) (hl : ∀ k, v'.ownBlock = some k → vb.ownBlock = some k ∨ w.heap.size ≤ k) (hn : bs'.length ≤ 1000000) :
    (∃ x, w3.cell? ⟨rb, 0, none⟩ = some x) ∧ w3.frozen? ⟨rb, 0, none⟩ = false ∧ RsAt U (w3.setCell ⟨rb, 0, none⟩ v') rb v' ve bs' es ∧ Only (fun k => ¬ U k) w (w3.setCell ⟨rb, 0, none⟩ v') := by
  have n1 : ∀ k, vb.ownBlock = some k → k ≠ rb := fun k hk => by
    obtain ⟨cur, hc⟩ := own_tag h.b hk
    exact tag_ne hc h.r (by decide)
  have n2 : ∀ k j, vb.ownBlock = some k → ve.ownBlock = some j → k ≠ j := fun k j hk hj => by
    obtain ⟨cur, hc⟩ := own_tag h.b hk
    obtain ⟨cur2, hc2⟩ := own_tag h.e hj
    exact tag_ne hc hc2 (by decide)
  have n3 : ∀ j, ve.ownBlock = some j → j ≠ rb := fun j hj => by
    obtain ⟨cur2, hc2⟩ := own_tag h.e hj
    exact tag_ne hc2 h.r (by decide)
  have hr3 : w3.heap[rb]? = some (.cells #[vb, ve] 30 (0, 0)) := by rw [hon.block rb (lt_of_some h.r) (fun e => n1 rb e rfl)]; exact h.r
  have hne' : ∀ k, v'.ownBlock = some k → k ≠ rb := fun k hk => by
    obtain ⟨cur, hc⟩ := own_tag ho hk
    exact tag_ne hc hr3 (by decide)
  have hs : Only (fun k => k = rb) w3 (w3.setCell ⟨rb, 0, none⟩ v') := Only.setCell (S := fun k => k = rb) (Only.refl _ w3) (Or.inl rfl) _
  have he3 : OwnL enL w3 0 72 ve es := h.e.kept hon (fun k hk e => n2 k k e hk rfl)
  refine ⟨⟨vb, (cell_of_row _ _ 0 _ _ (0, 0) hr3).trans rfl⟩, by simp [World.frozen?, hr3], ⟨?_, ho.kept hs hne', he3.kept hs (fun k hk e => n3 k hk e), h.ur, fun k hk => ?_, h.ue, fun k hk => ?_, hn, h.ne⟩, ?_⟩
  · rw [heap_setCell_same _ _ 0 _ _ v' hr3]; rfl
  · rcases hl k hk with hl | hl
    · exact h.ub k hl
    · intro hu
      have := h.low k hu
      omega
  · exact Nat.lt_of_lt_of_le (h.low k hk) (Nat.le_trans hon.size hs.size)
  · refine (hon.mono (fun k _ hk => h.ub k hk)).trans ?_
    exact hs.mono (fun k _ hk => by subst hk; exact h.ur)
/-- Other entries in the place of these. -/
theorem RsAt.setE {U : Nat → Prop} {w w3 : World} {rb : Nat} {vb ve v' : Value} {bs : List (Int × Int)} {es es' : List En} (h : RsAt U w rb vb ve bs es) (ho : OwnL enL w3 0 72 v' es') (hon : Only (fun k => ve.ownBlock = some k) w w3) (hl : ∀ k, v'.ownBlock = some k → ve.ownBlock = some k ∨ w.heap.size ≤ k) (hn : es'.length ≤ 1000000) :
    (∃ x, w3.cell? ⟨rb, 1, none⟩ = some x) ∧ w3.frozen? ⟨rb, 1, none⟩ = false ∧ RsAt U (w3.setCell ⟨rb, 1, none⟩ v') rb vb v' bs es' ∧ Only (fun k => ¬ U k) w (w3.setCell ⟨rb, 1, none⟩ v') := by
  have n1 : ∀ k, ve.ownBlock = some k → k ≠ rb := fun k hk => by
    obtain ⟨cur, hc⟩ := own_tag h.e hk
    exact tag_ne hc h.r (by decide)
  have n2 : ∀ k j, ve.ownBlock = some k → vb.ownBlock = some j → k ≠ j := fun k j hk hj => by
    obtain ⟨cur, hc⟩ := own_tag h.e hk
    obtain ⟨cur2, hc2⟩ := own_tag h.b hj
    exact tag_ne hc hc2 (by decide)
  have n3 : ∀ j, vb.ownBlock = some j → j ≠ rb := fun j hj => by
    obtain ⟨cur2, hc2⟩ := own_tag h.b hj
    exact tag_ne hc2 h.r (by decide)
  have hr3 : w3.heap[rb]? = some (.cells #[vb, ve] 30 (0, 0)) := by rw [hon.block rb (lt_of_some h.r) (fun e => n1 rb e rfl)]; exact h.r
  have hne' : ∀ k, v'.ownBlock = some k → k ≠ rb := fun k hk => by
    obtain ⟨cur, hc⟩ := own_tag ho hk
    exact tag_ne hc hr3 (by decide)
  have hs : Only (fun k => k = rb) w3 (w3.setCell ⟨rb, 1, none⟩ v') := Only.setCell (S := fun k => k = rb) (Only.refl _ w3) (Or.inl rfl) _
  have he3 : OwnL bxL w3 0 116 vb bs := h.b.kept hon (fun k hk e => n2 k k e hk rfl)
  refine ⟨⟨ve, (cell_of_row _ _ 1 _ _ (0, 0) hr3).trans rfl⟩, by simp [World.frozen?, hr3], ⟨?_, he3.kept hs (fun k hk e => n3 k hk e), ho.kept hs hne', h.ur, h.ub, fun k hk => ?_, fun k hk => ?_, h.nb, hn⟩, ?_⟩
  · rw [heap_setCell_same _ _ 1 _ _ v' hr3]; rfl
  · rcases hl k hk with hl | hl
    · exact h.ue k hl
    · intro hu
      have := h.low k hu
      omega
  · exact Nat.lt_of_lt_of_le (h.low k hk) (Nat.le_trans hon.size hs.size)
  · refine (hon.mono (fun k _ hk => h.ue k hk)).trans ?_
    exact hs.mono (fun k _ hk => by subst hk; exact h.ur)
theorem RsAt.aside {U S : Nat → Prop} {w w' : World} {rb : Nat} {vb ve : Value} {bs : List (Int × Int)} {es : List En} (h : RsAt U w rb vb ve bs es) (ho : Only S w w') (h1 : ¬ S rb) (h2 : ∀ k, vb.ownBlock = some k → ¬ S k) (h3 : ∀ k, ve.ownBlock = some k → ¬ S k) : RsAt U w' rb vb ve bs es :=
  ⟨by rw [ho.block rb (lt_of_some h.r) h1]; exact h.r, h.b.kept ho h2, h.e.kept ho h3, h.ur, h.ub, h.ue, fun k hk => Nat.lt_of_lt_of_le (h.low k hk) ho.size, h.nb, h.ne⟩
def makeE (bs : List (Int × Int)) (num n : Int) : Int := if num < 0 ∨ twoB n = false then 1 else match boxF bs num with | some _ => 7 | none => 0
def makeL (bs : List (Int × Int)) (num n : Int) : List (Int × Int) := if makeE bs num n = 0 then bs ++ [(num, n)] else bs
set_option maxRecDepth 100000 in
set_option maxHeartbeats 1000000 in
theorem make_ok {U : Nat → Prop} {w : World} {rb : Nat} {bs : List (Int × Int)} {es : List En} (hc : RcAt U w rb bs es) (num n : Int) (hlen : bs.length < 1000000) : Calls Tryd.prog 25 #[.pointer (some ⟨rb, 0, none⟩), .int .i64 num, .int .i64 n] w fun e w' => e = .returned (.int .i64 (makeE bs num n)) ∧ RcAt U w' rb (makeL bs num n) es ∧ Only (fun k => ¬ U k) w w' := by
  obtain ⟨vb, ve, h⟩ := hc
  have HTP := Vx.hid (twoPower_ok n w)
  have HBX := Vx.hid (box_ok h num)
  have HH := Vx.hid h
  have c0 := h.c0
  have f0 := h.fz 0
  clear h
  by_cases hb : num < 0 ∨ twoB n = false
  · have HE : Hid (makeE bs num n = 1) := if_pos hb
    have HR : Hid (RcAt U w rb (makeL bs num n) es) := ⟨vb, ve, by unfold makeL; rw [HE.out]; exact HH.out⟩
    clear HBX
    by_cases h1 : num < 0
    · go_enter Tryd.func25, Tryd.ntmps25
      go_wp2_with fail
      refine HTP.out.mono ?_
      rintro e w' ⟨rfl, h⟩
      have h2 := h.symm; clear h; subst h2
      go_wp2_with fail
      all_goals
        go_ret
        exact ⟨by rw [HE.out]; rfl, HR.out, Only.refl _ _⟩
    · have h3 : twoB n = false := by rcases hb with hb | hb; exact absurd hb h1; exact hb
      rw [h3] at HTP
      clear hb
      go_enter Tryd.func25, Tryd.ntmps25
      go_wp2_with fail
      refine HTP.out.mono ?_
      rintro e w' ⟨rfl, h⟩
      have h2 := h.symm; clear h; subst h2
      go_wp2_with fail
      all_goals
        go_ret
        exact ⟨by rw [HE.out]; rfl, HR.out, Only.refl _ _⟩
  · have h1 : ¬ num < 0 := fun h => hb (Or.inl h)
    have h3 : twoB n = true := by cases h : twoB n; exact absurd (Or.inr h) hb; rfl
    rw [h3] at HTP
    cases hx : boxF bs num with
    | some i =>
      have HE : Hid (makeE bs num n = 7) := by show makeE bs num n = 7; unfold makeE; rw [if_neg hb, hx]
      have HR : Hid (RcAt U w rb (makeL bs num n) es) := ⟨vb, ve, by unfold makeL; rw [HE.out]; exact HH.out⟩
      rw [hx] at HBX
      have HB2 : Hid (Calls Tryd.prog 58 #[.pointer (some ⟨rb, 0, none⟩), .int .i64 num] w fun e w' => e = .returned (.int .i64 (i : Int)) ∧ w' = w) := HBX
      have h4 : 0 ≤ (i : Int) := by omega
      clear hb hx HBX h3
      go_enter Tryd.func25, Tryd.ntmps25
      go_wp2_with fail
      refine HTP.out.mono ?_
      rintro e w' ⟨rfl, h⟩
      have h2 := h.symm; clear h; subst h2
      go_wp2_with fail
      refine HB2.out.mono ?_
      rintro e w' ⟨rfl, h⟩
      have h2 := h.symm; clear h; subst h2
      go_wp2_with fail
      all_goals
        go_ret
        exact ⟨by rw [HE.out]; rfl, HR.out, Only.refl _ _⟩
    | none =>
      have HE : Hid (makeE bs num n = 0) := by show makeE bs num n = 0; unfold makeE; rw [if_neg hb, hx]
      have HL : Hid (makeL bs num n = bs ++ [(num, n)]) := by show makeL bs num n = _; unfold makeL; rw [HE.out]; rfl
      rw [hx] at HBX
      have HB2 : Hid (Calls Tryd.prog 58 #[.pointer (some ⟨rb, 0, none⟩), .int .i64 num] w fun e w' => e = .returned (.int .i64 (-1)) ∧ w' = w) := HBX
      have HLN := Vx.hid hlen
      have HL1 : Hid (bs.length + 1 ≤ 10000000) := Nat.le_trans hlen (by decide)
      have HL2 : Hid ((bs ++ [(num, n)]).length ≤ 1000000) := by show (bs ++ [(num, n)]).length ≤ 1000000; rw [List.length_append]; exact hlen
      clear hb hx HBX h3 hlen
      go_enter Tryd.func25, Tryd.ntmps25
      go_wp2_with fail
      refine HTP.out.mono ?_
      rintro e w' ⟨rfl, h⟩
      have h2 := h.symm; clear h; subst h2
      go_wp2_with fail
      refine HB2.out.mono ?_
      rintro e w' ⟨rfl, h⟩
      have h2 := h.symm; clear h; subst h2
      go_wp2_with (at_builtin; refine wpList_append_one bxK _ rfl _ _ rfl 0 vb bs rfl HH.out.b (num, n) _ _ rfl rfl rfl HL1.out (Nat.zero_le _) ?_; intro v' w3 hv1 hv2 hv3; obtain ⟨p', c', hv', _⟩ := hv1.form; subst hv'; obtain ⟨⟨x0, hx0⟩, hf0, hR, hO⟩ := HH.out.setB hv1 hv2 (lies_of hv3) HL2.out; have HR := Vx.hid hR; have HO := Vx.hid hO; clear hv1 hv2 hv3 hR hO)
      all_goals
        go_ret
        have h1 := HO.out
        have h2 := HR.out
        simp only [List.length_append, List.length_cons, List.length_nil, Nat.zero_add] at h1 h2
        exact ⟨by rw [HE.out]; rfl, by rw [HL.out]; exact ⟨_, _, h2⟩, h1⟩
end Go.Proofs.YtbmchgjilkoplaaDoor

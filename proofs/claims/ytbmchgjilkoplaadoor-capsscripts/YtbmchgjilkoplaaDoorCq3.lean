import Derived.Test.YtbmchgjilkoplaaDoorCq2
/- The books: lists of marks, for any struct. -/
namespace Go.Vx
set_option linter.unusedVariables false
variable {α : Type}
theorem OwnL.row {L : Lay α} {w : World} {base g n c : Nat} {e : TypeId} {xs : List α} (h : OwnL L w base e (.slice (some ⟨g, 0, none⟩) n c) xs) : ∃ cur, w.heap[g]? = some (.cells cur e (0, 0)) ∧ ∀ (k : Nat) (hk : k < xs.length) (j : Nat), j < L.sz → cur[k * L.sz + j]? = (L.cf xs[k])[j]? := by
  rcases h.2 with ⟨h', _⟩ | ⟨g', cap', cur, h', _, hg, _, _, _, htake⟩
  · simp at h'
  · simp only [Value.slice.injEq, Option.some.injEq, Addr.mk.injEq, and_true] at h'
    obtain ⟨rfl, _⟩ := h'
    refine ⟨cur, hg, fun k hk j hj => ?_⟩
    have h1 := get_fl L xs k j hk hj
    have h2 : k * L.sz + j < xs.length * L.sz := by
      have : (k + 1) * L.sz ≤ xs.length * L.sz := Nat.mul_le_mul_right _ hk
      rw [Nat.add_mul] at this
      omega
    rw [← htake, List.getElem?_take, if_pos h2] at h1
    simpa using h1
theorem OwnL.blk {L : Lay α} {w : World} {base : Nat} {e : TypeId} {v : Value} {xs : List α} (h : OwnL L w base e v xs) {k : Nat} (hk : v.ownBlock = some k) : base ≤ k ∧ (∃ cur, w.heap[k]? = some (.cells cur e (0, 0))) ∧ ∃ n c, v = .slice (some ⟨k, 0, none⟩) n c := by
  rcases h.2 with ⟨hv, _⟩ | ⟨g, cap, cur, hv, hb, hg, _⟩
  · rw [hv] at hk; cases hk
  · rw [hv] at hk
    have : g = k := by simpa [Value.ownBlock] using hk
    subst this
    exact ⟨hb, ⟨cur, hg⟩, _, _, hv⟩
/-- A slice, as three numbers. -/
abbrev Sh := Option Addr × Nat × Nat
def shV (s : Sh) : Value := .slice s.1 s.2.1 s.2.2
def shL : Lay Sh := ⟨fun s => [shV s], 1, fun _ => rfl, fun a u hu => by simp only [List.mem_cons, List.not_mem_nil, or_false] at hu; rw [hu]; rfl, by decide⟩
/-- A list whose elements are all marks; it lies in blocks of B. -/
def MkG (e : TypeId) (sz : Nat) (B : Nat → Prop) (w : World) (c : Int) (s : Sh) : Prop := s.2.1 ≤ 3000000 ∧ (0 < s.2.1 → ∃ g cur, s.1 = some ⟨g, 0, none⟩ ∧ B g ∧ w.heap[g]? = some (.cells cur e (0, 0)) ∧ ∀ k, k < s.2.1 → cur[k * sz]? = some (.int .i64 c))
theorem MkG.keep {e : TypeId} {sz : Nat} {B C : Nat → Prop} {w w' : World} {c : Int} {s : Sh} (h : MkG e sz B w c s) (hk : ∀ g cur, B g → w.heap[g]? = some (.cells cur e (0, 0)) → w'.heap[g]? = w.heap[g]?) (hBC : ∀ k, B k → C k) : MkG e sz C w' c s := by
  refine ⟨h.1, fun h0 => ?_⟩
  obtain ⟨g, cur, hp, hg, hl, hc⟩ := h.2 h0
  exact ⟨g, cur, hp, hBC g hg, by rw [hk g cur hg hl]; exact hl, hc⟩
/-- A book. -/
structure BkG (e e1 : TypeId) (sz : Nat) (B : Nat → Prop) (w : World) (v : Value) (ss : List Sh) : Prop where
  own : OwnL shL w 0 e1 v ss
  inB : ∀ k, v.ownBlock = some k → B k
  marks : ∀ (i : Nat) (h : i < ss.length), MkG e sz B w (-77 - ((i / 2 : Nat) : Int)) ss[i]
  even : ss.length % 2 = 0
theorem BkG.nil (e e1 : TypeId) (sz : Nat) (B : Nat → Prop) (w : World) : BkG e e1 sz B w (.slice none 0 0) [] := ⟨OwnL.nil _ _ _ _, (fun k hk => by cases hk), (fun i h => by cases h), rfl⟩
theorem BkG.keep {e e1 : TypeId} {sz : Nat} {B C : Nat → Prop} {w w' : World} {v : Value} {ss : List Sh} (h : BkG e e1 sz B w v ss) (hk : ∀ g cur T, B g → (T = e ∨ T = e1) → w.heap[g]? = some (.cells cur T (0, 0)) → w'.heap[g]? = w.heap[g]?) (hBC : ∀ k, B k → C k) : BkG e e1 sz C w' v ss := by
  refine ⟨⟨h.own.1, h.own.2.imp (fun h => h) (fun ⟨g, cap, cur, a, b, c, d⟩ => ⟨g, cap, cur, a, b, ?_, d⟩)⟩, fun k hv => hBC k (h.inB k hv), fun i hi => (h.marks i hi).keep (fun g cur hg hl => hk g cur e hg (Or.inl rfl) hl) hBC, h.even⟩
  rw [hk g cur e1 (h.inB g (by rw [a]; rfl)) (Or.inr rfl) c]
  exact c
theorem BkG.only {e e1 : TypeId} {sz : Nat} {B C S : Nat → Prop} {w w' : World} {v : Value} {ss : List Sh} (h : BkG e e1 sz B w v ss) (ho : Only S w w') (hS : ∀ k, B k → ¬ S k) (hBC : ∀ k, B k → C k) : BkG e e1 sz C w' v ss :=
  h.keep (fun g cur T hg _ hl => ho.block g (lt_of_some hl) (hS g hg)) hBC
/-- Two lists more. -/
theorem BkG.push {e e1 : TypeId} {sz : Nat} {B C : Nat → Prop} {w4 w5 : World} {v v' : Value} {ss : List Sh} {c : Int} {s1 s2 : Sh} (hk : BkG e e1 sz B w4 v ss) (own' : OwnL shL w5 0 e1 v' (ss ++ [s1, s2])) (hb : ∀ k, v'.ownBlock = some k → C k)
    (hm : ∀ g cur, C g → w4.heap[g]? = some (.cells cur e (0, 0)) → w5.heap[g]? = w4.heap[g]?) (hBC : ∀ k, B k → C k) (h1 : MkG e sz C w4 c s1) (h2 : MkG e sz C w4 c s2) (hc : c = -77 - ((ss.length / 2 : Nat) : Int)) : BkG e e1 sz C w5 v' (ss ++ [s1, s2]) := by
  have hlen : (ss ++ [s1, s2]).length = ss.length + 2 := by simp
  have he := hk.even
  refine ⟨own', hb, fun i hi => ?_, by rw [hlen]; omega⟩
  rw [hlen] at hi
  by_cases h0 : i < ss.length
  · rw [List.getElem_append_left h0]
    exact (hk.marks i h0).keep (fun g' cur hB hh => hm g' cur (hBC _ hB) hh) hBC
  · have hi2 : i / 2 = ss.length / 2 := by omega
    rw [hi2, ← hc]
    by_cases h3 : i = ss.length
    · subst h3
      rw [List.getElem_append_right (Nat.le_refl _)]
      simp only [Nat.sub_self]
      exact h1.keep hm (fun _ h => h)
    · have h4 : i = ss.length + 1 := by omega
      subst h4
      rw [List.getElem_append_right (by omega)]
      simp only [show ss.length + 1 - ss.length = 1 by omega]
      exact h2.keep hm (fun _ h => h)
theorem BkG.at {e e1 : TypeId} {sz : Nat} {B : Nat → Prop} {w : World} {v : Value} {ss : List Sh} (h : BkG e e1 sz B w v ss) : ∃ p c, v = .slice p ss.length c ∧ ∀ (i : Nat) (hi : i < ss.length), ∃ g, p = some ⟨g, 0, none⟩ ∧ w.cell? ⟨g, i, none⟩ = some (shV ss[i]) := by
  obtain ⟨p, c, rfl, _, _, hg⟩ := h.own.form
  refine ⟨p, c, rfl, fun i hi => ?_⟩
  obtain ⟨g, rfl, _⟩ := hg (by omega)
  have h1 := h.own.cell i 0 hi (by decide)
  refine ⟨g, rfl, ?_⟩
  have h2 : i * shL.sz + 0 = i := by show i * 1 + 0 = i; omega
  rw [h2] at h1
  exact h1
/-- Behind some of its elements have become marks. -/
structure OmA (L : Lay α) (e : TypeId) (m : α) (w : World) (mb base : Nat) (l : Value) (N i : Nat) (wr : World) : Prop where
  ex : ∃ ms, OwnL L wr base e l ms ∧ ms.length = N ∧ ∀ k, k < i → ms[k]? = some m
  mk' : wr.heap[mb]? = some (.cells (L.cf m).toArray e (0, 0))
  on : Only (fun k => l.ownBlock = some k) w wr
/-- Behind j marks have been put to its end. -/
structure OmB (L : Lay α) (e : TypeId) (m : α) (w : World) (mb base : Nat) (l : Value) (N j : Nat) (x : Value) (wr : World) : Prop where
  own : OwnL L wr base e x (List.replicate (N + j) m)
  lrow : 0 < N → ∃ g cur, (l.ownBlock = some g ∧ ∃ n c', l = .slice (some ⟨g, 0, none⟩) n c') ∧ wr.heap[g]? = some (.cells cur e (0, 0)) ∧ ∀ k, k < N → cur[k * L.sz]? = (L.cf m)[0]?
  mk' : wr.heap[mb]? = some (.cells (L.cf m).toArray e (0, 0))
  on : Only (fun k => l.ownBlock = some k) w wr
  xw : ∀ k, x.ownBlock = some k → l.ownBlock = some k ∨ mb < k
theorem OmA.fin {L : Lay α} {e : TypeId} {m : α} {w : World} {mb base N : Nat} {l : Value} {wr : World} (h0 : 0 < L.sz) (h : OmA L e m w mb base l N N wr) : OmB L e m w mb base l N 0 l wr := by
  obtain ⟨ms, ho, hn, hm⟩ := h.ex
  have hms : ms = List.replicate N m := by
    apply List.ext_getElem?
    intro k
    by_cases hk : k < N
    · rw [hm k hk]; simp [hk]
    · rw [List.getElem?_eq_none (by omega)]; simp [hk]
  refine ⟨by rw [Nat.add_zero, ← hms]; exact ho, fun hN => ?_, h.mk', h.on, fun k hk => Or.inl hk⟩
  obtain ⟨p, cc, hv, _, _, hp⟩ := ho.form
  obtain ⟨g, hg, _, _, hob⟩ := hp (by omega)
  have hl : l = .slice (some ⟨g, 0, none⟩) ms.length cc := by rw [hv, hg]
  rw [hl] at ho
  obtain ⟨cur, hcur, hc⟩ := ho.row
  refine ⟨g, cur, ⟨hob, _, _, hl⟩, hcur, fun k hk => ?_⟩
  have := hc k (by omega) 0 h0
  rw [Nat.add_zero] at this
  rw [this]
  subst hms
  simp
theorem OmB.push {L : Lay α} {e : TypeId} {m : α} {w : World} {mb base N j : Nat} {l x x' : Value} {wr wx : World} (h0 : 0 < L.sz) (h : OmB L e m w mb base l N j x wr) (ho : OwnL L wx base e x' (List.replicate (N + j) m ++ [m])) (hon : Only (fun k => x.ownBlock = some k) wr wx)
    (hg : x'.ownBlock = x.ownBlock ∨ ∃ g, x'.ownBlock = some g ∧ wr.heap.size ≤ g ∧ Only (fun _ => False) wr wx) (hlm : ∀ k, l.ownBlock = some k → k ≠ mb) (hwm : w.heap.size ≤ mb) : OmB L e m w mb base l N (j + 1) x' wx := by
  have hms : List.replicate (N + j) m ++ [m] = List.replicate (N + (j + 1)) m := by
    rw [← Nat.add_assoc, List.replicate_succ']
  rw [hms] at ho
  have hmw := lt_of_some h.mk'
  have hxm : ∀ k, x.ownBlock = some k → k ≠ mb := fun k hk => by
    rcases h.xw k hk with h1 | h1
    · exact hlm k h1
    · omega
  refine ⟨ho, fun hN => ?_, ?_, ?_, fun k hk => ?_⟩
  · obtain ⟨gl, cur, hgl, hcur, hc⟩ := h.lrow hN
    by_cases hx : x.ownBlock = some gl
    · rcases hg with hg | ⟨g, hg, _, hf⟩
      · obtain ⟨_, _, n, c, hv⟩ := ho.blk (k := gl) (by rw [hg]; exact hx)
        rw [hv] at ho
        obtain ⟨cur2, hcur2, hc2⟩ := ho.row
        refine ⟨gl, cur2, hgl, hcur2, fun k hk => ?_⟩
        have := hc2 k (by simp; omega) 0 h0
        rw [Nat.add_zero] at this
        rw [this]
        simp
      · exact ⟨gl, cur, hgl, by rw [hf.block gl (lt_of_some hcur) (fun h => h)]; exact hcur, hc⟩
    · exact ⟨gl, cur, hgl, by rw [hon.block gl (lt_of_some hcur) hx]; exact hcur, hc⟩
  · rw [hon.block mb hmw (fun hx => hxm mb hx rfl)]; exact h.mk'
  · refine ⟨hon.os.trans h.on.os, hon.tape.trans h.on.tape, hon.output.trans h.on.output, Nat.le_trans h.on.size hon.size, fun k hk hn => (hon.block k (Nat.lt_of_lt_of_le hk h.on.size) (fun hx => ?_)).trans (h.on.block k hk hn)⟩
    rcases h.xw k hx with h1 | h1
    · exact hn h1
    · omega
  · rcases hg with hg | ⟨g, hg, hs, _⟩
    · exact h.xw k (by rw [← hg]; exact hk)
    · rw [hg] at hk
      injection hk with hk
      exact Or.inr (by omega)
/-- The two lists that go into the book. -/
theorem OmB.marks {L : Lay α} {e : TypeId} {m : α} {w : World} {mb base N j : Nat} {l x : Value} {pl px : Option Addr} {cl cx : Nat} {wr : World} {c : Int} (h0 : 0 < L.sz) (h : OmB L e m w mb base l N j x wr) (hl : l = .slice pl N cl) (hx : x = .slice px (N + j) cx) (hN : N + j ≤ 3000000) (hm0 : (L.cf m)[0]? = some (.int .i64 c)) {C : Nat → Prop}
    (hC : ∀ k cur, wr.heap[k]? = some (.cells cur e (0, 0)) → (l.ownBlock = some k ∨ mb < k) → C k) : MkG e L.sz C wr c (pl, N, cl) ∧ MkG e L.sz C wr c (px, N + j, cx) := by
  refine ⟨⟨by show N ≤ _; omega, fun hp => ?_⟩, ⟨by show N + j ≤ _; omega, fun hp => ?_⟩⟩
  · obtain ⟨g, cur, hgl, hcur, hc⟩ := h.lrow hp
    refine ⟨g, cur, ?_, hC g cur hcur (Or.inl hgl.1), hcur, fun k hk => by rw [hc k hk, hm0]⟩
    show pl = _
    obtain ⟨n, c', hle⟩ := hgl.2
    rw [hl] at hle
    injection hle
  · obtain ⟨p, cc, hv, _, _, hg⟩ := h.own.form
    rw [List.length_replicate] at hv hg
    obtain ⟨g, hg1, _, _, hob⟩ := hg (by simpa using hp)
    rw [hx] at hv
    injection hv with hv1 _ hv3
    have hxo := h.own
    rw [hx, hv1, hg1] at hxo
    obtain ⟨cur, hcur, hc⟩ := hxo.row
    refine ⟨g, cur, by show px = _; rw [hv1, hg1], hC g cur hcur (h.xw g hob), hcur, fun k hk => ?_⟩
    have hk2 : k < N + j := hk
    have := hc k (by simpa using hk2) 0 h0
    rw [Nat.add_zero] at this
    rw [this, ← hm0]
    simp
end Go.Vx

/- Chapter 7, pure: boxes and entries, and what the document's calls make of them. -/
namespace Go.Vx
set_option linter.unusedVariables false
/-- A slot: its box, its index. -/
abbrev Sl := Int × Int
/-- A capability. -/
structure Cp where
  kind : Int
  num : Int
  rights : Int
  badge : Int
  guard : Int
  gbits : Int
  root : Int
  va : Int
def Cp.df : Cp := ⟨0, 0, 0, 0, 0, 0, 0, 0⟩
/-- A slot with what is in it, and from where that comes. -/
structure En where
  at' : Sl
  cap : Cp
  from' : Sl
def En.df : En := ⟨(0, 0), .df, (0, 0)⟩
def slC (s : Sl) : List Value := [.int .i64 s.1, .int .i64 s.2]
def cpC (c : Cp) : List Value := [.int .i64 c.kind, .int .i64 c.num, .int .i64 c.rights, .int .u32 c.badge, .int .u32 c.guard, .int .i64 c.gbits, .int .i64 c.root, .int .u32 c.va]
def enC (e : En) : List Value := slC e.at' ++ cpC e.cap ++ slC e.from'
theorem enC_eq (e : En) : enC e = [.int .i64 e.at'.1, .int .i64 e.at'.2, .int .i64 e.cap.kind, .int .i64 e.cap.num, .int .i64 e.cap.rights, .int .u32 e.cap.badge, .int .u32 e.cap.guard, .int .i64 e.cap.gbits, .int .i64 e.cap.root, .int .u32 e.cap.va, .int .i64 e.from'.1, .int .i64 e.from'.2] := rfl
def slL : Lay Sl := ⟨slC, 2, fun _ => rfl, fun a u hu => by simp only [slC, List.mem_cons, List.not_mem_nil, or_false] at hu; rcases hu with rfl | rfl <;> rfl, by decide⟩
def enL : Lay En := ⟨enC, 12, fun _ => rfl, fun a u hu => by
  rw [enC_eq] at hu
  simp only [List.mem_cons, List.not_mem_nil, or_false] at hu
  rcases hu with rfl | rfl | rfl | rfl | rfl | rfl | rfl | rfl | rfl | rfl | rfl | rfl <;> rfl, by decide⟩
/-- A box: its number, its slots. -/
def bxL : Lay (Int × Int) := slL
def twoB (n : Int) : Bool := decide (n = 1 ∨ n = 2 ∨ n = 4 ∨ n = 8 ∨ n = 16 ∨ n = 32 ∨ n = 64)
def aheadB (a b : Sl) : Bool := decide (a.1 < b.1 ∨ (a.1 = b.1 ∧ a.2 < b.2))
/-- The first that is so, from k on. -/
def idxF {α : Type} (p : α → Bool) : List α → Nat → Option Nat
  | [], _ => none
  | a :: l, k => if p a then some k else idxF p l (k + 1)
def idI (o : Option Nat) : Int := match o with | some k => k | none => -1
theorem idxF_lt {α : Type} {p : α → Bool} : ∀ {l : List α} {k i : Nat}, idxF p l k = some i → k ≤ i ∧ i < k + l.length
  | [], k, i, h => by cases h
  | a :: l, k, i, h => by
    unfold idxF at h
    by_cases hp : p a = true
    · rw [if_pos hp] at h; injection h with h; subst h; simp
    · rw [if_neg hp] at h
      have := idxF_lt h
      simp only [List.length_cons]
      omega
theorem idxF_get {α : Type} {p : α → Bool} : ∀ {l : List α} {k i : Nat} (h : idxF p l k = some i), ∃ (hi : i - k < l.length), p (l[i - k]) = true
  | [], k, i, h => by cases h
  | a :: l, k, i, h => by
    unfold idxF at h
    by_cases hp : p a = true
    · rw [if_pos hp] at h; injection h with h; subst h; exact ⟨by simp, by simpa using hp⟩
    · rw [if_neg hp] at h
      have h1 := idxF_lt h
      obtain ⟨h2, h3⟩ := idxF_get h
      have e : i - k = (i - (k + 1)) + 1 := by omega
      refine ⟨by simp only [List.length_cons]; omega, ?_⟩
      have : (a :: l)[i - k]'(by simp only [List.length_cons]; omega) = l[i - (k + 1)] := by simp only [e, List.getElem_cons_succ]
      rw [this]; exact h3
theorem idxF_none {α : Type} {p : α → Bool} : ∀ {l : List α} {k : Nat}, idxF p l k = none → ∀ a ∈ l, p a = false
  | [], k, h, a, ha => by cases ha
  | b :: l, k, h, a, ha => by
    unfold idxF at h
    by_cases hp : p b = true
    · rw [if_pos hp] at h; cases h
    · rw [if_neg hp] at h
      rcases List.mem_cons.1 ha with rfl | ha
      · simpa using hp
      · exact idxF_none h a ha
/-- What is still to be looked at from k on. -/
theorem idxF_step {α : Type} {p : α → Bool} (l : List α) (k : Nat) (hk : k < l.length) : idxF p (l.drop k) k = if p l[k] then some k else idxF p (l.drop (k + 1)) (k + 1) := by
  rw [List.drop_eq_getElem_cons hk]
  rfl
theorem idxF_end {α : Type} {p : α → Bool} (l : List α) : idxF p (l.drop l.length) l.length = none := by
  rw [List.drop_length]; rfl
def boxF (bs : List (Int × Int)) (n : Int) : Option Nat := idxF (fun b => decide (b.1 = n)) bs 0
def entF (es : List En) (s : Sl) : Option Nat := idxF (fun e => decide (e.at' = s)) es 0
/-- A box's slots. -/
def sizeF (bs : List (Int × Int)) (n : Int) : Option Int := (boxF bs n).map fun i => (bs.getD i (0, 0)).2
/-- A slot called for as full: where it is, or the error. -/
def fullF (bs : List (Int × Int)) (es : List En) (s : Sl) : Except Int Nat :=
  match sizeF bs s.1 with
  | none => .error 9
  | some n => if s.2 < 0 ∨ n ≤ s.2 then .error 9 else match entF es s with
    | none => .error 11
    | some i => .ok i
def fullE (r : Except Int Nat) : Int := match r with | .ok _ => 0 | .error e => e
def fullI (r : Except Int Nat) : Int := match r with | .ok i => i | .error _ => 0
def freeF (bs : List (Int × Int)) (es : List En) (s : Sl) : Int := match fullF bs es s with | .ok _ => 10 | .error e => if e = 11 then 0 else e
end Go.Vx

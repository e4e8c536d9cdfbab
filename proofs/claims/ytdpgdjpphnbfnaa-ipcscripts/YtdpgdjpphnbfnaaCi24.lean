import Derived.Test.YtdpgdjpphnbfnaaCi23
/- The books, marks at any cell of a struct. -/
namespace Go.Vx
set_option linter.unusedVariables false
variable {α : Type}
/-- A list whose elements are all marks; it lies in blocks of B. -/
def MkQ (e : TypeId) (sz mo : Nat) (B : Nat → Prop) (w : World) (c : Int) (s : Sh) : Prop := s.2.1 ≤ 3000000 ∧ (0 < s.2.1 → ∃ g cur, s.1 = some ⟨g, 0, none⟩ ∧ B g ∧ w.heap[g]? = some (.cells cur e (0, 0)) ∧ ∀ k, k < s.2.1 → cur[k * sz + mo]? = some (.int .i64 c))
theorem MkQ.keep {e : TypeId} {sz mo : Nat} {B C : Nat → Prop} {w w' : World} {c : Int} {s : Sh} (h : MkQ e sz mo B w c s) (hk : ∀ g cur, B g → w.heap[g]? = some (.cells cur e (0, 0)) → w'.heap[g]? = w.heap[g]?) (hBC : ∀ k, B k → C k) : MkQ e sz mo C w' c s := by
  refine ⟨h.1, fun h0 => ?_⟩
  obtain ⟨g, cur, hp, hg, hl, hc⟩ := h.2 h0
  exact ⟨g, cur, hp, hBC g hg, by rw [hk g cur hg hl]; exact hl, hc⟩
/-- A book. -/
structure BkQ (e e1 : TypeId) (sz mo : Nat) (B : Nat → Prop) (w : World) (v : Value) (ss : List Sh) : Prop where
  own : OwnL shL w 0 e1 v ss
  inB : ∀ k, v.ownBlock = some k → B k
  marks : ∀ (i : Nat) (h : i < ss.length), MkQ e sz mo B w (-77 - ((i / 2 : Nat) : Int)) ss[i]
  even : ss.length % 2 = 0
theorem BkQ.nil (e e1 : TypeId) (sz mo : Nat) (B : Nat → Prop) (w : World) : BkQ e e1 sz mo B w (.slice none 0 0) [] := ⟨OwnL.nil _ _ _ _, (fun k hk => by cases hk), (fun i h => by cases h), rfl⟩
theorem BkQ.keep {e e1 : TypeId} {sz mo : Nat} {B C : Nat → Prop} {w w' : World} {v : Value} {ss : List Sh} (h : BkQ e e1 sz mo B w v ss) (hk : ∀ g cur T, B g → (T = e ∨ T = e1) → w.heap[g]? = some (.cells cur T (0, 0)) → w'.heap[g]? = w.heap[g]?) (hBC : ∀ k, B k → C k) : BkQ e e1 sz mo C w' v ss := by
  refine ⟨⟨h.own.1, h.own.2.imp (fun h => h) (fun ⟨g, cap, cur, a, b, c, d⟩ => ⟨g, cap, cur, a, b, ?_, d⟩)⟩, fun k hv => hBC k (h.inB k hv), fun i hi => (h.marks i hi).keep (fun g cur hg hl => hk g cur e hg (Or.inl rfl) hl) hBC, h.even⟩
  rw [hk g cur e1 (h.inB g (by rw [a]; rfl)) (Or.inr rfl) c]
  exact c
theorem BkQ.only {e e1 : TypeId} {sz mo : Nat} {B C S : Nat → Prop} {w w' : World} {v : Value} {ss : List Sh} (h : BkQ e e1 sz mo B w v ss) (ho : Only S w w') (hS : ∀ k, B k → ¬ S k) (hBC : ∀ k, B k → C k) : BkQ e e1 sz mo C w' v ss :=
  h.keep (fun g cur T hg _ hl => ho.block g (lt_of_some hl) (hS g hg)) hBC
/-- Two lists more. -/
theorem BkQ.push {e e1 : TypeId} {sz mo : Nat} {B C : Nat → Prop} {w4 w5 : World} {v v' : Value} {ss : List Sh} {c : Int} {s1 s2 : Sh} (hk : BkQ e e1 sz mo B w4 v ss) (own' : OwnL shL w5 0 e1 v' (ss ++ [s1, s2])) (hb : ∀ k, v'.ownBlock = some k → C k)
    (hm : ∀ g cur, C g → w4.heap[g]? = some (.cells cur e (0, 0)) → w5.heap[g]? = w4.heap[g]?) (hBC : ∀ k, B k → C k) (h1 : MkQ e sz mo C w4 c s1) (h2 : MkQ e sz mo C w4 c s2) (hc : c = -77 - ((ss.length / 2 : Nat) : Int)) : BkQ e e1 sz mo C w5 v' (ss ++ [s1, s2]) := by
  have hlen : (ss ++ [s1, s2]).length = ss.length + 2 := by simp
  have he := hk.even
  refine ⟨own', hb, fun i hi => ?_, by rw [hlen]; omega⟩
  rw [hlen] at hi
  by_cases h0 : i < ss.length
  · rw [List.getElem_append_left h0]
    exact (hk.marks i h0).keep (fun g' cur hB hh => hm g' cur (hBC _ hB) hh) hBC
  · have hi2 : i / 2 = ss.length / 2 := by omega
    rw [hi2, ← hc]
    by_cases h3 : i = ss.length
    · subst h3
      rw [List.getElem_append_right (Nat.le_refl _)]
      simp only [Nat.sub_self]
      exact h1.keep hm (fun _ h => h)
    · have h4 : i = ss.length + 1 := by omega
      subst h4
      rw [List.getElem_append_right (by omega)]
      simp only [show ss.length + 1 - ss.length = 1 by omega]
      exact h2.keep hm (fun _ h => h)
theorem BkQ.at {e e1 : TypeId} {sz mo : Nat} {B : Nat → Prop} {w : World} {v : Value} {ss : List Sh} (h : BkQ e e1 sz mo B w v ss) : ∃ p c, v = .slice p ss.length c ∧ ∀ (i : Nat) (hi : i < ss.length), ∃ g, p = some ⟨g, 0, none⟩ ∧ w.cell? ⟨g, i, none⟩ = some (shV ss[i]) := by
  obtain ⟨p, c, rfl, _, _, hg⟩ := h.own.form
  refine ⟨p, c, rfl, fun i hi => ?_⟩
  obtain ⟨g, rfl, _⟩ := hg (by omega)
  have h1 := h.own.cell i 0 hi (by decide)
  refine ⟨g, rfl, ?_⟩
  have h2 : i * shL.sz + 0 = i := by show i * 1 + 0 = i; omega
  rw [h2] at h1
  exact h1
/-- Behind some of its elements have become marks. -/
structure OqA (L : Lay α) (e : TypeId) (m : α) (w : World) (base : Nat) (l : Value) (N i : Nat) (wr : World) : Prop where
  ex : ∃ ms, OwnL L wr base e l ms ∧ ms.length = N ∧ ∀ k, k < i → ms[k]? = some m
  on : Only (fun k => l.ownBlock = some k) w wr
/-- Behind j marks have been put to its end. -/
structure OqB (mo : Nat) (L : Lay α) (e : TypeId) (m : α) (w : World) (mb base : Nat) (l : Value) (N j : Nat) (x : Value) (wr : World) : Prop where
  own : OwnL L wr base e x (List.replicate (N + j) m)
  lrow : 0 < N → ∃ g cur, (l.ownBlock = some g ∧ ∃ n c', l = .slice (some ⟨g, 0, none⟩) n c') ∧ wr.heap[g]? = some (.cells cur e (0, 0)) ∧ ∀ k, k < N → cur[k * L.sz + mo]? = (L.cf m)[mo]?
  on : Only (fun k => l.ownBlock = some k) w wr
  xw : ∀ k, x.ownBlock = some k → l.ownBlock = some k ∨ mb < k
theorem OqA_fin {L : Lay α} {e : TypeId} {m : α} {w : World} {mb base N mo : Nat} {l : Value} {wr : World} (h0 : mo < L.sz) (h : OqA L e m w base l N N wr) : OqB mo L e m w mb base l N 0 l wr := by
  obtain ⟨ms, ho, hn, hm⟩ := h.ex
  have hms : ms = List.replicate N m := by
    apply List.ext_getElem?
    intro k
    by_cases hk : k < N
    · rw [hm k hk]; simp [hk]
    · rw [List.getElem?_eq_none (by omega)]; simp [hk]
  refine ⟨by rw [Nat.add_zero, ← hms]; exact ho, fun hN => ?_, h.on, fun k hk => Or.inl hk⟩
  obtain ⟨p, cc, hv, _, _, hp⟩ := ho.form
  obtain ⟨g, hg, _, _, hob⟩ := hp (by omega)
  have hl : l = .slice (some ⟨g, 0, none⟩) ms.length cc := by rw [hv, hg]
  rw [hl] at ho
  obtain ⟨cur, hcur, hc⟩ := ho.row
  refine ⟨g, cur, ⟨hob, _, _, hl⟩, hcur, fun k hk => ?_⟩
  have := hc k (by omega) mo h0
  rw [this]
  subst hms
  simp
theorem OqB.push {L : Lay α} {e : TypeId} {m : α} {w : World} {mb base N j mo : Nat} {l x x' : Value} {wr wx : World} (h0 : mo < L.sz) (h : OqB mo L e m w mb base l N j x wr) (ho : OwnL L wx base e x' (List.replicate (N + j) m ++ [m])) (hon : Only (fun k => x.ownBlock = some k) wr wx)
    (hg : x'.ownBlock = x.ownBlock ∨ ∃ g, x'.ownBlock = some g ∧ wr.heap.size ≤ g ∧ Only (fun _ => False) wr wx) (hwm : w.heap.size ≤ mb + 1) (hsz9 : mb < wr.heap.size) : OqB mo L e m w mb base l N (j + 1) x' wx := by
  have hms : List.replicate (N + j) m ++ [m] = List.replicate (N + (j + 1)) m := by
    rw [← Nat.add_assoc, List.replicate_succ']
  rw [hms] at ho
  refine ⟨ho, fun hN => ?_, ?_, fun k hk => ?_⟩
  · obtain ⟨gl, cur, hgl, hcur, hc⟩ := h.lrow hN
    by_cases hx : x.ownBlock = some gl
    · rcases hg with hg | ⟨g, hg, _, hf⟩
      · obtain ⟨_, _, n, c, hv⟩ := ho.blk (k := gl) (by rw [hg]; exact hx)
        rw [hv] at ho
        obtain ⟨cur2, hcur2, hc2⟩ := ho.row
        refine ⟨gl, cur2, hgl, hcur2, fun k hk => ?_⟩
        have := hc2 k (by simp; omega) mo h0
        rw [this]
        simp
      · exact ⟨gl, cur, hgl, by rw [hf.block gl (lt_of_some hcur) (fun h => h)]; exact hcur, hc⟩
    · exact ⟨gl, cur, hgl, by rw [hon.block gl (lt_of_some hcur) hx]; exact hcur, hc⟩
  · refine ⟨hon.os.trans h.on.os, hon.tape.trans h.on.tape, hon.output.trans h.on.output, Nat.le_trans h.on.size hon.size, fun k hk hn => (hon.block k (Nat.lt_of_lt_of_le hk h.on.size) (fun hx => ?_)).trans (h.on.block k hk hn)⟩
    rcases h.xw k hx with h1 | h1
    · exact hn h1
    · omega
  · rcases hg with hg | ⟨g, hg, hs, _⟩
    · exact h.xw k (by rw [← hg]; exact hk)
    · rw [hg] at hk
      injection hk with hk
      exact Or.inr (by omega)
/-- The two lists that go into the book. -/
theorem OqB.marks {L : Lay α} {e : TypeId} {m : α} {w : World} {mb base N j mo : Nat} {l x : Value} {pl px : Option Addr} {cl cx : Nat} {wr : World} {c : Int} (h0 : mo < L.sz) (h : OqB mo L e m w mb base l N j x wr) (hl : l = .slice pl N cl) (hx : x = .slice px (N + j) cx) (hN : N + j ≤ 3000000) (hm0 : (L.cf m)[mo]? = some (.int .i64 c)) {C : Nat → Prop}
    (hC : ∀ k cur, wr.heap[k]? = some (.cells cur e (0, 0)) → (l.ownBlock = some k ∨ mb < k) → C k) : MkQ e L.sz mo C wr c (pl, N, cl) ∧ MkQ e L.sz mo C wr c (px, N + j, cx) := by
  refine ⟨⟨by show N ≤ _; omega, fun hp => ?_⟩, ⟨by show N + j ≤ _; omega, fun hp => ?_⟩⟩
  · obtain ⟨g, cur, hgl, hcur, hc⟩ := h.lrow hp
    refine ⟨g, cur, ?_, hC g cur hcur (Or.inl hgl.1), hcur, fun k hk => by rw [hc k hk, hm0]⟩
    show pl = _
    obtain ⟨n, c', hle⟩ := hgl.2
    rw [hl] at hle
    injection hle
  · obtain ⟨p, cc, hv, _, _, hg⟩ := h.own.form
    rw [List.length_replicate] at hv hg
    obtain ⟨g, hg1, _, _, hob⟩ := hg (by simpa using hp)
    rw [hx] at hv
    injection hv with hv1 _ hv3
    have hxo := h.own
    rw [hx, hv1, hg1] at hxo
    obtain ⟨cur, hcur, hc⟩ := hxo.row
    refine ⟨g, cur, by show px = _; rw [hv1, hg1], hC g cur hcur (h.xw g hob), hcur, fun k hk => ?_⟩
    have hk2 : k < N + j := hk
    have := hc k (by simpa using hk2) mo h0
    rw [this, ← hm0]
    simp
end Go.Vx

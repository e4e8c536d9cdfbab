import Derived.Test.YtbmchgjilkoplaaDoorCq19
/- Chapter 7, pure: what the program's boxes hold, and what each call makes of it. -/
namespace Go.Proofs.YtbmchgjilkoplaaDoor
open Go.Vx
set_option linter.unusedVariables false

/-- What the program leans on besides. -/
structure Wx (bs : List (Int × Int)) (es : List En) : Prop where
  nd : (bs.map (·.1)).Nodup
  ib : ∀ b ∈ bs, I64 b.1
  ix : ∀ e ∈ es, ∃ b ∈ bs, b.1 = e.at'.1 ∧ 0 ≤ e.at'.2 ∧ e.at'.2 < b.2
  kd : ∀ e ∈ es, 1 ≤ e.cap.kind ∧ e.cap.kind ≤ 10
  nm : ∀ e ∈ es, I64 e.cap.num
theorem size_mem {bs : List (Int × Int)} {n m : Int} (h : sizeF bs n = some m) : (n, m) ∈ bs := by
  cases hx : boxF bs n with
  | none => rw [sizeF_none hx] at h; cases h
  | some i =>
    obtain ⟨hi, h1, h2⟩ := boxF_at hx
    rw [h] at h2
    injection h2 with h2
    have : bs[i] = (n, m) := Prod.ext h1 h2.symm
    rw [← this]
    exact List.getElem_mem hi
theorem box_once {bs : List (Int × Int)} (hn : (bs.map (·.1)).Nodup) {a b : Int × Int} (ha : a ∈ bs) (hb : b ∈ bs) (h : a.1 = b.1) : a = b := by
  obtain ⟨i, hi, rfl⟩ := List.getElem_of_mem ha
  obtain ⟨j, hj, rfl⟩ := List.getElem_of_mem hb
  have h1 := List.pairwise_iff_getElem.1 hn
  rcases Nat.lt_trichotomy i j with h2 | h2 | h2
  · exact absurd (by rw [List.getElem_map, List.getElem_map]; exact h) (h1 i j (by simpa using hi) (by simpa using hj) h2)
  · subst h2; rfl
  · exact absurd (by rw [List.getElem_map, List.getElem_map]; exact h.symm) (h1 j i (by simpa using hj) (by simpa using hi) h2)
theorem mem_size {bs : List (Int × Int)} (hn : (bs.map (·.1)).Nodup) {b : Int × Int} (h : b ∈ bs) : sizeF bs b.1 = some b.2 ∧ ∃ i, boxF bs b.1 = some i := by
  cases hx : boxF bs b.1 with
  | none => have := idxF_none hx b h; simp at this
  | some i =>
    obtain ⟨hi, h1, h2⟩ := boxF_at hx
    rw [h2, box_once hn (List.getElem_mem hi) h h1]
    exact ⟨rfl, i, rfl⟩
theorem free_in {bs : List (Int × Int)} {es : List En} {s : Sl} (h : freeF bs es s = 0) : ∃ n, sizeF bs s.1 = some n ∧ 0 ≤ s.2 ∧ s.2 < n ∧ entF es s = none := by
  have hf : fullF bs es s = .error 11 := by
    unfold freeF at h
    rcases full_cases bs es s with ⟨i, hi, _⟩ | hi | hi
    · rw [hi] at h; cases h
    · rw [hi] at h; cases h
    · exact hi
  unfold fullF at hf
  cases hs : sizeF bs s.1 with
  | none => rw [hs] at hf; cases hf
  | some n =>
    rw [hs] at hf
    dsimp only at hf
    by_cases h2 : s.2 < 0 ∨ n ≤ s.2
    · rw [if_pos h2] at hf; cases hf
    · rw [if_neg h2] at hf
      refine ⟨n, rfl, by omega, by omega, ?_⟩
      cases he : entF es s with
      | some i => rw [he] at hf; cases hf
      | none => rfl
theorem full_in {bs : List (Int × Int)} {es : List En} {s : Sl} {i : Nat} (h : fullF bs es s = .ok i) : ∃ n, sizeF bs s.1 = some n ∧ 0 ≤ s.2 ∧ s.2 < n ∧ entF es s = some i := by
  unfold fullF at h
  cases hs : sizeF bs s.1 with
  | none => rw [hs] at h; cases h
  | some n =>
    rw [hs] at h
    dsimp only at h
    by_cases h2 : s.2 < 0 ∨ n ≤ s.2
    · rw [if_pos h2] at h; cases h
    · rw [if_neg h2] at h
      refine ⟨n, rfl, by omega, by omega, ?_⟩
      cases he : entF es s with
      | none => rw [he] at h; cases h
      | some j => rw [he] at h; injection h with h; rw [h]
theorem put_in {bs : List (Int × Int)} {es : List En} {a f : Sl} {c : Cp} (h : putE bs es a c f = 0) : 1 ≤ c.kind ∧ c.kind ≤ 10 ∧ freeF bs es a = 0 := by
  unfold putE at h
  by_cases hk : c.kind < 1 ∨ 10 < c.kind
  · rw [if_pos hk] at h; cases h
  · rw [if_neg hk] at h
    by_cases hf : freeF bs es a = 0
    · exact ⟨by omega, by omega, hf⟩
    · rw [if_neg hf] at h; exact absurd h hf
theorem Wx.put {bs : List (Int × Int)} {es : List En} (h : Wx bs es) (a : Sl) (c : Cp) (f : Sl) (hnm : I64 c.num) : Wx bs (putL bs es a c f) := by
  unfold putL
  by_cases he : putE bs es a c f = 0
  · rw [if_pos he]
    obtain ⟨k1, k2, hf⟩ := put_in he
    obtain ⟨n, hs, h1, h2, _⟩ := free_in hf
    refine ⟨h.nd, h.ib, fun e hm => ?_, fun e hm => ?_, fun e hm => ?_⟩
    · rcases mem_insF.1 hm with rfl | hm
      · exact ⟨_, size_mem hs, rfl, h1, h2⟩
      · exact h.ix e hm
    · rcases mem_insF.1 hm with rfl | hm
      · exact ⟨k1, k2⟩
      · exact h.kd e hm
    · rcases mem_insF.1 hm with rfl | hm
      · exact hnm
      · exact h.nm e hm
  · rw [if_neg he]; exact h
theorem Wx.cut {bs : List (Int × Int)} {es : List En} (h : Wx bs es) (i : Nat) (t : Sl) : Wx bs (cutL es i t) := by
  refine ⟨h.nd, h.ib, fun y hy => ?_, fun y hy => ?_, fun y hy => ?_⟩
  · obtain ⟨e, he, rfl⟩ := mem_cutL hy
    rw [(cutY_at _ _ e).1]
    exact h.ix e (List.mem_of_mem_eraseIdx he)
  · obtain ⟨e, he, rfl⟩ := mem_cutL hy
    rw [(cutY_at _ _ e).2]
    exact h.kd e (List.mem_of_mem_eraseIdx he)
  · obtain ⟨e, he, rfl⟩ := mem_cutL hy
    rw [(cutY_at _ _ e).2]
    exact h.nm e (List.mem_of_mem_eraseIdx he)
theorem Wx.take {bs : List (Int × Int)} {es : List En} (h : Wx bs es) (s : Sl) : Wx bs (takeL bs es s) := by
  unfold takeL
  cases hf : fullF bs es s with
  | ok i => exact h.cut i _
  | error e => exact h
theorem Wx.move {bs : List (Int × Int)} {es : List En} (h : Wx bs es) (s t : Sl) : Wx bs (moveL bs es s t) := by
  unfold moveL
  cases hf : fullF bs es s with
  | error e => exact h
  | ok i =>
    dsimp only
    by_cases he : freeF bs es t = 0
    · rw [if_pos he]
      obtain ⟨n, hs, h1, h2, _⟩ := free_in he
      obtain ⟨hi, hE⟩ := full_at hf
      have hc := h.cut i t
      refine ⟨h.nd, h.ib, fun e hm => ?_, fun e hm => ?_, fun e hm => ?_⟩
      · rcases mem_insF.1 hm with rfl | hm
        · exact ⟨_, size_mem hs, rfl, h1, h2⟩
        · exact hc.ix e hm
      · rcases mem_insF.1 hm with rfl | hm
        · show 1 ≤ (es.getD i .df).cap.kind ∧ (es.getD i .df).cap.kind ≤ 10
          rw [getD_at es i hi]
          exact h.kd _ (List.getElem_mem hi)
        · exact hc.kd e hm
      · rcases mem_insF.1 hm with rfl | hm
        · show I64 (es.getD i .df).cap.num
          rw [getD_at es i hi]
          exact h.nm _ (List.getElem_mem hi)
        · exact hc.nm e hm
    · rw [if_neg he]; exact h
theorem sameO_kind {a b : Cp} (h : sameO a b = true) : a.kind = b.kind ∧ a.num = b.num := of_decide_eq_true h
theorem Wx.set {bs : List (Int × Int)} {es : List En} (h : Wx bs es) (s : Sl) (c : Cp) : Wx bs (setL bs es s c) := by
  unfold setL
  cases hf : fullF bs es s with
  | error e => exact h
  | ok i =>
    dsimp only
    obtain ⟨hi, hE⟩ := full_at hf
    have hg := getD_at es i hi
    by_cases he : sameO (es.getD i .df).cap c = true
    · rw [if_pos he]
      rw [hg] at he ⊢
      refine ⟨h.nd, h.ib, fun e hm => ?_, fun e hm => ?_, fun e hm => ?_⟩
      · obtain ⟨e2, h2, h3, _⟩ := mem_set_cap hi hm
        rw [h3]; exact h.ix e2 h2
      · obtain ⟨e2, h2, _, _, h3 | h3⟩ := mem_set_cap hi hm
        · rw [h3, ← (sameO_kind he).1]; exact h.kd _ (List.getElem_mem hi)
        · rw [h3]; exact h.kd e2 h2
      · obtain ⟨e2, h2, _, _, h3 | h3⟩ := mem_set_cap hi hm
        · rw [h3, ← (sameO_kind he).2]; exact h.nm _ (List.getElem_mem hi)
        · rw [h3]; exact h.nm e2 h2
    · rw [if_neg he]; exact h
theorem Wx.make {bs : List (Int × Int)} {es : List En} (h : Wx bs es) (num n : Int) (hn : I64 num) : Wx (makeL bs num n) es := by
  unfold makeL
  by_cases he : makeE bs num n = 0
  · rw [if_pos he]
    have hx : boxF bs num = none := by
      unfold makeE at he
      split at he
      · cases he
      · cases hb : boxF bs num with
        | none => rfl
        | some i => rw [hb] at he; cases he
    refine ⟨?_, fun b hb => ?_, fun e hm => ?_, h.kd, h.nm⟩
    · rw [List.map_append, List.nodup_append]
      refine ⟨h.nd, by simp, fun a ha b hb => ?_⟩
      obtain ⟨c, hc, rfl⟩ := List.mem_map.1 ha
      have h1 := idxF_none hx c hc
      simp only [List.map_cons, List.map_nil, List.mem_cons, List.not_mem_nil, or_false] at hb
      subst hb
      exact of_decide_eq_false h1
    · rcases List.mem_append.1 hb with hb | hb
      · exact h.ib b hb
      · simp only [List.mem_cons, List.not_mem_nil, or_false] at hb
        subst hb; exact hn
    · obtain ⟨b, hb, h1⟩ := h.ix e hm
      exact ⟨b, List.mem_append_left _ hb, h1⟩
  · rw [if_neg he]; exact h
theorem drop_eq {bs : List (Int × Int)} {i : Nat} (hi : i < bs.length) : bs.take i ++ bs.drop (i + 1) = bs.eraseIdx i := by
  rw [List.eraseIdx_eq_take_drop_succ]
theorem Wx.drop {bs : List (Int × Int)} {es : List En} (h : Wx bs es) (n : Int) : Wx (dropL bs es n) es := by
  unfold dropL
  cases hb : boxF bs n with
  | none => exact h
  | some i =>
    dsimp only
    cases hin : inF es n with
    | some k => exact h
    | none =>
      dsimp only
      obtain ⟨hi, h1, _⟩ := boxF_at hb
      rw [drop_eq hi]
      refine ⟨?_, fun b hb => h.ib b (List.mem_of_mem_eraseIdx hb), fun e hm => ?_, h.kd, h.nm⟩
      · exact List.Nodup.sublist (List.Sublist.map _ (List.eraseIdx_sublist bs i)) h.nd
      · obtain ⟨b, hb, h2, h3⟩ := h.ix e hm
        refine ⟨b, ?_, h2, h3⟩
        have h4 := idxF_none hin e hm
        have h5 : e.at'.1 ≠ n := of_decide_eq_false h4
        obtain ⟨j, hj, rfl⟩ := List.getElem_of_mem hb
        have h6 : j ≠ i := fun h7 => by subst h7; exact h5 (by rw [← h2, h1])
        rw [List.mem_iff_getElem?]
        by_cases h7 : j < i
        · exact ⟨j, by rw [List.getElem?_eraseIdx, if_pos h7, List.getElem?_eq_getElem hj]⟩
        · exact ⟨j - 1, by rw [List.getElem?_eraseIdx, if_neg (by omega), show j - 1 + 1 = j by omega, List.getElem?_eq_getElem hj]⟩
/-- What a slot holds: a capability, and from where it comes. -/
abbrev Pl := Cp × Sl
def plC (p : Pl) : List Value := cpC p.1 ++ slC p.2
theorem plC_eq (p : Pl) : plC p = [.int .i64 p.1.kind, .int .i64 p.1.num, .int .i64 p.1.rights, .int .u32 p.1.badge, .int .u32 p.1.guard, .int .i64 p.1.gbits, .int .i64 p.1.root, .int .u32 p.1.va, .int .i64 p.2.1, .int .i64 p.2.2] := rfl
def plL : Lay Pl := ⟨plC, 10, fun _ => rfl, fun a u hu => by
  rw [plC_eq] at hu
  simp only [List.mem_cons, List.not_mem_nil, or_false] at hu
  rcases hu with rfl | rfl | rfl | rfl | rfl | rfl | rfl | rfl | rfl | rfl <;> rfl, by decide⟩
def zeroPl : Pl := (zeroCp, (0, 0))
def plF (es : List En) (s : Sl) : Pl := match entF es s with | some i => ((es.getD i .df).cap, (es.getD i .df).from') | none => zeroPl
theorem plF_none {es : List En} {s : Sl} (h : ∀ e ∈ es, e.at' ≠ s) : plF es s = zeroPl := by
  unfold plF
  cases he : entF es s with
  | none => rfl
  | some i =>
    obtain ⟨hi, hE⟩ := entF_at he
    exact absurd hE (h _ (List.getElem_mem hi))
theorem plF_mem {es : List En} (ho : Once es) {e : En} (h : e ∈ es) : plF es e.at' = (e.cap, e.from') := by
  unfold plF
  cases he : entF es e.at' with
  | none => have := idxF_none he e h; simp at this
  | some i =>
    obtain ⟨hi, hE⟩ := entF_at he
    dsimp only
    rw [getD_at es i hi, ho _ (List.getElem_mem hi) e h hE]
theorem at_or (es : List En) (s : Sl) : (∃ e ∈ es, e.at' = s) ∨ ∀ e ∈ es, e.at' ≠ s := by
  by_cases h : ∃ e ∈ es, e.at' = s
  · exact Or.inl h
  · exact Or.inr fun e he hE => h ⟨e, he, hE⟩
theorem plF_kind {bs : List (Int × Int)} {es : List En} (h : Wx bs es) (ho : Once es) (s : Sl) : (plF es s).1.kind = 0 ↔ ∀ e ∈ es, e.at' ≠ s := by
  constructor
  · intro hk e he hE
    subst hE
    rw [plF_mem ho he] at hk
    have := h.kd e he
    simp only at hk
    omega
  · intro hn
    rw [plF_none hn]
    rfl
theorem Wf.once {bs : List (Int × Int)} {es : List En} (h : Wf bs es) : Once es := once_of_nodup h.so.nodup
theorem plF_ins {es : List En} {x : En} (ho : Once es) (ho2 : Once (insF es x)) (hx : ∀ e ∈ es, e.at' ≠ x.at') (s : Sl) : plF (insF es x) s = if s = x.at' then (x.cap, x.from') else plF es s := by
  by_cases hs : s = x.at'
  · rw [if_pos hs, hs]; exact plF_mem ho2 (mem_insF.2 (Or.inl rfl))
  · rw [if_neg hs]
    rcases at_or es s with ⟨e, he, rfl⟩ | hn
    · rw [plF_mem ho he]; exact plF_mem ho2 (mem_insF.2 (Or.inr he))
    · rw [plF_none hn]
      refine plF_none fun e he => ?_
      rcases mem_insF.1 he with rfl | he
      · exact fun h => hs h.symm
      · exact hn e he
/-- What comes from one slot comes from another. -/
def relF (a t : Sl) (p : Pl) : Pl := if p.1.kind ≠ 0 ∧ p.2 = a then (p.1, t) else p
theorem plF_cut {bs : List (Int × Int)} {es : List En} (hf : Wf bs es) (hw : Wx bs es) {i : Nat} (hi : i < es.length) (t : Sl) (s : Sl) : plF (cutL es i t) s = if s = es[i].at' then zeroPl else relF es[i].at' t (plF es s) := by
  have ho := hf.once
  have ho2 : Once (cutL es i t) := once_of_nodup (cutL_srt hf.so i t).nodup
  by_cases hs : s = es[i].at'
  · rw [if_pos hs]
    refine plF_none fun y hy => ?_
    obtain ⟨e, he, rfl⟩ := mem_cutL hy
    rw [(cutY_at _ _ e).1, hs]
    exact (erase_ne hf.so hi he).2
  · rw [if_neg hs]
    rcases at_or es s with ⟨e, he, rfl⟩ | hn
    · rw [plF_mem ho he]
      have hm : cutY (es.getD i .df).at' t e ∈ cutL es i t := List.mem_map.2 ⟨e, mem_erase hi he hs, rfl⟩
      have h1 := plF_mem ho2 hm
      rw [(cutY_at _ _ e).1] at h1
      rw [h1, getD_at es i hi]
      have hk := hw.kd e he
      unfold relF cutY
      by_cases hc : e.from' = es[i].at'
      · rw [if_pos hc, if_pos ⟨by simp only; omega, hc⟩]
      · rw [if_neg hc, if_neg (fun h => hc h.2)]
    · rw [plF_none hn]
      have : relF es[i].at' t zeroPl = zeroPl := by unfold relF; rw [if_neg (fun h => h.1 rfl)]
      rw [this]
      refine plF_none fun y hy => ?_
      obtain ⟨e, he, rfl⟩ := mem_cutL hy
      rw [(cutY_at _ _ e).1]
      exact hn e (erase_ne hf.so hi he).1
theorem plF_full {bs : List (Int × Int)} {es : List En} (hf : Wf bs es) {a : Sl} {i : Nat} (h : fullF bs es a = .ok i) : ∃ hi : i < es.length, es[i].at' = a ∧ plF es a = (es[i].cap, es[i].from') := by
  obtain ⟨hi, hE⟩ := full_at h
  refine ⟨hi, hE, ?_⟩
  have := plF_mem hf.once (List.getElem_mem hi)
  rw [hE] at this
  exact this
theorem plF_put {bs : List (Int × Int)} {es : List En} (hf : Wf bs es) (hw : Wx bs es) {a f : Sl} {c : Cp} (hg : GuOk c) (he : putE bs es a c f = 0) (s : Sl) : plF (putL bs es a c f) s = if s = a then (c, fromN f) else plF es s := by
  have h2 := hf.put a c f hg
  unfold putL at h2 ⊢
  rw [if_pos he] at h2 ⊢
  obtain ⟨_, _, h3⟩ := put_in he
  exact plF_ins hf.once h2.once (free_none h3).2 s
theorem plF_take {bs : List (Int × Int)} {es : List En} (hf : Wf bs es) (hw : Wx bs es) {a : Sl} {i : Nat} (h : fullF bs es a = .ok i) (s : Sl) : plF (takeL bs es a) s = if s = a then zeroPl else relF a (plF es a).2 (plF es s) := by
  obtain ⟨hi, hE, hp⟩ := plF_full hf h
  unfold takeL
  rw [h]
  dsimp only
  rw [plF_cut hf hw hi, hE, hp, getD_at es i hi]
theorem plF_move {bs : List (Int × Int)} {es : List En} (hf : Wf bs es) (hw : Wx bs es) {a t : Sl} {i : Nat} (h : fullF bs es a = .ok i) (ht : freeF bs es t = 0) (s : Sl) : plF (moveL bs es a t) s = relF a t (if s = t then plF es a else if s = a then zeroPl else plF es s) := by
  obtain ⟨hi, hE, hp⟩ := plF_full hf h
  have h2 := hf.move a t
  unfold moveL at h2 ⊢
  rw [h] at h2 ⊢
  dsimp only at h2 ⊢
  rw [if_pos ht] at h2 ⊢
  have hfr := (free_none ht).2
  have hne : ∀ e ∈ cutL es i t, e.at' ≠ t := fun y hy => by
    obtain ⟨e, he, rfl⟩ := mem_cutL hy
    rw [(cutY_at _ _ e).1]
    exact hfr e (erase_ne hf.so hi he).1
  rw [plF_ins (once_of_nodup (cutL_srt hf.so i t).nodup) h2.once hne, plF_cut hf hw hi, hE, getD_at es i hi]
  dsimp only
  by_cases hs : s = t
  · rw [if_pos hs, if_pos hs, hp]
    unfold relF
    rw [if_neg]
    rintro ⟨_, h3⟩
    obtain ⟨r, hr⟩ := hf.rk
    have h4 := hr _ (List.getElem_mem hi)
    simp only at h3
    rw [h3, hE] at h4
    omega
  · rw [if_neg hs, if_neg hs]
    by_cases hs2 : s = a
    · rw [if_pos hs2, if_pos hs2]
      unfold relF
      rw [if_neg (fun h => h.1 rfl)]
    · rw [if_neg hs2, if_neg hs2]
theorem plF_set {bs : List (Int × Int)} {es : List En} (hf : Wf bs es) {a : Sl} {i : Nat} (h : fullF bs es a = .ok i) {c : Cp} (hg : GuOk c) (ho : sameO (es.getD i .df).cap c = true) (s : Sl) : plF (setL bs es a c) s = if s = a then (c, (plF es a).2) else plF es s := by
  obtain ⟨hi, hE, hp⟩ := plF_full hf h
  have h2 := (hf.set a c hg).once
  unfold setL at h2 ⊢
  rw [h] at h2 ⊢
  dsimp only at h2 ⊢
  rw [if_pos ho, getD_at es i hi] at h2 ⊢
  by_cases hs : s = a
  · rw [if_pos hs, hs, hp]
    have hm : (⟨es[i].at', c, es[i].from'⟩ : En) ∈ es.set i ⟨es[i].at', c, es[i].from'⟩ := List.mem_set hi _
    have h4 := plF_mem h2 hm
    have h5 : plF (es.set i ⟨es[i].at', c, es[i].from'⟩) es[i].at' = (c, es[i].from') := h4
    have h6 : plF (es.set i ⟨es[i].at', c, es[i].from'⟩) a = plF (es.set i ⟨es[i].at', c, es[i].from'⟩) es[i].at' := congrArg (plF (es.set i ⟨es[i].at', c, es[i].from'⟩)) hE.symm
    rw [h6, h5]
  · rw [if_neg hs]
    rcases at_or es s with ⟨e, he, rfl⟩ | hn
    · rw [plF_mem hf.once he]
      obtain ⟨j, hj, rfl⟩ := List.getElem_of_mem he
      have hji : i ≠ j := fun h => hs (by subst h; exact hE)
      have hm : es[j] ∈ es.set i ⟨es[i].at', c, es[i].from'⟩ := by
        rw [List.mem_iff_getElem?]
        exact ⟨j, by rw [List.getElem?_set_ne hji, List.getElem?_eq_getElem hj]⟩
      exact plF_mem h2 hm
    · rw [plF_none hn]
      refine plF_none fun y hy => ?_
      obtain ⟨e, he, h3, _⟩ := mem_set_cap hi hy
      rw [h3]; exact hn e he
/-- A box's places, as the program keeps them. -/
def rowQ (Q : Sl → Pl) (num : Int) (n : Nat) : List Pl := (List.range n).map fun (i : Nat) => Q (num, (i : Int))
theorem rowQ_len (Q : Sl → Pl) (num : Int) (n : Nat) : (rowQ Q num n).length = n := by simp [rowQ]
theorem rowQ_at (Q : Sl → Pl) (num : Int) (n k : Nat) (hk : k < (rowQ Q num n).length) : (rowQ Q num n)[k] = Q (num, (k : Int)) := by simp [rowQ]
theorem rowQ_set {Q Q' : Sl → Pl} {num : Int} {n k : Nat} {p : Pl} (h : ∀ i : Nat, Q' (num, (i : Int)) = if i = k then p else Q (num, (i : Int))) : rowQ Q' num n = (rowQ Q num n).set k p := by
  apply List.ext_getElem
  · simp [rowQ]
  · intro i h1 h2
    rw [rowQ_at, h i, List.getElem_set]
    by_cases hk : i = k
    · rw [if_pos hk, if_pos hk.symm]
    · rw [if_neg hk, if_neg (fun h => hk h.symm), rowQ_at]
theorem rowQ_same {Q Q' : Sl → Pl} {num : Int} {n : Nat} (h : ∀ i : Nat, Q' (num, (i : Int)) = Q (num, (i : Int))) : rowQ Q' num n = rowQ Q num n := by
  unfold rowQ; simp only [h]
/-- One place put anew. -/
def setQ (Q : Sl → Pl) (a : Sl) (p : Pl) : Sl → Pl := fun s => if s = a then p else Q s
theorem rowQ_setQ (Q : Sl → Pl) (num : Int) (n k : Nat) (p : Pl) : rowQ (setQ Q (num, (k : Int)) p) num n = (rowQ Q num n).set k p :=
  rowQ_set fun i => by
    unfold setQ
    by_cases h : i = k
    · subst h; simp
    · rw [if_neg h, if_neg (by simp; omega)]
theorem rowQ_other (Q : Sl → Pl) (num m : Int) (n : Nat) (k : Int) (p : Pl) (h : m ≠ num) : rowQ (setQ Q (num, k) p) m n = rowQ Q m n :=
  rowQ_same fun i => by
    unfold setQ
    rw [if_neg (by simp; exact fun h1 => absurd h1 h)]
end Go.Proofs.YtbmchgjilkoplaaDoor

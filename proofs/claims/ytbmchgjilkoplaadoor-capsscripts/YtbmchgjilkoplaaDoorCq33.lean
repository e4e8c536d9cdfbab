import Derived.Test.YtbmchgjilkoplaaDoorCq31
import Derived.Test.YtbmchgjilkoplaaDoorCq32
import Derived.Shelf.SlIterI.Nil
import Derived.Shelf.SortM.Plain
import Derived.Shelf.SortM.SortNone
import Derived.Test.YtbmchgjilkoplaaDoorCq5
/- Chapter 7, the program's store: its boxes' numbers, sorted. -/
namespace Go.Proofs.YtbmchgjilkoplaaDoor
open Go.ChangeShapes Go.WideShapes Go.ChangeAt Go.RowKit Go.Sort Go.Shelf
open Go.Vx
set_option linter.unusedVariables false
variable {U : Nat → Prop} {w : World} {xb mb : Nat} {D : DataW Value} {G : Int → Nat} {bs : List (Int × Int)} {es : List En} {Q : Sl → Pl}

theorem keys_call (mb : Nat) (w : World) : Calls Tryd.prog 71 #[.map (some mb)] w fun e w' => e = .returned (.func (.func 80) #[] #[.pointer (some ⟨w.heap.size, 0, none⟩)]) ∧ w' = w.alloc (.cells #[.map (some mb)] 77) :=
  (callsIn_wide (n := 5)).1 (AnyZI.keys_in Tryd.keysA Fence.wide 5 trivial rfl (some mb) w)
theorem sortsA (m : Nat) : AnyZI.SortsIn Tryd.prog Tryd.sortedA_ren Fence.wide m :=
  ⟨fun blk off cap ss W hH hblk hsz => callsIn_wide.2 (Tryd.slices_Sort_int blk off cap ss W hH hblk hsz),
   fun p cap W => callsIn_wide.2 (Tryd.slices_Sort_int_none p cap W)⟩
/-- The boxes' numbers, in order. -/
def numsF (bs : List (Int × Int)) : List Int := (bs.map (·.1)).mergeSort (fun x y => decide (x ≤ y))
theorem fl_in (l : List Int) : fl inL l = l.map encZ := by
  induction l with
  | nil => rfl
  | cons a l ih => rw [fl_cons, ih]; rfl
theorem nums_len (bs : List (Int × Int)) : (numsF bs).length = bs.length := by unfold numsF; rw [List.length_mergeSort, List.length_map]
theorem sorted_call (h : XsAt U w xb mb D G bs Q) : Calls Tryd.prog 70 #[.func (.func 80) #[] #[.pointer (some ⟨w.heap.size, 0, none⟩)]] (w.alloc (.cells #[.map (some mb)] 77)) fun e w' => ∃ v, e = .returned v ∧ OwnL inL w' w.heap.size 3 v (numsF bs) ∧ Only (fun _ => False) w w' := by
  obtain ⟨hperm, hsize⟩ := h.keys
  have hnb := h.nb
  have hbl := h.m.lt
  have hseq : SeqGives Fence.wide 2 Tryd.prog 80 #[.pointer (some ⟨w.heap.size, 0, none⟩)] encZ (fun ss => ss.Perm (intKeys D)) (Maps.size D) (w.alloc (.cells #[.map (some mb)] 77)) :=
    AnyZI.keys_gives (ρ := Tryd.keysA_ren) { Tryd.keysA with } Fence.wide _ trivial rfl (by omega) w.heap.size mb bs.length D _ (by simp) (by simp) (h.m.alloc _)
  have cS := AnyZI.sorted_in Tryd.sortedA Fence.wide 5 trivial trivial trivial trivial rfl (by omega) (sortsA _) (enters_of Tryd.func79 (by kernel_rfl) rfl) 80 #[.pointer (some ⟨w.heap.size, 0, none⟩)] trivial (enters_of Tryd.func80 (by kernel_rfl) rfl) _ _ (by rw [hsize]; unfold maxLen; omega) (by rw [hsize]; omega) _ hseq
  change CallsIn _ _ Tryd.prog 70 _ _ _ at cS
  refine ((callsIn_wide (n := 5)).1 cS).mono ?_
  rintro e w' ⟨v, ss, rfl, hp, hrow, _, hb⟩
  have e1 : ss.mergeSort (fun x y => decide (x ≤ y)) = numsF bs := mergeSort_of_perm_i (hp.trans hperm.symm)
  have e2 : ss.length = (numsF bs).length := by rw [← e1, List.length_mergeSort]
  refine ⟨v, rfl, ?_, ?_⟩
  · have h1 : w'.ownsRow (w.alloc (.cells #[.map (some mb)] 77)).heap.size 3 1 v (numsF bs).length (fl inL (numsF bs)) := by
      rw [e1, e2] at hrow
      rw [fl_in]
      exact hrow
    exact own_base (L := inL) h1 (by simp)
  · exact ((Only.refl _ w).alloc _).trans (Only.of_below hb (fun k hk hb2 => by omega))
end Go.Proofs.YtbmchgjilkoplaaDoor

/- Chapter 7, pure: what the program tells box by box is what the document keeps. -/
namespace Go.Proofs.YtbmchgjilkoplaaDoor
open Go.Vx
set_option linter.unusedVariables false
variable {bs : List (Int × Int)} {es : List En} {Q : Sl → Pl}

def enQ (Q : Sl → Pl) (s : Sl) : En := ⟨s, (Q s).1, (Q s).2⟩
/-- What a box tells of its first k slots. -/
def rowE (Q : Sl → Pl) (num : Int) (k : Nat) : List En := (List.range k).flatMap fun (i : Nat) => if (Q (num, (i : Int))).1.kind = 0 then [] else [enQ Q (num, (i : Int))]
def sizeN (bs : List (Int × Int)) (num : Int) : Nat := ((sizeF bs num).getD 0).toNat
def entsF (Q : Sl → Pl) (bs : List (Int × Int)) (l : List Int) : List En := l.flatMap fun num => rowE Q num (sizeN bs num)
theorem rowE_step (Q : Sl → Pl) (num : Int) (k : Nat) : rowE Q num (k + 1) = rowE Q num k ++ (if (Q (num, (k : Int))).1.kind = 0 then [] else [enQ Q (num, (k : Int))]) := by
  unfold rowE
  rw [List.range_succ, List.flatMap_append]
  simp
theorem entsF_step (Q : Sl → Pl) (bs : List (Int × Int)) (l : List Int) (j : Nat) (hj : j < l.length) : entsF Q bs (l.take (j + 1)) = entsF Q bs (l.take j) ++ rowE Q l[j] (sizeN bs l[j]) := by
  unfold entsF
  rw [List.take_succ_eq_append_getElem hj, List.flatMap_append]
  simp
theorem mem_rowE {num : Int} {k : Nat} {e : En} : e ∈ rowE Q num k ↔ ∃ i : Nat, i < k ∧ (Q (num, (i : Int))).1.kind ≠ 0 ∧ e = enQ Q (num, (i : Int)) := by
  unfold rowE
  rw [List.mem_flatMap]
  constructor
  · rintro ⟨i, hi, he⟩
    by_cases h : (Q (num, (i : Int))).1.kind = 0
    · rw [if_pos h] at he; cases he
    · rw [if_neg h] at he
      exact ⟨i, List.mem_range.1 hi, h, by simpa using he⟩
  · rintro ⟨i, hi, h, rfl⟩
    exact ⟨i, List.mem_range.2 hi, by rw [if_neg h]; simp⟩
theorem nums_mem (bs : List (Int × Int)) (x : Int) : x ∈ numsF bs ↔ ∃ b ∈ bs, b.1 = x := by
  unfold numsF
  rw [List.mem_mergeSort, List.mem_map]
theorem nums_sorted (hn : (bs.map (·.1)).Nodup) : (numsF bs).Pairwise (fun a b => a < b) := by
  have h1 : (numsF bs).Pairwise (fun a b => (decide (a ≤ b)) = true) := List.pairwise_mergeSort (fun a b c h1 h2 => by simp only [decide_eq_true_eq] at *; omega) (fun a b => by simp only [Bool.or_eq_true, decide_eq_true_eq]; omega) _
  have h2 : (numsF bs).Nodup := (List.Perm.nodup_iff (List.mergeSort_perm _ _)).2 hn
  refine (h1.and h2).imp (fun {a b} h => ?_)
  have h3 := of_decide_eq_true h.1
  have h4 : a ≠ b := h.2
  omega
theorem rowE_sorted (Q : Sl → Pl) (num : Int) : ∀ k, (rowE Q num k).Pairwise (fun a b => aheadB a.at' b.at' = true)
  | 0 => by simp [rowE]
  | k + 1 => by
    rw [rowE_step, List.pairwise_append]
    refine ⟨rowE_sorted Q num k, ?_, fun a ha b hb => ?_⟩
    · split
      · exact List.Pairwise.nil
      · simp
    · obtain ⟨i, hi, _, rfl⟩ := mem_rowE.1 ha
      split at hb
      · cases hb
      · simp only [List.mem_cons, List.not_mem_nil, or_false] at hb
        subst hb
        exact decide_eq_true (Or.inr ⟨rfl, by show (i : Int) < (k : Int); omega⟩)
theorem ents_sorted (hn : (bs.map (·.1)).Nodup) : Srt (entsF Q bs (numsF bs)) := by
  unfold Srt entsF
  rw [List.pairwise_flatMap]
  refine ⟨fun a _ => rowE_sorted Q a _, (nums_sorted hn).imp (fun {a b} hab x hx y hy => ?_)⟩
  obtain ⟨i, _, _, rfl⟩ := mem_rowE.1 hx
  obtain ⟨j, _, _, rfl⟩ := mem_rowE.1 hy
  exact decide_eq_true (Or.inl hab)
theorem srt_ext {l m : List En} (h1 : Srt l) (h2 : Srt m) (h : ∀ e, e ∈ l ↔ e ∈ m) : l = m := by
  have n1 : l.Nodup := h1.imp (fun {a b} hab e => by subst e; rw [ahead_irr] at hab; cases hab)
  have n2 : m.Nodup := h2.imp (fun {a b} hab e => by subst e; rw [ahead_irr] at hab; cases hab)
  refine List.Perm.eq_of_pairwise (le := fun (a b : En) => aheadB a.at' b.at' = true) (fun a b _ _ h3 h4 => ?_) h1 h2 ((List.perm_ext_iff_of_nodup n1 n2).2 h)
  have := ahead_trans h3 h4
  rw [ahead_irr] at this
  cases this
theorem ents_es (hf : Wf bs es) (hx : Wx bs es) : entsF (plF es) bs (numsF bs) = es := by
  refine srt_ext (ents_sorted hx.nd) hf.so (fun e => ?_)
  unfold entsF
  rw [List.mem_flatMap]
  constructor
  · rintro ⟨num, hnum, he⟩
    obtain ⟨i, hi, hk, rfl⟩ := mem_rowE.1 he
    rcases at_or es (num, (i : Int)) with ⟨e2, h2, h3⟩ | hn
    · have := plF_mem hf.once h2
      rw [h3] at this
      unfold enQ
      rw [this]
      have h4 : (⟨(num, (i : Int)), e2.cap, e2.from'⟩ : En) = e2 := by rw [← h3]
      rw [h4]
      exact h2
    · rw [plF_none hn] at hk
      exact absurd rfl hk
  · intro he
    obtain ⟨b, hb, h1, h2, h3⟩ := hx.ix e he
    refine ⟨e.at'.1, (nums_mem bs _).2 ⟨b, hb, h1⟩, mem_rowE.2 ⟨e.at'.2.toNat, ?_, ?_, ?_⟩⟩
    · unfold sizeN
      rw [← h1, (mem_size hx.nd hb).1]
      simp only [Option.getD_some]
      omega
    · have h4 : (e.at'.1, ((e.at'.2.toNat : Nat) : Int)) = e.at' := Prod.ext rfl (by simp only; omega)
      rw [h4, plF_mem hf.once he]
      have := hx.kd e he
      simp only
      omega
    · have h4 : (e.at'.1, ((e.at'.2.toNat : Nat) : Int)) = e.at' := Prod.ext rfl (by simp only; omega)
      rw [h4]
      unfold enQ
      rw [plF_mem hf.once he]
theorem rowE_len (Q : Sl → Pl) (num : Int) (k : Nat) : (rowE Q num k).length ≤ k := by
  induction k with
  | zero => simp [rowE]
  | succ k ih =>
    rw [rowE_step, List.length_append]
    split
    · simp; omega
    · simp; omega
end Go.Proofs.YtbmchgjilkoplaaDoor

/- Chapter 7, the program's store: Entries. -/
namespace Go.Proofs.YtbmchgjilkoplaaDoor
open Go.ChangeShapes Go.WideShapes Go.ChangeAt Go.RowKit
open Go.Vx
set_option linter.unusedVariables false
variable {U : Nat → Prop} {w : World} {xb mb : Nat} {D : DataW Value} {G : Int → Nat} {bs : List (Int × Int)} {es : List En} {Q : Sl → Pl}

theorem rowE_prefix (Q : Sl → Pl) (num : Int) (k n : Nat) (h : k ≤ n) : (rowE Q num k).length ≤ (rowE Q num n).length := by
  induction n with
  | zero => have : k = 0 := by omega
            subst this; exact Nat.le_refl _
  | succ n ih =>
    by_cases hk : k = n + 1
    · subst hk; exact Nat.le_refl _
    · rw [rowE_step, List.length_append]
      have := ih (by omega)
      omega
theorem part_len (Q : Sl → Pl) (bs : List (Int × Int)) (l : List Int) (j : Nat) (hj : j < l.length) (k : Nat) (hk : k ≤ sizeN bs l[j]) : (entsF Q bs (l.take j) ++ rowE Q l[j] k).length ≤ (entsF Q bs l).length := by
  have h1 := entsF_step Q bs l j hj
  have h2 : entsF Q bs l = entsF Q bs (l.take (j + 1)) ++ entsF Q bs (l.drop (j + 1)) := by
    unfold entsF
    rw [← List.flatMap_append, List.take_append_drop]
  rw [h2, h1]
  have := rowE_prefix Q l[j] k _ hk
  simp only [List.length_append]
  omega
/-- What stands between the rounds where the entries are told. -/
structure EtR (w : World) (nv : Value) (nums : List Int) (v : Value) (ls : List En) (wr : World) : Prop where
  on : Only (fun _ => False) w wr
  nu : OwnL inL wr w.heap.size 3 nv nums
  ow : OwnL enL wr w.heap.size 72 v ls
theorem EtR.quiet {w : World} {nv : Value} {nums : List Int} {v : Value} {ls : List En} {wr wx : World} (h : EtR w nv nums v ls wr) (ho : Only (fun _ => False) wr wx) : EtR w nv nums v ls wx :=
  ⟨h.on.trans ho, h.nu.kept ho (fun _ _ h => h), h.ow.kept ho (fun _ _ h => h)⟩
theorem EtR.push {w : World} {nv : Value} {nums : List Int} {v v2 : Value} {ls ls2 : List En} {wr wx : World} (h : EtR w nv nums v ls wr) (ho : OwnL enL wx w.heap.size 72 v2 ls2) (hon : Only (fun k => v.ownBlock = some k) wr wx) : EtR w nv nums v2 ls2 wx :=
  ⟨h.on.beyond hon (fun k hk => (own_lt h.ow hk).1), h.nu.kept hon (fun k hk e => by
    obtain ⟨c1, h1⟩ := own_tag h.nu hk
    obtain ⟨c2, h2⟩ := own_tag h.ow e
    exact tag_ne h1 h2 (by decide) rfl), ho⟩
set_option maxRecDepth 100000 in
theorem xorder_ok (h : XsAt U w xb mb D G bs Q) : Calls Tryd.prog 50 #[.pointer (some ⟨xb, 0, none⟩)] w fun e w' => ∃ v, e = .returned v ∧ OwnL inL w' w.heap.size 3 v (numsF bs) ∧ Only (fun _ => False) w w' := by
  have c0 := h.c0
  have HKC := Vx.hid (keys_call mb w)
  have HSC := Vx.hid (sorted_call h)
  clear h
  go_enter Tryd.func50, Tryd.ntmps50
  go_wp2_with fail
  refine HKC.out.mono ?_
  rintro e w1 ⟨rfl, rfl⟩
  go_wp2_with fail
  refine HSC.out.mono ?_
  rintro e w2 ⟨nv, rfl, hnu, hon⟩
  have HR := Vx.hid (⟨hnu, hon⟩ : _ ∧ _)
  obtain ⟨np, nc, hnv, _⟩ := hnu.form
  generalize (numsF bs).length = M at hnv
  subst hnv
  clear hnu hon HKC HSC c0
  go_wp2_with fail
  all_goals
    go_ret
    exact ⟨_, rfl, HR.out.1, HR.out.2⟩
set_option maxRecDepth 100000 in
set_option maxHeartbeats 4000000 in
theorem xentries_ok (hc : XcAt U w xb bs es) : Calls Tryd.prog 15 #[.pointer (some ⟨xb, 0, none⟩)] w fun e w' => ∃ v, e = .returned v ∧ OwnL enL w' w.heap.size 72 v es ∧ Only (fun _ => False) w w' := by
  obtain ⟨mb, D, G, h, hf, hx, hl⟩ := hc
  have HES := Vx.hid (ents_es hf hx)
  have HX := Vx.hid h
  have c0 := h.c0
  have HSC := Vx.hid (xorder_ok h)
  have hnl := nums_len bs
  have hnb := h.nb
  have HLN := Vx.hid hl
  have HMEM : Hid (∀ x ∈ numsF bs, I64 x ∧ ∃ n, sizeF bs x = some n ∧ sizeN bs x = n.toNat ∧ 1 ≤ n ∧ n ≤ 64) := fun x hxm => by
    obtain ⟨b, hb, rfl⟩ := (nums_mem bs x).1 hxm
    have h1 := (mem_size hx.nd hb).1
    exact ⟨hx.ib b hb, b.2, h1, by unfold sizeN; rw [h1]; rfl, h.bn _ _ h1⟩
  obtain ⟨nums, hnums⟩ : ∃ l, l = numsF bs := ⟨_, rfl⟩
  rw [← hnums] at HES HSC hnl HMEM
  clear h hf hx hl hnums
  go_enter Tryd.func15, Tryd.ntmps15
  go_wp2_with fail
  refine HSC.out.mono ?_
  rintro e w2 ⟨nv, rfl, hnu, hon⟩
  obtain ⟨np, nc, hnv, _, _, hng⟩ := hnu.form
  obtain ⟨M, hM⟩ : ∃ M, M = nums.length := ⟨_, rfl⟩
  have HM := Vx.hid hM
  rw [← hM] at hnv
  have hMb : M ≤ 1000000 := by omega
  have HE0 : Hid (EtR w nv nums (.slice none 0 0) (entsF (plF es) bs (nums.take 0)) w2) := ⟨hon, hnu, OwnL.nil _ _ _ _⟩
  subst hnv
  have HNG := Vx.hid hng
  clear hnu hon hM HSC c0 hnb hnl hng
  go_wp2_with fail
  go_loopw [3, 5, 6, 7, 11] (fun v _ _ _ d wr => ∃ j : Nat, d = .int .i64 (j : Int) ∧ j ≤ M ∧ Hid (EtR w (.slice np M nc) nums v (entsF (plF es) bs (nums.take j)) wr)) (fun _ _ _ _ d _ => M - (RowKit.intOf d).toNat)
  case atStart => exact ⟨0, rfl, by omega, HE0⟩
  case round =>
    clear HE0
    obtain ⟨j, rfl, hj, HR⟩ := hrel
    by_cases hlt : j < M
    · have hjl : j < nums.length := by have := HM.out; omega
      have h1 : (j : Int) < (M : Int) := by omega
      have hidx : 0 ≤ (j : Int) ∧ (j : Int) < (M : Int) := by omega
      have hwj : IntKind.i64.wrap ((j : Int) + 1) = (j : Int) + 1 := by rw [IntKind.wrap_i64]; omega
      obtain ⟨g, rfl, _⟩ := HNG.out (by omega)
      have hnc : wr.cell? ⟨g, j, none⟩ = some (.int .i64 nums[j]) := by
        have := HR.out.nu.cell j 0 hjl (by decide)
        have e : j * inL.sz + 0 = j := by show j * 1 + 0 = j; omega
        rw [e] at this
        exact this
      obtain ⟨hni, n, hns, hnN, hn1, hn2⟩ := HMEM.out _ (List.getElem_mem hjl)
      have HPL := Vx.hid (part_len (plF es) bs nums j hjl)
      have hstep := entsF_step (plF es) bs nums j hjl
      generalize nums[j] = num at hnc hni hns hnN HPL hstep
      obtain ⟨N, hN⟩ : ∃ N : Nat, n = (N : Int) := ⟨n.toNat, by omega⟩
      subst hN
      rw [Int.toNat_natCast] at hnN
      rw [hnN] at HPL hstep
      have hXr := HX.out.quiet HR.out.on
      have c0 := hXr.c0
      have hlk := (hXr.look num hni).1
      rw [lookV_some hns, Int.toNat_natCast] at hlk
      have HNS := Vx.hid hns
      have HST := Vx.hid hstep
      have HR0 : Hid (EtR w (.slice (some ⟨g, 0, none⟩) M nc) nums u3 (entsF (plF es) bs (nums.take j) ++ rowE (plF es) num 0) wr) := by
        have e : rowE (plF es) num 0 = [] := by simp [rowE]
        rw [e, List.append_nil]
        exact HR.out
      have hN64 : N ≤ 64 := by omega
      clear hns hstep hXr HR hn1 hn2 hnN hni
      go_wp2_with fail
      go_loopw [3, 6, 7, 22] (fun v _ _ d wx => ∃ k : Nat, d = .int .i64 (k : Int) ∧ k ≤ N ∧ Hid (EtR w (.slice (some ⟨g, 0, none⟩) M nc) nums v (entsF (plF es) bs (nums.take j) ++ rowE (plF es) num k) wx)) (fun _ _ _ d _ => N - (RowKit.intOf d).toNat)
      case atStart => exact ⟨0, rfl, by omega, HR0⟩
      case round =>
        clear HR0 c0 hlk hnc
        obtain ⟨k, rfl, hk, HRK⟩ := hrel
        by_cases hltk : k < N
        · have h2 : (k : Int) < (N : Int) := by omega
          have hidk : 0 ≤ (k : Int) ∧ (k : Int) < (N : Int) := by omega
          have hwk : IntKind.i64.wrap ((k : Int) + 1) = (k : Int) + 1 := by rw [IntKind.wrap_i64]; omega
          obtain ⟨c0, c1, c2, c3, c4, c5, c6, c7, c8, c9⟩ := (HX.out.quiet HRK.out.on).p10 HNS.out k h2
          have HF := Vx.hid (isFull_ok (plF es (num, (k : Int))))
          have hrs := rowE_step (plF es) num k
          have HLE : Hid ((entsF (plF es) bs (nums.take j) ++ rowE (plF es) num k).length + 1 ≤ 10000000) := by
            have h3 := HPL.out k hk
            rw [HES.out] at h3
            have h4 := HLN.out
            show _ + 1 ≤ 10000000
            omega
          unfold enQ at hrs
          generalize hp : plF es (num, (k : Int)) = p at c0 c1 c2 c3 c4 c5 c6 c7 c8 c9 HF hrs
          obtain ⟨⟨d0, d1, d2, d3, d4, d5, d6, d7⟩, ⟨f0, f1⟩⟩ := p
          dsimp only at c0 c1 c2 c3 c4 c5 c6 c7 c8 c9 HF hrs
          have HRS := Vx.hid hrs
          have HAL : Hid (∀ o, Only (fun _ => False) wr (wr.alloc o)) := fun o => (Only.refl _ wr).alloc o
          obtain ⟨pv, cv, hvf, _⟩ := HRK.out.ow.form
          obtain ⟨m, hm⟩ : ∃ m, m = (entsF (plF es) bs (nums.take j) ++ rowE (plF es) num k).length := ⟨_, rfl⟩
          rw [← hm] at hvf
          subst hvf
          clear hp hrs hltk hm
          by_cases hz : d0 = 0
          · subst hz
            go_wp2_with fail
            refine (HF.out _).mono ?_
            rintro e w4 ⟨rfl, h4⟩
            have H4 := Vx.hid ((HAL.out (.cells #[.int .i64 0, .int .i64 d1, .int .i64 d2, .int .u32 d3, .int .u32 d4, .int .i64 d5, .int .i64 d6, .int .u32 d7, .int .i64 f0, .int .i64 f1] 105)).trans h4)
            clear h4 c0 c1 c2 c3 c4 c5 c6 c7 c8 c9 HAL HF
            go_wp2_with fail
            go_roundw
            case rel =>
              refine ⟨k + 1, by go_num, by omega, ?_⟩
              have := HRK.out.quiet H4.out
              rw [HRS.out]
              first | rw [if_pos rfl, List.append_nil] | rw [if_pos trivial, List.append_nil]
              exact this
            case measure => simp only [RowKit.intOf]; omega
          · have hz2 : (d0 != 0) = true := by simp [hz]
            rw [hz2] at HF
            have HZ := Vx.hid hz
            go_wp2_with fail
            refine (HF.out _).mono ?_
            rintro e w4 ⟨rfl, h4⟩
            have hO4 := (HAL.out (.cells #[.int .i64 d0, .int .i64 d1, .int .i64 d2, .int .u32 d3, .int .u32 d4, .int .i64 d5, .int .i64 d6, .int .u32 d7, .int .i64 f0, .int .i64 f1] 105)).trans h4
            have hnb : w4.heap[wr.heap.size]? = some (.cells #[.int .i64 d0, .int .i64 d1, .int .i64 d2, .int .u32 d3, .int .u32 d4, .int .i64 d5, .int .i64 d6, .int .u32 d7, .int .i64 f0, .int .i64 f1] 105 (0, 0)) := by
              have h9 := heap_alloc_last wr (.cells #[.int .i64 d0, .int .i64 d1, .int .i64 d2, .int .u32 d3, .int .u32 d4, .int .i64 d5, .int .i64 d6, .int .u32 d7, .int .i64 f0, .int .i64 f1] 105)
              rw [h4.block _ (lt_of_some h9) (fun h => h)]
              exact h9
            obtain ⟨⟨n0, n1, n2, n3, n4, n5, n6, n7, n8, n9⟩, nf⟩ := place_cells hnb
            have HR4 := Vx.hid (HRK.out.quiet hO4)
            have HBL : Hid (w.heap.size ≤ w4.heap.size) := HR4.out.on.size
            clear h4 c0 c1 c2 c3 c4 c5 c6 c7 c8 c9 HAL HF hnb hO4 nf
            obtain ⟨nb, hnb2⟩ : ∃ nb, nb = wr.heap.size := ⟨_, rfl⟩
            rw [← hnb2] at n0 n1 n2 n3 n4 n5 n6 n7 n8 n9 ⊢
            clear hnb2
            go_wp2_with (at_builtin; refine wpList_append_one enK _ rfl _ _ rfl w.heap.size (.slice pv m cv) _ rfl HR4.out.ow ⟨(num, (k : Int)), ⟨d0, d1, d2, d3, d4, d5, d6, d7⟩, (f0, f1)⟩ _ _ rfl rfl rfl HLE.out HBL.out ?_; intro v' w5 hv1 hv2 hv3; have HNX := Vx.hid (HR4.out.push hv1 hv2); clear hv1 hv2 hv3)
            go_roundw
            case rel =>
              refine ⟨k + 1, by go_num, by omega, ?_⟩
              have := HNX.out
              rw [HRS.out, if_neg HZ.out, ← List.append_assoc]
              exact this
            case measure => simp only [RowKit.intOf]; omega
        · obtain rfl : k = N := by omega
          have h2 : ¬ (k : Int) < (k : Int) := by omega
          have HNX : Hid (EtR w (.slice (some ⟨g, 0, none⟩) M nc) nums u3 (entsF (plF es) bs (nums.take (j + 1))) wr) := by
            have := HRK.out
            rw [← HST.out] at this
            exact this
          clear HRK
          go_wp2_with fail
          go_roundw
          case rel => exact ⟨j + 1, by go_num, by omega, HNX⟩
          case measure => simp only [RowKit.intOf]; omega
    · obtain rfl : j = M := by omega
      have h1 : ¬ (j : Int) < (j : Int) := by omega
      have HFIN : Hid (EtR w (.slice np j nc) nums u3 es wr) := by
        have := HR.out
        rw [HM.out, List.take_length, HES.out, ← HM.out] at this
        exact this
      clear HR
      obtain ⟨pv, cv, hvf, _⟩ := HFIN.out.ow.form
      generalize es.length = L at hvf
      subst hvf
      go_wp2_with fail
      go_ret
      exact ⟨_, rfl, HFIN.out.ow, HFIN.out.on⟩
end Go.Proofs.YtbmchgjilkoplaaDoor

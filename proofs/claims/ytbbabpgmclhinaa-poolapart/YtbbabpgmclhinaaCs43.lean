import Derived.Test.YtbbabpgmclhinaaCs42
/- Chapter 8, the program's pool: objects sorted. -/
namespace Go.Proofs.Ytbbabpgmclhinaa
open Go.ChangeShapes Go.WideShapes Go.ChangeAt Go.RowKit Go.Sort Go.Shelf
open Go.Vx
set_option linter.unusedVariables false
variable {U V S : Nat → Prop} {w w2 w3 wr wx : World}

theorem flat_fl (d : Array (Int × Int)) : flatK slC 2 d = (fl slL d.toList).toArray := by
  apply Array.ext_getElem?
  intro t
  by_cases h : t < d.size * 2
  · have h1 : t / 2 < d.toList.length := by rw [Array.length_toList]; omega
    have h2 := get_fl slL d.toList (t / 2) (t % 2) h1 (Nat.mod_lt _ (by decide))
    have e : t / 2 * slL.sz + t % 2 = t := by show t / 2 * 2 + t % 2 = t; omega
    rw [e] at h2
    have h3 := get_flatK slC 2 d t h
    have h4 : t < (flatK slC 2 d).size := by rw [size_flatK]; exact h
    rw [getElem!_pos _ t h4, getElem!_pos d (t / 2) (by rw [Array.length_toList] at h1; exact h1)] at h3
    rw [Array.getElem?_eq_getElem h4, h3, List.getElem?_toArray, h2, Array.getElem_toList]
    generalize d[t / 2]'(by rw [Array.length_toList] at h1; exact h1) = z
    rcases (by omega : t % 2 = 0 ∨ t % 2 = 1) with hm | hm <;> rw [hm] <;> rfl
  · rw [Array.getElem?_eq_none (by rw [size_flatK]; omega), List.getElem?_toArray, List.getElem?_eq_none (by rw [length_fl, Array.length_toList]; show d.size * 2 ≤ t; omega)]
theorem lt_cmO (x y : Int × Int) : ltOf cmO x y = true ↔ ltO x y := by
  unfold ltOf cmO ltO
  rw [decide_eq_true_iff]
  by_cases h1 : x.1 < y.1
  · have e1 : cI x.1 y.1 = -1 := if_pos h1
    have e2 : ∀ b, orI (-1) b = -1 := fun b => if_neg (by decide)
    rw [e1, e2]
    omega
  · by_cases h2 : y.1 < x.1
    · have e1 : cI x.1 y.1 = 1 := by unfold cI; rw [if_neg h1, if_pos h2]
      have e2 : ∀ b, orI 1 b = 1 := fun b => if_neg (by decide)
      rw [e1, e2]
      omega
    · have e1 : cI x.1 y.1 = 0 := by unfold cI; rw [if_neg h1, if_neg h2]
      have e2 : ∀ b, orI 0 b = b := fun b => if_pos rfl
      rw [e1, e2]
      unfold cI
      split
      · omega
      · split <;> omega
theorem lt_cmF (x y : Int × Int) : ltOf cmO x y = false ↔ ¬ ltO x y := by
  rw [← lt_cmO]
  simp
theorem swoO : SWO (ltOf cmO) where
  irrefl x := by rw [lt_cmF]; unfold ltO; omega
  trans x y z h1 h2 := by rw [lt_cmO] at *; unfold ltO at *; omega
  ntrans x y z h1 h2 := by rw [lt_cmF] at *; unfold ltO at *; omega
theorem isAggO (w : World) : (isAgg 33).run Try.prog w = .ok true w := by kernel_rfl
theorem sizeO (w : World) : (Go.sizeOf 33).run Try.prog w = .ok 2 w := by kernel_rfl
theorem cmpLays (blk off size : Nat) (w : World) : CmpLays Try.prog 46 #[] slC 2 cmO blk off size w :=
  fun _ _ _ _ x y => pclos_ok x y _
theorem put_take (F cur : Array Value) (h : F.size ≤ cur.size) : (putCells id 0 F cur).toList.take F.size = F.toList ∧ (putCells id 0 F cur).size = cur.size := by
  have hs : (putCells id 0 F cur).size = cur.size := by unfold putCells; simp
  refine ⟨?_, hs⟩
  apply List.ext_getElem?
  intro k
  rw [List.getElem?_take]
  by_cases hk : k < F.size
  · rw [if_pos hk, Array.getElem?_toList, Array.getElem?_toList]
    unfold putCells
    rw [Array.getElem?_mapIdx, Array.getElem?_eq_getElem (by omega), Option.map_some, if_pos (by omega), Nat.sub_zero, getElem!_pos F k hk, Array.getElem?_eq_getElem hk]
    rfl
  · rw [if_neg hk, Array.getElem?_toList, Array.getElem?_eq_none (by omega)]
theorem heap_put (w : World) (blk m : Nat) (F cur : Array Value) (T : TypeId) (os : Array Obj) (h : w.heap[blk]? = some (.cells cur T (0, 0))) :
    (grow (putRow id (Go.Sort.ahead w m) blk 0 F) os).heap[blk]? = some (.cells (putCells id 0 F cur) T (0, 0)) ∧ Only (fun k => k = blk) w (grow (putRow id (Go.Sort.ahead w m) blk 0 F) os) := by
  have hb := lt_of_some h
  have hs : (putRow id (Go.Sort.ahead w m) blk 0 F).heap.size = w.heap.size := by unfold putRow mapBlock; simp [Go.Sort.ahead]
  have hg : ∀ k, k < w.heap.size → (grow (putRow id (Go.Sort.ahead w m) blk 0 F) os).heap[k]? = (putRow id (Go.Sort.ahead w m) blk 0 F).heap[k]? := fun k hk => by
    show ((putRow id (Go.Sort.ahead w m) blk 0 F).heap ++ os)[k]? = _
    rw [Array.getElem?_append_left (by omega)]
  have hm : ∀ k, (putRow id (Go.Sort.ahead w m) blk 0 F).heap[k]? = if blk = k then (w.heap[k]?).map (onCells (putCells id 0 F)) else w.heap[k]? := fun k => by
    show (w.heap.modify blk (onCells (putCells id 0 F)))[k]? = _
    rw [Array.getElem?_modify]
  constructor
  · rw [hg blk hb, hm, if_pos rfl, h]
    rfl
  · refine ⟨rfl, rfl, rfl, ?_, fun k hk hn => ?_⟩
    · show w.heap.size ≤ ((putRow id (Go.Sort.ahead w m) blk 0 F).heap ++ os).size
      rw [Array.size_append]
      omega
    · rw [hg k hk, hm, if_neg (fun e => hn e.symm)]
theorem sort_ok {base : Nat} {v : Value} {xs : List (Int × Int)} (h : OwnL slL w base 33 v xs) (hl : xs.length ≤ 10000) : Calls Try.prog 45 #[v, .func (.func 46) #[] #[]] w fun e w' => e = .returned (.tuple #[]) ∧ ∃ xs', OwnL slL w' base 33 v xs' ∧ xs'.Perm xs ∧ xs'.Pairwise leO ∧ Only (fun k => v.ownBlock = some k) w w' := by
  have hown := h
  rcases h.2 with ⟨rfl, h0⟩ | ⟨g, cap, cur, rfl, hb, hg, hnc, hcm, hcs, htake⟩
  · obtain rfl : xs = [] := List.length_eq_zero_iff.1 h0
    have := AnyF.slices_SortFunc_none Try.sortOb none 0 (.func (.func 46) #[] #[]) w
    change Calls Try.prog 45 _ _ _ at this
    refine this.mono ?_
    rintro e w' ⟨rfl, rfl⟩
    exact ⟨rfl, [], hown, List.Perm.refl _, List.Pairwise.nil, Only.refl _ _⟩
  · have eg : ∀ args w, (callFunc 46 args).run Try.prog w = .ok (.enter 46 args) w := enters_of Try.func46 (by kernel_rfl) rfl
    have hH : HoldsK slC 2 w g 0 xs.toArray := by
      intro j hj
      rw [flat_fl] at hj ⊢
      have hj2 : j < (fl slL xs).length := by simpa using hj
      refine ⟨?_, hown.fz _⟩
      rw [getElem!_pos _ j hj]
      have h5 := (World.ownsRow.cells hown (g := g) rfl) j (fl slL xs)[j] (List.getElem?_eq_getElem hj2)
      rw [addr_add] at h5
      rw [h5]
      simp
    have hcon := AnyQ.slices_SortFunc Try.sortOb 2 isAggO sizeO slC (fun _ => rfl) (fun x u hu => slL.one x u hu) cmO swoO 46 #[] g 0 cap xs.toArray w eg (cmpLays g 0 xs.toArray.size w) hH (lt_of_some hg) (by simp; omega)
    change Calls Try.prog 45 _ _ _ at hcon
    have e1 : xs.toArray.size = xs.length := by simp
    rw [e1] at hcon
    refine hcon.mono ?_
    rintro e w' ⟨rfl, d', m, os, hp, hs, rfl⟩
    obtain ⟨hp1, hp2, hp3⟩ := hp
    have hd : d'.size = xs.length := by rw [hp1]; simp
    obtain ⟨hh, hon⟩ := heap_put w g m (flatK slC 2 d') cur 33 os hg
    have hF : (flatK slC 2 d').size = xs.length * 2 := by rw [size_flatK, hd]
    have hsz : slL.sz = 2 := rfl
    obtain ⟨ht1, ht2⟩ := put_take (flatK slC 2 d') cur (by rw [hF, hcs, hsz]; exact Nat.mul_le_mul_right _ hnc)
    refine ⟨rfl, d'.toList, ?_, ?_, ?_, hon.mono (fun k _ hk => by rw [hk]; rfl)⟩
    · refine ⟨by rw [length_fl], Or.inr ⟨g, cap, _, by rw [show d'.toList.length = xs.length by rw [Array.length_toList, hd]], hb, hh, by rw [Array.length_toList, hd]; exact hnc, hcm, by rw [ht2]; exact hcs, ?_⟩⟩
      rw [Array.length_toList, hd, hsz, ← hF, ht1, flat_fl]
    · have e2 : d'.extract 0 xs.length = d' := by rw [← hd]; exact Array.extract_size
      have e3 : xs.toArray.extract 0 xs.length = xs.toArray := by rw [← e1]; exact Array.extract_size
      rw [e2, e3] at hp3
      simpa using hp3
    · rw [List.pairwise_iff_getElem]
      intro i j hi hj hij
      rw [Array.length_toList] at hi hj
      have h9 := hs i j (Nat.zero_le _) hij (by omega)
      rw [getElem!_pos d' i hi, getElem!_pos d' j hj, lt_cmF] at h9
      unfold leO
      simpa using h9
end Go.Proofs.Ytbbabpgmclhinaa

/- Chapter 8, the program's pool: Objects. -/
namespace Go.Proofs.Ytbbabpgmclhinaa
open Go.ChangeShapes Go.WideShapes Go.ChangeAt Go.RowKit
open Go.Vx
set_option linter.unusedVariables false
variable {U V S : Nat → Prop} {w w1 w2 w3 wr wx : World} {xb pb mb gb r N cnt cnt2 B L c : Nat} {P a n : Int} {D D2 : DataW Value} {os rs os2 rs2 : List (Int × Int)} {left left2 : Lit → Bool}

/-- The pool, a list beside it that is the call's own. -/
theorem XqAt.beside {v : Value} {xs : List (Int × Int)} (h : XqAt U wr xb mb gb D N os rs) (hg : gb < w.heap.size) (hx : xb < w.heap.size) (hm : mb < w.heap.size) (hu : ∀ k, U k → k < w.heap.size) (hl : OwnL slL wr w.heap.size 33 v xs) (ho : Only (fun k => v.ownBlock = some k) wr wx) : XqAt U wx xb mb gb D N os rs := by
  have hk : ∀ k, v.ownBlock = some k → w.heap.size ≤ k := fun k hk => (own_lt hl hk).1
  exact h.aside ho (fun e => by have := hk _ e; omega) (fun e => by have := hk _ e; omega) (fun e => by have := hk _ e; omega) h.ux h.um h.ug (fun k hk2 => Nat.lt_of_lt_of_le (h.low k hk2) ho.size)
/-- Between the rounds over the untypeds. -/
structure ObR (U : Nat → Prop) (w : World) (xb mb gb r : Nat) (D : DataW Value) (N : Nat) (os rs : List (Int × Int)) (v : Value) (l : List Int) (left : Lit → Bool) (cnt : Nat) (wr : World) : Prop where
  rg : wr.ranges Try.prog 3 RI mb r rs.length D left cnt
  xq : XqAt U wr xb mb gb D N os rs
  hr : w.heap.size ≤ r
  ml : MkL 33 w v (l.map (fun x => ((1 : Int), x))) wr
  nd : l.Nodup
  mem : ∀ x, x ∈ l ↔ x ∈ rs.map (·.1) ∧ left (.int .i64 x) = false
theorem ObR.next {v : Value} {l : List Int} (h : ObR U w xb mb gb r D N os rs v l left cnt wr) {x : Int} (hr : wx.ranges Try.prog 3 RI mb r rs.length D (strike left x) cnt2) (hg : wr.grownBy wx (some r)) : wx.ranges Try.prog 3 RI mb r rs.length D (strike left x) cnt2 ∧ XqAt U wx xb mb gb D N os rs ∧ MkL 33 w v (l.map (fun x => ((1 : Int), x))) wx := by
  have ho := mi_grown hg
  obtain ⟨cur, hc⟩ := own_tag h.xq.pg (k := gb) rfl
  refine ⟨hr, h.xq.aside ho (fun e => mi_iter h.rg h.xq.x e.symm) (fun e => h.rg.ne e.symm) (fun e => mi_iter h.rg hc e.symm) h.xq.ux h.xq.um h.xq.ug (fun k hk => Nat.lt_of_lt_of_le (h.xq.low k hk) ho.size), ⟨Only.newer h.ml.on ho h.hr, h.ml.own.kept ho (fun j hj e => ?_)⟩⟩
  obtain ⟨cur2, hc2⟩ := own_tag h.ml.own hj
  exact mi_iter h.rg hc2 e.symm
theorem ObR.push {v v' : Value} {l : List Int} {x : Int} {w5 : World} (h : ObR U w xb mb gb r D N os rs v l left cnt wr) (hxl : xb < w.heap.size ∧ mb < w.heap.size ∧ gb < w.heap.size ∧ ∀ k, U k → k < w.heap.size)
    (hx : x ∈ rs.map (·.1)) (hlx : left (.int .i64 x) = true)
    (h3 : wx.ranges Try.prog 3 RI mb r rs.length D (strike left x) cnt2) (h4 : XqAt U wx xb mb gb D N os rs) (h5 : MkL 33 w v (l.map (fun x => ((1 : Int), x))) wx)
    (h6 : OwnL slL w5 w.heap.size 33 v' (l.map (fun x => ((1 : Int), x)) ++ [((1 : Int), x)])) (h7 : Only (fun k => v.ownBlock = some k) wx w5) : ObR U w xb mb gb r D N os rs v' (l ++ [x]) (strike left x) cnt2 w5 := by
  have hmp : (l ++ [x]).map (fun x => ((1 : Int), x)) = l.map (fun x => ((1 : Int), x)) ++ [((1 : Int), x)] := by simp
  have hnr : ¬ (v.ownBlock = some r) := fun e => by
    obtain ⟨cur2, hc2⟩ := own_tag h5.own e
    exact mi_iter h3 hc2 rfl
  have hnm : ¬ (v.ownBlock = some mb) := fun e => by have := (own_lt h5.own e).1; omega
  refine ⟨mi_ranges h3 h7 hnm hnr, h4.beside hxl.2.2.1 hxl.1 hxl.2.1 hxl.2.2.2 h5.own h7, h.hr, by rw [hmp]; exact h5.push h6 h7, ?_, fun y => ?_⟩
  · rw [List.nodup_append]
    refine ⟨h.nd, by simp, fun a ha b hb => ?_⟩
    rw [List.mem_singleton] at hb
    rw [hb]
    rintro rfl
    have := ((h.mem a).1 ha).2
    rw [hlx] at this
    cases this
  · rw [List.mem_append, List.mem_singleton, h.mem y, strike_at]
    by_cases he : y = x
    · subst he
      simp [hx]
    · have : decide (y = x) = false := decide_eq_false he
      rw [this]
      simp [he]
theorem ObR.all {v : Value} {l : List Int} (h : ObR U w xb mb gb r D N os rs v l left cnt wr) (hn : (rs.map (·.1)).Nodup) (hl : ∀ kl, left kl = false) : l.Perm (rs.map (·.1)) :=
  (List.perm_ext_iff_of_nodup h.nd hn).2 fun x => by rw [h.mem x]; exact ⟨fun h => h.1, fun h => ⟨h, hl _⟩⟩
theorem row_perm (hw : PWf (N : Int) os rs) : ((rowP N os).filter (fun o => decide (o.1 ≠ 0))).Perm os := by
  have hno : os.Nodup := (List.pairwise_map.1 hw.on).imp (fun h e => h (by rw [e]))
  have hat : ∀ o, o ∈ (rowP N os).filter (fun o => decide (o.1 ≠ 0)) ↔ o ∈ os := fun o => by
    rw [List.mem_filter]
    constructor
    · rintro ⟨h1, h2⟩
      obtain ⟨k, hk, rfl⟩ := List.getElem_of_mem h1
      rw [rowP_at] at h2 ⊢
      obtain ⟨x, hx, he⟩ := (pgF_kind hw _).1 (of_decide_eq_true h2)
      rw [← he, pgF_mem hw.on hx]
      exact hx
    · intro ho
      have hb := hw.ok o ho
      have hk : o.2.toNat < (rowP N os).length := by rw [rowP_len]; omega
      have h1 : (rowP N os)[o.2.toNat] = o := by
        rw [rowP_at]
        have e : ((o.2.toNat : Nat) : Int) = o.2 := by omega
        rw [e]
        exact pgF_mem hw.on ho
      exact ⟨by rw [← h1]; exact List.getElem_mem hk, decide_eq_true (by omega)⟩
  refine (List.perm_ext_iff_of_nodup ?_ hno).2 hat
  rw [List.nodup_iff_pairwise_ne, List.pairwise_filter, List.pairwise_iff_getElem]
  intro i j hi hj hij h1 h2 he
  rw [rowP_at] at h1 h2
  rw [rowP_at, rowP_at] at he
  obtain ⟨x, hx, hxe⟩ := (pgF_kind hw _).1 (of_decide_eq_true h1)
  obtain ⟨y, hy, hye⟩ := (pgF_kind hw _).1 (of_decide_eq_true h2)
  have e1 := pgF_mem hw.on hx
  have e2 := pgF_mem hw.on hy
  rw [hxe] at e1
  rw [hye] at e2
  rw [e1, e2] at he
  rw [he] at hxe
  omega
theorem filt_step (os : List (Int × Int)) (k : Nat) (hk : k < N) : ((rowP N os).take (k + 1)).filter (fun o => decide (o.1 ≠ 0)) = ((rowP N os).take k).filter (fun o => decide (o.1 ≠ 0)) ++ (if (pgF os (k : Int)).1 = 0 then [] else [pgF os (k : Int)]) := by
  have hl : k < (rowP N os).length := by rw [rowP_len]; exact hk
  rw [List.take_succ_eq_append_getElem hl, List.filter_append, rowP_at]
  congr 1
  by_cases h : (pgF os (k : Int)).1 = 0
  · rw [if_pos h]; simp [h]
  · rw [if_neg h]; simp [h]
end Go.Proofs.Ytbbabpgmclhinaa

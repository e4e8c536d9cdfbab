import Derived.Test.YtflmobffeeocdaaGreatDoorCh4
/- Walks of package mem: Same. -/
namespace Go.Proofs.YtflmobffeeocdaaGreatDoor
open Go.ChangeShapes Go.WideShapes Go.ChangeAt Go.RowKit
open Go.Vx

/-- Are two rows the same? -/
def sameB (f : Nat → UInt8) (p q : Nat) : Bool := (List.range 4096).all fun j => f (4096 * p + j) == f (4096 * q + j)
theorem aggByte (w : World) : (isAgg 5).run Tryz.prog w = .ok false w := by
  simp [isAgg, run_underlying Tryz.underlying5]
theorem run_eqItems_rows (f g : Nat → UInt8) (o o' N d : Nat) (w : World) : ∀ is : List Nat, (∀ j ∈ is, j < N) →
    (Op.eqItems (d + 1) 5 1 (rowV f o N).toArray (rowV g o' N).toArray is).run Tryz.prog w = .ok (is.all fun j => f (o + j) == g (o' + j)) w
  | [], _ => by simp [Op.eqItems]
  | j :: is, h => by
    have hj : j < N := h j (by simp)
    have ih := run_eqItems_rows f g o o' N d w is (fun k hk => h k (by simp [hk]))
    have p1 : ∀ (f : Nat → UInt8) (o : Nat), (part 5 (rowV f o N).toArray (j * 1)).run Tryz.prog w = .ok (byteV (f (o + j))) w := fun f o => by
      have hg : (rowV f o N).toArray[j]? = some (byteV (f (o + j))) := by simpa using get_rowV f o N j hj
      simp only [part, Sem.run_bind, aggByte, Result.andThen, Bool.false_eq_true, if_false, Nat.mul_one, hg, Sem.run_pure]
    have p3 : (Op.equalIn (d + 1) 5 (byteV (f (o + j))) (byteV (g (o' + j)))).run Tryz.prog w = .ok (f (o + j) == g (o' + j)) w := by
      have e : (f (o + j) == g (o' + j)) = (((f (o + j)).toNat : Int) == ((g (o' + j)).toNat : Int)) := by
        rw [Bool.eq_iff_iff, beq_iff_eq, beq_iff_eq]
        constructor
        · intro h; rw [h]
        · intro h; exact UInt8.toNat_inj.1 (by omega)
      rw [e]
      simp only [Op.equalIn, byteV, Sem.run_bind, run_underlying Tryz.underlying5, Result.andThen, if_true, Sem.run_pure]
    simp only [Op.eqItems, Sem.run_bind, p1, p3, Result.andThen_ok, List.all_cons]
    cases f (o + j) == g (o' + j)
    · simp
    · simpa using ih
theorem run_equal_pages (f : Nat → UInt8) (p q : Nat) (w : World) : (Op.equal 108 (.agg (rowV f (4096 * p) 4096).toArray) (.agg (rowV f (4096 * q) 4096).toArray)).run Tryz.prog w = .ok (sameB f p q) w := by
  obtain ⟨i, hi⟩ : ∃ i, Tryz.prog.info? 5 = some i := by
    have := infoByte
    cases hq : Tryz.prog.info? 5 with
    | none => rw [hq] at this; simp at this
    | some i => exact ⟨i, rfl⟩
  have hu : Tryz.prog.underlying 108 = some (.array 4096 5) := by kernel_rfl
  have hc : Tryz.prog.cellsOf 5 = 1 := by kernel_rfl
  have h1 := run_equalIn_array w 9999 (rowV f (4096 * p) 4096).toArray (rowV f (4096 * q) 4096).toArray hu hi
  rw [hc] at h1
  have h2 := run_eqItems_rows f f (4096 * p) (4096 * q) 4096 9998 w (List.range 4096) (fun j hj => List.mem_range.1 hj)
  exact h1.trans h2
theorem load_page {w : World} {b : Nat} {f : Nat → UInt8} {p : Nat} (h : w.heap[b]? = some (.cells (rowV f (4096 * p) 4096).toArray 108 (0, 0))) : (Instr.loadAt 108 (.pointer (some ⟨b, 0, none⟩))).run Tryz.prog w = .ok (.agg (rowV f (4096 * p) 4096).toArray) w := by
  have hu : Tryz.prog.underlying 108 = some (.array 4096 5) := by kernel_rfl
  have hz := (zero_of_info (P := Tryz.prog) infoPage).2
  simp only [Instr.loadAt, Instr.sureAddr, Sem.run_bind, Sem.run_pure, Result.andThen]
  exact run_loadVar_row w b 108 108 _ (0, 0) _ h hu rfl (by rw [hz, List.size_toArray, length_rowV])
theorem eqg (w : World) (xs ys : Array Value) : (eqGuard .eql 108 (.tmp 22) (.tmp 27) (.agg xs) (.agg ys)).run Tryz.prog w = .ok () w := by
  simp [go_sem]
theorem same_no {U : Nat → Prop} {w : World} {bm n : Nat} {f : Nat → UInt8} (h : MemAt U w bm n f) (p q : Int) (hi : (hasB n p && hasB n q) = false) :
    Calls Tryz.prog 35 #[.pointer (some ⟨bm, 0, none⟩), .int .i64 p, .int .i64 q] w fun e w' => e = .returned (.tuple #[.bool false, .int .i64 1]) ∧ w' = w := by
  have HP := Vx.hid (has_any h p)
  have HQ := Vx.hid (has_any h q)
  cases hp : hasB n p with
  | false =>
    rw [hp] at HP
    clear h hi hp
    go_enter Tryz.func35, Tryz.ntmps35
    go_wp2_with fail
    refine HP.out.mono ?_
    rintro e w' ⟨rfl, rfl⟩
    go_wp2_with fail
    all_goals
      go_ret2
      exact ⟨rfl, rfl⟩
  | true =>
    rw [hp] at HP hi
    have hq : hasB n q = false := by simpa using hi
    rw [hq] at HQ
    clear h hi hp hq
    go_enter Tryz.func35, Tryz.ntmps35
    go_wp2_with fail
    refine HP.out.mono ?_
    rintro e w' ⟨rfl, h⟩
    have h2 := h.symm; clear h; subst h2
    go_wp2_with fail
    refine HQ.out.mono ?_
    rintro e w' ⟨rfl, rfl⟩
    go_wp2_with fail
    all_goals
      go_ret2
      exact ⟨rfl, rfl⟩
set_option maxRecDepth 100000 in
theorem same_ok {U : Nat → Prop} {w : World} {bm n : Nat} {f : Nat → UInt8} (h : MemAt U w bm n f) (p q : Nat) (hp : p < n) (hq : q < n) :
    Calls Tryz.prog 35 #[.pointer (some ⟨bm, 0, none⟩), .int .i64 (p : Int), .int .i64 (q : Int)] w fun e w' => e = .returned (.tuple #[.bool (sameB f p q), .int .i64 0]) ∧ Only (fun _ => False) w w' := by
  have HP := Vx.hid (has_any h (p : Int))
  have HQ := Vx.hid (has_any h (q : Int))
  have e1 : hasB n (p : Int) = true := by simp [hasB, hp]
  have e2 : hasB n (q : Int) = true := by simp [hasB, hq]
  rw [e1] at HP
  rw [e2] at HQ
  have HM : Hid (MemAt U w.drew bm n f) := h.only ((Only.refl (fun _ => False) w).drew) (fun _ h _ => h.elim)
  have HS1 := Vx.hid (seen_any HM.out p hp)
  have HS2 := Vx.hid (fun wv (hv : Only (fun _ => False) w.drew wv) => seen_any (HM.out.only hv (fun _ h _ => h.elim)) q hq)
  have heq := Vx.hid (fun wv => run_equal_pages f p q wv)
  have HOD : Hid (Only (fun _ => False) w w.drew) := (Only.refl _ w).drew
  have HLD : Hid (∀ (wv : World) (b r : Nat), wv.heap[b]? = some (.cells (rowV f (4096 * r) 4096).toArray 108 (0, 0)) → (Instr.loadAt 108 (.pointer (some ⟨b, 0, none⟩))).run Tryz.prog wv = .ok (.agg (rowV f (4096 * r) 4096).toArray) wv) := fun wv b r hb => load_page hb
  have HL1 := Vx.hid (fun wv b => HLD.out wv b p)
  have HL2 := Vx.hid (fun wv b => HLD.out wv b q)
  generalize (rowV f (4096 * p) 4096).toArray = xs at HS1 heq HL1
  generalize (rowV f (4096 * q) 4096).toArray = ys at HS2 heq HL2
  generalize sameB f p q = B at heq
  clear h hp hq e1 e2 HLD
  go_enter Tryz.func35, Tryz.ntmps35
  go_wp2_with fail
  refine HP.out.mono ?_
  rintro e w' ⟨rfl, h⟩
  have h2 := h.symm; clear h; subst h2
  go_wp2_with fail
  refine HQ.out.mono ?_
  rintro e w' ⟨rfl, h⟩
  have h2 := h.symm; clear h; subst h2
  go_wp2_with fail
  refine wp_region_any (by kernel_rfl) ?_
  try (change wpAny _ _ _ _ _ _ _ (World.drew _))
  refine wpAny_take (i := 0) (v := ?_) rfl (by kernel_rfl) (by kernel_rfl) (by kernel_rfl) (fun _ _ _ h => h) (Or.inl ⟨by rfl, ?_⟩) ?_
  rotate_left
  · intro w; go_simp
    try with_reducible rfl
  rotate_left
  refine wpAny_take (i := 1) (v := ?_) rfl (by kernel_rfl) (by kernel_rfl) (by kernel_rfl) (fun _ _ _ h => h) (Or.inl ⟨by rfl, ?_⟩) ?_
  rotate_left
  · intro w; go_simp
    try with_reducible rfl
  rotate_left
  refine wpAny_take (i := 5) (v := ?_) rfl (by kernel_rfl) (by kernel_rfl) (by kernel_rfl) (fun _ _ _ h => h) (Or.inl ⟨by rfl, ?_⟩) ?_
  rotate_left
  · intro w; go_simp
    try with_reducible rfl
  rotate_left
  refine wpAny_take (i := 6) (v := ?_) rfl (by kernel_rfl) (by kernel_rfl) (by kernel_rfl) (fun _ _ _ h => h) (Or.inl ⟨by rfl, ?_⟩) ?_
  rotate_left
  · intro w; go_simp
    try with_reducible rfl
  rotate_left
  refine wpAny_ready (rs := [2]) (by kernel_rfl) (by simp) ?_
  refine (AllReady.cons rfl (fun K hK => ?_) AllReady.nil)
  · refine Vx.step_call rfl 57 #[.tmp 18, .tmp 19] #[26, 3] rfl #[.pointer (some ⟨bm, 0, none⟩), .int .i64 (p : Int)] (by first | (simp [Act.eval]; done) | simp [Act.eval, Act.put]) (by simp [go_sem]) HS1.out ?_
    rintro e w2 ⟨b1, rfl, hb1, ho1⟩
    have HD1 := Vx.hid (HL1.out w2 b1 hb1)
    have HB1 := Vx.hid hb1
    have HO1 := Vx.hid ho1
    clear hb1 ho1
    refine ⟨_, rfl, ?_⟩
    try go_simp
    refine hK _ _ ?_
    clear hK K
    refine wpAny_take (i := 3) (v := ?_) rfl (by kernel_rfl) (by kernel_rfl) (by kernel_rfl) (fun _ _ _ h => h) (Or.inl ⟨by rfl, ?_⟩) ?_
    rotate_left
    · intro w; go_simp
      try with_reducible rfl
    rotate_left
    refine wpAny_ready (rs := [4, 7]) (by kernel_rfl) (by simp) ?_
    refine (AllReady.cons rfl (fun K hK => ?_) (AllReady.cons rfl (fun K hK => ?_) AllReady.nil))
    · refine Vx.step_load rfl 108 (.tmp 21) rfl ⟨b1, 0, none⟩ (by first | (simp [Act.eval]; done) | simp [Act.eval, Act.put]) (.agg xs) HD1.out ?_
      try go_simp
      refine hK _ _ ?_
      clear hK K
      refine wpAny_ready (rs := [7]) (by kernel_rfl) (by simp) ?_
      refine (AllReady.cons rfl (fun K hK => ?_) AllReady.nil)
      · refine Vx.step_call rfl 57 #[.tmp 23, .tmp 24] #[26, 3] rfl #[.pointer (some ⟨bm, 0, none⟩), .int .i64 (q : Int)] (by first | (simp [Act.eval]; done) | simp [Act.eval, Act.put]) (by simp [go_sem]) (HS2.out w2 HO1.out) ?_
        rintro e w3 ⟨b2, rfl, hb2, ho2⟩
        have HD2 := Vx.hid (HL2.out w3 b2 hb2)
        have hb1 := HB1.out
        rw [← ho2.block b1 (lt_of_some HB1.out) (fun h => h)] at hb1
        have HD1' := Vx.hid (HL1.out w3 b1 hb1)
        have HO2 := Vx.hid (HOD.out.trans (HO1.out.trans ho2))
        clear hb1 hb2 ho2
        refine ⟨_, rfl, ?_⟩
        try go_simp
        refine hK _ _ ?_
        clear hK K
        refine wpAny_take (i := 8) (v := ?_) rfl (by kernel_rfl) (by kernel_rfl) (by kernel_rfl) (fun _ _ _ h => h) (Or.inl ⟨by rfl, ?_⟩) ?_
        rotate_left
        · intro w; go_simp
          try with_reducible rfl
        rotate_left
        refine wpAny_ready (rs := [9]) (by kernel_rfl) (by simp) ?_
        refine (AllReady.cons rfl (fun K hK => ?_) AllReady.nil)
        · refine Vx.step_load rfl 108 (.tmp 26) rfl ⟨b2, 0, none⟩ (by first | (simp [Act.eval]; done) | simp [Act.eval, Act.put]) (.agg ys) HD2.out ?_
          try go_simp
          refine hK _ _ ?_
          clear hK K
          refine wpAny_ready (rs := [10]) (by kernel_rfl) (by simp) ?_
          refine (AllReady.cons rfl (fun K hK => ?_) AllReady.nil)
          · refine Vx.step_eql rfl 108 108 (.tmp 22) (.tmp 27) rfl xs ys (by first | (simp [Act.eval]; done) | simp [Act.eval, Act.put]) (by first | (simp [Act.eval]; done) | simp [Act.eval, Act.put]) B (heq.out w3) (eqg w3 xs ys) ?_
            try go_simp
            refine hK _ _ ?_
            clear hK K
            refine wpAny_take (i := 11) (v := ?_) rfl (by kernel_rfl) (by kernel_rfl) (by kernel_rfl) (fun _ _ _ h => h) (Or.inl ⟨by rfl, ?_⟩) ?_
            rotate_left
            · intro w; go_simp
              try with_reducible rfl
            rotate_left
            refine wpAny_take (i := 12) (v := ?_) rfl (by kernel_rfl) (by kernel_rfl) (by kernel_rfl) (fun _ _ _ h => h) (Or.inl ⟨by rfl, ?_⟩) ?_
            rotate_left
            · intro w; go_simp
              try with_reducible rfl
            rotate_left
            refine wpAny_done (by kernel_rfl) ?_ _
            go_wp2_with fail
            go_ret2
            exact ⟨rfl, HO2.out⟩
    · refine Vx.step_call rfl 57 #[.tmp 23, .tmp 24] #[26, 3] rfl #[.pointer (some ⟨bm, 0, none⟩), .int .i64 (q : Int)] (by first | (simp [Act.eval]; done) | simp [Act.eval, Act.put]) (by simp [go_sem]) (HS2.out w2 HO1.out) ?_
      rintro e w3 ⟨b2, rfl, hb2, ho2⟩
      have HD2 := Vx.hid (HL2.out w3 b2 hb2)
      have hb1 := HB1.out
      rw [← ho2.block b1 (lt_of_some HB1.out) (fun h => h)] at hb1
      have HD1' := Vx.hid (HL1.out w3 b1 hb1)
      have HO2 := Vx.hid (HOD.out.trans (HO1.out.trans ho2))
      clear hb1 hb2 ho2
      refine ⟨_, rfl, ?_⟩
      try go_simp
      refine hK _ _ ?_
      clear hK K
      refine wpAny_take (i := 8) (v := ?_) rfl (by kernel_rfl) (by kernel_rfl) (by kernel_rfl) (fun _ _ _ h => h) (Or.inl ⟨by rfl, ?_⟩) ?_
      rotate_left
      · intro w; go_simp
        try with_reducible rfl
      rotate_left
      refine wpAny_ready (rs := [4, 9]) (by kernel_rfl) (by simp) ?_
      refine (AllReady.cons rfl (fun K hK => ?_) (AllReady.cons rfl (fun K hK => ?_) AllReady.nil))
      · refine Vx.step_load rfl 108 (.tmp 21) rfl ⟨b1, 0, none⟩ (by first | (simp [Act.eval]; done) | simp [Act.eval, Act.put]) (.agg xs) HD1'.out ?_
        try go_simp
        refine hK _ _ ?_
        clear hK K
        refine wpAny_ready (rs := [9]) (by kernel_rfl) (by simp) ?_
        refine (AllReady.cons rfl (fun K hK => ?_) AllReady.nil)
        · refine Vx.step_load rfl 108 (.tmp 26) rfl ⟨b2, 0, none⟩ (by first | (simp [Act.eval]; done) | simp [Act.eval, Act.put]) (.agg ys) HD2.out ?_
          try go_simp
          refine hK _ _ ?_
          clear hK K
          refine wpAny_ready (rs := [10]) (by kernel_rfl) (by simp) ?_
          refine (AllReady.cons rfl (fun K hK => ?_) AllReady.nil)
          · refine Vx.step_eql rfl 108 108 (.tmp 22) (.tmp 27) rfl xs ys (by first | (simp [Act.eval]; done) | simp [Act.eval, Act.put]) (by first | (simp [Act.eval]; done) | simp [Act.eval, Act.put]) B (heq.out w3) (eqg w3 xs ys) ?_
            try go_simp
            refine hK _ _ ?_
            clear hK K
            refine wpAny_take (i := 11) (v := ?_) rfl (by kernel_rfl) (by kernel_rfl) (by kernel_rfl) (fun _ _ _ h => h) (Or.inl ⟨by rfl, ?_⟩) ?_
            rotate_left
            · intro w; go_simp
              try with_reducible rfl
            rotate_left
            refine wpAny_take (i := 12) (v := ?_) rfl (by kernel_rfl) (by kernel_rfl) (by kernel_rfl) (fun _ _ _ h => h) (Or.inl ⟨by rfl, ?_⟩) ?_
            rotate_left
            · intro w; go_simp
              try with_reducible rfl
            rotate_left
            refine wpAny_done (by kernel_rfl) ?_ _
            go_wp2_with fail
            go_ret2
            exact ⟨rfl, HO2.out⟩
      · refine Vx.step_load rfl 108 (.tmp 26) rfl ⟨b2, 0, none⟩ (by first | (simp [Act.eval]; done) | simp [Act.eval, Act.put]) (.agg ys) HD2.out ?_
        try go_simp
        refine hK _ _ ?_
        clear hK K
        refine wpAny_ready (rs := [4]) (by kernel_rfl) (by simp) ?_
        refine (AllReady.cons rfl (fun K hK => ?_) AllReady.nil)
        · refine Vx.step_load rfl 108 (.tmp 21) rfl ⟨b1, 0, none⟩ (by first | (simp [Act.eval]; done) | simp [Act.eval, Act.put]) (.agg xs) HD1'.out ?_
          try go_simp
          refine hK _ _ ?_
          clear hK K
          refine wpAny_ready (rs := [10]) (by kernel_rfl) (by simp) ?_
          refine (AllReady.cons rfl (fun K hK => ?_) AllReady.nil)
          · refine Vx.step_eql rfl 108 108 (.tmp 22) (.tmp 27) rfl xs ys (by first | (simp [Act.eval]; done) | simp [Act.eval, Act.put]) (by first | (simp [Act.eval]; done) | simp [Act.eval, Act.put]) B (heq.out w3) (eqg w3 xs ys) ?_
            try go_simp
            refine hK _ _ ?_
            clear hK K
            refine wpAny_take (i := 11) (v := ?_) rfl (by kernel_rfl) (by kernel_rfl) (by kernel_rfl) (fun _ _ _ h => h) (Or.inl ⟨by rfl, ?_⟩) ?_
            rotate_left
            · intro w; go_simp
              try with_reducible rfl
            rotate_left
            refine wpAny_take (i := 12) (v := ?_) rfl (by kernel_rfl) (by kernel_rfl) (by kernel_rfl) (fun _ _ _ h => h) (Or.inl ⟨by rfl, ?_⟩) ?_
            rotate_left
            · intro w; go_simp
              try with_reducible rfl
            rotate_left
            refine wpAny_done (by kernel_rfl) ?_ _
            go_wp2_with fail
            go_ret2
            exact ⟨rfl, HO2.out⟩
end Go.Proofs.YtflmobffeeocdaaGreatDoor

/- Walks of the document's memory: NewMemory, inside, Read, Word. -/
namespace Go.Proofs.YtflmobffeeocdaaGreatDoor
open Go.ChangeShapes Go.WideShapes Go.ChangeAt Go.RowKit
open Go.Vx

/-- The document's memory, where it lies. -/
structure RefAt (w : World) (br bb n : Nat) (f : Nat → UInt8) : Prop where
  pos : 1 ≤ n
  top : n ≤ 256
  r : w.heap[br]? = some (.cells #[.slice (some ⟨bb, 0, none⟩) (4096 * n) (4096 * n)] 106 (0, 0))
  b : w.heap[bb]? = some (.cells (rowV f 0 (4096 * n)).toArray 5 (0, 0))
theorem RefAt.only {S : Nat → Prop} {w w' : World} {br bb n : Nat} {f : Nat → UInt8} (h : RefAt w br bb n f) (ho : Only S w w') (h1 : ¬ S br) (h2 : ¬ S bb) : RefAt w' br bb n f :=
  ⟨h.pos, h.top, by rw [ho.block br (lt_of_some h.r) h1]; exact h.r, by rw [ho.block bb (lt_of_some h.b) h2]; exact h.b⟩
theorem RefAt.cr {w : World} {br bb n : Nat} {f : Nat → UInt8} (h : RefAt w br bb n f) : w.cell? ⟨br, 0, none⟩ = some (.slice (some ⟨bb, 0, none⟩) (4096 * n) (4096 * n)) := by
  rw [cell_of_row _ _ 0 _ _ (0, 0) h.r]; rfl
theorem RefAt.cb {w : World} {br bb n : Nat} {f : Nat → UInt8} (h : RefAt w br bb n f) {j : Nat} (hj : j < 4096 * n) : w.cell? ⟨bb, j, none⟩ = some (byteV (f j)) := by
  rw [cell_of_row _ _ j _ _ (0, 0) h.b]
  have := get_rowV f 0 (4096 * n) j hj
  rw [Nat.zero_add] at this
  simpa using this
theorem RefAt.ne {w : World} {br bb n : Nat} {f : Nat → UInt8} (h : RefAt w br bb n f) : br ≠ bb := by
  intro e
  have h1 := h.r
  have h2 := h.b
  rw [← e, h1] at h2
  simp at h2
theorem RefAt.fz {w : World} {br bb n : Nat} {f : Nat → UInt8} (h : RefAt w br bb n f) (j : Nat) : w.frozen? ⟨bb, j, none⟩ = false := by
  have h1 := h.b
  simp [World.frozen?, h1]
/-- One byte of it. -/
theorem RefAt.set1 {w : World} {br bb n : Nat} {f : Nat → UInt8} (h : RefAt w br bb n f) (a : Nat) (v : UInt8) (ha : a < 4096 * n) :
    RefAt (w.setCell ⟨bb, a, none⟩ (byteV v)) br bb n (putF f a [v]) ∧ Only (fun k => k = bb) w (w.setCell ⟨bb, a, none⟩ (byteV v)) := by
  have e : w.setCell ⟨bb, a, none⟩ (byteV v) = w.setRow bb (rowV (putF f a [v]) 0 (4096 * n)).toArray := by
    have := set_row f 0 (4096 * n) a v ha
    rw [Nat.zero_add] at this
    rw [setCell_eq_setRow w bb a _ _ _ _ h.b, ← this]
    simp
  rw [e]
  refine ⟨⟨h.pos, h.top, ?_, setRow_heap w bb _ _ _ _ h.b⟩, only_row w bb _⟩
  rw [setRow_other w bb br _ h.ne]; exact h.r
theorem newRef_no (n : Int) (hn : n < 1 ∨ 256 < n) (w : World) :
    Calls Tryz.prog 18 #[.int .i64 n] w fun e w' => e = .returned (.tuple #[.pointer none, .int .i64 1]) ∧ w' = w := by
  by_cases h1 : n < 1
  · clear hn
    go_enter Tryz.func18, Tryz.ntmps18
    go_wp2
    all_goals
      go_ret2
      exact ⟨rfl, rfl⟩
  · have h2 : 256 < n := by omega
    clear hn
    go_enter Tryz.func18, Tryz.ntmps18
    go_wp2
    all_goals
      go_ret2
      exact ⟨rfl, rfl⟩
theorem newRef_ok (n : Nat) (h1 : 1 ≤ n) (h2 : n ≤ 256) (w : World) :
    Calls Tryz.prog 18 #[.int .i64 (n : Int)] w fun e w' => e = .returned (.tuple #[.pointer (some ⟨w.heap.size + 1, 0, none⟩), .int .i64 0]) ∧ RefAt w' (w.heap.size + 1) w.heap.size n (fun _ => 0) ∧
      ∃ o1 o2, w' = (w.alloc o1).alloc o2 := by
  obtain ⟨N, hN⟩ : ∃ N, N = 4096 * n := ⟨_, rfl⟩
  have hmk := make_bytes N (by omega) w
  have c1 : ¬ (n : Int) < 1 := by omega
  have c2 : ¬ 256 < (n : Int) := by omega
  have hw1 : IntKind.i64.wrap (4096 * (n : Int)) = (N : Int) := by rw [IntKind.wrap_i64]; omega
  have H12 : Hid (1 ≤ n ∧ n ≤ 256 ∧ N = 4096 * n) := ⟨h1, h2, hN⟩
  clear h1 h2 hN
  go_enter Tryz.func18, Tryz.ntmps18
  go_wp2
  all_goals
    go_ret2
    refine ⟨rfl, ⟨H12.out.1, H12.out.2.1, ?_, ?_⟩, _, _, rfl⟩
    · have := heap_alloc_last (w.alloc (.cells (rowV (fun _ => 0) 0 N).toArray 5)) (.cells #[.slice (some ⟨w.heap.size, 0, none⟩) N N] 106)
      rw [← H12.out.2.2]
      simpa using this
    · rw [RowKit.Below.heap_alloc _ _ _ (by simp), ← H12.out.2.2]
      exact heap_alloc_last _ _
theorem inside_any {w : World} {br bb n : Nat} {f : Nat → UInt8} (h : RefAt w br bb n f) (a k : Int) (hk : k ≤ 9223372036854775807) :
    Calls Tryz.prog 58 #[.pointer (some ⟨br, 0, none⟩), .int .i64 a, .int .i64 k] w fun e w' => e = .returned (.bool (insB n a k)) ∧ w' = w := by
  have hcr := h.cr
  have hn := h.top
  obtain ⟨N, hN⟩ : ∃ N, N = 4096 * n := ⟨_, rfl⟩
  rw [← hN] at hcr
  have HT : Hid (insB n a k = (decide (0 ≤ a) && decide (a ≤ (N : Int)) && decide (0 ≤ k) && decide (k ≤ (N : Int) - a))) := by
    show insB n a k = _
    unfold insB
    rw [show (n : Int) * 4096 = (N : Int) by omega]
  have hNb : (N : Int) ≤ 1048576 := by omega
  clear h hN hn
  by_cases c0 : 0 ≤ k
  · have hw1 : IntKind.i64.wrap ((N : Int) - k) = (N : Int) - k := by rw [IntKind.wrap_i64]; omega
    have d0 : decide (0 ≤ k) = true := decide_eq_true c0
    by_cases c1 : 0 ≤ a
    · have d1 : decide (0 ≤ a) = true := decide_eq_true c1
      by_cases c2 : k ≤ (N : Int)
      · have d2 : decide (k ≤ (N : Int)) = true := decide_eq_true c2
        have HB : Hid (insB n a k = decide (a ≤ (N : Int) - k)) := by
          show insB n a k = _
          rw [HT.out, d0, d1, Bool.eq_iff_iff]
          simp
          omega
        go_enter Tryz.func58, Tryz.ntmps58
        go_wp2_with fail
        all_goals
          go_ret
          rw [HB.out]
          refine ⟨?_, rfl⟩
          first | rfl | simp
      · have d2 : decide (k ≤ (N : Int)) = false := decide_eq_false c2
        have HB : Hid (insB n a k = false) := by
          show insB n a k = _
          rw [HT.out, show decide (k ≤ (N : Int) - a) = false from decide_eq_false (by omega), Bool.and_false]
        go_enter Tryz.func58, Tryz.ntmps58
        go_wp2_with fail
        all_goals
          go_ret
          rw [HB.out]
          exact ⟨rfl, rfl⟩
    · have d1 : decide (0 ≤ a) = false := decide_eq_false c1
      have HB : Hid (insB n a k = false) := by
        show insB n a k = _
        rw [HT.out, d1]; rfl
      go_enter Tryz.func58, Tryz.ntmps58
      go_wp2_with fail
      all_goals
        go_ret
        rw [HB.out]
        exact ⟨rfl, rfl⟩
  · have d0 : decide (0 ≤ k) = false := decide_eq_false c0
    have HB : Hid (insB n a k = false) := by
      show insB n a k = _
      rw [HT.out, d0, Bool.and_false, Bool.false_and]
    go_enter Tryz.func58, Tryz.ntmps58
    go_wp2_with fail
    all_goals
      go_ret
      rw [HB.out]
      exact ⟨rfl, rfl⟩
theorem refRead_any {w : World} {br bb n : Nat} {f : Nat → UInt8} (h : RefAt w br bb n f) (a k : Int) (hk : k ≤ 9223372036854775807) :
    Calls Tryz.prog 27 #[.pointer (some ⟨br, 0, none⟩), .int .i64 a, .int .i64 k] w fun e w' => e = .returned (.tuple #[.string ⟨(readF f n a k).1.toArray⟩, .int .i64 ((readF f n a k).2 : Nat)]) ∧ w' = w := by
  have HI := Vx.hid (inside_any h a k hk)
  have hcr := h.cr
  unfold readF
  by_cases hi : insB n a k = true
  · rw [if_pos hi]
    rw [hi] at HI
    obtain ⟨x, y, rfl, rfl, hin⟩ := insB_nat hi
    have hn := h.top
    obtain ⟨N, hN⟩ : ∃ N, N = 4096 * n := ⟨_, rfl⟩
    rw [← hN] at hcr hin
    have hw1 : IntKind.i64.wrap ((x : Int) + (y : Int)) = ((x + y : Nat) : Int) := by rw [IntKind.wrap_i64]; omega
    have hsl : ∃ ad : Addr, (Instr.slice 66 (.slice (some ⟨bb, 0, none⟩) N N) (some (.int .i64 (x : Int))) (some (.int .i64 ((x + y : Nat) : Int))) none).run Tryz.prog w = .ok (.slice (some ad) y (N - x)) w ∧
        (convert 66 9 (.slice (some ad) y (N - x))).run Tryz.prog w = .ok (.string ⟨(rowL f x y).toArray⟩) w := by
      have hu : Tryz.prog.underlying 66 = some (.slice (Tryz.prog.elem 66)) := by kernel_rfl
      have he : Tryz.prog.elem 66 = 5 := by kernel_rfl
      have hsz : (sizeOf 5).run Tryz.prog w = .ok 1 w := by
        have := sizeByte
        cases hq : Tryz.prog.info? 5 with
        | none => rw [hq] at this; simp at this
        | some i => rw [hq] at this; simp at this; simp [sizeOf, typeInfo, hq, this]
      have hr := run_slice_lh w 66 (some ⟨bb, 0, none⟩) N N hu .i64 .i64 (x : Int) ((x + y : Nat) : Int) (by omega) (by omega) (by omega)
      rw [he, hsz] at hr
      simp only [Result.andThen, sliced, Int.toNat_natCast, Nat.mul_one, Option.map_some, addr_add, Nat.zero_add] at hr
      rw [show x + y - x = y by omega] at hr
      have hl := length_rowL f x y
      by_cases hNx : N = x
      · rw [if_pos hNx] at hr
        refine ⟨_, hr, ?_⟩
        have hy : y = 0 := by omega
        have := run_convert_bytes_back (P := Tryz.prog) w 66 9 5 ⟨bb, 0, none⟩ (N - x) (rowL f x y) Tryz.underlying66 Tryz.underlying5 Tryz.underlying9 (fun j hj => by rw [hl] at hj; omega)
        rw [hl] at this
        exact this
      · rw [if_neg hNx] at hr
        refine ⟨_, hr, ?_⟩
        have := run_convert_bytes_back (P := Tryz.prog) w 66 9 5 ⟨bb, x, none⟩ (N - x) (rowL f x y) Tryz.underlying66 Tryz.underlying5 Tryz.underlying9 (fun j hj => by
          rw [hl] at hj
          rw [addr_add, h.cb (by omega)]
          have h2 : (rowL f x y)[j] = f (x + j) := by
            have := get_rowL f x y j hj
            rw [List.getElem?_eq_getElem (by rw [hl]; exact hj)] at this
            exact Option.some.inj this
          rw [h2]
          rfl)
        rw [hl] at this
        exact this
    obtain ⟨ad, h1, h2⟩ := hsl
    simp only [Int.toNat_natCast]
    generalize rowL f x y = t at h2 ⊢
    generalize hz : x + y = z at hw1 h1
    clear h hi hin hn hN hz
    go_enter Tryz.func27, Tryz.ntmps27
    go_wp2_with fail
    refine HI.out.mono ?_
    rintro e w' ⟨rfl, h⟩
    have h3 := h.symm; clear h; subst h3
    go_wp2_with fail
    all_goals
      go_ret2
      exact ⟨rfl, rfl⟩
  · have hi' : insB n a k = false := by simpa using hi
    rw [if_neg hi]
    rw [hi'] at HI
    clear h hi hi' hk
    go_enter Tryz.func27, Tryz.ntmps27
    go_wp2_with fail
    refine HI.out.mono ?_
    rintro e w' ⟨rfl, h⟩
    have h3 := h.symm; clear h; subst h3
    go_wp2_with fail
    all_goals
      go_ret2
      exact ⟨rfl, rfl⟩
end Go.Proofs.YtflmobffeeocdaaGreatDoor

/- Walks of package mem: Same. -/
import Derived.Test.YtflmobffeeocdaaGreatDoorSP
namespace Go.Proofs.YtflmobffeeocdaaGreatDoor
open Go.ChangeShapes Go.WideShapes Go.ChangeAt Go.RowKit
open Go.Vx

/-- Are two rows the same? -/
def sameB (f : Nat → UInt8) (p q : Nat) : Bool := (List.range 4096).all fun j => f (4096 * p + j) == f (4096 * q + j)
theorem aggByte (w : World) : (isAgg 5).run Tryz.prog w = .ok false w := by
  simp [isAgg, run_underlying Tryz.underlying5]
theorem run_eqItems_rows (f g : Nat → UInt8) (o o' N d : Nat) (w : World) : ∀ is : List Nat, (∀ j ∈ is, j < N) →
    (Op.eqItems (d + 1) 5 1 (rowV f o N).toArray (rowV g o' N).toArray is).run Tryz.prog w = .ok (is.all fun j => f (o + j) == g (o' + j)) w
  | [], _ => by simp [Op.eqItems]
  | j :: is, h => by
    have hj : j < N := h j (by simp)
    have ih := run_eqItems_rows f g o o' N d w is (fun k hk => h k (by simp [hk]))
    have p1 : ∀ (f : Nat → UInt8) (o : Nat), (part 5 (rowV f o N).toArray (j * 1)).run Tryz.prog w = .ok (byteV (f (o + j))) w := fun f o => by
      have hg : (rowV f o N).toArray[j]? = some (byteV (f (o + j))) := by simpa using get_rowV f o N j hj
      simp only [part, Sem.run_bind, aggByte, Result.andThen, Bool.false_eq_true, if_false, Nat.mul_one, hg, Sem.run_pure]
    have p3 : (Op.equalIn (d + 1) 5 (byteV (f (o + j))) (byteV (g (o' + j)))).run Tryz.prog w = .ok (f (o + j) == g (o' + j)) w := by
      have e : (f (o + j) == g (o' + j)) = (((f (o + j)).toNat : Int) == ((g (o' + j)).toNat : Int)) := by
        rw [Bool.eq_iff_iff, beq_iff_eq, beq_iff_eq]
        constructor
        · intro h; rw [h]
        · intro h; exact UInt8.toNat_inj.1 (by omega)
      rw [e]
      simp only [Op.equalIn, byteV, Sem.run_bind, run_underlying Tryz.underlying5, Result.andThen, if_true, Sem.run_pure]
    simp only [Op.eqItems, Sem.run_bind, p1, p3, Result.andThen_ok, List.all_cons]
    cases f (o + j) == g (o' + j)
    · simp
    · simpa using ih
theorem run_equal_pages (f : Nat → UInt8) (p q : Nat) (w : World) : (Op.equal 108 (.agg (rowV f (4096 * p) 4096).toArray) (.agg (rowV f (4096 * q) 4096).toArray)).run Tryz.prog w = .ok (sameB f p q) w := by
  obtain ⟨i, hi⟩ : ∃ i, Tryz.prog.info? 5 = some i := by
    have := infoByte
    cases hq : Tryz.prog.info? 5 with
    | none => rw [hq] at this; simp at this
    | some i => exact ⟨i, rfl⟩
  have hu : Tryz.prog.underlying 108 = some (.array 4096 5) := by kernel_rfl
  have hc : Tryz.prog.cellsOf 5 = 1 := by kernel_rfl
  have h1 := run_equalIn_array w 9999 (rowV f (4096 * p) 4096).toArray (rowV f (4096 * q) 4096).toArray hu hi
  rw [hc] at h1
  have h2 := run_eqItems_rows f f (4096 * p) (4096 * q) 4096 9998 w (List.range 4096) (fun j hj => List.mem_range.1 hj)
  exact h1.trans h2
theorem load_page {w : World} {b : Nat} {f : Nat → UInt8} {p : Nat} (h : w.heap[b]? = some (.cells (rowV f (4096 * p) 4096).toArray 108 (0, 0))) : (Instr.loadAt 108 (.pointer (some ⟨b, 0, none⟩))).run Tryz.prog w = .ok (.agg (rowV f (4096 * p) 4096).toArray) w := by
  have hu : Tryz.prog.underlying 108 = some (.array 4096 5) := by kernel_rfl
  have hz := (zero_of_info (P := Tryz.prog) infoPage).2
  simp only [Instr.loadAt, Instr.sureAddr, Sem.run_bind, Sem.run_pure, Result.andThen]
  exact run_loadVar_row w b 108 108 _ (0, 0) _ h hu rfl (by rw [hz, List.size_toArray, length_rowV])
theorem eqg (w : World) (xs ys : Array Value) : (eqGuard .eql 108 (.tmp 22) (.tmp 27) (.agg xs) (.agg ys)).run Tryz.prog w = .ok () w := by
  simp [go_sem]
theorem same_no {U : Nat → Prop} {w : World} {bm n : Nat} {f : Nat → UInt8} (h : MemAt U w bm n f) (p q : Int) (hi : (hasB n p && hasB n q) = false) :
    Calls Tryz.prog 35 #[.pointer (some ⟨bm, 0, none⟩), .int .i64 p, .int .i64 q] w fun e w' => e = .returned (.tuple #[.bool false, .int .i64 1]) ∧ w' = w := by
  have HP := Vx.hid (has_any h p)
  have HQ := Vx.hid (has_any h q)
  cases hp : hasB n p with
  | false =>
    rw [hp] at HP
    clear h hi hp
    go_enter Tryz.func35, Tryz.ntmps35
    go_wp2_with fail
    refine HP.out.mono ?_
    rintro e w' ⟨rfl, rfl⟩
    go_wp2_with fail
    all_goals
      go_ret2
      exact ⟨rfl, rfl⟩
  | true =>
    rw [hp] at HP hi
    have hq : hasB n q = false := by simpa using hi
    rw [hq] at HQ
    clear h hi hp hq
    go_enter Tryz.func35, Tryz.ntmps35
    go_wp2_with fail
    refine HP.out.mono ?_
    rintro e w' ⟨rfl, h⟩
    have h2 := h.symm; clear h; subst h2
    go_wp2_with fail
    refine HQ.out.mono ?_
    rintro e w' ⟨rfl, rfl⟩
    go_wp2_with fail
    all_goals
      go_ret2
      exact ⟨rfl, rfl⟩
set_option maxRecDepth 100000 in
theorem same_ok {U : Nat → Prop} {w : World} {bm n : Nat} {f : Nat → UInt8} (h : MemAt U w bm n f) (p q : Nat) (hp : p < n) (hq : q < n) :
    Calls Tryz.prog 35 #[.pointer (some ⟨bm, 0, none⟩), .int .i64 (p : Int), .int .i64 (q : Int)] w fun e w' => e = .returned (.tuple #[.bool (sameB f p q), .int .i64 0]) ∧ Only (fun _ => False) w w' := by
  have HP := Vx.hid (has_any h (p : Int))
  have HQ := Vx.hid (has_any h (q : Int))
  have e1 : hasB n (p : Int) = true := by simp [hasB, hp]
  have e2 : hasB n (q : Int) = true := by simp [hasB, hq]
  rw [e1] at HP
  rw [e2] at HQ
  have HM : Hid (MemAt U w.drew bm n f) := h.only ((Only.refl (fun _ => False) w).drew) (fun _ h _ => h.elim)
  have HS1 := Vx.hid (seen_any HM.out p hp)
  have HS2 := Vx.hid (fun wv (hv : Only (fun _ => False) w.drew wv) => seen_any (HM.out.only hv (fun _ h _ => h.elim)) q hq)
  have heq := Vx.hid (fun wv => run_equal_pages f p q wv)
  have HOD : Hid (Only (fun _ => False) w w.drew) := (Only.refl _ w).drew
  have HLD : Hid (∀ (wv : World) (b r : Nat), wv.heap[b]? = some (.cells (rowV f (4096 * r) 4096).toArray 108 (0, 0)) → (Instr.loadAt 108 (.pointer (some ⟨b, 0, none⟩))).run Tryz.prog wv = .ok (.agg (rowV f (4096 * r) 4096).toArray) wv) := fun wv b r hb => load_page hb
  have HL1 := Vx.hid (fun wv b => HLD.out wv b p)
  have HL2 := Vx.hid (fun wv b => HLD.out wv b q)
  generalize (rowV f (4096 * p) 4096).toArray = xs at HS1 heq HL1
  generalize (rowV f (4096 * q) 4096).toArray = ys at HS2 heq HL2
  generalize sameB f p q = B at heq
  clear h hp hq e1 e2 HLD
  go_enter Tryz.func35, Tryz.ntmps35
  go_wp2_with fail
  refine HP.out.mono ?_
  rintro e w' ⟨rfl, h⟩
  have h2 := h.symm; clear h; subst h2
  go_wp2_with fail
  refine HQ.out.mono ?_
  rintro e w' ⟨rfl, h⟩
  have h2 := h.symm; clear h; subst h2
  go_wp2_with fail
  refine wp_region_any (by kernel_rfl) ?_
  try (change wpAny _ _ _ _ _ _ _ (World.drew _))
  refine wpAny_take (i := 0) (v := ?_) rfl (by kernel_rfl) (by kernel_rfl) (by kernel_rfl) (fun _ _ _ h => h) (Or.inl ⟨by rfl, ?_⟩) ?_
  rotate_left
  · intro w; go_simp
    try with_reducible rfl
  rotate_left
  refine wpAny_take (i := 1) (v := ?_) rfl (by kernel_rfl) (by kernel_rfl) (by kernel_rfl) (fun _ _ _ h => h) (Or.inl ⟨by rfl, ?_⟩) ?_
  rotate_left
  · intro w; go_simp
    try with_reducible rfl
  rotate_left
  refine wpAny_take (i := 5) (v := ?_) rfl (by kernel_rfl) (by kernel_rfl) (by kernel_rfl) (fun _ _ _ h => h) (Or.inl ⟨by rfl, ?_⟩) ?_
  rotate_left
  · intro w; go_simp
    try with_reducible rfl
  rotate_left
  refine wpAny_take (i := 6) (v := ?_) rfl (by kernel_rfl) (by kernel_rfl) (by kernel_rfl) (fun _ _ _ h => h) (Or.inl ⟨by rfl, ?_⟩) ?_
  rotate_left
  · intro w; go_simp
    try with_reducible rfl
  rotate_left
  refine wpAny_ready (rs := [2]) (by kernel_rfl) (by simp) ?_
  refine (AllReady.cons rfl (fun K hK => ?_) AllReady.nil)
  · refine Vx.step_call rfl 57 #[.tmp 18, .tmp 19] #[26, 3] rfl #[.pointer (some ⟨bm, 0, none⟩), .int .i64 (p : Int)] (by first | (simp [Act.eval]; done) | simp [Act.eval, Act.put]) (by simp [go_sem]) HS1.out ?_
    rintro e w2 ⟨b1, rfl, hb1, ho1⟩
    have HD1 := Vx.hid (HL1.out w2 b1 hb1)
    have HB1 := Vx.hid hb1
    have HO1 := Vx.hid ho1
    clear hb1 ho1
    refine ⟨_, rfl, ?_⟩
    try go_simp
    refine hK _ _ ?_
    clear hK K
    refine wpAny_take (i := 3) (v := ?_) rfl (by kernel_rfl) (by kernel_rfl) (by kernel_rfl) (fun _ _ _ h => h) (Or.inl ⟨by rfl, ?_⟩) ?_
    rotate_left
    · intro w; go_simp
      try with_reducible rfl
    rotate_left
    refine wpAny_ready (rs := [4, 7]) (by kernel_rfl) (by simp) ?_
    refine (AllReady.cons rfl (fun K hK => ?_) (AllReady.cons rfl (fun K hK => ?_) AllReady.nil))
    · refine Vx.step_load rfl 108 (.tmp 21) rfl ⟨b1, 0, none⟩ (by first | (simp [Act.eval]; done) | simp [Act.eval, Act.put]) (.agg xs) HD1.out ?_
      try go_simp
      refine hK _ _ ?_
      clear hK K
      refine wpAny_ready (rs := [7]) (by kernel_rfl) (by simp) ?_
      refine (AllReady.cons rfl (fun K hK => ?_) AllReady.nil)
      · refine Vx.step_call rfl 57 #[.tmp 23, .tmp 24] #[26, 3] rfl #[.pointer (some ⟨bm, 0, none⟩), .int .i64 (q : Int)] (by first | (simp [Act.eval]; done) | simp [Act.eval, Act.put]) (by simp [go_sem]) (HS2.out w2 HO1.out) ?_
        rintro e w3 ⟨b2, rfl, hb2, ho2⟩
        have HD2 := Vx.hid (HL2.out w3 b2 hb2)
        have hb1 := HB1.out
        rw [← ho2.block b1 (lt_of_some HB1.out) (fun h => h)] at hb1
        have HD1' := Vx.hid (HL1.out w3 b1 hb1)
        have HO2 := Vx.hid (HOD.out.trans (HO1.out.trans ho2))
        clear hb1 hb2 ho2
        refine ⟨_, rfl, ?_⟩
        try go_simp
        refine hK _ _ ?_
        clear hK K
        refine wpAny_take (i := 8) (v := ?_) rfl (by kernel_rfl) (by kernel_rfl) (by kernel_rfl) (fun _ _ _ h => h) (Or.inl ⟨by rfl, ?_⟩) ?_
        rotate_left
        · intro w; go_simp
          try with_reducible rfl
        rotate_left
        refine wpAny_ready (rs := [9]) (by kernel_rfl) (by simp) ?_
        refine (AllReady.cons rfl (fun K hK => ?_) AllReady.nil)
        · refine Vx.step_load rfl 108 (.tmp 26) rfl ⟨b2, 0, none⟩ (by first | (simp [Act.eval]; done) | simp [Act.eval, Act.put]) (.agg ys) HD2.out ?_
          try go_simp
          refine hK _ _ ?_
          clear hK K
          refine wpAny_ready (rs := [10]) (by kernel_rfl) (by simp) ?_
          refine (AllReady.cons rfl (fun K hK => ?_) AllReady.nil)
          · refine Vx.step_eql rfl 108 108 (.tmp 22) (.tmp 27) rfl xs ys (by first | (simp [Act.eval]; done) | simp [Act.eval, Act.put]) (by first | (simp [Act.eval]; done) | simp [Act.eval, Act.put]) B (heq.out w3) (eqg w3 xs ys) ?_
            try go_simp
            refine hK _ _ ?_
            clear hK K
            refine wpAny_take (i := 11) (v := ?_) rfl (by kernel_rfl) (by kernel_rfl) (by kernel_rfl) (fun _ _ _ h => h) (Or.inl ⟨by rfl, ?_⟩) ?_
            rotate_left
            · intro w; go_simp
              try with_reducible rfl
            rotate_left
            refine wpAny_take (i := 12) (v := ?_) rfl (by kernel_rfl) (by kernel_rfl) (by kernel_rfl) (fun _ _ _ h => h) (Or.inl ⟨by rfl, ?_⟩) ?_
            rotate_left
            · intro w; go_simp
              try with_reducible rfl
            rotate_left
            refine wpAny_done (by kernel_rfl) ?_ _
            go_wp2_with fail
            go_ret2
            exact ⟨rfl, HO2.out⟩
    · refine Vx.step_call rfl 57 #[.tmp 23, .tmp 24] #[26, 3] rfl #[.pointer (some ⟨bm, 0, none⟩), .int .i64 (q : Int)] (by first | (simp [Act.eval]; done) | simp [Act.eval, Act.put]) (by simp [go_sem]) (HS2.out w2 HO1.out) ?_
      rintro e w3 ⟨b2, rfl, hb2, ho2⟩
      have HD2 := Vx.hid (HL2.out w3 b2 hb2)
      have hb1 := HB1.out
      rw [← ho2.block b1 (lt_of_some HB1.out) (fun h => h)] at hb1
      have HD1' := Vx.hid (HL1.out w3 b1 hb1)
      have HO2 := Vx.hid (HOD.out.trans (HO1.out.trans ho2))
      clear hb1 hb2 ho2
      refine ⟨_, rfl, ?_⟩
      try go_simp
      refine hK _ _ ?_
      clear hK K
      refine wpAny_take (i := 8) (v := ?_) rfl (by kernel_rfl) (by kernel_rfl) (by kernel_rfl) (fun _ _ _ h => h) (Or.inl ⟨by rfl, ?_⟩) ?_
      rotate_left
      · intro w; go_simp
        try with_reducible rfl
      rotate_left
      refine wpAny_ready (rs := [4, 9]) (by kernel_rfl) (by simp) ?_
      refine (AllReady.cons rfl (fun K hK => ?_) (AllReady.cons rfl (fun K hK => ?_) AllReady.nil))
      · refine Vx.step_load rfl 108 (.tmp 21) rfl ⟨b1, 0, none⟩ (by first | (simp [Act.eval]; done) | simp [Act.eval, Act.put]) (.agg xs) HD1'.out ?_
        try go_simp
        refine hK _ _ ?_
        clear hK K
        refine wpAny_ready (rs := [9]) (by kernel_rfl) (by simp) ?_
        refine (AllReady.cons rfl (fun K hK => ?_) AllReady.nil)
        · refine Vx.step_load rfl 108 (.tmp 26) rfl ⟨b2, 0, none⟩ (by first | (simp [Act.eval]; done) | simp [Act.eval, Act.put]) (.agg ys) HD2.out ?_
          try go_simp
          refine hK _ _ ?_
          clear hK K
          refine wpAny_ready (rs := [10]) (by kernel_rfl) (by simp) ?_
          refine (AllReady.cons rfl (fun K hK => ?_) AllReady.nil)
          · refine Vx.step_eql rfl 108 108 (.tmp 22) (.tmp 27) rfl xs ys (by first | (simp [Act.eval]; done) | simp [Act.eval, Act.put]) (by first | (simp [Act.eval]; done) | simp [Act.eval, Act.put]) B (heq.out w3) (eqg w3 xs ys) ?_
            try go_simp
            refine hK _ _ ?_
            clear hK K
            refine wpAny_take (i := 11) (v := ?_) rfl (by kernel_rfl) (by kernel_rfl) (by kernel_rfl) (fun _ _ _ h => h) (Or.inl ⟨by rfl, ?_⟩) ?_
            rotate_left
            · intro w; go_simp
              try with_reducible rfl
            rotate_left
            refine wpAny_take (i := 12) (v := ?_) rfl (by kernel_rfl) (by kernel_rfl) (by kernel_rfl) (fun _ _ _ h => h) (Or.inl ⟨by rfl, ?_⟩) ?_
            rotate_left
            · intro w; go_simp
              try with_reducible rfl
            rotate_left
            refine wpAny_done (by kernel_rfl) ?_ _
            go_wp2_with fail
            go_ret2
            exact ⟨rfl, HO2.out⟩
      · refine Vx.step_load rfl 108 (.tmp 26) rfl ⟨b2, 0, none⟩ (by first | (simp [Act.eval]; done) | simp [Act.eval, Act.put]) (.agg ys) HD2.out ?_
        try go_simp
        refine hK _ _ ?_
        clear hK K
        refine wpAny_ready (rs := [4]) (by kernel_rfl) (by simp) ?_
        refine (AllReady.cons rfl (fun K hK => ?_) AllReady.nil)
        · refine Vx.step_load rfl 108 (.tmp 21) rfl ⟨b1, 0, none⟩ (by first | (simp [Act.eval]; done) | simp [Act.eval, Act.put]) (.agg xs) HD1'.out ?_
          try go_simp
          refine hK _ _ ?_
          clear hK K
          refine wpAny_ready (rs := [10]) (by kernel_rfl) (by simp) ?_
          refine (AllReady.cons rfl (fun K hK => ?_) AllReady.nil)
          · refine Vx.step_eql rfl 108 108 (.tmp 22) (.tmp 27) rfl xs ys (by first | (simp [Act.eval]; done) | simp [Act.eval, Act.put]) (by first | (simp [Act.eval]; done) | simp [Act.eval, Act.put]) B (heq.out w3) (eqg w3 xs ys) ?_
            try go_simp
            refine hK _ _ ?_
            clear hK K
            refine wpAny_take (i := 11) (v := ?_) rfl (by kernel_rfl) (by kernel_rfl) (by kernel_rfl) (fun _ _ _ h => h) (Or.inl ⟨by rfl, ?_⟩) ?_
            rotate_left
            · intro w; go_simp
              try with_reducible rfl
            rotate_left
            refine wpAny_take (i := 12) (v := ?_) rfl (by kernel_rfl) (by kernel_rfl) (by kernel_rfl) (fun _ _ _ h => h) (Or.inl ⟨by rfl, ?_⟩) ?_
            rotate_left
            · intro w; go_simp
              try with_reducible rfl
            rotate_left
            refine wpAny_done (by kernel_rfl) ?_ _
            go_wp2_with fail
            go_ret2
            exact ⟨rfl, HO2.out⟩
end Go.Proofs.YtflmobffeeocdaaGreatDoor

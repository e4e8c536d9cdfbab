/- A name that is no label: what bytes, the second closure and Assemble make of it. -/
import Derived.Test.YtmfookpigilccaaGreatDoorQ20
namespace Go.Vx
/-- A call that panics, as one step of a region that draws. -/
theorem step_call_panics {P : Program} {ops : Array Oper} {o : Oper} {a : Act} {w : World} {K : Act → World → Prop} {Q : Exit → Act → World → Prop} {E : Prop} {R : Ending → World → Prop}
    (hg : o.guard = none) (f : FuncId) (args : Array Operand) (ats : Array TypeId) (hop : o.op = Op.call { callee := Callee.value (.func f), args := args, argTypes := ats }) (vals : Array Value) (hv : args.map a.eval = vals)
    (hcf : (callFunc f vals).run P w = .ok (.enter f vals) w) (hC : Calls P f vals w R) (hR : ∀ e w', R e w' → ∃ ch, e = .panicked ch ∧ Q (.panic ch) a w') :
    if Region.wanted o (yielded ops a.tmps) = true then Oper.wp P o a w K Q else E := by
  have hw : Region.wanted o (yielded ops a.tmps) = true := by simp [Region.wanted, hg]
  rw [if_pos hw]
  unfold Oper.wp
  simp [execOp, hop, resolve, invoke, hv, hcf, Act.eval, Deferred.ofValue]
  refine hC.mono ?_
  intro e w' h
  obtain ⟨ch, rfl, hk⟩ := hR e w' h
  exact hk
end Go.Vx
namespace Go.Proofs.YtmfookpigilccaaGreatDoor
open Go.ChangeShapes Go.WideShapes Go.ChangeAt Go.RowKit Go.Maps
open Go.Vx (strV labN Only Ins insV Stm stToks stOk stLen wordOf dec tokF fourB accT lenT joinB)

def errName : List PanicEntry := [{ v := .iface 22 (.int .i64 6), recovered := false }]
set_option maxRecDepth 100000 in
set_option maxHeartbeats 4000000 in
theorem bytes_name (pb mb base : Nat) (acc : List (Stm × Nat)) (n : Nat) (D : DataW Unit) (L : Nat) (j : Nat) (hj : j < acc.length) (i : Ins) (c0 : UInt8) (l0 : List UInt8) (hl : l0.length ≤ 20000) (hs : (acc[j]).1 = .ins i (c0 :: l0)) (hh : Maps.has D (.string (c0 :: l0)) = false) (w : World) (hp : PrAt w pb mb base acc n D L) :
    Calls Tryz.prog 18 #[.pointer (some ⟨pb, 0, none⟩), .int .i64 j] w fun e w' => e = .panicked errName ∧ Only (fun _ => False) w w' := by
  obtain ⟨g, c, hc0, hg0, hg1⟩ := line_at hp j hj
  rw [hs] at hg0
  obtain ⟨at', hat⟩ : ∃ a, (acc[j]).2 = a := ⟨_, rfl⟩
  rw [hat] at hg1
  have hc1 := hp.c1
  have HP : Hid (PrAt w pb mb base acc n D L) := hp
  have hidx : 0 ≤ (j : Int) ∧ (j : Int) < (acc.length : Int) := by omega
  have HW : Hid (Calls Tryz.prog 143 #[instV i (c0 :: l0), .int .i64 (at' : Int), .map (some mb)] (w.alloc (.cells #[.iface 126 (instV i (c0 :: l0)), .int .i64 (at' : Int)] 81)).drew fun e w3 => e = .panicked errName ∧ Only (fun _ => False) w w3) := by
    have ho : Only (fun _ => False) w (w.alloc (.cells #[.iface 126 (instV i (c0 :: l0)), .int .i64 (at' : Int)] 81)).drew := ((Only.refl _ w).alloc _).drew
    refine (inst_words_none i c0 l0 hl (at' : Int) mb n D hh _ (hp.map.only ho (fun h => h))).mono ?_
    rintro e w3 ⟨rfl, h3⟩
    exact ⟨rfl, ho.trans h3⟩
  have hcA : ∀ o, (w.alloc o).cell? ⟨pb, 1, none⟩ = some (.map (some mb)) := fun o => by
    rw [((Only.refl (fun _ => False) w).alloc o).cell (p := ⟨pb, 1, none⟩) (Nat.lt_of_lt_of_le HP.out.pbB HP.out.baseS) (fun h => h)]; exact hc1
  obtain ⟨pv, hpv⟩ : ∃ pv, instV i (c0 :: l0) = pv := ⟨_, rfl⟩
  have hg0' : w.cell? ⟨g, j * 2, none⟩ = some (.iface 126 pv) := by rw [← hpv]; exact hg0
  rw [hpv] at HW
  have hme : ∀ wv, (method 286 126 pv "vault/asm.words").run Tryz.prog wv = .ok (143, pv) wv := fun _ => by rw [← hpv]; kernel_rfl
  clear hp hs hat hh hpv hg0
  go_enter Tryz.func18, Tryz.ntmps18
  go_wp2_with fail
  refine wp_region_any (by kernel_rfl) ?_
  try (change wpAny _ _ _ _ _ _ _ (World.drew _))
  refine wpAny_take (i := 0) (v := ?_) rfl (by kernel_rfl) (by kernel_rfl) (by kernel_rfl) (fun _ _ _ h => h) (Or.inl ⟨by rfl, ?_⟩) ?_
  rotate_left
  · intro w; go_simp
    try with_reducible rfl
  rotate_left
  refine wpAny_take (i := 2) (v := ?_) rfl (by kernel_rfl) (by kernel_rfl) (by kernel_rfl) (fun _ _ _ h => h) (Or.inl ⟨by rfl, ?_⟩) ?_
  rotate_left
  · intro w; go_simp
    try with_reducible rfl
  rotate_left
  refine wpAny_take (i := 4) (v := ?_) rfl (by kernel_rfl) (by kernel_rfl) (by kernel_rfl) (fun _ _ _ h => h) (Or.inl ⟨by rfl, ?_⟩) ?_
  rotate_left
  · intro w; go_simp
    try with_reducible rfl
  rotate_left
  refine wpAny_take (i := 5) (v := ?_) rfl (by kernel_rfl) (by kernel_rfl) (by kernel_rfl) (fun _ _ _ h => h) (Or.inl ⟨by rfl, ?_⟩) ?_
  rotate_left
  · intro w; go_simp
    try with_reducible rfl
  rotate_left
  refine wpAny_take (i := 6) (v := ?_) rfl (by kernel_rfl) (by kernel_rfl) (by kernel_rfl) (fun _ _ _ h => h) (Or.inl ⟨by rfl, ?_⟩) ?_
  rotate_left
  · intro w; go_simp
    try with_reducible rfl
  rotate_left
  refine wpAny_take (i := 12) (v := ?_) rfl (by kernel_rfl) (by kernel_rfl) (by kernel_rfl) (fun _ _ _ h => h) (Or.inl ⟨by rfl, ?_⟩) ?_
  rotate_left
  · intro w; go_simp
    try with_reducible rfl
  rotate_left
  refine wpAny_ready (rs := [1, 3, 7]) (by kernel_rfl) (by simp) ?_
  refine (AllReady.cons rfl (fun K hK => ?_) (AllReady.cons rfl (fun K hK => ?_) (AllReady.cons rfl (fun K hK => ?_) AllReady.nil)))
  · go_simp
    refine hK _ _ ?_
    clear hK K
    refine wpAny_take (i := 8) (v := ?_) rfl (by kernel_rfl) (by kernel_rfl) (by kernel_rfl) (fun _ _ _ h => h) (Or.inl ⟨by rfl, ?_⟩) ?_
    rotate_left
    · intro w; go_simp
      try with_reducible rfl
    rotate_left
    refine wpAny_take (i := 9) (v := ?_) rfl (by kernel_rfl) (by kernel_rfl) (by kernel_rfl) (fun _ _ _ h => h) (Or.inl ⟨by rfl, ?_⟩) ?_
    rotate_left
    · intro w; go_simp
      try with_reducible rfl
    rotate_left
    refine wpAny_ready (rs := [3, 7]) (by kernel_rfl) (by simp) ?_
    refine (AllReady.cons rfl (fun K hK => ?_) (AllReady.cons rfl (fun K hK => ?_) AllReady.nil))
    · go_simp
      refine hK _ _ ?_
      clear hK K
      refine wpAny_ready (rs := [7]) (by kernel_rfl) (by simp) ?_
      refine (AllReady.cons rfl (fun K hK => ?_) AllReady.nil)
      · go_simp
        refine hK _ _ ?_
        clear hK K
        refine wpAny_ready (rs := [10]) (by kernel_rfl) (by simp) ?_
        refine (AllReady.cons rfl (fun K hK => ?_) AllReady.nil)
        · go_simp
          refine HW.out.mono ?_
          rintro e w3 ⟨rfl, ho3⟩
          exact ⟨rfl, rfl, ho3⟩
    · go_simp
      refine hK _ _ ?_
      clear hK K
      refine wpAny_ready (rs := [3]) (by kernel_rfl) (by simp) ?_
      refine (AllReady.cons rfl (fun K hK => ?_) AllReady.nil)
      · go_simp
        refine hK _ _ ?_
        clear hK K
        refine wpAny_ready (rs := [10]) (by kernel_rfl) (by simp) ?_
        refine (AllReady.cons rfl (fun K hK => ?_) AllReady.nil)
        · go_simp
          refine HW.out.mono ?_
          rintro e w3 ⟨rfl, ho3⟩
          exact ⟨rfl, rfl, ho3⟩
  · go_simp
    refine hK _ _ ?_
    clear hK K
    refine wpAny_ready (rs := [1, 7]) (by kernel_rfl) (by simp) ?_
    refine (AllReady.cons rfl (fun K hK => ?_) (AllReady.cons rfl (fun K hK => ?_) AllReady.nil))
    · go_simp
      refine hK _ _ ?_
      clear hK K
      refine wpAny_take (i := 8) (v := ?_) rfl (by kernel_rfl) (by kernel_rfl) (by kernel_rfl) (fun _ _ _ h => h) (Or.inl ⟨by rfl, ?_⟩) ?_
      rotate_left
      · intro w; go_simp
        try with_reducible rfl
      rotate_left
      refine wpAny_take (i := 9) (v := ?_) rfl (by kernel_rfl) (by kernel_rfl) (by kernel_rfl) (fun _ _ _ h => h) (Or.inl ⟨by rfl, ?_⟩) ?_
      rotate_left
      · intro w; go_simp
        try with_reducible rfl
      rotate_left
      refine wpAny_ready (rs := [7]) (by kernel_rfl) (by simp) ?_
      refine (AllReady.cons rfl (fun K hK => ?_) AllReady.nil)
      · go_simp
        refine hK _ _ ?_
        clear hK K
        refine wpAny_ready (rs := [10]) (by kernel_rfl) (by simp) ?_
        refine (AllReady.cons rfl (fun K hK => ?_) AllReady.nil)
        · go_simp
          refine HW.out.mono ?_
          rintro e w3 ⟨rfl, ho3⟩
          exact ⟨rfl, rfl, ho3⟩
    · go_simp
      refine hK _ _ ?_
      clear hK K
      refine wpAny_ready (rs := [1]) (by kernel_rfl) (by simp) ?_
      refine (AllReady.cons rfl (fun K hK => ?_) AllReady.nil)
      · go_simp
        refine hK _ _ ?_
        clear hK K
        refine wpAny_take (i := 8) (v := ?_) rfl (by kernel_rfl) (by kernel_rfl) (by kernel_rfl) (fun _ _ _ h => h) (Or.inl ⟨by rfl, ?_⟩) ?_
        rotate_left
        · intro w; go_simp
          try with_reducible rfl
        rotate_left
        refine wpAny_take (i := 9) (v := ?_) rfl (by kernel_rfl) (by kernel_rfl) (by kernel_rfl) (fun _ _ _ h => h) (Or.inl ⟨by rfl, ?_⟩) ?_
        rotate_left
        · intro w; go_simp
          try with_reducible rfl
        rotate_left
        refine wpAny_ready (rs := [10]) (by kernel_rfl) (by simp) ?_
        refine (AllReady.cons rfl (fun K hK => ?_) AllReady.nil)
        · go_simp
          refine HW.out.mono ?_
          rintro e w3 ⟨rfl, ho3⟩
          exact ⟨rfl, rfl, ho3⟩
  · go_simp
    refine hK _ _ ?_
    clear hK K
    refine wpAny_ready (rs := [1, 3]) (by kernel_rfl) (by simp) ?_
    refine (AllReady.cons rfl (fun K hK => ?_) (AllReady.cons rfl (fun K hK => ?_) AllReady.nil))
    · go_simp
      refine hK _ _ ?_
      clear hK K
      refine wpAny_take (i := 8) (v := ?_) rfl (by kernel_rfl) (by kernel_rfl) (by kernel_rfl) (fun _ _ _ h => h) (Or.inl ⟨by rfl, ?_⟩) ?_
      rotate_left
      · intro w; go_simp
        try with_reducible rfl
      rotate_left
      refine wpAny_take (i := 9) (v := ?_) rfl (by kernel_rfl) (by kernel_rfl) (by kernel_rfl) (fun _ _ _ h => h) (Or.inl ⟨by rfl, ?_⟩) ?_
      rotate_left
      · intro w; go_simp
        try with_reducible rfl
      rotate_left
      refine wpAny_ready (rs := [3]) (by kernel_rfl) (by simp) ?_
      refine (AllReady.cons rfl (fun K hK => ?_) AllReady.nil)
      · go_simp
        refine hK _ _ ?_
        clear hK K
        refine wpAny_ready (rs := [10]) (by kernel_rfl) (by simp) ?_
        refine (AllReady.cons rfl (fun K hK => ?_) AllReady.nil)
        · go_simp
          refine HW.out.mono ?_
          rintro e w3 ⟨rfl, ho3⟩
          exact ⟨rfl, rfl, ho3⟩
    · go_simp
      refine hK _ _ ?_
      clear hK K
      refine wpAny_ready (rs := [1]) (by kernel_rfl) (by simp) ?_
      refine (AllReady.cons rfl (fun K hK => ?_) AllReady.nil)
      · go_simp
        refine hK _ _ ?_
        clear hK K
        refine wpAny_take (i := 8) (v := ?_) rfl (by kernel_rfl) (by kernel_rfl) (by kernel_rfl) (fun _ _ _ h => h) (Or.inl ⟨by rfl, ?_⟩) ?_
        rotate_left
        · intro w; go_simp
          try with_reducible rfl
        rotate_left
        refine wpAny_take (i := 9) (v := ?_) rfl (by kernel_rfl) (by kernel_rfl) (by kernel_rfl) (fun _ _ _ h => h) (Or.inl ⟨by rfl, ?_⟩) ?_
        rotate_left
        · intro w; go_simp
          try with_reducible rfl
        rotate_left
        refine wpAny_ready (rs := [10]) (by kernel_rfl) (by simp) ?_
        refine (AllReady.cons rfl (fun K hK => ?_) AllReady.nil)
        · go_simp
          refine HW.out.mono ?_
          rintro e w3 ⟨rfl, ho3⟩
          exact ⟨rfl, rfl, ho3⟩
set_option maxRecDepth 100000 in
set_option maxHeartbeats 2000000 in
theorem close_2_name (cb pb k : Nat) (bs : List UInt8) (w : World) (hc : CodeAt w cb bs)
    (h : ∀ w2, Only (fun _ => False) w w2 → Calls Tryz.prog 18 #[.pointer (some ⟨pb, 0, none⟩), .int .i64 k] w2 fun e w' => e = .panicked errName ∧ Only (fun _ => False) w2 w') :
    Calls Tryz.prog 17 #[.int .i64 k, .pointer (some ⟨cb, 0, none⟩), .pointer (some ⟨pb, 0, none⟩)] w fun e w' => e = .panicked errName ∧ Only (CodeOwn cb w) w w' := by
  obtain ⟨p, n, c, h0, hr⟩ := hc.cell
  have HB : Hid (Calls Tryz.prog 18 #[.pointer (some ⟨pb, 0, none⟩), .int .i64 k] w.drew fun e w' => e = .panicked errName ∧ Only (fun _ => False) w w') := by
    refine (h w.drew (Only.refl _ w).drew).mono ?_
    rintro e w' ⟨rfl, h2⟩
    exact ⟨rfl, ⟨h2.os, h2.tape, h2.output, h2.size, h2.block⟩⟩
  clear hr h hc
  go_enter Tryz.func17, Tryz.ntmps17
  refine wp_region_any (by kernel_rfl) ?_
  try (change wpAny _ _ _ _ _ _ _ (World.drew _))
  refine wpAny_take (i := 1) (v := ?_) rfl (by kernel_rfl) (by kernel_rfl) (by kernel_rfl) (fun _ _ _ h => h) (Or.inl ⟨by rfl, ?_⟩) ?_
  rotate_left
  · intro w; go_simp
    try with_reducible rfl
  rotate_left
  refine wpAny_ready (rs := [0, 2]) (by kernel_rfl) (by simp) ?_
  refine AllReady.cons rfl (fun K hK => ?_) (AllReady.cons rfl (fun K hK => ?_) AllReady.nil)
  · go_simp
    refine hK _ _ ?_
    clear hK K
    refine wpAny_ready (rs := [2]) (by kernel_rfl) (by simp) ?_
    refine AllReady.cons rfl (fun K hK => ?_) AllReady.nil
    go_simp
    refine HB.out.mono ?_
    rintro e w3 ⟨rfl, ho⟩
    exact ⟨rfl, rfl, ho.mono fun _ _ h => h.elim⟩
  · go_simp
    refine HB.out.mono ?_
    rintro e w3 ⟨rfl, ho⟩
    exact ⟨rfl, rfl, ho.mono fun _ _ h => h.elim⟩
end Go.Proofs.YtmfookpigilccaaGreatDoor

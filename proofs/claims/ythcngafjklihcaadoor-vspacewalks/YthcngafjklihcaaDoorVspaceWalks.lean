/- VspaceWalks: its arguments, its row, its tied card. -/
import Derived.Test.YthcngafjklihcaaDoorLU
import Derived.Test.YthcngafjklihcaaDoorJ6
namespace Go.Proofs.YthcngafjklihcaaDoor
open Go.ChangeShapes Go.WideShapes Go.ChangeAt Go.RowKit Go.Deep
open Go.Vx

theorem three_of {α : Type} : ∀ (l : List α), l.length = 3 → ∃ a b c, l = [a, b, c]
  | [a, b, c], _ => ⟨a, b, c, rfl⟩
  | [], h => by simp at h
  | [_], h => by simp at h
  | [_, _], h => by simp at h
  | _ :: _ :: _ :: _ :: _, h => by simp at h
theorem cLay : Tryd.prog.cellsOf 28 = 3 := by kernel_rfl
theorem open_lays {H : Type} {enc : TypeId × Value → H} {W : World} {a0 : Option Addr} {len cap fuel : Nat} {x : DataW H × List MemPlace} (hf : DataW.trod enc Tryd.prog W 0 (fun _ => true) true fuel 25 (Value.slice a0 len cap).cells.toList = some x) :
    ∃ zs : List (Int × Int × Int), zs.length = len ∧ len ≤ cap ∧ cap ≤ maxLen ∧ LaAt W a0 zs ∧ ∀ z ∈ zs, in64 z.1 ∧ in64 z.2.1 ∧ in64 z.2.2 := by
  rcases open_slice Tryd.underlying25 hf with ⟨hc, _⟩ | ⟨a, len', cap', m, n, D, Pl, hc, _, hl, hm, hmm, _, hx⟩
  · simp [Value.cells] at hc
    obtain ⟨rfl, rfl, rfl⟩ := hc
    exact ⟨[], rfl, Nat.le_refl _, by decide, Or.inl rfl, by simp⟩
  · simp [Value.cells] at hc
    obtain ⟨rfl, rfl, rfl⟩ := hc
    simp only [if_true] at hmm
    subst hmm
    have each : ∀ i, i < m → ∃ z : Int × Int × Int, (in64 z.1 ∧ in64 z.2.1 ∧ in64 z.2.2) ∧ W.cell? (a.add (i * 3)) = some (.int .i64 z.1) ∧ W.cell? (a.add (i * 3 + 1)) = some (.int .i64 z.2.1) ∧ W.cell? (a.add (i * 3 + 2)) = some (.int .i64 z.2.2) := by
      intro i hi
      obtain ⟨cs', h1, h2⟩ := hx i hi
      rw [cLay] at h1
      obtain ⟨_, hlen, hcell⟩ := World.cells?_some h1
      obtain ⟨xs, k, hk, hxy, _, hxl, hfld⟩ := DataW.trod_struct Tryd.underlying28 h2
      obtain ⟨y0, y1, y2, rfl⟩ := three_of xs hxl
      obtain ⟨v0, v1, v2, rfl⟩ := three_of cs' hlen
      have g0 := hfld 0 _ rfl
      have g1 := hfld 1 _ rfl
      have g2 := hfld 2 _ rfl
      simp [cInt] at g0 g1 g2
      obtain ⟨n0, q0, _, b0⟩ := DataW.trod_int Tryd.underlying3 g0
      obtain ⟨n1, q1, _, b1⟩ := DataW.trod_int Tryd.underlying3 g1
      obtain ⟨n2, q2, _, b2⟩ := DataW.trod_int Tryd.underlying3 g2
      simp only [List.cons.injEq, and_true] at q0 q1 q2
      subst q0 q1 q2
      have e0 := hcell 0 (by decide)
      have e1 := hcell 1 (by decide)
      have e2 := hcell 2 (by decide)
      rw [add_add] at e0 e1 e2
      exact ⟨⟨n0, n1, n2⟩, ⟨bounds_i64 b0, bounds_i64 b1, bounds_i64 b2⟩, by simpa using e0, by simpa using e1, by simpa using e2⟩
    haveI : Inhabited (Int × Int × Int) := ⟨⟨0, 0, 0⟩⟩
    obtain ⟨Z, hZ⟩ := choose_lt each
    refine ⟨(List.range len).map Z, by simp, hl, hm, ?_, ?_⟩
    · by_cases hz : len = 0
      · subst hz
        exact Or.inl rfl
      · right
        obtain ⟨ab, ao, sp⟩ := a
        have hspot : sp = none := by simpa [Addr.add] using World.cell?_spot (hZ 0 (by omega)).2.1
        subst hspot
        refine ⟨ab, ao, rfl, fun j hj => ?_⟩
        have hj' : j < len := by simpa using hj
        have hh := (hZ j (by omega)).2
        simp only [addr_add, ← Nat.add_assoc] at hh
        simp only [List.getElem_map, List.getElem_range]
        exact hh
    · intro z hz
      simp only [List.mem_map, List.mem_range] at hz
      obtain ⟨i, hi, rfl⟩ := hz
      exact (hZ i (by omega)).1
set_option maxRecDepth 100000 in
theorem vspaceWalks_lifted (os : Os) (started : os.Started) (H : Type) (enc : TypeId × Value → H) :
    ReturnsInHanded {} Tryd.checked os 6 .any (fun w args => (Rows.vspaceWalksSpec.pre enc Tryd.prog Tryd.f6 [] false w args ∧ laidMetH Tryd.prog [("vault/mmu.uses", Rows.laid_vault_mmu_uses)] w) ∧ sizedMet enc Tryd.prog Tryd.f6 (OpenSpec.ofChange Rows.vspaceWalksSpec) false w args)
      (Rows.vspaceWalksSpec.post enc Tryd.prog Tryd.f6 false true false false) := by
  refine returnsInHanded_of_change_and (C := Tryd.checked) (X := fun w _ => laidMetH Tryd.prog [("vault/mmu.uses", Rows.laid_vault_mmu_uses)] w) (fun _ _ _ hh h => h.of_heap hh) own started (by kernel_rfl) Tryd.func6
    (ChangeSpec.witness_shaped (enc := enc) (C := Tryd.checked) (os := os) (X := fun w _ => laidMetH Tryd.prog [("vault/mmu.uses", Rows.laid_vault_mmu_uses)] w) false (World.doorLaid Tryd.prog 400 os) #[.slice none 0 0, .int .i64 0] 8 rfl (World.shaped_of_RefB (by kernel_rfl) (by kernel_rfl)) (by kernel_rfl) (by kernel_rfl) (by kernel_rfl) (uses_met os _)) ?_
  intro W base args ds gs before hval0 hW _ _ hL _
  have hval : ∀ (j : Nat) t v, Tryd.f6.params[j]? = some t → args[j]? = some v → Value.okWide Tryd.prog W .any base t v := hval0
  have hW' := hW
  obtain ⟨p, q, hA0, hV, rfl, hfz, hnd⟩ := hW
  have hA : DataW.TrodAll enc Tryd.prog W 0 (fun _ => true) true Tryd.f6.params.toList args.toList ds p := hA0
  rw [Tryd.params6] at hA hval
  obtain ⟨v0, v1, d0, d1, p0, p1, rfl, rfl, rfl, h0, h1⟩ := trodAll_two hA
  obtain ⟨rfl, rfl⟩ := trodVars_none hV
  obtain ⟨a0, len, cap, rfl⟩ := okWide_slice Tryd.underlying25 (hval 0 25 v0 rfl rfl)
  obtain ⟨root, rfl, rfl, rfl, wn⟩ := open_int Tryd.underlying3 (hval 1 3 v1 rfl rfl) h1
  have hU := usesAt_of_laid hL
  clear hA0 hval0
  simp only [List.append_nil] at hW'
  have hlt : ∀ y ∈ p0, y.block < W.heap.size := fun y hy => by simpa using hW'.lt y hy
  have hcall : Calls Tryd.prog 6 #[.slice a0 len cap, .int .i64 root] W fun e w' => e = .returned (.bool true) ∧ Below W.heap.size W w' := by
    obtain ⟨fuel, hf⟩ := h0
    obtain ⟨zs, hl, hlc, hcm, hp, hz⟩ := open_lays hf
    exact vspaceWalks_call W hU a0 len cap zs hl hlc hcm hp hz root (bounds_i64 wn)
  refine hcall.mono fun e W' ⟨he, hb⟩ => ?_
  subst he
  exact ⟨_, rfl, _, _, _, [], _, [], hW', trodAll_mk1 (shut_bool Tryd.underlying4 _), trodAll_mk2 (Below.trod laidOut (by kernel_rfl) (of_decide_eq_true (by kernel_rfl)) h0 hb hlt) (shut_int Tryd.underlying3 wn), rfl, hb.frame _, fun h => by cases h⟩

theorem vspaceWalks_row : Rows.VspaceWalksSaid :=
  OpenClaim.holds_of_wide 6 Tryd.f6 rfl rfl rfl rfl rfl rfl rfl ⟨rfl, rfl, rfl, rfl, rfl⟩ rfl rfl rfl rfl rfl (by kernel_rfl) Tryd.func6 (by kernel_rfl)
    (of_decide_eq_true (by kernel_rfl)) (by unfold Func.isWrapper; first | (rw [if_pos (by decide +kernel)]; kernel_rfl) | (rw [if_neg (by decide +kernel)]; exact ⟨rfl, rfl⟩))
    (fun os started H enc _ => vspaceWalks_lifted os started H enc)

/-- The statement: the tied card. -/
theorem vspaceWalks_holds : Rows.VspaceWalksCardSaid :=
  Claim7.holds_tied_plain_at .later [] [.data] true _ false
    vspaceWalks_row (fun _ h => by cases h) (by kernel_rfl) (fun _ h => by cases h) vspaceWalks_row_tie rfl ⟨rfl, rfl⟩ (by kernel_rfl) rfl
    (fun f fn hf hfn => by
      obtain rfl : f = 6 := Option.some.inj ((show Tryd.prog.funcNamed "vault/vaultkeep.VspaceWalks" = some 6 by kernel_rfl).symm.trans hf) |>.symm
      obtain rfl : fn = Tryd.f6 := (Option.some.inj (Tryd.func6.symm.trans hfn)).symm
      exact ⟨by kernel_rfl, fun j t ht => by
        rw [Tryd.params6] at ht
        have hm : t ∈ [25, 3] := by simpa using Array.mem_of_getElem? ht
        have hall : ([25, 3].all fun u => !Tryd.prog.wantsStandIn u) = true := by kernel_rfl
        exact (show Tryd.prog.wantsStandIn t = false by simpa using List.all_eq_true.1 hall t hm)⟩)
    (by kernel_rfl)
#print axioms vspaceWalks_holds
end Go.Proofs.YthcngafjklihcaaDoor

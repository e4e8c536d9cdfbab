import Derived.Test.YtgncabcnefhkiaaCs54
import Derived.Test.YtgncabcnefhkiaaRows
import Derived.SizedLaws
/- SchedScripts: turns as an argument; its row. -/
namespace Go.Proofs.Ytgncabcnefhkiaa
open Go.ChangeShapes Go.WideShapes Go.ChangeAt Go.RowKit Go.Deep
open Go.Vx

theorem bTurn : Try.prog.bytesOf 34 = 16 := by kernel_rfl
theorem two_of2 {α : Type} : ∀ (l : List α), l.length = 2 → ∃ a b, l = [a, b]
  | [a, b], _ => ⟨a, b, rfl⟩
  | [], h => by simp at h
  | [_], h => by simp at h
  | _ :: _ :: _ :: _, h => by simp at h
theorem cTurn2 : Try.prog.cellsOf 34 = 2 := by kernel_rfl
theorem open_turns {H : Type} {enc : TypeId × Value → H} {W : World} {a0 : Option Addr} {len cap fuel : Nat} {x : DataW H × List MemPlace} (hf : DataW.trod enc Try.prog W 0 (fun _ => true) true fuel 22 (Value.slice a0 len cap).cells.toList = some x) :
    ∃ zs : List (Int × Int), zs.length = len ∧ len ≤ cap ∧ cap ≤ maxLen ∧ TuAt W a0 zs ∧ (len = 0 ∨ ∃ el sp, x.1 = .slice el sp ∧ len ≤ el.length + sp.length) := by
  rcases open_slice Try.underlying22 hf with ⟨hc, _⟩ | ⟨a, len', cap', m, n, D, Pl, hc, _, hl, hm, hmm, hxx, hx⟩
  · simp [Value.cells] at hc
    obtain ⟨rfl, rfl, rfl⟩ := hc
    exact ⟨[], rfl, Nat.le_refl _, by decide, Or.inl rfl, Or.inl rfl⟩
  · simp [Value.cells] at hc
    obtain ⟨rfl, rfl, rfl⟩ := hc
    simp only [if_true] at hmm
    subst hmm
    have each : ∀ i, i < m → ∃ z : Int × Int, W.cell? (a.add (i * 2)) = some (.int .i64 z.1) ∧ W.cell? (a.add (i * 2 + 1)) = some (.int .i64 z.2) := by
      intro i hi
      obtain ⟨cs', h1, h2⟩ := hx i hi
      rw [cTurn2] at h1
      obtain ⟨_, hlen, hcell⟩ := World.cells?_some h1
      obtain ⟨xs, k, hk, hxy, _, hxl, hfld⟩ := DataW.trod_struct Try.underlying34 h2
      obtain ⟨y0, y1, rfl⟩ := two_of2 xs hxl
      obtain ⟨v0, v1, rfl⟩ := two_of2 cs' hlen
      have g0 := hfld 0 _ rfl
      have g1 := hfld 1 _ rfl
      simp [cInt] at g0 g1
      obtain ⟨n0, q0, _, b0⟩ := DataW.trod_int Try.underlying3 g0
      obtain ⟨n1, q1, _, b1⟩ := DataW.trod_int Try.underlying3 g1
      simp only [List.cons.injEq, and_true] at q0 q1
      subst q0 q1
      have e0 := hcell 0 (by decide)
      have e1 := hcell 1 (by decide)
      rw [add_add] at e0 e1
      exact ⟨⟨n0, n1⟩, by simpa using e0, by simpa using e1⟩
    haveI : Inhabited (Int × Int) := ⟨⟨0, 0⟩⟩
    obtain ⟨Z, hZ⟩ := choose_lt each
    refine ⟨(List.range len).map Z, by simp, hl, hm, ?_, ?_⟩
    · by_cases hz : len = 0
      · subst hz
        exact Or.inl rfl
      · right
        obtain ⟨ab, ao, sp⟩ := a
        have hspot : sp = none := by simpa [Addr.add] using World.cell?_spot (hZ 0 (by omega)).1
        subst hspot
        refine ⟨ab, ao, rfl, fun j hj => ?_⟩
        have hj' : j < len := by simpa using hj
        have hh := hZ j (by omega)
        simp only [addr_add, ← Nat.add_assoc] at hh
        simp only [List.getElem_map, List.getElem_range]
        exact hh
    · right
      exact ⟨_, _, by rw [hxx], by simp⟩
set_option maxRecDepth 100000 in
theorem schedScripts_lifted (os : Os) (started : os.Started) (H : Type) (enc : TypeId × Value → H) :
    ReturnsInHanded {} Try.checked os 3 .any (Rows.schedScriptsSpec.pre6 enc Try.prog Try.f3 Rows.schedScriptsRow.domain false) (Rows.schedScriptsSpec.post enc Try.prog Try.f3 false true false false) := by
  refine returnsInHanded_of_change_sized (C := Try.checked) own started (by kernel_rfl) Try.func3
    (ChangeSpec.witness6 (enc := enc) (C := Try.checked) false ⟨#[], #[.slice none 0 0, .slice none 0 0], []⟩ 8 (by kernel_rfl) (by kernel_rfl) (by kernel_rfl) (by kernel_rfl)) ?_
  intro W base args ds gs before hval0 hW hcnd hsz _
  have hval : ∀ (j : Nat) t v, Try.f3.params[j]? = some t → args[j]? = some v → Value.okWide Try.prog W .any base t v := hval0
  have hW' := hW
  obtain ⟨p, q, hA0, hV, rfl, hfz, hnd⟩ := hW
  have hA : DataW.TrodAll enc Try.prog W 0 (fun _ => true) true Try.f3.params.toList args.toList ds p := hA0
  rw [Try.params3] at hA hval
  obtain ⟨v0, v1, d0, d1, p0, p1, hargs, rfl, rfl, h0, h1⟩ := trodAll_two hA
  obtain ⟨rfl, rfl⟩ := trodVars_none hV
  have hargs' : args = #[v0, v1] := by
    obtain ⟨l⟩ := args
    simpa using hargs
  subst hargs'
  obtain ⟨ta, tl, tc, rfl⟩ := okWide_slice Try.underlying22 (hval 0 22 v0 rfl rfl)
  obtain ⟨a0, len, cap, rfl⟩ := okWide_slice Try.underlying23 (hval 1 23 v1 rfl rfl)
  clear hA0 hval0
  simp only [List.append_nil] at hW'
  have hlt : ∀ x ∈ p0 ++ p1, x.block < W.heap.size := fun x hx => by simpa using hW'.lt x (by simpa using hx)
  have hcall : Calls Try.prog 3 #[.slice ta tl tc, .slice a0 len cap] W fun e w' => e = .returned (.bool true) ∧ Below W.heap.size W w' := by
    obtain ⟨fuel, hf⟩ := h1
    obtain ⟨fuel0, hf0⟩ := h0
    obtain ⟨zs, hl, hlc, hcm, hp, hz⟩ := open_ops hf
    obtain ⟨us, ul, ulc, ucm, up, ub⟩ := open_turns hf0
    have hb : tl ≤ 10000000000000 := by
      rcases ub with ub | ⟨el, sp, hd, hn⟩
      · omega
      · have hd' : d0 = .slice el sp := hd
        subst hd'
        have h9 := sized_slice hsz (j := 0) (t := 22) (e := 34) (by rw [Try.params3]; rfl) rfl Try.underlying22
        have h8 : Try.checked.prog.bytesOf 34 = 16 := bTurn
        rw [h8] at h9
        unfold reachBytes at h9
        omega
    exact schedScripts_call W ta tl tc ul.symm ulc ucm hb up a0 len cap zs hl hlc hcm hp hz
  refine hcall.mono fun e W' ⟨he, hb⟩ => ?_
  subst he
  exact ⟨_, rfl, _, _, _, [], _, [], hW', trodAll_mk1 (shut_bool Try.underlying4 _), trodAll_mk2 (Below.trod laidOut (by kernel_rfl) (of_decide_eq_true (by kernel_rfl)) h0 hb (fun x hx => hlt x (List.mem_append_left _ hx))) (Below.trod laidOut (by kernel_rfl) (of_decide_eq_true (by kernel_rfl)) h1 hb (fun x hx => hlt x (List.mem_append_right _ hx))), rfl, hb.frame _, fun h => by cases h⟩
/-- The statement. -/
theorem schedScripts_holds : Rows.SchedScriptsSaid :=
  OpenClaim.holds_of_wide 3 Try.f3 rfl rfl rfl rfl rfl rfl rfl ⟨rfl, rfl, rfl, rfl, rfl⟩ rfl rfl rfl rfl rfl (by kernel_rfl) Try.func3 (by kernel_rfl)
    (of_decide_eq_true (by kernel_rfl)) (by unfold Func.isWrapper; first | (rw [if_pos (by decide +kernel)]; kernel_rfl) | (rw [if_neg (by decide +kernel)]; exact ⟨rfl, rfl⟩))
    (fun os started H enc _ => schedScripts_lifted os started H enc)
#print axioms schedScripts_holds
end Go.Proofs.Ytgncabcnefhkiaa

import Derived.Test.YtflmobffeeocdaaGreatDoorCh42
import Derived.Test.YtflmobffeeocdaaGreatDoorCh44
import Derived.Test.YtflmobffeeocdaaGreatDoorCh45
import Derived.Test.YtflmobffeeocdaaGreatDoorCh46
import Derived.Test.YtflmobffeeocdaaGreatDoorCh47
import Derived.Test.YtflmobffeeocdaaGreatDoorCh48
import Derived.Test.YtflmobffeeocdaaGreatDoorCh49
import Derived.Test.YtflmobffeeocdaaGreatDoorCh38
import Derived.Test.YtflmobffeeocdaaGreatDoorCh7
/- Walks of the document's chapter 6: Step, whole. -/
namespace Go.Proofs.YtflmobffeeocdaaGreatDoor
open Go.ChangeShapes Go.WideShapes Go.ChangeAt Go.RowKit
open Go.Vx

theorem regF_same {R : Nat → Nat} (h0 : R 0 = 0) (r : Nat) : regF R r = R r := by
  unfold regF
  split
  · rename_i h; rw [h, h0]
  · rfl
theorem doc_ins {w : World} {br bb n cb off pc : Nat} {T : TypeId} {cs : Array Value} {R : Nat → Nat} {f : Nat → UInt8} (h : RefAt w br bb n f) (hd : DxAt w cb off T cs R pc) (hne : cb ≠ br ∧ cb ≠ bb) (hpc : pc < 4294967296) (hR : ∀ i, i < 32 → R i < 4294967296) (root : Int) (hm : pc % 4 = 0) (p : Nat) (hp : placeF f n root pc 4 0 = .ok p) (op rd r1 r2 : Nat) (im : Int) (hi : InsIs (dec (wordF f p : Nat)) op rd r1 r2 im) :
    Calls Tryz.prog 54 #[.pointer (some ⟨br, 0, none⟩), .int .i64 root, .pointer (some ⟨cb, off, none⟩)] w fun e w' => DocP w br bb n cb off T cs (exeF f n root R pc op rd (R r1) (R r2) im) e w' := by
  have h1 := hi.lo
  have h2 := hi.hi
  have hcs : op = 1 ∨ op = 2 ∨ op = 3 ∨ op = 4 ∨ (5 ≤ op ∧ op ≤ 10) ∨ (11 ≤ op ∧ op ≤ 15) ∨ (16 ≤ op ∧ op ≤ 18) ∨ op = 19 ∨ op = 20 ∨ op = 21 ∨ op = 22 ∨ op = 23 ∨ op = 24 ∨ op = 25 ∨ op = 26 ∨ op = 27 ∨ (28 ≤ op ∧ op ≤ 37) ∨ op = 38 ∨ op = 39 ∨ op = 40 ∨ (41 ≤ op ∧ op ≤ 48) := by omega
  rcases hcs with o | o | o | o | o | o | o | o | o | o | o | o | o | o | o | o | o | o | o | o | o
  · exact doc_lui h hd hne hpc hR root hm p hp op rd r1 r2 im hi o
  · exact doc_auipc h hd hne hpc hR root hm p hp op rd r1 r2 im hi o
  · exact doc_jal h hd hne hpc hR root hm p hp op rd r1 r2 im hi o
  · exact doc_jalr h hd hne hpc hR root hm p hp op rd r1 r2 im hi o
  · exact doc_goes h hd hne hpc hR root hm p hp op rd r1 r2 im hi o
  · exact doc_load h hd hne hpc hR root hm p hp op rd r1 r2 im hi o
  · exact doc_store h hd hne hpc hR root hm p hp op rd r1 r2 im hi o
  · exact doc_imm19 h hd hne hpc hR root hm p hp op rd r1 r2 im hi o
  · exact doc_imm20 h hd hne hpc hR root hm p hp op rd r1 r2 im hi o
  · exact doc_imm21 h hd hne hpc hR root hm p hp op rd r1 r2 im hi o
  · exact doc_imm22 h hd hne hpc hR root hm p hp op rd r1 r2 im hi o
  · exact doc_imm23 h hd hne hpc hR root hm p hp op rd r1 r2 im hi o
  · exact doc_imm24 h hd hne hpc hR root hm p hp op rd r1 r2 im hi o
  · exact doc_imm25 h hd hne hpc hR root hm p hp op rd r1 r2 im hi o
  · exact doc_imm26 h hd hne hpc hR root hm p hp op rd r1 r2 im hi o
  · exact doc_imm27 h hd hne hpc hR root hm p hp op rd r1 r2 im hi o
  · exact doc_sums h hd hne hpc hR root hm p hp op rd r1 r2 im hi o
  · exact doc_fence h hd hne hpc hR root hm p hp op rd r1 r2 im hi o
  · exact doc_ecall h hd hne hpc hR root hm p hp op rd r1 r2 im hi o
  · exact doc_ebreak h hd hne hpc hR root hm p hp op rd r1 r2 im hi o
  · exact doc_prods h hd hne hpc hR root hm p hp op rd r1 r2 im hi o
theorem doc_any {w : World} {br bb n cb off pc : Nat} {T : TypeId} {cs : Array Value} {R : Nat → Nat} {f : Nat → UInt8} (h : RefAt w br bb n f) (hd : DxAt w cb off T cs R pc) (hne : cb ≠ br ∧ cb ≠ bb) (hpc : pc < 4294967296) (hR : ∀ i, i < 32 → R i < 4294967296) (h0 : R 0 = 0) (root : Int) :
    Calls Tryz.prog 54 #[.pointer (some ⟨br, 0, none⟩), .int .i64 root, .pointer (some ⟨cb, off, none⟩)] w fun e w' => DocP w br bb n cb off T cs (stepF f n root R pc) e w' := by
  by_cases hm : pc % 4 = 0
  · by_cases hwc : (walkF f n root pc 0).2 = -1
    · have hp : placeF f n root pc 4 0 = .ok (walkF f n root pc 0).1 := by
        unfold placeF placeG
        rw [if_neg (by omega)]
        exact if_neg (fun h => h hwc)
      generalize (walkF f n root pc 0).1 = p at hp
      by_cases hz : (dec (wordF f p : Nat)).op = 0
      · have he : dec (wordF f p : Nat) = ⟨((0 : Nat) : Int), ((0 : Nat) : Int), ((0 : Nat) : Int), ((0 : Nat) : Int), 0⟩ := by
          rcases dec_cases (wordF f p) (wordF_lt f p) with h1 | h1
          · exact h1
          · have := h1.1
            rw [hz] at this
            exact absurd this (by decide)
        exact doc_illegal h hd hne hpc hR root hm p hp 0 0 0 0 0 he ⟨by decide, by decide, by decide⟩ rfl
      · obtain ⟨op, rd, r1, r2, im, hi⟩ := dec_is (wordF f p) (wordF_lt f p) hz
        have he : stepF f n root R pc = exeF f n root R pc op rd (R r1) (R r2) im := by
          unfold stepF; rw [hp, decG_ok hi, regF_same h0, regF_same h0]
        rw [he]
        exact doc_ins h hd hne hpc hR root hm p hp op rd r1 r2 im hi
    · exact doc_fault h hd hne hpc hR root hm hwc
  · exact doc_mis h hd hne hpc hR root hm
end Go.Proofs.YtflmobffeeocdaaGreatDoor

/- HartSteps: a step of both harts; registers and pc that are set. -/
namespace Go.Proofs.YtflmobffeeocdaaGreatDoor
open Go.ChangeShapes Go.WideShapes Go.ChangeAt Go.RowKit
open Go.Vx
set_option linter.unusedVariables false

/-- A store, with both harts. -/
structure HsAt (U : Nat → Prop) (w : World) (sb bm br bb n : Nat) (f g : Nat → UInt8) (R : Nat → Nat) (pc : Nat) (S : Nat → Nat) (qc : Nat) : Prop where
  st : StAt U w sb bm br bb n f g
  hx : ∃ cs, CxAt w sb 2 44 cs R pc ∧ DxAt w sb 35 44 cs S qc
  sat : SbAt w sb
theorem HsAt.only {U : Nat → Prop} {w w' : World} {sb bm br bb n : Nat} {f g : Nat → UInt8} {R : Nat → Nat} {pc : Nat} {S : Nat → Nat} {qc : Nat} (h : HsAt U w sb bm br bb n f g R pc S qc) (ho : Only (fun _ => False) w w') : HsAt U w' sb bm br bb n f g R pc S qc := by
  obtain ⟨cs, h1, h2⟩ := h.hx
  exact ⟨h.st.only ho, ⟨cs, h1.only ho (fun h => h), h2.only ho (fun h => h)⟩, h.sat.only ho (fun h => h)⟩
theorem HsAt.more {U : Nat → Prop} {w w' : World} {sb bm br bb n : Nat} {f g : Nat → UInt8} {R : Nat → Nat} {pc : Nat} {S : Nat → Nat} {qc : Nat} (h : HsAt U w sb bm br bb n f g R pc S qc) (ho : Only (fun _ => False) w w') : HsAt (fun k => U k ∨ (w.heap.size ≤ k ∧ k < w'.heap.size)) w' sb bm br bb n f g R pc S qc := by
  have h1 := h.only ho
  exact ⟨⟨h1.st.c0, h1.st.c1, h1.st.sbl, h.st.m.more ho, h1.st.r, Or.inl h.st.us, Or.inl h.st.ur, Or.inl h.st.ub, h.st.ne⟩, h1.hx, h1.sat⟩
theorem HsAt.less {U V : Nat → Prop} {w w' : World} {sb bm br bb n : Nat} {f g f' g' : Nat → UInt8} {R R' : Nat → Nat} {pc pc' : Nat} {S S' : Nat → Nat} {qc qc' : Nat} (h0 : HsAt U w sb bm br bb n f g R pc S qc) (h : HsAt V w' sb bm br bb n f' g' R' pc' S' qc') (hUV : ∀ k, U k → V k) : HsAt U w' sb bm br bb n f' g' R' pc' S' qc' :=
  ⟨⟨h.st.c0, h.st.c1, h.st.sbl, h.st.m.less hUV, h.st.r, h0.st.us, h0.st.ur, h0.st.ub, h0.st.ne⟩, h.hx, h.sat⟩
theorem sat_beside {w w' : World} {sb : Nat} {cs cs' : Array Value} {off : Nat} (hs : SbAt w sb) (hb : w.heap[sb]? = some (.cells cs 44 (0, 0))) (hb' : w'.heap[sb]? = some (.cells cs' 44 (0, 0))) (h : Beside cs cs' off) (ho : off + 33 ≤ 68) : SbAt w' sb := by
  obtain ⟨cz, h1, h2, h3⟩ := hs
  rw [hb] at h1
  injection h1 with h1
  injection h1 with h1
  subst h1
  exact ⟨cs', hb', by rw [h.1]; exact h2, fun j h4 h5 => by rw [h.2 j (Or.inr (by omega))]; exact h3 j h4 h5⟩
theorem sat_ne {w : World} {sb br bb n : Nat} {f : Nat → UInt8} (h : SbAt w sb) (hr : RefAt w br bb n f) : sb ≠ br := by
  obtain ⟨cs, h1, h2, _⟩ := h
  intro e
  have h3 := hr.r
  rw [← e, h1] at h3
  simp at h3
/-- The program's step. -/
theorem HsAt.prog {U : Nat → Prop} {w : World} {sb bm br bb n : Nat} {f g : Nat → UInt8} {R : Nat → Nat} {pc : Nat} {S : Nat → Nat} {qc : Nat} (h : HsAt U w sb bm br bb n f g R pc S qc) (hus : UsesAt w) (hmi : MisAt w) (hfo : FormsAt w) (hr : RegOk R pc) (root : Int) :
    Calls Tryz.prog 53 #[.pointer (some ⟨bm, 0, none⟩), .int .i64 root, .pointer (some ⟨sb, 2, none⟩)] w fun e w' =>
      (∀ c t, stepF f n root R pc = .error (c, t) → e = .returned (.agg (evC true c t)) ∧ Only (fun _ => False) w w') ∧
      (∀ f' R' pc', stepF f n root R pc = .ok (f', R', pc') → e = .returned (.agg (evC false 0 0)) ∧ HsAt U w' sb bm br bb n f' g R' pc' S qc ∧ Only (fun k => ¬ U k ∨ k = sb) w w') := by
  obtain ⟨cs, h1, h2⟩ := h.hx
  have hne := sat_ne h.sat h.st.r
  refine (step_any h.st.m hus hmi hfo h1 h.st.us hr.2 hr.1 root).mono ?_
  rintro e w' (⟨c, t, he, rfl, ho⟩ | ⟨f1, R1, p1, he, rfl, hm, ⟨cs', hc', hb⟩, ho⟩)
  · refine ⟨fun c' t' he' => ?_, fun f' R' pc' he' => ?_⟩
    · rw [he] at he'
      injection he' with he'
      injection he' with e1 e2
      subst e1 e2
      exact ⟨rfl, ho⟩
    · rw [he] at he'; cases he'
  · refine ⟨fun c' t' he' => ?_, fun f' R' pc' he' => ?_⟩
    · rw [he] at he'; cases he'
    · rw [he] at he'
      injection he' with he'
      injection he' with e1 e2
      injection e2 with e2 e3
      subst e1 e2 e3
      have hc : ∀ j, w'.cell? ⟨sb, j, none⟩ = cs'[j]? := fun j => cell_of_row _ _ j _ _ (0, 0) hc'.b
      have hc0 : ∀ j, w.cell? ⟨sb, j, none⟩ = cs[j]? := fun j => cell_of_row _ _ j _ _ (0, 0) h1.b
      refine ⟨rfl, ⟨⟨?_, ?_, lt_of_some hc'.b, hm, h.st.r.only ho ?_ ?_, h.st.us, h.st.ur, h.st.ub, h.st.ne⟩, ⟨cs', hc', hc'.b, fun i hi => ?_, ?_⟩, sat_beside h.sat h1.b hc'.b hb (by decide)⟩, ho⟩
      · rw [hc, hb.2 0 (Or.inl (by decide)), ← hc0]; exact h.st.c0
      · rw [hc, hb.2 1 (Or.inl (by decide)), ← hc0]; exact h.st.c1
      · rintro (hx | hx)
        · exact hx h.st.ur
        · exact hne hx.symm
      · rintro (hx | hx)
        · exact hx h.st.ub
        · exact h.st.ne hx.symm
      · rw [hb.2 _ (Or.inr (by omega))]; exact h2.r i hi
      · rw [hb.2 _ (Or.inr (by omega))]; exact h2.p
/-- The document's step. -/
theorem HsAt.doc {U : Nat → Prop} {w : World} {sb bm br bb n : Nat} {f g : Nat → UInt8} {R : Nat → Nat} {pc : Nat} {S : Nat → Nat} {qc : Nat} (h : HsAt U w sb bm br bb n f g R pc S qc) (hr : RegOk S qc) (h0 : S 0 = 0) (root : Int) :
    Calls Tryz.prog 54 #[.pointer (some ⟨br, 0, none⟩), .int .i64 root, .pointer (some ⟨sb, 35, none⟩)] w fun e w' =>
      (∀ c t, stepF g n root S qc = .error (c, t) → e = .returned (.agg (evC true c t)) ∧ Only (fun _ => False) w w') ∧
      (∀ g' S' qc', stepF g n root S qc = .ok (g', S', qc') → e = .returned (.agg (evC false 0 0)) ∧ HsAt U w' sb bm br bb n f g' R pc S' qc' ∧ Only (fun k => k = bb ∨ k = sb) w w') := by
  obtain ⟨cs, h1, h2⟩ := h.hx
  have hne := sat_ne h.sat h.st.r
  refine (doc_any h.st.r h2 ⟨hne, h.st.ne⟩ hr.2 hr.1 h0 root).mono ?_
  rintro e w' (⟨c, t, he, rfl, ho⟩ | ⟨f1, R1, p1, he, rfl, hm, ⟨cs', hc', hb⟩, ho⟩)
  · refine ⟨fun c' t' he' => ?_, fun f' R' pc' he' => ?_⟩
    · rw [he] at he'
      injection he' with he'
      injection he' with e1 e2
      subst e1 e2
      exact ⟨rfl, ho⟩
    · rw [he] at he'; cases he'
  · refine ⟨fun c' t' he' => ?_, fun f' R' pc' he' => ?_⟩
    · rw [he] at he'; cases he'
    · rw [he] at he'
      injection he' with he'
      injection he' with e1 e2
      injection e2 with e2 e3
      subst e1 e2 e3
      have hc : ∀ j, w'.cell? ⟨sb, j, none⟩ = cs'[j]? := fun j => cell_of_row _ _ j _ _ (0, 0) hc'.b
      have hc0 : ∀ j, w.cell? ⟨sb, j, none⟩ = cs[j]? := fun j => cell_of_row _ _ j _ _ (0, 0) h1.b
      refine ⟨rfl, ⟨⟨?_, ?_, lt_of_some hc'.b, h.st.m.only ho ?_, hm, h.st.us, h.st.ur, h.st.ub, h.st.ne⟩, ⟨cs', ⟨hc'.b, fun i hi => ?_, ?_⟩, hc'⟩, sat_beside h.sat h1.b hc'.b hb (by decide)⟩, ho⟩
      · rw [hc, hb.2 0 (Or.inl (by decide)), ← hc0]; exact h.st.c0
      · rw [hc, hb.2 1 (Or.inl (by decide)), ← hc0]; exact h.st.c1
      · intro k hk _
        rcases hk with rfl | rfl
        · exact h.st.ub
        · exact h.st.us
      · rw [hb.2 _ (Or.inl (by omega))]; exact h1.r i hi
      · rw [hb.2 _ (Or.inl (by omega))]; exact h1.p
/-- Where one step of both leads: the event, and what stands then. -/
theorem HsAt.both {U : Nat → Prop} {w : World} {sb bm br bb n : Nat} {f : Nat → UInt8} {R : Nat → Nat} {pc : Nat} (h : HsAt U w sb bm br bb n f f R pc R pc) (hus : UsesAt w) (hmi : MisAt w) (hfo : FormsAt w) (hg : U 0 ∧ U 1 ∧ U 2) (hr : RegOk R pc) (h0 : R 0 = 0) (root : Int) :
    ∃ (b : Bool) (c : Int) (t : Nat) (f1 : Nat → UInt8) (R1 : Nat → Nat) (pc1 : Nat), RegOk R1 pc1 ∧ R1 0 = 0 ∧
      (∀ wv, Only (fun _ => False) w wv → Calls Tryz.prog 53 #[.pointer (some ⟨bm, 0, none⟩), .int .i64 root, .pointer (some ⟨sb, 2, none⟩)] wv fun e w' => e = .returned (.agg #[.bool b, .int .i64 c, .int .u32 (t : Int)]) ∧ RowKit.Hid (HsAt (fun k => U k ∨ (w.heap.size ≤ k ∧ k < wv.heap.size)) w' sb bm br bb n f1 f R1 pc1 R pc ∧ Only (fun k => ¬ U k ∨ k = sb) w w' ∧ (∀ k, w.heap.size ≤ k → k < wv.heap.size → w'.heap[k]? = wv.heap[k]?) ∧ wv.heap.size ≤ w'.heap.size)) ∧
      (∀ V w2, HsAt V w2 sb bm br bb n f1 f R1 pc1 R pc → Calls Tryz.prog 54 #[.pointer (some ⟨br, 0, none⟩), .int .i64 root, .pointer (some ⟨sb, 35, none⟩)] w2 fun e w' => e = .returned (.agg #[.bool b, .int .i64 c, .int .u32 (t : Int)]) ∧ RowKit.Hid (HsAt V w' sb bm br bb n f1 f1 R1 pc1 R1 pc1 ∧ Only (fun k => k = bb ∨ k = sb) w2 w')) := by
  cases hs : stepF f n root R pc with
  | error ct =>
    obtain ⟨c, t⟩ := ct
    refine ⟨true, c, t, f, R, pc, hr, h0, fun wv hv => ?_, fun V w2 h2 => ?_⟩
    · refine ((h.only hv).prog (hus.only hv (fun h => h)) (hmi.only hv (fun h => h)) (hfo.only hv (fun h => h)) hr root).mono ?_
      rintro e w' ⟨h1, _⟩
      obtain ⟨rfl, ho⟩ := h1 c t hs
      exact ⟨rfl, (h.more hv).only ho, (hv.trans ho).mono (fun _ _ h => h.elim), fun k _ hk => ho.block k hk (fun h => h), ho.size⟩
    · refine (h2.doc hr h0 root).mono ?_
      rintro e w' ⟨h1, _⟩
      obtain ⟨rfl, ho⟩ := h1 c t hs
      exact ⟨rfl, h2.only ho, ho.mono (fun _ _ h => h.elim)⟩
  | ok r =>
    obtain ⟨f1, R1, pc1⟩ := r
    obtain ⟨hr1, h01⟩ := step_ok hr hs
    refine ⟨false, 0, 0, f1, R1, pc1, hr1, h01.trans h0, fun wv hv => ?_, fun V w2 h2 => ?_⟩
    · refine ((h.more hv).prog (hus.only hv (fun h => h)) (hmi.only hv (fun h => h)) (hfo.only hv (fun h => h)) hr root).mono ?_
      rintro e w' ⟨_, h1⟩
      obtain ⟨rfl, hh, ho⟩ := h1 f1 R1 pc1 hs
      have hsb := h.st.sbl
      refine ⟨rfl, hh, (hv.mono (fun _ _ h => h.elim)).trans (ho.mono (fun k _ hk => ?_)), fun k hk1 hk2 => ho.block k hk2 (fun hx => ?_), ho.size⟩
      · rcases hk with hk | hk
        · exact Or.inl (fun hu => hk (Or.inl hu))
        · exact Or.inr hk
      · rcases hx with hx | hx
        · exact hx (Or.inr ⟨hk1, hk2⟩)
        · omega
    · refine (h2.doc hr h0 root).mono ?_
      rintro e w' ⟨_, h1⟩
      obtain ⟨rfl, hh, ho⟩ := h1 f1 R1 pc1 hs
      exact ⟨rfl, hh, ho⟩
/-- A block beside is written. -/
theorem HsAt.side {U : Nat → Prop} {w w' : World} {sb bm br bb n : Nat} {f g : Nat → UInt8} {R : Nat → Nat} {pc : Nat} {S : Nat → Nat} {qc : Nat} (h : HsAt U w sb bm br bb n f g R pc S qc) {eb : Nat} (ho : Only (fun k => k = eb) w w') (hu : U eb) (h1 : sb ≠ eb) (h2 : br ≠ eb) (h3 : bb ≠ eb) : HsAt U w' sb bm br bb n f g R pc S qc := by
  obtain ⟨cs, hc, hd⟩ := h.hx
  exact ⟨⟨by rw [ho.cell (p := ⟨sb, 0, none⟩) h.st.sbl h1]; exact h.st.c0, by rw [ho.cell (p := ⟨sb, 1, none⟩) h.st.sbl h1]; exact h.st.c1, Nat.lt_of_lt_of_le h.st.sbl ho.size, h.st.m.only ho (fun k hk _ => by rw [hk]; exact hu), h.st.r.only ho h2 h3, h.st.us, h.st.ur, h.st.ub, h.st.ne⟩, ⟨cs, hc.only ho h1, hd.only ho h1⟩, h.sat.only ho h1⟩
theorem ev3_cells {w : World} {eb : Nat} {a b c : Value} {T : TypeId} (h : w.heap[eb]? = some (.cells #[a, b, c] T (0, 0))) : (w.cell? ⟨eb, 0, none⟩ = some a ∧ w.cell? ⟨eb, 1, none⟩ = some b ∧ w.cell? ⟨eb, 2, none⟩ = some c) ∧ ∀ j, w.frozen? ⟨eb, j, none⟩ = false :=
  ⟨⟨(cell_of_row _ _ 0 _ _ (0, 0) h).trans rfl, (cell_of_row _ _ 1 _ _ (0, 0) h).trans rfl, (cell_of_row _ _ 2 _ _ (0, 0) h).trans rfl⟩, fun j => by simp [World.frozen?, h]⟩
theorem ev3_set {w : World} {eb : Nat} {a b c : Value} {T : TypeId} (h : w.heap[eb]? = some (.cells #[a, b, c] T (0, 0))) (x y z : Value) : (((w.setCell ⟨eb, 0, none⟩ x).setCell ⟨eb, 1, none⟩ y).setCell ⟨eb, 2, none⟩ z).heap[eb]? = some (.cells #[x, y, z] T (0, 0)) ∧ Only (fun k => k = eb) w (((w.setCell ⟨eb, 0, none⟩ x).setCell ⟨eb, 1, none⟩ y).setCell ⟨eb, 2, none⟩ z) :=
  ⟨heap_setCell_same _ _ 2 _ _ z (heap_setCell_same _ _ 1 _ _ y (heap_setCell_same _ _ 0 _ _ x h)), ((only_cell w ⟨eb, 0, none⟩ x).trans (only_cell _ ⟨eb, 1, none⟩ y)).trans (only_cell _ ⟨eb, 2, none⟩ z)⟩
end Go.Proofs.YtflmobffeeocdaaGreatDoor

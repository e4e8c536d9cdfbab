/- A region that draws its order, and whose last operation waits for all others: the others go in whatever order ahead of it. -/
import Derived.Test.YtgacifbpjdakaaaGreatDoorM0
import Derived.OrdersHeld
import Derived.Deep.RegionHeld3
namespace Go.Vx
set_option linter.unusedVariables false
variable {P : Program} {ops : Array Oper} {Q Q' : Exit → Act → World → Prop} {md : Region.Mode}
/-- An operation that is not wanted. -/
def offO (n : Nat) (o : Oper) : Oper := { o with dst := none, guard := some (n, true) }
def offA (ops : Array Oper) (L : Nat) (o : Oper) : Array Oper := ops.setIfInBounds L (offO ops.size o)
theorem wp_post {o : Oper} {a : Act} {w : World} {K : Act → World → Prop} (hp : ∀ c a w, Q' (.panic c) a w → Q (.panic c) a w) (ho : ∀ a w, Q' .outgrown a w → Q .outgrown a w) (h : Oper.wp P o a w K Q') : Oper.wp P o a w K Q := by
  have hl : LetsOut Q' → LetsOut Q := fun ⟨a, w, h⟩ => ⟨a, w, ho a w h⟩
  unfold Oper.wp at h ⊢
  generalize (execOp a.eval o).run P w = r at h ⊢
  cases r with
  | ok n w' =>
    cases n <;> simp only [Oper.upon] at h ⊢ <;> first | exact h | skip
    all_goals
      refine Calls.mono h (fun e w'' he => ?_)
      cases e with
      | returned u => exact he
      | panicked c => exact hp _ _ _ he
      | outgrown => exact hl he
  | halt x w' =>
    cases x <;> simp only [Oper.upon] at h ⊢ <;> first | exact h | exact hp _ _ _ h
theorem ready_off {L : Nat} {oL : Oper} (hL : ops[L]? = some oL) (listed : Array Bool) : Region.ready md (offA ops L oL) listed = Region.ready md ops listed := by
  have hlt : L < ops.size := (Array.getElem?_eq_some_iff.1 hL).1
  unfold Region.ready offA
  rw [Array.size_setIfInBounds]
  congr 1
  funext j
  rw [Array.getElem?_setIfInBounds]
  by_cases h : L = j
  · subst h
    rw [if_pos rfl, if_pos hlt, hL]
    rfl
  · rw [if_neg h]
theorem off_other {L : Nat} {oL : Oper} {j : Nat} (h : L ≠ j) : (offA ops L oL)[j]? = ops[j]? := by
  unfold offA
  rw [Array.getElem?_setIfInBounds, if_neg h]
/-- The first that is not listed may come up. -/
theorem ready_some (hT : ∀ (j : Nat) (o : Oper), ops[j]? = some o → ∀ e ∈ o.after, e.on < j) (listed : Array Bool) : ∀ (n L : Nat), L ≤ n → L < ops.size → listed.size = ops.size → listed.getD L true = false → Region.ready md ops listed ≠ [] := by
  intro n
  induction n using Nat.strongRecOn with
  | ind n ih =>
    intro L hLn hLs hsz hun
    by_cases hr : L ∈ Region.ready md ops listed
    · intro e; rw [e] at hr; cases hr
    · rw [mem_ready] at hr
      have ho : ops[L]? = some ops[L] := Array.getElem?_eq_getElem hLs
      have hex : ∃ e ∈ ops[L].after, Region.binds md e = true ∧ ¬ listed.getD e.on false = true := by
        apply Classical.byContradiction
        intro hno
        refine hr ⟨hun, ops[L], ho, fun e he hb => ?_⟩
        apply Classical.byContradiction
        intro h9
        exact hno ⟨e, he, hb, h9⟩
      obtain ⟨e, he, _, hne⟩ := hex
      have hlt := hT L _ ho e he
      refine ih e.on (by omega) e.on (Nat.le_refl _) (by omega) hsz ?_
      have hes : e.on < listed.size := by omega
      simp only [Array.getD_eq_getD_getElem?, Array.getElem?_eq_getElem hes, Option.getD_some] at hne ⊢
      simpa using hne
/-- What is listed had all that it waits for listed. -/
def DownC (md : Region.Mode) (ops : Array Oper) (listed : Array Bool) : Prop := ∀ (k : Nat) (o : Oper), ops[k]? = some o → listed.getD k false = true → ∀ e ∈ o.after, Region.binds md e = true → listed.getD e.on false = true
theorem DownC.step {listed : Array Bool} (h : DownC md ops listed) {i : Nat} (hi : i ∈ Region.ready md ops listed) : DownC md ops (listed.setIfInBounds i true) := fun k o ho hk e he hb => by
  by_cases hik : i = k
  · subst hik
    obtain ⟨_, o9, ho9, hall⟩ := mem_ready.1 hi
    rw [ho] at ho9
    injection ho9 with ho9
    subst ho9
    exact getD_set_true (hall e he hb)
  · rw [getD_set_ne false hik] at hk
    exact getD_set_true (h k o ho hk e he hb)
theorem all_listed {L : Nat} {oL : Oper} {listed : Array Bool} (hL : ops[L]? = some oL) (hd : DownC md ops listed) (hw : ∀ j, j < ops.size → j ≠ L → ∃ (k : Nat) (o : Oper), j < k ∧ ops[k]? = some o ∧ ∃ e ∈ o.after, Region.binds md e = true ∧ e.on = j) (hr : L ∈ Region.ready md ops listed) :
    ∀ (n j : Nat), ops.size - j ≤ n → j < ops.size → j ≠ L → listed.getD j false = true := by
  intro n
  induction n with
  | zero => intro j h1 h2 _; omega
  | succ n ih =>
    intro j h1 h2 h3
    obtain ⟨k, o, hjk, ho, e, he, hb, hej⟩ := hw j h2 h3
    have hks : k < ops.size := (Array.getElem?_eq_some_iff.1 ho).1
    by_cases hkL : k = L
    · subst hkL
      obtain ⟨_, o9, ho9, hall⟩ := mem_ready.1 hr
      rw [ho] at ho9
      injection ho9 with ho9
      subst ho9
      have := hall e he hb
      rwa [hej] at this
    · have := hd k o ho (ih k (by omega) hks hkL) e he hb
      rwa [hej] at this
theorem wpAny_last {L : Nat} {oL : Oper} (hL : ops[L]? = some oL) (hg : oL.guard = none) (hG : ∀ (j : Nat) (o : Oper), ops[j]? = some o → o.guard = none) (hT : ∀ (j : Nat) (o : Oper), ops[j]? = some o → ∀ e ∈ o.after, e.on < j)
    (hw : ∀ j, j < ops.size → j ≠ L → ∃ (k : Nat) (o : Oper), j < k ∧ ops[k]? = some o ∧ ∃ e ∈ o.after, Region.binds md e = true ∧ e.on = j)
    (hn : ∀ a w, Q' .normal a w → Oper.wp P oL a w (Q .normal) Q) (hp : ∀ c a w, Q' (.panic c) a w → Q (.panic c) a w) (ho : ∀ a w, Q' .outgrown a w → Q .outgrown a w) :
    ∀ (fuel : Nat) (listed : Array Bool) (a : Act) (w : World), listed.size = ops.size → DownC md ops listed → listed.getD L true = false → wpAny P md (offA ops L oL) Q' fuel listed a w → wpAny P md ops Q fuel listed a w := by
  have hLs : L < ops.size := (Array.getElem?_eq_some_iff.1 hL).1
  have hl : LetsOut Q' → LetsOut Q := fun ⟨a, w, h⟩ => ⟨a, w, ho a w h⟩
  intro fuel
  induction fuel with
  | zero =>
    intro listed a w hsz hd hun h
    have h1 := h.1
    rw [ready_off hL] at h1
    exact absurd h1 (ready_some hT listed L L (Nat.le_refl _) hLs hsz hun)
  | succ fuel ih =>
    intro listed a w hsz hd hun h
    obtain ⟨h0, h1⟩ := h
    rw [ready_off hL] at h0 h1
    refine ⟨fun e => absurd e (ready_some hT listed L L (Nat.le_refl _) hLs hsz hun), fun i hi => ?_⟩
    have h2 := h1 i hi
    by_cases hiL : L = i
    · subst hiL
      -- all others are listed
      obtain ⟨_, o9, ho9, hall⟩ := mem_ready.1 hi
      have e9 : o9 = oL := by rw [hL] at ho9; injection ho9 with h; exact h.symm
      subst e9
      have hr : Region.ready md ops (listed.setIfInBounds L true) = [] := by
        rw [List.eq_nil_iff_forall_not_mem]
        intro j hj
        obtain ⟨hj0, oj, hoj, _⟩ := mem_ready.1 hj
        have hjs : j < ops.size := (Array.getElem?_eq_some_iff.1 hoj).1
        by_cases hjL : j = L
        · subst hjL
          have : j < listed.size := by omega
          simp [this] at hj0
        · have h5 := all_listed hL hd hw hi (ops.size - j) j (Nat.le_refl _) hjs hjL
          rw [getD_set_ne true (fun e => hjL e.symm)] at hj0
          have : j < listed.size := by omega
          simp [this] at h5 hj0
          rw [h5] at hj0
          cases hj0
      have h3 : wpAny P md (offA ops L o9) Q' fuel (listed.setIfInBounds L true) a w := by
        have e : (offA ops L o9)[L]? = some (offO ops.size o9) := by
          unfold offA
          rw [Array.getElem?_setIfInBounds, if_pos rfl, if_pos hLs]
        have hwn : Region.wanted (offO ops.size o9) (yielded (offA ops L o9) a.tmps) = false := by
          unfold offO Region.wanted yielded
          have : (offA ops L o9)[ops.size]? = none := by
            unfold offA
            rw [Array.getElem?_eq_none]
            simp
          simp [this]
        unfold wpOp at h2
        rw [e] at h2
        simp only [hwn] at h2
        exact h2
      have h4 : Q' .normal a w := by
        cases fuel with
        | zero => exact h3.2
        | succ f => exact h3.1 (by rw [ready_off hL]; exact hr)
      unfold wpOp
      rw [hL]
      have hwn : Region.wanted o9 (yielded ops a.tmps) = true := by unfold Region.wanted; rw [hg]
      simp only [hwn, if_true]
      refine Or.inl (Oper.wp_mono (fun a' w' hq => ?_) (hn a w h4))
      cases fuel with
      | zero => exact ⟨hr, hq⟩
      | succ f => exact ⟨fun _ => hq, by rw [hr]; intro _ h; cases h⟩
    · unfold wpOp at h2 ⊢
      rw [off_other hiL] at h2
      obtain ⟨_, oi, hoi, _⟩ := mem_ready.1 hi
      rw [hoi] at h2 ⊢
      have hwn : ∀ y, Region.wanted oi y = true := fun y => by unfold Region.wanted; rw [hG i oi hoi]
      simp only [hwn, if_true] at h2 ⊢
      refine h2.imp (fun h3 => ?_) (fun ⟨ha, hb⟩ => ⟨ha, hl hb⟩)
      refine wp_post hp ho (Oper.wp_mono (fun a' w' h5 => ?_) h3)
      exact ih _ a' w' (by rw [Array.size_setIfInBounds]; exact hsz) (hd.step hi) (by rw [getD_set_ne true (fun e => hiL e.symm)]; exact hun) h5
/-- The side conditions as a Bool. -/
def lastB (md : Region.Mode) (ops : Array Oper) (L : Nat) : Bool :=
  (List.range ops.size).all fun j => match ops[j]?, ops[L]? with
    | some o, some oL => o.guard.isNone && o.after.all (fun e => decide (e.on < j)) && (j == L || (List.range ops.size).any fun k => decide (j < k) && match ops[k]? with | some ok => ok.after.any (fun e => Region.binds md e && e.on == j) | none => false)
    | _, _ => false
theorem lastB_spec {L : Nat} {oL : Oper} (hL : ops[L]? = some oL) (h : lastB md ops L = true) : (∀ (j : Nat) (o : Oper), ops[j]? = some o → o.guard = none) ∧ (∀ (j : Nat) (o : Oper), ops[j]? = some o → ∀ e ∈ o.after, e.on < j) ∧ ∀ j, j < ops.size → j ≠ L → ∃ (k : Nat) (o : Oper), j < k ∧ ops[k]? = some o ∧ ∃ e ∈ o.after, Region.binds md e = true ∧ e.on = j := by
  unfold lastB at h
  rw [List.all_eq_true] at h
  have hx : ∀ (j : Nat) (o : Oper), ops[j]? = some o → (o.guard.isNone && o.after.all (fun e => decide (e.on < j)) && (j == L || (List.range ops.size).any fun k => decide (j < k) && match ops[k]? with | some ok => ok.after.any (fun e => Region.binds md e && e.on == j) | none => false)) = true := fun j o ho => by
    have := h j (List.mem_range.2 (Array.getElem?_eq_some_iff.1 ho).1)
    rw [ho, hL] at this
    exact this
  refine ⟨fun j o ho => ?_, fun j o ho e he => ?_, fun j hj hne => ?_⟩
  · have := hx j o ho
    simp only [Bool.and_eq_true] at this
    simpa using this.1.1
  · have := hx j o ho
    simp only [Bool.and_eq_true, Array.all_eq_true_iff_forall_mem] at this
    simpa using this.1.2 e he
  · have := hx j _ (Array.getElem?_eq_getElem hj)
    simp only [Bool.and_eq_true, Bool.or_eq_true, List.any_eq_true] at this
    rcases this.2 with h1 | ⟨k, hk, h2, h3⟩
    · exact absurd (by simpa using h1) hne
    · cases hok : ops[k]? with
      | none => rw [hok] at h3; cases h3
      | some ok =>
        rw [hok] at h3
        simp only [Array.any_eq_true', Bool.and_eq_true] at h3
        obtain ⟨e, he, h4, h5⟩ := h3
        exact ⟨k, ok, of_decide_eq_true h2, hok, e, he, h4, by simpa using h5⟩
/-- What is asked behind all but the last operation. -/
def upTo (P : Program) (oL : Oper) (Q : Exit → Act → World → Prop) : Exit → Act → World → Prop
  | .normal, a, w => Oper.wp P oL a w (Q .normal) Q
  | e, a, w => Q e a w
/-- The beginning. -/
theorem wp_region_last {S : World → Prop} (L : Nat) {oL : Oper} {id : Nat} {a : Act} {w : World} (hm : P.follows .mixedOrders = true) (hL : ops[L]? = some oL) (hB : lastB .any ops L = true)
    (h : wpAnyH P .any (offA ops L oL) (upTo P oL Q) S ops.size (Array.replicate ops.size false) a w.drew) : (Code.region id ops true).wp P Q a w := by
  obtain ⟨hG, hT, hw⟩ := lastB_spec hL hB
  have hLs : L < ops.size := (Array.getElem?_eq_some_iff.1 hL).1
  refine wp_region_any hm (wpAny_last hL (hG L oL hL) hG hT hw (Q' := upTo P oL Q) (fun a w h => h) (fun c a w h => h) (fun a w h => h) _ _ _ _ (by simp) (fun k o ho hk => by exfalso; have hks : k < ops.size := (Array.getElem?_eq_some_iff.1 ho).1; simp [hks] at hk) (by simp [hLs]) (wpAny_of_held _ _ _ _ h))
end Go.Vx

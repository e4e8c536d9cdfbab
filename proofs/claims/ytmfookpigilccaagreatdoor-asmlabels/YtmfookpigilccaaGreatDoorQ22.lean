/- AsmRound: the walk. -/
import Derived.Test.YtmfookpigilccaaGreatDoorQ21
namespace Go.Vx
theorem join_snoc : ∀ (ls : List (List UInt8)), joinB (ls ++ [[]]) = ls.flatMap (fun l => l ++ [10])
  | [] => rfl
  | [l] => by simp [joinB]
  | l :: l2 :: ls => by
    have h := join_snoc (l2 :: ls)
    rw [List.cons_append] at h
    rw [List.cons_append, List.cons_append, joinB, h]
    simp
end Go.Vx
namespace Go.Proofs.YtmfookpigilccaaGreatDoor
open Go.ChangeShapes Go.WideShapes Go.ChangeAt Go.RowKit Go.Maps
open Go.Vx (strV labN tokB Only Ins insV Stm stToks stOk stLen wordOf dec tokF fourB accT lenT joinB)

theorem fourK_any (x : Nat) (hx : x < 4294967296) (w : World) :
    Calls Tryz.prog 9 #[.int .u32 (x : Int)] w fun e w' => e = .returned (.string ⟨(fourB x).toArray⟩) ∧ Below w.heap.size w w' := by
  have h4 := four_cells (x : Int) (by omega) (by omega)
  have e4 : wordsB [(x : Int)] = fourB x := by simp [wordsB]
  rw [e4] at h4
  have hl : (fourB x).length = 4 := rfl
  have hcv : ∀ wv : World, (convert 47 9 (.slice (some ⟨wv.heap.size, 0, none⟩) 4 4)).run Tryz.prog (wv.alloc (.cells #[.int .u8 ((x : Int) % 256), .int .u8 ((x : Int) / 256 % 256), .int .u8 ((x : Int) / 65536 % 256), .int .u8 ((x : Int) / 16777216 % 256)] 5)) = .ok (.string ⟨(fourB x).toArray⟩) (wv.alloc (.cells #[.int .u8 ((x : Int) % 256), .int .u8 ((x : Int) / 256 % 256), .int .u8 ((x : Int) / 65536 % 256), .int .u8 ((x : Int) / 16777216 % 256)] 5)) := by
    intro wv
    refine run_convert_bytes_back (P := Tryz.prog) _ 47 9 5 ⟨wv.heap.size, 0, none⟩ 4 (fourB x) Tryz.underlying47 Tryz.underlying5 Tryz.underlying9 (fun j hj => ?_)
    have hg : ((fourB x).map u8V)[j]? = some (u8V (fourB x)[j]) := by rw [List.getElem?_map, List.getElem?_eq_getElem hj]; rfl
    rw [← h4] at hg
    rw [Vx.add_off, World.cell?_alloc_new, ← Array.getElem?_toList]
    exact hg
  clear h4 e4 hl hx
  go_enter Tryz.func9, Tryz.ntmps9
  go_wp2
  go_ret
  exact ⟨rfl, (Below.refl _ _).alloc (Nat.le_refl _) _⟩

/-- The text of words; their bytes. -/
def flatW (ws : List Nat) : List UInt8 := ws.flatMap fun x => textW x ++ [10]
def flatB (ws : List Nat) : List UInt8 := ws.flatMap fourB
theorem flatW_snoc (ws : List Nat) (x : Nat) : flatW (ws ++ [x]) = flatW ws ++ textW x ++ [10] := by simp [flatW]
theorem flatB_snoc (ws : List Nat) (x : Nat) : flatB (ws ++ [x]) = flatB ws ++ fourB x := by simp [flatB]
theorem flatB_len (ws : List Nat) : (flatB ws).length = 4 * ws.length := by
  induction ws with
  | nil => rfl
  | cons x ws ih =>
    have : flatB (x :: ws) = fourB x ++ flatB ws := by simp [flatB]
    rw [this, List.length_append, ih, List.length_cons]
    show 4 + _ = _
    omega
theorem flatW_len (ws : List Nat) (h : ∀ x ∈ ws, x < 4294967296) : (flatW ws).length ≤ 61 * ws.length := by
  induction ws with
  | nil => simp [flatW]
  | cons x ws ih =>
    have h1 := ih (fun y hy => h y (List.mem_cons_of_mem _ hy))
    have h2 := (plain_word x (h x (List.mem_cons_self ..))).2.2
    have : flatW (x :: ws) = textW x ++ [10] ++ flatW ws := by simp [flatW]
    rw [this, List.length_append, List.length_append, List.length_cons, List.length_cons, List.length_nil]
    omega
/-- Assemble at the texts of words. -/
theorem asm_words (ws : List Nat) (hne : ws ≠ []) (hlen : ws.length ≤ 301) (hw : ∀ x ∈ ws, x < 4294967296) (mx : Int) (w : World) (hm : MaxAt mx w) (hF : FormsAt w) (hg : 1 < w.heap.size) :
    Calls Tryz.prog 6 #[.string ⟨(flatW ws).toArray⟩] w fun e w' => e = .returned (.tuple #[.string ⟨(flatB ws).toArray⟩, .int .i64 0, .int .i64 0]) ∧ Only (fun _ => False) w w' := by
  have hl0 : 0 < ws.length := List.length_pos_iff.2 hne
  have hj : joinB (ws.map textW ++ [[]]) = flatW ws := by
    rw [Vx.join_snoc]
    unfold flatW
    rw [List.flatMap_map]
  have hlenT : ∀ k (hk : k < (accT (ws.map stmW ++ [Stm.no]) 0).length), ((accT (ws.map stmW ++ [Stm.no]) 0)[k]).2 ≤ 1000000 ∧ ((accT (ws.map stmW ++ [Stm.no]) 0)[k]).1 = (ws.map stmW ++ [Stm.no])[k]'(by rw [Vx.accT_len] at hk; exact hk) := by
    have hgen : ∀ (ss : List Stm) (a k : Nat) (hk : k < (accT ss a).length), ((accT ss a)[k]).2 ≤ a + 4 * k ∧ ((accT ss a)[k]).1 = ss[k]'(by rw [Vx.accT_len] at hk; exact hk) := by
      intro ss
      induction ss with
      | nil => intro a k hk; simp [accT] at hk
      | cons s ss ih =>
        intro a k hk
        cases k with
        | zero => exact ⟨by simp [accT], by simp [accT]⟩
        | succ k =>
          have h := ih (a + stLen s) k (by simpa [accT] using hk)
          have h4 : stLen s ≤ 4 := by cases s using Vx.Stm.cs <;> simp [stLen]
          simp only [accT, List.getElem_cons_succ]
          exact ⟨by have := h.1; omega, h.2⟩
    intro k hk
    have h := hgen _ 0 k hk
    have hk2 : k < ws.length + 1 := by rw [Vx.accT_len] at hk; simpa using hk
    exact ⟨by have := h.1; omega, h.2⟩
  have hA : Asm (ws.map textW ++ [[]]) (ws.map stmW ++ [Stm.no]) (fun _ => 0) (fun _ => .map []) := by
    refine ⟨by simp, by simp, by simp; omega, ?_, ?_, rfl, rfl, ?_⟩
    · intro l hl
      rw [List.mem_append, List.mem_map, List.mem_singleton] at hl
      rcases hl with ⟨x, hx, rfl⟩ | rfl
      · exact (plain_word x (hw x hx)).1
      · simp
    · rw [hj]
      have := flatW_len ws hw
      omega
    · intro mx pb mb base sb rb k hk w h
      have hk2 : k < ws.length + 1 := by simpa using hk
      have hap : (accT ((ws.map stmW ++ [Stm.no]).take k) 0).length ≤ 30000 := by rw [Vx.accT_len]; simp; omega
      have hL : lenT ((ws.map stmW ++ [Stm.no]).take k) ≤ 1000000 := by
        have := Vx.lenT_le ((ws.map stmW ++ [Stm.no]).take k)
        rw [List.length_take] at this
        omega
      by_cases hkl : k < ws.length
      · have e1 : (ws.map textW ++ [[]])[k] = textW ws[k] := by rw [List.getElem_append_left (by simpa using hkl)]; simp
        have e2 : (ws.map stmW ++ [Stm.no])[k]'(by simpa using hk2) = stmW ws[k] := by rw [List.getElem_append_left (by simpa using hkl)]; simp
        have hx := hw ws[k] (List.getElem_mem _)
        obtain ⟨_, p2, p3⟩ := plain_word _ hx
        obtain ⟨l1, l2⟩ := lab_word _ hx
        have hr := read_plain (textW ws[k]) (by omega) p2 (stmW ws[k]) (ok_word _ hx) (tok_word _ hx) l1 l2 mx pb mb base _ 0 (.map []) _ hL hap w h.max h.pr
        rw [e1, e2]
        exact hr
      · have hke : k = ws.length := by omega
        have e1 : (ws.map textW ++ [[]])[k] = [] := by subst hke; rw [List.getElem_append_right (by simp)]; simp
        have e2 : (ws.map stmW ++ [Stm.no])[k]'(by simpa using hk2) = .no := by subst hke; rw [List.getElem_append_right (by simp)]; simp
        have hr := read_plain [] (by simp) (by simp) .no trivial (by simp [Vx.tokF_nil, stToks]) (fun t ht => by simp [stToks] at ht) (by simp [stToks]) mx pb mb base _ 0 (.map []) _ hL hap w h.max h.pr
        rw [e1, e2]
        exact hr
  have h := assemble_ok (ws.map textW ++ [[]]) (ws.map stmW ++ [Stm.no]) (fun _ => 0) (fun _ => .map []) hA (fun k => ((ws.drop k).take 1).map (fun (x : Nat) => (x : Int))) (fun k => by simp; omega) (fun k x hx => by
      rw [List.mem_map] at hx
      obtain ⟨y, hy, rfl⟩ := hx
      have := hw y (List.mem_of_mem_drop (List.mem_of_mem_take hy))
      omega) ?_ (fun k hk => (hlenT k hk).1) (fun k => flatB (ws.take k)) rfl ?_ (fun k hk => by rw [flatB_len, List.length_take]; omega) ?_ mx w hm hF hg
  · have e : flatB (ws.take (ws.map stmW ++ [Stm.no]).length) = flatB ws := by rw [List.take_of_length_le (by simp)]
    rw [hj] at h
    simp only [e] at h
    exact h
  · intro k hk
    have hk2 : k < ws.length + 1 := by rw [Vx.accT_len] at hk; simpa using hk
    rw [(hlenT k hk).2]
    by_cases hkl : k < ws.length
    · have e2 : (ws.map stmW ++ [Stm.no])[k]'(by simpa using hk2) = stmW ws[k] := by rw [List.getElem_append_left (by simpa using hkl)]; simp
      have e3 : ((ws.drop k).take 1).map (fun (x : Nat) => (x : Int)) = [((ws[k] : Nat) : Int)] := by rw [List.drop_eq_getElem_cons hkl]; rfl
      rw [e2, e3]
      exact enc_word _ (hw _ (List.getElem_mem _)) _ _
    · have hke : k = ws.length := by omega
      have e2 : (ws.map stmW ++ [Stm.no])[k]'(by simpa using hk2) = .no := by subst hke; rw [List.getElem_append_right (by simp)]; simp
      have e3 : ((ws.drop k).take 1).map (fun (x : Nat) => (x : Int)) = [] := by rw [List.drop_of_length_le (by omega)]; rfl
      rw [e2, e3]
      exact rfl
  · intro k
    show flatB (ws.take (k + 1)) = flatB (ws.take k) ++ wordsB (((ws.drop k).take 1).map (fun (x : Nat) => (x : Int)))
    by_cases hkl : k < ws.length
    · have e3 : ((ws.drop k).take 1).map (fun (x : Nat) => (x : Int)) = [((ws[k] : Nat) : Int)] := by rw [List.drop_eq_getElem_cons hkl]; rfl
      rw [Vx.take_snoc ws k hkl, flatB_snoc, e3]
      simp [wordsB]
    · rw [List.take_of_length_le (by omega), List.take_of_length_le (by omega), List.drop_of_length_le (by omega)]
      simp [wordsB]
  · show flatB (ws.take _) ≠ []
    rw [List.take_of_length_le (by simp)]
    intro e
    have := flatB_len ws
    rw [e] at this
    simp at this
    omega
end Go.Proofs.YtmfookpigilccaaGreatDoor

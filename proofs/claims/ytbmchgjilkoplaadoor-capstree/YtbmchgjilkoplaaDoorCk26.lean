import Derived.Test.YtbmchgjilkoplaaDoorCk25
/- Chapter 7, the program's store: full, empty. -/
namespace Go.Proofs.YtbmchgjilkoplaaDoor
open Go.ChangeShapes Go.WideShapes Go.ChangeAt Go.RowKit
open Go.Vx
set_option linter.unusedVariables false
variable {U : Nat → Prop} {w : World} {xb mb : Nat} {D : DataW Value} {G : Int → Nat} {bs : List (Int × Int)} {Q : Sl → Pl}

theorem xfull_at (h : XsAt U w xb mb D G bs Q) (b : Int) (hb : I64 b) (k : Nat) (n : Int) (hn : sizeF bs b = some n) (hk : (k : Int) < n) (hq : (Q (b, (k : Int))).1.kind ≠ 0) :
    Calls Tryd.prog 52 #[.pointer (some ⟨xb, 0, none⟩), .agg #[.int .i64 b, .int .i64 (k : Int)]] w fun e w' => e = .returned (.tuple #[.pointer (some ⟨G b, k * 10, none⟩), .int .i64 0]) ∧ Only (fun _ => False) w w' := by
  have HX := Vx.hid h
  have HC : Hid (∀ w2, Only (fun _ => False) w w2 → Calls Tryd.prog 72 #[.pointer (some ⟨xb, 0, none⟩), .agg #[.int .i64 b, .int .i64 (k : Int)]] w2 fun e w' => e = .returned (.tuple #[.pointer (some ⟨G b, k * 10, none⟩), .int .i64 0]) ∧ Only (fun _ => False) w2 w') := fun w2 ho => there_at (h.quiet ho) b hb k n hn hk
  have HP : Hid (∀ w2, Only (fun _ => False) w w2 → P10 w2 (G b) k (Q (b, (k : Int)))) := fun w2 ho => (h.quiet ho).p10 hn k hk
  have HF : Hid (∀ w2, Calls Tryd.prog 51 #[.agg #[.int .i64 (Q (b, (k : Int))).1.kind, .int .i64 (Q (b, (k : Int))).1.num, .int .i64 (Q (b, (k : Int))).1.rights, .int .u32 (Q (b, (k : Int))).1.badge, .int .u32 (Q (b, (k : Int))).1.guard, .int .i64 (Q (b, (k : Int))).1.gbits, .int .i64 (Q (b, (k : Int))).1.root, .int .u32 (Q (b, (k : Int))).1.va, .int .i64 (Q (b, (k : Int))).2.1, .int .i64 (Q (b, (k : Int))).2.2]] w2 fun e w' => e = .returned (.bool true) ∧ Only (fun _ => False) w2 w') := fun w2 => by
    refine (isFull_ok (Q (b, (k : Int))) w2).mono ?_
    rintro e w' ⟨rfl, h2⟩
    exact ⟨by simp [hq], h2⟩
  have HO : Hid (∀ o, Only (fun _ => False) w (w.alloc o)) := fun o => (Only.refl _ w).alloc o
  clear h hn hk hb hq
  go_enter Tryd.func52, Tryd.ntmps52
  go_wp2_with fail
  refine (HC.out _ (HO.out _)).mono ?_
  rintro e w2 ⟨rfl, h2⟩
  have H2 : Hid (Only (fun _ => False) w w2) := (HO.out _).trans h2
  obtain ⟨c0, c1, c2, c3, c4, c5, c6, c7, c8, c9⟩ := HP.out w2 H2.out
  clear h2
  go_wp2_with fail
  refine (HF.out _).mono ?_
  rintro e w3 ⟨rfl, h3⟩
  have H3 : Hid (Only (fun _ => False) w w3) := H2.out.trans h3
  clear h3
  go_wp2_with fail
  all_goals
    go_ret2
    exact ⟨rfl, H3.out⟩
theorem xfull_no (h : XsAt U w xb mb D G bs Q) (b : Int) (hb : I64 b) (k : Nat) (n : Int) (hn : sizeF bs b = some n) (hk : (k : Int) < n) (hq : (Q (b, (k : Int))).1.kind = 0) :
    Calls Tryd.prog 52 #[.pointer (some ⟨xb, 0, none⟩), .agg #[.int .i64 b, .int .i64 (k : Int)]] w fun e w' => e = .returned (.tuple #[.pointer none, .int .i64 11]) ∧ Only (fun _ => False) w w' := by
  have HX := Vx.hid h
  have HC : Hid (∀ w2, Only (fun _ => False) w w2 → Calls Tryd.prog 72 #[.pointer (some ⟨xb, 0, none⟩), .agg #[.int .i64 b, .int .i64 (k : Int)]] w2 fun e w' => e = .returned (.tuple #[.pointer (some ⟨G b, k * 10, none⟩), .int .i64 0]) ∧ Only (fun _ => False) w2 w') := fun w2 ho => there_at (h.quiet ho) b hb k n hn hk
  have HP : Hid (∀ w2, Only (fun _ => False) w w2 → P10 w2 (G b) k (Q (b, (k : Int)))) := fun w2 ho => (h.quiet ho).p10 hn k hk
  have HF : Hid (∀ w2, Calls Tryd.prog 51 #[.agg #[.int .i64 (Q (b, (k : Int))).1.kind, .int .i64 (Q (b, (k : Int))).1.num, .int .i64 (Q (b, (k : Int))).1.rights, .int .u32 (Q (b, (k : Int))).1.badge, .int .u32 (Q (b, (k : Int))).1.guard, .int .i64 (Q (b, (k : Int))).1.gbits, .int .i64 (Q (b, (k : Int))).1.root, .int .u32 (Q (b, (k : Int))).1.va, .int .i64 (Q (b, (k : Int))).2.1, .int .i64 (Q (b, (k : Int))).2.2]] w2 fun e w' => e = .returned (.bool false) ∧ Only (fun _ => False) w2 w') := fun w2 => by
    refine (isFull_ok (Q (b, (k : Int))) w2).mono ?_
    rintro e w' ⟨rfl, h2⟩
    exact ⟨by simp [hq], h2⟩
  have HO : Hid (∀ o, Only (fun _ => False) w (w.alloc o)) := fun o => (Only.refl _ w).alloc o
  clear h hn hk hb hq
  go_enter Tryd.func52, Tryd.ntmps52
  go_wp2_with fail
  refine (HC.out _ (HO.out _)).mono ?_
  rintro e w2 ⟨rfl, h2⟩
  have H2 : Hid (Only (fun _ => False) w w2) := (HO.out _).trans h2
  obtain ⟨c0, c1, c2, c3, c4, c5, c6, c7, c8, c9⟩ := HP.out w2 H2.out
  clear h2
  go_wp2_with fail
  refine (HF.out _).mono ?_
  rintro e w3 ⟨rfl, h3⟩
  have H3 : Hid (Only (fun _ => False) w w3) := H2.out.trans h3
  clear h3
  go_wp2_with fail
  all_goals
    go_ret2
    exact ⟨rfl, H3.out⟩
theorem xempty_at (h : XsAt U w xb mb D G bs Q) (b : Int) (hb : I64 b) (k : Nat) (n : Int) (hn : sizeF bs b = some n) (hk : (k : Int) < n) (hq : (Q (b, (k : Int))).1.kind = 0) :
    Calls Tryd.prog 60 #[.pointer (some ⟨xb, 0, none⟩), .agg #[.int .i64 b, .int .i64 (k : Int)]] w fun e w' => e = .returned (.tuple #[.pointer (some ⟨G b, k * 10, none⟩), .int .i64 0]) ∧ Only (fun _ => False) w w' := by
  have HX := Vx.hid h
  have HC : Hid (∀ w2, Only (fun _ => False) w w2 → Calls Tryd.prog 72 #[.pointer (some ⟨xb, 0, none⟩), .agg #[.int .i64 b, .int .i64 (k : Int)]] w2 fun e w' => e = .returned (.tuple #[.pointer (some ⟨G b, k * 10, none⟩), .int .i64 0]) ∧ Only (fun _ => False) w2 w') := fun w2 ho => there_at (h.quiet ho) b hb k n hn hk
  have HP : Hid (∀ w2, Only (fun _ => False) w w2 → P10 w2 (G b) k (Q (b, (k : Int)))) := fun w2 ho => (h.quiet ho).p10 hn k hk
  have HF : Hid (∀ w2, Calls Tryd.prog 51 #[.agg #[.int .i64 (Q (b, (k : Int))).1.kind, .int .i64 (Q (b, (k : Int))).1.num, .int .i64 (Q (b, (k : Int))).1.rights, .int .u32 (Q (b, (k : Int))).1.badge, .int .u32 (Q (b, (k : Int))).1.guard, .int .i64 (Q (b, (k : Int))).1.gbits, .int .i64 (Q (b, (k : Int))).1.root, .int .u32 (Q (b, (k : Int))).1.va, .int .i64 (Q (b, (k : Int))).2.1, .int .i64 (Q (b, (k : Int))).2.2]] w2 fun e w' => e = .returned (.bool false) ∧ Only (fun _ => False) w2 w') := fun w2 => by
    refine (isFull_ok (Q (b, (k : Int))) w2).mono ?_
    rintro e w' ⟨rfl, h2⟩
    exact ⟨by simp [hq], h2⟩
  have HO : Hid (∀ o, Only (fun _ => False) w (w.alloc o)) := fun o => (Only.refl _ w).alloc o
  clear h hn hk hb hq
  go_enter Tryd.func60, Tryd.ntmps60
  go_wp2_with fail
  refine (HC.out _ (HO.out _)).mono ?_
  rintro e w2 ⟨rfl, h2⟩
  have H2 : Hid (Only (fun _ => False) w w2) := (HO.out _).trans h2
  obtain ⟨c0, c1, c2, c3, c4, c5, c6, c7, c8, c9⟩ := HP.out w2 H2.out
  clear h2
  go_wp2_with fail
  refine (HF.out _).mono ?_
  rintro e w3 ⟨rfl, h3⟩
  have H3 : Hid (Only (fun _ => False) w w3) := H2.out.trans h3
  clear h3
  go_wp2_with fail
  all_goals
    go_ret2
    exact ⟨rfl, H3.out⟩
theorem xempty_no (h : XsAt U w xb mb D G bs Q) (b : Int) (hb : I64 b) (k : Nat) (n : Int) (hn : sizeF bs b = some n) (hk : (k : Int) < n) (hq : (Q (b, (k : Int))).1.kind ≠ 0) :
    Calls Tryd.prog 60 #[.pointer (some ⟨xb, 0, none⟩), .agg #[.int .i64 b, .int .i64 (k : Int)]] w fun e w' => e = .returned (.tuple #[.pointer none, .int .i64 10]) ∧ Only (fun _ => False) w w' := by
  have HX := Vx.hid h
  have HC : Hid (∀ w2, Only (fun _ => False) w w2 → Calls Tryd.prog 72 #[.pointer (some ⟨xb, 0, none⟩), .agg #[.int .i64 b, .int .i64 (k : Int)]] w2 fun e w' => e = .returned (.tuple #[.pointer (some ⟨G b, k * 10, none⟩), .int .i64 0]) ∧ Only (fun _ => False) w2 w') := fun w2 ho => there_at (h.quiet ho) b hb k n hn hk
  have HP : Hid (∀ w2, Only (fun _ => False) w w2 → P10 w2 (G b) k (Q (b, (k : Int)))) := fun w2 ho => (h.quiet ho).p10 hn k hk
  have HF : Hid (∀ w2, Calls Tryd.prog 51 #[.agg #[.int .i64 (Q (b, (k : Int))).1.kind, .int .i64 (Q (b, (k : Int))).1.num, .int .i64 (Q (b, (k : Int))).1.rights, .int .u32 (Q (b, (k : Int))).1.badge, .int .u32 (Q (b, (k : Int))).1.guard, .int .i64 (Q (b, (k : Int))).1.gbits, .int .i64 (Q (b, (k : Int))).1.root, .int .u32 (Q (b, (k : Int))).1.va, .int .i64 (Q (b, (k : Int))).2.1, .int .i64 (Q (b, (k : Int))).2.2]] w2 fun e w' => e = .returned (.bool true) ∧ Only (fun _ => False) w2 w') := fun w2 => by
    refine (isFull_ok (Q (b, (k : Int))) w2).mono ?_
    rintro e w' ⟨rfl, h2⟩
    exact ⟨by simp [hq], h2⟩
  have HO : Hid (∀ o, Only (fun _ => False) w (w.alloc o)) := fun o => (Only.refl _ w).alloc o
  clear h hn hk hb hq
  go_enter Tryd.func60, Tryd.ntmps60
  go_wp2_with fail
  refine (HC.out _ (HO.out _)).mono ?_
  rintro e w2 ⟨rfl, h2⟩
  have H2 : Hid (Only (fun _ => False) w w2) := (HO.out _).trans h2
  obtain ⟨c0, c1, c2, c3, c4, c5, c6, c7, c8, c9⟩ := HP.out w2 H2.out
  clear h2
  go_wp2_with fail
  refine (HF.out _).mono ?_
  rintro e w3 ⟨rfl, h3⟩
  have H3 : Hid (Only (fun _ => False) w w3) := H2.out.trans h3
  clear h3
  go_wp2_with fail
  all_goals
    go_ret2
    exact ⟨rfl, H3.out⟩
theorem xfull_out (h : XsAt U w xb mb D G bs Q) (s : Sl) (hb : I64 s.1) (ho : OutF bs s) :
    Calls Tryd.prog 52 #[.pointer (some ⟨xb, 0, none⟩), .agg #[.int .i64 s.1, .int .i64 s.2]] w fun e w' => e = .returned (.tuple #[.pointer none, .int .i64 9]) ∧ Only (fun _ => False) w w' := by
  have HC : Hid (∀ w2, Only (fun _ => False) w w2 → Calls Tryd.prog 72 #[.pointer (some ⟨xb, 0, none⟩), .agg #[.int .i64 s.1, .int .i64 s.2]] w2 fun e w' => e = .returned (.tuple #[.pointer none, .int .i64 9]) ∧ Only (fun _ => False) w2 w') := fun w2 h2 => there_out (h.quiet h2) s hb ho
  have HO : Hid (∀ o, Only (fun _ => False) w (w.alloc o)) := fun o => (Only.refl _ w).alloc o
  clear h ho hb
  obtain ⟨s1, s2⟩ := s
  dsimp only at HC ⊢
  go_enter Tryd.func52, Tryd.ntmps52
  go_wp2_with fail
  refine (HC.out _ (HO.out _)).mono ?_
  rintro e w2 ⟨rfl, h2⟩
  have H2 : Hid (Only (fun _ => False) w w2) := (HO.out _).trans h2
  clear h2
  go_wp2_with fail
  all_goals
    go_ret2
    exact ⟨rfl, H2.out⟩
theorem xempty_out (h : XsAt U w xb mb D G bs Q) (s : Sl) (hb : I64 s.1) (ho : OutF bs s) :
    Calls Tryd.prog 60 #[.pointer (some ⟨xb, 0, none⟩), .agg #[.int .i64 s.1, .int .i64 s.2]] w fun e w' => e = .returned (.tuple #[.pointer none, .int .i64 9]) ∧ Only (fun _ => False) w w' := by
  have HC : Hid (∀ w2, Only (fun _ => False) w w2 → Calls Tryd.prog 72 #[.pointer (some ⟨xb, 0, none⟩), .agg #[.int .i64 s.1, .int .i64 s.2]] w2 fun e w' => e = .returned (.tuple #[.pointer none, .int .i64 9]) ∧ Only (fun _ => False) w2 w') := fun w2 h2 => there_out (h.quiet h2) s hb ho
  have HO : Hid (∀ o, Only (fun _ => False) w (w.alloc o)) := fun o => (Only.refl _ w).alloc o
  clear h ho hb
  obtain ⟨s1, s2⟩ := s
  dsimp only at HC ⊢
  go_enter Tryd.func60, Tryd.ntmps60
  go_wp2_with fail
  refine (HC.out _ (HO.out _)).mono ?_
  rintro e w2 ⟨rfl, h2⟩
  have H2 : Hid (Only (fun _ => False) w w2) := (HO.out _).trans h2
  clear h2
  go_wp2_with fail
  all_goals
    go_ret2
    exact ⟨rfl, H2.out⟩
end Go.Proofs.YtbmchgjilkoplaaDoor

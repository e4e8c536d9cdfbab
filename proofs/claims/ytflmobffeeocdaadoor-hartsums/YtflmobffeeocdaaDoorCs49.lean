import Derived.Test.YtflmobffeeocdaaDoorCs48
/- HartSums' walk. -/
namespace Go.Proofs.YtflmobffeeocdaaDoor
open Go.ChangeShapes Go.WideShapes Go.ChangeAt Go.RowKit
open Go.Vx

theorem v28 (a b : Nat) : ((a : Int) + b) % 4294967296 = (arithF 28 a b : Nat) := (m32_cast _).symm
theorem v29 (a b : Nat) : ((a : Int) - b) % 4294967296 = (arithF 29 a b : Nat) := (m32_cast _).symm
theorem v30 (a b : Nat) : (a : Int) * 2 ^ (b % 32) % 4294967296 = (arithF 30 a b : Nat) := (m32_cast _).symm
theorem v31p (a b : Nat) (h : sgn a < sgn b) : (1 : Int) = (arithF 31 a b : Nat) := by
  show (1 : Int) = ((if sgn a < sgn b then 1 else 0 : Nat) : Int)
  rw [if_pos h]; rfl
theorem v31n (a b : Nat) (h : ¬ sgn a < sgn b) : (0 : Int) = (arithF 31 a b : Nat) := by
  show (0 : Int) = ((if sgn a < sgn b then 1 else 0 : Nat) : Int)
  rw [if_neg h]; rfl
theorem v32p (a b : Nat) (h : (a : Int) < (b : Int)) : (1 : Int) = (arithF 32 a b : Nat) := by
  show (1 : Int) = ((if a < b then 1 else 0 : Nat) : Int)
  rw [if_pos (by omega)]; rfl
theorem v32n (a b : Nat) (h : ¬ (a : Int) < (b : Int)) : (0 : Int) = (arithF 32 a b : Nat) := by
  show (0 : Int) = ((if a < b then 1 else 0 : Nat) : Int)
  rw [if_neg (by omega)]; rfl
theorem v35 (a b : Nat) : sgn a / 2 ^ (b % 32) % 4294967296 = (arithF 35 a b : Nat) := (m32_cast _).symm
theorem v41 (a b : Nat) : (a : Int) * b % 4294967296 = (arithF 41 a b : Nat) := (m32_cast _).symm
theorem v42 (a b : Nat) : sgn a * sgn b / 4294967296 % 4294967296 = (arithF 42 a b : Nat) := (m32_cast _).symm
theorem v43 (a b : Nat) : sgn a * (b : Int) / 4294967296 % 4294967296 = (arithF 43 a b : Nat) := (m32_cast _).symm
theorem v44 (a b : Nat) : (a : Int) * (b : Int) / 4294967296 % 4294967296 = (arithF 44 a b : Nat) := (m32_cast _).symm
theorem a45 (a b : Nat) (h : b ≠ 0) : arithF 45 a b = m32 (Int.tdiv (sgn a) (sgn b)) := if_neg h
theorem a46 (a b : Nat) (h : b ≠ 0) : arithF 46 a b = a / b := if_neg h
theorem a47 (a b : Nat) (h : b ≠ 0) : arithF 47 a b = m32 (Int.tmod (sgn a) (sgn b)) := if_neg h
theorem a48 (a b : Nat) (h : b ≠ 0) : arithF 48 a b = a % b := if_neg h
theorem v45 (a b : Nat) (h : ¬ b = 0) : wrap64 (Int.tdiv (sgn a) (sgn b)) % 4294967296 = (arithF 45 a b : Nat) := by
  rw [a45 a b h, m32_cast]; simp only [wrap64]; omega
theorem v46 (a b : Nat) (ha : a < 4294967296) (h : ¬ b = 0) : (a : Int) / (b : Int) % 4294967296 = (arithF 46 a b : Nat) := by
  rw [a46 a b h]
  have := div_u32 a b ha
  have e : (a : Int) / (b : Int) = ((a / b : Nat) : Int) := rfl
  rw [e]
  exact Int.emod_eq_of_lt (Int.natCast_nonneg _) (Int.ofNat_lt.2 this)
theorem v47 (a b : Nat) (h : ¬ b = 0) : Int.tmod (sgn a) (sgn b) % 4294967296 = (arithF 47 a b : Nat) := by
  rw [a47 a b h, m32_cast]
theorem v48 (a b : Nat) (h : ¬ b = 0) : (a : Int) % (b : Int) = (arithF 48 a b : Nat) := by
  rw [a48 a b h]; rfl
theorem v45z (a b : Nat) (h : b = 0) : (4294967295 : Int) = (arithF 45 a b : Nat) := by
  have : arithF 45 a b = 4294967295 := if_pos h
  rw [this]; rfl
theorem v46z (a b : Nat) (h : b = 0) : (4294967295 : Int) = (arithF 46 a b : Nat) := by
  have : arithF 46 a b = 4294967295 := if_pos h
  rw [this]; rfl
theorem v47z (a b : Nat) (h : b = 0) : (a : Int) = (arithF 47 a b : Nat) := by
  have : arithF 47 a b = a := if_pos h
  rw [this]
theorem v48z (a b : Nat) (h : b = 0) : (a : Int) = (arithF 48 a b : Nat) := by
  have : arithF 48 a b = a := if_pos h
  rw [this]
/-- What HartSums has laid. -/
structure SumR (W : World) (a b : Nat) (wr : World) : Prop where
  r1 : ∀ i, i < 10 → wr.cell? ⟨W.heap.size, i, none⟩ = some (.int .u32 (arithF (28 + i) a b : Nat))
  r2 : ∀ i, i < 8 → wr.cell? ⟨W.heap.size + 1, i, none⟩ = some (.int .u32 (arithF (41 + i) a b : Nat))
  be : Below W.heap.size W wr
  sz : W.heap.size + 2 ≤ wr.heap.size
theorem sumR_mk (W : World) (a b : Nat) (C1 C2 : Array Value) (h1 : ∀ i, i < 10 → C1[i]? = some (.int .u32 (arithF (28 + i) a b : Nat))) (h2 : ∀ i, i < 8 → C2[i]? = some (.int .u32 (arithF (41 + i) a b : Nat))) : SumR W a b ((W.alloc (.cells C1 23)).alloc (.cells C2 23)) := by
  have b1 : ((W.alloc (.cells C1 23)).alloc (.cells C2 23)).heap[W.heap.size]? = some (.cells C1 23 (0, 0)) := by
    rw [RowKit.Below.heap_alloc _ _ _ (by simp)]; exact heap_alloc_last W _
  have b2 : ((W.alloc (.cells C1 23)).alloc (.cells C2 23)).heap[W.heap.size + 1]? = some (.cells C2 23 (0, 0)) := by
    have := heap_alloc_last (W.alloc (.cells C1 23)) (.cells C2 23)
    simpa using this
  refine ⟨fun i hi => by rw [cell_of_row _ _ i _ _ (0, 0) b1]; exact h1 i hi, fun i hi => by rw [cell_of_row _ _ i _ _ (0, 0) b2]; exact h2 i hi, (((Only.refl (fun _ => False) W).alloc _).alloc _).below (Nat.le_refl _) (fun _ _ h => h), by simp⟩
theorem SumR.alone {W : World} {a b : Nat} {wr : World} (h : SumR W a b wr) (hw : UsesAt W ∧ MisAt W ∧ FormsAt W) (hab : a < 4294967296 ∧ b < 4294967296) (op : Nat) (hop : (28 ≤ op ∧ op ≤ 37) ∨ (41 ≤ op ∧ op ≤ 48)) :
    Calls Tryd.prog 10 #[.int .i64 (op : Int), .int .u32 (a : Int), .int .u32 (b : Int)] wr fun e w' => e = .returned (.tuple #[.int .u32 (arithF op a b : Nat), .bool true]) ∧ SumR W a b w' := by
  have ho : Only (fun _ => False) W wr := only_of_below h.be
  refine (alone_ok wr (hw.1.only ho (fun h => h)) (hw.2.1.only ho (fun h => h)) (hw.2.2.only ho (fun h => h)) op hop a b hab.1 hab.2).mono ?_
  rintro e w' ⟨rfl, hb⟩
  have hs := h.sz
  exact ⟨rfl, fun i hi => by rw [hb.cell (p := ⟨W.heap.size, i, none⟩) (by show W.heap.size < _; omega)]; exact h.r1 i hi, fun i hi => by rw [hb.cell (p := ⟨W.heap.size + 1, i, none⟩) (by show W.heap.size + 1 < _; omega)]; exact h.r2 i hi, h.be.trans (hb.mono (by omega)), Nat.le_trans hs hb.size⟩
set_option maxRecDepth 100000 in
set_option maxHeartbeats 16000000 in
theorem hartSums_call (W : World) (hus : UsesAt W) (hmi : MisAt W) (hfo : FormsAt W) (a b : Nat) (ha : a < 4294967296) (hb : b < 4294967296) :
    Calls Tryd.prog 4 #[.int .u32 (a : Int), .int .u32 (b : Int)] W fun e w' => e = .returned (.bool true) ∧ Below W.heap.size W w' := by
  have HW := Vx.hid (⟨hus, hmi, hfo⟩ : _ ∧ _ ∧ _)
  have HAB := Vx.hid (⟨ha, hb⟩ : _ ∧ _)
  have s1 : IntKind.i32.wrap (a : Int) = sgn a := wrap_i32_s a ha
  have s2 : IntKind.i32.wrap (b : Int) = sgn b := wrap_i32_s b hb
  have hx := sgn_bounds a ha
  have hy := sgn_bounds b hb
  have y0 : b ≠ 0 → sgn b ≠ 0 := fun h => sgn_zero b hb h
  have HX := Vx.hid (⟨rfl, rfl⟩ : sgn a = sgn a ∧ sgn b = sgn b)
  obtain ⟨x, hxx⟩ : ∃ x, x = sgn a := ⟨_, rfl⟩
  obtain ⟨y, hyy⟩ : ∃ y, y = sgn b := ⟨_, rfl⟩
  have HXY := Vx.hid (⟨hxx, hyy⟩ : _ ∧ _)
  rw [← hxx] at s1 hx
  rw [← hyy] at s2 hy y0
  obtain ⟨n, hn⟩ : ∃ n, n = b % 32 := ⟨_, rfl⟩
  have HN := Vx.hid hn
  have t1 : Int.tmod (b : Int) 32 = (n : Int) := by rw [hn]; rfl
  have t2 : (b : Int) % 32 = (n : Int) := by rw [hn]; rfl
  have hnl : n < 32 := by rw [hn]; exact Nat.mod_lt _ (by decide)
  have t3 : IntKind.u32.wrap (n : Int) = (n : Int) := wrap_u32_n n (by omega)
  have k1 : IntKind.i64.wrap x = x := by rw [IntKind.wrap_i64]; omega
  have k2 : IntKind.i64.wrap y = y := by rw [IntKind.wrap_i64]; omega
  have k3 : IntKind.i64.wrap (b : Int) = (b : Int) := by rw [IntKind.wrap_i64]; omega
  have k4 : IntKind.u64.wrap (a : Int) = (a : Int) := by rw [IntKind.wrap_u64]; omega
  have k5 : IntKind.u64.wrap (b : Int) = (b : Int) := by rw [IntKind.wrap_u64]; omega
  have hp1 := prod_ss x y hx.1 hx.2 hy.1 hy.2
  have hp2 := prod_su x b hx.1 hx.2 hb
  have hp3 := prod_uu a b ha hb
  have k6 : IntKind.i64.wrap (x * y) = x * y := by rw [IntKind.wrap_i64]; omega
  have k7 : IntKind.i64.wrap (x * y / 4294967296) = x * y / 4294967296 := by rw [IntKind.wrap_i64]; omega
  have k8 : IntKind.i64.wrap (x * b) = x * b := by rw [IntKind.wrap_i64]; omega
  have k9 : IntKind.i64.wrap (x * b / 4294967296) = x * b / 4294967296 := by rw [IntKind.wrap_i64]; omega
  have k10 : IntKind.u64.wrap ((a : Int) * b) = (a : Int) * b := by rw [IntKind.wrap_u64]; omega
  have k11 : IntKind.u64.wrap ((a : Int) * b / 4294967296) = (a : Int) * b / 4294967296 := by rw [IntKind.wrap_u64]; omega
  obtain ⟨x1, x2, x3⟩ := u32_nats a b ha hb
  obtain ⟨qn, hqn⟩ : ∃ q, q = a / 2 ^ n := ⟨_, rfl⟩
  have z1 : (a : Int) / 2 ^ n = (qn : Int) := by rw [hqn]; simp
  have z2 : IntKind.u32.wrap (qn : Int) = (qn : Int) := wrap_u32_n qn (by rw [hqn]; exact div_u32 _ _ ha)
  have HQN := Vx.hid hqn
  obtain ⟨P1, hP1⟩ : ∃ P, P = x * y := ⟨_, rfl⟩
  obtain ⟨P2, hP2⟩ : ∃ P, P = x * (b : Int) := ⟨_, rfl⟩
  obtain ⟨P3, hP3⟩ : ∃ P, P = (a : Int) * (b : Int) := ⟨_, rfl⟩
  have HPS := Vx.hid (⟨hP1, hP2, hP3⟩ : _ ∧ _ ∧ _)
  rw [← hP1] at k6 k7
  rw [← hP2] at k8 k9
  rw [← hP3] at k10 k11
  have p1 := hP1.symm
  have p2 := hP2.symm
  have p3 := hP3.symm
  clear hus hmi hfo ha hb hxx hyy hx hy hn hnl hp1 hp2 hp3 hqn hP1 hP2 hP3 HX
  by_cases c1 : x < y
  all_goals by_cases c2 : (a : Int) < (b : Int)
  all_goals by_cases c3 : b = 0
  ·
    have c5 : ((b : Int) != 0) = false := by simp; omega
    have c6 : (b : Int) = 0 := by omega
    have C6 := Vx.hid c6
    clear y0 c6
    have HC := Vx.hid (⟨c1, c2, c3⟩ : _ ∧ _ ∧ _)
    clear c3
    go_enter Tryd.func4, Tryd.ntmps4
    go_wp2_with fail
    obtain ⟨W9, hW9⟩ : ∃ W9, W9 = ((W.alloc (.cells #[.int .u32 (((a : Int) + b) % 4294967296), .int .u32 (((a : Int) - b) % 4294967296), .int .u32 ((a : Int) * 2 ^ n % 4294967296), .int .u32 1, .int .u32 1, .int .u32 ((a ^^^ b : Nat) : Int), .int .u32 (qn : Int), .int .u32 (x / 2 ^ n % 4294967296), .int .u32 ((a ||| b : Nat) : Int), .int .u32 ((a &&& b : Nat) : Int)] 23)).alloc (.cells #[.int .u32 (P3 % 4294967296), .int .u32 (P1 / 4294967296 % 4294967296), .int .u32 (P2 / 4294967296 % 4294967296), .int .u32 (P3 / 4294967296 % 4294967296), .int .u32 4294967295, .int .u32 4294967295, .int .u32 (a : Int), .int .u32 (a : Int)] 23)) := ⟨_, rfl⟩
    have HR : Hid (SumR W a b W9) := by
      obtain ⟨hx, hy⟩ := HXY.out
      obtain ⟨hP1, hP2, hP3⟩ := HPS.out
      have hn := HN.out
      have hq := HQN.out
      obtain ⟨d1, d2, d3⟩ := HC.out
      rw [hW9]
      subst hq hn hP1 hP2 hP3 hx hy
      refine sumR_mk W a b _ _ (fun i hi => ?_) (fun i hi => ?_)
      · have hc : i = 0 ∨ i = 1 ∨ i = 2 ∨ i = 3 ∨ i = 4 ∨ i = 5 ∨ i = 6 ∨ i = 7 ∨ i = 8 ∨ i = 9 := by omega
        rcases hc with rfl | rfl | rfl | rfl | rfl | rfl | rfl | rfl | rfl | rfl
        · exact congrArg (fun z => some (Value.int .u32 z)) (v28 a b)
        · exact congrArg (fun z => some (Value.int .u32 z)) (v29 a b)
        · exact congrArg (fun z => some (Value.int .u32 z)) (v30 a b)
        · exact congrArg (fun z => some (Value.int .u32 z)) (v31p a b (by omega))
        · exact congrArg (fun z => some (Value.int .u32 z)) (v32p a b (by omega))
        · rfl
        · rfl
        · exact congrArg (fun z => some (Value.int .u32 z)) (v35 a b)
        · rfl
        · rfl
      · have hc : i = 0 ∨ i = 1 ∨ i = 2 ∨ i = 3 ∨ i = 4 ∨ i = 5 ∨ i = 6 ∨ i = 7 := by omega
        rcases hc with rfl | rfl | rfl | rfl | rfl | rfl | rfl | rfl
        · exact congrArg (fun z => some (Value.int .u32 z)) (v41 a b)
        · exact congrArg (fun z => some (Value.int .u32 z)) (v42 a b)
        · exact congrArg (fun z => some (Value.int .u32 z)) (v43 a b)
        · exact congrArg (fun z => some (Value.int .u32 z)) (v44 a b)
        · exact congrArg (fun z => some (Value.int .u32 z)) (v45z a b d3)
        · exact congrArg (fun z => some (Value.int .u32 z)) (v46z a b d3)
        · exact congrArg (fun z => some (Value.int .u32 z)) (v47z a b d3)
        · exact congrArg (fun z => some (Value.int .u32 z)) (v48z a b d3)
    rw [← hW9]
    clear hW9 HXY HPS HN HQN HC C6 s1 s2 t1 t2 t3 k1 k2 k3 k4 k5 k6 k7 k8 k9 k10 k11 x1 x2 x3 z1 z2 p1 p2 p3 c1 c2 c5
    go_loopw [13] (fun d wr => ∃ k : Nat, d = .int .i64 (k : Int) ∧ k ≤ 10 ∧ Hid (SumR W a b wr)) (fun d _ => 10 - (intOf d).toNat)
    case atStart => exact ⟨0, rfl, by omega, HR⟩
    case round =>
      clear HR
      obtain ⟨k, rfl, hk, HR⟩ := hrel
      by_cases hlt : k < 10
      · have h1 : (k : Int) < 10 := by omega
        have hi : 0 ≤ (k : Int) ∧ (k : Int) < 10 := by omega
        have hw9 : IntKind.i64.wrap ((k : Int) + 1) = (k : Int) + 1 := by rw [IntKind.wrap_i64]; omega
        have e28 : (28 : Int) + (k : Int) = ((28 + k : Nat) : Int) := by omega
        have w28 : IntKind.i64.wrap ((28 + k : Nat) : Int) = ((28 + k : Nat) : Int) := by rw [IntKind.wrap_i64]; omega
        have HAL := Vx.hid (HR.out.alone HW.out HAB.out (28 + k) (by omega))
        have HRC : Hid (∀ wv, SumR W a b wv → wv.cell? ⟨W.heap.size, k, none⟩ = some (.int .u32 (arithF (28 + k) a b : Nat))) := fun wv h => h.r1 k hlt
        generalize arithF (28 + k) a b = V at HAL HRC
        generalize 28 + k = K at e28 w28 HAL
        go_wp2_with fail
        refine HAL.out.mono ?_
        rintro e w5 ⟨rfl, h5⟩
        have HR5 := Vx.hid h5
        have hck := HRC.out w5 h5
        clear h5 HAL HRC
        go_wp2_with fail
        all_goals
          go_roundw
          case rel => exact ⟨k + 1, by go_num, by omega, HR5⟩
          case measure => simp only [intOf]; omega
      · have h1 : ¬ (k : Int) < 10 := by omega
        clear hlt hk
        go_wp2_with fail
        go_loopw [16] (fun d wr => ∃ k : Nat, d = .int .i64 (k : Int) ∧ k ≤ 8 ∧ Hid (SumR W a b wr)) (fun d _ => 8 - (intOf d).toNat)
        case atStart => exact ⟨0, rfl, by omega, HR⟩
        case round =>
          clear HR
          obtain ⟨k, rfl, hk, HR⟩ := hrel
          by_cases hlt : k < 8
          · have h1 : (k : Int) < 8 := by omega
            have hi : 0 ≤ (k : Int) ∧ (k : Int) < 8 := by omega
            have hw9 : IntKind.i64.wrap ((k : Int) + 1) = (k : Int) + 1 := by rw [IntKind.wrap_i64]; omega
            have e28 : (41 : Int) + (k : Int) = ((41 + k : Nat) : Int) := by omega
            have w28 : IntKind.i64.wrap ((41 + k : Nat) : Int) = ((41 + k : Nat) : Int) := by rw [IntKind.wrap_i64]; omega
            have HAL := Vx.hid (HR.out.alone HW.out HAB.out (41 + k) (by omega))
            have HRC : Hid (∀ wv, SumR W a b wv → wv.cell? ⟨W.heap.size + 1, k, none⟩ = some (.int .u32 (arithF (41 + k) a b : Nat))) := fun wv h => h.r2 k hlt
            generalize arithF (41 + k) a b = V at HAL HRC
            generalize 41 + k = K at e28 w28 HAL
            go_wp2_with fail
            refine HAL.out.mono ?_
            rintro e w5 ⟨rfl, h5⟩
            have HR5 := Vx.hid h5
            have hck := HRC.out w5 h5
            clear h5 HAL HRC
            go_wp2_with fail
            all_goals
              go_roundw
              case rel => exact ⟨k + 1, by go_num, by omega, HR5⟩
              case measure => simp only [intOf]; omega
          · have h1 : ¬ (k : Int) < 8 := by omega
            clear hlt hk
            go_wp2_with fail
            all_goals
              go_ret
              exact ⟨rfl, HR.out.be⟩
  ·
    have c4 : ¬ (b : Int) = 0 := by omega
    have c5 : ((b : Int) != 0) = true := by simp; omega
    have y1 := y0 c3
    have y2 : (y == 0) = false := by simpa using y1
    clear y0
    have HC := Vx.hid (⟨c1, c2, c3⟩ : _ ∧ _ ∧ _)
    clear c3
    go_enter Tryd.func4, Tryd.ntmps4
    go_wp2_with fail
    obtain ⟨W9, hW9⟩ : ∃ W9, W9 = ((W.alloc (.cells #[.int .u32 (((a : Int) + b) % 4294967296), .int .u32 (((a : Int) - b) % 4294967296), .int .u32 ((a : Int) * 2 ^ n % 4294967296), .int .u32 1, .int .u32 1, .int .u32 ((a ^^^ b : Nat) : Int), .int .u32 (qn : Int), .int .u32 (x / 2 ^ n % 4294967296), .int .u32 ((a ||| b : Nat) : Int), .int .u32 ((a &&& b : Nat) : Int)] 23)).alloc (.cells #[.int .u32 (P3 % 4294967296), .int .u32 (P1 / 4294967296 % 4294967296), .int .u32 (P2 / 4294967296 % 4294967296), .int .u32 (P3 / 4294967296 % 4294967296), .int .u32 (wrap64 (Int.tdiv x y) % 4294967296), .int .u32 ((a : Int) / (b : Int) % 4294967296), .int .u32 (Int.tmod x y % 4294967296), .int .u32 ((a : Int) % (b : Int))] 23)) := ⟨_, rfl⟩
    have HR : Hid (SumR W a b W9) := by
      obtain ⟨hx, hy⟩ := HXY.out
      obtain ⟨hP1, hP2, hP3⟩ := HPS.out
      have hn := HN.out
      have hq := HQN.out
      obtain ⟨d1, d2, d3⟩ := HC.out
      rw [hW9]
      subst hq hn hP1 hP2 hP3 hx hy
      refine sumR_mk W a b _ _ (fun i hi => ?_) (fun i hi => ?_)
      · have hc : i = 0 ∨ i = 1 ∨ i = 2 ∨ i = 3 ∨ i = 4 ∨ i = 5 ∨ i = 6 ∨ i = 7 ∨ i = 8 ∨ i = 9 := by omega
        rcases hc with rfl | rfl | rfl | rfl | rfl | rfl | rfl | rfl | rfl | rfl
        · exact congrArg (fun z => some (Value.int .u32 z)) (v28 a b)
        · exact congrArg (fun z => some (Value.int .u32 z)) (v29 a b)
        · exact congrArg (fun z => some (Value.int .u32 z)) (v30 a b)
        · exact congrArg (fun z => some (Value.int .u32 z)) (v31p a b (by omega))
        · exact congrArg (fun z => some (Value.int .u32 z)) (v32p a b (by omega))
        · rfl
        · rfl
        · exact congrArg (fun z => some (Value.int .u32 z)) (v35 a b)
        · rfl
        · rfl
      · have hc : i = 0 ∨ i = 1 ∨ i = 2 ∨ i = 3 ∨ i = 4 ∨ i = 5 ∨ i = 6 ∨ i = 7 := by omega
        rcases hc with rfl | rfl | rfl | rfl | rfl | rfl | rfl | rfl
        · exact congrArg (fun z => some (Value.int .u32 z)) (v41 a b)
        · exact congrArg (fun z => some (Value.int .u32 z)) (v42 a b)
        · exact congrArg (fun z => some (Value.int .u32 z)) (v43 a b)
        · exact congrArg (fun z => some (Value.int .u32 z)) (v44 a b)
        · exact congrArg (fun z => some (Value.int .u32 z)) (v45 a b d3)
        · exact congrArg (fun z => some (Value.int .u32 z)) (v46 a b HAB.out.1 d3)
        · exact congrArg (fun z => some (Value.int .u32 z)) (v47 a b d3)
        · exact congrArg (fun z => some (Value.int .u32 z)) (v48 a b d3)
    rw [← hW9]
    clear hW9 HXY HPS HN HQN HC c4 y1 y2 s1 s2 t1 t2 t3 k1 k2 k3 k4 k5 k6 k7 k8 k9 k10 k11 x1 x2 x3 z1 z2 p1 p2 p3 c1 c2 c5
    go_loopw [13] (fun d wr => ∃ k : Nat, d = .int .i64 (k : Int) ∧ k ≤ 10 ∧ Hid (SumR W a b wr)) (fun d _ => 10 - (intOf d).toNat)
    case atStart => exact ⟨0, rfl, by omega, HR⟩
    case round =>
      clear HR
      obtain ⟨k, rfl, hk, HR⟩ := hrel
      by_cases hlt : k < 10
      · have h1 : (k : Int) < 10 := by omega
        have hi : 0 ≤ (k : Int) ∧ (k : Int) < 10 := by omega
        have hw9 : IntKind.i64.wrap ((k : Int) + 1) = (k : Int) + 1 := by rw [IntKind.wrap_i64]; omega
        have e28 : (28 : Int) + (k : Int) = ((28 + k : Nat) : Int) := by omega
        have w28 : IntKind.i64.wrap ((28 + k : Nat) : Int) = ((28 + k : Nat) : Int) := by rw [IntKind.wrap_i64]; omega
        have HAL := Vx.hid (HR.out.alone HW.out HAB.out (28 + k) (by omega))
        have HRC : Hid (∀ wv, SumR W a b wv → wv.cell? ⟨W.heap.size, k, none⟩ = some (.int .u32 (arithF (28 + k) a b : Nat))) := fun wv h => h.r1 k hlt
        generalize arithF (28 + k) a b = V at HAL HRC
        generalize 28 + k = K at e28 w28 HAL
        go_wp2_with fail
        refine HAL.out.mono ?_
        rintro e w5 ⟨rfl, h5⟩
        have HR5 := Vx.hid h5
        have hck := HRC.out w5 h5
        clear h5 HAL HRC
        go_wp2_with fail
        all_goals
          go_roundw
          case rel => exact ⟨k + 1, by go_num, by omega, HR5⟩
          case measure => simp only [intOf]; omega
      · have h1 : ¬ (k : Int) < 10 := by omega
        clear hlt hk
        go_wp2_with fail
        go_loopw [16] (fun d wr => ∃ k : Nat, d = .int .i64 (k : Int) ∧ k ≤ 8 ∧ Hid (SumR W a b wr)) (fun d _ => 8 - (intOf d).toNat)
        case atStart => exact ⟨0, rfl, by omega, HR⟩
        case round =>
          clear HR
          obtain ⟨k, rfl, hk, HR⟩ := hrel
          by_cases hlt : k < 8
          · have h1 : (k : Int) < 8 := by omega
            have hi : 0 ≤ (k : Int) ∧ (k : Int) < 8 := by omega
            have hw9 : IntKind.i64.wrap ((k : Int) + 1) = (k : Int) + 1 := by rw [IntKind.wrap_i64]; omega
            have e28 : (41 : Int) + (k : Int) = ((41 + k : Nat) : Int) := by omega
            have w28 : IntKind.i64.wrap ((41 + k : Nat) : Int) = ((41 + k : Nat) : Int) := by rw [IntKind.wrap_i64]; omega
            have HAL := Vx.hid (HR.out.alone HW.out HAB.out (41 + k) (by omega))
            have HRC : Hid (∀ wv, SumR W a b wv → wv.cell? ⟨W.heap.size + 1, k, none⟩ = some (.int .u32 (arithF (41 + k) a b : Nat))) := fun wv h => h.r2 k hlt
            generalize arithF (41 + k) a b = V at HAL HRC
            generalize 41 + k = K at e28 w28 HAL
            go_wp2_with fail
            refine HAL.out.mono ?_
            rintro e w5 ⟨rfl, h5⟩
            have HR5 := Vx.hid h5
            have hck := HRC.out w5 h5
            clear h5 HAL HRC
            go_wp2_with fail
            all_goals
              go_roundw
              case rel => exact ⟨k + 1, by go_num, by omega, HR5⟩
              case measure => simp only [intOf]; omega
          · have h1 : ¬ (k : Int) < 8 := by omega
            clear hlt hk
            go_wp2_with fail
            all_goals
              go_ret
              exact ⟨rfl, HR.out.be⟩
  ·
    have c5 : ((b : Int) != 0) = false := by simp; omega
    have c6 : (b : Int) = 0 := by omega
    have C6 := Vx.hid c6
    clear y0 c6
    have HC := Vx.hid (⟨c1, c2, c3⟩ : _ ∧ _ ∧ _)
    clear c3
    go_enter Tryd.func4, Tryd.ntmps4
    go_wp2_with fail
    obtain ⟨W9, hW9⟩ : ∃ W9, W9 = ((W.alloc (.cells #[.int .u32 (((a : Int) + b) % 4294967296), .int .u32 (((a : Int) - b) % 4294967296), .int .u32 ((a : Int) * 2 ^ n % 4294967296), .int .u32 1, .int .u32 0, .int .u32 ((a ^^^ b : Nat) : Int), .int .u32 (qn : Int), .int .u32 (x / 2 ^ n % 4294967296), .int .u32 ((a ||| b : Nat) : Int), .int .u32 ((a &&& b : Nat) : Int)] 23)).alloc (.cells #[.int .u32 (P3 % 4294967296), .int .u32 (P1 / 4294967296 % 4294967296), .int .u32 (P2 / 4294967296 % 4294967296), .int .u32 (P3 / 4294967296 % 4294967296), .int .u32 4294967295, .int .u32 4294967295, .int .u32 (a : Int), .int .u32 (a : Int)] 23)) := ⟨_, rfl⟩
    have HR : Hid (SumR W a b W9) := by
      obtain ⟨hx, hy⟩ := HXY.out
      obtain ⟨hP1, hP2, hP3⟩ := HPS.out
      have hn := HN.out
      have hq := HQN.out
      obtain ⟨d1, d2, d3⟩ := HC.out
      rw [hW9]
      subst hq hn hP1 hP2 hP3 hx hy
      refine sumR_mk W a b _ _ (fun i hi => ?_) (fun i hi => ?_)
      · have hc : i = 0 ∨ i = 1 ∨ i = 2 ∨ i = 3 ∨ i = 4 ∨ i = 5 ∨ i = 6 ∨ i = 7 ∨ i = 8 ∨ i = 9 := by omega
        rcases hc with rfl | rfl | rfl | rfl | rfl | rfl | rfl | rfl | rfl | rfl
        · exact congrArg (fun z => some (Value.int .u32 z)) (v28 a b)
        · exact congrArg (fun z => some (Value.int .u32 z)) (v29 a b)
        · exact congrArg (fun z => some (Value.int .u32 z)) (v30 a b)
        · exact congrArg (fun z => some (Value.int .u32 z)) (v31p a b (by omega))
        · exact congrArg (fun z => some (Value.int .u32 z)) (v32n a b (by omega))
        · rfl
        · rfl
        · exact congrArg (fun z => some (Value.int .u32 z)) (v35 a b)
        · rfl
        · rfl
      · have hc : i = 0 ∨ i = 1 ∨ i = 2 ∨ i = 3 ∨ i = 4 ∨ i = 5 ∨ i = 6 ∨ i = 7 := by omega
        rcases hc with rfl | rfl | rfl | rfl | rfl | rfl | rfl | rfl
        · exact congrArg (fun z => some (Value.int .u32 z)) (v41 a b)
        · exact congrArg (fun z => some (Value.int .u32 z)) (v42 a b)
        · exact congrArg (fun z => some (Value.int .u32 z)) (v43 a b)
        · exact congrArg (fun z => some (Value.int .u32 z)) (v44 a b)
        · exact congrArg (fun z => some (Value.int .u32 z)) (v45z a b d3)
        · exact congrArg (fun z => some (Value.int .u32 z)) (v46z a b d3)
        · exact congrArg (fun z => some (Value.int .u32 z)) (v47z a b d3)
        · exact congrArg (fun z => some (Value.int .u32 z)) (v48z a b d3)
    rw [← hW9]
    clear hW9 HXY HPS HN HQN HC C6 s1 s2 t1 t2 t3 k1 k2 k3 k4 k5 k6 k7 k8 k9 k10 k11 x1 x2 x3 z1 z2 p1 p2 p3 c1 c2 c5
    go_loopw [13] (fun d wr => ∃ k : Nat, d = .int .i64 (k : Int) ∧ k ≤ 10 ∧ Hid (SumR W a b wr)) (fun d _ => 10 - (intOf d).toNat)
    case atStart => exact ⟨0, rfl, by omega, HR⟩
    case round =>
      clear HR
      obtain ⟨k, rfl, hk, HR⟩ := hrel
      by_cases hlt : k < 10
      · have h1 : (k : Int) < 10 := by omega
        have hi : 0 ≤ (k : Int) ∧ (k : Int) < 10 := by omega
        have hw9 : IntKind.i64.wrap ((k : Int) + 1) = (k : Int) + 1 := by rw [IntKind.wrap_i64]; omega
        have e28 : (28 : Int) + (k : Int) = ((28 + k : Nat) : Int) := by omega
        have w28 : IntKind.i64.wrap ((28 + k : Nat) : Int) = ((28 + k : Nat) : Int) := by rw [IntKind.wrap_i64]; omega
        have HAL := Vx.hid (HR.out.alone HW.out HAB.out (28 + k) (by omega))
        have HRC : Hid (∀ wv, SumR W a b wv → wv.cell? ⟨W.heap.size, k, none⟩ = some (.int .u32 (arithF (28 + k) a b : Nat))) := fun wv h => h.r1 k hlt
        generalize arithF (28 + k) a b = V at HAL HRC
        generalize 28 + k = K at e28 w28 HAL
        go_wp2_with fail
        refine HAL.out.mono ?_
        rintro e w5 ⟨rfl, h5⟩
        have HR5 := Vx.hid h5
        have hck := HRC.out w5 h5
        clear h5 HAL HRC
        go_wp2_with fail
        all_goals
          go_roundw
          case rel => exact ⟨k + 1, by go_num, by omega, HR5⟩
          case measure => simp only [intOf]; omega
      · have h1 : ¬ (k : Int) < 10 := by omega
        clear hlt hk
        go_wp2_with fail
        go_loopw [16] (fun d wr => ∃ k : Nat, d = .int .i64 (k : Int) ∧ k ≤ 8 ∧ Hid (SumR W a b wr)) (fun d _ => 8 - (intOf d).toNat)
        case atStart => exact ⟨0, rfl, by omega, HR⟩
        case round =>
          clear HR
          obtain ⟨k, rfl, hk, HR⟩ := hrel
          by_cases hlt : k < 8
          · have h1 : (k : Int) < 8 := by omega
            have hi : 0 ≤ (k : Int) ∧ (k : Int) < 8 := by omega
            have hw9 : IntKind.i64.wrap ((k : Int) + 1) = (k : Int) + 1 := by rw [IntKind.wrap_i64]; omega
            have e28 : (41 : Int) + (k : Int) = ((41 + k : Nat) : Int) := by omega
            have w28 : IntKind.i64.wrap ((41 + k : Nat) : Int) = ((41 + k : Nat) : Int) := by rw [IntKind.wrap_i64]; omega
            have HAL := Vx.hid (HR.out.alone HW.out HAB.out (41 + k) (by omega))
            have HRC : Hid (∀ wv, SumR W a b wv → wv.cell? ⟨W.heap.size + 1, k, none⟩ = some (.int .u32 (arithF (41 + k) a b : Nat))) := fun wv h => h.r2 k hlt
            generalize arithF (41 + k) a b = V at HAL HRC
            generalize 41 + k = K at e28 w28 HAL
            go_wp2_with fail
            refine HAL.out.mono ?_
            rintro e w5 ⟨rfl, h5⟩
            have HR5 := Vx.hid h5
            have hck := HRC.out w5 h5
            clear h5 HAL HRC
            go_wp2_with fail
            all_goals
              go_roundw
              case rel => exact ⟨k + 1, by go_num, by omega, HR5⟩
              case measure => simp only [intOf]; omega
          · have h1 : ¬ (k : Int) < 8 := by omega
            clear hlt hk
            go_wp2_with fail
            all_goals
              go_ret
              exact ⟨rfl, HR.out.be⟩
  ·
    have c4 : ¬ (b : Int) = 0 := by omega
    have c5 : ((b : Int) != 0) = true := by simp; omega
    have y1 := y0 c3
    have y2 : (y == 0) = false := by simpa using y1
    clear y0
    have HC := Vx.hid (⟨c1, c2, c3⟩ : _ ∧ _ ∧ _)
    clear c3
    go_enter Tryd.func4, Tryd.ntmps4
    go_wp2_with fail
    obtain ⟨W9, hW9⟩ : ∃ W9, W9 = ((W.alloc (.cells #[.int .u32 (((a : Int) + b) % 4294967296), .int .u32 (((a : Int) - b) % 4294967296), .int .u32 ((a : Int) * 2 ^ n % 4294967296), .int .u32 1, .int .u32 0, .int .u32 ((a ^^^ b : Nat) : Int), .int .u32 (qn : Int), .int .u32 (x / 2 ^ n % 4294967296), .int .u32 ((a ||| b : Nat) : Int), .int .u32 ((a &&& b : Nat) : Int)] 23)).alloc (.cells #[.int .u32 (P3 % 4294967296), .int .u32 (P1 / 4294967296 % 4294967296), .int .u32 (P2 / 4294967296 % 4294967296), .int .u32 (P3 / 4294967296 % 4294967296), .int .u32 (wrap64 (Int.tdiv x y) % 4294967296), .int .u32 ((a : Int) / (b : Int) % 4294967296), .int .u32 (Int.tmod x y % 4294967296), .int .u32 ((a : Int) % (b : Int))] 23)) := ⟨_, rfl⟩
    have HR : Hid (SumR W a b W9) := by
      obtain ⟨hx, hy⟩ := HXY.out
      obtain ⟨hP1, hP2, hP3⟩ := HPS.out
      have hn := HN.out
      have hq := HQN.out
      obtain ⟨d1, d2, d3⟩ := HC.out
      rw [hW9]
      subst hq hn hP1 hP2 hP3 hx hy
      refine sumR_mk W a b _ _ (fun i hi => ?_) (fun i hi => ?_)
      · have hc : i = 0 ∨ i = 1 ∨ i = 2 ∨ i = 3 ∨ i = 4 ∨ i = 5 ∨ i = 6 ∨ i = 7 ∨ i = 8 ∨ i = 9 := by omega
        rcases hc with rfl | rfl | rfl | rfl | rfl | rfl | rfl | rfl | rfl | rfl
        · exact congrArg (fun z => some (Value.int .u32 z)) (v28 a b)
        · exact congrArg (fun z => some (Value.int .u32 z)) (v29 a b)
        · exact congrArg (fun z => some (Value.int .u32 z)) (v30 a b)
        · exact congrArg (fun z => some (Value.int .u32 z)) (v31p a b (by omega))
        · exact congrArg (fun z => some (Value.int .u32 z)) (v32n a b (by omega))
        · rfl
        · rfl
        · exact congrArg (fun z => some (Value.int .u32 z)) (v35 a b)
        · rfl
        · rfl
      · have hc : i = 0 ∨ i = 1 ∨ i = 2 ∨ i = 3 ∨ i = 4 ∨ i = 5 ∨ i = 6 ∨ i = 7 := by omega
        rcases hc with rfl | rfl | rfl | rfl | rfl | rfl | rfl | rfl
        · exact congrArg (fun z => some (Value.int .u32 z)) (v41 a b)
        · exact congrArg (fun z => some (Value.int .u32 z)) (v42 a b)
        · exact congrArg (fun z => some (Value.int .u32 z)) (v43 a b)
        · exact congrArg (fun z => some (Value.int .u32 z)) (v44 a b)
        · exact congrArg (fun z => some (Value.int .u32 z)) (v45 a b d3)
        · exact congrArg (fun z => some (Value.int .u32 z)) (v46 a b HAB.out.1 d3)
        · exact congrArg (fun z => some (Value.int .u32 z)) (v47 a b d3)
        · exact congrArg (fun z => some (Value.int .u32 z)) (v48 a b d3)
    rw [← hW9]
    clear hW9 HXY HPS HN HQN HC c4 y1 y2 s1 s2 t1 t2 t3 k1 k2 k3 k4 k5 k6 k7 k8 k9 k10 k11 x1 x2 x3 z1 z2 p1 p2 p3 c1 c2 c5
    go_loopw [13] (fun d wr => ∃ k : Nat, d = .int .i64 (k : Int) ∧ k ≤ 10 ∧ Hid (SumR W a b wr)) (fun d _ => 10 - (intOf d).toNat)
    case atStart => exact ⟨0, rfl, by omega, HR⟩
    case round =>
      clear HR
      obtain ⟨k, rfl, hk, HR⟩ := hrel
      by_cases hlt : k < 10
      · have h1 : (k : Int) < 10 := by omega
        have hi : 0 ≤ (k : Int) ∧ (k : Int) < 10 := by omega
        have hw9 : IntKind.i64.wrap ((k : Int) + 1) = (k : Int) + 1 := by rw [IntKind.wrap_i64]; omega
        have e28 : (28 : Int) + (k : Int) = ((28 + k : Nat) : Int) := by omega
        have w28 : IntKind.i64.wrap ((28 + k : Nat) : Int) = ((28 + k : Nat) : Int) := by rw [IntKind.wrap_i64]; omega
        have HAL := Vx.hid (HR.out.alone HW.out HAB.out (28 + k) (by omega))
        have HRC : Hid (∀ wv, SumR W a b wv → wv.cell? ⟨W.heap.size, k, none⟩ = some (.int .u32 (arithF (28 + k) a b : Nat))) := fun wv h => h.r1 k hlt
        generalize arithF (28 + k) a b = V at HAL HRC
        generalize 28 + k = K at e28 w28 HAL
        go_wp2_with fail
        refine HAL.out.mono ?_
        rintro e w5 ⟨rfl, h5⟩
        have HR5 := Vx.hid h5
        have hck := HRC.out w5 h5
        clear h5 HAL HRC
        go_wp2_with fail
        all_goals
          go_roundw
          case rel => exact ⟨k + 1, by go_num, by omega, HR5⟩
          case measure => simp only [intOf]; omega
      · have h1 : ¬ (k : Int) < 10 := by omega
        clear hlt hk
        go_wp2_with fail
        go_loopw [16] (fun d wr => ∃ k : Nat, d = .int .i64 (k : Int) ∧ k ≤ 8 ∧ Hid (SumR W a b wr)) (fun d _ => 8 - (intOf d).toNat)
        case atStart => exact ⟨0, rfl, by omega, HR⟩
        case round =>
          clear HR
          obtain ⟨k, rfl, hk, HR⟩ := hrel
          by_cases hlt : k < 8
          · have h1 : (k : Int) < 8 := by omega
            have hi : 0 ≤ (k : Int) ∧ (k : Int) < 8 := by omega
            have hw9 : IntKind.i64.wrap ((k : Int) + 1) = (k : Int) + 1 := by rw [IntKind.wrap_i64]; omega
            have e28 : (41 : Int) + (k : Int) = ((41 + k : Nat) : Int) := by omega
            have w28 : IntKind.i64.wrap ((41 + k : Nat) : Int) = ((41 + k : Nat) : Int) := by rw [IntKind.wrap_i64]; omega
            have HAL := Vx.hid (HR.out.alone HW.out HAB.out (41 + k) (by omega))
            have HRC : Hid (∀ wv, SumR W a b wv → wv.cell? ⟨W.heap.size + 1, k, none⟩ = some (.int .u32 (arithF (41 + k) a b : Nat))) := fun wv h => h.r2 k hlt
            generalize arithF (41 + k) a b = V at HAL HRC
            generalize 41 + k = K at e28 w28 HAL
            go_wp2_with fail
            refine HAL.out.mono ?_
            rintro e w5 ⟨rfl, h5⟩
            have HR5 := Vx.hid h5
            have hck := HRC.out w5 h5
            clear h5 HAL HRC
            go_wp2_with fail
            all_goals
              go_roundw
              case rel => exact ⟨k + 1, by go_num, by omega, HR5⟩
              case measure => simp only [intOf]; omega
          · have h1 : ¬ (k : Int) < 8 := by omega
            clear hlt hk
            go_wp2_with fail
            all_goals
              go_ret
              exact ⟨rfl, HR.out.be⟩
  ·
    have c5 : ((b : Int) != 0) = false := by simp; omega
    have c6 : (b : Int) = 0 := by omega
    have C6 := Vx.hid c6
    clear y0 c6
    have HC := Vx.hid (⟨c1, c2, c3⟩ : _ ∧ _ ∧ _)
    clear c3
    go_enter Tryd.func4, Tryd.ntmps4
    go_wp2_with fail
    obtain ⟨W9, hW9⟩ : ∃ W9, W9 = ((W.alloc (.cells #[.int .u32 (((a : Int) + b) % 4294967296), .int .u32 (((a : Int) - b) % 4294967296), .int .u32 ((a : Int) * 2 ^ n % 4294967296), .int .u32 0, .int .u32 1, .int .u32 ((a ^^^ b : Nat) : Int), .int .u32 (qn : Int), .int .u32 (x / 2 ^ n % 4294967296), .int .u32 ((a ||| b : Nat) : Int), .int .u32 ((a &&& b : Nat) : Int)] 23)).alloc (.cells #[.int .u32 (P3 % 4294967296), .int .u32 (P1 / 4294967296 % 4294967296), .int .u32 (P2 / 4294967296 % 4294967296), .int .u32 (P3 / 4294967296 % 4294967296), .int .u32 4294967295, .int .u32 4294967295, .int .u32 (a : Int), .int .u32 (a : Int)] 23)) := ⟨_, rfl⟩
    have HR : Hid (SumR W a b W9) := by
      obtain ⟨hx, hy⟩ := HXY.out
      obtain ⟨hP1, hP2, hP3⟩ := HPS.out
      have hn := HN.out
      have hq := HQN.out
      obtain ⟨d1, d2, d3⟩ := HC.out
      rw [hW9]
      subst hq hn hP1 hP2 hP3 hx hy
      refine sumR_mk W a b _ _ (fun i hi => ?_) (fun i hi => ?_)
      · have hc : i = 0 ∨ i = 1 ∨ i = 2 ∨ i = 3 ∨ i = 4 ∨ i = 5 ∨ i = 6 ∨ i = 7 ∨ i = 8 ∨ i = 9 := by omega
        rcases hc with rfl | rfl | rfl | rfl | rfl | rfl | rfl | rfl | rfl | rfl
        · exact congrArg (fun z => some (Value.int .u32 z)) (v28 a b)
        · exact congrArg (fun z => some (Value.int .u32 z)) (v29 a b)
        · exact congrArg (fun z => some (Value.int .u32 z)) (v30 a b)
        · exact congrArg (fun z => some (Value.int .u32 z)) (v31n a b (by omega))
        · exact congrArg (fun z => some (Value.int .u32 z)) (v32p a b (by omega))
        · rfl
        · rfl
        · exact congrArg (fun z => some (Value.int .u32 z)) (v35 a b)
        · rfl
        · rfl
      · have hc : i = 0 ∨ i = 1 ∨ i = 2 ∨ i = 3 ∨ i = 4 ∨ i = 5 ∨ i = 6 ∨ i = 7 := by omega
        rcases hc with rfl | rfl | rfl | rfl | rfl | rfl | rfl | rfl
        · exact congrArg (fun z => some (Value.int .u32 z)) (v41 a b)
        · exact congrArg (fun z => some (Value.int .u32 z)) (v42 a b)
        · exact congrArg (fun z => some (Value.int .u32 z)) (v43 a b)
        · exact congrArg (fun z => some (Value.int .u32 z)) (v44 a b)
        · exact congrArg (fun z => some (Value.int .u32 z)) (v45z a b d3)
        · exact congrArg (fun z => some (Value.int .u32 z)) (v46z a b d3)
        · exact congrArg (fun z => some (Value.int .u32 z)) (v47z a b d3)
        · exact congrArg (fun z => some (Value.int .u32 z)) (v48z a b d3)
    rw [← hW9]
    clear hW9 HXY HPS HN HQN HC C6 s1 s2 t1 t2 t3 k1 k2 k3 k4 k5 k6 k7 k8 k9 k10 k11 x1 x2 x3 z1 z2 p1 p2 p3 c1 c2 c5
    go_loopw [13] (fun d wr => ∃ k : Nat, d = .int .i64 (k : Int) ∧ k ≤ 10 ∧ Hid (SumR W a b wr)) (fun d _ => 10 - (intOf d).toNat)
    case atStart => exact ⟨0, rfl, by omega, HR⟩
    case round =>
      clear HR
      obtain ⟨k, rfl, hk, HR⟩ := hrel
      by_cases hlt : k < 10
      · have h1 : (k : Int) < 10 := by omega
        have hi : 0 ≤ (k : Int) ∧ (k : Int) < 10 := by omega
        have hw9 : IntKind.i64.wrap ((k : Int) + 1) = (k : Int) + 1 := by rw [IntKind.wrap_i64]; omega
        have e28 : (28 : Int) + (k : Int) = ((28 + k : Nat) : Int) := by omega
        have w28 : IntKind.i64.wrap ((28 + k : Nat) : Int) = ((28 + k : Nat) : Int) := by rw [IntKind.wrap_i64]; omega
        have HAL := Vx.hid (HR.out.alone HW.out HAB.out (28 + k) (by omega))
        have HRC : Hid (∀ wv, SumR W a b wv → wv.cell? ⟨W.heap.size, k, none⟩ = some (.int .u32 (arithF (28 + k) a b : Nat))) := fun wv h => h.r1 k hlt
        generalize arithF (28 + k) a b = V at HAL HRC
        generalize 28 + k = K at e28 w28 HAL
        go_wp2_with fail
        refine HAL.out.mono ?_
        rintro e w5 ⟨rfl, h5⟩
        have HR5 := Vx.hid h5
        have hck := HRC.out w5 h5
        clear h5 HAL HRC
        go_wp2_with fail
        all_goals
          go_roundw
          case rel => exact ⟨k + 1, by go_num, by omega, HR5⟩
          case measure => simp only [intOf]; omega
      · have h1 : ¬ (k : Int) < 10 := by omega
        clear hlt hk
        go_wp2_with fail
        go_loopw [16] (fun d wr => ∃ k : Nat, d = .int .i64 (k : Int) ∧ k ≤ 8 ∧ Hid (SumR W a b wr)) (fun d _ => 8 - (intOf d).toNat)
        case atStart => exact ⟨0, rfl, by omega, HR⟩
        case round =>
          clear HR
          obtain ⟨k, rfl, hk, HR⟩ := hrel
          by_cases hlt : k < 8
          · have h1 : (k : Int) < 8 := by omega
            have hi : 0 ≤ (k : Int) ∧ (k : Int) < 8 := by omega
            have hw9 : IntKind.i64.wrap ((k : Int) + 1) = (k : Int) + 1 := by rw [IntKind.wrap_i64]; omega
            have e28 : (41 : Int) + (k : Int) = ((41 + k : Nat) : Int) := by omega
            have w28 : IntKind.i64.wrap ((41 + k : Nat) : Int) = ((41 + k : Nat) : Int) := by rw [IntKind.wrap_i64]; omega
            have HAL := Vx.hid (HR.out.alone HW.out HAB.out (41 + k) (by omega))
            have HRC : Hid (∀ wv, SumR W a b wv → wv.cell? ⟨W.heap.size + 1, k, none⟩ = some (.int .u32 (arithF (41 + k) a b : Nat))) := fun wv h => h.r2 k hlt
            generalize arithF (41 + k) a b = V at HAL HRC
            generalize 41 + k = K at e28 w28 HAL
            go_wp2_with fail
            refine HAL.out.mono ?_
            rintro e w5 ⟨rfl, h5⟩
            have HR5 := Vx.hid h5
            have hck := HRC.out w5 h5
            clear h5 HAL HRC
            go_wp2_with fail
            all_goals
              go_roundw
              case rel => exact ⟨k + 1, by go_num, by omega, HR5⟩
              case measure => simp only [intOf]; omega
          · have h1 : ¬ (k : Int) < 8 := by omega
            clear hlt hk
            go_wp2_with fail
            all_goals
              go_ret
              exact ⟨rfl, HR.out.be⟩
  ·
    have c4 : ¬ (b : Int) = 0 := by omega
    have c5 : ((b : Int) != 0) = true := by simp; omega
    have y1 := y0 c3
    have y2 : (y == 0) = false := by simpa using y1
    clear y0
    have HC := Vx.hid (⟨c1, c2, c3⟩ : _ ∧ _ ∧ _)
    clear c3
    go_enter Tryd.func4, Tryd.ntmps4
    go_wp2_with fail
    obtain ⟨W9, hW9⟩ : ∃ W9, W9 = ((W.alloc (.cells #[.int .u32 (((a : Int) + b) % 4294967296), .int .u32 (((a : Int) - b) % 4294967296), .int .u32 ((a : Int) * 2 ^ n % 4294967296), .int .u32 0, .int .u32 1, .int .u32 ((a ^^^ b : Nat) : Int), .int .u32 (qn : Int), .int .u32 (x / 2 ^ n % 4294967296), .int .u32 ((a ||| b : Nat) : Int), .int .u32 ((a &&& b : Nat) : Int)] 23)).alloc (.cells #[.int .u32 (P3 % 4294967296), .int .u32 (P1 / 4294967296 % 4294967296), .int .u32 (P2 / 4294967296 % 4294967296), .int .u32 (P3 / 4294967296 % 4294967296), .int .u32 (wrap64 (Int.tdiv x y) % 4294967296), .int .u32 ((a : Int) / (b : Int) % 4294967296), .int .u32 (Int.tmod x y % 4294967296), .int .u32 ((a : Int) % (b : Int))] 23)) := ⟨_, rfl⟩
    have HR : Hid (SumR W a b W9) := by
      obtain ⟨hx, hy⟩ := HXY.out
      obtain ⟨hP1, hP2, hP3⟩ := HPS.out
      have hn := HN.out
      have hq := HQN.out
      obtain ⟨d1, d2, d3⟩ := HC.out
      rw [hW9]
      subst hq hn hP1 hP2 hP3 hx hy
      refine sumR_mk W a b _ _ (fun i hi => ?_) (fun i hi => ?_)
      · have hc : i = 0 ∨ i = 1 ∨ i = 2 ∨ i = 3 ∨ i = 4 ∨ i = 5 ∨ i = 6 ∨ i = 7 ∨ i = 8 ∨ i = 9 := by omega
        rcases hc with rfl | rfl | rfl | rfl | rfl | rfl | rfl | rfl | rfl | rfl
        · exact congrArg (fun z => some (Value.int .u32 z)) (v28 a b)
        · exact congrArg (fun z => some (Value.int .u32 z)) (v29 a b)
        · exact congrArg (fun z => some (Value.int .u32 z)) (v30 a b)
        · exact congrArg (fun z => some (Value.int .u32 z)) (v31n a b (by omega))
        · exact congrArg (fun z => some (Value.int .u32 z)) (v32p a b (by omega))
        · rfl
        · rfl
        · exact congrArg (fun z => some (Value.int .u32 z)) (v35 a b)
        · rfl
        · rfl
      · have hc : i = 0 ∨ i = 1 ∨ i = 2 ∨ i = 3 ∨ i = 4 ∨ i = 5 ∨ i = 6 ∨ i = 7 := by omega
        rcases hc with rfl | rfl | rfl | rfl | rfl | rfl | rfl | rfl
        · exact congrArg (fun z => some (Value.int .u32 z)) (v41 a b)
        · exact congrArg (fun z => some (Value.int .u32 z)) (v42 a b)
        · exact congrArg (fun z => some (Value.int .u32 z)) (v43 a b)
        · exact congrArg (fun z => some (Value.int .u32 z)) (v44 a b)
        · exact congrArg (fun z => some (Value.int .u32 z)) (v45 a b d3)
        · exact congrArg (fun z => some (Value.int .u32 z)) (v46 a b HAB.out.1 d3)
        · exact congrArg (fun z => some (Value.int .u32 z)) (v47 a b d3)
        · exact congrArg (fun z => some (Value.int .u32 z)) (v48 a b d3)
    rw [← hW9]
    clear hW9 HXY HPS HN HQN HC c4 y1 y2 s1 s2 t1 t2 t3 k1 k2 k3 k4 k5 k6 k7 k8 k9 k10 k11 x1 x2 x3 z1 z2 p1 p2 p3 c1 c2 c5
    go_loopw [13] (fun d wr => ∃ k : Nat, d = .int .i64 (k : Int) ∧ k ≤ 10 ∧ Hid (SumR W a b wr)) (fun d _ => 10 - (intOf d).toNat)
    case atStart => exact ⟨0, rfl, by omega, HR⟩
    case round =>
      clear HR
      obtain ⟨k, rfl, hk, HR⟩ := hrel
      by_cases hlt : k < 10
      · have h1 : (k : Int) < 10 := by omega
        have hi : 0 ≤ (k : Int) ∧ (k : Int) < 10 := by omega
        have hw9 : IntKind.i64.wrap ((k : Int) + 1) = (k : Int) + 1 := by rw [IntKind.wrap_i64]; omega
        have e28 : (28 : Int) + (k : Int) = ((28 + k : Nat) : Int) := by omega
        have w28 : IntKind.i64.wrap ((28 + k : Nat) : Int) = ((28 + k : Nat) : Int) := by rw [IntKind.wrap_i64]; omega
        have HAL := Vx.hid (HR.out.alone HW.out HAB.out (28 + k) (by omega))
        have HRC : Hid (∀ wv, SumR W a b wv → wv.cell? ⟨W.heap.size, k, none⟩ = some (.int .u32 (arithF (28 + k) a b : Nat))) := fun wv h => h.r1 k hlt
        generalize arithF (28 + k) a b = V at HAL HRC
        generalize 28 + k = K at e28 w28 HAL
        go_wp2_with fail
        refine HAL.out.mono ?_
        rintro e w5 ⟨rfl, h5⟩
        have HR5 := Vx.hid h5
        have hck := HRC.out w5 h5
        clear h5 HAL HRC
        go_wp2_with fail
        all_goals
          go_roundw
          case rel => exact ⟨k + 1, by go_num, by omega, HR5⟩
          case measure => simp only [intOf]; omega
      · have h1 : ¬ (k : Int) < 10 := by omega
        clear hlt hk
        go_wp2_with fail
        go_loopw [16] (fun d wr => ∃ k : Nat, d = .int .i64 (k : Int) ∧ k ≤ 8 ∧ Hid (SumR W a b wr)) (fun d _ => 8 - (intOf d).toNat)
        case atStart => exact ⟨0, rfl, by omega, HR⟩
        case round =>
          clear HR
          obtain ⟨k, rfl, hk, HR⟩ := hrel
          by_cases hlt : k < 8
          · have h1 : (k : Int) < 8 := by omega
            have hi : 0 ≤ (k : Int) ∧ (k : Int) < 8 := by omega
            have hw9 : IntKind.i64.wrap ((k : Int) + 1) = (k : Int) + 1 := by rw [IntKind.wrap_i64]; omega
            have e28 : (41 : Int) + (k : Int) = ((41 + k : Nat) : Int) := by omega
            have w28 : IntKind.i64.wrap ((41 + k : Nat) : Int) = ((41 + k : Nat) : Int) := by rw [IntKind.wrap_i64]; omega
            have HAL := Vx.hid (HR.out.alone HW.out HAB.out (41 + k) (by omega))
            have HRC : Hid (∀ wv, SumR W a b wv → wv.cell? ⟨W.heap.size + 1, k, none⟩ = some (.int .u32 (arithF (41 + k) a b : Nat))) := fun wv h => h.r2 k hlt
            generalize arithF (41 + k) a b = V at HAL HRC
            generalize 41 + k = K at e28 w28 HAL
            go_wp2_with fail
            refine HAL.out.mono ?_
            rintro e w5 ⟨rfl, h5⟩
            have HR5 := Vx.hid h5
            have hck := HRC.out w5 h5
            clear h5 HAL HRC
            go_wp2_with fail
            all_goals
              go_roundw
              case rel => exact ⟨k + 1, by go_num, by omega, HR5⟩
              case measure => simp only [intOf]; omega
          · have h1 : ¬ (k : Int) < 8 := by omega
            clear hlt hk
            go_wp2_with fail
            all_goals
              go_ret
              exact ⟨rfl, HR.out.be⟩
  ·
    have c5 : ((b : Int) != 0) = false := by simp; omega
    have c6 : (b : Int) = 0 := by omega
    have C6 := Vx.hid c6
    clear y0 c6
    have HC := Vx.hid (⟨c1, c2, c3⟩ : _ ∧ _ ∧ _)
    clear c3
    go_enter Tryd.func4, Tryd.ntmps4
    go_wp2_with fail
    obtain ⟨W9, hW9⟩ : ∃ W9, W9 = ((W.alloc (.cells #[.int .u32 (((a : Int) + b) % 4294967296), .int .u32 (((a : Int) - b) % 4294967296), .int .u32 ((a : Int) * 2 ^ n % 4294967296), .int .u32 0, .int .u32 0, .int .u32 ((a ^^^ b : Nat) : Int), .int .u32 (qn : Int), .int .u32 (x / 2 ^ n % 4294967296), .int .u32 ((a ||| b : Nat) : Int), .int .u32 ((a &&& b : Nat) : Int)] 23)).alloc (.cells #[.int .u32 (P3 % 4294967296), .int .u32 (P1 / 4294967296 % 4294967296), .int .u32 (P2 / 4294967296 % 4294967296), .int .u32 (P3 / 4294967296 % 4294967296), .int .u32 4294967295, .int .u32 4294967295, .int .u32 (a : Int), .int .u32 (a : Int)] 23)) := ⟨_, rfl⟩
    have HR : Hid (SumR W a b W9) := by
      obtain ⟨hx, hy⟩ := HXY.out
      obtain ⟨hP1, hP2, hP3⟩ := HPS.out
      have hn := HN.out
      have hq := HQN.out
      obtain ⟨d1, d2, d3⟩ := HC.out
      rw [hW9]
      subst hq hn hP1 hP2 hP3 hx hy
      refine sumR_mk W a b _ _ (fun i hi => ?_) (fun i hi => ?_)
      · have hc : i = 0 ∨ i = 1 ∨ i = 2 ∨ i = 3 ∨ i = 4 ∨ i = 5 ∨ i = 6 ∨ i = 7 ∨ i = 8 ∨ i = 9 := by omega
        rcases hc with rfl | rfl | rfl | rfl | rfl | rfl | rfl | rfl | rfl | rfl
        · exact congrArg (fun z => some (Value.int .u32 z)) (v28 a b)
        · exact congrArg (fun z => some (Value.int .u32 z)) (v29 a b)
        · exact congrArg (fun z => some (Value.int .u32 z)) (v30 a b)
        · exact congrArg (fun z => some (Value.int .u32 z)) (v31n a b (by omega))
        · exact congrArg (fun z => some (Value.int .u32 z)) (v32n a b (by omega))
        · rfl
        · rfl
        · exact congrArg (fun z => some (Value.int .u32 z)) (v35 a b)
        · rfl
        · rfl
      · have hc : i = 0 ∨ i = 1 ∨ i = 2 ∨ i = 3 ∨ i = 4 ∨ i = 5 ∨ i = 6 ∨ i = 7 := by omega
        rcases hc with rfl | rfl | rfl | rfl | rfl | rfl | rfl | rfl
        · exact congrArg (fun z => some (Value.int .u32 z)) (v41 a b)
        · exact congrArg (fun z => some (Value.int .u32 z)) (v42 a b)
        · exact congrArg (fun z => some (Value.int .u32 z)) (v43 a b)
        · exact congrArg (fun z => some (Value.int .u32 z)) (v44 a b)
        · exact congrArg (fun z => some (Value.int .u32 z)) (v45z a b d3)
        · exact congrArg (fun z => some (Value.int .u32 z)) (v46z a b d3)
        · exact congrArg (fun z => some (Value.int .u32 z)) (v47z a b d3)
        · exact congrArg (fun z => some (Value.int .u32 z)) (v48z a b d3)
    rw [← hW9]
    clear hW9 HXY HPS HN HQN HC C6 s1 s2 t1 t2 t3 k1 k2 k3 k4 k5 k6 k7 k8 k9 k10 k11 x1 x2 x3 z1 z2 p1 p2 p3 c1 c2 c5
    go_loopw [13] (fun d wr => ∃ k : Nat, d = .int .i64 (k : Int) ∧ k ≤ 10 ∧ Hid (SumR W a b wr)) (fun d _ => 10 - (intOf d).toNat)
    case atStart => exact ⟨0, rfl, by omega, HR⟩
    case round =>
      clear HR
      obtain ⟨k, rfl, hk, HR⟩ := hrel
      by_cases hlt : k < 10
      · have h1 : (k : Int) < 10 := by omega
        have hi : 0 ≤ (k : Int) ∧ (k : Int) < 10 := by omega
        have hw9 : IntKind.i64.wrap ((k : Int) + 1) = (k : Int) + 1 := by rw [IntKind.wrap_i64]; omega
        have e28 : (28 : Int) + (k : Int) = ((28 + k : Nat) : Int) := by omega
        have w28 : IntKind.i64.wrap ((28 + k : Nat) : Int) = ((28 + k : Nat) : Int) := by rw [IntKind.wrap_i64]; omega
        have HAL := Vx.hid (HR.out.alone HW.out HAB.out (28 + k) (by omega))
        have HRC : Hid (∀ wv, SumR W a b wv → wv.cell? ⟨W.heap.size, k, none⟩ = some (.int .u32 (arithF (28 + k) a b : Nat))) := fun wv h => h.r1 k hlt
        generalize arithF (28 + k) a b = V at HAL HRC
        generalize 28 + k = K at e28 w28 HAL
        go_wp2_with fail
        refine HAL.out.mono ?_
        rintro e w5 ⟨rfl, h5⟩
        have HR5 := Vx.hid h5
        have hck := HRC.out w5 h5
        clear h5 HAL HRC
        go_wp2_with fail
        all_goals
          go_roundw
          case rel => exact ⟨k + 1, by go_num, by omega, HR5⟩
          case measure => simp only [intOf]; omega
      · have h1 : ¬ (k : Int) < 10 := by omega
        clear hlt hk
        go_wp2_with fail
        go_loopw [16] (fun d wr => ∃ k : Nat, d = .int .i64 (k : Int) ∧ k ≤ 8 ∧ Hid (SumR W a b wr)) (fun d _ => 8 - (intOf d).toNat)
        case atStart => exact ⟨0, rfl, by omega, HR⟩
        case round =>
          clear HR
          obtain ⟨k, rfl, hk, HR⟩ := hrel
          by_cases hlt : k < 8
          · have h1 : (k : Int) < 8 := by omega
            have hi : 0 ≤ (k : Int) ∧ (k : Int) < 8 := by omega
            have hw9 : IntKind.i64.wrap ((k : Int) + 1) = (k : Int) + 1 := by rw [IntKind.wrap_i64]; omega
            have e28 : (41 : Int) + (k : Int) = ((41 + k : Nat) : Int) := by omega
            have w28 : IntKind.i64.wrap ((41 + k : Nat) : Int) = ((41 + k : Nat) : Int) := by rw [IntKind.wrap_i64]; omega
            have HAL := Vx.hid (HR.out.alone HW.out HAB.out (41 + k) (by omega))
            have HRC : Hid (∀ wv, SumR W a b wv → wv.cell? ⟨W.heap.size + 1, k, none⟩ = some (.int .u32 (arithF (41 + k) a b : Nat))) := fun wv h => h.r2 k hlt
            generalize arithF (41 + k) a b = V at HAL HRC
            generalize 41 + k = K at e28 w28 HAL
            go_wp2_with fail
            refine HAL.out.mono ?_
            rintro e w5 ⟨rfl, h5⟩
            have HR5 := Vx.hid h5
            have hck := HRC.out w5 h5
            clear h5 HAL HRC
            go_wp2_with fail
            all_goals
              go_roundw
              case rel => exact ⟨k + 1, by go_num, by omega, HR5⟩
              case measure => simp only [intOf]; omega
          · have h1 : ¬ (k : Int) < 8 := by omega
            clear hlt hk
            go_wp2_with fail
            all_goals
              go_ret
              exact ⟨rfl, HR.out.be⟩
  ·
    have c4 : ¬ (b : Int) = 0 := by omega
    have c5 : ((b : Int) != 0) = true := by simp; omega
    have y1 := y0 c3
    have y2 : (y == 0) = false := by simpa using y1
    clear y0
    have HC := Vx.hid (⟨c1, c2, c3⟩ : _ ∧ _ ∧ _)
    clear c3
    go_enter Tryd.func4, Tryd.ntmps4
    go_wp2_with fail
    obtain ⟨W9, hW9⟩ : ∃ W9, W9 = ((W.alloc (.cells #[.int .u32 (((a : Int) + b) % 4294967296), .int .u32 (((a : Int) - b) % 4294967296), .int .u32 ((a : Int) * 2 ^ n % 4294967296), .int .u32 0, .int .u32 0, .int .u32 ((a ^^^ b : Nat) : Int), .int .u32 (qn : Int), .int .u32 (x / 2 ^ n % 4294967296), .int .u32 ((a ||| b : Nat) : Int), .int .u32 ((a &&& b : Nat) : Int)] 23)).alloc (.cells #[.int .u32 (P3 % 4294967296), .int .u32 (P1 / 4294967296 % 4294967296), .int .u32 (P2 / 4294967296 % 4294967296), .int .u32 (P3 / 4294967296 % 4294967296), .int .u32 (wrap64 (Int.tdiv x y) % 4294967296), .int .u32 ((a : Int) / (b : Int) % 4294967296), .int .u32 (Int.tmod x y % 4294967296), .int .u32 ((a : Int) % (b : Int))] 23)) := ⟨_, rfl⟩
    have HR : Hid (SumR W a b W9) := by
      obtain ⟨hx, hy⟩ := HXY.out
      obtain ⟨hP1, hP2, hP3⟩ := HPS.out
      have hn := HN.out
      have hq := HQN.out
      obtain ⟨d1, d2, d3⟩ := HC.out
      rw [hW9]
      subst hq hn hP1 hP2 hP3 hx hy
      refine sumR_mk W a b _ _ (fun i hi => ?_) (fun i hi => ?_)
      · have hc : i = 0 ∨ i = 1 ∨ i = 2 ∨ i = 3 ∨ i = 4 ∨ i = 5 ∨ i = 6 ∨ i = 7 ∨ i = 8 ∨ i = 9 := by omega
        rcases hc with rfl | rfl | rfl | rfl | rfl | rfl | rfl | rfl | rfl | rfl
        · exact congrArg (fun z => some (Value.int .u32 z)) (v28 a b)
        · exact congrArg (fun z => some (Value.int .u32 z)) (v29 a b)
        · exact congrArg (fun z => some (Value.int .u32 z)) (v30 a b)
        · exact congrArg (fun z => some (Value.int .u32 z)) (v31n a b (by omega))
        · exact congrArg (fun z => some (Value.int .u32 z)) (v32n a b (by omega))
        · rfl
        · rfl
        · exact congrArg (fun z => some (Value.int .u32 z)) (v35 a b)
        · rfl
        · rfl
      · have hc : i = 0 ∨ i = 1 ∨ i = 2 ∨ i = 3 ∨ i = 4 ∨ i = 5 ∨ i = 6 ∨ i = 7 := by omega
        rcases hc with rfl | rfl | rfl | rfl | rfl | rfl | rfl | rfl
        · exact congrArg (fun z => some (Value.int .u32 z)) (v41 a b)
        · exact congrArg (fun z => some (Value.int .u32 z)) (v42 a b)
        · exact congrArg (fun z => some (Value.int .u32 z)) (v43 a b)
        · exact congrArg (fun z => some (Value.int .u32 z)) (v44 a b)
        · exact congrArg (fun z => some (Value.int .u32 z)) (v45 a b d3)
        · exact congrArg (fun z => some (Value.int .u32 z)) (v46 a b HAB.out.1 d3)
        · exact congrArg (fun z => some (Value.int .u32 z)) (v47 a b d3)
        · exact congrArg (fun z => some (Value.int .u32 z)) (v48 a b d3)
    rw [← hW9]
    clear hW9 HXY HPS HN HQN HC c4 y1 y2 s1 s2 t1 t2 t3 k1 k2 k3 k4 k5 k6 k7 k8 k9 k10 k11 x1 x2 x3 z1 z2 p1 p2 p3 c1 c2 c5
    go_loopw [13] (fun d wr => ∃ k : Nat, d = .int .i64 (k : Int) ∧ k ≤ 10 ∧ Hid (SumR W a b wr)) (fun d _ => 10 - (intOf d).toNat)
    case atStart => exact ⟨0, rfl, by omega, HR⟩
    case round =>
      clear HR
      obtain ⟨k, rfl, hk, HR⟩ := hrel
      by_cases hlt : k < 10
      · have h1 : (k : Int) < 10 := by omega
        have hi : 0 ≤ (k : Int) ∧ (k : Int) < 10 := by omega
        have hw9 : IntKind.i64.wrap ((k : Int) + 1) = (k : Int) + 1 := by rw [IntKind.wrap_i64]; omega
        have e28 : (28 : Int) + (k : Int) = ((28 + k : Nat) : Int) := by omega
        have w28 : IntKind.i64.wrap ((28 + k : Nat) : Int) = ((28 + k : Nat) : Int) := by rw [IntKind.wrap_i64]; omega
        have HAL := Vx.hid (HR.out.alone HW.out HAB.out (28 + k) (by omega))
        have HRC : Hid (∀ wv, SumR W a b wv → wv.cell? ⟨W.heap.size, k, none⟩ = some (.int .u32 (arithF (28 + k) a b : Nat))) := fun wv h => h.r1 k hlt
        generalize arithF (28 + k) a b = V at HAL HRC
        generalize 28 + k = K at e28 w28 HAL
        go_wp2_with fail
        refine HAL.out.mono ?_
        rintro e w5 ⟨rfl, h5⟩
        have HR5 := Vx.hid h5
        have hck := HRC.out w5 h5
        clear h5 HAL HRC
        go_wp2_with fail
        all_goals
          go_roundw
          case rel => exact ⟨k + 1, by go_num, by omega, HR5⟩
          case measure => simp only [intOf]; omega
      · have h1 : ¬ (k : Int) < 10 := by omega
        clear hlt hk
        go_wp2_with fail
        go_loopw [16] (fun d wr => ∃ k : Nat, d = .int .i64 (k : Int) ∧ k ≤ 8 ∧ Hid (SumR W a b wr)) (fun d _ => 8 - (intOf d).toNat)
        case atStart => exact ⟨0, rfl, by omega, HR⟩
        case round =>
          clear HR
          obtain ⟨k, rfl, hk, HR⟩ := hrel
          by_cases hlt : k < 8
          · have h1 : (k : Int) < 8 := by omega
            have hi : 0 ≤ (k : Int) ∧ (k : Int) < 8 := by omega
            have hw9 : IntKind.i64.wrap ((k : Int) + 1) = (k : Int) + 1 := by rw [IntKind.wrap_i64]; omega
            have e28 : (41 : Int) + (k : Int) = ((41 + k : Nat) : Int) := by omega
            have w28 : IntKind.i64.wrap ((41 + k : Nat) : Int) = ((41 + k : Nat) : Int) := by rw [IntKind.wrap_i64]; omega
            have HAL := Vx.hid (HR.out.alone HW.out HAB.out (41 + k) (by omega))
            have HRC : Hid (∀ wv, SumR W a b wv → wv.cell? ⟨W.heap.size + 1, k, none⟩ = some (.int .u32 (arithF (41 + k) a b : Nat))) := fun wv h => h.r2 k hlt
            generalize arithF (41 + k) a b = V at HAL HRC
            generalize 41 + k = K at e28 w28 HAL
            go_wp2_with fail
            refine HAL.out.mono ?_
            rintro e w5 ⟨rfl, h5⟩
            have HR5 := Vx.hid h5
            have hck := HRC.out w5 h5
            clear h5 HAL HRC
            go_wp2_with fail
            all_goals
              go_roundw
              case rel => exact ⟨k + 1, by go_num, by omega, HR5⟩
              case measure => simp only [intOf]; omega
          · have h1 : ¬ (k : Int) < 8 := by omega
            clear hlt hk
            go_wp2_with fail
            all_goals
              go_ret
              exact ⟨rfl, HR.out.be⟩
end Go.Proofs.YtflmobffeeocdaaDoor

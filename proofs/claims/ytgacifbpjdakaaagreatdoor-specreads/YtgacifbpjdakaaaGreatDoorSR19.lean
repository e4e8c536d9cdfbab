/- Package spec: each sort of line is read (gen_sr19.py). -/
import Derived.Test.YtgacifbpjdakaaaGreatDoorSR18
namespace Go.Proofs.YtgacifbpjdakaaaGreatDoor
open Go.ChangeShapes Go.WideShapes Go.ChangeAt Go.RowKit
open Go.Vx
set_option linter.unusedVariables false
set_option linter.unusedSimpArgs false
variable {T : Tx} {x y z : List UInt8}

/-- Words are read. -/
def SayW (wds : List (List UInt8)) (T T' : Tx) : Prop := ∀ (W w : World) (rb : Nat) (V : Rv) (vw : Value), RdAt W w rb V vw wds T → V.gb ≤ w.heap.size → Calls Tryz.prog 14 #[.pointer (some ⟨rb, 0, none⟩)] w fun e w' => e = .returned (.tuple #[]) ∧ Hid (RdX W rb V [] T' w')
theorem say_empty : SayW [] T T := fun W w rb V vw h _ => say_none h
theorem say_turn (a b : Nat) (ha : a < 4294967296) (hb : b < 4294967296) (hl : T.tn.length ≤ 1000) : SayW ([116, 117, 114, 110] :: [Lib.decDigits a, Lib.decDigits b]) T { T with tn := T.tn ++ [((a : Int), (b : Int))] } := fun W w rb V vw h hgb => by
  have hno9 : ∀ k, k < 1 → sayN k ≠ [116, 117, 114, 110] := fun k hk => by
    have h9 : ∀ q : Fin 1, sayN q.val ≠ [116, 117, 114, 110] := by decide
    exact h9 ⟨k, hk⟩
  refine say_ok h (by simp) 1 (by decide) rfl hno9 (fun wv vwv fv hv hf hg => ?_) hgb
  · skip
    have e : fv = .func (.func 29) #[] #[] := hf
    exact ⟨_, _, e, enters_of Tryz.func29 (by kernel_rfl) rfl, turn_ok a b ha hb hv hl⟩
theorem say_box (p s : Nat) (hp : p < 256) (hs : s < 4294967296) (hx : NmOk x) (hno : x ∉ T.nm) (hn : T.nm.length ≤ 1000) (hob : T.ob.length ≤ 1000) : SayW ([98, 111, 120] :: [x, Lib.decDigits p, Lib.decDigits s]) T { T with nm := T.nm ++ [x], ar := T.ar ++ [(5, (p : Int))], ob := T.ob ++ [⟨5, (p : Int), (s : Int)⟩] } := fun W w rb V vw h hgb => by
  have hno9 : ∀ k, k < 9 → sayN k ≠ [98, 111, 120] := fun k hk => by
    have h9 : ∀ q : Fin 9, sayN q.val ≠ [98, 111, 120] := by decide
    exact h9 ⟨k, hk⟩
  refine say_ok h (by simp) 9 (by decide) rfl hno9 (fun wv vwv fv hv hf hg => ?_) hgb
  · skip
    have e : fv = .func (.func 32) #[] #[] := hf
    exact ⟨_, _, e, enters_of Tryz.func32 (by kernel_rfl) rfl, box_ok p s hp hs hv hx hno hn hob⟩
theorem say_untyped (p s : Nat) (hp : p < 256) (hs : s ≤ 8) (hx : NmOk x) (hno : x ∉ T.nm) (hn : T.nm.length ≤ 1000) (hob : T.ob.length ≤ 1000) : SayW ([117, 110, 116, 121, 112, 101, 100] :: [x, Lib.decDigits p, Lib.decDigits s]) T { T with nm := T.nm ++ [x], ar := T.ar ++ [(1, (p : Int) + 256 * (s : Int))], ob := T.ob ++ [⟨1, (p : Int) + 256 * (s : Int), 0⟩] } := fun W w rb V vw h hgb => by
  have hno9 : ∀ k, k < 10 → sayN k ≠ [117, 110, 116, 121, 112, 101, 100] := fun k hk => by
    have h9 : ∀ q : Fin 10, sayN q.val ≠ [117, 110, 116, 121, 112, 101, 100] := by decide
    exact h9 ⟨k, hk⟩
  refine say_ok h (by simp) 10 (by decide) rfl hno9 (fun wv vwv fv hv hf hg => ?_) hgb
  · skip
    have e : fv = .func (.func 33) #[] #[] := hf
    exact ⟨_, _, e, enters_of Tryz.func33 (by kernel_rfl) rfl, untyped_ok p s hp hs hv hx hno hn hob⟩
theorem say_page2 (p : Nat) (hp : p < 256) (hx : NmOk x) (hno : x ∉ T.nm) (hn : T.nm.length ≤ 1000) (hob : T.ob.length ≤ 1000) : SayW ([102, 114, 97, 109, 101] :: [x, Lib.decDigits p]) T { T with nm := T.nm ++ [x], ar := T.ar ++ [(2, (p : Int))], ob := T.ob ++ [⟨2, (p : Int), 0⟩] } := fun W w rb V vw h hgb => by
  have hno9 : ∀ k, k < 3 → sayN k ≠ [102, 114, 97, 109, 101] := fun k hk => by
    have h9 : ∀ q : Fin 3, sayN q.val ≠ [102, 114, 97, 109, 101] := by decide
    exact h9 ⟨k, hk⟩
  refine say_ok h (by simp) 3 (by decide) rfl hno9 (fun wv vwv fv hv hf hg => ?_) hgb
  · skip
    obtain ⟨kb, e, hk⟩ : ∃ kb, fv = .func (.func 65) #[] #[.pointer (some ⟨kb, 0, none⟩)] ∧ KbAt wv kb 2 := hf
    exact ⟨_, _, e, enters_of Tryz.func65 (by kernel_rfl) rfl, onePage_ok 2 kb hk p hp hv hx hno hn hob⟩
theorem say_page3 (p : Nat) (hp : p < 256) (hx : NmOk x) (hno : x ∉ T.nm) (hn : T.nm.length ≤ 1000) (hob : T.ob.length ≤ 1000) : SayW ([116, 97, 98, 108, 101] :: [x, Lib.decDigits p]) T { T with nm := T.nm ++ [x], ar := T.ar ++ [(3, (p : Int))], ob := T.ob ++ [⟨3, (p : Int), 0⟩] } := fun W w rb V vw h hgb => by
  have hno9 : ∀ k, k < 4 → sayN k ≠ [116, 97, 98, 108, 101] := fun k hk => by
    have h9 : ∀ q : Fin 4, sayN q.val ≠ [116, 97, 98, 108, 101] := by decide
    exact h9 ⟨k, hk⟩
  refine say_ok h (by simp) 4 (by decide) rfl hno9 (fun wv vwv fv hv hf hg => ?_) hgb
  · skip
    obtain ⟨kb, e, hk⟩ : ∃ kb, fv = .func (.func 65) #[] #[.pointer (some ⟨kb, 0, none⟩)] ∧ KbAt wv kb 3 := hf
    exact ⟨_, _, e, enters_of Tryz.func65 (by kernel_rfl) rfl, onePage_ok 3 kb hk p hp hv hx hno hn hob⟩
theorem say_page4 (p : Nat) (hp : p < 256) (hx : NmOk x) (hno : x ∉ T.nm) (hn : T.nm.length ≤ 1000) (hob : T.ob.length ≤ 1000) : SayW ([114, 111, 111, 116] :: [x, Lib.decDigits p]) T { T with nm := T.nm ++ [x], ar := T.ar ++ [(4, (p : Int))], ob := T.ob ++ [⟨4, (p : Int), 0⟩] } := fun W w rb V vw h hgb => by
  have hno9 : ∀ k, k < 5 → sayN k ≠ [114, 111, 111, 116] := fun k hk => by
    have h9 : ∀ q : Fin 5, sayN q.val ≠ [114, 111, 111, 116] := by decide
    exact h9 ⟨k, hk⟩
  refine say_ok h (by simp) 5 (by decide) rfl hno9 (fun wv vwv fv hv hf hg => ?_) hgb
  · skip
    obtain ⟨kb, e, hk⟩ : ∃ kb, fv = .func (.func 65) #[] #[.pointer (some ⟨kb, 0, none⟩)] ∧ KbAt wv kb 4 := hf
    exact ⟨_, _, e, enters_of Tryz.func65 (by kernel_rfl) rfl, onePage_ok 4 kb hk p hp hv hx hno hn hob⟩
theorem say_page6 (p : Nat) (hp : p < 256) (hx : NmOk x) (hno : x ∉ T.nm) (hn : T.nm.length ≤ 1000) (hob : T.ob.length ≤ 1000) : SayW ([116, 104, 114, 101, 97, 100] :: [x, Lib.decDigits p]) T { T with nm := T.nm ++ [x], ar := T.ar ++ [(6, (p : Int))], ob := T.ob ++ [⟨6, (p : Int), 0⟩] } := fun W w rb V vw h hgb => by
  have hno9 : ∀ k, k < 6 → sayN k ≠ [116, 104, 114, 101, 97, 100] := fun k hk => by
    have h9 : ∀ q : Fin 6, sayN q.val ≠ [116, 104, 114, 101, 97, 100] := by decide
    exact h9 ⟨k, hk⟩
  refine say_ok h (by simp) 6 (by decide) rfl hno9 (fun wv vwv fv hv hf hg => ?_) hgb
  · skip
    obtain ⟨kb, e, hk⟩ : ∃ kb, fv = .func (.func 65) #[] #[.pointer (some ⟨kb, 0, none⟩)] ∧ KbAt wv kb 6 := hf
    exact ⟨_, _, e, enters_of Tryz.func65 (by kernel_rfl) rfl, onePage_ok 6 kb hk p hp hv hx hno hn hob⟩
theorem say_page7 (p : Nat) (hp : p < 256) (hx : NmOk x) (hno : x ∉ T.nm) (hn : T.nm.length ≤ 1000) (hob : T.ob.length ≤ 1000) : SayW ([101, 110, 100] :: [x, Lib.decDigits p]) T { T with nm := T.nm ++ [x], ar := T.ar ++ [(7, (p : Int))], ob := T.ob ++ [⟨7, (p : Int), 0⟩] } := fun W w rb V vw h hgb => by
  have hno9 : ∀ k, k < 7 → sayN k ≠ [101, 110, 100] := fun k hk => by
    have h9 : ∀ q : Fin 7, sayN q.val ≠ [101, 110, 100] := by decide
    exact h9 ⟨k, hk⟩
  refine say_ok h (by simp) 7 (by decide) rfl hno9 (fun wv vwv fv hv hf hg => ?_) hgb
  · skip
    obtain ⟨kb, e, hk⟩ : ∃ kb, fv = .func (.func 65) #[] #[.pointer (some ⟨kb, 0, none⟩)] ∧ KbAt wv kb 7 := hf
    exact ⟨_, _, e, enters_of Tryz.func65 (by kernel_rfl) rfl, onePage_ok 7 kb hk p hp hv hx hno hn hob⟩
theorem say_page8 (p : Nat) (hp : p < 256) (hx : NmOk x) (hno : x ∉ T.nm) (hn : T.nm.length ≤ 1000) (hob : T.ob.length ≤ 1000) : SayW ([98, 101, 108, 108] :: [x, Lib.decDigits p]) T { T with nm := T.nm ++ [x], ar := T.ar ++ [(8, (p : Int))], ob := T.ob ++ [⟨8, (p : Int), 0⟩] } := fun W w rb V vw h hgb => by
  have hno9 : ∀ k, k < 8 → sayN k ≠ [98, 101, 108, 108] := fun k hk => by
    have h9 : ∀ q : Fin 8, sayN q.val ≠ [98, 101, 108, 108] := by decide
    exact h9 ⟨k, hk⟩
  refine say_ok h (by simp) 8 (by decide) rfl hno9 (fun wv vwv fv hv hf hg => ?_) hgb
  · skip
    obtain ⟨kb, e, hk⟩ : ∃ kb, fv = .func (.func 65) #[] #[.pointer (some ⟨kb, 0, none⟩)] ∧ KbAt wv kb 8 := hf
    exact ⟨_, _, e, enters_of Tryz.func65 (by kernel_rfl) rfl, onePage_ok 8 kb hk p hp hv hx hno hn hob⟩
theorem say_name9 (p : Nat) (hp : p < 8) (hx : NmOk x) (hno : x ∉ T.nm) (hn : T.nm.length ≤ 1000) : SayW ([105, 114, 113] :: [x, Lib.decDigits p]) T { T with nm := T.nm ++ [x], ar := T.ar ++ [(9, (p : Int))] } := fun W w rb V vw h hgb => by
  have hno9 : ∀ k, k < 11 → sayN k ≠ [105, 114, 113] := fun k hk => by
    have h9 : ∀ q : Fin 11, sayN q.val ≠ [105, 114, 113] := by decide
    exact h9 ⟨k, hk⟩
  refine say_ok h (by simp) 11 (by decide) rfl hno9 (fun wv vwv fv hv hf hg => ?_) hgb
  · skip
    obtain ⟨cb, kb, e, hc, hk⟩ : ∃ cb kb, fv = .func (.func 69) #[] #[.pointer (some ⟨cb, 0, none⟩), .pointer (some ⟨kb, 0, none⟩)] ∧ KbAt wv cb 8 ∧ KbAt wv kb 9 := hf
    exact ⟨_, _, e, enters_of Tryz.func69 (by kernel_rfl) rfl, nameAlone_ok 9 cb kb hc hk p hp hv hx hno hn⟩
theorem say_name10 (p : Nat) (hp : p < 8) (hx : NmOk x) (hno : x ∉ T.nm) (hn : T.nm.length ≤ 1000) : SayW ([112, 111, 114, 116] :: [x, Lib.decDigits p]) T { T with nm := T.nm ++ [x], ar := T.ar ++ [(10, (p : Int))] } := fun W w rb V vw h hgb => by
  have hno9 : ∀ k, k < 12 → sayN k ≠ [112, 111, 114, 116] := fun k hk => by
    have h9 : ∀ q : Fin 12, sayN q.val ≠ [112, 111, 114, 116] := by decide
    exact h9 ⟨k, hk⟩
  refine say_ok h (by simp) 12 (by decide) rfl hno9 (fun wv vwv fv hv hf hg => ?_) hgb
  · skip
    obtain ⟨cb, kb, e, hc, hk⟩ : ∃ cb kb, fv = .func (.func 69) #[] #[.pointer (some ⟨cb, 0, none⟩), .pointer (some ⟨kb, 0, none⟩)] ∧ KbAt wv cb 8 ∧ KbAt wv kb 10 := hf
    exact ⟨_, _, e, enters_of Tryz.func69 (by kernel_rfl) rfl, nameAlone_ok 10 cb kb hc hk p hp hv hx hno hn⟩
theorem say_bind (l c : Int) (fy : Fnd T y (9, l)) (fz : Fnd T z (8, c)) (a : Nat) (ha : a < 4294967296) (hl : T.ir.length ≤ 1000) : SayW ([98, 105, 110, 100] :: [y, z, Lib.decDigits a]) T { T with ir := T.ir ++ [⟨l, c, (a : Int)⟩] } := fun W w rb V vw h hgb => by
  have hno9 : ∀ k, k < 18 → sayN k ≠ [98, 105, 110, 100] := fun k hk => by
    have h9 : ∀ q : Fin 18, sayN q.val ≠ [98, 105, 110, 100] := by decide
    exact h9 ⟨k, hk⟩
  refine say_ok h (by simp) 18 (by decide) rfl hno9 (fun wv vwv fv hv hf hg => ?_) hgb
  · skip
    have e : fv = .func (.func 40) #[] #[] := hf
    exact ⟨_, _, e, enters_of Tryz.func40 (by kernel_rfl) rfl, bind_ok l c fy fz a ha hv hl⟩
theorem say_map (k bx rt : Int) (fy : Fnd T y (k, bx)) (hk : k = 5 ∨ k = 6) (fz : Fnd T z (4, rt)) (i a r : Nat) (hi : i < 4294967296) (ha : a < 4294967296) (hr : r < 8) (hl : T.mp.length ≤ 1000) : SayW ([109, 97, 112] :: [y, Lib.decDigits i, z, Lib.decDigits a, letF r]) T { T with mp := T.mp ++ [⟨bx, (i : Int), rt, (a : Int), (r : Int)⟩] } := fun W w rb V vw h hgb => by
  have hno9 : ∀ k, k < 16 → sayN k ≠ [109, 97, 112] := fun k hk => by
    have h9 : ∀ q : Fin 16, sayN q.val ≠ [109, 97, 112] := by decide
    exact h9 ⟨k, hk⟩
  refine say_ok h (by simp) 16 (by decide) rfl hno9 (fun wv vwv fv hv hf hg => ?_) hgb
  · skip
    have e : fv = .func (.func 38) #[] #[] := hf
    exact ⟨_, _, e, enters_of Tryz.func38 (by kernel_rfl) rfl, mapping_ok k bx rt fy hk fz i a r hi ha hr hv hl⟩
theorem say_start (num : Int) (fy : Fnd T y (6, num)) (d p a b r : Nat) (rd : Bool) (hd : d < 4294967296) (hp : p < 4294967296) (ha : a < 4294967296) (hb : b < 4294967296) (hr1 : 1 ≤ r) (hr2 : r < 32) (hl : T.th.length ≤ 1000) : SayW ([115, 116, 97, 114, 116] :: [y, Lib.decDigits d, Lib.decDigits p, (if rd then [114, 101, 97, 100, 121] else [105, 100, 108, 101]), Lib.decDigits a, 120 :: Lib.decDigits r, Lib.decDigits a, 120 :: Lib.decDigits r, Lib.decDigits b]) T { T with th := T.th ++ [⟨num, (d : Int), (p : Int), rd, fun j => if j = r then (b : Int) else 0, (a : Int)⟩] } := fun W w rb V vw h hgb => by
  have hno9 : ∀ k, k < 17 → sayN k ≠ [115, 116, 97, 114, 116] := fun k hk => by
    have h9 : ∀ q : Fin 17, sayN q.val ≠ [115, 116, 97, 114, 116] := by decide
    exact h9 ⟨k, hk⟩
  refine say_ok h (by simp) 17 (by decide) rfl hno9 (fun wv vwv fv hv hf hg => ?_) hgb
  · skip
    have e : fv = .func (.func 39) #[] #[] := hf
    exact ⟨_, _, e, enters_of Tryz.func39 (by kernel_rfl) rfl, start_ok num fy d p a b r rd hd hp ha hb hr1 hr2 hv hl⟩
theorem say_cap (k b o1 o2 : Int) (fy : Fnd T y (k, b)) (hk : k = 5 ∨ k = 6) (fz : Fnd T z (o1, o2)) (i r : Nat) (hi : i < 4294967296) (hr : r < 8) (ps : List Pc) (hps : ∀ W rb V, ∀ p ∈ ps, PtOk W rb V T p) (hnd : (ps.map (·.nm)).Nodup) (hpl : ps.length ≤ 3 ∧ (ptW ps).length ≤ 100) (hl : T.cp.length ≤ 1000) : SayW ([99, 97, 112] :: (y :: Lib.decDigits i :: z :: letF r :: ptW ps)) T { T with cp := T.cp ++ [efF ps ⟨(b, (i : Int)), ⟨o1, o2, (r : Int), 0, 0, 0, 0, 0⟩, (-1, -1)⟩] } := fun W w rb V vw h hgb => by
  have hno9 : ∀ k, k < 15 → sayN k ≠ [99, 97, 112] := fun k hk => by
    have h9 : ∀ q : Fin 15, sayN q.val ≠ [99, 97, 112] := by decide
    exact h9 ⟨k, hk⟩
  refine say_ok h (by have := hpl.2; simp; omega) 15 (by decide) rfl hno9 (fun wv vwv fv hv hf hg => ?_) hgb
  · skip
    have e : fv = .func (.func 37) #[] #[] := hf
    exact ⟨_, _, e, enters_of Tryz.func37 (by kernel_rfl) rfl, cap_ok k b o1 o2 fy hk fz i r hi hr ps (hps W rb V) hnd hpl hv hl hg⟩
end Go.Proofs.YtgacifbpjdakaaaGreatDoor

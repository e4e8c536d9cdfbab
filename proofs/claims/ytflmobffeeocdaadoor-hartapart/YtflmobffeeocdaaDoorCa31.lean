import Derived.Test.YtflmobffeeocdaaDoorCa30
import Derived.Test.YtflmobffeeocdaaDoorCa10
import Derived.Test.YtflmobffeeocdaaDoorCa11
/- The memory that VspaceWalks lays: pure facts. -/
namespace Go.Proofs.YtflmobffeeocdaaDoor
open Go.ChangeShapes Go.WideShapes Go.ChangeAt Go.RowKit
open Go.Vx

/-- The entry of a frame and its rights (0: none). -/
def entV (e : Nat × Nat) : Nat := if e.2 = 0 then 0 else 1024 * e.1 + bitsN (e.2 : Int)
def okE (e : Nat × Nat) : Prop := e = (0, 0) ∨ (4 ≤ e.1 ∧ e.1 < 12 ∧ mayB (e.2 : Int) = true)
theorem okE_cases {e : Nat × Nat} (h : okE e) : e = (0, 0) ∨ (4 ≤ e.1 ∧ e.1 < 12 ∧ (e.2 = 1 ∨ e.2 = 3 ∨ e.2 = 4 ∨ e.2 = 5 ∨ e.2 = 7)) := by
  rcases h with h | ⟨h1, h2, h3⟩
  · exact Or.inl h
  · have := mayB_cases h3
    exact Or.inr ⟨h1, h2, by omega⟩
theorem entV_lt {e : Nat × Nat} (h : okE e) : entV e < 4294967296 := by
  unfold entV
  have := bitsN_lt (e.2 : Int)
  rcases h with h | ⟨h1, h2, _⟩
  · rw [h]; decide
  · split <;> omega
theorem bitsN_pos (r : Int) : bitsN r ≠ 0 := by
  unfold bitsN
  split
  · decide
  · split
    · decide
    · split
      · decide
      · split <;> decide
theorem entV_zero (e : Nat × Nat) : entV e = 0 ↔ e.2 = 0 := by
  unfold entV
  split
  · rename_i h; simp [h]
  · rename_i h
    have := bitsN_pos (e.2 : Int)
    constructor
    · intro h2; omega
    · intro h2; exact absurd h2 h
def updH (H : Nat → Nat × Nat) (v : Nat) (e : Nat × Nat) : Nat → Nat × Nat := fun i => if i = v then e else H i
/-- The bytes. -/
def laidF (H : Nat → Nat × Nat) : Nat → UInt8 := fun x => if 4096 ≤ x ∧ x < 4100 then (fourB 2049).getD (x - 4096) 0 else if 8192 ≤ x ∧ x < 8240 then (fourB (entV (H ((x - 8192) / 4)))).getD ((x - 8192) % 4) 0 else 0
theorem len4 (x : Nat) : (fourB x).length = 4 := rfl
theorem wordF_four (f : Nat → UInt8) (a x : Nat) (hx : x < 4294967296) (h : ∀ i, i < 4 → f (a + i) = (fourB x).getD i 0) : wordF f a = x := by
  have h0 := h 0 (by decide)
  have h1 := h 1 (by decide)
  have h2 := h 2 (by decide)
  have h3 := h 3 (by decide)
  rw [Nat.add_zero] at h0
  unfold wordF
  rw [h0, h1, h2, h3]
  show (UInt8.ofNat (x % 256)).toNat + 256 * (UInt8.ofNat (x / 256 % 256)).toNat + 65536 * (UInt8.ofNat (x / 65536 % 256)).toNat + 16777216 * (UInt8.ofNat (x / 16777216 % 256)).toNat = x
  rw [byte_of, byte_of, byte_of, byte_of]
  omega
theorem word_tab (H : Nat → Nat × Nat) : wordF (laidF H) 4096 = 2049 := by
  refine wordF_four _ _ _ (by decide) (fun i hi => ?_)
  unfold laidF
  rw [if_pos (by omega), show 4096 + i - 4096 = i by omega]
theorem word_frm (H : Nat → Nat × Nat) (v : Nat) (hv : v < 12) (h : okE (H v)) : wordF (laidF H) (8192 + 4 * v) = entV (H v) := by
  refine wordF_four _ _ _ (entV_lt h) (fun i hi => ?_)
  unfold laidF
  rw [if_neg (by omega), if_pos (by omega), show (8192 + 4 * v + i - 8192) / 4 = v by omega, show (8192 + 4 * v + i - 8192) % 4 = i by omega]
theorem put_frm (H : Nat → Nat × Nat) (v : Nat) (hv : v < 12) (e : Nat × Nat) : putF (laidF H) (8192 + 4 * v) (fourB (entV e)) = laidF (updH H v e) := by
  funext x
  unfold putF
  rw [len4]
  by_cases hc : 8192 + 4 * v ≤ x ∧ x < 8192 + 4 * v + 4
  · rw [if_pos hc]
    unfold laidF
    rw [if_neg (by omega), if_pos (by omega), show (x - 8192) / 4 = v by omega, show (x - 8192) % 4 = x - (8192 + 4 * v) by omega]
    unfold updH
    rw [if_pos rfl]
  · rw [if_neg hc]
    unfold laidF
    by_cases h1 : 4096 ≤ x ∧ x < 4100
    · rw [if_pos h1, if_pos h1]
    · rw [if_neg h1, if_neg h1]
      by_cases h2 : 8192 ≤ x ∧ x < 8240
      · rw [if_pos h2, if_pos h2]
        unfold updH
        rw [if_neg (by omega)]
      · rw [if_neg h2, if_neg h2]
theorem four_zero (i : Nat) : (fourB 0).getD i 0 = 0 := by
  show ([0, 0, 0, 0] : List UInt8).getD i 0 = 0
  match i with
  | 0 => rfl
  | 1 => rfl
  | 2 => rfl
  | 3 => rfl
  | _ + 4 => rfl
theorem laid_start : putF (fun _ => 0) 4096 (fourB 2049) = laidF (fun _ => (0, 0)) := by
  funext x
  unfold putF laidF
  rw [len4]
  by_cases h1 : 4096 ≤ x ∧ x < 4100
  · rw [if_pos (by omega), if_pos h1]
  · rw [if_neg (by omega), if_neg h1]
    split
    · exact (four_zero _).symm
    · rfl
theorem laid_end (H : Nat → Nat × Nat) (h : ∀ v, v < 12 → (H v).2 = 0) : putF (laidF H) 4096 (fourB 0) = fun _ => 0 := by
  funext x
  unfold putF
  rw [len4]
  split
  · exact four_zero _
  · unfold laidF
    rw [if_neg (by omega)]
    split
    · rw [(entV_zero _).2 (h _ (by omega))]; exact four_zero _
    · rfl
theorem tabP_1 (va : Nat) (h : va < 4194304) : tabP 1 va = 4096 := by unfold tabP; omega
theorem frmP_2 (v : Nat) (h : v < 12) : frmP 2 (4096 * v) = 8192 + 4 * v := by unfold frmP; omega
theorem tab_laid (H : Nat → Nat × Nat) (va : Nat) (h : va < 4194304) : tabF (laidF H) 12 1 va = some 2 := by
  unfold tabF
  rw [tabP_1 va h, word_tab, if_pos (by decide)]
theorem hasB_12 (p : Nat) (h : p < 12) : hasB 12 (p : Int) = true := by simp [hasB]; omega
theorem tableR_laid : tableR (fun _ => 0) 12 1 0 2 = (laidF (fun _ => (0, 0)), 0) := by
  unfold tableR
  rw [if_pos (by decide)]
  show fillF (fun _ => 0) (tabP 1 0) (1024 * 2 + 1) = _
  rw [tabP_1 0 (by decide)]
  unfold fillF
  rw [if_pos (by decide), laid_start]
theorem noTableR_laid (H : Nat → Nat × Nat) : noTableR (laidF H) 12 1 0 2 = (putF (laidF H) 4096 (fourB 0), 0) := by
  unfold noTableR
  rw [if_pos (by decide)]
  show (if tabF (laidF H) 12 1 0 = some 2 then (putF (laidF H) (tabP 1 0) (fourB 0), 0) else _) = _
  rw [tab_laid H 0 (by decide), if_pos rfl, tabP_1 0 (by decide)]
theorem mapR_laid (H : Nat → Nat × Nat) (v p r : Nat) (hv : v < 12) (hp : p < 12) (hok : okE (H v)) (hr : r ≠ 0) :
    mapR (laidF H) 12 1 (4096 * v) (p : Int) (r : Int) = if mayB (r : Int) = true then (if (H v).2 = 0 then (laidF (updH H v (p, r)), 0) else (laidF H, 7)) else (laidF H, 13) := by
  unfold mapR
  rw [if_pos ⟨by rw [hasB_12 p hp]; decide, by omega⟩, Int.toNat_natCast, show (1 : Int).toNat = 1 from rfl, tab_laid H _ (by omega)]
  split
  · show fillF (laidF H) (frmP 2 (4096 * v)) (1024 * p + bitsN (r : Int)) = _
    rw [frmP_2 v hv]
    unfold fillF
    rw [word_frm H v hv hok]
    by_cases h0 : (H v).2 = 0
    · rw [if_pos ((entV_zero _).2 h0), if_pos h0]
      have : 1024 * p + bitsN (r : Int) = entV (p, r) := by unfold entV; rw [if_neg hr]
      rw [this, put_frm H v hv]
    · rw [if_neg (fun h => h0 ((entV_zero _).1 h)), if_neg h0]
  · rfl
theorem unmapR_laid (H : Nat → Nat × Nat) (v : Nat) (hv : v < 12) (hok : okE (H v)) (hr : (H v).2 ≠ 0) :
    unmapR (laidF H) 12 1 (4096 * v) ((H v).1 : Int) = (laidF (updH H v (0, 0)), 0) := by
  rcases okE_cases hok with h | ⟨h1, h2, h3⟩
  · rw [h] at hr; exact absurd rfl hr
  · unfold unmapR
    rw [if_pos ⟨by rw [hasB_12 _ h2]; decide, by omega⟩, Int.toNat_natCast, show (1 : Int).toNat = 1 from rfl, tab_laid H _ (by omega)]
    show (if wordF (laidF H) (frmP 2 (4096 * v)) % 2 = 1 ∧ wordF (laidF H) (frmP 2 (4096 * v)) / 1024 = (H v).1 then (putF (laidF H) (frmP 2 (4096 * v)) (fourB 0), 0) else (laidF H, 6)) = _
    rw [frmP_2 v hv, word_frm H v hv hok]
    have he : entV (H v) = 1024 * (H v).1 + bitsN ((H v).2 : Int) := by unfold entV; rw [if_neg hr]
    have hb := bitsN_lt ((H v).2 : Int)
    have ho : bitsN ((H v).2 : Int) % 2 = 1 := by rcases h3 with h | h | h | h | h <;> rw [h] <;> decide
    rw [he, if_pos (by omega)]
    rw [← put_frm H v hv (0, 0)]
    rfl
/-- Which of the rights a use wants. -/
def rgtN (u : Nat) : Nat := if u = 0 then 4 else if u = 1 then 1 else 2
def mayU (u r : Nat) : Bool := decide (r / rgtN u % 2 = 1)
theorem walk_laid (H : Nat → Nat × Nat) (v o u : Nat) (hv : v < 12) (ho : o < 4096) (hu : u < 3) (hok : okE (H v)) :
    walkF (laidF H) 12 1 (4096 * v + o) (u : Int) = if mayU u (H v).2 = true then (4096 * (H v).1 + o, -1) else (0, ((pageC u : Nat) : Int)) := by
  have e1 : entF (laidF H) 12 1 ((4096 * v + o) / 4194304) = (2049, 0) := by
    unfold entF
    rw [if_neg (by decide), show (4096 * v + o) / 4194304 = 0 by omega]
    show (wordF (laidF H) 4096, 0) = _
    rw [word_tab]
  have e2 : entF (laidF H) 12 ((2049 / 1024 : Nat) : Int) ((4096 * v + o) % 4194304 / 4096) = (entV (H v), 0) := by
    unfold entF
    rw [if_neg (by decide), show (4096 * v + o) % 4194304 / 4096 = v by omega]
    show (wordF (laidF H) (8192 + 4 * v), 0) = _
    rw [word_frm H v hv hok]
  have e3 : leafF (laidF H) 12 1 (4096 * v + o) = (entV (H v), 4096, 0) := by
    rw [leafF_eq, e1, if_neg (by decide), e2]
  unfold walkF
  rw [if_neg (by omega), e3, if_neg (show ¬ (0 : Nat) ≠ 0 by decide), Int.toNat_natCast]
  show endF 12 u (4096 * v + o) (entV (H v)) 4096 = _
  unfold endF
  rcases okE_cases hok with h | ⟨h1, h2, h3⟩
  · rw [h]
    have hm : mayU u (0, 0).2 = false := by unfold mayU; simp
    have hk : okB u (entV (0, 0)) = false := by
      have h3 : u = 0 ∨ u = 1 ∨ u = 2 := by omega
      rcases h3 with rfl | rfl | rfl <;> decide
    rw [hm, hk, if_pos (by rfl), if_neg (by decide)]
  · have hr : (H v).2 ≠ 0 := by omega
    have he : entV (H v) = 1024 * (H v).1 + bitsN ((H v).2 : Int) := by unfold entV; rw [if_neg hr]
    have hb : bitsN ((H v).2 : Int) < 256 := by rcases h3 with h | h | h | h | h <;> rw [h] <;> decide
    have hk : okB u (entV (H v)) = mayU u (H v).2 := by
      rw [ok_low u _ hu, show entV (H v) % 256 = bitsN ((H v).2 : Int) by omega]
      have h3' : u = 0 ∨ u = 1 ∨ u = 2 := by omega
      rcases h3' with rfl | rfl | rfl <;> rcases h3 with h | h | h | h | h <;> rw [h] <;> decide
    have hw : wholeB (entV (H v)) 4096 = true := by unfold wholeB; simp
    rw [hk, hw, show entV (H v) / 1024 = (H v).1 by omega, show (4096 * v + o) % 4096 = o by omega]
    cases mayU u (H v).2
    · rfl
    · rw [if_neg (by decide), if_neg (by omega), if_pos rfl, show (H v).1 * 4096 + o = 4096 * (H v).1 + o by omega]
end Go.Proofs.YtflmobffeeocdaaDoor

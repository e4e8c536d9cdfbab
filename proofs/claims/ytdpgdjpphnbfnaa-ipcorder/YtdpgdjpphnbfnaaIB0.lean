/- Chapter 10, pure: places, those who wait, and what the calls make of them. -/
import Derived.Test.YtdpgdjpphnbfnaaGC
import Derived.Test.YtdpgdjpphnbfnaaPL
import Derived.Laws.BitsAllLaws
import Derived.Laws.BitsLemmas
namespace Go.Vx
set_option linter.unusedVariables false
/-- A message. -/
structure Ms where
  lab : Int
  w0 : Int
  w1 : Int
  w2 : Int
  w3 : Int
  bdg : Int
def Ms.df : Ms := ⟨0, 0, 0, 0, 0, 0⟩
/-- One who waits. -/
structure Wt where
  at' : Int
  thr : Int
  how : Int
  m : Ms
def Wt.df : Wt := ⟨0, 0, 0, .df⟩
/-- A place. -/
structure Pc where
  num : Int
  bell : Bool
  word : Int
def Pc.df : Pc := ⟨0, false, 0⟩
/-- What comes of a call. -/
structure Oc where
  err : Int
  peer : Int
  m : Ms
  wt : Bool
  ask : Bool
  ft : Bool
def Oc.df : Oc := ⟨0, 0, .df, false, false, false⟩
/-- A bus. -/
structure Bs where
  ps : List Pc
  ws : List Wt
def msV (m : Ms) : Value := .agg #[.int .u32 m.lab, .int .u32 m.w0, .int .u32 m.w1, .int .u32 m.w2, .int .u32 m.w3, .int .u32 m.bdg]
def wtC (x : Wt) : List Value := [.int .i64 x.at', .int .i64 x.thr, .int .i64 x.how, .int .u32 x.m.lab, .int .u32 x.m.w0, .int .u32 x.m.w1, .int .u32 x.m.w2, .int .u32 x.m.w3, .int .u32 x.m.bdg]
def wtV (x : Wt) : Value := .agg #[.int .i64 x.at', .int .i64 x.thr, .int .i64 x.how, .int .u32 x.m.lab, .int .u32 x.m.w0, .int .u32 x.m.w1, .int .u32 x.m.w2, .int .u32 x.m.w3, .int .u32 x.m.bdg]
def wtL : Lay Wt := ⟨wtC, 9, fun _ => rfl, fun a u hu => by
  simp only [wtC, List.mem_cons, List.not_mem_nil, or_false] at hu
  rcases hu with rfl | rfl | rfl | rfl | rfl | rfl | rfl | rfl | rfl <;> rfl, by decide⟩
def pcC (p : Pc) : List Value := [.int .i64 p.num, .bool p.bell, .int .u32 p.word]
def pcL : Lay Pc := ⟨pcC, 3, fun _ => rfl, fun a u hu => by
  simp only [pcC, List.mem_cons, List.not_mem_nil, or_false] at hu
  rcases hu with rfl | rfl | rfl <;> rfl, by decide⟩
def ocV (o : Oc) : Value := .agg #[.int .i64 o.err, .int .i64 o.peer, .int .u32 o.m.lab, .int .u32 o.m.w0, .int .u32 o.m.w1, .int .u32 o.m.w2, .int .u32 o.m.w3, .int .u32 o.m.bdg, .bool o.wt, .bool o.ask, .bool o.ft]
def ms0 : Ms := ⟨0, 0, 0, 0, 0, 0⟩
def msB (b : Int) : Ms := ⟨0, 0, 0, 0, 0, b⟩
def pF (ps : List Pc) (n : Int) : Option Nat := idxF (fun p => decide (p.num = n)) ps 0
def tF (ws : List Wt) (t : Int) : Option Nat := idxF (fun x => decide (x.thr = t)) ws 0
def aF (ws : List Wt) (n : Int) : Option Nat := idxF (fun x => decide (x.at' = n)) ws 0
def cuI {α : Type} (l : List α) (i : Nat) : List α := l.take i ++ l.drop (i + 1)
def oErr (e : Int) : Oc := ⟨e, -1, ms0, false, false, false⟩
def oWt : Oc := ⟨0, -1, ms0, true, false, false⟩
def oMet (p h : Int) (m : Ms) : Oc := ⟨0, p, m, false, decide (h = 3 ∨ h = 7), decide (h = 7)⟩
def oBdg (p b : Int) : Oc := ⟨0, p, msB b, false, false, false⟩
def pAt (s : Bs) (i : Nat) : Pc := s.ps.getD i .df
def wAt (s : Bs) (i : Nat) : Wt := s.ws.getD i .df
/-- ErrName, ErrState. -/
def mayE (s : Bs) (n : Int) (b : Bool) (t : Int) : Int := match pF s.ps n with
  | none => 6
  | some i => if (pAt s i).bell ≠ b then 6 else if (tF s.ws t).isSome = true then 16 else 0
def hwB (h : Int) : Bool := decide (h = 1 ∨ h = 2 ∨ h = 3 ∨ h = 7)
def openE (s : Bs) (n : Int) : Int := if n < 0 then 1 else if (pF s.ps n).isSome = true then 7 else 0
def openS (s : Bs) (n : Int) (b : Bool) : Bs := if openE s n = 0 then ⟨s.ps ++ [⟨n, b, 0⟩], s.ws⟩ else s
/-- Whom a sender meets. -/
def getsF (s : Bs) (n : Int) : Option Nat := match aF s.ws n with | none => none | some i => if (wAt s i).how = 4 then some i else none
/-- Whom one who gets meets. -/
def sendsF (s : Bs) (n : Int) : Option Nat := match aF s.ws n with | none => none | some i => if (wAt s i).how = 4 then none else some i
def sendR (s : Bs) (n t h : Int) (m : Ms) : Oc := if hwB h = false then oErr 1 else if mayE s n false t ≠ 0 then oErr (mayE s n false t) else match getsF s n with
  | some i => oMet (wAt s i).thr h m
  | none => if h = 1 then oErr 17 else oWt
def sendS (s : Bs) (n t h : Int) (m : Ms) : Bs := if hwB h = false then s else if mayE s n false t ≠ 0 then s else match getsF s n with
  | some i => ⟨s.ps, cuI s.ws i⟩
  | none => if h = 1 then s else ⟨s.ps, s.ws ++ [⟨n, t, h, m⟩]⟩
def getR (s : Bs) (n t : Int) (b : Bool) : Oc := if mayE s n false t ≠ 0 then oErr (mayE s n false t) else match sendsF s n with
  | some i => oMet (wAt s i).thr (wAt s i).how (wAt s i).m
  | none => if b = false then oErr 17 else oWt
def getS (s : Bs) (n t : Int) (b : Bool) : Bs := if mayE s n false t ≠ 0 then s else match sendsF s n with
  | some i => ⟨s.ps, cuI s.ws i⟩
  | none => if b = false then s else ⟨s.ps, s.ws ++ [⟨n, t, 4, ms0⟩]⟩
/-- A bell's place. -/
def bellF (s : Bs) (n : Int) : Option Nat := match pF s.ps n with | none => none | some i => if (pAt s i).bell = true then some i else none
def orW (a b : Int) : Int := bits .or .u32 a b
def setW (s : Bs) (k : Nat) (x : Int) : Bs := ⟨s.ps.set k { pAt s k with word := x }, s.ws⟩
def ringR (s : Bs) (n b : Int) : Oc := match bellF s n with
  | none => oErr 6
  | some k => match aF s.ws n with
    | some i => oBdg (wAt s i).thr b
    | none => ⟨0, -1, ms0, false, false, false⟩
def ringS (s : Bs) (n b : Int) : Bs := match bellF s n with
  | none => s
  | some k => match aF s.ws n with
    | some i => ⟨s.ps, cuI s.ws i⟩
    | none => setW s k (orW (pAt s k).word b)
def hearR (s : Bs) (n t : Int) (b : Bool) : Oc := if mayE s n true t ≠ 0 then oErr (mayE s n true t) else match pF s.ps n with
  | none => oErr 6
  | some k => if (pAt s k).word ≠ 0 then oBdg (-1) (pAt s k).word else if b = false then oErr 17 else oWt
def hearS (s : Bs) (n t : Int) (b : Bool) : Bs := if mayE s n true t ≠ 0 then s else match pF s.ps n with
  | none => s
  | some k => if (pAt s k).word ≠ 0 then setW s k 0 else if b = false then s else ⟨s.ps, s.ws ++ [⟨n, t, 6, ms0⟩]⟩
def cancE (s : Bs) (t : Int) : Int := match tF s.ws t with | none => 16 | some _ => 0
def cancS (s : Bs) (t : Int) : Bs := match tF s.ws t with | none => s | some i => ⟨s.ps, cuI s.ws i⟩
def lineL (s : Bs) (n : Int) : List Int := (s.ws.filter fun x => decide (x.at' = n)).map (·.thr)
def lineE (s : Bs) (n : Int) : Int := match pF s.ps n with | none => 6 | some _ => 0
def lineR (s : Bs) (n : Int) : List Int := match pF s.ps n with | none => [] | some _ => lineL s n
def closeS (s : Bs) (n : Int) : Bs := match pF s.ps n with | none => s | some i => ⟨cuI s.ps i, s.ws.filter fun x => decide (x.at' ≠ n)⟩
def whereA (s : Bs) (t : Int) : Int := match tF s.ws t with | none => -1 | some i => (wAt s i).at'
def whereH (s : Bs) (t : Int) : Int := match tF s.ws t with | none => 0 | some i => (wAt s i).how
def wordE (s : Bs) (n : Int) : Int := match bellF s n with | none => 6 | some _ => 0
def wordW (s : Bs) (n : Int) : Int := match bellF s n with | none => 0 | some k => (pAt s k).word
theorem getD_d {α : Type} {d : α} {l : List α} {i : Nat} (h : i < l.length) : l.getD i d = l[i] := by
  rw [List.getD_eq_getElem?_getD, List.getElem?_eq_getElem h]; rfl
end Go.Vx
namespace Go.Proofs.Ytdpgdjpphnbfnaa
open Go.Vx
/-- Who waits where, and how: what every call keeps. -/
structure BWf (s : Bs) : Prop where
  np : (s.ps.map (·.num)).Nodup
  nt : (s.ws.map (·.thr)).Nodup
  at' : ∀ x ∈ s.ws, ∃ p ∈ s.ps, p.num = x.at' ∧ (p.bell = false → x.how = 2 ∨ x.how = 3 ∨ x.how = 4 ∨ x.how = 7)
  ip : ∀ p ∈ s.ps, I64 p.num
  iw : ∀ x ∈ s.ws, I64 x.thr
end Go.Proofs.Ytdpgdjpphnbfnaa

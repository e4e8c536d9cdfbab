import Derived.Test.YtdjlkahbpdoemaaGreatDoorCq1
set_option maxRecDepth 100000
set_option maxHeartbeats 8000000
set_option linter.unusedVariables false
set_option linter.unusedSimpArgs false
open Go Go.Vx Go.Proofs.Tryz Go.ChangeShapes Go.WideShapes Go.ChangeAt Go.RowKit
variable {n:Int}{bs:Lp}{i rc:Nat}{a b:Obj}{w w2:Z0}{a0 a1:Z3}
namespace Go.Vx
abbrev Sl:=Int×Int
structure Cp where
 kind:Int
 num:Int
 rights:Int
 bh:Int
 guard:Int
 aC:Int
 root:Int
 va:Int
def Cp.df:Cp:=⟨0,0,0,0,0,0,0,0⟩
structure En where
 at':Sl
 cap:Cp
 cw:Sl
def En.df:En:=⟨(0,0),.df,(0,0)⟩
def eL(s:Sl):List Value:=[O s.1,O s.2]
def bj(c:Cp):List Value:=[O c.kind,O c.num,O c.rights,J c.bh,J c.guard,O c.aC,O c.root,J c.va]
def Gx(e:En):List Value:=eL e.at'++bj e.cap++eL e.cw
theorem anL(e):Gx e=[O e.at'.1,O e.at'.2,O e.cap.kind,O e.cap.num,O e.cap.rights,J e.cap.bh,J e.cap.guard,O e.cap.aC,O e.cap.root,J e.cap.va,O e.cw.1,O e.cw.2]:=rfl
def dG:Lay Sl:=⟨eL,2,λ_=>rfl,λa u hu=>by simp only[eL,List.mem_cons,List.not_mem_nil,or_false] at hu;rcases hu with rfl|rfl<;>rfl,I⟩
def tG:Lay En:=⟨Gx,12,λ_=>rfl,λa u hu=>by
 rw[anL] at hu;simp only[List.mem_cons,List.not_mem_nil,or_false] at hu
 rcases hu with rfl|rfl|rfl|rfl|rfl|rfl|rfl|rfl|rfl|rfl|rfl|rfl<;>rfl,I⟩
def iO(n:Int):Bool:=decide (n=1\/n=2\/n=4\/n=8\/n=16\/n=32\/n=64)
def oU(a b:Sl):Bool:=decide (a.1<b.1\/(a.1=b.1/\a.2<b.2))
def dL{α:Type}(p:α->Bool):List α->Nat->Option Nat
 |[],_=>none
 |a::l,k=>if p a then some k else dL p l (k+1)
def FT(o:Option Nat):Int:=match o with|some k=>k|none=> -1
theorem Re{α:Type}{p:α->Bool}:∀{l:List α} {k i:Nat},dL p l k=some i->k<=i/\i<k+l.length
 |[],k,i,h=>by cases h
 |a::l,k,i,h=>by
  unfold dL at h;by_cases hp:p a=true
  ·rw[if_pos hp] at h;injection h with h;subst h;simp
  rw[if_neg hp] at h;have:=Re h;simp only[List.length_cons];omega
theorem sZ{α:Type}{p:α->Bool}:∀{l:List α} {k i:Nat} (h:dL p l k=some i),∃(hi:i - k<l.length),p (l[i - k])=true
 |[],k,i,h=>by cases h
 |a::l,k,i,h=>by
  unfold dL at h;by_cases hp:p a=true
  ·rw[if_pos hp] at h;injection h with h;subst h;exact⟨by simp,by simpa using hp⟩
  rw[if_neg hp] at h;have h1:=Re h;obtain⟨c,b⟩:=sZ h;have e:i - k=(i - (k+1))+1:=Z;refine⟨by simp only[List.length_cons];omega,?_⟩;have:(a::l)[i - k]'(by simp only[List.length_cons];omega)=l[i - (k+1)]:=by simp only[e,List.getElem_cons_succ]
  rw[this];exact b
theorem jQ{α:Type}{p:α->Bool}:∀{l:List α} {k:Nat},dL p l k=none->∀a∈l,p a=false
 |[],k,h,a,ha=>by cases ha
 |b::l,k,h,a,ha=>by
  unfold dL at h;by_cases hp:p b=true
  ·rw[if_pos hp] at h;cases h
  rw[if_neg hp] at h;rcases List.mem_cons.1 ha with rfl|ha
  ·simpa using hp
  exact jQ h a ha
theorem YA{α:Type}{p:α->Bool}(l:List α)(k)(hk:k<l.length):dL p (l.drop k) k=if p l[k] then some k else dL p (l.drop (k+1)) (k+1):=by
 rw[List.drop_eq_getElem_cons hk];rfl
theorem YD{α:Type}{p:α->Bool}(l:List α):dL p (l.drop l.length) l.length=none:=by
 rw[List.drop_length];rfl
def tH(bs:Lp)(n:Int):Option Nat:=dL (λb=>decide (b.1=n)) bs 0
def jW(es:List En)(s:Sl):Option Nat:=dL (λe=>decide (e.at'=s)) es 0
def bq(bs:Lp)(n:Int):Option Int:=(tH bs n).map λi=>(bs.getD i (0,0)).2
def gY(bs:Lp)(es:List En)(s:Sl):Except Int Nat:=
 match bq bs s.1 with
 |none=>.error 9
 |some n=>if s.2<0\/n<=s.2 then .error 9 else match jW es s with
  |none=>.error 11
  |some i=>.ok i
def aaJ(r:Except Int Nat):Int:=match r with|.ok _=>0|.error e=>e
def oQ(bs:Lp)(es:List En)(s:Sl):Int:=match gY bs es s with|.ok _=>10|.error e=>if e=11 then 0 else e
end Go.Vx
namespace Go.Proofs.YtdjlkahbpdoemaaGreatDoor
theorem J5(h:tH bs n=some i):∃hi:i<bs.length,bs[i].1=n/\bq bs n=some bs[i].2:=by
 have⟨hi,hp⟩:=sZ h;rw[Nat.sub_zero] at hi;refine⟨hi,by simpa using hp,?_⟩;unfold bq;rw[h];simp[hi]
theorem Mb(h:tH bs n=none):bq bs n=none:=by unfold bq;rw[h];rfl
def vA(bs:Lp)(n:Int):Int×Int:=match bq bs n with|some k=>(k,0)|none=>(0,6)
theorem JQ(bs es s):(∃i,gY bs es s=.ok i/\jW es s=some i)\/gY bs es s=.error 9\/gY bs es s=.error 11:=by
 unfold gY;cases bq bs s.1 with
 |none=>exact Or.inr (Or.inl rfl)
 |some n=>
  dsimp only;by_cases h:s.2<0\/n<=s.2
  ·rw[if_pos h];exact Or.inr (Or.inl rfl)
  rw[if_neg h];cases jW es s with
  |none=>exact Or.inr (Or.inr rfl)
  |some i=>exact Or.inl ⟨i,rfl,rfl⟩
theorem Gv{es:List En}{s:Sl}(h:jW es s=some i):∃hi:i<es.length,es[i].at'=s:=by
 have⟨hi,hp⟩:=sZ h;rw[Nat.sub_zero] at hi;exact⟨hi,by simpa using hp⟩
def lv:Cp:=⟨0,0,0,0,0,0,0,0⟩
def aI(bs:Lp)(es:List En)(s:Sl):Cp×Int:=match gY bs es s with|.ok i=>((es.getD i .df).cap,0)|.error e=>(lv,e)
def bz(c:Cp):Value:=.agg #[O c.kind,O c.num,O c.rights,J c.bh,J c.guard,O c.aC,O c.root,J c.va]
def dU(s:Sl):Value:=.agg #[O s.1,O s.2]
theorem Mv(h:Zq ((w.alloc a).alloc b) w2):w2.heap[w.heap.size+1]?=some b:=by
 have e:(w.alloc a).heap.size=w.heap.size+1:=by simp
 have h1:=heap_alloc_last (w.alloc a) b;rw[e] at h1;rwa[h.block _ (aB h1) id]
theorem lQ{a2 a3 a4 a5 a b:Z3}(h:w.heap[rc]?=some (.cells #[a0,a1,a2,a3,a4,a5,a,b] 84 (0,0))):
  (w.cell? (E rc 0)=some a0/\w.cell? (E rc 1)=some a1/\w.cell? (E rc 2)=some a2/\w.cell? (E rc 3)=some a3/\w.cell? (E rc 4)=some a4/\w.cell? (E rc 5)=some a5/\w.cell? (E rc 6)=some a/\w.cell? (E rc 7)=some b)/\∀j,w.frozen? (E rc j)=false:=
 ⟨⟨Zl h,Zl h,Zl h,Zl h,Zl h,Zl h,Zl h,Zl h⟩,λj=>by simp[World.frozen?,h]⟩
theorem vz(h:w.heap[rc]?=some (.cells #[a0,a1] 45 (0,0))):(w.cell? (E rc 0)=some a0/\w.cell? (E rc 1)=some a1)/\∀j,w.frozen? (E rc j)=false:=
 ⟨⟨Zl h,Zl h⟩,λj=>by simp[World.frozen?,h]⟩
end Go.Proofs.YtdjlkahbpdoemaaGreatDoor

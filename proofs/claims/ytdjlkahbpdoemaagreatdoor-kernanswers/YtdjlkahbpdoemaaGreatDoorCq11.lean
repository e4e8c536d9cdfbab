import Derived.Test.YtdjlkahbpdoemaaGreatDoorCq10
set_option maxRecDepth 100000
set_option maxHeartbeats 8000000
set_option linter.unusedVariables false
set_option linter.unusedSimpArgs false
open Go Go.Vx Go.Proofs.Tryz Go.ChangeShapes Go.WideShapes Go.ChangeAt Go.RowKit
variable {args:Array Value}{ci co:List (Z2)}{Ps:List ff}{bb kb mb pb qb sb tb:Nat}{w w2:Z0}{U V:Z1}{v:Z3}{P P2:ff}
namespace Go.Vx
def ny(k:IntKind)(rg:Nat->Int):List Value:=(List.range 32).map λj=>.int k (rg j)
theorem mH(k rg):(ny k rg).length=32:=by simp[ny]
theorem Qa(k rg):∀u∈ny k rg,u.oneCell'=true:=λu hu=>by
 obtain⟨j,_,rfl⟩:=List.mem_map.1 hu;rfl
theorem agt(k rg){j:Nat}(h:j<32):(ny k rg)[j]?=some (.int k (rg j)):=by simp[ny,h]
end Go.Vx
namespace Go.Proofs.YtdjlkahbpdoemaaGreatDoor
variable {K:Kn}{T:List Kt}
def uj(l:Ln):List Value:=[O l.ga,J l.aQ,.bool l.Bv,.bool l.pd]
theorem aN.call(h:aN Ps U w)(i)(hi:Ps[i]?=some P)(d:jX P2){f:FuncId}(g:∀c,P c w->Zk f args w λe w'=>Zr e v/\P2 c w'/\Zn c w w'):
  Zk f args w λe w'=>Zr e v/\aN (Ps.set i P2) U w'/\Zn U w w':=by
 have⟨c,a,_,_,b⟩:=h.open i hi;refine(g c a).m ?_;rintro e w' ⟨j,k,l⟩;exact⟨j,b P2 w' d k l⟩
def lx(G:Int->Nat)(n:Int):Value:=if n= -1 then .pointer none else .pointer (some ⟨G n,0,none⟩)
def cG(G:Int->Nat)(t:Kt):List Value:=[O t.num,O t.st]++(ny .u32 t.rg++[J t.pc,lx G t.dV,lx G t.dD,.bool t.gr])
def poC(x:Z2×Z2):List Value:=[cj x.1,cj x.2]
def ou(mb sb pb qb bb tb:Nat)(L:List Ln)(ci co:List (Z2))(c:Nat):List Value:=
 [M mb,M sb,M pb,M qb,M bb,.map (some tb)]++(L.flatMap uj++((ci.zip co).flatMap poC++[J (c:Int)]))
structure mm(kb mb sb pb qb bb tb:Nat)(D:DataW Value)(ks:List Int)(G:Int->Nat)(T:List Kt)(L:List Ln)(ci co:List (Z2))(c:Nat)(U:Z1)(w:Z0):Prop where
 k:w.heap[kb]?=some (.cells (ou mb sb pb qb bb tb L ci co c).toArray 104 (0,0))
 m:i6 w tb D ks G
 kt:ks.Perm (T.map (·.num))
 th:∀t∈T,w.heap[G t.num]?=some (.cells (cG G t).toArray 109 (0,0))
 gi:∀t∈T,∀s∈T,G t.num=G s.num->t.num=s.num
 uk:¬U kb
 um:¬U tb
 ut:∀t∈T,¬U (G t.num)
 low:∀k,U k->k<w.heap.size
 nt:T.length<=1000
def qQ(kb mb sb pb qb bb tb:Nat)(T:List Kt)(L:List Ln)(ci co:List (Z2))(c:Nat):ff:=λU w=>∃D ks G,mm kb mb sb pb qb bb tb D ks G T L ci co c U w
section
variable {L:List Ln}{c:Nat}{S:Z1}
theorem qQ.dF:jX (qQ kb mb sb pb qb bb tb T L ci co c):=by
 rintro U V S w w2 ⟨D,i,G,h⟩ e f g;have hb:∀b,b<w.heap.size->¬U b->¬V b:=λb h1 j l=>by
  rcases g b l with d|d
  ·exact j d
  omega
 have hs:=e.size;have hk:=aB h.k;have hm:=h.m.own.lt;have ht:∀t∈T,G t.num<w.heap.size:=λt ht=>aB (h.th t ht);refine⟨D,i,G,(e.block _ hk (λs=>h.uk (f _ hk s))).trans h.k,h.m.keep e (λs=>h.um (f _ hm s)),h.kt,λt a=>(e.block _ (ht t a) (λs=>h.ut t a (f _ (ht t a) s))).trans (h.th t a),h.gi,hb _ hk h.uk,hb _ hm h.um,λt a=>hb _ (ht t a) (h.ut t a),λk hk=>?_,h.nt⟩;rcases g k hk with d|d
 ·have:=h.low k d;omega
 exact d.2
end
section
variable {L:List Ln}{c:Nat}
abbrev kxL(kb mb sb pb qb bb tb:Nat)(K:Kn):List ff:=[nk sb K.bs K.es,ki mb K.n K.f,oW pb (K.n:Int) K.os K.rs,jY qb K.ts K.t K.lf K.ss K.ck,re bb K.b,qQ kb mb sb pb qb bb tb K.T K.L K.ci K.co K.c]
end
def au(U:Z1)(w:Z0)(kb mb sb pb qb bb tb:Nat)(K:Kn):Prop:=aN (kxL kb mb sb pb qb bb tb K) U w
section
variable {L:List Ln}{c:Nat}
theorem au.own(h:au U w kb mb sb pb qb bb tb K):∃(a:Z1) (D:_) (ks:_) (G:_),mm kb mb sb pb qb bb tb D ks G K.T K.L K.ci K.co K.c a w/\∀k,U k->a k:=by
 have⟨a,⟨D,ks,G,h⟩,b⟩:=aN.at h 5 rfl;exact⟨a,D,ks,G,h,b⟩
theorem au.k(h:au U w kb mb sb pb qb bb tb K):w.heap[kb]?=some (.cells (ou mb sb pb qb bb tb K.L K.ci K.co K.c).toArray 104 (0,0)):=by
 have⟨_,_,_,_,h,_⟩:=h.own;exact h.k
end
theorem au.c0(h:au U w kb mb sb pb qb bb tb K):w.cell? (E kb 0)=some (M mb):=Zl h.k
theorem au.c1(h:au U w kb mb sb pb qb bb tb K):w.cell? (E kb 1)=some (M sb):=Zl h.k
theorem au.c2(h:au U w kb mb sb pb qb bb tb K):w.cell? (E kb 2)=some (M pb):=Zl h.k
theorem au.c3(h:au U w kb mb sb pb qb bb tb K):w.cell? (E kb 3)=some (M qb):=Zl h.k
theorem au.c4(h:au U w kb mb sb pb qb bb tb K):w.cell? (E kb 4)=some (M bb):=Zl h.k
theorem au.c5(h:au U w kb mb sb pb qb bb tb K):w.cell? (E kb 5)=some (.map (some tb)):=Zl h.k
theorem au.quiet(h:au U w kb mb sb pb qb bb tb K)(a:Zq w w2):au U w2 kb mb sb pb qb bb tb K:=aN.quiet h a
theorem au.wide(h:au U w kb mb sb pb qb bb tb K)(a:Zq w w2):au (Nu U w.heap.size w2.heap.size) w2 kb mb sb pb qb bb tb K:=aN.wide h a
theorem au.thin(h:au V w kb mb sb pb qb bb tb K)(a:∀k,U k->V k):au U w kb mb sb pb qb bb tb K:=aN.thin h a
theorem au.caps(h:au U w kb mb sb pb qb bb tb K):∃a:Z1,jo a w sb K.bs K.es:=by
 have⟨a,h,_⟩:=aN.at h 0 rfl;exact⟨a,h⟩
theorem au.Qk(h:au U w kb mb sb pb qb bb tb K):∃a:Z1,qP a w pb (K.n:Int) K.os K.rs:=by
 have⟨a,h,_⟩:=aN.at h 2 rfl;exact⟨a,h⟩
theorem au.sched(h:au U w kb mb sb pb qb bb tb K):∃a:Z1,uU a w qb K.ts K.t K.lf K.ss K.ck:=by
 have⟨a,h,_⟩:=aN.at h 3 rfl;exact⟨a,h⟩
theorem au.J4(h:au U w kb mb sb pb qb bb tb K):∃a:Z1,eQ a w bb K.b:=by
 have⟨a,h,_⟩:=aN.at h 4 rfl;exact⟨a,h⟩
end Go.Proofs.YtdjlkahbpdoemaaGreatDoor

import Derived.Test.YtphkconoooeidaaGreatDoorCp11
import Derived.Test.YtphkconoooeidaaGreatDoorCp12
import Derived.Test.YtphkconoooeidaaGreatDoorCp13
set_option maxRecDepth 100000
set_option maxHeartbeats 8000000
set_option linter.unusedVariables false
set_option linter.unusedSimpArgs false
open Go Go.Vx Go.Proofs.Tryz Go.ChangeShapes Go.WideShapes Go.ChangeAt Go.RowKit
namespace Go.Vx

end Go.Vx
namespace Go.Proofs.YtphkconoooeidaaGreatDoor
section
theorem Yl (w:World):(zeroValue 264).run prog w=.ok (.pointer none) w:=Zx
def qm (e:Et):Array Value:=#[.int .i64 e.num,.int .i64 e.bT,.int .i64 e.prio,.bool (decide (e.bV≠0)),.int .i64 e.left]
def vF (vt:Value) (t:Nat) (lf:Int) (mb:Nat) (vq:List Value):Array Value:=(vt::.int .i64 (t:Int)::.int .i64 lf::.map (some mb)::vq).toArray
def re (G:Int->Nat) (es:List Et) (k:Int):Value:=match dB es k with|some _=>.pointer (some ⟨G k,0,none⟩)|none=>.pointer none
def qv (vq:List Value) (j:Nat):Value:=vq.getD j (.slice none 0 0)
structure Ck (ts:Lp) (t:Nat) (lf:Int):Prop where
 n1:1<=ts.length
 n2:ts.length<=16
 ok:∀x∈ts,gJ x=true
 tl:t<ts.length
 l0:0<=lf
 l1:lf<=1000
structure dJ (U:Nat->Prop) (w:World) (xb mb:Nat) (D:DataW Value) (G:Int->Nat) (vt:Value) (vq:List Value) (ts:Lp) (t:Nat) (lf:Int) (es:List Et) (Q:Nat->List Int):Prop where
 x:w.heap[xb]?=some (.cells (vF vt t lf mb vq) 246 (0,0))
 lq:vq.length=64
 t':ai aJ w 0 120 vt ts
 m:w.ownsMap prog 3 RP mb es.length D
 hs:∀k,aj k->Maps.has D (.int .i64 k)=(dB es k).isSome
 ha:∀k i z,dB es k=some i->D.atKey (.int .i64 k) z=.held (.pointer (some ⟨G k,0,none⟩))
 rn:∀e∈es,w.heap[G e.num]?=some (.cells (qm e) 266 (0,0))
 gi:∀e∈es,∀f∈es,G e.num=G f.num->e.num=f.num
 qs:∀j,j<64->ai qu w 0 264 (qv vq j) ((Q j).map G)
 qd:∀i j k,i<64->j<64->(qv vq i).ownBlock=some k->(qv vq j).ownBlock=some k->i=j
 ux:¬U xb
 ut:∀k,vt.ownBlock=some k->¬U k
 um:¬U mb
 ur:∀e∈es,¬U (G e.num)
 uq:∀j k,j<64->(qv vq j).ownBlock=some k->¬U k
 low:∀k,U k->k<w.heap.size
 nl:es.length<=1000000
 ix:∀e∈es,aj e.num
variable {U V S:Nat->Prop} {w w2:World} {xb mb:Nat} {D:DataW Value} {G:Int->Nat} {vt:Value} {vq:List Value} {ts:Lp} {t:Nat} {lf:Int} {es:List Et} {Q:Nat->List Int}
theorem dJ.aside (h:dJ U w xb mb D G vt vq ts t lf es Q) (ho:ae S w w2) (s1:¬S xb) (s2:¬S mb) (s3:∀k,vt.ownBlock=some k->¬S k) (s4:∀e∈es,¬S (G e.num)) (s5:∀j k,j<64->(qv vq j).ownBlock=some k->¬S k)
  (v1:¬V xb) (v2:¬V mb) (v3:∀k,vt.ownBlock=some k->¬V k) (v4:∀e∈es,¬V (G e.num)) (v5:∀j k,j<64->(qv vq j).ownBlock=some k->¬V k) (vl:∀k,V k->k<w2.heap.size):dJ V w2 xb mb D G vt vq ts t lf es Q:=
 ⟨ae.keep ho h.x s1,h.lq,h.t'.kept ho s3,zU h.m ho s2,h.hs,h.ha,λe he=>ae.keep ho (h.rn e he) (s4 e he),h.gi,λj hj=>(h.qs j hj).kept ho (λk hk=>s5 j k hj hk),h.qd,v1,v3,v2,v4,v5,vl,h.nl,h.ix⟩
theorem dJ.step (h:dJ U w xb mb D G vt vq ts t lf es Q) (ho:ae S w w2) (hS:∀k,k<w.heap.size->S k->U k) (hV:∀k,V k->U k\/(w.heap.size<=k/\k<w2.heap.size)):dJ V w2 xb mb D G vt vq ts t lf es Q:=by
 have l1:=au h.x;have l2:=h.m.lt;have l3:∀k,vt.ownBlock=some k->k<w.heap.size:=λk hk=>(cH h.t' hk).2
 have l4:∀e∈es,G e.num<w.heap.size:=λe he=>au (h.rn e he)
 have l5:∀j k,j<64->(qv vq j).ownBlock=some k->k<w.heap.size:=λj k hj hk=>(cH (h.qs j hj) hk).2
 have hv:∀k,k<w.heap.size->¬U k->¬V k:=λk hk hu hv=>by
  rcases hV k hv with h3|h3
  ·exact hu h3
  ·omega
 exact h.aside ho (λs=>h.ux (hS _ l1 s)) (λs=>h.um (hS _ l2 s)) (λk hk s=>h.ut k hk (hS _ (l3 k hk) s)) (λe he s=>h.ur e he (hS _ (l4 e he) s)) (λj k hj hk s=>h.uq j k hj hk (hS _ (l5 j k hj hk) s))
  (hv _ l1 h.ux) (hv _ l2 h.um) (λk hk=>hv _ (l3 k hk) (h.ut k hk)) (λe he=>hv _ (l4 e he) (h.ur e he)) (λj k hj hk=>hv _ (l5 j k hj hk) (h.uq j k hj hk)) (λk hk=>by
  rcases hV k hk with h3|h3
  ·exact Nat.lt_of_lt_of_le (h.low k h3) ho.size
  ·exact h3.2)
theorem dJ.quiet (h:dJ U w xb mb D G vt vq ts t lf es Q) (ho:Zq w w2):dJ U w2 xb mb D G vt vq ts t lf es Q:=h.step ho (λ_ _ h=>h.elim) (λ_ h=>Or.inl h)
theorem dJ.c1 (h:dJ U w xb mb D G vt vq ts t lf es Q):w.cell? ⟨xb,1,none⟩=some (.int .i64 (t:Int)):=Zl h.x
theorem dJ.c2 (h:dJ U w xb mb D G vt vq ts t lf es Q):w.cell? ⟨xb,2,none⟩=some (.int .i64 lf):=Zl h.x
theorem dJ.c3 (h:dJ U w xb mb D G vt vq ts t lf es Q):w.cell? ⟨xb,3,none⟩=some (.map (some mb)):=Zl h.x
theorem O0 (vq:List Value) (j:Nat) (hj:j<vq.length):vq[j]?=some (qv vq j):=by
 unfold qv;rw[List.getD_eq_getElem?_getD,List.getElem?_eq_getElem hj];rfl
theorem dJ.cq (h:dJ U w xb mb D G vt vq ts t lf es Q) (j:Nat) (hj:j<64):w.cell? ⟨xb,4+j,none⟩=some (qv vq j):=by
 refine(cell_of_row _ _ (4+j) _ _ (0,0) h.x).trans ?_;unfold vF;rw[List.getElem?_toArray,Nat.add_comm];exact O0 vq j (by rw[h.lq];exact hj)
theorem dJ.look (h:dJ U w xb mb D G vt vq ts t lf es Q) (k:Int) (hk:aj k):
  (Instr.lookup 239 (.map (some mb)) (.int .i64 k) false).run prog w=.ok (re G es k) w:=by
 have hz:RP (.pointer none)=some (.held (.pointer none),[]):=rfl;obtain⟨v,ps,hr,hv⟩:=h.m.lookup (t:=239) (e:=264) oO underlying239 (Yl w) hz (xZ hk)
 have hD:D.atKey (.int .i64 k) (.held (.pointer none))=.held (re G es k):=by
  unfold re
  cases hs:dB es k with
  |some n=>exact h.ha k n _ hs
  |none=>exact Maps.atKey_of_not_has (by rw[h.hs k hk,hs];rfl) _
 rw[hD] at hv;obtain⟨p,rfl,he⟩:=Jl hv;simp only[Prod.mk.injEq,DataW.held.injEq] at he;rw[hr,he.1]
structure R5 (w:World) (g:Nat) (e:Et):Prop where
 c0:w.cell? ⟨g,0,none⟩=some (.int .i64 e.num)
 c1:w.cell? ⟨g,1,none⟩=some (.int .i64 e.bT)
 c2:w.cell? ⟨g,2,none⟩=some (.int .i64 e.prio)
 c3:w.cell? ⟨g,3,none⟩=some (.bool (decide (e.bV≠0)))
 c4:w.cell? ⟨g,4,none⟩=some (.int .i64 e.left)
 fz:∀j,w.frozen? ⟨g,j,none⟩=false
theorem OZ {g:Nat} {e:Et} (h:w.heap[g]?=some (.cells (qm e) 266 (0,0))):R5 w g e:=
 ⟨Zl h,Zl h,Zl h,Zl h,Zl h,λj=>by simp[World.frozen?,h]⟩
theorem dJ.r5 (h:dJ U w xb mb D G vt vq ts t lf es Q) {n:Int} {i:Nat} (hi:dB es n=some i):∃hl:i<es.length,es[i].num=n/\R5 w (G n) es[i]/\re G es n=.pointer (some ⟨G n,0,none⟩):=by
 obtain⟨hl,hn⟩:=wX hi;refine⟨hl,hn,?_,by unfold re;rw[hi]⟩;have:=h.rn _ (List.getElem_mem hl);rw[hn] at this;exact OZ this
def ED (es:List Et) (Q:Nat->List Int):Prop:=∀j,j<64->NQ es ((j/8:Nat):Int) ((j % 8:Nat):Int) (Q j)
def lz (U:Nat->Prop) (w:World) (xb:Nat) (G:Int->Nat) (ts:Lp) (t:Nat) (lf:Int) (es:List Et) (ck:Nat):Prop:=ku es ck/\Ck ts t lf/\∃mb D vt vq Q,ED es Q/\dJ U w xb mb D G vt vq ts t lf es Q
def rN (U:Nat->Prop) (w:World) (xb:Nat) (ts:Lp) (t:Nat) (lf:Int) (es:List Et) (ck:Nat):Prop:=∃G,lz U w xb G ts t lf es ck
theorem lz.step {ck:Nat} (h:lz U w xb G ts t lf es ck) (ho:ae S w w2) (hS:∀k,k<w.heap.size->S k->U k) (hV:∀k,V k->U k\/(w.heap.size<=k/\k<w2.heap.size)):lz V w2 xb G ts t lf es ck:=by
 obtain⟨a,b,mb,D,vt,vq,Q,q,h⟩:=h;exact⟨a,b,mb,D,vt,vq,Q,q,h.step ho hS hV⟩
theorem rN.step {ck:Nat} (h:rN U w xb ts t lf es ck) (ho:ae S w w2) (hS:∀k,k<w.heap.size->S k->U k) (hV:∀k,V k->U k\/(w.heap.size<=k/\k<w2.heap.size)):rN V w2 xb ts t lf es ck:=by
 obtain⟨G,h⟩:=h;exact⟨G,h.step ho hS hV⟩
end
structure Kt where
 num:Int
 st:Int
 nK:Int
 mT:Int
 gr:Bool
 rg:Nat->Int
 pc:Int
def Kt.df:Kt:=⟨0,0,0,0,false,λ_=>0,0⟩
structure Ln where
 dj:Int
 jW:Int
 pL:Bool
 pd:Bool
def Ln.df:Ln:=⟨0,0,false,false⟩
structure Kn where
 n:Nat
 f:Nat->UInt8
 bs:Lp
 es:List En
 os:Lp
 rs:Lp
 ts:Lp
 t:Nat
 lf:Int
 ss:List Et
 ck:Nat
 b:Bs
 T:List Kt
 L:List Ln
 ci:List (List UInt8)
 co:List (List UInt8)
 c:Nat
structure Mp where
 at':Sl
 root:Int
 va:Nat
 rights:Int
def Mp.df:Mp:=⟨(0,0),0,0,0⟩
structure Tc where
 num:Int
 bT:Int
 prio:Int
 qp:Bool
 rg:Nat->Int
 pc:Int
def Tc.df:Tc:=⟨0,0,0,false,λ_=>0,0⟩
structure Sk where
 n:Int
 ts:Lp
 c:Nat
 ob:List (Int×Int×Int)
 cP:List (Int×List UInt8)
 cp:List En
 mp:List Mp
 th:List Tc
 iq:List (Int×Int×Int)
def dk (os rs:Lp) (o:Int×Int):Bool:=if o.1=9\/o.1=10 then decide (0<=o.2/\o.2<8) else decide (o∈fE os rs)
def ni (num:Int):Kt:=⟨num,0, -1, -1,false,λ_=>0,0⟩
def iy (x:Kt):List Kt->List Kt
 |[]=>[x]
 |y::r=>if x.num<y.num then x::y::r else y::iy x r
def kR (T:List Kt) (n:Int):Option Nat:=dq (λx=>decide (x.num=n)) T 0
def ly (K:Kn) (o:Int×Int) (size:Int):Kn:=
 let K:={K with f:=(j5 K.f K.n o.2).1}
 if o.1=5 then {K with bs:=fH K.bs o.2 size}
 else if o.1=6 then {K with bs:=fH K.bs o.2 4,T:=iy (ni o.2) K.T}
 else if o.1=7\/o.1=8 then {K with b:=jR K.b o.2 (decide (o.1=8))}
 else K
def cj (K:Kn) (x:Int×Int×Int):Kn×Int:=
 if x.1=5/\fB x.2.2=false then (K,1)
 else if aV K.n K.os K.rs (x.1,x.2.1)=0 then
  (let K2:={K with os:=fX K.n K.os K.rs (x.1,x.2.1),rs:=ij K.n K.os K.rs (x.1,x.2.1)}
   (if x.1=1 then K2 else ly K2 (x.1,x.2.1) x.2.2),0)
 else (K,aV K.n K.os K.rs (x.1,x.2.1))
def Es (K:Kn) (x:Int×List UInt8):Int:=if x.1<0\/dk K.os K.rs (2,x.1/4096)=false\/4096<x.1 % 4096+(x.2.length:Int) then 6 else 0
def cV (K:Kn) (x:Int×List UInt8):Kn×Int:=if Es K x=0 then ({K with f:=cU K.f x.1.toNat x.2},0) else (K,6)
def kQ (c:Cp):Bool:=decide (0<=c.rights/\c.rights<=7/\c.root=0/\c.va=0)&&decide (c.cQ=0\/c.kind=7\/c.kind=8)&&(if c.kind=5 then decide (0<=c.bS/\c.bS<=32/\c.guard/(2^c.bS.toNat:Nat)=0) else decide (c.guard=0/\c.bS=0))
def j6 (a b:Int):Bool:=decide (a.toNat&&&b.toNat=a.toNat)
def mI (c up:Cp):Bool:=decide (up.kind=c.kind/\up.num=c.num)&&j6 c.rights up.rights&&decide (up.cQ=0\/up.cQ=c.cQ)
def jK (K:Kn) (x:En):Int:=
 if dk K.os K.rs (x.cap.kind,x.cap.num)=false then 6
 else if kQ x.cap=false then 4
 else if (aH K.bs K.es x.aW).2=0/\mI x.cap (aH K.bs K.es x.aW).1=false then 4
 else cK K.bs K.es x.at' x.cap x.aW
def bY (K:Kn) (x:En):Kn×Int:=if jK K x=0 then ({K with es:=db K.bs K.es x.at' x.cap x.aW},0) else (K,jK K x)
def qy (es:List En) (s:Sl) (c:Cp):Bool:=es.any λx=>decide (0<x.cap.root)&&(decide (x.at'=s) || (decide (c.kind=3)&&decide (x.cap.kind=c.kind/\x.cap.num=c.num)))
def td (c:Cp) (va:Nat):Nat:=if c.kind=3 then va/4194304*4194304 else va
def lJ (K:Kn) (s:Sl) (c:Cp) (root:Int) (va:Nat) (rights:Int):(Nat->UInt8)×Int:=
 if qy K.es s c=true then (K.f,16)
 else if c.kind=3 then ((iK K.f K.n root (td c va) c.num).1,((iK K.f K.n root (td c va) c.num).2:Int))
 else if rights<0\/7<rights\/j6 rights c.rights=false then (K.f,13)
 else ((fT K.f K.n root va c.num rights).1,((fT K.f K.n root va c.num rights).2:Int))
def gM (K:Kn) (s:Sl) (c:Cp) (root:Int) (va:Nat) (rights:Int):Kn×Int:=
 if (lJ K s c root va rights).2=0 then ({K with f:=(lJ K s c root va rights).1,es:=eY K.bs K.es s {c with root:=root+1,va:=(td c va:Int)}},0)
 else ({K with f:=(lJ K s c root va rights).1},(lJ K s c root va rights).2)
def bK (K:Kn) (x:Mp):Kn×Int:=
 if (aH K.bs K.es x.at').2=0 then
  (if (aH K.bs K.es x.at').1.kind≠2/\(aH K.bs K.es x.at').1.kind≠3 then (K,12)
   else if dk K.os K.rs (4,x.root)=false then (K,6)
   else gM K x.at' (aH K.bs K.es x.at').1 x.root x.va x.rights)
 else (K,(aH K.bs K.es x.at').2)
def pJ (rg:Nat->Int):Nat->Int:=λj=>if j=0 then 0 else rg j
def bP (K:Kn) (x:Tc):Kn×Int:=match kR K.T x.num with
 |none=>(K,6)
 |some i=>if fj K.ss x.num x.bT x.prio=0 then
   (let y:={K.T.getD i .df with rg:=pJ x.rg,pc:=x.pc}
    let s2:=bU K.ss x.num x.bT x.prio
    if x.qp=true/\y.st≠1 then {K with T:=K.T.set i {y with st:=1},ss:=(if fq s2 x.num=0 then kZ s2 K.ck x.num else s2),ck:=(if fq s2 x.num=0 then K.ck+1 else K.ck)}
    else {K with T:=K.T.set i y,ss:=s2},0)
  else (K,fj K.ss x.num x.bT x.prio)
def cF (K:Kn) (x:Int×Int×Int):Kn×Int:=
 if x.1<0\/7<x.1 then (K,1) else if dk K.os K.rs (8,x.2.1)=false then (K,6)
 else if (K.L.getD x.1.toNat .df).dj≠ -1 then (K,7) else ({K with L:=K.L.set x.1.toNat ⟨x.2.1,x.2.2,false,false⟩},0)
def bz {α:Type} (st:Kn->α->Kn×Int):Kn->List α->Nat->Kn×Int×Nat
 |K,[],_=>(K,0,0)
 |K,x::r,i=>if (st K x).2=0 then bz st (st K x).1 r (i+1) else ((st K x).1,(st K x).2,i)
def yd:Ln:=⟨-1,0,false,false⟩
def rA (S:Sk):Kn:=⟨S.n.toNat,λ_=>0,[],[],[],[],S.ts,0,(S.ts.getD 0 (0,0)).2,[],0,⟨[],[]⟩,[],List.replicate 8 yd,List.replicate 8 [],List.replicate 8 [],S.c⟩
def kU (ss:List Et):List Int->List Et
 |[]=>ss
 |n::r=>kU (bU ss n 0 0) r
def yP (K:Kn):Kn:={K with ss:=kU K.ss (K.T.map (·.num))}
def aY {α:Type} (st:Kn->α->Kn×Int) (q:Kn×Int×Nat) (l:List α):Kn×Int×Nat:=if q.2.1=0 then bz st q.1 l 0 else q
def jt (S:Sk):Kn×Int×Nat:=aY cF (aY bP (aY bK (aY bY (aY cV (bz cj (rA S) S.ob 0) S.cP) S.cp) S.mp) S.th) S.iq
def kM (S:Sk):Int×Nat:=if S.n<1\/256<S.n then (1,0) else if eP S.ts≠0 then (1,0) else (jt S).2
def A2 (S:Sk):Kn:=yP (jt S).1
end Go.Proofs.YtphkconoooeidaaGreatDoor

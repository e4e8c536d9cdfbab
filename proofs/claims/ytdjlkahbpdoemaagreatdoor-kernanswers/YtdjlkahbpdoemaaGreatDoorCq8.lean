import Derived.Test.YtdjlkahbpdoemaaGreatDoorCq5
import Derived.Test.YtdjlkahbpdoemaaGreatDoorCq6
set_option maxRecDepth 100000
set_option maxHeartbeats 8000000
set_option linter.unusedVariables false
set_option linter.unusedSimpArgs false
open Go Go.Vx Go.Proofs.Tryz Go.ChangeShapes Go.WideShapes Go.ChangeAt Go.RowKit
namespace Go.Proofs.YtdjlkahbpdoemaaGreatDoor
variable {D:DataW Value}{e:Et}{lf n:Int}{G:Int->Nat}{es:List Et}{vq:List Value}{ts:Lp}{ck i mb t xb:Nat}{Q:Nat->List Int}{pa:Option Addr}{w w2:Z0}{S U V:Z1}{vt:Z3}
def tM(w:Z0)(pa:Option Addr)(ts:Lp):Prop:=ts=[]\/∃ab ao,pa=some (E ab ao)/\∀(j:Nat) (h:j<ts.length),w.cell? (E ab (ao+j*2))=some (O ts[j].1)/\w.cell? (E ab (ao+j*2+1))=some (O ts[j].2)
theorem tM.quiet(h:tM w pa ts)(e:Zq w w2):tM w2 pa ts:=by
 rcases h with h|⟨c,f,h1,g⟩
 ·exact Or.inl h
 refine Or.inr ⟨c,f,h1,λj i=>?_⟩;have⟨a,b⟩:=g j i;have d:∀o,w2.cell? (E c o)=w.cell? (E c o):=λo=>by unfold World.cell?;simp only[e.block c (World.block_lt_of_cell? w _ a) id]
 exact⟨by rw[d];exact a,by rw[d];exact b⟩
def lZ(x:Int×Int):Bool:=decide (0<=x.1/\x.1<=7/\1<=x.2/\x.2<=1000)
def jN(ts:Lp):Int:=if ts.length<1\/16<ts.length\/ts.all lZ=false then 1 else 0
theorem tuK:Kind prog dG 26 52:=sY (z:=.agg #[O 0,O 0]) (b:=16) underlying26 Zx rfl I
theorem Wh(w):(zeroValue 155).run prog w=.ok (.pointer none) w:=Zx
def sI(e:Et):Array Value:=#[.int .i64 e.num,.int .i64 e.cy,.int .i64 e.prio,.bool (decide (e.came≠0)),.int .i64 e.left]
def wF(vt:Z3)(t:Nat)(lf:Int)(mb:Nat)(vq:List Value):Array Value:=(vt::.int .i64 (t:Int)::.int .i64 lf::.map (some mb)::vq).toArray
def ud(G:Int->Nat)(es:List Et)(k:Int):Value:=match du es k with|some _=>.pointer (some ⟨G k,0,none⟩)|none=>.pointer none
def qv(vq:List Value)(j:Nat):Value:=vq.getD j (.slice none 0 0)
structure EB(ts:Lp)(t:Nat)(lf:Int):Prop where
 n1:1<=ts.length
 n2:ts.length<=16
 ok:∀x∈ts,lZ x=true
 tl:t<ts.length
 l0:0<=lf
 l1:lf<=1000
structure bZ(U:Z1)(w:Z0)(xb mb:Nat)(D:DataW Value)(G:Int->Nat)(vt:Z3)(vq:List Value)(ts:Lp)(t:Nat)(lf:Int)(es:List Et)(Q:Nat->List Int):Prop where
 x:w.heap[xb]?=some (.cells (wF vt t lf mb vq) 208 (0,0))
 lq:vq.length=64
 t':ax dG w 0 52 vt ts
 m:w.ownsMap prog 3 RP mb es.length D
 hs:∀k,af k->Maps.has D (.int .i64 k)=(du es k).isSome
 ha:∀k i z,du es k=some i->D.atKey (.int .i64 k) z=.held (.pointer (some ⟨G k,0,none⟩))
 rn:∀e∈es,w.heap[G e.num]?=some (.cells (sI e) 158 (0,0))
 gi:∀e∈es,∀f∈es,G e.num=G f.num->e.num=f.num
 qs:∀j,j<64->ax cn w 0 155 (qv vq j) ((Q j).map G)
 qd:∀i j k,i<64->j<64->(qv vq i).ownBlock=some k->(qv vq j).ownBlock=some k->i=j
 ux:¬U xb
 ut:∀k,vt.ownBlock=some k->¬U k
 um:¬U mb
 ur:∀e∈es,¬U (G e.num)
 uq:∀j k,j<64->(qv vq j).ownBlock=some k->¬U k
 low:∀k,U k->k<w.heap.size
 nl:es.length<=1000000
 ix:∀e∈es,af e.num
theorem bZ.aside(h:bZ U w xb mb D G vt vq ts t lf es Q)(a:H S w w2)(s1:¬S xb)(s2:¬S mb)(s3:∀k,vt.ownBlock=some k->¬S k)(c:∀e∈es,¬S (G e.num))(d:∀j k,j<64->(qv vq j).ownBlock=some k->¬S k)
  (v1:¬V xb) (v2:¬V mb) (v3:∀k,vt.ownBlock=some k->¬V k) (v4:∀e∈es,¬V (G e.num)) (v5:∀j k,j<64->(qv vq j).ownBlock=some k->¬V k) (f:∀k,V k->k<w2.heap.size):bZ V w2 xb mb D G vt vq ts t lf es Q:=
 ⟨H.keep a h.x s1,h.lq,h.t'.kept a s3,Bw h.m a s2,h.hs,h.ha,λe he=>H.keep a (h.rn e he) (c e he),h.gi,λj b=>(h.qs j b).kept a (λk hk=>d j k b hk),h.qd,v1,v3,v2,v4,v5,f,h.nl,h.ix⟩
theorem bZ.step(h:bZ U w xb mb D G vt vq ts t lf es Q)(d:H S w w2)(c:∀k,k<w.heap.size->S k->U k)(f:∀k,V k->U k\/(w.heap.size<=k/\k<w2.heap.size)):bZ V w2 xb mb D G vt vq ts t lf es Q:=by
 have l1:=aB h.x;have g:=h.m.lt;have i:=λk(hk:vt.ownBlock=some k)=>(iu h.t' hk).2;have l:∀e∈es,G e.num<w.heap.size:=λe he=>aB (h.rn e he);have m:=λj k(a:j<64)(hk:(qv vq j).ownBlock=some k)=>(iu (h.qs j a) hk).2;have hv:∀k,k<w.heap.size->¬U k->¬V k:=λk hk hu hv=>by
  rcases f k hv with b|b
  ·exact hu b
  omega
 exact h.aside d (λs=>h.ux (c _ l1 s)) (λs=>h.um (c _ g s)) (λk hk s=>h.ut k hk (c _ (i k hk) s)) (λe he s=>h.ur e he (c _ (l e he) s)) (λj k a hk s=>h.uq j k a hk (c _ (m j k a hk) s))
  (hv _ l1 h.ux) (hv _ g h.um) (λk hk=>hv _ (i k hk) (h.ut k hk)) (λe he=>hv _ (l e he) (h.ur e he)) (λj k a hk=>hv _ (m j k a hk) (h.uq j k a hk)) (λk hk=>by
  rcases f k hk with b|b
  ·exact Nat.lt_of_lt_of_le (h.low k b) d.size
  exact b.2)
theorem bZ.quiet(h:bZ U w xb mb D G vt vq ts t lf es Q)(a:Zq w w2):bZ U w2 xb mb D G vt vq ts t lf es Q:=h.step a (λ_ _ h=>h.elim) (λ_ h=>Or.inl h)
theorem bZ.c0(h:bZ U w xb mb D G vt vq ts t lf es Q):w.cell? (E xb 0)=some vt:=Zl h.x
theorem bZ.c1(h:bZ U w xb mb D G vt vq ts t lf es Q):w.cell? (E xb 1)=some (.int .i64 (t:Int)):=Zl h.x
theorem bZ.c2(h:bZ U w xb mb D G vt vq ts t lf es Q):w.cell? (E xb 2)=some (.int .i64 lf):=Zl h.x
theorem bZ.c3(h:bZ U w xb mb D G vt vq ts t lf es Q):w.cell? (E xb 3)=some (.map (some mb)):=Zl h.x
theorem agJ(vq j)(a:j<vq.length):vq[j]?=some (qv vq j):=by
 unfold qv;rw[List.getD_eq_getElem?_getD,List.getElem?_eq_getElem a];rfl
theorem bZ.fz(h:bZ U w xb mb D G vt vq ts t lf es Q)(j):w.frozen? (E xb j)=false:=by
 have:=h.x;simp[World.frozen?,this]
theorem bZ.look(h:bZ U w xb mb D G vt vq ts t lf es Q)(k)(hk:af k):
  (Instr.lookup 201 (.map (some mb)) (.int .i64 k) false).run prog w=.ok (ud G es k) w:=by
 have a:RP (.pointer none)=some (.held (.pointer none),[]):=rfl;have⟨v,ps,hr,hv⟩:=h.m.lookup (t:=201) (e:=155) ry underlying201 (Wh w) a (zW hk);have b:D.atKey (.int .i64 k) (.held (.pointer none))=.held (ud G es k):=by
  unfold ud;cases hs:du es k with
  |some n=>exact h.ha k n _ hs
  |none=>exact Maps.atKey_of_not_has (by rw[h.hs k hk,hs];rfl) _
 rw[b] at hv;obtain⟨p,rfl,he⟩:=P3 hv;simp only[Prod.mk.injEq,DataW.held.injEq] at he;rw[hr,he.1]
structure R5(w:Z0)(g:Nat)(e:Et):Prop where
 c0:w.cell? (E g 0)=some (.int .i64 e.num)
 c1:w.cell? (E g 1)=some (.int .i64 e.cy)
 c2:w.cell? (E g 2)=some (.int .i64 e.prio)
 c3:w.cell? (E g 3)=some (.bool (decide (e.came≠0)))
 c4:w.cell? (E g 4)=some (.int .i64 e.left)
 fz:∀j,w.frozen? (E g j)=false
theorem Ml{g:Nat}(h:w.heap[g]?=some (.cells (sI e) 158 (0,0))):R5 w g e:=
 ⟨Zl h,Zl h,Zl h,Zl h,Zl h,λj=>by simp[World.frozen?,h]⟩
theorem bZ.r5(h:bZ U w xb mb D G vt vq ts t lf es Q)(hi:du es n=some i):∃a:i<es.length,es[i].num=n/\R5 w (G n) es[i]/\ud G es n=.pointer (some ⟨G n,0,none⟩):=by
 have⟨a,hn⟩:=uK hi;refine⟨a,hn,?_,by unfold ud;rw[hi]⟩;have:=h.rn _ (List.getElem_mem a);rw[hn] at this;exact Ml this
def CJ(es:List Et)(Q:Nat->List Int):Prop:=∀j,j<64->NQ es ((j/8:Nat):Int) ((j % 8:Nat):Int) (Q j)
def eD(U:Z1)(w:Z0)(xb:Nat)(G:Int->Nat)(ts:Lp)(t:Nat)(lf:Int)(es:List Et)(ck:Nat):Prop:=cU es ck/\EB ts t lf/\∃mb D vt vq Q,CJ es Q/\bZ U w xb mb D G vt vq ts t lf es Q
def uU(U:Z1)(w:Z0)(xb:Nat)(ts:Lp)(t:Nat)(lf:Int)(es:List Et)(ck:Nat):Prop:=∃G,eD U w xb G ts t lf es ck
theorem eD.step(h:eD U w xb G ts t lf es ck)(c:H S w w2)(d:∀k,k<w.heap.size->S k->U k)(e:∀k,V k->U k\/(w.heap.size<=k/\k<w2.heap.size)):eD V w2 xb G ts t lf es ck:=by
 have⟨a,b,mb,D,vt,vq,Q,q,h⟩:=h;exact⟨a,b,mb,D,vt,vq,Q,q,h.step c d e⟩
theorem eD.quiet(h:eD U w xb G ts t lf es ck)(a:Zq w w2):eD U w2 xb G ts t lf es ck:=h.step a (λ_ _ h=>h.elim) (λ_ h=>Or.inl h)
theorem uU.step(h:uU U w xb ts t lf es ck)(a:H S w w2)(b:∀k,k<w.heap.size->S k->U k)(c:∀k,V k->U k\/(w.heap.size<=k/\k<w2.heap.size)):uU V w2 xb ts t lf es ck:=by
 have⟨G,h⟩:=h;exact⟨G,h.step a b c⟩
end Go.Proofs.YtdjlkahbpdoemaaGreatDoor

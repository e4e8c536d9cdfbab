import Derived.Test.YtdjlkahbpdoemaaGreatDoorCq2
import Derived.Test.YtdjlkahbpdoemaaGreatDoorCq3
import Derived.BigRegion
import Derived.Deep.CutRange
import Derived.Deep.RegionLaw
set_option maxRecDepth 100000
set_option maxHeartbeats 8000000
set_option linter.unusedVariables false
set_option linter.unusedSimpArgs false
open Go Go.Vx Go.Proofs.Tryz Go.ChangeShapes Go.WideShapes Go.ChangeAt Go.RowKit
variable {α:Type}{a:Act}{K:Act->World->Prop}{ops:Array Oper}{d:Array Value}{y:En}{R:Ending->World->Prop}{Q:Exit->Act->World->Prop}{n:Int}{es:List En}{xs:List α}{bs:Lp}{b b2 cb i size:Nat}{o:Oper}{P:Program}{Z4:Prop}{T e t:TypeId}{w w2 w3:Z0}{S:Z1}{v v' z:Z3}
namespace Go.Vx
theorem yI[DecidableEq α]:∀(l m:List α),l.Nodup->(∀x∈l,x∈m)->l.length<=m.length
 |[],m,_,_=>Nat.zero_le _
 |x::l,m,hn,hs=>by
  rw[List.nodup_cons] at hn;have a:=hs x (by simp)
  have h1:=yI l (m.erase x) hn.2 (λy hy=>by
   have b:y≠x:=λe=>hn.1 (e▸hy)
   exact(List.mem_erase_of_ne b).2 (hs y (by simp[hy])))
  rw[List.length_erase_of_mem a] at h1;have:0<m.length:=List.length_pos_of_mem a;rw[List.length_cons];omega
end Go.Vx
namespace Go.Proofs.YtdjlkahbpdoemaaGreatDoor
theorem sY{L:Lay α}(ht:prog.underlying t=some (.slice e))(h:(prog.info? e).map (λi=>(i.zero,i.size,i.bytes))=some (some z,L.sz,b))(c:z.cells.size=L.sz)(hb:b<=1000):Kind prog L t e:=by
 refine⟨ht,?_⟩;cases a:prog.info? e with
 |none=>rw[a] at h;simp at h
 |some i=>
  rw[a] at h;simp only[Option.map_some,Option.some.injEq,Prod.mk.injEq] at h;exact⟨i,z,rfl,h.1,h.2.1,Z,c⟩
theorem cW{L:Lay α}{base:Nat}(h:ax L w base e v xs){k:Nat}(hk:v.ownBlock=some k):∃cur,w.heap[k]?=some (.cells cur e (0,0)):=by
 rcases h.2 with⟨hv,_⟩|⟨g,cap,cur,hv,_,hg,_⟩
 ·rw[hv] at hk;cases hk
 rw[hv] at hk;have:g=k:=by simpa[Value.ownBlock] using hk
 subst this;exact⟨cur,hg⟩
theorem ef{j k:Nat}{c:Array Value}{u:TypeId}(h:w.heap[j]?=some (.cells c t (0,0)))(a:w.heap[k]?=some (.cells d u (0,0)))(hn:t≠u):j≠k:=by
 rintro rfl;rw[h] at a;injection a with a
 injection a with _ a
 exact hn a
theorem X0(h:v'.ownBlock=v.ownBlock\/∃g,v'.ownBlock=some g/\w.heap.size<=g/\Zq w w3):∀k,v'.ownBlock=some k->v.ownBlock=some k\/w.heap.size<=k:=by
 intro k hk;rcases h with h|⟨g,h,hg,_⟩
 ·rw[h] at hk;exact Or.inl hk
 rw[h] at hk;injection hk with hk
 subst hk;exact Or.inr hg
theorem ahZ{L:Lay α}{base:Nat}(h:ax L w base e v xs):ax L w 0 e v xs:=
 ⟨h.1,h.2.imp id (λ⟨g,cap,cur,a,b,c⟩=>⟨g,cap,cur,a,Nat.zero_le _,c⟩)⟩
theorem iu{L:Lay α}{base:Nat}(h:ax L w base e v xs){k:Nat}(hk:v.ownBlock=some k):base<=k/\k<w.heap.size:=World.ownsRow.lt h k hk
theorem H.keep(h:H S w w2){o:Obj}(hb:w.heap[b]?=some o)(a:¬S b):w2.heap[b]?=some o:=(h.block b (aB hb) a)▸hb
theorem ai0{base g c m:Nat}{xs:List Sl}(h:ax dG w base T (Zs g m c) xs)(hm:m=xs.length)(k)(hk:k<xs.length)(y):
  ax dG ((w.setCell (E g (k*2)) (O y.1)).setCell (E g (k*2+1)) (O y.2)) base T (Zs g m c) (xs.set k y)/\H (λb=>b=g) w ((w.setCell (E g (k*2)) (O y.1)).setCell (E g (k*2+1)) (O y.2)):=by
 subst hm;have h1:=(World.ownsRow.stored ((World.ownsRow.stored h (k*2) (O y.1)).1) (k*2+1) (O y.2)).1;have d:H (λb=>b=g) w (w.setCell (E g (k*2)) (O y.1)):=H.setCell (S:=λb=>b=g) (H.refl _ w) (Or.inl rfl) _;have e:=H.setCell (S:=λb=>b=g) d (p:=E g (k*2+1)) (Or.inl rfl) (O y.2);refine⟨?_,e⟩
 have f:((fl dG xs).set (k*2) (O y.1)).set (k*2+1) (O y.2)=fl dG (xs.set k y):=by
  refine ann dG xs k y hk _ (by simp) (λj l=>?_) (λi hi=>?_)
  ·have n:j<2:=l;have hlen:(fl dG xs).length=xs.length*2:=uv dG xs;have a:dG.sz=2:=rfl;rw[a,List.getElem?_set,List.getElem?_set];rcases(by omega:j=0\/j=1) with rfl|rfl
   ·rw[if_neg Z,if_pos Z,if_pos (by rw[hlen];omega)];rfl
   rw[if_pos Z,if_pos (by rw[List.length_set,hlen];omega)];rfl
  have a:dG.sz=2:=rfl;rw[a] at hi;rw[List.getElem?_set,List.getElem?_set,if_neg Z,if_neg Z]
 rw[f] at h1;show World.ownsRow _ _ _ _ _ (xs.set k y).length _;rw[List.length_set];exact h1
def kN:Lay Int:=⟨λx=>[O x],1,λ_=>rfl,λa u hu=>by simp only[List.mem_cons,List.not_mem_nil,or_false] at hu;subst hu;rfl,I⟩
theorem slK:Kind prog dG 339 45:=sY (z:=.agg #[O 0,O 0]) (b:=16) underlying339 Zx rfl I
def mM(bs:Lp)(num n:Int):Int:=if num<0\/iO n=false then 1 else match tH bs num with|some _=>7|none=>0
def kL(bs:Lp)(num n:Int):Lp:=if mM bs num n=0 then bs++[(num,n)] else bs
def zJ:List Value->Nat->List Value->List Value
 |xs,_,[]=>xs
 |xs,o,v::r=>zJ (xs.set o v) (o+1) r
theorem Fm:∀(a xs:List Value) (o:Nat),o+a.length<=xs.length->zJ xs o a=xs.take o++a++xs.drop (o+a.length)
 |[],xs,o,h=>by simp[zJ]
 |v::r,xs,o,h=>by
  have b:o+1+r.length<=(xs.set o v).length:=by rw[List.length_set];simp only[List.length_cons] at h;omega
  have c:o<xs.length:=by simp only[List.length_cons] at h;omega
  show zJ (xs.set o v) (o+1) r=_;rw[Fm r _ _ b];have e1:(xs.set o v).take (o+1)=xs.take o++[v]:=by
   rw[List.take_set,List.take_succ_eq_append_getElem c,List.set_append_right _ _ (by rw[List.length_take];omega)];have:o - (xs.take o).length=0:=by rw[List.length_take];omega
   rw[this];rfl
  have d:(xs.set o v).drop (o+1+r.length)=xs.drop (o+(v::r).length):=by
   rw[List.drop_set_of_lt Z,List.length_cons];congr 1;omega
  rw[e1,d];simp
theorem FB{base g n cap:Nat}:∀(a xs:List Value) (o:Nat) (w:Z0),w.ownsRow base e size (Zs g n cap) n xs->(w.setCells g o a).ownsRow base e size (Zs g n cap) n (zJ xs o a)/\H (λk=>k=g) w (w.setCells g o a)
 |[],xs,o,w,h=>⟨h,H.refl _ _⟩
 |v::r,xs,o,w,h=>by
  have h1:=(World.ownsRow.stored h o v).1;obtain⟨b,c⟩:=FB r (xs.set o v) (o+1) _ h1;exact⟨b,(H.setCell (S:=λk=>k=g) (H.refl _ w) (Or.inl rfl) v).trans c⟩
section
variable {L:Lay α}
theorem Th(L:Lay α):∀(xs:List α) (k:Nat) (y:α),k<xs.length->(fl L xs).take (k*L.sz)++L.cf y++(fl L xs).drop (k*L.sz+L.sz)=fl L (xs.set k y)
 |[],k,y,h=>by cases h
 |x::r,0,y,_=>by
  rw[tD,List.set_cons_zero,tD,Nat.zero_mul,Nat.zero_add,List.take_zero,List.nil_append];congr 1
  rw[<-L.len x,List.drop_left]
 |x::r,k+1,y,h=>by
  have a:=Th L r k y (by simpa using h);rw[tD,List.set_cons_succ,tD,<-a];have e:(k+1)*L.sz=(L.cf x).length+k*L.sz:=by rw[L.len,Nat.add_mul];omega
  rw[e,List.take_length_add_append,Nat.add_assoc,List.drop_length_add_append];simp
end
section
variable {L:Lay α}{base g n c:Nat}
theorem WZ(h:ax L w base e (Zs g n c) xs)(hn:n=xs.length){k:Nat}(hk:k<xs.length)(j a y)(i:j+a.length<=L.sz)(hy:(L.cf xs[k]).take j++a++(L.cf xs[k]).drop (j+a.length)=L.cf y):
  ax L (w.setCells g (k*L.sz+j) a) base e (Zs g n c) (xs.set k y)/\H (λk=>k=g) w (w.setCells g (k*L.sz+j) a):=by
 subst hn;have⟨h1,d⟩:=FB a (fl L xs) (k*L.sz+j) w h;refine⟨?_,d⟩;have b:=h.1
 have hle:k*L.sz+L.sz<=xs.length*L.sz:=by
  have f:(k+1)*L.sz<=xs.length*L.sz:=Nat.mul_le_mul_right L.sz hk;rw[Nat.add_mul] at f;omega
 have hs:=Th L xs k xs[k] hk;rw[List.set_getElem_self] at hs;have ha:((fl L xs).take (k*L.sz)).length=k*L.sz:=by rw[List.length_take,b];omega
 have hb:=L.len xs[k];rw[Fm _ _ _ (by rw[b];omega)] at h1;show World.ownsRow _ _ _ _ _ _ _;rw[List.length_set,<-Th L xs k y hk,<-hy];generalize (fl L xs).take (k*L.sz)=A at*;generalize (fl L xs).drop (k*L.sz+L.sz)=C at*;rw[<-hs,<-ha,List.append_assoc A,List.take_length_add_append,Nat.add_assoc,List.drop_length_add_append,List.take_append_of_le_length Z,List.drop_append_of_le_length Z] at h1;simp only[List.append_assoc] at h1|-;rw[ha] at h1;exact h1
end
def uc(a b:Cp):Bool:=decide (a.kind=b.kind/\a.num=b.num)
def wM(bs:Lp)(es:List En)(s:Sl)(c:Cp):Int:=match gY bs es s with|.error e=>e|.ok i=>if uc (es.getD i .df).cap c then 0 else 12
def gO(bs:Lp)(es:List En)(s:Sl)(c:Cp):List En:=match gY bs es s with|.error _=>es|.ok i=>if uc (es.getD i .df).cap c then es.set i ⟨(es.getD i .df).at',c,(es.getD i .df).cw⟩ else es
end Go.Proofs.YtdjlkahbpdoemaaGreatDoor
namespace Go.Vx
theorem VD{L:Lay α}(hk:Kind P L t e)(i:o.guard=none)(s x)(l:o.op=.call {callee:=.builtin .append,args:=#[s,x],argTypes:=#[t,t]})(base v xs)(hs:a.eval s=v)(m:ax L w base e v xs)(y)(b n c:Nat)(p:a.eval x=Zs b 1 c)(hy:∀j u,(L.cf y)[j]?=some u->w.cell? (E b j)=some u)(hlen:xs.length+1<=10000000)(q:base<=w.heap.size)(h:∀v' w',ax L w' base e v' (xs++[y])->H (λk=>v.ownBlock=some k) w w'->(v'.ownBlock=v.ownBlock\/∃g,v'.ownBlock=some g/\w.heap.size<=g/\Zq w w')->K (a.put o.dst v') w'):if Region.wanted o (yielded ops a.tmps)=true then Oper.wp P o a w K Q else Z4:=by
 have hw:Region.wanted o (yielded ops a.tmps)=true:=by simp[Region.wanted,i]
 rw[if_pos hw];have⟨v',w',hr,r,z,A⟩:=We hk w o.type base v xs m (some (E b 0)) c [y] (λ_=>⟨_,rfl,λj u f=>by rw[addr_add,Nat.zero_add];exact hy j u (by rw[aaP] at f;exact f)⟩) hlen q;have d:(Builtin.append_ #[t,t] o.type #[v,Zs b 1 c]).run P w=.ok v' w':=hr;unfold Oper.wp execOp;simp only[l,resolve,invoke,builtin,Sem.run_bind,Sem.run_pure,Result.andThen_ok,List.map_toArray,List.map_cons,List.map_nil,hs,p,d];exact h v' w' r z A
theorem dc(hg:o.guard=none)(f args c)(d:o.op=Op.call {callee:=Callee.value (.func f),args:=args,argTypes:=c})(b)(hv:args.map a.eval=b)(g:(callFunc f b).run P w=.ok (.enter f b) w)(i:Calls P f b w R)(j:∀e w',R e w'->∃v,Zr e v/\K (a.put o.dst v) w'):
  if Region.wanted o (yielded ops a.tmps)=true then Oper.wp P o a w K Q else Z4:=by
 have hw:Region.wanted o (yielded ops a.tmps)=true:=by simp[Region.wanted,hg]
 rw[if_pos hw];unfold Oper.wp;simp[execOp,d,resolve,invoke,hv,g,Act.eval,Deferred.ofValue];refine i.m ?_;intro e w' h;obtain⟨v,rfl,hk⟩:=j e w' h;exact hk
theorem aik(w g a0 a1 a2 a3 a4 a5 a b):H (λk=>k=g) w ((((((((w.setCell (E g 0) a0).setCell (E g 1) a1).setCell (E g 2) a2).setCell (E g 3) a3).setCell (E g 4) a4).setCell (E g 5) a5).setCell (E g 6) a).setCell (E g 7) b):=
 ((((((((H.refl (λk=>k=g) w).setCell (p:=E g 0) (Or.inl rfl) a0).setCell (p:=E g 1) (Or.inl rfl) a1).setCell (p:=E g 2) (Or.inl rfl) a2).setCell (p:=E g 3) (Or.inl rfl) a3).setCell (p:=E g 4) (Or.inl rfl) a4).setCell (p:=E g 5) (Or.inl rfl) a5).setCell (p:=E g 6) (Or.inl rfl) a).setCell (p:=E g 7) (Or.inl rfl) b
end Go.Vx
namespace Go.Proofs.YtdjlkahbpdoemaaGreatDoor
def Ae(es:List En)(x:En):Nat->Nat
 |0=>0
 |k+1=>if oU x.at' (es.getD k .df).at' then Ae es x k else k+1
def FR(es:List En)(x:En)(k:Nat):List En:=es.take k++x::es.drop k
def BH(es:List En)(x:En):List En:=FR es x (Ae es x es.length)
theorem alx(es x k):(FR es x k).length=es.length+1:=by
 unfold FR;rw[List.length_append,List.length_cons,List.length_take,List.length_drop];omega
theorem getD_at(es:List En)(k)(hk:k<es.length):es.getD k .df=es[k]:=by rw[List.getD_eq_getElem?_getD,List.getElem?_eq_getElem hk];rfl
def uI(f:Sl):Sl:=if f.1= -1 then (-1, -1) else f
def fU(bs:Lp)(es:List En)(a:Sl)(c:Cp)(f:Sl):Int:=if c.kind<1\/10<c.kind then 12 else if oQ bs es a=0 then (if f.1= -1 then 0 else aaJ (gY bs es f)) else oQ bs es a
def iQ(bs:Lp)(es:List En)(a:Sl)(c:Cp)(f:Sl):List En:=if fU bs es a c f=0 then BH es ⟨a,c,uI f⟩ else es
theorem Qx{L:Lay α}{base:Nat}(h:ax L w base e v xs)(hb:b2<=base):ax L w b2 e v xs:=
 ⟨h.1,h.2.imp id (λ⟨g,cap,cur,a,b,c⟩=>⟨g,cap,cur,a,Nat.le_trans hb b,c⟩)⟩
def DY(o:Sl)(e:En):Bool:=decide (e.cap.kind=o.1/\e.cap.num=o.2)
def gE(es:List En)(o:Sl):List Sl:=(es.filter (DY o)).map (·.at')
theorem ZO(es o):(gE es o).length<=es.length:=by
 unfold gE;rw[List.length_map];exact List.length_filter_le _ _
end Go.Proofs.YtdjlkahbpdoemaaGreatDoor
namespace Go.Vx
def GN(es:List En):Prop:=∀e∈es,∀e2∈es,e.at'=e2.at'->e=e2
end Go.Vx
namespace Go.Proofs.YtdjlkahbpdoemaaGreatDoor
def lM(a left n:Nat):Nat:=a/2^(left - n) % 2^n
def jx(n:Int):Nat:=if n=1 then 0 else if n=2 then 1 else if n=4 then 2 else if n=8 then 3 else if n=16 then 4 else if n=32 then 5 else 6
def yM(bs:Lp)(es:List En)(a:Nat):Nat->Cp->Nat->Sl×Int
 |0,_,_=>((-1, -1),0)
 |f+1,c,l=>
  match bq bs c.num with
  |none=>((-1, -1),12)
  |some n=>
   if c.kind=5 then
    if c.aC<0\/32<c.aC\/c.aC+(jx n:Int)=0\/(l:Int)<c.aC+(jx n:Int) then ((-1, -1),9)
    else if ((lM a l c.aC.toNat:Nat):Int)=c.guard then
     if l - c.aC.toNat - jx n=0 then ((c.num,((lM a (l - c.aC.toNat) (jx n):Nat):Int)),0)
     else match jW es (c.num,((lM a (l - c.aC.toNat) (jx n):Nat):Int)) with
      |none=>((-1, -1),11)
      |some k=>yM bs es a f (es.getD k .df).cap (l - c.aC.toNat - jx n)
    else ((-1, -1),9)
   else ((-1, -1),12)
def zZ(bs:Lp)(es:List En)(a:Nat)(c:Cp)(l:Int):Sl×Int:=if l<1\/32<l then ((-1, -1),1) else yM bs es a 33 c l.toNat
def ot(c:Cp):Prop:=0<=c.guard/\c.guard<4294967296
theorem aov{a0 a1 a2 a3 a4 a5 j k:Z3}(h:w.heap[cb]?=some (.cells #[a0,a1,a2,a3,a4,a5,j,k] 84 (0,0)))(a b c d e f g i):((((((((w.setCell (E cb 0) a).setCell (E cb 1) b).setCell (E cb 2) c).setCell (E cb 3) d).setCell (E cb 4) e).setCell (E cb 5) f).setCell (E cb 6) g).setCell (E cb 7) i).heap[cb]?=some (.cells #[a,b,c,d,e,f,g,i] 84 (0,0)):=by
 have l:=heap_setCell_same _ _ 3 _ _ d (heap_setCell_same _ _ 2 _ _ c (heap_setCell_same _ _ 1 _ _ b (heap_setCell_same _ _ 0 _ _ a h)));have m:=heap_setCell_same _ _ 7 _ _ i (heap_setCell_same _ _ 6 _ _ g (heap_setCell_same _ _ 5 _ _ f (heap_setCell_same _ _ 4 _ _ e l)));exact m
theorem QB(w g a0 a1):H (λk=>k=g) w ((w.setCell (E g 0) a0).setCell (E g 1) a1):=
 ((H.refl (λk=>k=g) w).setCell (p:=E g 0) (Or.inl rfl) a0).setCell (p:=E g 1) (Or.inl rfl) a1
theorem Wq(h:iO n=true):∃R:Nat,jx n=R/\R<=6/\n=((2^R:Nat):Int):=by
 rcases (of_decide_eq_true h) with rfl|rfl|rfl|rfl|rfl|rfl|rfl
 ·exact⟨0,rfl,I,rfl⟩
 ·exact⟨1,rfl,I,rfl⟩
 ·exact⟨2,rfl,I,rfl⟩
 ·exact⟨3,rfl,I,rfl⟩
 ·exact⟨4,rfl,I,rfl⟩
 ·exact⟨5,rfl,I,rfl⟩
 exact⟨6,rfl,I,rfl⟩
theorem VO(h:∀b∈bs,iO b.2=true){m:Int}(hs:bq bs m=some n):iO n=true:=by
 cases a:tH bs m with
 |none=>rw[Mb a] at hs;cases hs
 |some i=>
  have⟨hi,_,c⟩:=J5 a;rw[c] at hs;injection hs with hs
  rw[<-hs];exact h _ (List.getElem_mem hi)
def uV(es:List En):Prop:=es.Pairwise λa b=>oU a.at' b.at'=true
theorem Oi(a):oU a a=false:=decide_eq_false Z
theorem abz{a b c:Sl}(h1:oU a b=true)(d:oU b c=true):oU a c=true:=by
 have e:=of_decide_eq_true h1;have f:=of_decide_eq_true d;exact decide_eq_true Z
theorem apC{a b:Sl}(h:a≠b):oU a b=true\/oU b a=true:=by
 have⟨c,a2⟩:=a;have⟨d,b2⟩:=b;by_cases h1:c<d
 ·exact Or.inl (decide_eq_true (Or.inl h1))
 by_cases f:d<c
 ·exact Or.inr (decide_eq_true (Or.inl f))
 have e:c=d:=Z;subst e;have i:a2≠b2:=λe=>h (e▸rfl);by_cases g:a2<b2
 ·exact Or.inl (decide_eq_true (Or.inr ⟨rfl,g⟩))
 exact Or.inr (decide_eq_true (Or.inr ⟨rfl,by show b2<a2;omega⟩))
theorem uV.nodup(h:uV es):(es.map (·.at')).Nodup:=by
 refine List.pairwise_map.2 (h.imp (fun {a b} c he=>?_));rw[he,Oi] at c;cases c
theorem air(h:(es.map (·.at')).Nodup):GN es:=by
 intro e he f c a;have hp:=List.pairwise_map.1 h;obtain⟨i,hi,rfl⟩:=List.getElem_of_mem he;obtain⟨j,b,rfl⟩:=List.getElem_of_mem c;by_cases d:i=j
 ·subst d;rfl
 exfalso;by_cases h1:i<j
 ·exact List.pairwise_iff_getElem.1 hp i j hi b h1 a
 exact List.pairwise_iff_getElem.1 hp j i b hi Z a.symm
theorem aje{x e:En}{k:Nat}:e∈FR es x k↔e=x\/e∈es:=by
 unfold FR;rw[List.mem_append,List.mem_cons];constructor
 ·rintro(h|h|h)
  ·exact Or.inr (List.mem_of_mem_take h)
  ·exact Or.inl h
  exact Or.inr (List.mem_of_mem_drop h)
 rintro(h|h)
 ·exact Or.inr (Or.inl h)
 rw[<-List.take_append_drop k es,List.mem_append] at h;rcases h with h|h
 ·exact Or.inl h
 exact Or.inr (Or.inr h)
theorem uh{x e:En}:e∈BH es x↔e=x\/e∈es:=aje
theorem Ym(es:List En)(x:En):∀k,Ae es x k<=k
 |0=>Nat.le_refl _
 |k+1=>by
  unfold Ae
  split
  ·exact Nat.le_trans (Ym es x k) Z
  exact Nat.le_refl _
theorem Yl(es:List En)(x:En):∀k,k<=es.length->(∀j (a:j<es.length),Ae es x k<=j->j<k->oU x.at' es[j].at'=true)/\(∀i (hi:i<es.length),Ae es x k=i+1->oU x.at' es[i].at'=false)
 |0,_=>⟨λj a h1 b=>Z,λi hi h=>by simp[Ae] at h⟩
 |k+1,hk=>by
  have c:=Yl es x k Z;have hg:=getD_at es k Z;unfold Ae;by_cases h:oU x.at' (es.getD k .df).at'=true
  ·rw[if_pos h];refine⟨λj a h1 b=>?_,c.2⟩;by_cases d:j<k
   ·exact c.1 j a h1 d
   have e:j=k:=Z;subst e;rw[hg] at h;exact h
  rw[if_neg h];refine⟨λj a h1 b=>Z,λi hi f=>?_⟩;have e:k=i:=Z;subst e;rw[hg] at h;simpa using h
theorem aly(h:uV es)(x)(m:∀e∈es,e.at'≠x.at'):uV (BH es x):=by
 have hp:=Ym es x es.length;have⟨h1,k⟩:=Yl es x es.length (Nat.le_refl _);unfold BH FR;generalize Ae es x es.length=p at hp h1 k;have d:uV (es.take p++es.drop p):=by rw[List.take_append_drop];exact h
 unfold uV at d|-;rw[List.pairwise_append] at d|-;obtain⟨n,o,q⟩:=d
 have f:∀y∈es.drop p,oU x.at' y.at'=true:=λy hy=>by
  obtain⟨j,g,rfl⟩:=List.getElem_of_mem hy;rw[List.length_drop] at g;rw[List.getElem_drop];exact h1 (p+j) Z Z Z
 have r:∀y∈es.take p,oU y.at' x.at'=true:=λy hy=>by
  obtain⟨j,g,rfl⟩:=List.getElem_of_mem hy;rw[List.length_take] at g;rw[List.getElem_take];have s:p=(p - 1)+1:=Z;have l:=k (p - 1) Z s
  have c:oU (es[p - 1]'Z).at' x.at'=true:=by
   rcases apC (m _ (List.getElem_mem (show p - 1<es.length from Z))) with i|i
   ·exact i
   rw[i] at l;cases l
  by_cases t:j=p - 1
  ·subst t;exact c
  exact abz (List.pairwise_iff_getElem.1 h j (p - 1) Z Z Z) c
 exact⟨n,List.pairwise_cons.2 ⟨f,o⟩,λa ha b hb=>by
  rcases List.mem_cons.1 hb with rfl|hb
  ·exact r a ha
  exact q a ha b hb⟩
structure Wf(bs:Lp)(es:List En):Prop where
 bn:∀b∈bs,iO b.2=true/\0<=b.1
 pl:∀e∈es,∃b∈bs,b.1=e.at'.1
 so:uV es
 fr:∀e∈es,e.cw=(-1, -1)\/∃e2∈es,e2.at'=e.cw
 rk:∃r:Sl->Nat,∀e∈es,r e.cw<r e.at'
 gu:∀e∈es,ot e.cap
theorem Tf{s:Sl}(h:oQ bs es s=0):(∃b∈bs,b.1=s.1)/\∀e∈es,e.at'≠s:=by
 have hf:gY bs es s=.error 11:=by
  unfold oQ at h;rcases JQ bs es s with⟨i,hi,_⟩|hi|hi
  ·rw[hi] at h;cases h
  ·rw[hi] at h;cases h
  exact hi
 unfold gY at hf;cases hs:bq bs s.1 with
 |none=>rw[hs] at hf;cases hf
 |some n=>
  rw[hs] at hf;dsimp only at hf;by_cases c:s.2<0\/n<=s.2
  ·rw[if_pos c] at hf;cases hf
  rw[if_neg c] at hf;refine⟨?_,?_⟩
  ·cases d:tH bs s.1 with
   |none=>rw[Mb d] at hs;cases hs
   |some i=>
    have⟨hi,a,_⟩:=J5 d;exact⟨_,List.getElem_mem hi,a⟩
  cases he:jW es s with
  |some i=>rw[he] at hf;cases hf
  |none=>
   intro e hm f;have a:=jQ he e hm;rw[f] at a;simp at a
theorem Wf.ins(h:Wf bs es)(x)(hb:∃b∈bs,b.1=x.at'.1)(g:∀e∈es,e.at'≠x.at')(hf:x.cw=(-1, -1)\/∃a∈es,a.at'=x.cw)(hg:ot x.cap):Wf bs (BH es x):=by
 have j:x.at'≠(-1, -1):=λe=>by
  have⟨b,hb,f⟩:=hb;have h1:=(h.bn b hb).2;rw[e] at f;simp only at f;omega
 have k:x.cw≠x.at':=λe=>by
  rcases hf with h1|⟨a,c,d⟩
  ·exact j (e▸h1▸rfl)
  exact g a c (by rw[d,e])
 have i:∀e∈es,e.cw≠x.at':=λe he f=>by
  rcases h.fr e he with h1|⟨a,c,d⟩
  ·exact j (f▸h1▸rfl)
  exact g a c (by rw[d,f])
 refine⟨h.bn,λe he=>?_,aly h.so x g,λe he=>?_,?_,λe he=>?_⟩
 ·rcases uh.1 he with rfl|he
  ·exact hb
  exact h.pl e he
 ·rcases uh.1 he with rfl|he
  ·exact hf.imp id (λ⟨a,c,d⟩=>⟨a,uh.2 (Or.inr c),d⟩)
  exact(h.fr e he).imp id (λ⟨a,c,d⟩=>⟨a,uh.2 (Or.inr c),d⟩)
 ·have⟨r,hr⟩:=h.rk;refine⟨λs=>if s=x.at' then r x.cw+1 else r s,λe he=>?_⟩;dsimp only;rcases uh.1 he with rfl|he
  ·rw[if_neg k,if_pos rfl];omega
  rw[if_neg (i e he),if_neg (g e he)];exact hr e he
 rcases uh.1 he with rfl|he
 ·exact hg
 exact h.gu e he
theorem JR{s:Sl}(h:gY bs es s=.ok i):∃hi:i<es.length,es[i].at'=s:=by
 rcases JQ bs es s with⟨j,a,he⟩|a|a
 ·rw[h] at a;injection a with a
  subst a;exact Gv he
 ·rw[h] at a;cases a
 rw[h] at a;cases a
theorem Wf.put(h:Wf bs es)(a c f)(hg:ot c):Wf bs (iQ bs es a c f):=by
 unfold iQ;by_cases he:fU bs es a c f=0
 ·rw[if_pos he];unfold fU at he;by_cases hk:c.kind<1\/10<c.kind
  ·rw[if_pos hk] at he;cases he
  rw[if_neg hk] at he;by_cases hf:oQ bs es a=0
  ·rw[if_pos hf] at he;have⟨h1,b⟩:=Tf hf;refine h.ins ⟨a,c,uI f⟩ h1 b ?_ hg;show uI f=(-1, -1)\/_;unfold uI;by_cases hm:f.1= -1
   ·rw[if_pos hm];exact Or.inl rfl
   rw[if_neg hm] at he|-;right;rcases JQ bs es f with⟨i,hi,_⟩|hi|hi
   ·have⟨d,e⟩:=JR hi;exact⟨_,List.getElem_mem d,e⟩
   ·rw[hi] at he;cases he
   rw[hi] at he;cases he
  rw[if_neg hf] at he;exact absurd he hf
 rwa[if_neg he]
theorem zX(hi:i<es.length){c:Cp}(hy:y∈es.set i ⟨es[i].at',c,es[i].cw⟩):∃e∈es,y.at'=e.at'/\y.cw=e.cw/\(y.cap=c\/y.cap=e.cap):=by
 rcases List.mem_or_eq_of_mem_set hy with h|h
 ·exact⟨y,h,rfl,rfl,Or.inr rfl⟩
 subst h;exact⟨es[i],List.getElem_mem hi,rfl,rfl,Or.inl rfl⟩
theorem XL(hi:i<es.length)(c):(es.set i ⟨es[i].at',c,es[i].cw⟩).map (·.at')=es.map (·.at'):=by
 apply List.ext_getElem?;intro j;rw[List.getElem?_map,List.getElem?_map,List.getElem?_set];by_cases h:i=j
 ·subst h;rw[if_pos rfl,if_pos hi,List.getElem?_eq_getElem hi];rfl
 rw[if_neg h]
theorem PK:uV es↔(es.map (·.at')).Pairwise (λa b=>oU a b=true):=by
 unfold uV;rw[List.pairwise_map]
theorem Wf.set(h:Wf bs es)(s c)(hg:ot c):Wf bs (gO bs es s c):=by
 unfold gO;rcases JQ bs es s with⟨i,hf,_⟩|hf|hf
 ·obtain⟨hi,_⟩:=JR hf;rw[hf];dsimp only;rw[getD_at es i hi];by_cases hs:uc es[i].cap c=true
  ·rw[if_pos hs]
   have d:∀e∈es,∃y∈es.set i ⟨es[i].at',c,es[i].cw⟩,y.at'=e.at':=λe he=>by
    have h1:e.at'∈es.map (·.at'):=List.mem_map.2 ⟨e,he,rfl⟩;rw[<-XL hi c] at h1;obtain⟨y,hy,f⟩:=List.mem_map.1 h1;exact⟨y,hy,f⟩
   refine⟨h.bn,λy hy=>?_,?_,λy hy=>?_,?_,λy hy=>?_⟩
   ·obtain⟨e,he,h1,_⟩:=zX hi hy;rw[h1];exact h.pl e he
   ·rw[PK,XL hi c,<-PK];exact h.so
   ·obtain⟨e,he,_,b,_⟩:=zX hi hy;rw[b];refine(h.fr e he).imp id (λ⟨g,a,j⟩=>?_);obtain⟨k,l,m⟩:=d g a;exact⟨k,l,by rw[m,j]⟩
   ·obtain⟨r,hr⟩:=h.rk;refine⟨r,λy hy=>?_⟩;obtain⟨e,he,h1,b,_⟩:=zX hi hy;rw[h1,b];exact hr e he
   obtain⟨e,he,_,_,a⟩:=zX hi hy;rcases a with a|a
   ·rw[a];exact hg
   rw[a];exact h.gu e he
  rw[if_neg hs];exact h
 ·rw[hf];exact h
 rw[hf];exact h
theorem Wf.make(h:Wf bs es)(num n):Wf (kL bs num n) es:=by
 unfold kL;by_cases he:mM bs num n=0
 ·rw[if_pos he];unfold mM at he;by_cases hk:num<0\/iO n=false
  ·rw[if_pos hk] at he;cases he
  refine⟨λb hb=>?_,λe a=>?_,h.so,h.fr,h.rk,h.gu⟩
  ·rcases List.mem_append.1 hb with hb|hb
   ·exact h.bn b hb
   rw[List.mem_singleton] at hb;subst hb;refine⟨?_,by show 0<=num;omega⟩;show iO n=true;cases ht:iO n
   ·exact absurd (Or.inr ht) hk
   rfl
  have⟨b,hb,c⟩:=h.pl e a;exact⟨b,List.mem_append.2 (Or.inl hb),c⟩
 rwa[if_neg he]
def af(n:Int):Prop:= -9223372036854775808<=n/\n<=9223372036854775807
end Go.Proofs.YtdjlkahbpdoemaaGreatDoor

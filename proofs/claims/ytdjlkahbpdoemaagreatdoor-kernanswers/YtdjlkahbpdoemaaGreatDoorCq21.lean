import Derived.Test.YtdjlkahbpdoemaaGreatDoorCq19
import Derived.Test.YtdjlkahbpdoemaaGreatDoorCq20
set_option maxRecDepth 100000
set_option maxHeartbeats 8000000
set_option linter.unusedVariables false
set_option linter.unusedSimpArgs false
open Go Go.Vx Go.Proofs.Tryz Go.ChangeShapes Go.WideShapes Go.ChangeAt Go.RowKit
variable {α:Type}{act:Act}{args:Array Value}{D y:DataW Value}{Q:Exit->Act->World->Prop}{pc:Int}{G:Int->Nat}{F:List (Nat×Obj)}{ci co:List (Z2)}{fD ks l:List Int}{Ps:List ff}{xs:List α}{kl:Lit}{left:Lit->Bool}{b bb fG i kb mb n pb qb r sb tb ub:Nat}{rg:Nat->Int}{o2:Obj}{o:Oper}{w w1 w2 w3 wr wv wx:Z0}{S U V:Z1}{nv v v2:Z3}{P a d e:ff}
namespace Go.Vx
theorem aN.aid(h:aN Ps U w)(i)(hi:Ps[i]?=some P):
  ∃g:Z1,P g w/\(∀j Q b,j≠i->Ps[j]?=some Q->b<w.heap.size->(∀V,Q V w->¬V b)->g b)/\∀(l:ff) (w2:Z0),jX l->l g w2->Zn g w w2->aN (Ps.set i l) U w2/\Zn U w w2:=by
 have⟨hu,C,hp,n,m⟩:=h;refine⟨_,(hp i P hi).2,λj Q b c r hb hv=>⟨hb,λs=>?_⟩,λl w2 p e o=>⟨?_,o.mono (λk hk h1 e=>h1 ⟨hk,λa=>(m i k a).2 e⟩)⟩⟩
 ·have h1:=hv _ (hp j Q r).2;have e:=Classical.byContradiction λa=>h1 ⟨hb,a⟩;exact c (n j i b e s)
 have hs:=o.size;refine⟨λk hk=>by have:=hu k hk;omega,λj k=>C j k\/(j=i/\w.heap.size<=k/\k<w2.heap.size),λj Q c=>?_,λj q k a d=>?_,λj k hk=>?_⟩
 ·by_cases he:j=i
  ·subst he;rw[List.getElem?_set_self ((List.getElem?_eq_some_iff.1 hi).1)] at c;injection c with c
   subst c;refine⟨p,p _ _ (λ_=>False) w2 w2 e (H.refl _ _) (λ_ _ h=>h.elim) (λk hk=>Or.inl ?_)⟩;have a:¬(w.heap.size<=k/\k<w2.heap.size):=λd=>hk.2 (Or.inr ⟨rfl,d⟩);exact⟨by have:=hk.1;omega,λd=>hk.2 (Or.inl d)⟩
  rw[List.getElem?_set_ne (λh=>he h.symm)] at c;refine⟨(hp j Q c).1,(hp j Q c).1 _ _ _ w w2 (hp j Q c).2 o (λk hk h1=>⟨hk,λf=>h1 ⟨hk,λt=>he (n j i k f t)⟩⟩) (λk hk=>?_)⟩;by_cases h1:k<w.heap.size
  ·exact Or.inl ⟨h1,λf=>hk.2 (Or.inl f)⟩
  exact Or.inr ⟨Z,hk.1⟩
 ·rcases a with a|a<;>rcases d with d|d
  ·exact n j q k a d
  ·have:=(m j k a).1;omega
  ·have:=(m q k d).1;omega
  rw[a.1,d.1]
 rcases hk with hk|hk
 ·have:=m j k hk;exact⟨Z,this.2⟩
 exact⟨hk.2.2,λf=>by have:=hu k f;omega⟩
end Go.Vx
namespace Go.Proofs.YtdjlkahbpdoemaaGreatDoor
variable {A B C K K2:Kn}{q:Kn×Int×Nat}
theorem aj7(h:w.ranges prog 3 RP tb r n D left fG)(a:H S w w2)(hb:¬S tb)(hr:¬S r):w2.ranges prog 3 RP tb r n D left fG:=by
 have⟨l,clock,since,seen,c0,b,F,hs,c,fN,rest⟩:=h;exact⟨l,clock,since,seen,c0,(a.block tb h.owns.lt hb).trans b,F,hs,c,(a.block r h.lt hr).trans fN,rest⟩
theorem ag4(v y)(h:RP v=some y):∃c,v=Value.pointer c:=by
 have⟨a,ha,_⟩:=P3 h;exact⟨a,ha⟩
theorem Wl:∀(l:List Int) (ss:List Et) (x:Int),qj ss (l++[x])=de (qj ss l) x 0 0
 |[],ss,x=>rfl
 |n::r,ss,x=>Wl r (de ss n 0 0) x
theorem aq.afO(h:aq U w kb mb sb pb qb bb tb D ks G K)(g:K.ss.length<1000000)(n d p)(hn:af n):Zk 51 #[M qb,.int .i64 n,.int .i64 d,.int .i64 p] w λe w'=>Zr e (.int .i64 (jn K.ss n d p))/\aq U w' kb mb sb pb qb bb tb D ks G {K with ss:=de K.ss n d p}/\H (λk=>¬U k/\k≠tb) w w':=by
 have⟨s,i⟩:=h.own;have⟨t,⟨u,a⟩,j,l⟩:=aN.aid h 3 rfl;have m:=j 5 _ tb I rfl i.m.own.lt (λV o=>o.um);refine(UN a g n d p hn).m ?_;rintro e w' ⟨h1,q,c⟩;have⟨r,b⟩:=l (jY qb K.ts K.t K.lf (de K.ss n d p) K.ck) w' (jY.dF qb K.ts K.t K.lf (de K.ss n d p) K.ck) q c;refine⟨h1,r,⟨b.os,b.tape,b.output,b.size,λk hk hn=>?_⟩⟩;by_cases f:k=tb
 ·subst f;exact c.block k hk (λh=>h m)
 exact b.block k hk (λh=>hn ⟨h,f⟩)
theorem _root_.Go.Vx.H.ap1{a b c:Z0}(h:H S a b)(e:H (λk=>k=r) b c)(hr:a.heap.size<=r):H S a c:=
 (h.mono (T:=λk=>S k\/k=r) (λk _ hk=>Or.inl hk)).trans (e.mono (T:=λk=>S k\/k=r) (λk _ hk=>Or.inr hk)) |>.mono (λk hk d=>by
  rcases d with d|d
  ·exact d
  omega)
structure ym(U:Z1)(w:Z0)(kb mb sb pb qb bb tb:Nat)(D:DataW Value)(ks:List Int)(G:Int->Nat)(r:Nat)(K:Kn)(l:List Int)(left:Lit->Bool)(fG:Nat)(wr:Z0):Prop where
 rg:wr.ranges prog 3 RP tb r ks.length D left fG
 kg:∃V:Z1,(∀k,U k->V k)/\V r/\aq V wr kb mb sb pb qb bb tb D ks G {K with ss:=qj K.ss l}
 o:Zn U w wr
 hr:w.heap.size<=r
 nd:l.Nodup
 mem:∀x,x∈l↔x∈ks/\left (.int .i64 x)=false
theorem ym.start(h:ai U w kb mb sb pb qb bb tb D ks G F K wv)(hr:w2.ranges prog 3 RP tb wv.heap.size ks.length D (Maps.has D) (Maps.size D))(hg:wv.grownBy w2 none)(hs:w2.heap.size=wv.heap.size+1):ym U w kb mb sb pb qb bb tb D ks G wv.heap.size K [] (Maps.has D) (Maps.size D) w2:=by
 have a:=QN hg;have⟨⟨V,h1,i,b⟩,j,c⟩:=h;have⟨l,d⟩:=b.own;refine⟨hr,⟨_,λk hk=>Or.inl (h1 k hk),Or.inr ⟨Nat.le_refl _,Z⟩,b.wide a⟩,c.trans (a.f),c.size,List.nodup_nil,λx=>?_⟩;constructor
 ·intro g;cases g
 rintro⟨e,f⟩;rw[(d.m.has x (d.m.ix x e)).2 e] at f;cases f
theorem ym.key(h:ym U w kb mb sb pb qb bb tb D ks G r K l left fG wv){x:Int}(a:keyOf prog 3 (.int .i64 x)=some kl)(b:∀c,D.atKey kl c=y):af x/\kl=.int .i64 x/\x∈ks:=by
 obtain⟨d,ex,rfl,hw⟩:=Maps.keyOf_i64 underlying3 a;obtain rfl:x=d:=by injection ex
 have hi:=Hr hw;have⟨V,_,_,hk⟩:=h.kg;have⟨f,e⟩:=hk.own;exact⟨hi,rfl,(e.m.has x hi).1 (Maps.has_true_of_atKey b)⟩
section
variable {vS:Nat}
theorem ym.round(h:ym U w kb mb sb pb qb bb tb D ks G r K l left fG wv)(hw:bE K){x:Int}(n:af x)(o:x∈ks)(p:left (.int .i64 x)=true)(q:w3.ranges prog 3 RP tb r ks.length D (Fe left x) vS)(hg:wv.grownBy w3 (some r)):w3.cell? (E kb 3)=some (M qb)/\Zk 51 #[M qb,.int .i64 x,.int .i64 0,.int .i64 0] w3 λe w'=>(∃ev,Zr e (.int .i64 ev))/\Hid (ym U w kb mb sb pb qb bb tb D ks G r K (l++[x]) (Fe left x) vS w'):=by
 have f:=QP hg;have⟨V,g,c,hk⟩:=h.kg;have i:aq V w3 kb mb sb pb qb bb tb D ks G {K with ss:=qj K.ss l}:=jX.j (aN.dF _) hk f (λk _ hk=>by subst hk;exact c);refine⟨i.x.c3,?_⟩;have d:=hw.rest l (λm hm=>by
  have⟨z,s⟩:=hk.own;exact s.kt.mem_iff.1 ((h.mem m).1 hm).1) K.ss hw
 refine(i.afO (by have:=d.ns;omega) x 0 0 n).m ?_;rintro e w' ⟨rfl,t,j⟩;refine⟨⟨_,rfl⟩,aj7 q j (λh=>h.2 rfl) (λh=>h.1 c),⟨V,g,c,by rw[Wl];exact t⟩,(h.o.ap1 f h.hr).trans (j.mono (λk _ u v=>u.1 (g k v))),h.hr,?_,λy=>?_⟩
 ·rw[List.nodup_append];refine⟨h.nd,by simp,λa ha b hb e=>?_⟩;rw[List.mem_singleton] at hb;subst hb;subst e;have:=((h.mem _).1 ha).2;rw[p] at this;cases this
 rw[List.mem_append,List.mem_singleton,h.mem y,VA];by_cases he:y=x
 ·subst he;rw[decide_eq_true rfl];simp[o]
 rw[decide_eq_false he];simp[he]
end
theorem ym.fin(h:ym U w kb mb sb pb qb bb tb D ks G r K l left fG wv)(c:∀kl,left kl=false):au U wv kb mb sb pb qb bb tb (Gu K)/\Zn U w wv:=by
 refine⟨?_,h.o⟩;have⟨V,d,f,hk⟩:=h.kg;have⟨g,b⟩:=hk.own;have hp:l.Perm (K.T.map (·.num)):=by
  refine List.Perm.trans ?_ b.kt;exact(List.perm_ext_iff_of_nodup h.nd b.m.nd).2 (λx=>by rw[h.mem x,c];simp)
 have⟨i,a,_,_,e⟩:=aN.open (hk.x.thin d) 3 rfl;exact(e (jY qb K.ts K.t K.lf (qj K.ss (K.T.map (·.num))) K.ck) wv (jY.dF qb K.ts K.t K.lf (qj K.ss (K.T.map (·.num))) K.ck) (uU.perm a (agv hp K.ss)) (H.refl _ _)).1
theorem zK(st:Kn->α->Kn×Int):∀(l:List α) (K:Kn) (i:Nat),(bf st K l i).2.1=0->(bf st K l i).2.2=0
 |[],K,i,_=>rfl
 |x::r,K,i,h=>by
  unfold bf at h|-
  split at h
  ·rename_i a;rw[if_pos a];exact zK st r _ _ h
  rename_i a;exact absurd h a
theorem lS.up{L:Lay α}{p:Option Addr}(h:lS L U w p xs)(a:∀k,U k->V k):lS L V w p xs:=⟨λb=>by
 obtain⟨g,o,h1,c,d⟩:=h.r b
 exact⟨g,o,h1,a g c,d⟩,h.n⟩
theorem aj.GC(h:aj U w kb mb sb pb qb bb tb F K wv){f:FuncId}{Q:Kn×Int×Nat}(d:∀V,(∀k,U k->V k)->au V wv kb mb sb pb qb bb tb K->Zk f args wv λe w'=>Zr e (.tuple #[.int .i64 Q.2.1,.int .i64 (Q.2.2:Nat)])/\Hid (au V w' kb mb sb pb qb bb tb Q.1/\bP Q.1/\Zn V wv w')):
  Zk f args wv λe w'=>∃K2 a n2,Q=(K2,a,n2)/\Zr e (.tuple #[.int .i64 a,.int .i64 (n2:Int)])/\Hid (aj U w kb mb sb pb qb bb tb F K2 w'/\bP K2):=by
 have⟨⟨V,h1,c,g⟩,i,j⟩:=h;refine(d V h1 g).m ?_;rintro e w' ⟨rfl,b⟩;have⟨K2,a,n2⟩:=Q;exact⟨K2,a,n2,rfl,rfl,⟨⟨V,h1,c,b.j.1⟩,λp hp=>H.keep b.j.2.2 (i p hp) (λh=>h (c p hp)),j.trans (b.j.2.2.mono (λk _ l m=>l (h1 k m)))⟩,b.j.2.1⟩
theorem ap4(h:au U w kb mb sb pb qb bb tb K)(hw:bP K)(S)(R:TS S)(Jo:S.iq=[])(n)(c:Nat)(vt T uM)(Y7:lS sU U w T S.ob)(W uQ)(ZC:lS oT U w W S.eM)(X uP)(ZB:lS tG U w X S.cp)(sP uN)(Y9:lS sW U w sP S.mp)(sN uL)(Y6:lS sE U w sN S.th)(sQ uO)(ZA:lS ML U w sQ S.iq):
  Zk 17 #[M kb,.agg #[.int .i64 n,vt,.int .u32 (c:Int),.slice T S.ob.length uM,.slice W S.eM.length uQ,.slice X S.cp.length uP,.slice sP S.mp.length uN,.slice sN S.th.length uL,.slice sQ S.iq.length uO]] w λe w'=>Zr e (.tuple #[.int .i64 (bO fY (bO di (bO dj (bO dI (bO dB (bf dH K S.ob 0) S.eM) S.cp) S.mp) S.th) S.iq).2.1,.int .i64 ((bO fY (bO di (bO dj (bO dI (bO dB (bf dH K S.ob 0) S.eM) S.cp) S.mp) S.th) S.iq).2.2:Nat)])/\Hid (au U w' kb mb sb pb qb bb tb (if (bO fY (bO di (bO dj (bO dI (bO dB (bf dH K S.ob 0) S.eM) S.cp) S.mp) S.th) S.iq).2.1=0 then Gu (bO fY (bO di (bO dj (bO dI (bO dB (bf dH K S.ob 0) S.eM) S.cp) S.mp) S.th) S.iq).1 else (bO fY (bO di (bO dj (bO dI (bO dB (bf dH K S.ob 0) S.eM) S.cp) S.mp) S.th) S.iq).1)/\Zn U w w'):=by
 have⟨Q,hQ⟩:=Ze ((bO fY (bO di (bO dj (bO dI (bO dB (bf dH K S.ob 0) S.eM) S.cp) S.mp) S.th) S.iq));rw[<-hQ];have aa:=Y hQ;have⟨KF,S5⟩:=Ze ((if Q.2.1=0 then Gu Q.1 else Q.1));rw[<-S5];have EX:Hid (∀K e n,Q=(K,e,n)->(e=0->KF=Gu K)/\(e≠0->KF=K)):=λK e n h=>by
  rw[S5,h];exact⟨λg=>if_pos g,λg=>if_neg g⟩
 have⟨Kj,SY⟩:∃N,N=S.ob.length:=⟨_,rfl⟩;have E2:Hid (∀F K wv,aj U w kb mb sb pb qb bb tb F K wv/\bP K->Zk 39 #[.slice T Kj uM,.func (.func 40) #[M kb] #[]] wv λe w'=>∃K2 b n2,bf dH K S.ob 0=(K2,b,n2)/\Zr e (.tuple #[.int .i64 b,.int .i64 (n2:Int)])/\Hid (aj U w kb mb sb pb qb bb tb F K2 w'/\bP K2)):=λF K wv h=>h.1.GC (λV s t=>anS t h.2 SY ((Y7.keep h.1.o).up s) R.ob);have⟨Ko,S2⟩:∃N,N=S.eM.length:=⟨_,rfl⟩;have ab:Hid (∀F K wv,aj U w kb mb sb pb qb bb tb F K wv/\bP K->Zk 41 #[.slice W Ko uQ,.func (.func 42) #[M kb] #[]] wv λe w'=>∃K2 b n2,bf dB K S.eM 0=(K2,b,n2)/\Zr e (.tuple #[.int .i64 b,.int .i64 (n2:Int)])/\Hid (aj U w kb mb sb pb qb bb tb F K2 w'/\bP K2)):=λF K wv h=>h.1.GC (λV s t=>anW t h.2 S2 ((ZC.keep h.1.o).up s) R.eM);have⟨Km,S1⟩:∃N,N=S.cp.length:=⟨_,rfl⟩;have C9:Hid (∀F K wv,aj U w kb mb sb pb qb bb tb F K wv/\bP K->Zk 43 #[.slice X Km uP,.func (.func 44) #[M kb] #[]] wv λe w'=>∃K2 b n2,bf dI K S.cp 0=(K2,b,n2)/\Zr e (.tuple #[.int .i64 b,.int .i64 (n2:Int)])/\Hid (aj U w kb mb sb pb qb bb tb F K2 w'/\bP K2)):=λF K wv h=>h.1.GC (λV s t=>anV t h.2 S1 ((ZB.keep h.1.o).up s) R.cp)
 obtain⟨Kk,SZ⟩:∃N,N=S.mp.length:=⟨_,rfl⟩
 have ad:Hid (∀F K wv,aj U w kb mb sb pb qb bb tb F K wv/\bP K->Zk 45 #[.slice sP Kk uN,.func (.func 46) #[M kb] #[]] wv λe w'=>∃K2 b n2,bf dj K S.mp 0=(K2,b,n2)/\Zr e (.tuple #[.int .i64 b,.int .i64 (n2:Int)])/\Hid (aj U w kb mb sb pb qb bb tb F K2 w'/\bP K2)):=λF K wv h=>h.1.GC (λV s t=>anT t h.2 SZ ((Y9.keep h.1.o).up s) R.mp)
 obtain⟨Ki,SX⟩:∃N,N=S.th.length:=⟨_,rfl⟩
 have C8:Hid (∀F K wv,aj U w kb mb sb pb qb bb tb F K wv/\bP K->Zk 47 #[.slice sN Ki uL,.func (.func 48) #[M kb] #[]] wv λe w'=>∃K2 b n2,bf di K S.th 0=(K2,b,n2)/\Zr e (.tuple #[.int .i64 b,.int .i64 (n2:Int)])/\Hid (aj U w kb mb sb pb qb bb tb F K2 w'/\bP K2)):=λF K wv h=>h.1.GC (λV s t=>anQ t h.2 SX ((Y6.keep h.1.o).up s) R.th)
 obtain⟨Kl,S0⟩:∃N,N=S.iq.length:=⟨_,rfl⟩
 have ag:Hid (∀F K wv,aj U w kb mb sb pb qb bb tb F K wv/\bP K->Zk 49 #[.slice sQ Kl uO,.func (.func 50) #[M kb] #[]] wv λe w'=>∃K2 b n2,bf fY K S.iq 0=(K2,b,n2)/\Zr e (.tuple #[.int .i64 b,.int .i64 (n2:Int)])/\Hid (aj U w kb mb sb pb qb bb tb F K2 w'/\bP K2)):=λF K wv h=>h.1.GC (λV s t=>anU t h.2 S0 ((ZA.keep h.1.o).up s) R.iq Jo)
 clear Jo;rw[<-SY,<-S2,<-S1,<-SZ,<-SX,<-S0];obtain⟨w1,ae⟩:=Ze (w.alloc (.cells #[.int .i64 n,vt,.int .u32 (c:Int),.slice T Kj uM,.slice W Ko uQ,.slice X Km uP,.slice sP Kk uN,.slice sN Ki uL,.slice sQ Kl uO] 35));obtain⟨ob,aP⟩:=Ze (w.heap.size);obtain⟨F,hF⟩:∃F:List (Nat×Obj),F=[(ob,.cells #[.int .i64 n,vt,.int .u32 (c:Int),.slice T Kj uM,.slice W Ko uQ,.slice X Km uP,.slice sP Kk uN,.slice sN Ki uL,.slice sQ Kl uO] 35 (0,0))]:=⟨_,rfl⟩
 have fg:Hid (aj U w kb mb sb pb qb bb tb F K w1/\bP K):=⟨by rw[ae,hF,aP];exact(aj.start h).alloc _,hw⟩
 have B:Hid (∀K' wv,aj U w kb mb sb pb qb bb tb F K' wv->wv.cell? (E ob 3)=some (.slice T Kj uM)/\wv.cell? (E ob 4)=some (.slice W Ko uQ)/\wv.cell? (E ob 5)=some (.slice X Km uP)/\wv.cell? (E ob 6)=some (.slice sP Kk uN)/\wv.cell? (E ob 7)=some (.slice sN Ki uL)/\wv.cell? (E ob 8)=some (.slice sQ Kl uO)):=λK' wv h=>by
  have hm:(ob,Obj.cells #[.int .i64 n,vt,.int .u32 (c:Int),.slice T Kj uM,.slice W Ko uQ,.slice X Km uP,.slice sP Kk uN,.slice sN Ki uL,.slice sQ Kl uO] 35 (0,0))∈F:=by rw[hF];exact List.mem_cons_self
  exact⟨(cell_of_row _ _ 3 _ _ (0,0) (h.at hm)).trans rfl,(cell_of_row _ _ 4 _ _ (0,0) (h.at hm)).trans rfl,(cell_of_row _ _ 5 _ _ (0,0) (h.at hm)).trans rfl,(cell_of_row _ _ 6 _ _ (0,0) (h.at hm)).trans rfl,(cell_of_row _ _ 7 _ _ (0,0) (h.at hm)).trans rfl,(cell_of_row _ _ 8 _ _ (0,0) (h.at hm)).trans rfl⟩
 have q:=B.j _ _ fg.j.1;obtain⟨i,j,k,m,o,p⟩:=q;clear h hw R hQ S5 hF SY Y7 S2 ZC S1 ZB SZ Y9 SX Y6 S0 ZA;go_enter func17,ntmps17;go_upto_region 1 with fail
 rw[<-ae,<-aP];clear ae aP;go_wp2_with fail;refine(E2.j _ _ _ fg.j).m ?_;rintro e w2 ⟨v,e1,n1,d,rfl,ik⟩
 have Lb:Hid (Q=(bO fY (bO di (bO dj (bO dI (bO dB (v,e1,n1) S.eM) S.cp) S.mp) S.th) S.iq)):=by
  have a:=aa.j;rw[d] at a;exact a
 have an:Hid (e1=0->n1=0):=λg=>by
  have a:=zK dH S.ob K 0;rw[d] at a;exact a g
 clear d aa fg E2 i j k m o p;obtain⟨i,j,k,m,o,p⟩:=B.j _ _ ik.j.1;by_cases z:e1=0
 case neg=>
  have y1:(e1 !=0)=true:=by simpa using z
  have f:Hid (Q=(v,e1,n1)):=by
   show Q=_;rw[Lb.j,rj _ (show(v,e1,n1).2.1≠0 from z),rj _ (show(v,e1,n1).2.1≠0 from z),rj _ (show(v,e1,n1).2.1≠0 from z),rj _ (show(v,e1,n1).2.1≠0 from z),rj _ (show(v,e1,n1).2.1≠0 from z)]
  have u:=Y z;clear z;go_wp2_with fail
  all_goals
   go_ret2;exact⟨Zv f.j,by rw[(EX.j _ _ _ f.j).2 u.j];exact ik.j.1.fin⟩
 replace Lb:Hid (Q=(bO fY (bO di (bO dj (bO dI (bf dB v S.eM 0) S.cp) S.mp) S.th) S.iq)):=by
  show Q=_;rw[Lb.j,Hu _ (show(v,e1,n1).2.1=0 from z)]
 subst z;clear an;go_wp2_with fail;refine(ab.j _ _ _ ik.j).m ?_;rintro e w3 ⟨K2,b,n2,d,rfl,ju⟩
 have kY:Hid (Q=(bO fY (bO di (bO dj (bO dI (K2,b,n2) S.cp) S.mp) S.th) S.iq)):=by
  have a:=Lb.j;rw[d] at a;exact a
 have ao:Hid (b=0->n2=0):=λg=>by
  have a:=zK dB S.eM v 0
  rw[d] at a;exact a g
 clear d Lb ik ab i j k m o p;obtain⟨i,j,k,m,o,p⟩:=B.j _ _ ju.j.1;by_cases z2:b=0
 case neg=>
  have y2:(b !=0)=true:=by simpa using z2
  have f:Hid (Q=(K2,b,n2)):=by
   show Q=_;rw[kY.j,rj _ (show(K2,b,n2).2.1≠0 from z2),rj _ (show(K2,b,n2).2.1≠0 from z2),rj _ (show(K2,b,n2).2.1≠0 from z2),rj _ (show(K2,b,n2).2.1≠0 from z2)]
  have u:=Y z2;clear z2;go_wp2_with fail
  all_goals
   go_ret2;exact⟨Zv f.j,by rw[(EX.j _ _ _ f.j).2 u.j];exact ju.j.1.fin⟩
 replace kY:Hid (Q=(bO fY (bO di (bO dj (bf dI K2 S.cp 0) S.mp) S.th) S.iq)):=by
  show Q=_;rw[kY.j,Hu _ (show(K2,b,n2).2.1=0 from z2)]
 subst z2;clear ao;go_wp2_with fail;refine(C9.j _ _ _ ju.j).m ?_;rintro e w4 ⟨C,A,n3,d,rfl,OQ⟩
 have La:Hid (Q=(bO fY (bO di (bO dj (C,A,n3) S.mp) S.th) S.iq)):=by
  have a:=kY.j;rw[d] at a;exact a
 have pV:Hid (A=0->n3=0):=λg=>by
  have a:=zK dI S.cp K2 0;rw[d] at a;exact a g
 clear d kY ju C9 i j k m o p;obtain⟨i,j,k,m,o,p⟩:=B.j _ _ OQ.j.1;by_cases z3:A=0
 case neg=>
  have y3:(A !=0)=true:=by simpa using z3
  have f:Hid (Q=(C,A,n3)):=by
   show Q=_;rw[La.j,rj _ (show(C,A,n3).2.1≠0 from z3),rj _ (show(C,A,n3).2.1≠0 from z3),rj _ (show(C,A,n3).2.1≠0 from z3)]
  have u:=Y z3;clear z3;go_wp2_with fail
  all_goals
   go_ret2;exact⟨Zv f.j,by rw[(EX.j _ _ _ f.j).2 u.j];exact OQ.j.1.fin⟩
 replace La:Hid (Q=(bO fY (bO di (bf dj C S.mp 0) S.th) S.iq)):=by
  show Q=_;rw[La.j,Hu _ (show(C,A,n3).2.1=0 from z3)]
 subst z3;clear pV;go_wp2_with fail;refine(ad.j _ _ _ OQ.j).m ?_;rintro e w5 ⟨K4,P,n4,d,rfl,OP⟩
 have K8:Hid (Q=(bO fY (bO di (K4,P,n4) S.th) S.iq)):=by
  have a:=La.j;rw[d] at a;exact a
 have ar:Hid (P=0->n4=0):=λg=>by
  have a:=zK dj S.mp C 0;rw[d] at a;exact a g
 clear d La OQ ad i j k m o p;obtain⟨i,j,k,m,o,p⟩:=B.j _ _ OP.j.1;by_cases z4:P=0
 case neg=>
  have y4:(P !=0)=true:=by simpa using z4
  have f:Hid (Q=(K4,P,n4)):=by
   show Q=_;rw[K8.j,rj _ (show(K4,P,n4).2.1≠0 from z4),rj _ (show(K4,P,n4).2.1≠0 from z4)]
  have u:=Y z4;clear z4;go_wp2_with fail
  all_goals
   go_ret2;exact⟨Zv f.j,by rw[(EX.j _ _ _ f.j).2 u.j];exact OP.j.1.fin⟩
 replace K8:Hid (Q=(bO fY (bf di K4 S.th 0) S.iq)):=by
  show Q=_;rw[K8.j,Hu _ (show(K4,P,n4).2.1=0 from z4)]
 subst z4;clear ar;go_wp2_with fail;refine(C8.j _ _ _ OP.j).m ?_;rintro e w6 ⟨K5,e5,n5,d,rfl,tU⟩
 have K7:Hid (Q=(bO fY (K5,e5,n5) S.iq)):=by
  have a:=K8.j;rw[d] at a;exact a
 have av:Hid (e5=0->n5=0):=λg=>by
  have a:=zK di S.th K4 0;rw[d] at a;exact a g
 clear d K8 OP C8 i j k m o p;obtain⟨i,j,k,m,o,p⟩:=B.j _ _ tU.j.1;by_cases z5:e5=0
 case neg=>
  have y5:(e5 !=0)=true:=by simpa using z5
  have f:Hid (Q=(K5,e5,n5)):=by
   show Q=_;rw[K7.j,rj _ (show(K5,e5,n5).2.1≠0 from z5)]
  have u:=Y z5;clear z5;go_wp2_with fail
  all_goals
   go_ret2;exact⟨Zv f.j,by rw[(EX.j _ _ _ f.j).2 u.j];exact tU.j.1.fin⟩
 replace K7:Hid (Q=(bf fY K5 S.iq 0)):=by
  show Q=_;rw[K7.j,Hu _ (show(K5,e5,n5).2.1=0 from z5)]
 subst z5;clear av;go_wp2_with fail;refine(ag.j _ _ _ tU.j).m ?_;rintro e w7 ⟨K6,e6,n6,d,rfl,G4⟩
 have Ud:Hid (Q=(K6,e6,n6)):=by
  have a:=K7.j;rw[d] at a;exact a
 have ah:Hid (e6=0->n6=0):=λg=>by
  have a:=zK fY S.iq K5 0;rw[d] at a;exact a g
 clear d K7 tU ag i j k m o p;obtain⟨i,j,k,m,o,p⟩:=B.j _ _ G4.j.1;by_cases z6:e6=0
 case neg=>
  have y6:(e6 !=0)=true:=by simpa using z6
  have f:Hid (Q=(K6,e6,n6)):=by
   show Q=_;rw[Ud.j]
  have u:=Y z6;clear z6;go_wp2_with fail
  all_goals
   go_ret2;exact⟨Zv f.j,by rw[(EX.j _ _ _ f.j).2 u.j];exact G4.j.1.fin⟩
 have f:Hid (Q=(K6,0,0)):=by
  show Q=_;rw[Ud.j,ah.j z6,z6]
 subst z6;clear ah Ud B i j k m o p;obtain⟨⟨V,a1,a2,a3⟩,a4,a5⟩:=G4.j.1;obtain⟨D,ks,G,hg⟩:=a3.g;have HG:Hid (ai U w kb mb sb pb qb bb tb D ks G F K6 w7):=⟨⟨V,a1,a2,hg⟩,a4,a5⟩
 obtain⟨U5,oH⟩:=hg.own;have u7:=Y oH.m.own;have c5:=G4.j.1.c.2.2.2.2.2;clear a1 a2 a3 a4 a5 hg oH;go_wp2_with (at_range;refine wpList_range_own _ rfl _ 96 rfl 3 106 ry underlying96 RP tb ks.length D rfl u7.j ?_;intro w8 yQ gV cI;have zv:=Y (ym.start HG.j yQ gV cI);clear yQ gV cI);obtain⟨r,hr⟩:=Ze (w7.heap.size);rw[<-hr] at zv|-;have j6:=Y G4.j.2.1;clear hr c5 u7 HG G4
 go_frame
 go_loopw [18,96,97] (λ_ _ _ wr=>∃left fG l,Hid (ym U w kb mb sb pb qb bb tb D ks G r K6 l left fG wr)) (λ_ _ _ wr=>wr.rangeLeft tb r)
 case atStart=>exact⟨_,_,_,zv⟩
 case round=>
  clear zv;obtain⟨left,fG,l,HR⟩:=hrel;go_wp2_with (at_next;refine wpList_next_ranges _ rfl _ rfl 3 ry RP (Value.int .i64) Value.pointer X9 ag4 tb r ks.length D left fG rfl HR.j.rg ?_ ?_)
  ·intro kU oN;have HF:=Y (HR.j.fin oN);clear kU oN;go_wp2_with fail
   all_goals
    go_ret2;exact⟨Zv f.j,by rw[(EX.j _ _ _ f.j).1 rfl];exact HF.j⟩
  intro x cc kl y yp w9 GA tm fZ hv fR I5 al gV cI rQ;obtain⟨vL,rfl,nN⟩:=HR.j.key tm fR;have lV:Hid (wr.rangeLeft tb r=fG/\GA<fG):=⟨HR.j.rg.left_eq,al⟩
  obtain⟨c3,ka⟩:=HR.j.round j6.j vL nN fZ I5 gV;have E4:=Y ka;clear tm fZ hv fR I5 al gV cI vL nN ka;go_wp2_with fail;refine E4.j.m ?_;rintro e vx ⟨⟨ev,rfl⟩,KW⟩;clear rQ c3 E4
  go_wp2
  go_roundw
  case rel=>exact⟨_,GA,_,KW⟩
  case measure=>rw[lV.j.1,KW.j.rg.left_eq];exact lV.j.2
def xR(tb:Nat):ff:=λU w=>i6 w tb (.map []) [] (λ_=>0)/\¬U tb/\∀k,U k->k<w.heap.size
theorem xR.dF(tb):jX (xR tb):=by
 rintro U V S w w2 ⟨h1,b,e⟩ c f d;have hb:=h1.own.lt;have hs:=c.size;refine⟨h1.keep c (λh=>b (f tb hb h)),λh=>?_,λk hk=>?_⟩
 ·rcases d tb h with a|a
  ·exact b a
  omega
 rcases d k hk with a|a
 ·have:=e k a;omega
 exact a.2
section
variable {l:List ff}
def fK(l:List ff)(U:Z1)(w wv:Z0):Prop:=aN l U wv/\Zn U w wv
theorem fK.quiet(h:fK l U w wv)(a:Zq wv w2):fK l U w w2:=⟨h.1.quiet a,h.2.trans (a.f)⟩
theorem fK.more(h:fK l U w wv)(b:jX P)(c:P (λk=>k<wv.heap.size) w2)(a:Zq wv w2):fK (l++[P]) U w w2:=⟨h.1.more b c a,h.2.trans (a.f)⟩
theorem fK.cell(h:fK l U w wv){g o:Nat}(hg:U g)(a:w.cell? (E g o)=some v)(b:g<w.heap.size):wv.cell? (E g o)=some v:=(h.2.cell (p:=E g o) b (λh=>h hg)).trans a
theorem fK.caps(h:fK l U w wv)(b:l[0]?=some (zC 1 (.cells #[O (-1),O (-1)] 45 (0,0)))):Zk 36 #[] wv λe w'=>∃sb,Zr e (M sb)/\Hid (fK (l.set 0 (nk sb [] [])) U w w'):=by
 have⟨n,⟨c,a2,a3⟩,_,d,f⟩:=aN.open h.1 0 b;refine(acE (show kV wv from c)).m ?_;rintro e w' ⟨a,rfl,h1,g,i⟩;have⟨j,m⟩:=f (nk a [] []) w' (nk.dF a [] []) (jo.step g (H.refl (λ_=>False) w') (λ_ _ h=>h.elim) (λk hk=>Or.inl ⟨d k hk,λe=>a2 (e▸hk)⟩)) (i.f);exact⟨a,rfl,j,h.2.trans m⟩
theorem fK.J4(h:fK l U w wv):Zk 37 #[] wv λe w'=>∃bb,Zr e (M bb)/\Hid (fK (l++[re bb ⟨[],[]⟩]) U w w'):=by
 refine(aoS wv).m ?_;rintro e w' ⟨a,rfl,h1,b⟩;exact⟨a,rfl,h.more (re.dF a ⟨[],[]⟩) b.j.1 b.j.2⟩
theorem fK.map(h:fK l U w wv):fK (l++[xR wv.heap.size]) U w (wv.alloc (.map #[] 0)):=by
 have a:Zq wv (wv.alloc (.map #[] 0)):=(H.refl _ wv).alloc _;exact h.more (xR.dF _) ⟨i6.made wv _,λh=>Nat.lt_irrefl _ h,λk hk=>Nat.lt_of_lt_of_le hk a.size⟩ a
theorem fK.box{L:List Ln}{c:Nat}(h:fK l U w wv)(hi:l[i]?=some (xR tb)):fK (l.set i (qQ wv.heap.size mb sb pb qb bb tb [] L ci co c)) U w (wv.alloc (.cells (ou mb sb pb qb bb tb L ci co c).toArray 104)):=by
 have⟨d,⟨e,a2,a3⟩,_,b,f⟩:=aN.open h.1 i hi;have a:Zq wv (wv.alloc (.cells (ou mb sb pb qb bb tb L ci co c).toArray 104)):=(H.refl _ wv).alloc _;have hs:=a.size;have g:qQ wv.heap.size mb sb pb qb bb tb [] L ci co c d (wv.alloc (.cells (ou mb sb pb qb bb tb L ci co c).toArray 104)):=
  ⟨_,_,_,heap_alloc_last wv _,e.keep a id,List.Perm.refl _,λt ht=>(by cases ht),λt ht=>(by cases ht),λhu=>Nat.lt_irrefl _ (b _ hu),a2,λt ht=>(by cases ht),λk hk=>by have:=b k hk;omega,I⟩
 have⟨j,m⟩:=f (qQ wv.heap.size mb sb pb qb bb tb [] L ci co c) _ qQ.dF g (a.f);exact⟨j,h.2.trans m⟩
end
def XV:Ln:=⟨0,0,false,false⟩
def Ac:List Ln:=List.replicate 8 XV
def e8:List (Z2):=List.replicate 8 []
theorem au.ak5(h:au U w kb mb sb pb qb bb tb K){j:Nat}(a:j<K.L.length)(y):∃w2,(storeCells (E kb (6+j*4)) (uj y)).run prog w=.ok () w2/\au U w2 kb mb sb pb qb bb tb {K with L:=K.L.set j y}/\Zn U w w2:=by
 have hk:=h.k;have n:w.there kb (6+j*4) (uj y).length:=λq o=>by
  refine⟨?_,fX hk _⟩;have d:=o;rw[cell_of_row _ _ _ _ _ (0,0) hk,List.getElem?_toArray,LI (mb:=mb) (sb:=sb) (pb:=pb) (qb:=qb) (bb:=bb) (tb:=tb) (ci:=K.ci) (co:=K.co) (c:=K.c) a d,List.getElem?_eq_getElem (show q<(uj K.L[j]).length from d)];rfl
 have r:=L0 w kb (6+j*4) (uj y) n (MC.one y);have⟨b,g,m,p⟩:=y;have e1:=heap_setCell_same w kb (6+j*4) _ _ (O b) hk;have s1:=Di (mb:=mb) (sb:=sb) (pb:=pb) (qb:=qb) (bb:=bb) (tb:=tb) (ci:=K.ci) (co:=K.co) (c:=K.c) a (j:=0) I (v:=O b) (y:={K.L[j] with ga:=b}) rfl;rw[Nat.add_zero] at s1;rw[s1] at e1;have e:=heap_setCell_same _ kb (6+j*4+1) _ _ (J g) e1;rw[Di (L:=K.L.set j {K.L[j] with ga:=b}) (i:=j) (List.length_set▸a) (j:=1) I (v:=J g) (y:={K.L[j] with ga:=b,aQ:=g}) (by rw[List.getElem_set_self];rfl),List.set_set] at e;have f:=heap_setCell_same _ kb (6+j*4+2) _ _ (.bool m) e;rw[Di (L:=K.L.set j {K.L[j] with ga:=b,aQ:=g}) (i:=j) (List.length_set▸a) (j:=2) I (v:=.bool m) (y:={K.L[j] with ga:=b,aQ:=g,Bv:=m}) (by rw[List.getElem_set_self];rfl),List.set_set] at f;have l:=heap_setCell_same _ kb (6+j*4+3) _ _ (.bool p) f;rw[Di (L:=K.L.set j {K.L[j] with ga:=b,aQ:=g,Bv:=m}) (i:=j) (List.length_set▸a) (j:=3) I (v:=.bool p) (y:=⟨b,g,m,p⟩) (by rw[List.getElem_set_self];rfl),List.set_set] at l;have⟨s,t⟩:=h.iQ (((((H.refl (λk=>k=kb) w).setCell (p:=E kb (6+j*4)) (Or.inl rfl) (O b)).setCell (p:=E kb (6+j*4+1)) (Or.inl rfl) (J g)).setCell (p:=E kb (6+j*4+2)) (Or.inl rfl) (.bool m)).setCell (p:=E kb (6+j*4+3)) (Or.inl rfl) (.bool p)) l;exact⟨_,r,s,t⟩
theorem afW(mb sb pb qb bb tb c:Nat)(w):(Instr.build 104 #[(0,M mb),(1,M sb),(2,M pb),(3,M qb),(4,M bb),(5,.map (some tb)),(8,J (c:Int))]).run prog w=.ok (.agg (ou mb sb pb qb bb tb Ac e8 e8 c).toArray) w:=Zx
theorem TG(a b d f g h i)(k:o.op=.build 104 #[(0,a),(1,b),(2,d),(3,f),(4,g),(5,h),(8,i)]){c:Nat}(l:act.eval a=M mb)(h1:act.eval b=M sb)(m:act.eval d=M pb)(n:act.eval f=M qb)(p:act.eval g=M bb)(q:act.eval h=.map (some tb))(r:act.eval i=J (c:Int)):(execOp act.eval o).run prog w=.ok (.value (.agg (ou mb sb pb qb bb tb Ac e8 e8 c).toArray)) w:=by
 have j:=afW mb sb pb qb bb tb c w;generalize (ou mb sb pb qb bb tb Ac e8 e8 c).toArray=e at j;simp only[execOp,k];simp[l,h1,m,n,p,q,r,j,Result.andThen]
theorem adC(w):Zk 38 #[] w λe w'=>Zr e (.agg (uj BB).toArray)/\Zq w w':=by
 have a:Hid (Zq w (w.alloc (.cells #[O (-1),J 0,.bool false,.bool false] 98))):=(H.refl _ w).alloc _;go_enter func38,ntmps38;go_wp2_with fail;all_goals
  (try simp only[Exit.inBlock,Exit.then]);refine bodyPost_ret (v:=.agg #[O (-1),J 0,.bool false,.bool false]) ?_ rfl ⟨rfl,a.j⟩;simp only[results,f38];go_simp;try rfl
theorem _root_.Go.Vx.aN.afv{b c f:ff}(h:aN [a,b,c,d,e,f] U w):aN [a,b,d,c,e,f] U w:=h.V6 (λi=>[0,1,3,2,4,5].getD i 0) (λi hi=>by
 have g:i<6:=hi;have:i=0\/i=1\/i=2\/i=3\/i=4\/i=5:=Z
 rcases this with rfl|rfl|rfl|rfl|rfl|rfl<;>rfl) (by simp only[List.length_cons,List.length_nil];decide)
theorem _root_.Go.Vx.aN.VP{b c f:ff}(h:aN [a,b,c,d,e,f] U w):aN [a,b,d,c,f,e] U w:=h.V6 (λi=>[0,1,3,2,5,4].getD i 0) (λi hi=>by
 have g:i<6:=hi;have:i=0\/i=1\/i=2\/i=3\/i=4\/i=5:=Z
 rcases this with rfl|rfl|rfl|rfl|rfl|rfl<;>rfl) (by simp only[List.length_cons,List.length_nil];decide)
def BD(Nn:Nat)(ts:Lp)(c:Nat)(L:List Ln):Kn:=⟨Nn,λ_=>0,[],[],[],[],ts,0,(ts.getD 0 (0,0)).2,[],0,⟨[],[]⟩,[],L,List.replicate 8 [],List.replicate 8 [],c⟩
def wW(j:Nat):List Ln:=List.replicate j BB++List.replicate (8 - j) XV
theorem ajY{j:Nat}(a:j<8):(wW j).set j BB=wW (j+1):=by
 have:j=0\/j=1\/j=2\/j=3\/j=4\/j=5\/j=6\/j=7:=Z;rcases this with rfl|rfl|rfl|rfl|rfl|rfl|rfl|rfl<;>rfl
theorem ajZ{j:Nat}(a:j<=8):(wW j).length=8:=by unfold wW;simp;omega
def BaQ(w:Z0)(n:Int)(ts:Lp)(c:Nat)(e:Ending)(w':Z0):Prop:=Zq w w'/\(((n<1\/256<n\/jN ts≠0)/\Zr e (.tuple #[.pointer none,O 1]))\/(1<=n/\n<=256/\jN ts=0/\∃kb mb sb pb qb bb tb,Zr e (.tuple #[M kb,O 0])/\w.heap.size<=kb/\au (λk=>k<w.heap.size/\k≠1) w' kb mb sb pb qb bb tb (BD n.toNat ts c (List.replicate 8 BB))))
theorem au.ns(h:au U w kb mb sb pb qb bb tb K):kV w:=by
 have⟨b,a⟩:=h.caps;have⟨mb,D,G,h,_⟩:=a;exact h.ns
theorem QC(hn:kV w)(b:kV w2)(a:H (λk=>¬(k<w.heap.size/\k≠1)) w w2):Zq w w2:=
 ⟨a.os,a.tape,a.output,a.size,λk hk _=>by
  by_cases h1:k=1
  ·subst h1;exact b.trans hn.symm
  exact a.block k hk (λh=>h ⟨hk,h1⟩)⟩
theorem ap7(iB:kV w)(n Q x y ts)(hlen:x=ts.length)(yS:x<=y)(pM:y<=maxLen)(hp:tM w Q ts)(c:Nat)(vo vb vc vm vr vi):
  Zk 16 #[.agg #[O n,.slice Q x y,J (c:Int),vo,vb,vc,vm,vr,vi]] w (BaQ w n ts c):=by
 have⟨w1,D⟩:=Ze (w.alloc (.cells #[O n,.slice Q x y,J (c:Int),vo,vb,vc,vm,vr,vi] 35));have⟨ob,aP⟩:=Ze (w.heap.size);have B:=Za D;have z:w1.heap[ob]?=some (.cells #[O n,.slice Q x y,J (c:Int),vo,vb,vc,vm,vr,vi] 35 (0,0)):=by rw[D,aP];exact heap_alloc_last w _
 have F:=iB.quiet B;have vM:=hp.quiet B;have gD:w1.heap.size=w.heap.size+1:=by rw[D];simp
 have jT:=aB iB;have⟨U,hU⟩:=Ze ((λk=>k<w1.heap.size/\k≠1):Z1);have HU:Hid (∀k,k<w.heap.size/\k≠1->U k):=λk hk=>by rw[hU];exact⟨Z,hk.2⟩
 have T1:Hid (U ob):=by rw[hU];exact⟨aB z,Z⟩
 have zB:Hid (fK [zC 1 (.cells #[O (-1),O (-1)] 45 (0,0))] U w1 w1):=⟨by
  have h9:aN [zC 1 (.cells #[O (-1),O (-1)] 45 (0,0))] (λk=>k<w1.heap.size/\k≠1) w1:=⟨λk hk=>hk.1,λi k=>i=0/\k=1,λi P hi=>by
    cases i with
    |zero=>
     simp only[List.getElem?_cons_zero,Option.some.injEq] at hi;subst hi;exact⟨zC.dF _ _,F,λh=>h.2 ⟨rfl,rfl⟩,λk hk=>hk.1⟩
    |succ i=>simp at hi,λi j k h1 h2=>by rw[h1.1,h2.1],λi k hk=>⟨by rw[hk.2];exact aB F,λh=>h.2 hk.2⟩⟩
  rw[hU];exact h9,H.refl _ _⟩
 have az:Hid (∀l wv,fK l U w1 wv->Zc wv ob 0 (O n)/\Zc wv ob 1 (.slice Q x y)/\Zc wv ob 2 (J (c:Int))):=λl wv h=>⟨h.cell T1.j (Zl z) (aB z),h.cell T1.j (Zl z) (aB z),h.cell T1.j (Zl z) (aB z)⟩;have b8:=Y B;have Lw:=Y (λwv(h:Zq w1 wv)=>B.trans h);have⟨R,hR⟩:=Ze (BaQ w n ts c);rw[<-hR];have Da:Hid (∀wv,Zq w1 wv->(n<1\/256<n\/jN ts≠0)->R (.returned (.tuple #[.pointer none,O 1])) wv):=λwv h1 h2=>by rw[hR];exact⟨B.trans h1,Or.inl ⟨h2,rfl⟩⟩
 have⟨T,V,W⟩:=az.j _ _ zB.j;have ag:=Y (λwv(h:Zq w1 wv)=>vM.quiet h);have j5:Hid (x=ts.length/\x<=y/\y<=maxLen):=⟨hlen,yS,pM⟩;by_cases hn:n<1\/256<n
 ·have wg:=Y (λw=>aiR n hn w);have HE:Hid (n<1\/256<n\/jN ts≠0):=hn.elim Or.inl (λh=>Or.inr (Or.inl h));clear iB hlen yS pM hp B z F vM gD jT hU hR hn;go_enter func16,ntmps16;go_upto_region 1 with fail
  rw[<-D,<-aP];clear D aP;go_wp2_with fail;refine(wg.j _).e1 ?_;go_wp2_with fail
  all_goals
   first|(go_ret2;exact Da.j _ (H.refl _ _) HE.j)|exact Da.j _ (H.refl _ _) HE.j
 obtain⟨a,an⟩:∃a:Nat,n=(a:Int):=⟨n.toNat,Z⟩
 subst an;have lU:Hid (1<=a/\a<=256):=by show 1<=a/\a<=256;omega
 have ao:=Y (λw=>aiQ a lU.j.1 lU.j.2 w)
 have C6:Hid (jN ts=0->∀wv kb mb sb pb qb bb tb,au U wv kb mb sb pb qb bb tb (BD a ts c (List.replicate 8 BB))->Zn U w1 wv->w1.heap.size<=kb->R (.returned (.tuple #[M kb,O 0])) wv):=λh0 wv kb mb sb pb qb bb tb h1 h2 h3=>by
  rw[hR];have h4:Zq w wv:=QC iB h1.ns ((B.f).trans (h2.mono (λk _ h5 h6=>h5 (HU.j k h6))));have:=lU.j;exact⟨h4,Or.inr ⟨Z,Z,h0,kb,mb,sb,pb,qb,bb,tb,rfl,Z,by rw[Int.toNat_natCast];exact h1.thin HU.j⟩⟩
 have OD:=Y (λw=>acx (a:Int) (by have:=lU.j;omega) w);clear iB hlen yS pM hp B z F vM gD jT hU hR hn;go_enter func16,ntmps16;go_upto_region 1 with fail
 rw[<-D,<-aP];clear D aP;go_wp2_with fail;refine(ao.j _).m ?_;rintro e w2 ⟨mb,rfl,ay,aA,RV,aa⟩;have EV:Hid (fK [zC 1 (.cells #[O (-1),O (-1)] 45 (0,0)),ki mb a (λ_=>0)] U w1 w2):=zB.j.more (ki.dF mb a (λ_=>0)) (aa _ (λk hk=>hk)) RV;have Ul:=Y RV;clear ay aA RV aa T V W;obtain⟨T,V,W⟩:=az.j _ _ EV.j;have ab:=Y (acj w2 Q x y j5.j.1 j5.j.2.1 j5.j.2.2 (ag.j _ Ul.j));go_wp2_with fail;refine ab.j.m ?_;rintro e w3 ⟨aH,MQ⟩;rcases aH with⟨F,rfl⟩|⟨Ji,qb,rfl,I6,MR⟩
 ·have HE:Hid ((a:Int)<1\/256<(a:Int)\/jN ts≠0):=Or.inr (Or.inr (by rw[F];decide));have kZ:=Y (Ul.j.trans MQ);clear F MQ T V W;go_wp2_with fail
  all_goals
   first|(go_ret2;exact Da.j _ kZ.j HE.j)|exact Da.j _ kZ.j HE.j
 have aK:Hid (fK [zC 1 (.cells #[O (-1),O (-1)] 45 (0,0)),ki mb a (λ_=>0),jY qb ts 0 (ts.getD 0 (0,0)).2 [] 0] U w1 w3):=EV.j.more (jY.dF qb ts 0 (ts.getD 0 (0,0)).2 [] 0) MR MQ;replace C6:=Y (C6.j Ji);clear Ji I6 MR MQ T V W EV zB Ul ab;obtain⟨T,V,W⟩:=az.j _ _ aK.j;go_wp2_with fail;refine(OD.j _).m ?_;rintro e w4 ⟨pb,rfl,fF,M4,xm⟩;have tS:Hid (fK [zC 1 (.cells #[O (-1),O (-1)] 45 (0,0)),ki mb a (λ_=>0),jY qb ts 0 (ts.getD 0 (0,0)).2 [] 0,oW pb (a:Int) [] []] U w1 w4):=aK.j.more (oW.dF pb (a:Int) [] []) M4 xm;clear fF M4 xm T V W aK OD;have m:=Y (λl wv(h:fK l U w1 wv)=>(az.j l wv h).2.2)
 go_upto_region 8 with fail
 go_cut [9] from 35 to 44 (λc9 wx=>∃kb sb bb tb,c9=M kb/\Hid (au U wx kb mb sb pb qb bb tb (BD a ts c (wW 0))/\Zn U w1 wx/\w1.heap.size<=kb))
 case first=>
  have pI:= @run_makeMap prog;have OG:=Y (tS.j.quiet ((H.refl _ w4).drew));have ah:=Y (m.j _ _ OG.j);refine lY (S:=(λwv=>wv.cell? (E ob 2)=some (J (c:Int)))) Zx ?_;simp only[List.size_toArray,List.length_cons,List.length_nil,Nat.zero_add,Nat.reduceAdd];refine Zt 0 ah.j ?_;refine Zt 2 ah.j ?_;refine Zt 3 ah.j ?_;refine Zt 6 ah.j ?_;refine Zt 7 ah.j ?_;refine wpAnyH_ready (rs:=[1,5]) Zx (by simp) ?_;refine(AllReadyH.cons Zg (λK b=>?_) (AllReadyH.cons Zg (λK b=>?_) AllReadyH.nil))
  ·as_aux_lemma=>
    refine dc rfl 36 #[] #[] rfl #[] (by first|rfl|simp[Act.eval,go_sem]) (by simp[go_sem]) (OG.j.caps rfl) ?_;rintro e w5 ⟨sb,rfl,u⟩;replace u:Hid (fK [nk sb [] [],ki mb a (λ_=>0),jY qb ts 0 (ts.getD 0 (0,0)).2 [] 0,oW pb (a:Int) [] []] U w1 w5):=u;have EO:=Y (m.j _ _ u.j);refine⟨_,rfl,?_⟩;refine Zb b EO.j ?_;refine wpAnyH_ready (rs:=[4,5]) Zx (by simp) ?_;refine(AllReadyH.cons Zg (λK b=>?_) (AllReadyH.cons Zg (λK b=>?_) AllReadyH.nil))
    ·as_aux_lemma=>
      refine dc rfl 37 #[] #[] rfl #[] (by first|rfl|simp[Act.eval,go_sem]) (by simp[go_sem]) (u.j.J4) ?_;rintro e o ⟨bb,rfl,f⟩;replace f:Hid (fK [nk sb [] [],ki mb a (λ_=>0),jY qb ts 0 (ts.getD 0 (0,0)).2 [] 0,oW pb (a:Int) [] [],re bb ⟨[],[]⟩] U w1 o):=f;have G:=Y (m.j _ _ f.j);refine⟨_,rfl,?_⟩;refine Zb b G.j ?_;refine Zy 5 (λK b=>?_);obtain⟨tb,p⟩:=Ze (o.heap.size);obtain⟨N,q⟩:=Ze (o.alloc (.map #[] 0));have X:Hid (fK [nk sb [] [],ki mb a (λ_=>0),jY qb ts 0 (ts.getD 0 (0,0)).2 [] 0,oW pb (a:Int) [] [],re bb ⟨[],[]⟩,xR tb] U w1 N):=by rw[q,p];exact f.j.map
      have fI:=Y (m.j _ _ X.j);go_simp;rw[<-q,<-p];clear q p;refine Zb b fI.j ?_;refine wpAnyH_take (i:=8) (v:=?v8_8_6) Zg Zx Zx Zx (by exact λ_ _ _ h=>h) (Or.inl ⟨by rfl,?hy8_8_6⟩) fI.j ?_
      case hy8_8_6=>(intro wq mS;refine(TG (.tmp 35) (.tmp 36) (.tmp 37) (.tmp 38) (.tmp 39) (.tmp 40) (.tmp 42) rfl rfl rfl rfl rfl rfl rfl rfl).trans ?_;with_reducible rfl)
      try simp only[Act.put,List.setIfInBounds_toArray,List.set_cons_zero,List.set_cons_succ]
      refine Zy 9 (λK b=>?_);obtain⟨kb,g⟩:=Ze (N.heap.size);obtain⟨r,s⟩:=Ze (N.alloc (.cells (ou mb sb pb qb bb tb Ac e8 e8 c).toArray 104));have t:Hid (fK [nk sb [] [],ki mb a (λ_=>0),jY qb ts 0 (ts.getD 0 (0,0)).2 [] 0,oW pb (a:Int) [] [],re bb ⟨[],[]⟩,qQ kb mb sb pb qb bb tb [] Ac e8 e8 c] U w1 r):=by rw[s,g];exact X.j.box (i:=5) rfl
      have sj:Hid (au U r kb mb sb pb qb bb tb (BD a ts c (wW 0))/\Zn U w1 r/\w1.heap.size<=kb):=⟨t.j.1.afv,t.j.2,by rw[g];exact X.j.2.size⟩
      have C:=Y (m.j _ _ t.j);go_simp;rw[<-s,<-g];clear s g;refine Zb b C.j ?_;refine Zt 10 C.j ?_;refine wpAnyH_done Zx ?_ _
      go_wp2
      go_meet;exact⟨_,_,_,_,rfl,sj.j⟩
    as_aux_lemma=>
     obtain⟨tb,p⟩:=Ze (w5.heap.size);obtain⟨N,q⟩:=Ze (w5.alloc (.map #[] 0));have X:Hid (fK [nk sb [] [],ki mb a (λ_=>0),jY qb ts 0 (ts.getD 0 (0,0)).2 [] 0,oW pb (a:Int) [] [],xR tb] U w1 N):=by rw[q,p];exact u.j.map
     have fI:=Y (m.j _ _ X.j);go_simp;rw[<-q,<-p];clear q p;refine Zb b fI.j ?_;refine Zy 4 (λK b=>?_);refine dc rfl 37 #[] #[] rfl #[] (by first|rfl|simp[Act.eval,go_sem]) (by simp[go_sem]) (X.j.J4) ?_;rintro e o ⟨bb,rfl,f⟩;replace f:Hid (fK [nk sb [] [],ki mb a (λ_=>0),jY qb ts 0 (ts.getD 0 (0,0)).2 [] 0,oW pb (a:Int) [] [],xR tb,re bb ⟨[],[]⟩] U w1 o):=f;have G:=Y (m.j _ _ f.j);refine⟨_,rfl,?_⟩;refine Zb b G.j ?_;refine wpAnyH_take (i:=8) (v:=?v8_8_8) Zg Zx Zx Zx (by exact λ_ _ _ h=>h) (Or.inl ⟨by rfl,?hy8_8_8⟩) G.j ?_
     case hy8_8_8=>(intro wq mS;refine(TG (.tmp 35) (.tmp 36) (.tmp 37) (.tmp 38) (.tmp 39) (.tmp 40) (.tmp 42) rfl rfl rfl rfl rfl rfl rfl rfl).trans ?_;with_reducible rfl)
     try simp only[Act.put,List.setIfInBounds_toArray,List.set_cons_zero,List.set_cons_succ]
     refine Zy 9 (λK b=>?_);obtain⟨kb,g⟩:=Ze (o.heap.size);obtain⟨r,s⟩:=Ze (o.alloc (.cells (ou mb sb pb qb bb tb Ac e8 e8 c).toArray 104));have t:Hid (fK [nk sb [] [],ki mb a (λ_=>0),jY qb ts 0 (ts.getD 0 (0,0)).2 [] 0,oW pb (a:Int) [] [],qQ kb mb sb pb qb bb tb [] Ac e8 e8 c,re bb ⟨[],[]⟩] U w1 r):=by rw[s,g];exact f.j.box (i:=4) rfl
     have sj:Hid (au U r kb mb sb pb qb bb tb (BD a ts c (wW 0))/\Zn U w1 r/\w1.heap.size<=kb):=⟨t.j.1.VP,t.j.2,by rw[g];exact f.j.2.size⟩
     have C:=Y (m.j _ _ t.j);go_simp;rw[<-s,<-g];clear s g;refine Zb b C.j ?_;refine Zt 10 C.j ?_;refine wpAnyH_done Zx ?_ _
     go_wp2
     go_meet;exact⟨_,_,_,_,rfl,sj.j⟩
  as_aux_lemma=>
   obtain⟨tb,p⟩:=Ze (w4.heap.size);obtain⟨N,q⟩:=Ze ((w4.alloc (.map #[] 0)).drew);have wk:Hid (fK [zC 1 (.cells #[O (-1),O (-1)] 45 (0,0)),ki mb a (λ_=>0),jY qb ts 0 (ts.getD 0 (0,0)).2 [] 0,oW pb (a:Int) [] [],xR tb] U w1 N):=by rw[q,p];exact tS.j.map.quiet ((H.refl _ _).drew)
   have fI:=Y (m.j _ _ wk.j);go_simp;rw[<-q,<-p];clear q p;refine Zb b fI.j ?_;refine Zy 1 (λK b=>?_);refine dc rfl 36 #[] #[] rfl #[] (by first|rfl|simp[Act.eval,go_sem]) (by simp[go_sem]) (wk.j.caps rfl) ?_;rintro e w5 ⟨sb,rfl,u⟩;replace u:Hid (fK [nk sb [] [],ki mb a (λ_=>0),jY qb ts 0 (ts.getD 0 (0,0)).2 [] 0,oW pb (a:Int) [] [],xR tb] U w1 w5):=u;have EO:=Y (m.j _ _ u.j);refine⟨_,rfl,?_⟩;refine Zb b EO.j ?_;refine Zy 4 (λK b=>?_);refine dc rfl 37 #[] #[] rfl #[] (by first|rfl|simp[Act.eval,go_sem]) (by simp[go_sem]) (u.j.J4) ?_;rintro e o ⟨bb,rfl,f⟩;replace f:Hid (fK [nk sb [] [],ki mb a (λ_=>0),jY qb ts 0 (ts.getD 0 (0,0)).2 [] 0,oW pb (a:Int) [] [],xR tb,re bb ⟨[],[]⟩] U w1 o):=f;have G:=Y (m.j _ _ f.j);refine⟨_,rfl,?_⟩;refine Zb b G.j ?_;refine wpAnyH_take (i:=8) (v:=?v8_8_10) Zg Zx Zx Zx (by exact λ_ _ _ h=>h) (Or.inl ⟨by rfl,?hy8_8_10⟩) G.j ?_
   case hy8_8_10=>(intro wq mS;refine(TG (.tmp 35) (.tmp 36) (.tmp 37) (.tmp 38) (.tmp 39) (.tmp 40) (.tmp 42) rfl rfl rfl rfl rfl rfl rfl rfl).trans ?_;with_reducible rfl)
   try simp only[Act.put,List.setIfInBounds_toArray,List.set_cons_zero,List.set_cons_succ]
   refine Zy 9 (λK b=>?_);obtain⟨kb,g⟩:=Ze (o.heap.size);obtain⟨r,s⟩:=Ze (o.alloc (.cells (ou mb sb pb qb bb tb Ac e8 e8 c).toArray 104));have t:Hid (fK [nk sb [] [],ki mb a (λ_=>0),jY qb ts 0 (ts.getD 0 (0,0)).2 [] 0,oW pb (a:Int) [] [],qQ kb mb sb pb qb bb tb [] Ac e8 e8 c,re bb ⟨[],[]⟩] U w1 r):=by rw[s,g];exact f.j.box (i:=4) rfl
   have sj:Hid (au U r kb mb sb pb qb bb tb (BD a ts c (wW 0))/\Zn U w1 r/\w1.heap.size<=kb):=⟨t.j.1.VP,t.j.2,by rw[g];exact f.j.2.size⟩
   have C:=Y (m.j _ _ t.j);go_simp;rw[<-s,<-g];clear s g;refine Zb b C.j ?_;refine Zt 10 C.j ?_;refine wpAnyH_done Zx ?_ _
   go_wp2
   go_meet;exact⟨_,_,_,_,rfl,sj.j⟩
 case rest=>
  obtain⟨kb,sb,bb,tb,rfl,Un⟩:=hcut;have aE:=Y (λw=>adC w);clear tS m
  go_wp2
  go_loopw [10,45] (λ_ d wr=>∃j:Nat,d=O (j:Int)/\j<=8/\Hid (au U wr kb mb sb pb qb bb tb (BD a ts c (wW j))/\Zn U w1 wr/\w1.heap.size<=kb)) (λ_ d _=>8 - (RowKit.intOf d).toNat)
  case atStart=>exact⟨0,rfl,Z,Un⟩
  case round=>
   clear Un;obtain⟨j,rfl,hj,A⟩:=hrel;by_cases al:j<8
   ·have h1:(j:Int)<8:=Z;have gF:0<=(j:Int)/\(j:Int)<8:=Z;have xe:=Zf j Z;have HJ:=Y al;go_upto_region 12 with fail
    refine sx (S:=(λ_=>True)) 6 Zx Zg Zx ?_;simp only[jM,oC,List.setIfInBounds_toArray,List.set_cons_zero,List.set_cons_succ,List.size_toArray,List.length_cons,List.length_nil,Nat.zero_add,Nat.reduceAdd];refine Zt 0 trivial ?_;refine Zt 1 trivial ?_;refine Zt 3 trivial ?_;refine Zt 4 trivial ?_;refine Zy 2 (λK b=>?_);refine dc rfl 38 #[] #[] rfl #[] (by first|rfl|simp[Act.eval,go_sem]) (by simp[go_sem]) (aE.j _) ?_;rintro e o ⟨rfl,An⟩;obtain⟨w7,bV,ad,M8⟩:=(A.j.1.quiet (((H.refl _ wr).drew).trans An)).ak5 (j:=j) (by show j<(wW j).length;rw[ajZ hj];exact HJ.j) BB;have yc:Hid (au U w7 kb mb sb pb qb bb tb (BD a ts c (wW (j+1)))/\Zn U w1 w7/\w1.heap.size<=kb):=⟨by rw[<-ajY HJ.j];exact ad,A.j.2.1.trans (((((H.refl (λ_=>False) wr).drew).trans An).f).trans M8),A.j.2.2⟩
    clear ad M8 An;refine⟨_,rfl,?_⟩;refine Zb b trivial ?_;refine Zt 5 trivial ?_;refine wpAnyH_take (i:=6) (v:=undef) Zg Zx Zx Zx (by exact λ_ _ _ h=>h) (Or.inr ⟨by rfl,rfl⟩) trivial ?_;refine wpAnyH_done Zx ?_ _;simp only[p8]
    go_wp2
    go_roundw
    case rel=>exact⟨j+1,by go_num,Z,yc⟩
    case measure=>exact Zm
   obtain rfl:j=8:=Z;have h1:¬((8:Nat):Int)<8:=Z;go_wp2_with fail
   all_goals
    first|(go_ret2;exact C6.j _ _ _ _ _ _ _ _ A.j.1 A.j.2.1 A.j.2.2)|exact C6.j _ _ _ _ _ _ _ _ A.j.1 A.j.2.1 A.j.2.2
theorem bE.start{S:Sk}(hn:1<=S.n/\S.n<=256)(ht:EB S.ts 0 (S.ts.getD 0 (0,0)).2):bP (BE S):=by
 refine⟨⟨ie.nil (by show 1<=((S.n.toNat:Nat):Int)/\((S.n.toNat:Nat):Int)<=256;omega),UX,UO,(λb hb=>by cases hb),(λe he=>by cases he),cU.nil,(λe he=>by cases he),Nat.le_refl _,lX.nil,(λp hp=>by cases hp),rfl,List.Pairwise.nil,λn=>?_,(λt ht=>by cases ht),ht,rfl,λl a=>?_,rfl,rfl⟩,λl a=>?_⟩
 ·constructor
  ·intro h;cases h
  intro h;cases h
 ·rw[List.eq_of_mem_replicate a];exact Or.inl rfl
 rw[List.eq_of_mem_replicate a];exact⟨rfl,rfl⟩
theorem aiH(hn:kV w){j:Nat}(a:2<=j):w.cell? (E 1 j)=none:=by
 rw[cell_of_row _ _ j _ _ (0,0) hn];exact Array.getElem?_eq_none (by simpa using a)
theorem Iz{L:Lay α}{g o:Nat}(hn:kV w)(h:zp L w g o xs)(a:0<xs.length)(b:3<=L.sz):g≠1:=by
 rintro rfl;have h1:=h.c 0 a 2 Z;rw[aiH hn Z,List.getElem?_eq_getElem (by rw[L.len];omega)] at h1;cases h1
theorem aiI{g o:Nat}{xs:List (Int×Z2)}(hn:kV w)(h:zp oT w g o xs)(a:0<xs.length):g≠1:=by
 rintro rfl;have h1:=h.c 0 a 1 I;rw[show(oT.cf xs[0])[1]?=some (cj xs[0].2) from rfl,cell_of_row _ _ _ _ _ (0,0) hn] at h1;have c:o+0*oT.sz+1<2:=by
  have:=(Array.getElem?_eq_some_iff.1 h1).1;simpa using this
 have hs:o=0:=Z;subst hs;have b:(#[Value.int .i64 (-1),Value.int .i64 (-1)]:Array Value)[0+0*oT.sz+1]?=some (O (-1)):=rfl;rw[b] at h1;cases h1
theorem jZ.u{L:Lay α}{p:Option Addr}{c:Nat}(h:jZ L w (.slice p n c) xs)(hn:∀g o,0<xs.length->zp L w g o xs->g≠1):n=xs.length/\lS L (λk=>k<w.heap.size/\k≠1) w p xs:=by
 have⟨m,c2,h1,d,e⟩:=h.rw;injection h1 with f i j
 subst f i j;refine⟨rfl,λb=>?_,by have:=d;unfold maxLen at this;omega⟩;have⟨g,o,l,a⟩:=e b;exact⟨g,o,l,⟨a.gl,hn g o b a⟩,a⟩
theorem lS.wide{L:Lay α}{p:Option Addr}(h:lS L U w p xs)(a:Zq w w2):lS L U w2 p xs:=⟨λb=>by
 obtain⟨g,o,h1,c,d⟩:=h.r b
 exact⟨g,o,h1,c,d.keep a id⟩,h.n⟩
def NeQ(w:Z0)(S:Sk)(e:Ending)(w':Z0):Prop:=Zq w w'/\(((xN S).1≠0/\Zr e (.tuple #[.pointer none,O (xN S).1,O ((xN S).2:Nat)]))\/((xN S).1=0/\(xN S).2=0/\∃kb mb sb pb qb bb tb,Zr e (.tuple #[M kb,O 0,O 0])/\w.heap.size<=kb/\au (λk=>k<w.heap.size/\k≠1) w' kb mb sb pb qb bb tb (Tz S)))
theorem aoQ{S:Sk}(h:S.n<1\/256<S.n\/jN S.ts≠0):xN S=(1,0):=by
 unfold xN;by_cases h1:S.n<1\/256<S.n
 ·rw[if_pos h1]
 rw[if_neg h1,if_pos (by rcases h with h|h|h;exact absurd (Or.inl h) h1;exact absurd (Or.inr h) h1;exact h)]
theorem abl{S:Sk}(h1:1<=S.n)(b:S.n<=256)(a:jN S.ts=0):xN S=(Ew S).2:=by
 unfold xN;rw[if_neg Z,if_neg (by rw[a];decide)]
theorem Ht{st:Kn->α->Kn×Int}{l:List α}(a:q.2.1=0->q.2.2=0):(bO st q l).2.1=0->(bO st q l).2.2=0:=by
 unfold bO;split
 ·exact zK st l q.1 0
 exact a
theorem aoR(S):(Ew S).2.1=0->(Ew S).2.2=0:=Ht (Ht (Ht (Ht (Ht (zK dH S.ob (BE S) 0)))))
theorem akv(i:kV w)(S)(hS:TS S)(Jo:S.iq=[]){vt vo vb vc vm vr vi:Z3}(c:TR w vt vo vb vc vm vr vi S):
  Zk 11 #[.agg #[O S.n,vt,J (S.c:Int),vo,vb,vc,vm,vr,vi]] w (NeQ w S):=by
 have EY:=Y Jo;clear Jo;obtain⟨m,n,rfl,_⟩:=c.ts;have⟨p,q,d,_⟩:=c.ob;have⟨r,s,V,_⟩:=c.eM;have⟨t,u,bX,_⟩:=c.cp;have⟨v,x,gn,_⟩:=c.mp;have⟨A,B,kP,_⟩:=c.th;have⟨C,D,iX,_⟩:=c.iq;subst d V bX gn kP iX;have W:=Y (c.iq.u (λg o h1 a=>Iz i a h1 I)).2;have⟨fQ,ku,Sb,Y0⟩:=c.ts.tu;have⟨w1,K⟩:=Ze (w.alloc (.cells #[O S.n,.slice m S.ts.length n,J (S.c:Int),.slice p S.ob.length q,.slice r S.eM.length s,.slice t S.cp.length u,.slice v S.mp.length x,.slice A S.th.length B,.slice C S.iq.length D] 35));have⟨ob,X⟩:=Ze (w.heap.size);have d:=Za K;have V:w1.heap[ob]?=some (.cells #[O S.n,.slice m S.ts.length n,J (S.c:Int),.slice p S.ob.length q,.slice r S.eM.length s,.slice t S.cp.length u,.slice v S.mp.length x,.slice A S.th.length B,.slice C S.iq.length D] 35 (0,0)):=K▸X▸heap_alloc_last w _
 have gD:w1.heap.size=w.heap.size+1:=by rw[K];simp
 have az:Hid (∀wv,Zq w1 wv->wv.cell? (E ob 0)=some (O S.n)/\wv.cell? (E ob 1)=some (.slice m S.ts.length n)/\wv.cell? (E ob 2)=some (J (S.c:Int))/\wv.cell? (E ob 3)=some (.slice p S.ob.length q)/\wv.cell? (E ob 4)=some (.slice r S.eM.length s)/\wv.cell? (E ob 5)=some (.slice t S.cp.length u)/\wv.cell? (E ob 6)=some (.slice v S.mp.length x)/\wv.cell? (E ob 7)=some (.slice A S.th.length B)/\wv.cell? (E ob 8)=some (.slice C S.iq.length D)):=λwv h=>by
  have f:=H.keep h V id;exact⟨Zl f,Zl f,Zl f,Zl f,Zl f,Zl f,Zl f,Zl f,Zl f⟩
 have vk:=Y (ap7 (i.quiet d) S.n m S.ts.length n S.ts fQ ku Sb (Y0.quiet d) S.c (.slice p S.ob.length q) (.slice r S.eM.length s) (.slice t S.cp.length u) (.slice v S.mp.length x) (.slice A S.th.length B) (.slice C S.iq.length D));have⟨R,T⟩:=Ze (NeQ w S);rw[<-T];have Da:Hid (∀wv,Zq w1 wv->(S.n<1\/256<S.n\/jN S.ts≠0)->R (.returned (.tuple #[.pointer none,O 1,O 0])) wv):=λwv h1 a=>by
  rw[T];refine⟨d.trans h1,Or.inl ?_⟩;rw[aoQ a];exact⟨I,rfl⟩
 have OZ:Hid (1<=S.n->S.n<=256->jN S.ts=0->∀wv kb mb sb pb qb bb tb,Zq w1 wv->w1.heap.size<=kb->au (λk=>k<w1.heap.size/\k≠1) wv kb mb sb pb qb bb tb (BE S)->Zk 17 #[M kb,.agg #[O S.n,.slice m S.ts.length n,J (S.c:Int),.slice p S.ob.length q,.slice r S.eM.length s,.slice t S.cp.length u,.slice v S.mp.length x,.slice A S.th.length B,.slice C S.iq.length D]] wv λe w'=>∃l n2,Zr e (.tuple #[O l,O (n2:Int)])/\Hid ((l≠0->R (.returned (.tuple #[.pointer none,O l,O (n2:Int)])) w')/\(l=0->R (.returned (.tuple #[M kb,O 0,O 0])) w'))):=λh1 a U wv kb mb sb pb qb bb tb j h5 h6=>by
  have fM:EB S.ts 0 (S.ts.getD 0 (0,0)).2:=by
   have⟨U2,G,_,b,_⟩:=h6.sched;exact b
  refine(ap4 h6 (bE.start ⟨h1,a⟩ fM) S hS EY.j S.n S.c (.slice m S.ts.length n) p q ((((Y (c.ob.u (λg o h1 a=>Iz i a h1 I)).2).j.up (λk hk=>⟨Z,hk.2⟩)).wide d).wide j) r s ((((Y (c.eM.u (λg o h1 a=>aiI i a h1)).2).j.up (λk hk=>⟨Z,hk.2⟩)).wide d).wide j) t u ((((Y (c.cp.u (λg o h1 a=>Iz i a h1 I)).2).j.up (λk hk=>⟨Z,hk.2⟩)).wide d).wide j) v x ((((Y (c.mp.u (λg o h1 a=>Iz i a h1 I)).2).j.up (λk hk=>⟨Z,hk.2⟩)).wide d).wide j) A B ((((Y (c.th.u (λg o h1 a=>Iz i a h1 I)).2).j.up (λk hk=>⟨Z,hk.2⟩)).wide d).wide j) C D (((W.j.up (λk hk=>⟨Z,hk.2⟩)).wide d).wide j)).m ?_;rintro e w' ⟨rfl,N⟩;refine⟨_,_,rfl,λP=>?_,λP=>?_⟩
  ·rw[T];have hO:=QC i N.j.1.ns (((d.trans j).f).trans (N.j.2.mono (λk _ F f=>F ⟨Z,f.2⟩)));refine⟨hO,Or.inl ?_⟩;rw[abl h1 a U];exact⟨P,rfl⟩
  rw[T];have hO:=QC i N.j.1.ns (((d.trans j).f).trans (N.j.2.mono (λk _ F f=>F ⟨Z,f.2⟩)));have F:=N.j.1;rw[if_pos P] at F;refine⟨hO,Or.inr ?_⟩;rw[abl h1 a U];exact⟨P,aoR S P,kb,mb,sb,pb,qb,bb,tb,rfl,Z,F.thin (λk hk=>⟨Z,hk.2⟩)⟩
 have⟨q0,q1,q2,q3,q4,q5,q6,q7,q8⟩:=az.j _ (H.refl _ _);go_enter func11,ntmps11;go_upto_region 1 with fail
 rw[<-K,<-X];clear K X;go_wp2_with fail;refine vk.j.m ?_;rintro e w2 ⟨aG,hq⟩;rcases hq with⟨aa,rfl⟩|⟨h1,a,U,kb,mb,sb,pb,qb,bb,tb,rfl,fc,hk⟩
 ·have aX:=Y aG;have HE:=Y aa;go_wp2_with fail;all_goals
   first|(go_ret3;exact Da.j _ aX.j HE.j)|exact Da.j _ aX.j HE.j
 have HC:=Y (OZ.j h1 a U _ _ _ _ _ _ _ _ aG fc hk);have⟨q0,q1,q2,q3,q4,q5,q6,q7,q8⟩:=az.j _ aG;go_wp2_with fail;refine HC.j.m ?_;rintro e w3 ⟨l,n2,rfl,HF⟩;by_cases z:l=0
 ·have Q:=Y (HF.j.2 z);subst z;go_wp2_with fail;all_goals
   first|(go_ret3;exact Q.j)|exact Q.j
 have Q:=Y (HF.j.1 z);have y:(l !=0)=true:=by simpa using z
 go_wp2_with fail;all_goals
  first|(go_ret3;exact Q.j)|exact Q.j
structure Tl where
 num:Int
 st:Int
 cy:Int
 prio:Int
 at':Int
 dV:Int
 dD:Int
 left:Int
 rg:Nat->Int
 pc:Int
def Tl.df:Tl:=⟨0,0,0,0,0,0,0,0,λ_=>0,0⟩
def fT(x:Tl):List Value:=[O x.num,O x.st,O x.cy,O x.prio,O x.at',O x.dV,O x.dD,O x.left]++(ny .u32 x.rg++[J x.pc])
def ox:Lay Tl:=⟨fT,41,λt=>by simp[fT,mH],λt u hu=>by
 rcases List.mem_append.1 hu with hu|hu
 ·simp only[List.mem_cons,List.not_mem_nil,or_false] at hu;rcases hu with rfl|rfl|rfl|rfl|rfl|rfl|rfl|rfl<;>rfl
 rcases List.mem_append.1 hu with hu|hu
 ·exact Qa _ _ u hu
 rw[List.mem_singleton] at hu;rw[hu];rfl,I⟩
def qw(K:Kn)(t:Kt):Tl:=⟨t.num,t.st,(lF K.ss t.num).1,(lF K.ss t.num).2.1,yu K.b t.num,t.dV,t.dD,(lF K.ss t.num).2.2.1,t.rg,t.pc⟩
def vR(rg:Nat->Int)(pc:Int):List Value:=ny .u32 rg++[J pc]
theorem ab6(rg pc):(vR rg pc).length=33:=by simp[vR,mH]
def zH:List Value:=fT ⟨0,0,0,0,0,0,0,0,λ_=>0,0⟩
theorem Ra:(prog.info? 68).map (·.size)=some 41:=Zx
theorem afU(a b c d e f g h rg pc w):(Instr.build 68 #[(0,O a),(1,O b),(2,O c),(3,O d),(4,O e),(5,O f),(6,O g),(7,O h),(8,.agg (vR rg pc).toArray)]).run prog w=.ok (.agg (fT ⟨a,b,c,d,e,f,g,h,rg,pc⟩).toArray) w:=Zx
theorem ap5(j k l m n p q r s)(u:o.op=.build 68 #[(0,j),(1,k),(2,l),(3,m),(4,n),(5,p),(6,q),(7,r),(8,s)]){a b c d e f g h:Int}(v:act.eval j=O a)(h1:act.eval k=O b)(x:act.eval l=O c)(A:act.eval m=O d)(B:act.eval n=O e)(C:act.eval p=O f)(D:act.eval q=O g)(F:act.eval r=O h)(t:act.eval s=.agg (vR rg pc).toArray):(execOp act.eval o).run prog w=.ok (.value (.agg (fT ⟨a,b,c,d,e,f,g,h,rg,pc⟩).toArray)) w:=by
 have i:=afU a b c d e f g h rg pc w;generalize (fT ⟨a,b,c,d,e,f,g,h,rg,pc⟩).toArray=z at i;generalize (vR rg pc).toArray=y at i t;simp only[execOp,u];simp[v,h1,x,A,B,C,D,F,t,i,Result.andThen]
theorem aki(x)(b:o.op=.load 66 x){g off:Nat}(d:act.eval x=.pointer (some (E g off)))(h:w.rangeAt g off (vR rg pc)):(execOp act.eval o).run prog w=.ok (.value (.agg (vR rg pc).toArray)) w:=by
 have a:=run_loadAt_mid (P:=prog) w g off 66 (vR rg pc) _ h underlying66 rfl (by rw[Ys];exact congrArg some (ab6 rg pc).symm);generalize (vR rg pc).toArray=c at a;simp only[execOp,b,d];simp[a,Result.andThen]
theorem afa{K:Act->World->Prop}(x y)(e:o.op=.store 68 x y)(f:o.dst=none){l:Tl}(g:act.eval x=M b)(hy:act.eval y=.agg (fT l).toArray)(c:w.heap[b]?=some (.cells zH.toArray 68 (0,0)))(h:K act (w.setCells b 0 (fT l))):Oper.wp prog o act w K Q:=by
 have ht:w.there b 0 (fT l).toArray.size:=λj a=>by
  refine⟨?_,fX c _⟩;have i:j<zH.length:=by have e1:=ox.len l;have d:=ox.len ⟨0,0,0,0,0,0,0,0,λ_=>0,0⟩;simp only[List.size_toArray] at a;change (fT l).length=_ at e1;change zH.length=_ at d;rw[d];rw[e1] at a;exact a
  rw[Nat.zero_add,cell_of_row _ _ j _ _ (0,0) c,List.getElem?_toArray,List.getElem?_eq_getElem i];rfl
 refine wp_store_mid 68 x y e b 0 _ g hy ht (by rw[Ra];exact congrArg some (ox.len l).symm) (all_oneCell_toArray (ox.one l)) ?_;rwa[f]
theorem aiG(w):Zk 68 #[.pointer none] w λe w'=>Zr e (O (-1))/\w'=w:=by
 go_enter func68,ntmps68;go_wp2_with fail;all_goals
  go_ret;exact⟨rfl,rfl⟩
structure gg(w:Z0)(kb mb sb pb qb bb tb:Nat)(D:DataW Value)(ks:List Int)(G:Int->Nat)(F:List (Nat×Obj))(K:Kn)(wv:Z0):Prop where
 k:∃V:Z1,(∀p∈F,V p.1)/\aq V wv kb mb sb pb qb bb tb D ks G K
 f:∀p∈F,w.heap.size<=p.1/\wv.heap[p.1]?=some p.2
 o:Zq w wv
theorem gg.start(h:aq U w kb mb sb pb qb bb tb D ks G K):gg w kb mb sb pb qb bb tb D ks G [] K w:=⟨⟨U,λp hp=>(by cases hp),h⟩,λp hp=>(by cases hp),H.refl _ _⟩
theorem gg.quiet(h:gg w kb mb sb pb qb bb tb D ks G F K wv)(a:Zq wv w2):gg w kb mb sb pb qb bb tb D ks G F K w2:=by
 have⟨⟨V,c,d⟩,b,e⟩:=h;exact⟨⟨V,c,d.quiet a⟩,λp hp=>⟨(b p hp).1,H.keep a (b p hp).2 id⟩,e.trans a⟩
theorem gg.drew(h:gg w kb mb sb pb qb bb tb D ks G F K wv):gg w kb mb sb pb qb bb tb D ks G F K wv.drew:=h.quiet ((H.refl _ _).drew)
theorem gg.alloc(h:gg w kb mb sb pb qb bb tb D ks G F K wv)(o):gg w kb mb sb pb qb bb tb D ks G ((wv.heap.size,o)::F) K (wv.alloc o):=by
 have⟨⟨V,d,e⟩,b,c⟩:=h;have a:Zq wv (wv.alloc o):=(H.refl _ wv).alloc o;refine⟨⟨_,λp hp=>?_,e.wide a⟩,λp hp=>?_,c.trans a⟩
 ·rcases List.mem_cons.1 hp with rfl|hp
  ·exact Or.inr ⟨Nat.le_refl _,by simp⟩
  exact Or.inl (d p hp)
 rcases List.mem_cons.1 hp with rfl|hp
 ·exact⟨c.size,heap_alloc_last wv o⟩
 exact⟨(b p hp).1,H.keep a (b p hp).2 id⟩
theorem gg.at(h:gg w kb mb sb pb qb bb tb D ks G F K wv){o:Obj}(hm:(b,o)∈F):wv.heap[b]?=some o:=(h.f _ hm).2
theorem gg.read(h:gg w kb mb sb pb qb bb tb D ks G F K wv){f:FuncId}(a:∀V,aq V wv kb mb sb pb qb bb tb D ks G K->Zk f args wv λe w'=>Zr e v/\Zq wv w'):
  Zk f args wv λe w'=>Zr e v/\Hid (gg w kb mb sb pb qb bb tb D ks G F K w'):=by
 have⟨⟨V,d,b⟩,g,i⟩:=h;refine(a V b).m ?_;rintro e w' ⟨rfl,c⟩;exact⟨rfl,h.quiet c⟩
theorem gg.c(h:gg w kb mb sb pb qb bb tb D ks G F K wv):wv.cell? (E kb 0)=some (M mb)/\wv.cell? (E kb 1)=some (M sb)/\wv.cell? (E kb 2)=some (M pb)/\wv.cell? (E kb 3)=some (M qb)/\wv.cell? (E kb 4)=some (M bb)/\wv.cell? (E kb 5)=some (.map (some tb)):=by
 have⟨⟨V,b,a⟩,c,d⟩:=h;exact⟨a.x.c0,a.x.c1,a.x.c2,a.x.c3,a.x.c4,a.x.c5⟩
theorem gg.rh{o:Obj}(h:gg w kb mb sb pb qb bb tb D ks G ((b,o)::F) K wv)(d:H (λk=>k=b) wv w2)(hb:w2.heap[b]?=some o2)(f:∀p∈F,p.1≠b):gg w kb mb sb pb qb bb tb D ks G ((b,o2)::F) K w2:=by
 have⟨⟨V,e,g⟩,c,i⟩:=h;refine⟨⟨V,λq a=>?_,jX.j (aN.dF _) g d (λk _ hk=>by subst hk;exact e _ List.mem_cons_self)⟩,λq a=>?_,i.beyond d (λk hk=>by subst hk;exact(c _ List.mem_cons_self).1)⟩
 ·rcases List.mem_cons.1 a with rfl|a
  ·exact e (b,o) List.mem_cons_self
  exact e q (List.mem_cons_of_mem _ a)
 rcases List.mem_cons.1 a with rfl|a
 ·exact⟨(c (b,o) List.mem_cons_self).1,hb⟩
 exact⟨(c q (List.mem_cons_of_mem _ a)).1,H.keep d (c q (List.mem_cons_of_mem _ a)).2 (f q a)⟩
theorem gg.stT(h:gg w kb mb sb pb qb bb tb D ks G ((ub,.cells zH.toArray 68 (0,0))::F) K wv)(u)(a:∀p∈F,p.1≠ub):gg w kb mb sb pb qb bb tb D ks G ((ub,.cells (fT u).toArray 68 (0,0))::F) K (wv.setCells ub 0 (fT u)):=by
 have⟨h1,b⟩:=vB (fT u) [] zH wv ((ox.len _).trans (ox.len u).symm) (h.at List.mem_cons_self);exact h.rh b h1 a
theorem gg.th(h:gg w kb mb sb pb qb bb tb D ks G F K wv)(hi:i<K.T.length):wv.heap[G K.T[i].num]?=some (.cells (cG G K.T[i]).toArray 109 (0,0)):=by
 have⟨⟨V,b,a⟩,c,d⟩:=h;exact a.th hi
theorem look_ok(h:aq U w kb mb sb pb qb bb tb D ks G K)(hi:i<K.T.length)(k:K.T[i].dV= -1/\K.T[i].dD= -1)(hn:af K.T[i].num):Zk 24 #[M kb,.pointer (some ⟨G K.T[i].num,0,none⟩)] w λe w'=>Zr e (.agg (fT (qw K K.T[i])).toArray)/\Zq w w':=by
 have c:Hid (∀F wv,gg w kb mb sb pb qb bb tb D ks G F K wv->wv.cell? (E kb 3)=some (M qb)/\wv.cell? (E kb 4)=some (M bb)/\wv.cell? ⟨G K.T[i].num,0,none⟩=some (O K.T[i].num)/\wv.cell? ⟨G K.T[i].num,1,none⟩=some (O K.T[i].st)/\wv.cell? ⟨G K.T[i].num,35,none⟩=some (.pointer none)/\wv.cell? ⟨G K.T[i].num,36,none⟩=some (.pointer none)/\wv.rangeAt (G K.T[i].num) 2 (vR K.T[i].rg K.T[i].pc)):=λF wv h=>by
  have ht:=h.th hi;refine⟨h.c.2.2.2.1,h.c.2.2.2.2.1,Zl ht,Zl ht,(cell_of_row _ _ 35 _ _ (0,0) ht).trans ?_,(cell_of_row _ _ 36 _ _ (0,0) ht).trans ?_,λq u hq=>?_⟩
  ·show some (lx G K.T[i].dV)=_;rw[k.1];rfl
  ·show some (lx G K.T[i].dD)=_;rw[k.2];rfl
  rw[cell_of_row _ _ (2+q) _ _ (0,0) ht,List.getElem?_toArray,Px,List.getElem?_append_right (by simp),List.getElem?_append_left ?_]
  ·rwa[show 2+q - [Value.int .i64 K.T[i].num,O K.T[i].st].length=q from by simp]
  have:=(List.getElem?_eq_some_iff.1 hq).1;rw[ab6] at this;simp[mH];omega
 have R:Hid (∀F wv,gg w kb mb sb pb qb bb tb D ks G F K wv->Zk 66 #[M qb,O K.T[i].num] wv λe w'=>Zr e (.tuple #[O (lF K.ss K.T[i].num).1,O (lF K.ss K.T[i].num).2.1,O (lF K.ss K.T[i].num).2.2.1,O (lF K.ss K.T[i].num).2.2.2])/\Hid (gg w kb mb sb pb qb bb tb D ks G F K w')):=λF wv h=>h.read (λV h=>by
  have⟨U2,G2,_,_,FL,D2,vt,vq,Q,_,hy⟩:=h.x.sched;exact acJ hy _ hn)
 have T:Hid (∀F wv,gg w kb mb sb pb qb bb tb D ks G F K wv->Zk 67 #[M bb,O K.T[i].num] wv λe w'=>Zr e (.tuple #[O (yu K.b K.T[i].num),O (Dk K.b K.T[i].num)])/\Hid (gg w kb mb sb pb qb bb tb D ks G F K w')):=λF wv h=>h.read (λV h=>by
  have⟨U2,hb⟩:=h.x.J4;exact ack hb _ hn)
 have W:Hid (qw K K.T[i]=⟨K.T[i].num,K.T[i].st,(lF K.ss K.T[i].num).1,(lF K.ss K.T[i].num).2.1,yu K.b K.T[i].num, -1, -1,(lF K.ss K.T[i].num).2.2.1,K.T[i].rg,K.T[i].pc⟩):=by unfold qw;rw[k.1,k.2];exact rfl
 have⟨u,hu⟩:=Ze (qw K K.T[i]);rw[<-hu] at W|-;have X:=Y (gg.start h);generalize K.T[i].num=n at*;generalize K.T[i].st=s at*;generalize K.T[i].rg=rg at*;generalize K.T[i].pc=pc at*;generalize (lF K.ss n).1=l1 at*;generalize (lF K.ss n).2.1=l2 at*;generalize (lF K.ss n).2.2.1=l3 at*;generalize (lF K.ss n).2.2.2=l4 at*;generalize yu K.b n=wa at*;generalize Dk K.b n=wh at*;generalize G n=g at*;have EU:=Y aiG;clear h hi hn k hu;go_enter func24,ntmps24;go_upto_region 1 with fail
 have⟨rb,y⟩:=Ze (w.heap.size);generalize ae:w.alloc _=w1;have H1:Hid (gg w kb mb sb pb qb bb tb D ks G [(rb,.cells zH.toArray 68 (0,0))] K w1):=by rw[<-ae,y];exact X.j.alloc _
 rw[<-y];clear ae y X;have m:=Y (R.j _ _ H1.j.drew);have a:Hid (Zc w1.drew kb 3 (M qb)/\Zc w1.drew g 0 (O n)):=⟨(c.j _ _ H1.j.drew).1,(c.j _ _ H1.j.drew).2.2.1⟩
 have d:=a;go_region_held3 (λwv=>Zc wv kb 3 (M qb)/\Zc wv g 0 (O n)) (with_reducible (first|exact a.j|exact d.j)) (first|(go_at_call 66;refine m.j.m ?_;rintro e w3 ⟨rfl,j⟩;have d:Hid (Zc w3 kb 3 (M qb)/\Zc w3 g 0 (O n)):=⟨(c.j _ _ j.j).1,(c.j _ _ j.j).2.2.1⟩));clear a d m H1 R;go_upto_region 2 with fail
 have m:=Y (T.j _ _ j.j.drew);have a:Hid (Zc w3.drew kb 4 (M bb)/\Zc w3.drew g 0 (O n)):=⟨(c.j _ _ j.j.drew).2.1,(c.j _ _ j.j.drew).2.2.1⟩
 have d:=a;go_region_held3 (λwv=>Zc wv kb 4 (M bb)/\Zc wv g 0 (O n)) (with_reducible (first|exact a.j|exact d.j)) (first|(go_at_call 67;refine m.j.m ?_;rintro e t ⟨rfl,o⟩;have d:Hid (Zc t kb 4 (M bb)/\Zc t g 0 (O n)):=⟨(c.j _ _ o.j).2.1,(c.j _ _ o.j).2.2.1⟩));clear a d m j T;go_upto_region 3 with fail
 have zz:=Y (λF wv(h:gg w kb mb sb pb qb bb tb D ks G F K wv)=>(c.j F wv h).2.2)
 have a:=Y (zz.j _ _ o.j.drew);have x:Hid (gg w kb mb sb pb qb bb tb D ks G [(rb,.cells (fT u).toArray 68 (0,0))] K (t.drew.setCells rb 0 (fT u))):=o.j.drew.stT u (λp hp=>by cases hp);have HZ:=Y (o.j.drew.at List.mem_cons_self);obtain⟨w5,A⟩:=Ze (t.drew.setCells rb 0 (fT u));rw[<-A] at x;have EO:=Y (zz.j _ _ x.j);have B:Hid (fT ⟨n,s,l1,l2,wa, -1, -1,l3,rg,pc⟩=fT u):=by rw[W.j];exact rfl
 refine lY (S:=(λwv=>wv.cell? (E g 0)=some (O n)/\wv.cell? (E g 1)=some (O s)/\wv.cell? (E g 35)=some (.pointer none)/\wv.cell? (E g 36)=some (.pointer none)/\wv.rangeAt g 2 (vR rg pc))) Zx ?_;simp only[List.size_toArray,List.length_cons,List.length_nil,Nat.zero_add,Nat.reduceAdd];refine Zt 0 a.j ?_;refine Zt 1 a.j ?_;refine Zt 2 a.j ?_;refine Zt 3 a.j ?_;refine Zt 4 a.j ?_;refine Zt 5 a.j ?_;refine Zt 6 a.j ?_;refine Zt 7 a.j ?_;refine Zt 8 a.j ?_;refine Zt 9 a.j ?_;refine Zt 10 a.j ?_;refine Zt 11 a.j ?_;refine Zt 12 a.j ?_;refine Zt 13 a.j ?_;refine Zt 14 a.j ?_;refine Zt 16 a.j ?_;refine Zt 17 a.j ?_;refine Zt 18 a.j ?_;refine Zt 19 a.j ?_;refine Zt 21 a.j ?_;refine Zt 22 a.j ?_;refine Zt 23 a.j ?_;refine Zt 24 a.j ?_;refine wpAnyH_take (i:=25) (v:=?v3_25_24) Zg Zx Zx Zx (by exact λ_ _ _ h=>h) (Or.inl ⟨by rfl,?hy3_25_24⟩) a.j ?_
 case hy3_25_24=>(intro C mS;refine(aki (.tmp 61) rfl rfl mS.2.2.2.2).trans ?_;with_reducible rfl)
 try simp only[Act.put,List.setIfInBounds_toArray,List.set_cons_zero,List.set_cons_succ]
 refine Zy 15 (λK r=>?_);refine dc rfl 68 #[Operand.tmp 51] #[106] rfl #[.pointer none] (by first|rfl|simp[Act.eval,go_sem]) (by simp[go_sem]) (EU.j _) ?_;rintro e C ⟨rfl,f⟩;have f:=f.symm;subst f;refine⟨_,rfl,?_⟩;refine Zb r a.j ?_;refine Zy 20 (λK r=>?_);refine dc rfl 68 #[Operand.tmp 56] #[106] rfl #[.pointer none] (by first|rfl|simp[Act.eval,go_sem]) (by simp[go_sem]) (EU.j _) ?_;rintro e C ⟨rfl,f⟩;have f:=f.symm;subst f;refine⟨_,rfl,?_⟩;refine Zb r a.j ?_;refine wpAnyH_take (i:=26) (v:=?v3_26_25) Zg Zx Zx Zx (by exact λ_ _ _ h=>h) (Or.inl ⟨by rfl,?hy3_26_25⟩) a.j ?_
 case hy3_26_25=>(intro C mS;refine(ap5 (.tmp 40) (.tmp 44) (.tmp 45) (.tmp 46) (.tmp 47) (.tmp 52) (.tmp 57) (.tmp 58) (.tmp 62) rfl rfl rfl rfl rfl rfl rfl rfl rfl rfl).trans ?_;with_reducible rfl)
 try simp only[Act.put,List.setIfInBounds_toArray,List.set_cons_zero,List.set_cons_succ]
 refine Zy 27 (λK r=>?_);refine afa (.tmp 4) (.tmp 63) rfl rfl (l:=u) (b:=rb) (by simp[Act.eval]) (by simp[Act.eval];exact B.j) HZ.j ?_;rw[<-A];clear A;refine Zb r EO.j ?_;refine wpAnyH_done Zx ?_ _;go_wp2_with fail
 all_goals
  (try simp only[Exit.inBlock,Exit.then])
  refine bodyPost_ret (v:=.agg (fT u).toArray) ?_ rfl ⟨rfl,x.j.o⟩;have N:=run_loadVar_row (P:=prog) w5 rb 68 68 (fT u).toArray (0,0) _ (x.j.at List.mem_cons_self) underlying68 rfl (by rw[Ra];exact congrArg some (ox.len u).symm);generalize (fT u).toArray=z at N|-;simp[results,results24,N];exact N
theorem tlK:Kind prog ox 62 68:=sY (z:=.agg #[.int .i64 0,.int .i64 0,.int .i64 0,.int .i64 0,.int .i64 0,.int .i64 0,.int .i64 0,.int .i64 0,.int .u32 0,.int .u32 0,.int .u32 0,.int .u32 0,.int .u32 0,.int .u32 0,.int .u32 0,.int .u32 0,.int .u32 0,.int .u32 0,.int .u32 0,.int .u32 0,.int .u32 0,.int .u32 0,.int .u32 0,.int .u32 0,.int .u32 0,.int .u32 0,.int .u32 0,.int .u32 0,.int .u32 0,.int .u32 0,.int .u32 0,.int .u32 0,.int .u32 0,.int .u32 0,.int .u32 0,.int .u32 0,.int .u32 0,.int .u32 0,.int .u32 0,.int .u32 0,.int .u32 0]) (b:=200) underlying62 Zx rfl I
theorem afQ(a w):(Instr.buildSlice 62 1 #[(0,.agg (fT a).toArray)]).run prog w=.ok (Zs w.heap.size 1 1) (w.alloc (.cells (fT a).toArray 68)):=Zx
theorem ag5{K:Act->World->Prop}(x d)(f:o.op=.buildSlice 62 1 #[(0,x)])(g:o.dst=some d){a:Tl}(b:act.eval x=.agg (fT a).toArray)(h:K (act.put (some d) (Zs w.heap.size 1 1)) (w.alloc (.cells (fT a).toArray 68))):Oper.wp prog o act w K Q:=by
 have e:=afQ a w;generalize (fT a).toArray=c at e b h;unfold Oper.wp;simp only[execOp,f];simp[b,e,Result.andThen];rwa[Oper.upon_value,g]
theorem akt(tb w):Zk 23 #[.map (some tb)] w λe w'=>Zr e (.func (.func 65) #[] #[M w.heap.size])/\w'=w.alloc (.cells #[.map (some tb)] 96):=
 (callsIn_wide (n:=5)).1 (AnyZI.keys_in keysT Fence.wide 5 trivial rfl (some tb) w)
theorem afp(h:l.Pairwise (·<·)):l.mergeSort (λx y=>decide (x<=y))=l:=List.mergeSort_of_pairwise (h.imp (λa=>by simp;omega))
theorem afo(h:i6 w tb D ks G)(m:ks.length<=1000)(c:ks.Perm l)(hs:l.Pairwise (·<·)):Zk 22 #[.func (.func 65) #[] #[M w.heap.size]] (w.alloc (.cells #[.map (some tb)] 96)) λe w'=>∃v,Zr e v/\ax kN w' w.heap.size 3 v l/\Zq w w':=by
 have⟨d,a⟩:=Mx h.own (λk hk f=>(h.has k hk).1 f) (λk hk=>(h.has k (h.ix k hk)).2 hk) h.nd;have o:=h.own.lt;have g:SeqGives Fence.wide 2 prog 65 #[M w.heap.size] encZ (λss=>ss.Perm (intKeys D)) (Maps.size D) (w.alloc (.cells #[.map (some tb)] 96)):=
  AnyZI.keys_gives (ρ:=keysT_ren) {keysT with} Fence.wide _ trivial rfl Z w.heap.size tb ks.length D _ (by simp) (by simp) (h.own.alloc _)
 have b:=AnyZI.sorted_in sortedA Fence.wide 5 trivial trivial trivial trivial rfl Z (VM _) (enters_of func64 Zx rfl) 65 #[M w.heap.size] trivial (enters_of func65 Zx rfl) _ _ (by rw[a];unfold maxLen;omega) (by rw[a];omega) _ g;change CallsIn _ _ prog 22 _ _ _ at b;refine((callsIn_wide (n:=5)).1 b).m ?_;rintro e w' ⟨v,ss,rfl,hp,i,_,hb⟩;have e1:=(mergeSort_of_perm_i ((hp.trans d.symm).trans c)).trans (afp hs);have j:ss.length=l.length:=by rw[<-e1,List.length_mergeSort]
 refine⟨v,rfl,?_,?_⟩
 ·have h1:w'.ownsRow (w.alloc (.cells #[.map (some tb)] 96)).heap.size 3 1 v l.length (fl kN l):=by
   rw[e1,j] at i;rwa[aaQ]
  exact Qx (L:=kN) h1 (by simp)
 exact((H.refl _ w).alloc _).trans (H.zS hb (λk hk p=>Z))
structure AM(w:Z0)(nv:Z3)(fD:List Int)(v:Z3)(ls:List Tl)(wr:Z0):Prop where
 on:Zq w wr
 nu:ax kN wr w.heap.size 3 nv fD
 ow:ax ox wr w.heap.size 68 v ls
theorem AM.quiet{ls:List Tl}(h:AM w nv fD v ls wr)(a:Zq wr wx):AM w nv fD v ls wx:=
 ⟨h.on.trans a,h.nu.kept a (λ_ _ h=>h),h.ow.kept a (λ_ _ h=>h)⟩
theorem AM.push{ls a:List Tl}(h:AM w nv fD v ls wr)(c:ax ox wx w.heap.size 68 v2 a)(b:H (λk=>v.ownBlock=some k) wr wx):AM w nv fD v2 a wx:=
 ⟨h.on.beyond b (λk hk=>(iu h.ow hk).1),h.nu.kept b (λk hk e=>by
  obtain⟨c1,h1⟩:=cW h.nu hk;obtain⟨c2,d⟩:=cW h.ow e
  exact ef h1 d I rfl),c⟩
theorem ald(h:aq U w kb mb sb pb qb bb tb D ks G K)(V:(K.T.map (·.num)).Pairwise (·<·))(W:∀t∈K.T,t.dV= -1/\t.dD= -1)(X:K.T.length<=256):Zk 13 #[M kb] w λe w'=>∃v,Zr e v/\ax ox w' w.heap.size 68 v (K.T.map (qw K))/\Zq w w':=by
 have⟨U5,k⟩:=h.own;have fc:ks.length<=1000:=by rw[k.kt.length_eq,List.length_map];exact k.nt
 have CZ:=Y (akt tb w);have AQ:=Y (afo k.m fc k.kt V);have c5:=h.x.c5;have o:Hid (∀t∈K.T,af t.num):=λt ht=>k.m.ix _ (k.kt.mem_iff.2 (List.mem_map.2 ⟨t,ht,rfl⟩));go_enter func13,ntmps13;go_wp2_with fail;refine CZ.j.m ?_;rintro e w1 ⟨rfl,rfl⟩;go_wp2_with fail;refine AQ.j.m ?_;rintro e w2 ⟨nv,rfl,s,dp⟩;have⟨np,x,y,_,_,Jf⟩:=s.form;have⟨b,z⟩:=Ze (K.T.length);have A:=Y z;rw[List.length_map,<-z] at y;have aa:b<=256:=by have:=(Y X).j;omega
 have zy:Hid (AM w nv (K.T.map (·.num)) (.slice none 0 0) ((K.T.take 0).map (qw K)) w2):=⟨dp,s,ax.nil _ _ _ _⟩;subst y;have Ui:Hid (0<b->∃g,np=some (E g 0)):=λh0=>by
  have⟨g,h1,_⟩:=Jf (by rw[List.length_map];omega);exact⟨g,h1⟩
 go_wp2;go_loopw [3,5,13] (λv _ d wr=>∃j:Nat,d=.int .i64 (j:Int)/\j<=b/\Hid (AM w (.slice np b x) (K.T.map (·.num)) v ((K.T.take j).map (qw K)) wr)) (λ_ _ d _=>b - (RowKit.intOf d).toNat)
 case atStart=>exact⟨0,rfl,Z,zy⟩
 case round=>
  obtain⟨j,rfl,hj,c⟩:=hrel;have⟨B,C,F,_⟩:=c.j.ow.form;obtain⟨m,hm⟩:=Ze (((K.T.take j).map (qw K)).length);rw[<-hm] at F;subst F;by_cases al:j<b
  ·have f:j<K.T.length:=by have:=A.j;omega
   have h1:(j:Int)<(b:Int):=Z;have gF:0<=(j:Int)/\(j:Int)<(b:Int):=Z;have xe:=Zf j Z;obtain⟨g,rfl⟩:=Ui.j Z
   have ko:wr.cell? (E g j)=some (.int .i64 K.T[j].num):=by
    have:=c.j.nu.cell j 0 (by rw[List.length_map];exact f) I;have e:j*kN.sz+0=j:=by show j*1+0=j;omega
    rw[e,List.getElem_map] at this;exact this
   have p:=o.j _ (List.getElem_mem f);have n:=(Y h).j.quiet c.j.on;have q:=n.look K.T[j].num p
   have MW:∃i,da K.T K.T[j].num=some i:=by
    cases hf:da K.T K.T[j].num with
    |some i=>exact⟨i,rfl⟩
    |none=>have:=jQ hf _ (List.getElem_mem f);simp at this
   obtain⟨i0,N⟩:=MW;rw[N] at q;dsimp only at q;have c5:=n.x.c5;have l:=Y (look_ok n f ((Y W).j _ (List.getElem_mem f)) p)
   have dh:Hid ((K.T.take (j+1)).map (qw K)=(K.T.take j).map (qw K)++[qw K K.T[j]]):=by
    show _=_;rw[List.take_succ_eq_append_getElem f,List.map_append];rfl
   have vh:Hid (((K.T.take j).map (qw K)).length+1<=10000000):=by show _+1<=10000000;rw[List.length_map,List.length_take];omega
   generalize K.T[j].num=tn at*;generalize qw K K.T[j]=u at*;generalize G tn=tg at*;clear n p N al hm f;go_upto_region 5 with fail
   go_wp2_with fail;refine l.j.m ?_;rintro e w4 ⟨rfl,P⟩;have r:=Y (c.j.quiet P);have nh:Hid (w.heap.size<=w4.heap.size):=r.j.on.size;clear P c5 q ko c l;go_wp2_with (first|(refine wpList_plain rfl (λ_ hK=>ag5 (.tmp 25) 26 rfl rfl (a:=u) rfl (hK _ _ ?_)))|(at_builtin;refine wH tlK _ rfl _ _ rfl w.heap.size (.slice B m C) _ rfl r.j.ow u _ _ rfl rfl rfl vh.j nh.j ?_;intro v' w5 Q R iz;have bk:=Y (r.j.push Q R);clear Q R iz));go_roundw
   case rel=>exact⟨j+1,by go_num,Z,by rw[dh.j];exact bk⟩
   case measure=>exact Zm
  obtain rfl:j=b:=Z;have h1:¬(j:Int)<(j:Int):=Z
  have S:Hid (AM w (.slice np j x) (K.T.map (·.num)) (.slice B m C) (K.T.map (qw K)) wr):=by
   have T:=c.j;rw[List.take_of_length_le (Nat.le_of_eq A.j.symm)] at T;exact T
  clear c hm;go_wp2_with fail
  all_goals
   go_ret;exact⟨_,rfl,S.j.ow,S.j.on⟩
def aw(K:Kn)(i:Nat):Kt:=K.T.getD i .df
def ba(K:Kn)(i:Nat)(y:Kt):Kn:={K with T:=K.T.set i y}
theorem dQ(hi:i<K.T.length):aw K i=K.T[i]:=by simp[aw,List.getD,hi]
theorem km(K i y):(ba K i y).T.length=K.T.length:=List.length_set
theorem lG(hi:i<K.T.length)(y j):aw (ba K i y) j=if j=i then y else aw K j:=by
 unfold aw ba;dsimp only;by_cases h:j=i
 ·subst h;simp[List.getD,hi]
 rw[if_neg h];simp[List.getD,List.getElem?_set_ne (λe=>h e.symm)]
def gj(K:Kn)(i:Nat)(s:Int):Kn:=
 if (aw K i).st≠1/\s=1 then {ba K i {aw K i with st:=s} with ss:=(if jw K.ss (aw K i).num=0 then nJ K.ss K.ck (aw K i).num else K.ss),ck:=(if jw K.ss (aw K i).num=0 then K.ck+1 else K.ck)}
 else if (aw K i).st=1/\s≠1 then {ba K i {aw K i with st:=s} with ss:=(if su K.ss (aw K i).num=0 then zk K.ss (aw K i).num else K.ss)}
 else ba K i {aw K i with st:=s}
theorem VH(K i s):(gj K i s).T=K.T.set i {aw K i with st:=s}:=by
 unfold gj;split
 ·rfl
 split<;>rfl
theorem Hy(K i s):(gj K i s).T.length=K.T.length:=by rw[VH,List.length_set]
theorem X8(h:K2.T=K.T)(j):aw K2 j=aw K j:=by unfold aw;rw[h]
theorem BC(hi:i<K.T.length)(s j):aw (gj K i s) j=if j=i then {aw K i with st:=s} else aw K j:=by
 rw[<-lG hi {aw K i with st:=s} j];exact X8 (VH K i s) j
structure Fx(K K2:Kn):Prop where
 n:K2.n=K.n
 f:K2.f=K.f
 bs:K2.bs=K.bs
 es:K2.es=K.es
 os:K2.os=K.os
 rs:K2.rs=K.rs
 ts:K2.ts=K.ts
 L:K2.L=K.L
 ci:K2.ci=K.ci
 co:K2.co=K.co
 c:K2.c=K.c
theorem Fx.refl(K):Fx K K:=⟨rfl,rfl,rfl,rfl,rfl,rfl,rfl,rfl,rfl,rfl,rfl⟩
theorem Fx.trans(h:Fx A B)(k:Fx B C):Fx A C:=⟨k.n.trans h.n,k.f.trans h.f,k.bs.trans h.bs,k.es.trans h.es,k.os.trans h.os,k.rs.trans h.rs,k.ts.trans h.ts,k.L.trans h.L,k.ci.trans h.ci,k.co.trans h.co,k.c.trans h.c⟩
theorem Fx.up(K i y):Fx K (ba K i y):=⟨rfl,rfl,rfl,rfl,rfl,rfl,rfl,rfl,rfl,rfl,rfl⟩
theorem Fx.st(K i s):Fx K (gj K i s):=by
 unfold gj;split
 ·exact⟨rfl,rfl,rfl,rfl,rfl,rfl,rfl,rfl,rfl,rfl,rfl⟩
 split
 ·exact⟨rfl,rfl,rfl,rfl,rfl,rfl,rfl,rfl,rfl,rfl,rfl⟩
 exact Fx.up _ _ _
theorem Fi(K i s):(gj K i s).b=K.b/\(gj K i s).t=K.t/\(gj K i s).lf=K.lf:=by
 unfold gj;split
 ·exact⟨rfl,rfl,rfl⟩
 split<;>exact⟨rfl,rfl,rfl⟩
def qO(rg:Nat->Int)(m:Ms):Nat->Int:=λj=>if j=10 then 0 else if j=11 then m.ak else if j=12 then m.w0 else if j=13 then m.w1 else if j=14 then m.w2 else if j=15 then m.w3 else if j=16 then m.aQ else if j=17 then 0 else rg j
def kh(K:Kn)(i:Nat)(m:Ms):Kn:=gj (ba K i {aw K i with rg:=qO (aw K i).rg m}) i 1
def pn(t:Kt)(b:Int):Ms:=⟨t.rg 11,t.rg 12,t.rg 13,t.rg 14,t.rg 15,b⟩
def vH(K:Kn)(g s:Nat):Kn:=ba (ba K g {aw K g with dV:=(aw K s).num}) s {aw K s with dD:=(aw K g).num}
def oE(K:Kn)(s g:Nat)(m:Ms):Kn:=gj (vH (kh K g m) g s) s 5
def vC(K:Kn)(i c:Nat):Kn:=kh (ba (ba K i {aw K i with dV:= -1}) c {aw K c with dD:= -1}) c (pn (aw K i) 0)
def bJ(K:Kn):Kn:={K with t:=kH K.ts K.t K.lf,lf:=ov K.ts K.t K.lf,ss:=(mf K.ss K.ck (tY K.ts K.t K.lf)).1,ck:=(mf K.ss K.ck (tY K.ts K.t K.lf)).2.1}
def nC(K:Kn):Int:=(mf K.ss K.ck (tY K.ts K.t K.lf)).2.2
theorem U4(hi:i<K.T.length){y:Kt}(h:y=aw K i):ba K i y=K:=by
 rw[h,dQ hi];unfold ba;rw[List.set_getElem_self]
theorem afc(K i):gj K i 1=yz K i (aw K i).num:=by
 unfold gj yz;by_cases h:(K.T.getD i .df).st=1
 ·rw[if_neg (λa=>a.1 h),if_neg (λa=>a.2 rfl),if_pos h];rfl
 rw[if_pos ⟨h,rfl⟩,if_neg h];rfl
theorem aq.block(h:aq U w kb mb sb pb qb bb tb D ks G K)(n)(hn:af n):Zk 103 #[M qb,O n] w λe w'=>Zr e (O (su K.ss n))/\aq U w' kb mb sb pb qb bb tb D ks G {K with ss:=(if su K.ss n=0 then zk K.ss n else K.ss)}/\Zn U w w':=
 aN.call h 3 rfl (jY.dF qb K.ts K.t K.lf (if su K.ss n=0 then zk K.ss n else K.ss) K.ck) (λd a=>by
  obtain⟨G,a⟩:=a;refine(acU a n hn).m ?_;rintro e w' ⟨h1,b,c⟩
  exact⟨h1,⟨G,b⟩,c⟩)
theorem aeo(G t s):(cG G t).toArray.setIfInBounds 1 (O s)=(cG G {t with st:=s}).toArray:=by
 simp[cG,lx]
theorem aq.zj(h:aq U w kb mb sb pb qb bb tb D ks G K)(hi:i<K.T.length):w.cell? ⟨G K.T[i].num,0,none⟩=some (O K.T[i].num)/\w.cell? ⟨G K.T[i].num,1,none⟩=some (O K.T[i].st)/\∀j,w.frozen? ⟨G K.T[i].num,j,none⟩=false:=
 ⟨(cell_of_row _ _ 0 _ _ (0,0) (h.th hi)).trans rfl,(cell_of_row _ _ 1 _ _ (0,0) (h.th hi)).trans rfl,λj=>fX (h.th hi) j⟩
theorem aq.ah4(h:aq U w kb mb sb pb qb bb tb D ks G K)(hi:i<K.T.length)(s):aq U (w.setCell ⟨G K.T[i].num,1,none⟩ (O s)) kb mb sb pb qb bb tb D ks G (ba K i {K.T[i] with st:=s})/\Zn U w (w.setCell ⟨G K.T[i].num,1,none⟩ (O s)):=by
 have h1:=heap_setCell_same w (G K.T[i].num) 1 _ _ (O s) (h.th hi);rw[aeo] at h1;exact h.yE hi (y:={K.T[i] with st:=s}) rfl ((H.refl (λk=>k=G K.T[i].num) w).setCell (p:=⟨G K.T[i].num,1,none⟩) (Or.inl rfl) _) h1
theorem acp(h:aq U w kb mb sb pb qb bb tb D ks G K)(hi:i<K.T.length)(hn:af K.T[i].num){s:Int}(hs:s≠1):Zk 61 #[M kb,.pointer (some ⟨G K.T[i].num,0,none⟩),O s] w λe w'=>Zr e (.tuple #[])/\aq U w' kb mb sb pb qb bb tb D ks G (gj K i s)/\Zn U w w':=by
 have⟨o,j,y⟩:=h.zj hi;have⟨d,l⟩:=h.ah4 hi s;have p:i<(ba K i {K.T[i] with st:=s}).T.length:=by rw[km];exact hi
 have q:(ba K i {K.T[i] with st:=s}).T[i]={K.T[i] with st:=s}:=List.getElem_set_self _;have f:=(d.zj p).1;have F:=d.x.c3;rw[q] at f;have⟨N,a⟩:=Ze (gj K i s);rw[<-a];have z:=dQ hi;unfold gj at a;rw[if_neg (λc=>hs c.2),z] at a;have s0:=beq_eq_false_iff_ne.2 hs;have W:(s !=1)=true:=by simpa using hs
 have⟨w1,b⟩:=Ze (w.setCell ⟨G K.T[i].num,1,none⟩ (O s));rw[<-b] at d l f F;have k:=Y ((d.quiet ((H.refl _ w1).drew)).block K.T[i].num hn);have A:=Y (⟨d,l⟩:_/\_);have B:Hid (∀wv m,aq U wv kb mb sb pb qb bb tb D ks G m->m.T=(ba K i {K.T[i] with st:=s}).T->wv.cell? (E kb 3)=some (M qb)/\wv.cell? ⟨G K.T[i].num,0,none⟩=some (O K.T[i].num)):=λwv m hk c=>by
  have C:i<m.T.length:=by rw[c];exact p
  have S:m.T[i]={K.T[i] with st:=s}:=by simp only[c];exact q
  have:=(hk.zj C).1;rw[S] at this;exact⟨hk.x.c3,this⟩
 have r:=y 1;have P:=Y ((rfl:(ba K i {K.T[i] with st:=s}).T=(ba K i {K.T[i] with st:=s}).T));have⟨n,t⟩:=Ze (K.T[i].num);have Q:=Y a;by_cases h1:K.T[i].st=1
 ·rw[if_pos ⟨h1,hs⟩] at a;replace k:Hid (Zk 103 #[M qb,O K.T[i].num] w1.drew λe w'=>(∃x,Zr e (O x))/\Hid (aq U w' kb mb sb pb qb bb tb D ks G N/\Zn U w w')/\Hid (w'.cell? (E kb 3)=some (M qb)/\w'.cell? ⟨G K.T[i].num,0,none⟩=some (O K.T[i].num))):=by
   refine k.j.m ?_;rintro e w' ⟨rfl,R,c⟩;exact⟨⟨_,rfl⟩,⟨by rw[a];exact R,l.trans (((H.refl _ w1).drew).trans c)⟩,B.j w' _ R rfl⟩
  have u:Hid (Zc w1.drew kb 3 (M qb)/\Zc w1.drew (G K.T[i].num) 0 (O K.T[i].num)):=⟨F,f⟩;have v:=u;rw[h1] at j;rw[<-t] at k u v o j r b f|-;obtain⟨g,hg⟩:=Ze (G n);rw[<-hg] at k u v o j r b f|-;clear h hi hn y d l p q a z hs A B P Q h1 hg t;go_enter func61,ntmps61;go_upto_region 2 with fail
  rw[<-b];clear b;go_upto_region 5 with fail
  go_region_held3 (λwv=>Zc wv kb 3 (M qb)/\Zc wv g 0 (O n)) (with_reducible (first|exact u.j|exact v.j)) (first|(go_at_call 103;refine k.j.m ?_;rintro e X ⟨⟨x,rfl⟩,T,v⟩));go_wp2_with fail;all_goals
   go_end0;exact⟨rfl,T.j⟩
 rw[if_neg (λc=>h1 c.1)] at a;have n0:=beq_eq_false_iff_ne.2 h1;have n1:(K.T[i].st !=1)=true:=by simpa using h1
 have V:Hid (aq U w1 kb mb sb pb qb bb tb D ks G N/\Zn U w w1):=by rw[a];exact A.j
 generalize K.T[i].st=sv at j n0 n1;rw[<-t] at o j r b f|-;obtain⟨g,hg⟩:=Ze (G n);rw[<-hg] at o j r b f|-;clear h hi hn y d l p q a z hs A B P Q h1 hg t k;go_enter func61,ntmps61;go_upto_region 2 with fail
 rw[<-b];clear b;go_wp2_with fail
 all_goals
  go_end0;exact⟨rfl,V.j⟩
theorem Hk(h:aq U w kb mb sb pb qb bb tb D ks G K)(hi:i<K.T.length)(hn:af K.T[i].num)(hf:da K.T K.T[i].num=some i)(s):Zk 61 #[M kb,.pointer (some ⟨G K.T[i].num,0,none⟩),O s] w λe w'=>Zr e (.tuple #[])/\aq U w' kb mb sb pb qb bb tb D ks G (gj K i s)/\Zn U w w':=by
 by_cases hs:s=1
 ·subst hs;rw[afc,dQ hi];exact UH h hn hf
 exact acp h hi hn hs
end Go.Proofs.YtdjlkahbpdoemaaGreatDoor

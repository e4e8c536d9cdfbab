import Derived.Test.YtphkconoooeidaaGreatDoorCp26
import Derived.Test.YtphkconoooeidaaGreatDoorCp27
import Derived.Test.YtphkconoooeidaaGreatDoorCp28
import Derived.Test.YtphkconoooeidaaGreatDoorCp29
set_option maxRecDepth 100000
set_option maxHeartbeats 8000000
set_option linter.unusedVariables false
set_option linter.unusedSimpArgs false
open Go Go.Vx Go.Proofs.Tryz Go.ChangeShapes Go.WideShapes Go.ChangeAt Go.RowKit
namespace Go.Vx
theorem aD.aaB {Ps:List dR} {U:Nat->Prop} {w:World} (h:aD Ps U w) (i:Nat) {P:dR} (hi:Ps[i]?=some P):
  ∃U2:Nat->Prop,P U2 w/\(∀j Q b,j≠i->Ps[j]?=some Q->b<w.heap.size->(∀V,Q V w->¬V b)->U2 b)/\∀(P2:dR) (w2:World),ik P2->P2 U2 w2->Zn U2 w w2->aD (Ps.set i P2) U w2/\Zn U w w2:=by
 obtain⟨hu,C,hp,hd,hl⟩:=h;refine⟨_,(hp i P hi).2,λj Q b hj hQ hb hv=>⟨hb,λhc=>?_⟩,λP2 w2 D4 h2 ho=>⟨?_,ho.mono (λk hk h1 h2=>h1 ⟨hk,λh3=>(hl i k h3).2 h2⟩)⟩⟩
 ·have h1:=hv _ (hp j Q hQ).2;have h2:C j b:=Classical.byContradiction λh3=>h1 ⟨hb,h3⟩
  exact hj (hd j i b h2 hc)
 have hs:=ho.size;have bM:i<Ps.length:=(List.getElem?_eq_some_iff.1 hi).1;refine⟨λk hk=>by have:=hu k hk;omega,λj k=>C j k\/(j=i/\w.heap.size<=k/\k<w2.heap.size),λj Q hj=>?_,λj j2 k h3 h4=>?_,λj k hk=>?_⟩
 ·by_cases he:j=i
  ·subst he;rw[List.getElem?_set_self bM] at hj;injection hj with hj
   subst hj;refine⟨D4,D4 _ _ (λ_=>False) w2 w2 h2 (ae.refl _ _) (λ_ _ h=>h.elim) (λk hk=>Or.inl ?_)⟩;have h3:¬(w.heap.size<=k/\k<w2.heap.size):=λh4=>hk.2 (Or.inr ⟨rfl,h4⟩)
   exact⟨by have:=hk.1;omega,λh4=>hk.2 (Or.inl h4)⟩
  ·rw[List.getElem?_set_ne (λh=>he h.symm)] at hj;refine⟨(hp j Q hj).1,(hp j Q hj).1 _ _ _ w w2 (hp j Q hj).2 ho (λk hk h1=>⟨hk,λh5=>h1 ⟨hk,λh6=>he (hd j i k h5 h6)⟩⟩) (λk hk=>?_)⟩;by_cases h1:k<w.heap.size
   ·exact Or.inl ⟨h1,λh5=>hk.2 (Or.inl h5)⟩
   ·exact Or.inr ⟨Zo,hk.1⟩
 ·rcases h3 with h3|h3<;>rcases h4 with h4|h4
  ·exact hd j j2 k h3 h4
  ·have:=(hl j k h3).1;omega
  ·have:=(hl j2 k h4).1;omega
  ·rw[h3.1,h4.1]
 ·rcases hk with hk|hk
  ·have:=hl j k hk;exact⟨Zo,this.2⟩
  ·exact⟨hk.2.2,λh5=>by have:=hu k h5;omega⟩
end Go.Vx
namespace Go.Proofs.YtphkconoooeidaaGreatDoor
section
variable {kb mb sb pb qb bb tb:Nat} {U V S:Nat->Prop} {w wv w1 w2:World} {K K2:Kn} {F:List (Nat×Obj)}
variable {D:DataW Value} {ks:List Int} {G:Int->Nat} {left ye:Lit->Bool} {cM jJ r n:Nat}
theorem abm (h:w.ranges prog 3 RP tb r n D left cM) (ho:ae S w w2) (hb:¬S tb) (hr:¬S r):w2.ranges prog 3 RP tb r n D left cM:=by
 have h1:=h.owns.lt;have h2:=h.lt;obtain⟨l,clock,since,seen,c0,cw,F,hs,hD,rG,rest⟩:=h;exact⟨l,clock,since,seen,c0,(ho.block tb h1 hb).trans cw,F,hs,hD,(ho.block r h2 hr).trans rG,rest⟩
theorem Ym (v:Value) (y:DataW Value×List MemPlace) (h:RP v=some y):∃c,v=Value.pointer c:=by
 obtain⟨a,ha,_⟩:=Jl h;exact⟨a,ha⟩
theorem Js:∀(l:List Int) (ss:List Et) (x:Int),kU ss (l++[x])=bU (kU ss l) x 0 0
 |[],ss,x=>rfl
 |n::r,ss,x=>Js r (bU ss n 0 0) x
theorem ey.XW (h:ey U w kb mb sb pb qb bb tb D ks G K) (hl:K.ss.length<1000000) (n d p:Int) (hn:aj n):Zk 55 #[Zp qb,.int .i64 n,.int .i64 d,.int .i64 p] w λe w'=>Zr e (.int .i64 (fj K.ss n d p))/\ey U w' kb mb sb pb qb bb tb D ks G {K with ss:=bU K.ss n d p}/\ae (λk=>¬U k/\k≠tb) w w':=by
 obtain⟨U5,lg⟩:=h.own;obtain⟨U2,⟨G2,a⟩,hB,kh⟩:=aD.aaB h 3 rfl;have iO:=hB 5 _ tb Zd rfl lg.m.own.lt (λV hV=>hV.um);refine(NK a hl n d p hn).m ?_;rintro e w' ⟨h1,h2,h3⟩;obtain⟨h4,h5⟩:=kh (jX qb K.ts K.t K.lf (bU K.ss n d p) K.ck) w' (jX.bj qb K.ts K.t K.lf (bU K.ss n d p) K.ck) h2 h3;refine⟨h1,h4,⟨h5.os,h5.tape,h5.output,h5.size,λk hk hn=>?_⟩⟩;by_cases dA:k=tb
 ·subst dA;exact h3.block k hk (λh=>h iO)
 ·exact h5.block k hk (λh=>hn ⟨h,dA⟩)
theorem _root_.Go.Vx.ae.afE {S:Nat->Prop} {a b c:World} {r:Nat} (h:ae S a b) (h2:ae (λk=>k=r) b c) (hr:a.heap.size<=r):ae S a c:=
 (h.mono (T:=λk=>S k\/k=r) (λk _ hk=>Or.inl hk)).trans (h2.mono (T:=λk=>S k\/k=r) (λk _ hk=>Or.inr hk)) |>.mono (λk hk h3=>by
  rcases h3 with h3|h3
  ·exact h3
  ·omega)
structure uj (U:Nat->Prop) (w:World) (kb mb sb pb qb bb tb:Nat) (D:DataW Value) (ks:List Int) (G:Int->Nat) (r:Nat) (K:Kn) (l:List Int) (left:Lit->Bool) (cM:Nat) (wr:World):Prop where
 rg:wr.ranges prog 3 RP tb r ks.length D left cM
 kg:∃V:Nat->Prop,(∀k,U k->V k)/\V r/\ey V wr kb mb sb pb qb bb tb D ks G {K with ss:=kU K.ss l}
 o:Zn U w wr
 hr:w.heap.size<=r
 nd:l.Nodup
 mem:∀x,x∈l↔x∈ks/\left (.int .i64 x)=false
theorem uj.start (h:fO U w kb mb sb pb qb bb tb D ks G F K wv) (hr:w2.ranges prog 3 RP tb wv.heap.size ks.length D (Maps.has D) (Maps.size D)) (hg:wv.grownBy w2 none) (hs:w2.heap.size=wv.heap.size+1):uj U w kb mb sb pb qb bb tb D ks G wv.heap.size K [] (Maps.has D) (Maps.size D) w2:=by
 have ho:=Gi hg;obtain⟨⟨V,h1,h2,h3⟩,h4,h5⟩:=h;obtain⟨U5,lg⟩:=h3.own;refine⟨hr,⟨_,λk hk=>Or.inl (h1 k hk),Or.inr ⟨Nat.le_refl _,Zo⟩,h3.wide ho⟩,h5.trans (ho.f),h5.size,List.nodup_nil,λx=>?_⟩;constructor
 ·intro h9;cases h9
 ·rintro⟨h6,h7⟩;rw[(lg.m.has x (lg.m.ix x h6)).2 h6] at h7;cases h7
theorem uj.key {l:List Int} (h:uj U w kb mb sb pb qb bb tb D ks G r K l left cM wv) {x:Int} {kl:Lit} {y:DataW Value} (sw:keyOf prog 3 (.int .i64 x)=some kl) (nF:∀zd,D.atKey kl zd=y):aj x/\kl=.int .i64 x/\x∈ks:=by
 obtain⟨x2,ex,rfl,hw⟩:=Maps.keyOf_i64 underlying3 sw;obtain rfl:x=x2:=by injection ex
 have hi:=CK hw;have hh:=Maps.has_true_of_atKey nF;obtain⟨V,_,_,hk⟩:=h.kg;obtain⟨U5,lg⟩:=hk.own;exact⟨hi,rfl,(lg.m.has x hi).1 hh⟩
theorem uj.round {l:List Int} (h:uj U w kb mb sb pb qb bb tb D ks G r K l left cM wv) (hw:aE K) {x:Int} (hx:aj x) (iN:x∈ks) (hl:left (.int .i64 x)=true) {w3:World} (gP:w3.ranges prog 3 RP tb r ks.length D (uC left x) jJ) (hg:wv.grownBy w3 (some r)):w3.cell? ⟨kb,3,none⟩=some (Zp qb)/\Zk 55 #[Zp qb,.int .i64 x,.int .i64 0,.int .i64 0] w3 λe w'=>(∃ev,Zr e (.int .i64 ev))/\Hid (uj U w kb mb sb pb qb bb tb D ks G r K (l++[x]) (uC left x) jJ w'):=by
 have ho:=Gk hg;obtain⟨V,AP,Hi,hk⟩:=h.kg;have pS:ey V w3 kb mb sb pb qb bb tb D ks G {K with ss:=kU K.ss l}:=ik.j (aD.bj _) hk ho (λk _ hk=>by subst hk;exact Hi);refine⟨pS.x.c3,?_⟩
 have hKl:aE {K with ss:=kU K.ss l}:=hw.rest l (λm hm=>by
  obtain⟨U5,lg⟩:=hk.own
  exact lg.kt.mem_iff.1 ((h.mem m).1 hm).1) K.ss hw
 refine(pS.XW (by have:=hKl.ns;omega) x 0 0 hx).m ?_;rintro e w' ⟨rfl,h4,h5⟩;refine⟨⟨_,rfl⟩,abm gP h5 (λh=>h.2 rfl) (λh=>h.1 Hi),⟨V,AP,Hi,by rw[Js];exact h4⟩,(h.o.afE ho h.hr).trans (h5.mono (λk _ h8 h9=>h8.1 (AP k h9))),h.hr,?_,λy=>?_⟩
 ·rw[List.nodup_append];refine⟨h.nd,by simp,λa ha b hb e=>?_⟩;rw[List.mem_singleton] at hb;subst hb;subst e;have:=((h.mem _).1 ha).2;rw[hl] at this;cases this
 ·rw[List.mem_append,List.mem_singleton,h.mem y,I9];by_cases he:y=x
  ·subst he;rw[decide_eq_true rfl];simp[iN]
  ·rw[decide_eq_false he];simp[he]
theorem uj.fin {l:List Int} (h:uj U w kb mb sb pb qb bb tb D ks G r K l left cM wv) (hl:∀kl,left kl=false):ax U wv kb mb sb pb qb bb tb (yP K)/\Zn U w wv:=by
 refine⟨?_,h.o⟩;obtain⟨V,AP,Hi,hk⟩:=h.kg;obtain⟨U5,lg⟩:=hk.own
 have hp:l.Perm (K.T.map (·.num)):=by
  refine List.Perm.trans ?_ lg.kt;exact(List.perm_ext_iff_of_nodup h.nd lg.m.nd).2 (λx=>by rw[h.mem x,hl];simp)
 have hx:=hk.x.thin AP;obtain⟨U3,a,_,_,kh⟩:=aD.open hx 3 rfl;exact(kh (jX qb K.ts K.t K.lf (kU K.ss (K.T.map (·.num))) K.ck) wv (jX.bj qb K.ts K.t K.lf (kU K.ss (K.T.map (·.num))) K.ck) (rN.perm a (YN hp K.ss)) (ae.refl _ _)).1
end
section
variable {kb mb sb pb qb bb tb:Nat} {U V S:Nat->Prop} {w wv w1 w2:World} {K K2:Kn} {F:List (Nat×Obj)}
theorem vJ {α:Type} (st:Kn->α->Kn×Int):∀(l:List α) (K:Kn) (i:Nat),(bz st K l i).2.1=0->(bz st K l i).2.2=0
 |[],K,i,_=>rfl
 |x::r,K,i,h=>by
  unfold bz at h|-
  split at h
  ·rename_i h0;rw[if_pos h0];exact vJ st r _ _ h
  ·rename_i h0;exact absurd h h0
theorem jM.up {α:Type} {L:Lay α} {p:Option Addr} {xs:List α} (h:jM L U w p xs) (hV:∀k,U k->V k):jM L V w p xs:=⟨λh0=>by
 obtain⟨g,o,h1,h2,h3⟩:=h.r h0
 exact⟨g,o,h1,hV g h2,h3⟩,h.n⟩
theorem aq.Cf (h:aq U w kb mb sb pb qb bb tb F K wv) {f:FuncId} {args:Array Value} {Q:Kn×Int×Nat} (hc:∀V,(∀k,U k->V k)->ax V wv kb mb sb pb qb bb tb K->Zk f args wv λe w'=>Zr e (.tuple #[.int .i64 Q.2.1,.int .i64 (Q.2.2:Nat)])/\Hid (ax V w' kb mb sb pb qb bb tb Q.1/\bI Q.1/\Zn V wv w')):
  Zk f args wv λe w'=>∃K2 e2 n2,Q=(K2,e2,n2)/\Zr e (.tuple #[.int .i64 e2,.int .i64 (n2:Int)])/\Hid (aq U w kb mb sb pb qb bb tb F K2 w'/\bI K2):=by
 obtain⟨⟨V,h1,h2,h3⟩,h4,h5⟩:=h;refine(hc V h1 h3).m ?_;rintro e w' ⟨rfl,h6⟩;obtain⟨K2,e2,n2⟩:=Q;exact⟨K2,e2,n2,rfl,rfl,⟨⟨V,h1,h2,h6.j.1⟩,λp hp=>ae.keep h6.j.2.2 (h4 p hp) (λh=>h (h2 p hp)),h5.trans (h6.j.2.2.mono (λk _ h8 h9=>h8 (h1 k h9)))⟩,h6.j.2.1⟩
theorem afG (h:ax U w kb mb sb pb qb bb tb K) (hw:bI K) (S:Sk) (hS:A5 S) (n:Int) (c:Nat) (vt:Value) (mY:Option Addr) (oy:Nat) (Rj:jM oN U w mY S.ob) (kV:Option Addr) (lV:Nat) (Rn:jM mJ U w kV S.cP) (nh:Option Addr) (oB:Nat) (Rm:jM dP U w nh S.cp) (mZ:Option Addr) (oz:Nat) (Rk:jM pM U w mZ S.mp) (mX:Option Addr) (ox:Nat) (Ri:jM mU U w mX S.th) (na:Option Addr) (oA:Nat) (Rl:jM pN U w na S.iq):
  Zk 9 #[Zp kb,.agg #[.int .i64 n,vt,.int .u32 (c:Int),.slice mY S.ob.length oy,.slice kV S.cP.length lV,.slice nh S.cp.length oB,.slice mZ S.mp.length oz,.slice mX S.th.length ox,.slice na S.iq.length oA]] w λe w'=>Zr e (.tuple #[.int .i64 (aY cF (aY bP (aY bK (aY bY (aY cV (bz cj K S.ob 0) S.cP) S.cp) S.mp) S.th) S.iq).2.1,.int .i64 ((aY cF (aY bP (aY bK (aY bY (aY cV (bz cj K S.ob 0) S.cP) S.cp) S.mp) S.th) S.iq).2.2:Nat)])/\Hid (ax U w' kb mb sb pb qb bb tb (if (aY cF (aY bP (aY bK (aY bY (aY cV (bz cj K S.ob 0) S.cP) S.cp) S.mp) S.th) S.iq).2.1=0 then yP (aY cF (aY bP (aY bK (aY bY (aY cV (bz cj K S.ob 0) S.cP) S.cp) S.mp) S.th) S.iq).1 else (aY cF (aY bP (aY bK (aY bY (aY cV (bz cj K S.ob 0) S.cP) S.cp) S.mp) S.th) S.iq).1)/\Zn U w w'):=by
 obtain⟨Q,hQ⟩:=Ze ((aY cF (aY bP (aY bK (aY bY (aY cV (bz cj K S.ob 0) S.cP) S.cp) S.mp) S.th) S.iq));rw[<-hQ];have Ui:=aa hQ;obtain⟨KF,kn⟩:=Ze ((if Q.2.1=0 then yP Q.1 else Q.1));rw[<-kn]
 have mR:Hid (∀K e n,Q=(K,e,n)->(e=0->KF=yP K)/\(e≠0->KF=K)):=λK e n h=>by
  rw[kn,h];exact⟨λh0=>if_pos h0,λh0=>if_neg h0⟩
 obtain⟨EH,LD⟩:∃N,N=S.ob.length:=⟨_,rfl⟩
 have Fj:Hid (∀F K wv,aq U w kb mb sb pb qb bb tb F K wv/\bI K->Zk 43 #[.slice mY EH oy,.func (.func 44) #[Zp kb] #[]] wv λe w'=>∃K2 e2 n2,bz cj K S.ob 0=(K2,e2,n2)/\Zr e (.tuple #[.int .i64 e2,.int .i64 (n2:Int)])/\Hid (aq U w kb mb sb pb qb bb tb F K2 w'/\bI K2)):=λF K wv h=>h.1.Cf (λV hV h3=>aeQ h3 h.2 LD ((Rj.keep h.1.o).up hV) hS.ob)
 obtain⟨EL,LI⟩:∃N,N=S.cP.length:=⟨_,rfl⟩
 have uh:Hid (∀F K wv,aq U w kb mb sb pb qb bb tb F K wv/\bI K->Zk 45 #[.slice kV EL lV,.func (.func 46) #[Zp kb] #[]] wv λe w'=>∃K2 e2 n2,bz cV K S.cP 0=(K2,e2,n2)/\Zr e (.tuple #[.int .i64 e2,.int .i64 (n2:Int)])/\Hid (aq U w kb mb sb pb qb bb tb F K2 w'/\bI K2)):=λF K wv h=>h.1.Cf (λV hV h3=>aeU h3 h.2 LI ((Rn.keep h.1.o).up hV) hS.cP)
 obtain⟨EK,LH⟩:∃N,N=S.cp.length:=⟨_,rfl⟩
 have nR:Hid (∀F K wv,aq U w kb mb sb pb qb bb tb F K wv/\bI K->Zk 47 #[.slice nh EK oB,.func (.func 48) #[Zp kb] #[]] wv λe w'=>∃K2 e2 n2,bz bY K S.cp 0=(K2,e2,n2)/\Zr e (.tuple #[.int .i64 e2,.int .i64 (n2:Int)])/\Hid (aq U w kb mb sb pb qb bb tb F K2 w'/\bI K2)):=λF K wv h=>h.1.Cf (λV hV h3=>aeT h3 h.2 LH ((Rm.keep h.1.o).up hV) hS.cp)
 obtain⟨EI,LF⟩:∃N,N=S.mp.length:=⟨_,rfl⟩
 have UG:Hid (∀F K wv,aq U w kb mb sb pb qb bb tb F K wv/\bI K->Zk 49 #[.slice mZ EI oz,.func (.func 50) #[Zp kb] #[]] wv λe w'=>∃K2 e2 n2,bz bK K S.mp 0=(K2,e2,n2)/\Zr e (.tuple #[.int .i64 e2,.int .i64 (n2:Int)])/\Hid (aq U w kb mb sb pb qb bb tb F K2 w'/\bI K2)):=λF K wv h=>h.1.Cf (λV hV h3=>aeR h3 h.2 LF ((Rk.keep h.1.o).up hV) hS.mp)
 obtain⟨EG,LC⟩:∃N,N=S.th.length:=⟨_,rfl⟩
 have CC:Hid (∀F K wv,aq U w kb mb sb pb qb bb tb F K wv/\bI K->Zk 51 #[.slice mX EG ox,.func (.func 52) #[Zp kb] #[]] wv λe w'=>∃K2 e2 n2,bz bP K S.th 0=(K2,e2,n2)/\Zr e (.tuple #[.int .i64 e2,.int .i64 (n2:Int)])/\Hid (aq U w kb mb sb pb qb bb tb F K2 w'/\bI K2)):=λF K wv h=>h.1.Cf (λV hV h3=>aeP h3 h.2 LC ((Ri.keep h.1.o).up hV) hS.th)
 obtain⟨EJ,LG⟩:∃N,N=S.iq.length:=⟨_,rfl⟩
 have UH:Hid (∀F K wv,aq U w kb mb sb pb qb bb tb F K wv/\bI K->Zk 53 #[.slice na EJ oA,.func (.func 54) #[Zp kb] #[]] wv λe w'=>∃K2 e2 n2,bz cF K S.iq 0=(K2,e2,n2)/\Zr e (.tuple #[.int .i64 e2,.int .i64 (n2:Int)])/\Hid (aq U w kb mb sb pb qb bb tb F K2 w'/\bI K2)):=λF K wv h=>h.1.Cf (λV hV h3=>aeS h3 h.2 LG ((Rl.keep h.1.o).up hV) hS.iq)
 rw[<-LD,<-LI,<-LH,<-LF,<-LC,<-LG];obtain⟨w1,ag⟩:=Ze (w.alloc (.cells #[.int .i64 n,vt,.int .u32 (c:Int),.slice mY EH oy,.slice kV EL lV,.slice nh EK oB,.slice mZ EI oz,.slice mX EG ox,.slice na EJ oA] 31));obtain⟨ob,az⟩:=Ze (w.heap.size);obtain⟨F,hF⟩:∃F:List (Nat×Obj),F=[(ob,.cells #[.int .i64 n,vt,.int .u32 (c:Int),.slice mY EH oy,.slice kV EL lV,.slice nh EK oB,.slice mZ EI oz,.slice mX EG ox,.slice na EJ oA] 31 (0,0))]:=⟨_,rfl⟩
 have cN:Hid (aq U w kb mb sb pb qb bb tb F K w1/\bI K):=⟨by rw[ag,hF,az];exact(aq.start h).alloc _,hw⟩
 have ar:Hid (∀K' wv,aq U w kb mb sb pb qb bb tb F K' wv->wv.cell? ⟨ob,3,none⟩=some (.slice mY EH oy)/\wv.cell? ⟨ob,4,none⟩=some (.slice kV EL lV)/\wv.cell? ⟨ob,5,none⟩=some (.slice nh EK oB)/\wv.cell? ⟨ob,6,none⟩=some (.slice mZ EI oz)/\wv.cell? ⟨ob,7,none⟩=some (.slice mX EG ox)/\wv.cell? ⟨ob,8,none⟩=some (.slice na EJ oA)):=λK' wv h=>by
  have hm:(ob,Obj.cells #[.int .i64 n,vt,.int .u32 (c:Int),.slice mY EH oy,.slice kV EL lV,.slice nh EK oB,.slice mZ EI oz,.slice mX EG ox,.slice na EJ oA] 31 (0,0))∈F:=by rw[hF];exact List.mem_cons_self
  exact⟨(cell_of_row _ _ 3 _ _ (0,0) (h.at hm)).trans rfl,(cell_of_row _ _ 4 _ _ (0,0) (h.at hm)).trans rfl,(cell_of_row _ _ 5 _ _ (0,0) (h.at hm)).trans rfl,(cell_of_row _ _ 6 _ _ (0,0) (h.at hm)).trans rfl,(cell_of_row _ _ 7 _ _ (0,0) (h.at hm)).trans rfl,(cell_of_row _ _ 8 _ _ (0,0) (h.at hm)).trans rfl⟩
 have q:=ar.j _ _ cN.j.1;obtain⟨q3,q4,q5,q6,q7,q8⟩:=q;clear h hw hS hQ kn hF LD Rj LI Rn LH Rm LF Rk LC Ri LG Rl;go_enter func9,ntmps9;go_upto_region 1 with fail
 rw[<-ag,<-az];clear ag az;go_wp2_with fail;refine(Fj.j _ _ _ cN.j).m ?_;rintro e w2 ⟨K1,e1,n1,hq,rfl,gE⟩
 have sM:Hid (Q=(aY cF (aY bP (aY bK (aY bY (aY cV (K1,e1,n1) S.cP) S.cp) S.mp) S.th) S.iq)):=by
  have h9:=Ui.j;rw[hq] at h9;exact h9
 have HZ1:Hid (e1=0->n1=0):=λh0=>by
  have h9:=vJ cj S.ob K 0;rw[hq] at h9;exact h9 h0
 clear hq Ui cN Fj q3 q4 q5 q6 q7 q8;obtain⟨q3,q4,q5,q6,q7,q8⟩:=ar.j _ _ gE.j.1;by_cases z1:e1=0
 case neg=>
  have y1:(e1 !=0)=true:=by simpa using z1
  have HE:Hid (Q=(K1,e1,n1)):=by
   show Q=_;rw[sM.j,gV _ (show(K1,e1,n1).2.1≠0 from z1),gV _ (show(K1,e1,n1).2.1≠0 from z1),gV _ (show(K1,e1,n1).2.1≠0 from z1),gV _ (show(K1,e1,n1).2.1≠0 from z1),gV _ (show(K1,e1,n1).2.1≠0 from z1)]
  have dS:=aa z1;clear z1;go_wp2_with fail
  all_goals
   go_ret2;exact⟨Zv HE.j,by rw[(mR.j _ _ _ HE.j).2 dS.j];exact gE.j.1.fin⟩
 replace sM:Hid (Q=(aY cF (aY bP (aY bK (aY bY (bz cV K1 S.cP 0) S.cp) S.mp) S.th) S.iq)):=by
  show Q=_;rw[sM.j,CO _ (show(K1,e1,n1).2.1=0 from z1)]
 subst z1;clear HZ1;go_wp2_with fail;refine(uh.j _ _ _ gE.j).m ?_;rintro e w3 ⟨K2,e2,n2,hq,rfl,lF⟩
 have dL:Hid (Q=(aY cF (aY bP (aY bK (aY bY (K2,e2,n2) S.cp) S.mp) S.th) S.iq)):=by
  have h9:=sM.j;rw[hq] at h9;exact h9
 have HZ2:Hid (e2=0->n2=0):=λh0=>by
  have h9:=vJ cV S.cP K1 0
  rw[hq] at h9;exact h9 h0
 clear hq sM gE uh q3 q4 q5 q6 q7 q8;obtain⟨q3,q4,q5,q6,q7,q8⟩:=ar.j _ _ lF.j.1;by_cases z2:e2=0
 case neg=>
  have y2:(e2 !=0)=true:=by simpa using z2
  have HE:Hid (Q=(K2,e2,n2)):=by
   show Q=_;rw[dL.j,gV _ (show(K2,e2,n2).2.1≠0 from z2),gV _ (show(K2,e2,n2).2.1≠0 from z2),gV _ (show(K2,e2,n2).2.1≠0 from z2),gV _ (show(K2,e2,n2).2.1≠0 from z2)]
  have dS:=aa z2;clear z2;go_wp2_with fail
  all_goals
   go_ret2;exact⟨Zv HE.j,by rw[(mR.j _ _ _ HE.j).2 dS.j];exact lF.j.1.fin⟩
 replace dL:Hid (Q=(aY cF (aY bP (aY bK (bz bY K2 S.cp 0) S.mp) S.th) S.iq)):=by
  show Q=_;rw[dL.j,CO _ (show(K2,e2,n2).2.1=0 from z2)]
 subst z2;clear HZ2;go_wp2_with fail;refine(nR.j _ _ _ lF.j).m ?_;rintro e w4 ⟨K3,e3,n3,hq,rfl,IH⟩
 have iH:Hid (Q=(aY cF (aY bP (aY bK (K3,e3,n3) S.mp) S.th) S.iq)):=by
  have h9:=dL.j;rw[hq] at h9;exact h9
 have gq:Hid (e3=0->n3=0):=λh0=>by
  have h9:=vJ bY S.cp K2 0;rw[hq] at h9;exact h9 h0
 clear hq dL lF nR q3 q4 q5 q6 q7 q8;obtain⟨q3,q4,q5,q6,q7,q8⟩:=ar.j _ _ IH.j.1;by_cases z3:e3=0
 case neg=>
  have y3:(e3 !=0)=true:=by simpa using z3
  have HE:Hid (Q=(K3,e3,n3)):=by
   show Q=_;rw[iH.j,gV _ (show(K3,e3,n3).2.1≠0 from z3),gV _ (show(K3,e3,n3).2.1≠0 from z3),gV _ (show(K3,e3,n3).2.1≠0 from z3)]
  have dS:=aa z3;clear z3;go_wp2_with fail
  all_goals
   go_ret2;exact⟨Zv HE.j,by rw[(mR.j _ _ _ HE.j).2 dS.j];exact IH.j.1.fin⟩
 replace iH:Hid (Q=(aY cF (aY bP (bz bK K3 S.mp 0) S.th) S.iq)):=by
  show Q=_;rw[iH.j,CO _ (show(K3,e3,n3).2.1=0 from z3)]
 subst z3;clear gq;go_wp2_with fail;refine(UG.j _ _ _ IH.j).m ?_;rintro e w5 ⟨K4,e4,n4,hq,rfl,IG⟩
 have vy:Hid (Q=(aY cF (aY bP (K4,e4,n4) S.th) S.iq)):=by
  have h9:=iH.j;rw[hq] at h9;exact h9
 have HZ4:Hid (e4=0->n4=0):=λh0=>by
  have h9:=vJ bK S.mp K3 0;rw[hq] at h9;exact h9 h0
 clear hq iH IH UG q3 q4 q5 q6 q7 q8;obtain⟨q3,q4,q5,q6,q7,q8⟩:=ar.j _ _ IG.j.1;by_cases z4:e4=0
 case neg=>
  have y4:(e4 !=0)=true:=by simpa using z4
  have HE:Hid (Q=(K4,e4,n4)):=by
   show Q=_;rw[vy.j,gV _ (show(K4,e4,n4).2.1≠0 from z4),gV _ (show(K4,e4,n4).2.1≠0 from z4)]
  have dS:=aa z4;clear z4;go_wp2_with fail
  all_goals
   go_ret2;exact⟨Zv HE.j,by rw[(mR.j _ _ _ HE.j).2 dS.j];exact IG.j.1.fin⟩
 replace vy:Hid (Q=(aY cF (bz bP K4 S.th 0) S.iq)):=by
  show Q=_;rw[vy.j,CO _ (show(K4,e4,n4).2.1=0 from z4)]
 subst z4;clear HZ4;go_wp2_with fail;refine(CC.j _ _ _ IG.j).m ?_;rintro e w6 ⟨K5,e5,n5,hq,rfl,qV⟩
 have py:Hid (Q=(aY cF (K5,e5,n5) S.iq)):=by
  have h9:=vy.j;rw[hq] at h9;exact h9
 have HZ5:Hid (e5=0->n5=0):=λh0=>by
  have h9:=vJ bP S.th K4 0;rw[hq] at h9;exact h9 h0
 clear hq vy IG CC q3 q4 q5 q6 q7 q8;obtain⟨q3,q4,q5,q6,q7,q8⟩:=ar.j _ _ qV.j.1;by_cases z5:e5=0
 case neg=>
  have y5:(e5 !=0)=true:=by simpa using z5
  have HE:Hid (Q=(K5,e5,n5)):=by
   show Q=_;rw[py.j,gV _ (show(K5,e5,n5).2.1≠0 from z5)]
  have dS:=aa z5;clear z5;go_wp2_with fail
  all_goals
   go_ret2;exact⟨Zv HE.j,by rw[(mR.j _ _ _ HE.j).2 dS.j];exact qV.j.1.fin⟩
 replace py:Hid (Q=(bz cF K5 S.iq 0)):=by
  show Q=_;rw[py.j,CO _ (show(K5,e5,n5).2.1=0 from z5)]
 subst z5;clear HZ5;go_wp2_with fail;refine(UH.j _ _ _ qV.j).m ?_;rintro e w7 ⟨K6,e6,n6,hq,rfl,zC⟩
 have zu:Hid (Q=(K6,e6,n6)):=by
  have h9:=py.j;rw[hq] at h9;exact h9
 have Io:Hid (e6=0->n6=0):=λh0=>by
  have h9:=vJ cF S.iq K5 0;rw[hq] at h9;exact h9 h0
 clear hq py qV UH q3 q4 q5 q6 q7 q8;obtain⟨q3,q4,q5,q6,q7,q8⟩:=ar.j _ _ zC.j.1;by_cases z6:e6=0
 case neg=>
  have y6:(e6 !=0)=true:=by simpa using z6
  have HE:Hid (Q=(K6,e6,n6)):=by
   show Q=_;rw[zu.j]
  have dS:=aa z6;clear z6;go_wp2_with fail
  all_goals
   go_ret2;exact⟨Zv HE.j,by rw[(mR.j _ _ _ HE.j).2 dS.j];exact zC.j.1.fin⟩
 have HE:Hid (Q=(K6,0,0)):=by
  show Q=_;rw[zu.j,Io.j z6,z6]
 subst z6;clear Io zu ar q3 q4 q5 q6 q7 q8;obtain⟨⟨V,a1,a2,a3⟩,a4,a5⟩:=zC.j.1;obtain⟨D,ks,G,hg⟩:=a3.g;have HG:Hid (fO U w kb mb sb pb qb bb tb D ks G F K6 w7):=⟨⟨V,a1,a2,hg⟩,a4,a5⟩
 obtain⟨U5,lg⟩:=hg.own;have pA:=aa lg.m.own;have c5:=zC.j.1.c.2.2.2.2.2;clear a1 a2 a3 a4 a5 hg lg;go_wp2_with (at_range;refine wpList_range_own _ rfl _ 155 rfl 3 201 oO underlying155 RP tb ks.length D rfl pA.j ?_;intro w8 mx eK aR;have iT:=aa (uj.start HG.j mx eK aR);clear mx eK aR);obtain⟨r,hr⟩:=Ze (w7.heap.size);rw[<-hr] at iT|-;have fR:=aa zC.j.2.1;clear hr c5 pA HG zC
 go_frame
 go_loopw [18,96,97] (λ_ _ _ wr=>∃left cM l,Hid (uj U w kb mb sb pb qb bb tb D ks G r K6 l left cM wr)) (λ_ _ _ wr=>wr.rangeLeft tb r)
 case atStart=>exact⟨_,_,_,iT⟩
 case round=>
  clear iT;obtain⟨left,cM,l,HR⟩:=hrel;go_wp2_with (at_next;refine wpList_next_ranges _ rfl _ rfl 3 oO RP (Value.int .i64) Value.pointer J8 Ym tb r ks.length D left cM rfl HR.j.rg ?_ ?_)
  ·intro qH u9;have HF:=aa (HR.j.fin u9);clear qH u9;go_wp2_with fail
   all_goals
    go_ret2;exact⟨Zv HE.j,by rw[(mR.j _ _ _ HE.j).1 rfl];exact HF.j⟩
  ·intro x cc kl y yp w9 wY sw gh hv nF yt ah eK aR oZ;obtain⟨uS,rfl,iN⟩:=HR.j.key sw nF;have eM:Hid (wr.rangeLeft tb r=cM/\wY<cM):=⟨HR.j.rg.left_eq,ah⟩
   obtain⟨c3,jI⟩:=HR.j.round fR.j uS iN gh yt eK;have UI:=aa jI;clear sw gh hv nF yt ah eK aR uS iN jI;go_wp2_with fail;refine UI.j.m ?_;rintro e ji ⟨⟨ev,rfl⟩,xm⟩;clear oZ c3 UI;go_wp2_with fail;go_roundw
   case rel=>exact⟨_,wY,_,xm⟩
   case measure=>rw[eM.j.1,xm.j.rg.left_eq];exact eM.j.2
end
section
variable {kb mb sb pb qb bb tb:Nat} {U V S:Nat->Prop} {w wv w1 w2:World} {K K2:Kn} {F:List (Nat×Obj)}
variable {l:List dR}
def tR (tb:Nat):dR:=λU w=>lB w tb (.map []) [] (λ_=>0)/\¬U tb/\∀k,U k->k<w.heap.size
theorem tR.bj (tb:Nat):ik (tR tb):=by
 rintro U V S w w2 ⟨h1,h2,h3⟩ ho hS hV;have hb:=h1.own.lt;have hs:=ho.size;refine⟨h1.keep ho (λh=>h2 (hS tb hb h)),λh=>?_,λk hk=>?_⟩
 ·rcases hV tb h with h4|h4
  ·exact h2 h4
  ·omega
 ·rcases hV k hk with h4|h4
  ·have:=h3 k h4;omega
  ·exact h4.2
def cn (l:List dR) (U:Nat->Prop) (w wv:World):Prop:=aD l U wv/\Zn U w wv
theorem cn.quiet (h:cn l U w wv) (ho:Zq wv w2):cn l U w w2:=⟨h.1.quiet ho,h.2.trans (ho.f)⟩
theorem cn.more (h:cn l U w wv) {P:dR} (hP:ik P) (h2:P (λk=>k<wv.heap.size) w2) (ho:Zq wv w2):cn (l++[P]) U w w2:=⟨h.1.more hP h2 ho,h.2.trans (ho.f)⟩
theorem cn.cell (h:cn l U w wv) {g o:Nat} {v:Value} (hg:U g) (hc:w.cell? ⟨g,o,none⟩=some v) (hl:g<w.heap.size):wv.cell? ⟨g,o,none⟩=some v:=(h.2.cell (p:=⟨g,o,none⟩) hl (λh=>h hg)).trans hc
theorem cn.o7 (h:cn l U w wv) (h0:l[0]?=some (kF 0 (.cells #[Zi (-1),Zi (-1)] 95 (0,0)))):Zk 40 #[] wv λe w'=>∃sb,Zr e (Zp sb)/\Hid (cn (l.set 0 (me sb [] [])) U w w'):=by
 obtain⟨U2,⟨a1,a2,a3⟩,_,uX,kh⟩:=aD.open h.1 0 h0;refine(VB (show mL wv from a1)).m ?_;rintro e w' ⟨xb,rfl,h1,h2,h3⟩;have h4:jL U2 w' xb [] []:=jL.step h2 (ae.refl (λ_=>False) w') (λ_ _ h=>h.elim) (λk hk=>Or.inl ⟨uX k hk,λe=>a2 (e▸hk)⟩);obtain⟨h5,h6⟩:=kh (me xb [] []) w' (me.bj xb [] []) h4 (h3.f);exact⟨xb,rfl,h5,h.2.trans h6⟩
theorem cn.tP (h:cn l U w wv):Zk 41 #[] wv λe w'=>∃bb,Zr e (Zp bb)/\Hid (cn (l++[qX bb ⟨[],[]⟩]) U w w'):=by
 refine(afw wv).m ?_;rintro e w' ⟨xb,rfl,h1,h2⟩;exact⟨xb,rfl,h.more (qX.bj xb ⟨[],[]⟩) h2.j.1 h2.j.2⟩
theorem cn.map (h:cn l U w wv):cn (l++[tR wv.heap.size]) U w (wv.alloc (.map #[] 0)):=by
 have ho:Zq wv (wv.alloc (.map #[] 0)):=(ae.refl _ wv).alloc _;have hs:=ho.size;exact h.more (tR.bj _) ⟨lB.made wv _,λh=>Nat.lt_irrefl _ h,λk hk=>Nat.lt_of_lt_of_le hk hs⟩ ho
theorem cn.box {L:List Ln} {ci co:List (List UInt8)} {c:Nat} (h:cn l U w wv) {i:Nat} (hi:l[i]?=some (tR tb)):cn (l.set i (ph wv.heap.size mb sb pb qb bb tb [] L ci co c)) U w (wv.alloc (.cells (lG mb sb pb qb bb tb L ci co c).toArray 163)):=by
 obtain⟨U2,⟨a1,a2,a3⟩,_,uX,kh⟩:=aD.open h.1 i hi;have ho:Zq wv (wv.alloc (.cells (lG mb sb pb qb bb tb L ci co c).toArray 163)):=(ae.refl _ wv).alloc _;have hs:=ho.size
 have hP:ph wv.heap.size mb sb pb qb bb tb [] L ci co c U2 (wv.alloc (.cells (lG mb sb pb qb bb tb L ci co c).toArray 163)):=
  ⟨_,_,_,heap_alloc_last wv _,a1.keep ho (λh=>h),List.Perm.refl _,λt ht=>(by cases ht),λt ht=>(by cases ht),λhu=>Nat.lt_irrefl _ (uX _ hu),a2,λt ht=>(by cases ht),λk hk=>by have:=uX k hk;omega,Zd⟩
 obtain⟨h5,h6⟩:=kh (ph wv.heap.size mb sb pb qb bb tb [] L ci co c) _ ph.bj hP (ho.f);exact⟨h5,h.2.trans h6⟩
def Gt:Ln:=⟨0,0,false,false⟩
def qz:List Ln:=List.replicate 8 Gt
def e8:List (List UInt8):=List.replicate 8 []
theorem ax.Df (h:ax U w kb mb sb pb qb bb tb K) {j:Nat} (hj:j<K.L.length) (y:Ln):∃w2,(storeCells ⟨kb,6+j*4,none⟩ (eE y)).run prog w=.ok () w2/\ax U w2 kb mb sb pb qb bb tb {K with L:=K.L.set j y}/\Zn U w w2:=by
 have hk:=h.k
 have ke:w.there kb (6+j*4) (eE y).length:=λq hq=>by
  refine⟨?_,jA hk _⟩;have Dy:q<4:=hq;have e0:=xD (mb:=mb) (sb:=sb) (pb:=pb) (qb:=qb) (bb:=bb) (tb:=tb) (ci:=K.ci) (co:=K.co) (c:=K.c) hj Dy;rw[cell_of_row _ _ _ _ _ (0,0) hk,List.getElem?_toArray,e0,List.getElem?_eq_getElem (show q<(eE K.L[j]).length from Dy)];rfl
 have aM:=s7 w kb (6+j*4) (eE y) ke (vU.one y);obtain⟨b,g,m,p⟩:=y;have e1:=heap_setCell_same w kb (6+j*4) _ _ (Zi b) hk;have s1:=zG (mb:=mb) (sb:=sb) (pb:=pb) (qb:=qb) (bb:=bb) (tb:=tb) (ci:=K.ci) (co:=K.co) (c:=K.c) hj (j:=0) Zd (v:=Zi b) (y:={K.L[j] with dj:=b}) rfl;rw[Nat.add_zero] at s1;rw[s1] at e1;have e2:=heap_setCell_same _ kb (6+j*4+1) _ _ (Zu g) e1;rw[zG (L:=K.L.set j {K.L[j] with dj:=b}) (i:=j) (by rw[List.length_set];exact hj) (j:=1) Zd (v:=Zu g) (y:={K.L[j] with dj:=b,jW:=g}) (by rw[List.getElem_set_self];rfl),List.set_set] at e2;have e3:=heap_setCell_same _ kb (6+j*4+2) _ _ (.bool m) e2;rw[zG (L:=K.L.set j {K.L[j] with dj:=b,jW:=g}) (i:=j) (by rw[List.length_set];exact hj) (j:=2) Zd (v:=.bool m) (y:={K.L[j] with dj:=b,jW:=g,pL:=m}) (by rw[List.getElem_set_self];rfl),List.set_set] at e3;have e4:=heap_setCell_same _ kb (6+j*4+3) _ _ (.bool p) e3;rw[zG (L:=K.L.set j {K.L[j] with dj:=b,jW:=g,pL:=m}) (i:=j) (by rw[List.length_set];exact hj) (j:=3) Zd (v:=.bool p) (y:=⟨b,g,m,p⟩) (by rw[List.getElem_set_self];rfl),List.set_set] at e4;obtain⟨h5,h6⟩:=h.db (((((ae.refl (λk=>k=kb) w).setCell (p:=⟨kb,6+j*4,none⟩) (Or.inl rfl) (Zi b)).setCell (p:=⟨kb,6+j*4+1,none⟩) (Or.inl rfl) (Zu g)).setCell (p:=⟨kb,6+j*4+2,none⟩) (Or.inl rfl) (.bool m)).setCell (p:=⟨kb,6+j*4+3,none⟩) (Or.inl rfl) (.bool p)) e4;exact⟨_,aM,h5,h6⟩
theorem Yc (mb sb pb qb bb tb c:Nat) (w:World):(Instr.build 163 #[(0,Zp mb),(1,Zp sb),(2,Zp pb),(3,Zp qb),(4,Zp bb),(5,.map (some tb)),(8,Zu (c:Int))]).run prog w=.ok (.agg (lG mb sb pb qb bb tb qz e8 e8 c).toArray) w:=Zx
theorem Mz {o:Oper} {act:Act} (x0 x1 x2 x3 x4 x5 x8:Operand) (ho:o.op=.build 163 #[(0,x0),(1,x1),(2,x2),(3,x3),(4,x4),(5,x5),(8,x8)]) {mb sb pb qb bb tb c:Nat} (h0:act.eval x0=Zp mb) (h1:act.eval x1=Zp sb) (h2:act.eval x2=Zp pb) (h3:act.eval x3=Zp qb) (h4:act.eval x4=Zp bb) (h5:act.eval x5=.map (some tb)) (h8:act.eval x8=Zu (c:Int)):(execOp act.eval o).run prog w=.ok (.value (.agg (lG mb sb pb qb bb tb qz e8 e8 c).toArray)) w:=by
 have aM:=Yc mb sb pb qb bb tb c w;generalize (lG mb sb pb qb bb tb qz e8 e8 c).toArray=e at aM;simp only[execOp,ho];simp[h0,h1,h2,h3,h4,h5,h8,aM,Result.andThen]
theorem Wq (w:World):Zk 42 #[] w λe w'=>Zr e (.agg (eE yd).toArray)/\Zq w w':=by
 have HO:Hid (Zq w (w.alloc (.cells #[Zi (-1),Zu 0,.bool false,.bool false] 157))):=(ae.refl _ w).alloc _;go_enter func42,ntmps42;go_wp2_with fail
 all_goals
  (try simp only[Exit.inBlock,Exit.then])
  refine bodyPost_ret (v:=.agg #[Zi (-1),Zu 0,.bool false,.bool false]) ?_ rfl ⟨rfl,HO.j⟩;simp only[results,f42];go_simp
  try rfl
end
section
variable {kb mb sb pb qb bb tb:Nat} {U V S:Nat->Prop} {w wv w1 w2:World} {K K2:Kn} {F:List (Nat×Obj)}
theorem _root_.Go.Vx.aD.XD {a b c d e f:dR} (h:aD [a,b,c,d,e,f] U w):aD [a,b,d,c,e,f] U w:=h.Jg (λi=>[0,1,3,2,4,5].getD i 0) (λi hi=>by
 have RX:i<6:=hi;have:i=0\/i=1\/i=2\/i=3\/i=4\/i=5:=Zo
 rcases this with rfl|rfl|rfl|rfl|rfl|rfl<;>rfl) (by simp only[List.length_cons,List.length_nil];decide)
theorem _root_.Go.Vx.aD.Ot {a b c d e f:dR} (h:aD [a,b,c,d,e,f] U w):aD [a,b,d,c,f,e] U w:=h.Jg (λi=>[0,1,3,2,5,4].getD i 0) (λi hi=>by
 have RX:i<6:=hi;have:i=0\/i=1\/i=2\/i=3\/i=4\/i=5:=Zo
 rcases this with rfl|rfl|rfl|rfl|rfl|rfl<;>rfl) (by simp only[List.length_cons,List.length_nil];decide)
def yh (Nn:Nat) (ts:Lp) (c:Nat) (L:List Ln):Kn:=⟨Nn,λ_=>0,[],[],[],[],ts,0,(ts.getD 0 (0,0)).2,[],0,⟨[],[]⟩,[],L,List.replicate 8 [],List.replicate 8 [],c⟩
def j7 (j:Nat):List Ln:=List.replicate j yd++List.replicate (8 - j) Gt
theorem Qc {j:Nat} (hj:j<8):(j7 j).set j yd=j7 (j+1):=by
 have:j=0\/j=1\/j=2\/j=3\/j=4\/j=5\/j=6\/j=7:=Zo;rcases this with rfl|rfl|rfl|rfl|rfl|rfl|rfl|rfl<;>rfl
theorem J5 {j:Nat} (hj:j<=8):(j7 j).length=8:=by unfold j7;simp;omega
def UZ (w:World) (n:Int) (ts:Lp) (c:Nat) (e:Ending) (w':World):Prop:=Zq w w'/\(((n<1\/256<n\/eP ts≠0)/\Zr e (.tuple #[.pointer none,Zi 1]))\/(1<=n/\n<=256/\eP ts=0/\∃kb mb sb pb qb bb tb,Zr e (.tuple #[Zp kb,Zi 0])/\w.heap.size<=kb/\ax (λk=>k<w.heap.size/\k≠0) w' kb mb sb pb qb bb tb (yh n.toNat ts c (List.replicate 8 yd))))
theorem ax.ns (h:ax U w kb mb sb pb qb bb tb K):mL w:=by
 obtain⟨U2,a⟩:=h.o7;obtain⟨mb,D,G,h,_⟩:=a;exact h.ns
theorem JN (hn:mL w) (lO:mL w2) (ho:ae (λk=>¬(k<w.heap.size/\k≠0)) w w2):Zq w w2:=
 ⟨ho.os,ho.tape,ho.output,ho.size,λk hk _=>by
  by_cases h1:k=0
  ·subst h1;exact lO.trans hn.symm
  ·exact ho.block k hk (λh=>h ⟨hk,h1⟩)⟩
theorem afL (gg:mL w) (n:Int) (pt:Option Addr) (Nt ct:Nat) (ts:Lp) (hlen:Nt=ts.length) (uZ:Nt<=ct) (jo:ct<=maxLen) (hp:pj w pt ts) (c:Nat) (vo vb vc vm vr vi:Value):
  Zk 8 #[.agg #[Zi n,.slice pt Nt ct,Zu (c:Int),vo,vb,vc,vm,vr,vi]] w (UZ w n ts c):=by
 obtain⟨w1,ag⟩:=Ze (w.alloc (.cells #[Zi n,.slice pt Nt ct,Zu (c:Int),vo,vb,vc,vm,vr,vi] 31));obtain⟨ob,az⟩:=Ze (w.heap.size);have aB:=Za ag;have cY:w1.heap[ob]?=some (.cells #[Zi n,.slice pt Nt ct,Zu (c:Int),vo,vb,vc,vm,vr,vi] 31 (0,0)):=by rw[ag,az];exact heap_alloc_last w _
 have nC:=gg.quiet aB;have rI:=hp.quiet aB;have Aj:w1.heap.size=w.heap.size+1:=by rw[ag];simp
 have qD:=au gg;obtain⟨U,hU⟩:∃U:Nat->Prop,U=(λk=>k<w1.heap.size/\k≠0):=⟨_,rfl⟩
 have HU:Hid (∀k,k<w.heap.size/\k≠0->U k):=λk hk=>by rw[hU];exact⟨Zo,hk.2⟩
 have MW:Hid (U ob):=by rw[hU];exact⟨au cY,Zo⟩
 have nS:Hid (cn [kF 0 (.cells #[Zi (-1),Zi (-1)] 95 (0,0))] U w1 w1):=⟨by
  have h9:aD [kF 0 (.cells #[Zi (-1),Zi (-1)] 95 (0,0))] (λk=>k<w1.heap.size/\k≠0) w1:=⟨λk hk=>hk.1,λi k=>i=0/\k=0,λi P hi=>by
    cases i with
    |zero=>
     simp only[List.getElem?_cons_zero,Option.some.injEq] at hi;subst hi
     exact⟨kF.bj _ _,nC,λh=>h.2 ⟨rfl,rfl⟩,λk hk=>hk.1⟩
    |succ i=>simp at hi,λi j k h1 h2=>by rw[h1.1,h2.1],λi k hk=>⟨by rw[hk.2];exact au nC,λh=>h.2 hk.2⟩⟩
  rw[hU]
  exact h9,ae.refl _ _⟩
 have ar:Hid (∀l wv,cn l U w1 wv->Zc wv ob 0 (Zi n)/\Zc wv ob 1 (.slice pt Nt ct)/\Zc wv ob 2 (Zu (c:Int))):=λl wv h=>⟨h.cell MW.j (Zl cY) (au cY),h.cell MW.j (Zl cY) (au cY),h.cell MW.j (Zl cY) (au cY)⟩
 have bX:=aa aB;have HFO:Hid (∀wv,Zq w1 wv->Zq w wv):=λwv h=>aB.trans h
 obtain⟨R,hR⟩:=Ze (UZ w n ts c);rw[<-hR];have sc:Hid (∀wv,Zq w1 wv->(n<1\/256<n\/eP ts≠0)->R (.returned (.tuple #[.pointer none,Zi 1])) wv):=λwv h1 h2=>by rw[hR];exact⟨aB.trans h1,Or.inl ⟨h2,rfl⟩⟩
 obtain⟨q0,q1,q2⟩:=ar.j _ _ nS.j;have xl:Hid (∀wv,Zq w1 wv->pj wv pt ts):=λwv h=>rI.quiet h
 have cX:Hid (Nt=ts.length/\Nt<=ct/\ct<=maxLen):=⟨hlen,uZ,jo⟩
 by_cases hn:n<1\/256<n
 ·have Bf:=aa (λw=>abb n hn w);have HE:Hid (n<1\/256<n\/eP ts≠0):=hn.elim Or.inl (λh=>Or.inr (Or.inl h));clear gg hlen uZ jo hp aB cY nC rI Aj qD hU hR hn;go_enter func8,ntmps8;go_upto_region 1 with fail
  rw[<-ag,<-az];clear ag az;go_wp2_with fail;refine(Bf.j _).e1 ?_;go_wp2_with fail
  all_goals
   first|(go_ret2;exact sc.j _ (ae.refl _ _) HE.j)|exact sc.j _ (ae.refl _ _) HE.j
 ·obtain⟨Nn,Hj⟩:∃Nn:Nat,n=(Nn:Int):=⟨n.toNat,Zo⟩
  subst Hj;have dg:Hid (1<=Nn/\Nn<=256):=by show 1<=Nn/\Nn<=256;omega
  have IB:=aa (λw=>aba Nn dg.j.1 dg.j.2 w)
  have Bj:Hid (eP ts=0->∀wv kb mb sb pb qb bb tb,ax U wv kb mb sb pb qb bb tb (yh Nn ts c (List.replicate 8 yd))->Zn U w1 wv->w1.heap.size<=kb->R (.returned (.tuple #[Zp kb,Zi 0])) wv):=λh0 wv kb mb sb pb qb bb tb h1 h2 h3=>by
   rw[hR];have h4:Zq w wv:=JN gg h1.ns ((aB.f).trans (h2.mono (λk _ h5 h6=>h5 (HU.j k h6))));have:=dg.j;exact⟨h4,Or.inr ⟨Zo,Zo,h0,kb,mb,sb,pb,qb,bb,tb,rfl,Zo,by rw[Int.toNat_natCast];exact h1.thin HU.j⟩⟩
  have zv:=aa (λw=>Vv (Nn:Int) (by have:=dg.j;omega) w);clear gg hlen uZ jo hp aB cY nC rI Aj qD hU hR hn;go_enter func8,ntmps8;go_upto_region 1 with fail
  rw[<-ag,<-az];clear ag az;go_wp2_with fail;refine(IB.j _).m ?_;rintro e w2 ⟨mb,rfl,aef,aee,wH,RK⟩;have Bi:Hid (cn [kF 0 (.cells #[Zi (-1),Zi (-1)] 95 (0,0)),kz mb Nn (λ_=>0)] U w1 w2):=nS.j.more (kz.bj mb Nn (λ_=>0)) (RK _ (λk hk=>hk)) wH;have l8:=aa wH;clear aef aee wH RK q0 q1 q2;obtain⟨q0,q1,q2⟩:=ar.j _ _ Bi.j;have EN:=aa (Vf w2 pt Nt ct cX.j.1 cX.j.2.1 cX.j.2.2 (xl.j _ l8.j));go_wp2_with fail;refine EN.j.m ?_;rintro e w3 ⟨cu,vX⟩;rcases cu with⟨nC,rfl⟩|⟨uV,qb,rfl,KC,tj⟩
  ·have HE:Hid ((Nn:Int)<1\/256<(Nn:Int)\/eP ts≠0):=Or.inr (Or.inr (by rw[nC];decide));have bD:=aa (l8.j.trans vX);clear nC vX q0 q1 q2;go_wp2_with fail
   all_goals
    first|(go_ret2;exact sc.j _ bD.j HE.j)|exact sc.j _ bD.j HE.j
  ·have ak:Hid (cn [kF 0 (.cells #[Zi (-1),Zi (-1)] 95 (0,0)),kz mb Nn (λ_=>0),jX qb ts 0 (ts.getD 0 (0,0)).2 [] 0] U w1 w3):=Bi.j.more (jX.bj qb ts 0 (ts.getD 0 (0,0)).2 [] 0) tj vX;replace Bj:=aa (Bj.j uV);clear uV KC tj vX q0 q1 q2 Bi nS l8 EN;obtain⟨q0,q1,q2⟩:=ar.j _ _ ak.j;go_wp2_with fail;refine(zv.j _).m ?_;rintro e w4 ⟨pb,rfl,KG,Ao,jE⟩;have qS:Hid (cn [kF 0 (.cells #[Zi (-1),Zi (-1)] 95 (0,0)),kz mb Nn (λ_=>0),jX qb ts 0 (ts.getD 0 (0,0)).2 [] 0,nM pb (Nn:Int) [] []] U w1 w4):=ak.j.more (nM.bj pb (Nn:Int) [] []) Ao jE;clear KG Ao jE q0 q1 q2 ak zv;have aK:Hid (∀l wv,cn l U w1 wv->Zc wv ob 2 (Zu (c:Int))):=λl wv h=>(ar.j l wv h).2.2
   go_upto_region 8 with fail
   go_cut [9] from 35 to 44 (λc9 wx=>∃kb sb bb tb,c9=Zp kb/\Hid (ax U wx kb mb sb pb qb bb tb (yh Nn ts c (j7 0))/\Zn U w1 wx/\w1.heap.size<=kb))
   case first=>
    have oV:= @run_makeMap prog;have Ul:=aa (qS.j.quiet ((ae.refl _ w4).drew));have af:=aa (aK.j _ _ Ul.j);refine qg (S:=(λwv=>wv.cell? ⟨ob,2,none⟩=some (Zu (c:Int)))) Zx ?_;simp only[List.size_toArray,List.length_cons,List.length_nil,Nat.zero_add,Nat.reduceAdd];refine Zt 0 af.j ?_;refine Zt 2 af.j ?_;refine Zt 3 af.j ?_;refine Zt 6 af.j ?_;refine Zt 7 af.j ?_;refine wpAnyH_ready (rs:=[1,5]) Zx (by simp) ?_;refine(AllReadyH.cons Zg (λK hK=>?_) (AllReadyH.cons Zg (λK hK=>?_) AllReadyH.nil))
    ·as_aux_lemma=>
      refine jy rfl 40 #[] #[] rfl #[] (by first|rfl|simp[Act.eval,go_sem]) (by simp[go_sem]) (Ul.j.o7 rfl) ?_;rintro e w5 ⟨sb,rfl,vD⟩;replace vD:Hid (cn [me sb [] [],kz mb Nn (λ_=>0),jX qb ts 0 (ts.getD 0 (0,0)).2 [] 0,nM pb (Nn:Int) [] []] U w1 w5):=vD;have Bc:=aa (aK.j _ _ vD.j);refine⟨_,rfl,?_⟩;refine Zb hK Bc.j ?_;refine wpAnyH_ready (rs:=[4,5]) Zx (by simp) ?_;refine(AllReadyH.cons Zg (λK hK=>?_) (AllReadyH.cons Zg (λK hK=>?_) AllReadyH.nil))
      ·as_aux_lemma=>
        refine jy rfl 41 #[] #[] rfl #[] (by first|rfl|simp[Act.eval,go_sem]) (by simp[go_sem]) (vD.j.tP) ?_;rintro e w6 ⟨bb,rfl,pG⟩;replace pG:Hid (cn [me sb [] [],kz mb Nn (λ_=>0),jX qb ts 0 (ts.getD 0 (0,0)).2 [] 0,nM pb (Nn:Int) [] [],qX bb ⟨[],[]⟩] U w1 w6):=pG;have rT:=aa (aK.j _ _ pG.j);refine⟨_,rfl,?_⟩;refine Zb hK rT.j ?_;refine Zy 5 (λK hK=>?_);obtain⟨tb,iO⟩:=Ze (w6.heap.size);obtain⟨wA,cJ⟩:=Ze (w6.alloc (.map #[] 0));have fQ:Hid (cn [me sb [] [],kz mb Nn (λ_=>0),jX qb ts 0 (ts.getD 0 (0,0)).2 [] 0,nM pb (Nn:Int) [] [],qX bb ⟨[],[]⟩,tR tb] U w1 wA):=by rw[cJ,iO];exact pG.j.map
        have eT:=aa (aK.j _ _ fQ.j);go_simp;rw[<-cJ,<-iO];clear cJ iO;refine Zb hK eT.j ?_;refine wpAnyH_take (i:=8) (v:=?v8_8_6) Zg Zx Zx Zx (by exact λ_ _ _ h=>h) (Or.inl ⟨by rfl,?hy8_8_6⟩) eT.j ?_
        case hy8_8_6=>(intro wq nH;refine(Mz (.tmp 35) (.tmp 36) (.tmp 37) (.tmp 38) (.tmp 39) (.tmp 40) (.tmp 42) rfl rfl rfl rfl rfl rfl rfl rfl).trans ?_;with_reducible rfl)
        try simp only[Act.put,List.setIfInBounds_toArray,List.set_cons_zero,List.set_cons_succ]
        refine Zy 9 (λK hK=>?_);obtain⟨kb,jV⟩:=Ze (wA.heap.size);obtain⟨wK,tz⟩:=Ze (wA.alloc (.cells (lG mb sb pb qb bb tb qz e8 e8 c).toArray 163));have gF:Hid (cn [me sb [] [],kz mb Nn (λ_=>0),jX qb ts 0 (ts.getD 0 (0,0)).2 [] 0,nM pb (Nn:Int) [] [],qX bb ⟨[],[]⟩,ph kb mb sb pb qb bb tb [] qz e8 e8 c] U w1 wK):=by rw[tz,jV];exact fQ.j.box (i:=5) rfl
        have qa:Hid (ax U wK kb mb sb pb qb bb tb (yh Nn ts c (j7 0))/\Zn U w1 wK/\w1.heap.size<=kb):=⟨gF.j.1.XD,gF.j.2,by rw[jV];exact fQ.j.2.size⟩
        have sL:=aa (aK.j _ _ gF.j);go_simp;rw[<-tz,<-jV];clear tz jV;refine Zb hK sL.j ?_;refine Zt 10 sL.j ?_;refine wpAnyH_done Zx ?_ _;go_wp2_with fail;go_meet;exact⟨_,_,_,_,rfl,qa.j⟩
      ·as_aux_lemma=>
        obtain⟨tb,iO⟩:=Ze (w5.heap.size);obtain⟨wA,cJ⟩:=Ze (w5.alloc (.map #[] 0));have fQ:Hid (cn [me sb [] [],kz mb Nn (λ_=>0),jX qb ts 0 (ts.getD 0 (0,0)).2 [] 0,nM pb (Nn:Int) [] [],tR tb] U w1 wA):=by rw[cJ,iO];exact vD.j.map
        have eT:=aa (aK.j _ _ fQ.j);go_simp;rw[<-cJ,<-iO];clear cJ iO;refine Zb hK eT.j ?_;refine Zy 4 (λK hK=>?_);refine jy rfl 41 #[] #[] rfl #[] (by first|rfl|simp[Act.eval,go_sem]) (by simp[go_sem]) (fQ.j.tP) ?_;rintro e w6 ⟨bb,rfl,pG⟩;replace pG:Hid (cn [me sb [] [],kz mb Nn (λ_=>0),jX qb ts 0 (ts.getD 0 (0,0)).2 [] 0,nM pb (Nn:Int) [] [],tR tb,qX bb ⟨[],[]⟩] U w1 w6):=pG;have rT:=aa (aK.j _ _ pG.j);refine⟨_,rfl,?_⟩;refine Zb hK rT.j ?_;refine wpAnyH_take (i:=8) (v:=?v8_8_8) Zg Zx Zx Zx (by exact λ_ _ _ h=>h) (Or.inl ⟨by rfl,?hy8_8_8⟩) rT.j ?_
        case hy8_8_8=>(intro wq nH;refine(Mz (.tmp 35) (.tmp 36) (.tmp 37) (.tmp 38) (.tmp 39) (.tmp 40) (.tmp 42) rfl rfl rfl rfl rfl rfl rfl rfl).trans ?_;with_reducible rfl)
        try simp only[Act.put,List.setIfInBounds_toArray,List.set_cons_zero,List.set_cons_succ]
        refine Zy 9 (λK hK=>?_);obtain⟨kb,jV⟩:=Ze (w6.heap.size);obtain⟨wK,tz⟩:=Ze (w6.alloc (.cells (lG mb sb pb qb bb tb qz e8 e8 c).toArray 163));have gF:Hid (cn [me sb [] [],kz mb Nn (λ_=>0),jX qb ts 0 (ts.getD 0 (0,0)).2 [] 0,nM pb (Nn:Int) [] [],ph kb mb sb pb qb bb tb [] qz e8 e8 c,qX bb ⟨[],[]⟩] U w1 wK):=by rw[tz,jV];exact pG.j.box (i:=4) rfl
        have qa:Hid (ax U wK kb mb sb pb qb bb tb (yh Nn ts c (j7 0))/\Zn U w1 wK/\w1.heap.size<=kb):=⟨gF.j.1.Ot,gF.j.2,by rw[jV];exact pG.j.2.size⟩
        have sL:=aa (aK.j _ _ gF.j);go_simp;rw[<-tz,<-jV];clear tz jV;refine Zb hK sL.j ?_;refine Zt 10 sL.j ?_;refine wpAnyH_done Zx ?_ _;go_wp2_with fail;go_meet;exact⟨_,_,_,_,rfl,qa.j⟩
    ·as_aux_lemma=>
      obtain⟨tb,iO⟩:=Ze (w4.heap.size);obtain⟨wA,cJ⟩:=Ze ((w4.alloc (.map #[] 0)).drew);have sQ:Hid (cn [kF 0 (.cells #[Zi (-1),Zi (-1)] 95 (0,0)),kz mb Nn (λ_=>0),jX qb ts 0 (ts.getD 0 (0,0)).2 [] 0,nM pb (Nn:Int) [] [],tR tb] U w1 wA):=by rw[cJ,iO];exact qS.j.map.quiet ((ae.refl _ _).drew)
      have eT:=aa (aK.j _ _ sQ.j);go_simp;rw[<-cJ,<-iO];clear cJ iO;refine Zb hK eT.j ?_;refine Zy 1 (λK hK=>?_);refine jy rfl 40 #[] #[] rfl #[] (by first|rfl|simp[Act.eval,go_sem]) (by simp[go_sem]) (sQ.j.o7 rfl) ?_;rintro e w5 ⟨sb,rfl,vD⟩;replace vD:Hid (cn [me sb [] [],kz mb Nn (λ_=>0),jX qb ts 0 (ts.getD 0 (0,0)).2 [] 0,nM pb (Nn:Int) [] [],tR tb] U w1 w5):=vD;have Bc:=aa (aK.j _ _ vD.j);refine⟨_,rfl,?_⟩;refine Zb hK Bc.j ?_;refine Zy 4 (λK hK=>?_);refine jy rfl 41 #[] #[] rfl #[] (by first|rfl|simp[Act.eval,go_sem]) (by simp[go_sem]) (vD.j.tP) ?_;rintro e w6 ⟨bb,rfl,pG⟩;replace pG:Hid (cn [me sb [] [],kz mb Nn (λ_=>0),jX qb ts 0 (ts.getD 0 (0,0)).2 [] 0,nM pb (Nn:Int) [] [],tR tb,qX bb ⟨[],[]⟩] U w1 w6):=pG;have rT:=aa (aK.j _ _ pG.j);refine⟨_,rfl,?_⟩;refine Zb hK rT.j ?_;refine wpAnyH_take (i:=8) (v:=?v8_8_10) Zg Zx Zx Zx (by exact λ_ _ _ h=>h) (Or.inl ⟨by rfl,?hy8_8_10⟩) rT.j ?_
      case hy8_8_10=>(intro wq nH;refine(Mz (.tmp 35) (.tmp 36) (.tmp 37) (.tmp 38) (.tmp 39) (.tmp 40) (.tmp 42) rfl rfl rfl rfl rfl rfl rfl rfl).trans ?_;with_reducible rfl)
      try simp only[Act.put,List.setIfInBounds_toArray,List.set_cons_zero,List.set_cons_succ]
      refine Zy 9 (λK hK=>?_);obtain⟨kb,jV⟩:=Ze (w6.heap.size);obtain⟨wK,tz⟩:=Ze (w6.alloc (.cells (lG mb sb pb qb bb tb qz e8 e8 c).toArray 163));have gF:Hid (cn [me sb [] [],kz mb Nn (λ_=>0),jX qb ts 0 (ts.getD 0 (0,0)).2 [] 0,nM pb (Nn:Int) [] [],ph kb mb sb pb qb bb tb [] qz e8 e8 c,qX bb ⟨[],[]⟩] U w1 wK):=by rw[tz,jV];exact pG.j.box (i:=4) rfl
      have qa:Hid (ax U wK kb mb sb pb qb bb tb (yh Nn ts c (j7 0))/\Zn U w1 wK/\w1.heap.size<=kb):=⟨gF.j.1.Ot,gF.j.2,by rw[jV];exact pG.j.2.size⟩
      have sL:=aa (aK.j _ _ gF.j);go_simp;rw[<-tz,<-jV];clear tz jV;refine Zb hK sL.j ?_;refine Zt 10 sL.j ?_;refine wpAnyH_done Zx ?_ _;go_wp2_with fail;go_meet;exact⟨_,_,_,_,rfl,qa.j⟩
   case rest=>
    obtain⟨kb,sb,bb,tb,rfl,Fc⟩:=hcut;have HUB:=aa (λw=>Wq w);clear qS aK;go_wp2_with fail
    go_loopw [10,45] (λ_ d wr=>∃j:Nat,d=Zi (j:Int)/\j<=8/\Hid (ax U wr kb mb sb pb qb bb tb (yh Nn ts c (j7 j))/\Zn U w1 wr/\w1.heap.size<=kb)) (λ_ d _=>8 - (RowKit.intOf d).toNat)
    case atStart=>exact⟨0,rfl,Zo,Fc⟩
    case round=>
     clear Fc;obtain⟨j,rfl,hj,HK⟩:=hrel;by_cases ah:j<8
     ·have h1:(j:Int)<8:=Zo;have bf:0<=(j:Int)/\(j:Int)<8:=Zo;have jT:=Zf j Zo;have HJ:=aa ah;go_upto_region 12 with fail
      refine zH (S:=(λ_=>True)) 6 Zx Zg Zx ?_;simp only[mh,tc,List.setIfInBounds_toArray,List.set_cons_zero,List.set_cons_succ,List.size_toArray,List.length_cons,List.length_nil,Nat.zero_add,Nat.reduceAdd];refine Zt 0 trivial ?_;refine Zt 1 trivial ?_;refine Zt 3 trivial ?_;refine Zt 4 trivial ?_;refine Zy 2 (λK hK=>?_);refine jy rfl 42 #[] #[] rfl #[] (by first|rfl|simp[Act.eval,go_sem]) (by simp[go_sem]) (HUB.j _) ?_;rintro e w6 ⟨rfl,jG⟩;obtain⟨w7,cG,RU,su⟩:=(HK.j.1.quiet (((ae.refl _ wr).drew).trans jG)).Df (j:=j) (by show j<(j7 j).length;rw[J5 hj];exact HJ.j) yd;have IF:Hid (ax U w7 kb mb sb pb qb bb tb (yh Nn ts c (j7 (j+1)))/\Zn U w1 w7/\w1.heap.size<=kb):=⟨by rw[<-Qc HJ.j];exact RU,HK.j.2.1.trans (((((ae.refl (λ_=>False) wr).drew).trans jG).f).trans su),HK.j.2.2⟩
      clear RU su jG;refine⟨_,rfl,?_⟩;refine Zb hK trivial ?_;refine Zt 5 trivial ?_;refine wpAnyH_take (i:=6) (v:=undef) Zg Zx Zx Zx (by exact λ_ _ _ h=>h) (Or.inr ⟨by rfl,rfl⟩) trivial ?_;refine wpAnyH_done Zx ?_ _;simp only[vH];go_wp2_with fail;go_roundw
      case rel=>exact⟨j+1,by go_num,Zo,IF⟩
      case measure=>exact Zm
     ·obtain rfl:j=8:=Zo;have h1:¬((8:Nat):Int)<8:=Zo;go_wp2_with fail
      all_goals
       first|(go_ret2;exact Bj.j _ _ _ _ _ _ _ _ HK.j.1 HK.j.2.1 HK.j.2.2)|exact Bj.j _ _ _ _ _ _ _ _ HK.j.1 HK.j.2.1 HK.j.2.2
end
section
variable {kb mb sb pb qb bb tb:Nat} {U V S:Nat->Prop} {w wv w1 w2:World} {K K2:Kn} {F:List (Nat×Obj)}
theorem aE.start {S:Sk} (hn:1<=S.n/\S.n<=256) (ht:Ck S.ts 0 (S.ts.getD 0 (0,0)).2):bI (rA S):=by
 refine⟨⟨fk.nil (by show 1<=((S.n.toNat:Nat):Int)/\((S.n.toNat:Nat):Int)<=256;omega),NO,NL,(λb hb=>by cases hb),(λe he=>by cases he),ku.nil,(λe he=>by cases he),Nat.le_refl _,sU.nil,(λp hp=>by cases hp),rfl,List.Pairwise.nil,λn=>?_,(λt ht=>by cases ht),ht,rfl,λl hl=>?_,rfl,rfl⟩,λl hl=>?_⟩
 ·constructor
  ·intro h;cases h
  ·intro h;cases h
 ·rw[List.eq_of_mem_replicate hl];exact Or.inl rfl
 ·rw[List.eq_of_mem_replicate hl];exact⟨rfl,rfl⟩
theorem ab0 (hn:mL w) {j:Nat} (hj:2<=j):w.cell? ⟨0,j,none⟩=none:=by
 rw[cell_of_row _ _ j _ _ (0,0) hn];exact Array.getElem?_eq_none (by simpa using hj)
theorem C9 {α:Type} {L:Lay α} {g o:Nat} {xs:List α} (hn:mL w) (h:kv L w g o xs) (h0:0<xs.length) (h3:3<=L.sz):g≠0:=by
 rintro rfl;have h1:=h.c 0 h0 2 Zo;rw[ab0 hn Zo,List.getElem?_eq_getElem (by rw[L.len];omega)] at h1;cases h1
theorem ab1 {g o:Nat} {xs:List (Int×List UInt8)} (hn:mL w) (h:kv mJ w g o xs) (h0:0<xs.length):g≠0:=by
 rintro rfl;have h1:=h.c 0 h0 1 Zd;rw[show(mJ.cf xs[0])[1]?=some (fG xs[0].2) from rfl] at h1;rw[cell_of_row _ _ _ _ _ (0,0) hn] at h1
 have ho:o+0*mJ.sz+1<2:=by
  have:=(Array.getElem?_eq_some_iff.1 h1).1;simpa using this
 have hs:o=0:=Zo;subst hs;have h2:(#[Value.int .i64 (-1),Value.int .i64 (-1)]:Array Value)[0+0*mJ.sz+1]?=some (Zi (-1)):=rfl;rw[h2] at h1;cases h1
theorem il.u {α:Type} {L:Lay α} {p:Option Addr} {n c:Nat} {xs:List α} (h:il L w (.slice p n c) xs) (hn:∀g o,0<xs.length->kv L w g o xs->g≠0):n=xs.length/\jM L (λk=>k<w.heap.size/\k≠0) w p xs:=by
 obtain⟨p2,c2,h1,h2,h3⟩:=h.rw;injection h1 with h4 h5 h6
 subst h4 h5 h6;refine⟨rfl,λh0=>?_,by have:=h2;unfold maxLen at this;omega⟩;obtain⟨g,o,h7,h8⟩:=h3 h0;exact⟨g,o,h7,⟨h8.gl,hn g o h0 h8⟩,h8⟩
theorem jM.wide {α:Type} {L:Lay α} {p:Option Addr} {xs:List α} (h:jM L U w p xs) (ho:Zq w w2):jM L U w2 p xs:=⟨λh0=>by
 obtain⟨g,o,h1,h2,h3⟩:=h.r h0
 exact⟨g,o,h1,h2,h3.keep ho (λh=>h)⟩,h.n⟩
def TT (w:World) (S:Sk) (e:Ending) (w':World):Prop:=Zq w w'/\(((kM S).1≠0/\Zr e (.tuple #[.pointer none,Zi (kM S).1,Zi ((kM S).2:Nat)]))\/((kM S).1=0/\(kM S).2=0/\∃kb mb sb pb qb bb tb,Zr e (.tuple #[Zp kb,Zi 0,Zi 0])/\w.heap.size<=kb/\ax (λk=>k<w.heap.size/\k≠0) w' kb mb sb pb qb bb tb (A2 S)))
theorem Mr {S:Sk} (h:S.n<1\/256<S.n\/eP S.ts≠0):kM S=(1,0):=by
 unfold kM;by_cases h1:S.n<1\/256<S.n
 ·rw[if_pos h1]
 ·rw[if_neg h1,if_pos (by rcases h with h|h|h;exact absurd (Or.inl h) h1;exact absurd (Or.inr h) h1;exact h)]
theorem Ic {S:Sk} (h1:1<=S.n) (h2:S.n<=256) (h3:eP S.ts=0):kM S=(jt S).2:=by
 unfold kM;rw[if_neg Zo,if_neg (by rw[h3];decide)]
theorem CM {α:Type} {st:Kn->α->Kn×Int} {q:Kn×Int×Nat} {l:List α} (hq:q.2.1=0->q.2.2=0):(aY st q l).2.1=0->(aY st q l).2.2=0:=by
 unfold aY
 split
 ·exact vJ st l q.1 0
 ·exact hq
theorem afs (S:Sk):(jt S).2.1=0->(jt S).2.2=0:=CM (CM (CM (CM (CM (vJ cj S.ob (rA S) 0)))))
theorem Qj (gg:mL w) (S:Sk) (hS:A5 S) {vt vo vb vc vm vr vi:Value} (di:vu w vt vo vb vc vm vr vi S):
  Zk 4 #[.agg #[Zi S.n,vt,Zu (S.c:Int),vo,vb,vc,vm,vr,vi]] w (TT w S):=by
 obtain⟨pt,ct,rfl,_⟩:=di.ts;obtain⟨mY,oy,aB,_⟩:=di.ob;obtain⟨kV,lV,cY,_⟩:=di.cP
 obtain⟨nh,oB,ew,_⟩:=di.cp;obtain⟨mZ,oz,ia,_⟩:=di.mp;obtain⟨mX,ox,Dt,_⟩:=di.th;obtain⟨na,oA,vd,_⟩:=di.iq;subst aB cY ew ia Dt vd;have T6:=aa (di.ob.u (λg o h1 h2=>C9 gg h2 h1 Zd)).2;have Uc:=aa (di.cP.u (λg o h1 h2=>ab1 gg h2 h1)).2;have Ua:=aa (di.cp.u (λg o h1 h2=>C9 gg h2 h1 Zd)).2;have T7:=aa (di.mp.u (λg o h1 h2=>C9 gg h2 h1 Zd)).2;have T5:=aa (di.th.u (λg o h1 h2=>C9 gg h2 h1 Zd)).2;have T9:=aa (di.iq.u (λg o h1 h2=>C9 gg h2 h1 Zd)).2;obtain⟨u4,kH,DO,Dr⟩:=di.ts.tu;obtain⟨w1,ag⟩:=Ze (w.alloc (.cells #[Zi S.n,.slice pt S.ts.length ct,Zu (S.c:Int),.slice mY S.ob.length oy,.slice kV S.cP.length lV,.slice nh S.cp.length oB,.slice mZ S.mp.length oz,.slice mX S.th.length ox,.slice na S.iq.length oA] 31));obtain⟨ob,az⟩:=Ze (w.heap.size);have aB:=Za ag;have cY:w1.heap[ob]?=some (.cells #[Zi S.n,.slice pt S.ts.length ct,Zu (S.c:Int),.slice mY S.ob.length oy,.slice kV S.cP.length lV,.slice nh S.cp.length oB,.slice mZ S.mp.length oz,.slice mX S.th.length ox,.slice na S.iq.length oA] 31 (0,0)):=by rw[ag,az];exact heap_alloc_last w _
 have Aj:w1.heap.size=w.heap.size+1:=by rw[ag];simp
 have ar:Hid (∀wv,Zq w1 wv->wv.cell? ⟨ob,0,none⟩=some (Zi S.n)/\wv.cell? ⟨ob,1,none⟩=some (.slice pt S.ts.length ct)/\wv.cell? ⟨ob,2,none⟩=some (Zu (S.c:Int))/\wv.cell? ⟨ob,3,none⟩=some (.slice mY S.ob.length oy)/\wv.cell? ⟨ob,4,none⟩=some (.slice kV S.cP.length lV)/\wv.cell? ⟨ob,5,none⟩=some (.slice nh S.cp.length oB)/\wv.cell? ⟨ob,6,none⟩=some (.slice mZ S.mp.length oz)/\wv.cell? ⟨ob,7,none⟩=some (.slice mX S.th.length ox)/\wv.cell? ⟨ob,8,none⟩=some (.slice na S.iq.length oA)):=λwv h=>by
  have h9:=ae.keep h cY (λh=>h);exact⟨Zl h9,Zl h9,Zl h9,Zl h9,Zl h9,Zl h9,Zl h9,Zl h9,Zl h9⟩
 have sd:=aa (afL (gg.quiet aB) S.n pt S.ts.length ct S.ts u4 kH DO (Dr.quiet aB) S.c (.slice mY S.ob.length oy) (.slice kV S.cP.length lV) (.slice nh S.cp.length oB) (.slice mZ S.mp.length oz) (.slice mX S.th.length ox) (.slice na S.iq.length oA));obtain⟨R,hR⟩:=Ze (TT w S);rw[<-hR]
 have sc:Hid (∀wv,Zq w1 wv->(S.n<1\/256<S.n\/eP S.ts≠0)->R (.returned (.tuple #[.pointer none,Zi 1,Zi 0])) wv):=λwv h1 h2=>by
  rw[hR];refine⟨aB.trans h1,Or.inl ?_⟩;rw[Mr h2];exact⟨Zd,rfl⟩
 have CD:Hid (1<=S.n->S.n<=256->eP S.ts=0->∀wv kb mb sb pb qb bb tb,Zq w1 wv->w1.heap.size<=kb->ax (λk=>k<w1.heap.size/\k≠0) wv kb mb sb pb qb bb tb (rA S)->Zk 9 #[Zp kb,.agg #[Zi S.n,.slice pt S.ts.length ct,Zu (S.c:Int),.slice mY S.ob.length oy,.slice kV S.cP.length lV,.slice nh S.cp.length oB,.slice mZ S.mp.length oz,.slice mX S.th.length ox,.slice na S.iq.length oA]] wv λe w'=>∃e2 n2,Zr e (.tuple #[Zi e2,Zi (n2:Int)])/\Hid ((e2≠0->R (.returned (.tuple #[.pointer none,Zi e2,Zi (n2:Int)])) w')/\(e2=0->R (.returned (.tuple #[Zp kb,Zi 0,Zi 0])) w'))):=λh1 h2 h3 wv kb mb sb pb qb bb tb h4 h5 h6=>by
  have gY:Ck S.ts 0 (S.ts.getD 0 (0,0)).2:=by
   obtain⟨U2,G,_,b,_⟩:=h6.sched;exact b
  refine(afG h6 (aE.start ⟨h1,h2⟩ gY) S hS S.n S.c (.slice pt S.ts.length ct) mY oy (((T6.j.up (λk hk=>⟨Zo,hk.2⟩)).wide aB).wide h4) kV lV (((Uc.j.up (λk hk=>⟨Zo,hk.2⟩)).wide aB).wide h4) nh oB (((Ua.j.up (λk hk=>⟨Zo,hk.2⟩)).wide aB).wide h4) mZ oz (((T7.j.up (λk hk=>⟨Zo,hk.2⟩)).wide aB).wide h4) mX ox (((T5.j.up (λk hk=>⟨Zo,hk.2⟩)).wide aB).wide h4) na oA (((T9.j.up (λk hk=>⟨Zo,hk.2⟩)).wide aB).wide h4)).m ?_;rintro e w' ⟨rfl,h7⟩;refine⟨_,_,rfl,λh0=>?_,λh0=>?_⟩
  ·rw[hR];have hO:Zq w w':=JN gg h7.j.1.ns (((aB.trans h4).f).trans (h7.j.2.mono (λk _ h8 h9=>h8 ⟨Zo,h9.2⟩)));refine⟨hO,Or.inl ?_⟩;rw[Ic h1 h2 h3];exact⟨h0,rfl⟩
  ·rw[hR];have hO:Zq w w':=JN gg h7.j.1.ns (((aB.trans h4).f).trans (h7.j.2.mono (λk _ h8 h9=>h8 ⟨Zo,h9.2⟩)));have h8:=h7.j.1;rw[if_pos h0] at h8;refine⟨hO,Or.inr ?_⟩;rw[Ic h1 h2 h3];exact⟨h0,afs S h0,kb,mb,sb,pb,qb,bb,tb,rfl,Zo,h8.thin (λk hk=>⟨Zo,hk.2⟩)⟩
 obtain⟨q0,q1,q2,q3,q4,q5,q6,q7,q8⟩:=ar.j _ (ae.refl _ _);clear gg hS di u4 kH DO Dr aB cY Aj hR T6 Uc Ua T7 T5 T9;go_enter func4,ntmps4;go_upto_region 1 with fail
 rw[<-ag,<-az];clear ag az;go_wp2_with fail;refine sd.j.m ?_;rintro e w2 ⟨aC,hq⟩;rcases hq with⟨Sj,rfl⟩|⟨h1,h2,h3,kb,mb,sb,pb,qb,bb,tb,rfl,dE,hk⟩
 ·have aL:=aa aC;have HE:=aa Sj;clear aC Sj q0 q1 q2 q3 q4 q5 q6 q7 q8;go_wp2_with fail
  all_goals
   first|(go_ret3;exact sc.j _ aL.j HE.j)|exact sc.j _ aL.j HE.j
 ·have HC:=aa (CD.j h1 h2 h3 _ _ _ _ _ _ _ _ aC dE hk);clear q0 q1 q2 q3 q4 q5 q6 q7 q8;obtain⟨q0,q1,q2,q3,q4,q5,q6,q7,q8⟩:=ar.j _ aC;clear aC h1 h2 h3 dE hk sd CD sc;go_wp2_with fail;refine HC.j.m ?_;rintro e w3 ⟨e2,n2,rfl,HF⟩;clear q0 q1 q2 q3 q4 q5 q6 q7 q8 HC;by_cases z:e2=0
  ·have HZ:=aa (HF.j.2 z);subst z;go_wp2_with fail
   all_goals
    first|(go_ret3;exact HZ.j)|exact HZ.j
  ·have HZ:=aa (HF.j.1 z);have y:(e2 !=0)=true:=by simpa using z
   clear z;go_wp2_with fail
   all_goals
    first|(go_ret3;exact HZ.j)|exact HZ.j
end
end Go.Proofs.YtphkconoooeidaaGreatDoor

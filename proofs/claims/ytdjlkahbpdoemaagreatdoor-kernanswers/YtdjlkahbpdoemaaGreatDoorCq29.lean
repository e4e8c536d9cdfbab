import Derived.Test.YtdjlkahbpdoemaaGreatDoorCq26
import Derived.Test.YtdjlkahbpdoemaaGreatDoorCq28
set_option maxRecDepth 100000
set_option maxHeartbeats 8000000
set_option linter.unusedVariables false
set_option linter.unusedSimpArgs false
open Go Go.Vx Go.Proofs.Tryz Go.ChangeShapes Go.WideShapes Go.ChangeAt Go.RowKit
namespace Go.Proofs.YtdjlkahbpdoemaaGreatDoor
def cH{α:Type}(f:Nat->List α):Nat->List α
 |0=>[]
 |n+1=>cH f n++f n
structure Pq where
 k:Nat
 cd:Nat->Z2
 dm:Nat->Nat
 pr:Nat->Int
 a:Int
 b:Int
 c:Int
def FC(i:Nat):List (Int×Int×Int):=[(4,5*i+1,0),(3,5*i+2,0),(2,5*i+3,0),(5,5*i+4,64),(6,5*i+5,0)]
def J2(i:Nat):List En:=[⟨(5*i+4,61),⟨4,5*i+1,7,0,0,0,0,0⟩,(-1,0)⟩,⟨(5*i+4,62),⟨3,5*i+2,7,0,0,0,0,0⟩,(-1,0)⟩,⟨(5*i+4,63),⟨2,5*i+3,7,0,0,0,0,0⟩,(-1,0)⟩,⟨(5*i+5,0),⟨5,5*i+4,7,0,0,26,0,0⟩,(-1,0)⟩,⟨(5*i+5,1),⟨4,5*i+1,7,0,0,0,0,0⟩,(-1,0)⟩,⟨(5*i+4,0),⟨7,0,7,Cy i,0,0,0,0⟩,(-1,0)⟩]
def zV(i:Nat):List Mp:=[⟨(5*i+4,62),5*i+1,0,0⟩,⟨(5*i+4,63),5*i+1,4096,5⟩]
def qg(P:Pq)(i:Nat):Tc:=⟨5*i+5,P.dm i,P.pr i,true,λ_=>0,4096⟩
def Mt(k:Nat):List (Int×Int×Int):=(7,0,0)::cH FC (k+1)
def cpW(k:Nat):List En:=cH J2 (k+1)
def pj(P:Pq):Sk:=⟨6+5*P.k,kI P.a P.b P.c,4094,Mt P.k,cH (λi=>[(4096*(5*i+3),P.cd i)]) (P.k+1),cpW P.k,cH zV (P.k+1),cH (λi=>[qg P i]) (P.k+1),[]⟩
def qN(n:Nat):Lp:=cH (λi=>[(5*(i:Int)+4,64),(5*(i:Int)+5,4)]) n
def DA(n:Nat):Lp:=(7,0)::cH (λi=>[(4,5*(i:Int)+1),(3,5*(i:Int)+2),(2,5*(i:Int)+3),(5,5*(i:Int)+4),(6,5*(i:Int)+5)]) n
def es1(i:Nat)(rt rf va:Int):List En:=[⟨(5*i+4,0),⟨7,0,7,Cy i,0,0,0,0⟩,(-1, -1)⟩,⟨(5*i+4,61),⟨4,5*i+1,7,0,0,0,0,0⟩,(-1, -1)⟩,⟨(5*i+4,62),⟨3,5*i+2,7,0,0,0,rt,0⟩,(-1, -1)⟩,⟨(5*i+4,63),⟨2,5*i+3,7,0,0,0,rf,va⟩,(-1, -1)⟩,⟨(5*i+5,0),⟨5,5*i+4,7,0,0,26,0,0⟩,(-1, -1)⟩,⟨(5*i+5,1),⟨4,5*i+1,7,0,0,0,0,0⟩,(-1, -1)⟩]
def dO(x n:Nat):List En:=cH (λi=>es1 i (if 2*i<x then 5*i+2 else 0) (if 2*i+1<x then 5*i+2 else 0) (if 2*i+1<x then 4096 else 0)) n
def tW(x n:Nat):List Kt:=cH (λi=>[if i<x then ⟨5*i+5,1, -1, -1,false,pk (λ_=>0),4096⟩ else qq (5*i+5)]) n
def mE(P:Pq)(x:Nat):List Et:=cH (λi=>[⟨5*i+5,P.dm i,P.pr i,5,i+1⟩]) x
def ew(P:Pq)(f:Nat->UInt8)(e:List En)(x:Nat):Kn:=⟨6+5*P.k,f,qN (P.k+1),e,DA (P.k+1),[],kI P.a P.b P.c,0,P.a,mE P x,x,⟨[⟨0,false,0⟩],[]⟩,tW x (P.k+1),List.replicate 8 BB,List.replicate 8 [],List.replicate 8 [],4094⟩
theorem ac9(n:Nat)(p:Int):(tV (λ_=>0) n p).1=λ_=>0:=by
 unfold tV
 split
 ·show yn (λ_=>0) p.toNat=_
  funext x
  unfold yn
  split<;>rfl
 rfl
theorem aoe{K:Kn}(h:K.f=λ_=>0)(o:Int×Int)(s:Int):(xM K o s).f=λ_=>0:=by
 unfold xM;rw[h,ac9];dsimp only
 split
 ·rfl
 split
 ·rfl
 split<;>rfl
theorem Xc{K:Kn}(h:K.f=λ_=>0)(x:Int×Int×Int):(dH K x).1.f=λ_=>0:=by
 unfold dH
 split
 ·exact h
 split
 ·dsimp only
  split
  ·exact h
  exact aoe (by exact h) _ _
 exact h
theorem Wd:∀(l:List (Int×Int×Int)) {K:Kn} (i:Nat),K.f=(λ_=>0)->(bf dH K l i).1.f=λ_=>0
 |[],K,i,h=>h
 |x::r,K,i,h=>by
  unfold bf
  split
  ·exact Wd r _ (Xc h x)
  exact Xc h x
theorem IK{K L:Kn}(hf:K.f=L.f)(h:(K.n,K.bs,K.es,K.os,K.rs,K.ts,K.t,K.lf,K.ss,K.ck,K.b,K.T,K.L,K.ci,K.co,K.c)=(L.n,L.bs,L.es,L.os,L.rs,L.ts,L.t,L.lf,L.ss,L.ck,L.b,L.T,L.L,L.ci,L.co,L.c)):K=L:=by
 obtain⟨⟩:=K;obtain⟨⟩:=L;simp only[Prod.mk.injEq] at h;obtain⟨rfl,rfl,rfl,rfl,rfl,rfl,rfl,rfl,rfl,rfl,rfl,rfl,rfl,rfl,rfl,rfl⟩:=h;subst hf;rfl
def kT(K:Kn):=(K.n,K.bs,K.es,K.os,K.rs,K.ts,K.t,K.lf,K.ss,K.ck,K.b,K.T,K.L,K.ci,K.co,K.c)
theorem aiB(P:Pq)(h1:1<=P.k)(d:P.k<=4):(kT (bf dH (BE (pj P)) (Mt P.k) 0).1,(bf dH (BE (pj P)) (Mt P.k) 0).2)=(kT (ew P (λ_=>0) [] 0),0,0):=by
 obtain⟨k,cd,dm,pr,a,b,c⟩:=P;dsimp only at h1 d;have:k=1\/k=2\/k=3\/k=4:=Z;clear h1 d;rcases this with rfl|rfl|rfl|rfl<;>(show _=_;kernel_rfl)
theorem aiA(P:Pq)(h1:1<=P.k)(a:P.k<=4):bf dH (BE (pj P)) (Mt P.k) 0=(ew P (λ_=>0) [] 0,0,0):=by
 have h:=aiB P h1 a;injection h with h b
 exact Prod.ext (IK (Wd _ _ rfl) h) b
theorem aoa(P:Pq)(h1:1<=P.k)(d:P.k<=4)(f:Nat->UInt8):bf dI (ew P f [] 0) (cpW P.k) 0=(ew P f (dO 0 (P.k+1)) 0,0,0):=by
 obtain⟨k,cd,dm,pr,a,b,c⟩:=P;dsimp only at h1 d;have:k=1\/k=2\/k=3\/k=4:=Z;clear h1 d;rcases this with rfl|rfl|rfl|rfl<;>(show _=_;kernel_rfl)
section
theorem Me{α:Type}(st:Kn->α->Kn×Int):∀(l1:List α) {l2:List α} {K K1:Kn} {i:Nat},bf st K l1 i=(K1,0,0)->∃x,bf st K (l1++l2) i=bf st K1 l2 x
 |[],l2,K,K1,i,h=>by
  injection h with h _
  subst h
  exact⟨i,rfl⟩
 |a::r,l2,K,K1,i,h=>by
  unfold bf at h;by_cases b:(st K a).2=0
  ·rw[if_pos b] at h;obtain⟨x,c⟩:=Me st r (l2:=l2) h;refine⟨x,?_⟩;rw[<-c];show bf st K (a::(r++l2)) i=_
   conv=>lhs;unfold bf
   rw[if_pos b]
  rw[if_neg b] at h;injection h with _ h
  injection h with h _
  exact absurd h b
theorem Bl(f:Nat->UInt8){a x:Nat}{l:Z2}(h:x<a\/a+l.length<=x):cQ f a l x=f x:=by
 unfold cQ;rw[if_neg Z]
theorem Im(f:Nat->UInt8){a x:Nat}{l:Z2}(h:x<l.length):cQ f a l (a+x)=l.getD x 0:=by
 unfold cQ;rw[if_pos Z,show a+x - a=x from Z]
theorem LM(f:Nat->UInt8){a x:Nat}{l:Z2}(h:x+4<=a\/a+l.length<=x):bM (cQ f a l) x=bM f x:=by
 unfold bM;rw[Bl f Z,Bl f Z,Bl f Z,Bl f Z]
theorem aaK(x:Nat)(a:x<4294967296):x % 256+256*(x/256 % 256)+65536*(x/65536 % 256)+16777216*(x/16777216 % 256)=x:=Z
theorem ofNat_mod(x:Nat):(UInt8.ofNat (x % 256)).toNat=x % 256:=by
 rw[UInt8.toNat_ofNat'];omega
theorem US(f:Nat->UInt8)(a x:Nat)(c:x<4294967296):bM (cQ f a (eI x)) a=x:=by
 unfold bM;have b:=Im f (a:=a) (x:=0) (l:=eI x) (by show 0<4;decide);have e1:=Im f (a:=a) (x:=1) (l:=eI x) (by show 1<4;decide);have d:=Im f (a:=a) (x:=2) (l:=eI x) (by show 2<4;decide);have e:=Im f (a:=a) (x:=3) (l:=eI x) (by show 3<4;decide);rw[Nat.add_zero] at b;rw[b,e1,d,e];show(UInt8.ofNat (x % 256)).toNat+256*(UInt8.ofNat (x/256 % 256)).toNat+65536*(UInt8.ofNat (x/65536 % 256)).toNat+16777216*(UInt8.ofNat (x/16777216 % 256)).toNat=x;rw[ofNat_mod,ofNat_mod,ofNat_mod,ofNat_mod];exact aaK x c
theorem lH{p:Nat->Nat->Prop}(h:p 1 0/\p 1 1/\p 2 0/\p 2 1/\p 2 2/\p 3 0/\p 3 1/\p 3 2/\p 3 3/\p 4 0/\p 4 1/\p 4 2/\p 4 3/\p 4 4){k n:Nat}(h1:1<=k)(b:k<=4)(hn:n<=k):p k n:=by
 obtain⟨a0,c,a2,a3,a4,a5,d,e,f,a9,g,i,j,l⟩:=h;have hk:k=1\/k=2\/k=3\/k=4:=Z;have a:n=0\/n=1\/n=2\/n=3\/n=4:=Z;rcases hk with rfl|rfl|rfl|rfl<;>rcases a with rfl|rfl|rfl|rfl|rfl<;>first|assumption|omega
variable {P:Pq}
def vU(cd:Nat->Z2):Nat->Nat->UInt8
 |0=>λ_=>0
 |n+1=>cQ (vU cd n) (4096*(5*n+3)) (cd n)
theorem AG{cd:Nat->Z2}(a:∀i,(cd i).length<=4096):∀n x,(∀i,x/4096≠5*i+3)->vU cd n x=0
 |0,x,h=>rfl
 |n+1,x,h=>by
  have h1:=h n;have b:=a n;show cQ _ _ _ _=_;rw[Bl _ Z];exact AG a n x h
theorem abk{cd:Nat->Z2}(a:∀i,(cd i).length<=4096){i j:Nat}(b:j<(cd i).length):∀n,i<n->vU cd n (4096*(5*i+3)+j)=(cd i).getD j 0
 |0,h=>Z
 |n+1,h=>by
  have c:=a i;have d:=a n;show cQ _ _ _ _=_;by_cases e:i=n
  ·subst e;exact Im _ b
  rw[Bl _ Z];exact abk a b n Z
structure pZ(P:Pq)(x:Nat)(f:Nat->UInt8):Prop where
 cd:∀i,i<=P.k->∀j,j<(P.cd i).length->f (4096*(5*i+3)+j)=(P.cd i).getD j 0
 rt:∀i,i<=P.k->bM f (4096*(5*i+1))=if 2*i<x then 1024*(5*i+2)+1 else 0
 tb:∀i,i<=P.k->bM f (4096*(5*i+2)+4)=if 2*i+1<x then 1024*(5*i+3)+91 else 0
theorem pZ.start(a:∀i,(P.cd i).length<=4096):pZ P 0 (vU P.cd (P.k+1)):=by
 refine⟨λi hi j b=>abk a b _ Z,λi hi=>?_,λi hi=>?_⟩
 ·unfold bM;rw[AG a _ _ (λy=>Z),AG a _ _ (λy=>Z),AG a _ _ (λy=>Z),AG a _ _ (λy=>Z),if_neg Z];rfl
 unfold bM;rw[AG a _ _ (λy=>Z),AG a _ _ (λy=>Z),AG a _ _ (λy=>Z),AG a _ _ (λy=>Z),if_neg Z];rfl
theorem pZ.table{f:Nat->UInt8}{m:Nat}(h:pZ P (2*m) f)(hk:P.k<=4)(hm:m<=P.k)(c:∀i,(P.cd i).length<=4096):pZ P (2*m+1) (cQ f (4096*(5*m+1)) (eI (1024*(5*m+2)+1))):=by
 have b:∀x,(eI x).length=4:=λ_=>rfl
 refine⟨λi hi j d=>?_,λi hi=>?_,λi hi=>?_⟩
 ·have:=c i;rw[Bl _ (by rw[b];omega)];exact h.cd i hi j d
 ·by_cases e:i=m
  ·subst e;rw[US _ _ _ Z,if_pos Z]
  rw[LM _ (by rw[b];omega),h.rt i hi];by_cases a:2*i<2*m
  ·rw[if_pos a,if_pos Z]
  rw[if_neg a,if_neg Z]
 rw[LM _ (by rw[b];omega),h.tb i hi];by_cases a:2*i+1<2*m
 ·rw[if_pos a,if_pos Z]
 rw[if_neg a,if_neg Z]
theorem pZ.frame{f:Nat->UInt8}{m:Nat}(h:pZ P (2*m+1) f)(hk:P.k<=4)(hm:m<=P.k)(c:∀i,(P.cd i).length<=4096):pZ P (2*(m+1)) (cQ f (4096*(5*m+2)+4) (eI (1024*(5*m+3)+91))):=by
 have b:∀x,(eI x).length=4:=λ_=>rfl
 refine⟨λi hi j d=>?_,λi hi=>?_,λi hi=>?_⟩
 ·have:=c i;rw[Bl _ (by rw[b];omega)];exact h.cd i hi j d
 ·rw[LM _ (by rw[b];omega),h.rt i hi];by_cases a:2*i<2*m+1
  ·rw[if_pos a,if_pos Z]
  rw[if_neg a,if_neg Z]
 by_cases e:i=m
 ·subst e;rw[US _ _ _ Z,if_pos Z]
 rw[LM _ (by rw[b];omega),h.tb i hi];by_cases a:2*i+1<2*m+1
 ·rw[if_pos a,if_pos Z]
 rw[if_neg a,if_neg Z]
theorem abj(h1:1<=P.k)(d:P.k<=4)(e:∀i,(P.cd i).length<=4096):∀n,n<=P.k+1->bf dB (ew P (λ_=>0) [] 0) (cH (λi=>[(4096*(5*(i:Int)+3),P.cd i)]) n) 0=(ew P (vU P.cd n) [] 0,0,0)
 |0,_=>rfl
 |n+1,hn=>by
  obtain⟨x,f⟩:=Me dB _ (l2:=[(4096*(5*(n:Int)+3),P.cd n)]) (abj h1 d e n Z);show bf dB _ (_++[_]) 0=_;rw[f]
  have g:dJ (DA (P.k+1)) [] (2,5*(n:Int)+3)=true:=by
   obtain⟨k,cd,dm,pr,a,b,c⟩:=P;dsimp only at h1 d hn|-;clear f e;exact lH (p:=λk n=>dJ (DA (k+1)) [] (2,5*(n:Int)+3)=true) ⟨rfl,rfl,rfl,rfl,rfl,rfl,rfl,rfl,rfl,rfl,rfl,rfl,rfl,rfl⟩ h1 d Z
  have h:Ev (ew P (vU P.cd n) [] 0) (4096*(5*(n:Int)+3),P.cd n)=0:=by
   unfold Ev;have l:=e n;rw[if_neg];dsimp only;rw[show 4096*(5*(n:Int)+3)/4096=5*(n:Int)+3 from Z];rw[show dJ (ew P (vU P.cd n) [] 0).os (ew P (vU P.cd n) [] 0).rs (2,5*(n:Int)+3)=true from g];simp;omega
  have j:dB (ew P (vU P.cd n) [] 0) (4096*(5*(n:Int)+3),P.cd n)=(ew P (vU P.cd (n+1)) [] 0,0):=by
   unfold dB;rw[if_pos h];rfl
  unfold bf;rw[j];rfl
end
section
variable {P:Pq}{f:Nat->UInt8}{m:Nat}
theorem NI{n m c:Nat}(h:5*m+c<n):hasB n (5*(m:Int)+c)=true:=by
 unfold hasB;rw[decide_eq_true Z,decide_eq_true Z];rfl
theorem LV(m c:Nat):(5*(m:Int)+(c:Int)).toNat=5*m+c:=Z
theorem aju(hf:pZ P (2*m) f)(h1:1<=P.k)(a:P.k<=4)(hm:m<=P.k):dj (ew P f (dO (2*m) (P.k+1)) 0) ⟨(5*m+4,62),5*m+1,0,0⟩=(ew P (cQ f (4096*(5*m+1)) (eI (1024*(5*m+2)+1))) (dO (2*m+1) (P.k+1)) 0,0):=by
 have g1:aI (qN (P.k+1)) (dO (2*m) (P.k+1)) (5*m+4,62)=(⟨3,5*m+2,7,0,0,0,0,0⟩,0):=lH (p:=λk m=>aI (qN (k+1)) (dO (2*m) (k+1)) (5*m+4,62)=(⟨3,5*m+2,7,0,0,0,0,0⟩,0)) ⟨Zw,Zw,Zw,Zw,Zw,Zw,Zw,Zw,Zw,Zw,Zw,Zw,Zw,Zw⟩ h1 a hm;have g2:dJ (DA (P.k+1)) [] (4,5*m+1)=true:=lH (p:=λk m=>dJ (DA (k+1)) [] (4,5*m+1)=true) ⟨Zw,Zw,Zw,Zw,Zw,Zw,Zw,Zw,Zw,Zw,Zw,Zw,Zw,Zw⟩ h1 a hm;have g3:qu (dO (2*m) (P.k+1)) (5*m+4,62) ⟨3,5*m+2,7,0,0,0,0,0⟩=false:=lH (p:=λk m=>qu (dO (2*m) (k+1)) (5*m+4,62) ⟨3,5*m+2,7,0,0,0,0,0⟩=false) ⟨Zw,Zw,Zw,Zw,Zw,Zw,Zw,Zw,Zw,Zw,Zw,Zw,Zw,Zw⟩ h1 a hm;have g4:gO (qN (P.k+1)) (dO (2*m) (P.k+1)) (5*m+4,62) ⟨3,5*m+2,7,0,0,0,5*m+1+1,0⟩=dO (2*m+1) (P.k+1):=lH (p:=λk m=>gO (qN (k+1)) (dO (2*m) (k+1)) (5*m+4,62) ⟨3,5*m+2,7,0,0,0,5*m+1+1,0⟩=dO (2*m+1) (k+1)) ⟨Zw,Zw,Zw,Zw,Zw,Zw,Zw,Zw,Zw,Zw,Zw,Zw,Zw,Zw⟩ h1 a hm;have b:bM f (4096*(5*m+1))=0:=by rw[hf.rt m hm,if_neg Z]
 have d:ly f (6+5*P.k) (5*m+1) 0 (5*m+2)=(cQ f (4096*(5*m+1)) (eI (1024*(5*m+2)+1)),0):=by
  unfold ly;rw[show hasB (6+5*P.k) (5*(m:Int)+1)=true from NI (c:=1) Z,show hasB (6+5*P.k) (5*(m:Int)+2)=true from NI (c:=2) Z,if_pos (by rfl)];unfold xK jI;rw[show(5*(m:Int)+1).toNat=5*m+1 from LV m 1,show(5*(m:Int)+2).toNat=5*m+2 from LV m 2,show 4096*(5*m+1)+0/4194304*4=4096*(5*m+1) from Z,if_pos b]
 have e:ui (ew P f (dO (2*m) (P.k+1)) 0) (5*m+4,62) ⟨3,5*m+2,7,0,0,0,0,0⟩ (5*m+1) 0 0=(cQ f (4096*(5*m+1)) (eI (1024*(5*m+2)+1)),0):=by
  unfold ui;rw[show qu (ew P f (dO (2*m) (P.k+1)) 0).es (5*m+4,62) ⟨3,5*m+2,7,0,0,0,0,0⟩=false from g3,if_neg I,if_pos rfl];show((ly f (6+5*P.k) (5*m+1) 0 (5*m+2)).1,((ly f (6+5*P.k) (5*m+1) 0 (5*m+2)).2:Int))=_;rw[d];rfl
 unfold dj;dsimp only;rw[show aI (ew P f (dO (2*m) (P.k+1)) 0).bs (ew P f (dO (2*m) (P.k+1)) 0).es (5*m+4,62)=_ from g1,if_pos rfl,if_neg (by dsimp only;omega),show dJ (ew P f (dO (2*m) (P.k+1)) 0).os (ew P f (dO (2*m) (P.k+1)) 0).rs (4,5*m+1)=true from g2,if_neg I];unfold nG;rw[e,if_pos rfl];refine Prod.ext ?_ rfl;refine IK rfl ?_;show(_,_,gO (qN (P.k+1)) (dO (2*m) (P.k+1)) (5*m+4,62) ⟨3,5*m+2,7,0,0,0,5*m+1+1,0⟩,_)=_;rw[g4];rfl
theorem ajA(hf:pZ P (2*m+1) f)(h1:1<=P.k)(a:P.k<=4)(hm:m<=P.k):dj (ew P f (dO (2*m+1) (P.k+1)) 0) ⟨(5*m+4,63),5*m+1,4096,5⟩=(ew P (cQ f (4096*(5*m+2)+4) (eI (1024*(5*m+3)+91))) (dO (2*(m+1)) (P.k+1)) 0,0):=by
 have g1:aI (qN (P.k+1)) (dO (2*m+1) (P.k+1)) (5*m+4,63)=(⟨2,5*m+3,7,0,0,0,0,0⟩,0):=lH (p:=λk m=>aI (qN (k+1)) (dO (2*m+1) (k+1)) (5*m+4,63)=(⟨2,5*m+3,7,0,0,0,0,0⟩,0)) ⟨Zw,Zw,Zw,Zw,Zw,Zw,Zw,Zw,Zw,Zw,Zw,Zw,Zw,Zw⟩ h1 a hm;have g2:dJ (DA (P.k+1)) [] (4,5*m+1)=true:=lH (p:=λk m=>dJ (DA (k+1)) [] (4,5*m+1)=true) ⟨Zw,Zw,Zw,Zw,Zw,Zw,Zw,Zw,Zw,Zw,Zw,Zw,Zw,Zw⟩ h1 a hm;have g3:qu (dO (2*m+1) (P.k+1)) (5*m+4,63) ⟨2,5*m+3,7,0,0,0,0,0⟩=false:=lH (p:=λk m=>qu (dO (2*m+1) (k+1)) (5*m+4,63) ⟨2,5*m+3,7,0,0,0,0,0⟩=false) ⟨Zw,Zw,Zw,Zw,Zw,Zw,Zw,Zw,Zw,Zw,Zw,Zw,Zw,Zw⟩ h1 a hm;have g4:gO (qN (P.k+1)) (dO (2*m+1) (P.k+1)) (5*m+4,63) ⟨2,5*m+3,7,0,0,0,5*m+1+1,4096⟩=dO (2*(m+1)) (P.k+1):=lH (p:=λk m=>gO (qN (k+1)) (dO (2*m+1) (k+1)) (5*m+4,63) ⟨2,5*m+3,7,0,0,0,5*m+1+1,4096⟩=dO (2*(m+1)) (k+1)) ⟨Zw,Zw,Zw,Zw,Zw,Zw,Zw,Zw,Zw,Zw,Zw,Zw,Zw,Zw⟩ h1 a hm;have b:bM f (4096*(5*m+1))=1024*(5*m+2)+1:=by rw[hf.rt m hm,if_pos Z]
 have d:bM f (4096*(5*m+2)+4)=0:=by rw[hf.tb m hm,if_neg Z]
 have e:j8 f (6+5*P.k) (5*m+1) 4096 (5*m+3) 5=(cQ f (4096*(5*m+2)+4) (eI (1024*(5*m+3)+91)),0):=by
  have g:vy f (6+5*P.k) (5*m+1) 4096=some (5*m+2):=by
   unfold vy jI;rw[show 4096*(5*m+1)+4096/4194304*4=4096*(5*m+1) from Z,b,if_pos Z];exact congrArg some Z
  unfold j8;rw[show hasB (6+5*P.k) (5*(m:Int)+1)=true from NI (c:=1) Z,show hasB (6+5*P.k) (5*(m:Int)+3)=true from NI (c:=3) Z,if_pos (And.intro (by rfl) (by rfl)),if_pos (by rfl),show(5*(m:Int)+1).toNat=5*m+1 from LV m 1,show(5*(m:Int)+3).toNat=5*m+3 from LV m 3,g];dsimp only;unfold xK uJ;rw[show 4096*(5*m+2)+4096/4096 % 1024*4=4096*(5*m+2)+4 from Z,if_pos d];rfl
 have h:ui (ew P f (dO (2*m+1) (P.k+1)) 0) (5*m+4,63) ⟨2,5*m+3,7,0,0,0,0,0⟩ (5*m+1) 4096 5=(cQ f (4096*(5*m+2)+4) (eI (1024*(5*m+3)+91)),0):=by
  unfold ui;rw[show qu (ew P f (dO (2*m+1) (P.k+1)) 0).es (5*m+4,63) ⟨2,5*m+3,7,0,0,0,0,0⟩=false from g3,if_neg I,if_neg (by show¬(2:Int)=3;decide),if_neg (by show¬((5:Int)<0\/(7:Int)<5\/qh 5 7=false);decide)];show((j8 f (6+5*P.k) (5*m+1) 4096 (5*m+3) 5).1,((j8 f (6+5*P.k) (5*m+1) 4096 (5*m+3) 5).2:Int))=_;rw[e];rfl
 unfold dj;dsimp only;rw[show aI (ew P f (dO (2*m+1) (P.k+1)) 0).bs (ew P f (dO (2*m+1) (P.k+1)) 0).es (5*m+4,63)=_ from g1,if_pos rfl,if_neg (by dsimp only;omega),show dJ (ew P f (dO (2*m+1) (P.k+1)) 0).os (ew P f (dO (2*m+1) (P.k+1)) 0).rs (4,5*m+1)=true from g2,if_neg I];unfold nG;rw[h,if_pos rfl];refine Prod.ext ?_ rfl;refine IK rfl ?_;show(_,_,gO (qN (P.k+1)) (dO (2*m+1) (P.k+1)) (5*m+4,63) ⟨2,5*m+3,7,0,0,0,5*m+1+1,4096⟩,_)=_;rw[g4];rfl
theorem XD(hf:pZ P 0 f)(h1:1<=P.k)(a:P.k<=4)(b:∀i,(P.cd i).length<=4096):∀n,n<=P.k+1->∃g,pZ P (2*n) g/\bf dj (ew P f (dO 0 (P.k+1)) 0) (cH zV n) 0=(ew P g (dO (2*n) (P.k+1)) 0,0,0)
 |0,_=>⟨f,hf,rfl⟩
 |n+1,hn=>by
  obtain⟨g,hg,hr⟩:=XD hf h1 a b n Z;obtain⟨x,d⟩:=Me dj _ (l2:=zV n) hr;have e:=aju hg h1 a (show n<=P.k from Z);have c:=hg.table a (show n<=P.k from Z) b;have a2:=ajA c h1 a (show n<=P.k from Z);have h:=c.frame a (show n<=P.k from Z) b;refine⟨_,h,?_⟩;show bf dj _ (_++zV n) 0=_;rw[d];unfold zV bf;rw[e,if_pos rfl];unfold bf;rw[a2,if_pos rfl];rfl
theorem aee(f:Nat->UInt8)(h:P.dm m<3)(hp:0<=P.pr m/\P.pr m<=7)(h1:1<=P.k)(d:P.k<=4)(hm:m<=P.k)(e:List En):di (ew P f e m) (qg P m)=(ew P f e (m+1),0):=by
 obtain⟨k,cd,dm,pr,a,b,c⟩:=P;dsimp only at h1 d hm h hp;have i:∀(dm:Nat->Nat) (pr:Nat->Int),du (mE ⟨k,cd,dm,pr,a,b,c⟩ m) (5*m+5)=none:=λdm pr=>lH (p:=λk m=>du (mE ⟨k,cd,dm,pr,a,b,c⟩ m) (5*m+5)=none) ⟨Zw,Zw,Zw,Zw,Zw,Zw,Zw,Zw,Zw,Zw,Zw,Zw,Zw,Zw⟩ h1 d hm
 have j:da (tW m (k+1)) (5*m+5)=some m:=lH (p:=λk m=>da (tW m (k+1)) (5*m+5)=some m) ⟨Zw,Zw,Zw,Zw,Zw,Zw,Zw,Zw,Zw,Zw,Zw,Zw,Zw,Zw⟩ h1 d hm
 have g:jn (mE ⟨k,cd,dm,pr,a,b,c⟩ m) (5*m+5) (dm m) (pr m)=0:=by
  unfold jn;rw[if_neg Z,i];rfl
 have l:de (mE ⟨k,cd,dm,pr,a,b,c⟩ m) (5*m+5) (dm m) (pr m)=mE ⟨k,cd,dm,pr,a,b,c⟩ m++[⟨5*m+5,dm m,pr m,0,0⟩]:=if_pos g;have n:jw (mE ⟨k,cd,dm,pr,a,b,c⟩ m++[⟨5*m+5,dm m,pr m,0,0⟩]) (5*m+5)=0:=lH (p:=λk m=>jw (mE ⟨k,cd,dm,pr,a,b,c⟩ m++[⟨5*m+5,dm m,pr m,0,0⟩]) (5*m+5)=0) ⟨Zw,Zw,Zw,Zw,Zw,Zw,Zw,Zw,Zw,Zw,Zw,Zw,Zw,Zw⟩ h1 d hm;have o:nJ (mE ⟨k,cd,dm,pr,a,b,c⟩ m++[⟨5*m+5,dm m,pr m,0,0⟩]) m (5*m+5)=mE ⟨k,cd,dm,pr,a,b,c⟩ (m+1):=lH (p:=λk m=>nJ (mE ⟨k,cd,dm,pr,a,b,c⟩ m++[⟨5*m+5,dm m,pr m,0,0⟩]) m (5*m+5)=mE ⟨k,cd,dm,pr,a,b,c⟩ (m+1)) ⟨Zw,Zw,Zw,Zw,Zw,Zw,Zw,Zw,Zw,Zw,Zw,Zw,Zw,Zw⟩ h1 d hm;have q:(tW m (k+1)).getD m .df=qq (5*m+5):=lH (p:=λk m=>(tW m (k+1)).getD m .df=qq (5*m+5)) ⟨Zw,Zw,Zw,Zw,Zw,Zw,Zw,Zw,Zw,Zw,Zw,Zw,Zw,Zw⟩ h1 d hm;have r:(tW m (k+1)).set m ⟨5*m+5,1, -1, -1,false,pk (λ_=>0),4096⟩=tW (m+1) (k+1):=lH (p:=λk m=>(tW m (k+1)).set m ⟨5*m+5,1, -1, -1,false,pk (λ_=>0),4096⟩=tW (m+1) (k+1)) ⟨Zw,Zw,Zw,Zw,Zw,Zw,Zw,Zw,Zw,Zw,Zw,Zw,Zw,Zw⟩ h1 d hm;unfold di qg ew;dsimp only;rw[j];dsimp only;rw[if_pos g,l,q,if_pos ⟨rfl,by show¬(0:Int)=1;decide⟩,n,if_pos rfl,if_pos rfl,o];show(_,_)=_;refine Prod.ext (IK rfl ?_) rfl;show(_,_,_,_,_,_,_,_,_,_,_,(tW m (k+1)).set m ⟨5*m+5,1, -1, -1,false,pk (λ_=>0),4096⟩,_)=_;rw[r]
theorem Vi(f:Nat->UInt8)(a:∀i,P.dm i<3)(hp:∀i,0<=P.pr i/\P.pr i<=7)(h1:1<=P.k)(b:P.k<=4)(e:List En):∀n,n<=P.k+1->bf di (ew P f e 0) (cH (λi=>[qg P i]) n) 0=(ew P f e n,0,0)
 |0,_=>rfl
 |n+1,hn=>by
  obtain⟨x,c⟩:=Me di _ (l2:=[qg P n]) (Vi f a hp h1 b e n Z);show bf di _ (_++[_]) 0=_;rw[c];unfold bf;rw[aee f (a n) (hp n) h1 b Z e];rfl
theorem agu(h1:1<=P.k)(d:P.k<=4):qj (mE P (P.k+1)) ((tW (P.k+1) (P.k+1)).map (·.num))=mE P (P.k+1):=by
 obtain⟨k,cd,dm,pr,a,b,c⟩:=P;dsimp only at h1 d;have:k=1\/k=2\/k=3\/k=4:=Z;clear h1 d;rcases this with rfl|rfl|rfl|rfl<;>(show _=_;kernel_rfl)
theorem adH{a b c:Int}(ha:1<=a/\a<=9)(hb:1<=b/\b<=9)(d:1<=c/\c<=9):jN (kI a b c)=0:=by
 have e:(kI a b c).all lZ=true:=by
  simp[kI,lZ];omega
 unfold jN;rw[e];exact if_neg (by show¬(3<1\/16<3\/true=false);decide)
theorem aoP(d:∀i,P.dm i<3)(hp:∀i,0<=P.pr i/\P.pr i<=7)(h1:1<=P.k)(a:P.k<=4)(b:∀i,(P.cd i).length<=4096)(ha:1<=P.a/\P.a<=9)(hb:1<=P.b/\P.b<=9)(e:1<=P.c/\P.c<=9):∃g,pZ P (2*(P.k+1)) g/\xN (pj P)=(0,0)/\Tz (pj P)=ew P g (dO (2*(P.k+1)) (P.k+1)) (P.k+1):=by
 obtain⟨g,hg,hr⟩:=XD (pZ.start b) h1 a b (P.k+1) (Nat.le_refl _)
 have c:Ew (pj P)=(ew P g (dO (2*(P.k+1)) (P.k+1)) (P.k+1),0,0):=by
  unfold Ew;rw[show bf dH (BE (pj P)) (pj P).ob 0=_ from aiA P h1 a];rw[show bO dB (ew P (λ_=>0) [] 0,0,0) (pj P).eM=_ from abj h1 a b (P.k+1) (Nat.le_refl _)];rw[show bO dI (ew P (vU P.cd (P.k+1)) [] 0,0,0) (pj P).cp=_ from aoa P h1 a _];rw[show bO dj (ew P (vU P.cd (P.k+1)) (dO 0 (P.k+1)) 0,0,0) (pj P).mp=_ from hr];rw[show bO di (ew P g (dO (2*(P.k+1)) (P.k+1)) 0,0,0) (pj P).th=_ from Vi g d hp h1 a _ (P.k+1) (Nat.le_refl _)];rfl
 refine⟨g,hg,?_,?_⟩
 ·unfold xN;rw[if_neg (by show¬(6+5*(P.k:Int)<1\/256<6+5*(P.k:Int));omega),show jN (pj P).ts=0 from adH ha hb e,if_neg (λh=>h rfl),c]
 unfold Tz;rw[c];unfold Gu;refine IK rfl ?_;show(_,_,_,_,_,_,_,_,qj (mE P (P.k+1)) ((tW (P.k+1) (P.k+1)).map (·.num)),_)=_;rw[agu h1 a];rfl
end
section
variable {kb mb sb pb qb bb tb:Nat}{U V S:Z1}{w wv w1 w2:Z0}{K0 K K2:Kn}{D:DataW Value}{ks:List Int}{G:Int->Nat}
variable {P:Pm}{j:Nat->Nat}{st:Nat->Int}{q:List Nat}{m:Sm}{c:Nat}
theorem YB{α:Type}{p:α->Bool}:∀{l:List α} {k:Nat},(∀a∈l,p a=false)->dL p l k=none
 |[],k,h=>rfl
 |a::l,k,h=>by
  unfold dL;rw[if_neg (by rw[h a List.mem_cons_self];decide)];exact YB (λb hb=>h b (List.mem_cons_of_mem _ hb))
theorem QR{ws:List Wt}{n:Int}(h:∀x∈ws,x.bL≠n):iS ⟨[⟨0,false,0⟩],ws⟩ 0 false n=0:=by
 have e:tF ws n=none:=YB (λa ha=>decide_eq_false (h a ha));show(if false≠false then (6:Int) else if (tF ws n).isSome=true then 16 else 0)=0;rw[if_neg (λh=>h rfl),e];rfl
theorem afF{n:Int}(ms:Ms)(h:∀x∈q.map (kj P j),x.bL≠n):sH ⟨[⟨0,false,0⟩],q.map (kj P j)⟩ 0 n 3 ms=lD/\rl ⟨[⟨0,false,0⟩],q.map (kj P j)⟩ 0 n 3 ms=⟨[⟨0,false,0⟩],q.map (kj P j)++[⟨0,n,3,ms⟩]⟩:=by
 have hm:=QR h
 have hg:xI ⟨[⟨0,false,0⟩],q.map (kj P j)⟩ 0=none:=by
  cases q with
  |nil=>rfl
  |cons c q=>rfl
 constructor
 ·unfold sH;rw[if_neg I,hm,if_neg (λh=>h rfl),hg];rfl
 unfold rl;rw[if_neg I,hm,if_neg (λh=>h rfl),hg];rfl
theorem afG{n:Int}(ms:Ms)(hn:aD 0≠n):sH ⟨[⟨0,false,0⟩],[⟨0,aD 0,4,mg⟩]⟩ 0 n 3 ms=yG (aD 0) 3 ms/\rl ⟨[⟨0,false,0⟩],[⟨0,aD 0,4,mg⟩]⟩ 0 n 3 ms=⟨[⟨0,false,0⟩],[]⟩:=by
 have hm:iS ⟨[⟨0,false,0⟩],[⟨0,aD 0,4,mg⟩]⟩ 0 false n=0:=QR (λx a=>by rw[List.mem_singleton] at a;rw[a];exact hn);constructor
 ·unfold sH;rw[if_neg I,hm,if_neg (λh=>h rfl)];rfl
 unfold rl;rw[if_neg I,hm,if_neg (λh=>h rfl)];rfl
def qR(m:Sm):Prop:=∀W p,m≠ .get W p
def EC(P:Pm)(K0:Kn)(U:Z1)(w:Z0)(kb mb sb pb qb bb tb:Nat)(D:DataW Value)(ks:List Int)(G:Int->Nat)(K:Kn)(j:Nat->Nat)(st:Nat->Int)(m:Sm)(e:Ending)(w':Z0):Prop:=
 ∃v K' j' mD q' m',Zr e v/\aq U w' kb mb sb pb qb bb tb D ks G K'/\Zn U w w'/\KI P K0 K' j' mD q' m'/\qR m'/\((K'=bJ K/\j'=j/\mD=st/\m'=m/\∀i,i<=P.k->P.dm i=kH K.ts K.t K.lf->st i≠1)\/fV P j' mD m'+1<=fV P j st m)
theorem Qt(p:Nat):vG (p+1)=((4096+4*p+4:Nat):Int):=by unfold vG;omega
theorem ae8(b:j0 P)(r:Env P K0)(hk:aq U w kb mb sb pb qb bb tb D ks G K)(hv:oh U w)(h:KI P K0 K j st q m)(hm:qR m)(k:c<P.k)(hN:nC K=aD (c+1))(h1:st (c+1)=1)(l:j c<17*(P.Q c).m)(n:j c % 17≠12):Zk 12 #[M kb] w (EC P K0 U w kb mb sb pb qb bb tb D ks G K j st m):=by
 obtain⟨A,gr,d⟩:=h.cl c k;rw[h1] at d;have B:=(b.Q c).m;obtain⟨rc,f,s⟩:=h.FD b r (i:=c+1) Z hN (R:=RC (P.Q c) (j c)) (pc:=4096+4*j c) (by rw[d];rfl) (by rw[d];rfl) Z (CI _ (b.Q c) _ Z);obtain⟨a,ha,o⟩:=s (j c) (by show _<17*_+1;omega);have t:pS (P.Q c) (j c)=(vD (j c/17) ((P.Q c).A (j c/17)) ((P.Q c).B (j c/17))).getD (j c % 17) pw:=if_pos l;have g:=Ws (j c/17) ((P.Q c).A (j c/17)) ((P.Q c).B (j c/17)) (j c % 17) Z n;dsimp only at g;rw[<-t] at g;have hs:=Fg (R:=RC (P.Q c) (j c)) ha o (by show(pS (P.Q c) (j c)).op≠0;omega);rw[show DQ P (c+1) (j c)=pS (P.Q c) (j c) from rfl,Tj g Z Z] at hs
 have u:RC (P.Q c) (j c+1)=jm (pS (P.Q c) (j c)) (RC (P.Q c) (j c)):=by
  show Br _ _ _=_;unfold Br;rw[if_neg Z]
 rw[<-u] at hs;obtain⟨p,x⟩:=h.next.aol k h1 l n;refine(f.plain hk hv ⟨a,ha,by rw[o];show oX (pS (P.Q c) (j c)).op;unfold oX;omega⟩ hs rfl).m ?_;rintro e C ⟨v,rfl,y,z⟩;refine⟨v,_,eJ j c (j c+1),st,q,m,rfl,y,z,?_,hm,Or.inr (Nat.le_of_eq x)⟩;rw[Qt,show aw (bJ K) (c+1)=K.T[c+1]'f.hi from dQ f.hi] at p;exact p
theorem ae7(b:j0 P)(k:Env P K0)(hk:aq U w kb mb sb pb qb bb tb D ks G K)(hv:oh U w)(h:KI P K0 K j st q m)(hm:qR m)(l:c<P.k)(hN:nC K=aD (c+1))(h1:st (c+1)=1)(n:j c=17*(P.Q c).m):Zk 12 #[M kb] w (EC P K0 U w kb mb sb pb qb bb tb D ks G K j st m):=by
 obtain⟨y,gr,d⟩:=h.cl c l;rw[h1] at d;have z:=(b.Q c).m;obtain⟨rc,f,o⟩:=h.FD b k (i:=c+1) Z hN (R:=RC (P.Q c) (j c)) (pc:=4096+4*j c) (by rw[d];rfl) (by rw[d];rfl) Z (CI _ (b.Q c) _ Z);obtain⟨a,ha,g⟩:=o (j c) (by show _<17*_+1;omega);have p:DQ P (c+1) (j c)=pw:=if_neg Z;rw[p] at g;have hs:=Fg (R:=RC (P.Q c) (j c)) ha g I;obtain⟨r,s⟩:=h.next.aok l h1 n;have t:(K.T[c+1]'f.hi).num=aD (c+1):=by rw[<-dQ f.hi];exact(h.num Z).1
 refine(f.stop hk hv (tv:=4096+4*j c) ⟨a,ha,by rw[g];show oX 40;unfold oX;omega⟩ hs (by rw[t];exact(k.of h.fx).flt _ Z) rfl).m ?_;rintro e A ⟨v,rfl,u,x⟩;exact⟨v,_,j,eJ st (c+1) 0,q,m,rfl,u,x,r,hm,Or.inr (Nat.le_of_eq s)⟩
theorem aon{Q:Qn}{j:Nat}(a:j<17*Q.m)(b:j % 17=12):pS Q j=⟨39,0,0,0,0⟩:=by
 have e:=Tv Q (q:=j/17) (r:=12) Z Z;rw[show 17*(j/17)+12=j from Z] at e;rw[e];rfl
theorem abN{Q:Qn}(d:uY Q){j:Nat}(e:j<17*Q.m)(f:j % 17=12):RC Q j 10=0/\RC Q j 16=4294967295/\RC Q j 17=3:=by
 obtain⟨a,_,_,_,b,c,_⟩:=abL Q d (q:=j/17) Z;rw[show 17*(j/17)+12=j from Z] at a b c;exact⟨a,b,c⟩
theorem ae9(t:j0 P)(hE:Env P K0)(hk:aq U w kb mb sb pb qb bb tb D ks G K)(hv:oh U w)(h:KI P K0 K j st q m)(hm:qR m)(hc:c<P.k)(hN:nC K=aD (c+1))(h1:st (c+1)=1)(hj:j c<17*(P.Q c).m)(kc:j c % 17=12):Zk 12 #[M kb] w (EC P K0 U w kb mb sb pb qb bb tb D ks G K j st m):=by
 obtain⟨ey,gr,ek⟩:=h.cl c hc;rw[h1] at ek;have ZE:=(t.Q c).m;obtain⟨Fu,Qf,Dw⟩:=abN (t.Q c) hj kc;obtain⟨rc,k,xF⟩:=h.FD t hE (i:=c+1) Z hN (R:=RC (P.Q c) (j c)) (pc:=4096+4*j c) (by rw[ek];rfl) (by rw[ek];rfl) Z (CI _ (t.Q c) _ Z);obtain⟨a,ha,C⟩:=xF (j c) (by show _<17*_+1;omega);rw[show DQ P (c+1) (j c)=pS (P.Q c) (j c) from rfl,aon hj kc] at C;have hs:jK K.f K.n rc.num (RC (P.Q c) (j c)) (4096+4*j c)=.error (8,0):=Fg (R:=RC (P.Q c) (j c)) ha C I;have F:=hE.of h.fx;obtain⟨cc,c1,s,Eg,iC,aT⟩:=F.cap (c+1) Z;have hT:K.T[c+1]'k.hi=J1 (P.Q c) c (j c) 1 gr:=by rw[<-dQ k.hi];exact ek
 have cJ:(K.T[c+1]'k.hi).num=aD (c+1):=by rw[hT];rfl
 obtain⟨i1,i2⟩:=DD t (i:=c+1) Z;obtain⟨i3,i4⟩:=DD t (i:=0) Z
 -- the kernel behind Pc,and behind what ad granted
 obtain⟨t1,N⟩:=Ze ({K.T[c+1]'k.hi with pc:=((4096+4*j c+4:Nat):Int)}:Kt);obtain⟨KP,Q⟩:=Ze (ba (bJ K) (c+1) t1);have D8:c+1<(bJ K).T.length:=k.hi;obtain⟨Ca,eP⟩:∃Ca:c+1<KP.T.length,KP.T[c+1]=t1:=by rw[Q];exact A9 D8 t1
 obtain⟨t2,S⟩:=Ze ({t1 with gr:=true}:Kt);obtain⟨K1,cK⟩:=Ze (ba KP (c+1) {KP.T[c+1] with gr:=true});have l:K1=ba (bJ K) (c+1) t2:=by rw[cK,eP,Q,Pg,S]
 obtain⟨iX,e1⟩:∃iX:c+1<K1.T.length,K1.T[c+1]=t2:=by rw[l];exact A9 D8 t2
 have rI:t1.num=aD (c+1):=by rw[N];exact cJ
 have g:t2.num=aD (c+1):=by rw[S];exact rI
 have RE:t1.rg=iH (RC (P.Q c) (j c)):=by rw[N,hT];rfl
 have Nh:pn KP.T[c+1] c1.bh=qt (P.Q c) (j c) c:=by
  unfold pn;rw[eP,RE,aT];rfl
 have aa:da (bJ K).T (aD (c+1))=some (c+1):=h.da Z;have rP:da K1.T (aD (c+1))=some (c+1):=by rw[l];exact Vj aa g
 have xd:K.b.ws.length<1000000:=by
  rw[h.ws];show(if _ then _ else _:List Wt).length<_
  split
  ·decide
  rw[List.length_map]
  have:q.length<=P.k:=by
   have f:=yI q (List.range P.k) h.qn (λx k=>List.mem_range.2 ((h.qi x).1 k).1)
   rwa[List.length_range] at f
  have:=t.k;omega
 have u:K1.b=K.b:=by rw[l];rfl
 have qM:K1.T[c+1].rg 16=4294967295:=by
  rw[e1,S];show t1.rg 16=_;rw[RE];show((RC (P.Q c) (j c) 16:Nat):Int)=_;rw[Qf];rfl
 -- what the call makes of it
 suffices hq:∃KE y q' T,(∀V wv,aq V wv kb mb sb pb qb bb tb D ks G K1->Zk 62 #[M kb,.pointer (some ⟨G K1.T[c+1].num,0,none⟩),O 0,O 3,mL (qt (P.Q c) (j c) c)] wv λx w'=>x=.returned (O 0)/\aq V w' kb mb sb pb qb bb tb D ks G KE/\Zn V wv w')/\KI P K0 KE j y q' T/\qR T/\fV P j y T+1<=fV P j st m/\(y (c+1)=3\/y (c+1)=5) by
  obtain⟨KE,y,q',T,I3,r,z,k3,X⟩:=hq;refine(k.call hk hv ⟨a,ha,by rw[C];show oX 39;unfold oX;omega⟩ hs (KP:=KP) (KE:=KE) (by rw[Q,N]) F.c F.L F.ci F.co 3 154 (by rw[Dw];rfl) (Or.inl ⟨rfl,rfl⟩) (λV wv f=>?_) (by rw[r.len,h.len]) (by rw[(r.num Z).1,cJ]) (by rw[(r.num Z).2];rcases X with X|X;exact Or.inr (Or.inl X);exact Or.inr (Or.inr (Or.inr X)))).m ?_
  ·have e9:KP.T[c+1].num=aD (c+1):=by rw[eP];exact rI
   have o:=afH f Ca (c:=cc) (c1:=c1) (s:=s) (by rw[e9,show KP.bs=K.bs by rw[Q];rfl,show KP.es=K.es by rw[Q];rfl];exact Eg) (by rw[eP,RE];show((RC (P.Q c) (j c) 10:Nat):Int)=0;rw[Fu];rfl) (KE:=KE) (λV2 w2 h7=>by
    rw[<-cK] at h7;have h6:=I3 V2 w2 h7;rw[e1,g] at h6;rw[Nh,iC,e9]
    exact h6)
   rw[e9] at o;rw[cJ];exact aoC o (λe w' f=>f.1)
  rintro e w' ⟨v,rfl,h6,h7⟩;exact⟨v,KE,j,y,q',T,rfl,h6,h7,r,z,Or.inr k3⟩
 by_cases A:m.s=4
 ·
  have hW:∃W p,m=.dD W p:=by
   cases m using Sm.cs with
   |nK p=>exact absurd A (show¬(1:Int)=4 from I)
   |dD W p=>exact⟨W,p,rfl⟩
   |mF d p=>exact absurd A (show¬(1:Int)=4 from I)
   |jmp d=>exact absurd A (show¬(1:Int)=4 from I)
   |get W p=>exact absurd A (show¬(1:Int)=4 from I)
  obtain⟨W,p,rfl⟩:=hW;obtain⟨gr0,es⟩:=h.sv;have oN:0<K.T.length:=by rw[h.len];omega
  have B:K.b=⟨[⟨0,false,0⟩],[⟨0,aD 0,4,mg⟩]⟩:=h.ws;obtain⟨s1,s2⟩:=afG (n:=aD (c+1)) (qt (P.Q c) (j c) c) (λe=>by have:=IB e;omega);have fm:∀x,aw K1 x=if x=c+1 then t2 else aw K x:=λx=>by rw[l];exact lG D8 t2 x
  have fQ:0<K1.T.length:=Z;have e0:K1.T[0]=aw K 0:=by rw[<-dQ fQ,fm,if_neg Z]
  have n0:K1.T[0].num=aD 0:=by rw[e0,es];rfl
  obtain⟨r,z⟩:=h.next.meets (c:=c) (K1:={K1 with b:=⟨[⟨0,false,0⟩],[]⟩}) (W:=W) (p:=p) (q2:=[]) (gr0:=gr0) (gr1:=true) hc rfl h.ok.1 h.ok.2 (by rw[l];exact⟨rfl,rfl,rfl,rfl,rfl,rfl,rfl,rfl,rfl,rfl,rfl⟩) (by show K1.T.length=_;rw[l,km];exact h.len) (by rw[l];exact⟨rfl,rfl,rfl,rfl⟩)
   (by show aw K1 0=_;rw[fm,if_neg Z];exact es) (Or.inl h1) ⟨hj,kc⟩ (by show aw K1 (c+1)=_;rw[fm,if_pos rfl,S,N,hT,h1,Qt];rfl) (λx o f=>by show aw K1 x=_;rw[fm,if_neg f];rfl) rfl List.nodup_nil (λd=>by rw[h.qe rfl];constructor;intro f;cases f;intro f;cases f.1)
  refine⟨_,_,_,_,λV wv f=>?_,r,?_,?_,Or.inr (iF _ _ _)⟩
  ·have o:=afJ f iX fQ Z (by rw[e1,g];exact i1) (by rw[e1,g];exact rP) (by rw[n0];exact i3) (by rw[n0,l];rw[show aD 0=aD 0 from rfl];exact(LX (Dt D8 (by rw[g];exact cJ.symm)) _).trans (h.da Z)) (by rw[n0,e1,g];exact⟨i4,i2⟩) (by rw[e0,es];rfl) qM (by rw[u];exact xd) 0 (by unfold af;decide) (qt (P.Q c) (j c) c) (by rw[u,B,e1,g,n0];exact s1);rw[u,B,e1,g,s2] at o;rw[e1,g];exact o
  ·unfold ua
   split
   ·intro W p f;cases f
   intro W p f;cases f
  rw[h1,if_pos rfl] at z;exact Nat.le_trans (by show _<=_+0+1;omega) z
 have B:K.b=⟨[⟨0,false,0⟩],q.map (kj P j)⟩:=by rw[h.ws,if_neg A]
 have ab:c∉q:=λe=>by have:=(h.qi c).1 e;omega
 obtain⟨s1,s2⟩:=afF (P:=P) (j:=j) (q:=q) (n:=aD (c+1)) (qt (P.Q c) (j c) c) (λx k e=>by
  obtain⟨d,C,rfl⟩:=List.mem_map.1 k;have:d=c:=by have:=IB (show aD (d+1)=aD (c+1) from e);omega
  exact ab (by rw[<-this];exact C))
 obtain⟨r,z⟩:=h.next.aoj hc h1 hj kc A;refine⟨_,_,_,_,λV wv f=>?_,r,hm,Nat.le_of_eq z,Or.inl (iF _ _ _)⟩;have o:=afI f iX (by rw[e1,g];exact i1) (by rw[e1,g];exact rP) (by rw[u];exact xd) 0 (by unfold af;decide) (qt (P.Q c) (j c) c) (by rw[u,B,e1,g];exact s1);rw[u,B,e1,g,s2] at o;rw[e1,g]
 have e9:({ba (bJ K) (c+1) {aw (bJ K) (c+1) with pc:=vG (j c+1),gr:=true} with b:=⟨(bJ K).b.ps,(bJ K).b.ws++[kj P j c]⟩}:Kn)={K1 with b:=⟨[⟨0,false,0⟩],q.map (kj P j)++[⟨0,aD (c+1),3,qt (P.Q c) (j c) c⟩]⟩}:=by
  rw[l,S,N,Qt,show aw (bJ K) (c+1)=K.T[c+1]'k.hi from dQ k.hi,show(bJ K).b=K.b from rfl,B];rfl
 rw[e9];exact o
end
section
variable {kb mb sb pb qb bb tb:Nat}{U V S:Z1}{w wv w1 w2:Z0}{K0 K K2:Kn}{D:DataW Value}{ks:List Int}{G:Int->Nat}
variable {P:Pm}{j:Nat->Nat}{st:Nat->Int}{q:List Nat}{m:Sm}{c p:Nat}{W:Nat->Nat}
theorem KI.UU(h:KI P K0 K j st q m)(a:j0 P):K.b.ws.length<1000000:=by
 rw[h.ws];show(if _ then _ else _:List Wt).length<_
 split
 ·decide
 rw[List.length_map];have b:=yI q (List.range P.k) h.qn (λx c=>List.mem_range.2 ((h.qi x).1 c).1);rw[List.length_range] at b;have:=a.k;omega
theorem aef(x:Wt)(a:x∈q.map (kj P j)):x.bL≠aD 0:=λe=>by
 obtain⟨d,b,rfl⟩:=List.mem_map.1 a;have:=IB (show aD (d+1)=aD 0 from e);omega
theorem get_none:uH ⟨[⟨0,false,0⟩],[]⟩ 0 (aD 0) true=lD/\tC ⟨[⟨0,false,0⟩],[]⟩ 0 (aD 0) true=⟨[⟨0,false,0⟩],[]++[⟨0,aD 0,4,mg⟩]⟩:=⟨rfl,rfl⟩
theorem aaw(d:Nat)(q:List Nat):uH ⟨[⟨0,false,0⟩],(d::q).map (kj P j)⟩ 0 (aD 0) true=yG (aD (d+1)) 3 (qt (P.Q d) (j d) d)/\tC ⟨[⟨0,false,0⟩],(d::q).map (kj P j)⟩ 0 (aD 0) true=⟨[⟨0,false,0⟩],q.map (kj P j)⟩:=by
 have hm:iS ⟨[⟨0,false,0⟩],(d::q).map (kj P j)⟩ 0 false (aD 0)=0:=QR aef;constructor
 ·unfold uH;rw[hm,if_neg (λh=>h rfl)];rfl
 unfold tC;rw[hm,if_neg (λh=>h rfl)];rfl
theorem aaz(l:j0 P)(X:Env P K0)(h:KI P K0 K j st q (.get W p))(ky:W 10=0):∃KE Q q' w,(∀V wv,aq V wv kb mb sb pb qb bb tb D ks G K->Zk 155 #[M kb,.pointer (some ⟨G (aD 0),0,none⟩)] wv λx w'=>x=.returned (O 0)/\aq V w' kb mb sb pb qb bb tb D ks G KE/\Zn V wv w')/\KI P K0 KE j Q q' w/\qR w/\fV P j Q w+1<=fV P j st (.get W p)/\(((aw KE 0).st=1/\(aw KE 0).rg 10=0)\/(aw KE 0).st=4):=by
 have y:0<K.T.length:=by rw[h.len];omega
 obtain⟨gr,es⟩:=h.sv;have MY:st 0=1:=h.s0;have z:K.T[0]=Bc (-1) (st 0) gr W p:=by rw[<-dQ y];exact es
 have f:K.T[0].num=aD 0:=by rw[z];rfl
 obtain⟨cc,c1,s,R,u,aT⟩:=(X.of h.fx).cap 0 Z;obtain⟨i3,i4⟩:=DD l (i:=0) Z
 have S:K.T[0].rg 10=0:=by
  rw[z];show((W 10:Nat):Int)=0;rw[ky];rfl
 cases q with
 |nil=>
  have m:K.b=⟨[⟨0,false,0⟩],[]⟩:=h.ws;obtain⟨k,A⟩:=h.aeW;refine⟨_,_,_,_,λV wv a=>?_,k,(λW p a=>by cases a),Nat.le_of_eq A,Or.inr ((k.num Z).2.trans (iF _ _ _))⟩;have g:=amW a y (by rw[f];exact h.da Z) (c:=cc) (c1:=c1) (s:=s) (by rw[f];exact R) S (h.UU l) (by rw[u,f,m];exact get_none.1);rw[u,f] at g;refine aax ?_ (λe w' B=>B.1)
  have C:({K with b:=⟨K.b.ps,K.b.ws++[⟨0,aD 0,4,mg⟩]⟩}:Kn)={K with b:=tC K.b 0 (aD 0) true}:=by
   rw[m];rfl
  rw[C]
  exact g
 |cons d q=>
  have m:K.b=⟨[⟨0,false,0⟩],(d::q).map (kj P j)⟩:=h.ws;obtain⟨n,o⟩:=(h.qi d).1 List.mem_cons_self;obtain⟨ey,r,F⟩:=h.cl d n;have N:=ey.lh (Or.inl o);rw[o] at F;have T:d+1<K.T.length:=by rw[h.len];omega
  have t:K.T[d+1]=J1 (P.Q d) d (j d) 3 r:=by rw[<-dQ T];exact F
  have v:K.T[d+1].num=aD (d+1):=by rw[t];rfl
  obtain⟨i1,i2⟩:=DD l (i:=d+1) Z;obtain⟨Fu,Qf,Dw⟩:=abN (l.Q d) N.1 N.2;have U:=List.nodup_cons.1 h.qn
  obtain⟨k,A⟩:=h.meets (c:=d) (K1:={K with b:=⟨[⟨0,false,0⟩],q.map (kj P j)⟩}) (W:=W) (p:=p) (q2:=q) (gr0:=gr) (gr1:=r) n rfl h.ok.1 h.ok.2 ⟨rfl,rfl,rfl,rfl,rfl,rfl,rfl,rfl,rfl,rfl,rfl⟩ h.len ⟨rfl,rfl,rfl,rfl⟩ es (Or.inr o) N
   (by show aw K (d+1)=_;rw[F,o];rfl) (λx _ _=>rfl) rfl U.2 (λx=>by
    rw[List.mem_cons];constructor
    ·intro a;exact⟨Or.inr a,λe=>U.1 (by rw[<-e];exact a)⟩
    rintro⟨a|a,g⟩
    ·exact absurd a g
    exact a)
  refine⟨_,_,_,_,λV wv a=>?_,k,?_,?_,Or.inl ⟨?_,?_⟩⟩
  ·have g:=amX a y T Z (by rw[f];exact h.da Z) (by rw[v];exact i1) (by rw[v];exact h.da Z) (by rw[f,v];exact⟨i4,i2⟩) (by rw[z];rfl) (by rw[t];show((RC (P.Q d) (j d) 16:Nat):Int)=_;rw[Qf];rfl) (c:=cc) (c1:=c1) (s:=s) (by rw[f];exact R) S (h.UU l) (qt (P.Q d) (j d) d) (by rw[u,f,v,m];exact(aaw d q).1);rw[u,f,m,(aaw d q).2] at g;exact aax g (λe w' B=>B.1)
  ·unfold ua
   split
   ·intro W p a;cases a
   intro W p a;cases a
  ·have e1:(Sm.get W p).loc=1:=rfl;rw[o,if_neg I,e1] at A;omega
  ·rw[(k.num Z).2,dY _ _ Z,iF]
  obtain⟨g9,C⟩:=k.sv;rw[C];show((Sm.W P j (ua d p) 10:Nat):Int)=0;rw[(Vz (c:=d) (i:=P.k) (P:=P) (j:=j) h.ok.2).2.2.2.2.2.2];rfl
theorem apR(b:j0 P)(h:KI P K0 K j st q m)(hm:qR m)(h1:m.s=1):(∀x,m.W P j x<4294967296)/\m.p<20:=by
 cases m using Sm.cs with
 |nK p=>exact⟨abI p h.ok,by have:=h.ok;show p<20;unfold Sm.ok at this;omega⟩
 |dD W p=>exact absurd h1 (show¬(4:Int)=1 from I)
 |mF c p=>
  have a:=h.ok;have d:=((h.cl c a.1).1).lj;have hb:100+c<4294967296:=by have:=b.k;have:=a.1;omega
  exact⟨Om (CI _ (b.Q c) _ d) hb p a.2,by have:=a.2;show 7+p<20;omega⟩
 |jmp c=>
  have a:c<P.k:=h.ok;have d:=((h.cl c a).1).lj;have hb:100+c<4294967296:=by have:=b.k;omega
  exact⟨Om (CI _ (b.Q c) _ d) hb 0 I,by show 19<20;decide⟩
 |get W p=>exact absurd rfl (hm W p)
theorem PA:∀p,p<20->oX (jJ p).op:=by unfold oX;decide
theorem Pv(c:j0 P)(g:Env P K0)(hk:aq U w kb mb sb pb qb bb tb D ks G K)(hv:oh U w)(h:KI P K0 K j st q m)(hm:qR m)(hN:nC K=aD 0)(h1:m.s=1)(m2:Sm)(k:m2.s=1)(l:m2.dV=m.dV)(hu:m2.cu=m.cu)(n:m2.ok P.k)(hr:qR m2)(u:m2.loc+1<=m.loc)(o:(jJ m.p).op≠0)(hex:∀root,gK K.f K.n root (m.W P j) (4096+4*m.p) (jJ m.p).op.toNat (jJ m.p).rd.toNat (aO (m.W P j) (jJ m.p).bQ.toNat) (aO (m.W P j) (jJ m.p).bt.toNat) (jJ m.p).bu=.ok (K.f,m2.W P j,4096+4*m2.p)):Zk 12 #[M kb] w (EC P K0 U w kb mb sb pb qb bb tb D ks G K j st m):=by
 obtain⟨gr,es⟩:=h.sv;obtain⟨p,hp⟩:=apR c h hm h1;obtain⟨rc,b,r⟩:=h.FD c g (i:=0) Z hN (R:=m.W P j) (pc:=4096+4*m.p) (by rw[es];rfl) (by rw[es];rfl) Z p;obtain⟨a,ha,d⟩:=r m.p hp;have hs:=Fg (R:=m.W P j) ha d o;rw[show DQ P 0 m.p=jJ m.p from rfl,hex rc.num] at hs;obtain⟨f,x⟩:=h.next.Vy m2 h1 k l hu n;refine(b.plain hk hv ⟨a,ha,by rw[d];exact PA _ hp⟩ hs rfl).m ?_;rintro e y ⟨v,rfl,s,t⟩;refine⟨v,_,j,st,q,m2,rfl,s,t,?_,hr,Or.inr Z⟩;rw[show aw (bJ K) 0=K.T[0]'b.hi from dQ b.hi] at f;exact f
theorem Vw{x:Nat}(h:x<20)(a:x≠6)(b:x≠18)(c:x≠19):(jJ x).op=1\/(jJ x).op=19\/(jJ x).op=28\/(jJ x).op=41:=PB ⟨x,h⟩ a b c
theorem ae6(f:j0 P)(d:Env P K0)(hk:aq U w kb mb sb pb qb bb tb D ks G K)(hv:oh U w)(h:KI P K0 K j st q (.nK 6))(hN:nC K=aD 0):Zk 12 #[M kb] w (EC P K0 U w kb mb sb pb qb bb tb D ks G K j st (.nK 6)):=by
 obtain⟨gr,es⟩:=h.sv;obtain⟨o,p,g⟩:=apU;obtain⟨rc,b,r⟩:=h.FD f d (i:=0) Z hN (R:=SI 6) (pc:=4096+4*6) (by rw[es];rfl) (by rw[es];rfl) Z g.2;obtain⟨a,ha,k⟩:=r 6 (show 6<20 from I);have hs:jK K.f K.n rc.num (SI 6) (4096+4*6)=.error (8,0):=Fg (R:=SI 6) ha k (show(jJ 6).op≠0 from I);have c:=d.of h.fx;obtain⟨l,C⟩:=h.next.Vy (.get (SI 6) 7) rfl rfl rfl rfl ⟨g,Or.inl rfl⟩;have s:aw (bJ K) 0=K.T[0]'b.hi:=dQ b.hi;have m:K.T[0]'b.hi=Bc (-1) (st 0) gr (SI 6) 6:=by rw[<-dQ b.hi];exact es
 have t:({aw (bJ K) 0 with rg:=iH ((Sm.get (SI 6) 7).W P j),pc:=vG (Sm.get (SI 6) 7).p}:Kt)={K.T[0]'b.hi with pc:=((4096+4*6+4:Nat):Int)}:=by rw[s,m];rfl
 rw[t] at l;have n:(K.T[0]'b.hi).num=aD 0:=by rw[m];rfl
 obtain⟨KE,u,x,y,g1,g2,g3,g4,g5⟩:=aaz (kb:=kb) (mb:=mb) (sb:=sb) (pb:=pb) (qb:=qb) (bb:=bb) (tb:=tb) (D:=D) (ks:=ks) (G:=G) f d l o;have l1:(Sm.nK 6).loc=1:=rfl;have F:(Sm.get (SI 6) 7).loc=1:=rfl;refine(b.call hk hv ⟨a,ha,by rw[k];exact PA 6 I⟩ hs (KE:=KE) rfl c.c c.L c.ci c.co 4 155 (by rw[p];rfl) (Or.inr (Or.inl ⟨rfl,rfl⟩)) (λV wv z=>by rw[n];exact g1 V wv z) (by rw[g2.len,h.len]) (by rw[(g2.num Z).1,n]) (by rcases g5 with g5|g5;exact Or.inl g5;exact Or.inr (Or.inr (Or.inl g5)))).m ?_;rintro e N ⟨v,rfl,A,B⟩;exact⟨v,KE,j,u,x,y,rfl,A,B,g2,g3,Or.inr Z⟩
theorem ae2(g:j0 P)(n:Env P K0)(hk:aq U w kb mb sb pb qb bb tb D ks G K)(hv:oh U w)(h:KI P K0 K j st q (.mF c 11))(hN:nC K=aD 0):Zk 12 #[M kb] w (EC P K0 U w kb mb sb pb qb bb tb D ks G K j st (.mF c 11)):=by
 obtain⟨gr,es⟩:=h.sv;have A:c<P.k:=h.ok.1;obtain⟨ey,o,B⟩:=h.cl c A;have h5:st (c+1)=5:=(h.cu c A).2 rfl;rw[h5] at B;have hb:100+c<4294967296:=by have:=g.k;omega
 obtain⟨P1,P0,_,_,_,_,_,sB⟩:=TT (RC (P.Q c) (j c)) (CI _ (g.Q c) _ ey.lj) hb;obtain⟨X,d⟩:=Ze (SV (RC (P.Q c) (j c)) (100+c) 11);obtain⟨rc,b,xF⟩:=h.FD g n (i:=0) Z hN (R:=X) (pc:=4096+4*18) (by rw[es,d];rfl) (by rw[es];rfl) Z (by rw[d];exact sB.2);obtain⟨a,ha,C⟩:=xF 18 (show 18<20 from I);have hs:jK K.f K.n rc.num X (4096+4*18)=.error (8,0):=Fg (R:=X) ha C (show(jJ 18).op≠0 from I);have l:=n.of h.fx;have F:K.T[0]'b.hi=Bc (aD (c+1)) (st 0) gr X 18:=by rw[<-dQ b.hi,d];exact es
 have N:(K.T[0]'b.hi).num=aD 0:=by rw[F];rfl
 have Q:0<(bJ K).T.length:=b.hi;obtain⟨t1,p⟩:=Ze ({K.T[0]'b.hi with pc:=((4096+4*18+4:Nat):Int)}:Kt);obtain⟨KP,f⟩:=Ze (ba (bJ K) 0 t1);have r:∀x,aw KP x=if x=0 then t1 else aw K x:=λx=>by rw[f];exact lG Q t1 x
 have s:KP.T.length=P.k+1:=by rw[f,km];exact h.len
 have t:aw KP 0=Bc (aD (c+1)) (st 0) gr X 19:=by rw[r,if_pos rfl,p,F];rfl
 have e1:aw KP (c+1)=J1 (P.Q c) c (j c) 5 o:=by rw[r,if_neg Z];exact B
 have u:0<KP.T.length:=Z;have y:c+1<KP.T.length:=Z;obtain⟨S,k2⟩:=h.next.agx (K1:=KP) (gr0:=gr) g (by rw[f];exact Fx.up _ _ _) s (by rw[f];exact⟨rfl,rfl,rfl,rfl⟩) (by rw[f];rfl) (by rw[t,d]) (λx b=>by rw[r,if_neg b];rfl);rw[<-d] at S k2;obtain⟨KE,mD,q',m',g1,g2,g3,g4,g5⟩:=aaz (kb:=kb) (mb:=mb) (sb:=sb) (pb:=pb) (qb:=qb) (bb:=bb) (tb:=tb) (D:=D) (ks:=ks) (G:=G) g n S (by rw[d];exact P1);obtain⟨i1,i2⟩:=DD g (i:=c+1) Z;have n0:KP.T[0].num=aD 0:=by rw[<-dQ u,t];rfl
 have m:KP.T[c+1].num=aD (c+1):=by rw[<-dQ y,e1];rfl
 have hf:da KP.T (aD (c+1))=some (c+1):=by
  rw[f];exact(LX (Dt Q (by rw[p];rfl)) _).trans (h.da Z)
 refine(b.call hk hv ⟨a,ha,by rw[C];exact PA 18 I⟩ hs (KP:=KP) (KE:=KE) (by rw[f,p]) l.c l.L l.ci l.co 7 158 (by rw[d,P0];rfl) (Or.inr (Or.inr ⟨rfl,rfl⟩)) (λV wv h9=>?_) (by rw[g2.len,h.len]) (by rw[(g2.num Z).1,N]) (by rcases g5 with g5|g5;exact Or.inl g5;exact Or.inr (Or.inr (Or.inl g5)))).m ?_
 ·rw[N];have T:=agw h9 u y Z (by rw[m,<-dQ u,t];rfl) (by rw[m];exact i2) (by rw[<-dQ y,e1];rfl) (by rw[m];exact i1) (by rw[m];exact hf);rw[n0] at T;refine afE (T.m ?_) (λe W k=>k.1);rintro x w1 ⟨rfl,z,k⟩;refine⟨rfl,(g1 V w1 z).m ?_⟩;rintro e W ⟨rfl,ky,NR⟩;exact⟨rfl,ky,k.trans NR⟩
 rintro e W ⟨v,rfl,z,k⟩;exact⟨v,KE,eJ j c (j c+1),mD,q',m',rfl,z,k,g2,g3,Or.inr Z⟩
theorem aeb(a:j0 P)(b:Env P K0)(hk:aq U w kb mb sb pb qb bb tb D ks G K)(hv:oh U w)(h:KI P K0 K j st q m)(hm:qR m):Zk 12 #[M kb] w (EC P K0 U w kb mb sb pb qb bb tb D ks G K j st m):=by
 rcases h.LP with⟨hN,r⟩|⟨i,hi,hN,h1⟩
 ·refine(ae5 hk hN rfl).m ?_;rintro e u ⟨v,rfl,f,s⟩;exact⟨v,bJ K,j,st,q,m,rfl,f,s,h.next,hm,Or.inl ⟨rfl,rfl,rfl,rfl,r⟩⟩
 cases i with
 |succ c=>
  have d:c<P.k:=Z;have t:=(h.cl c d).1;by_cases l:j c<17*(P.Q c).m
  ·by_cases n:j c % 17=12
   ·exact ae9 a b hk hv h hm d hN h1 l n
   exact ae8 a b hk hv h hm d hN h1 l n
  exact ae7 a b hk hv h hm d hN h1 (by have:=t.lj;omega)
 |zero=>
  have hs:m.s=1:=h.s0.symm.trans h1;have k:=h.ok
  cases m using Sm.cs with
  |dD W p=>exact absurd hs (show¬(4:Int)=1 from I)
  |get W p=>exact absurd rfl (hm W p)
  |nK p=>
   have hp:p<=6:=k;by_cases f:p=6
   ·subst f;exact ae6 a b hk hv h hN
   have o:=Vw (x:=p) Z f Z Z;refine Pv a b hk hv h hm hN hs (.nK (p+1)) rfl rfl rfl (show p+1<=6 from Z) (λW p g=>by cases g) (show 7 - (p+1)+1<=7 - p from Z) (show(jJ p).op≠0 from Z) (λroot=>?_)
   exact(Tj (i:=jJ p) o (by show(4096+4*p) % 4=0;omega) (by show 4096+4*p+4<_;omega)).trans rfl
  |mF c p=>
   obtain⟨d,hp⟩:c<P.k/\p<=11:=k;by_cases f:p=11
   ·subst f;exact ae2 a b hk hv h hN
   have o:=Vw (x:=7+p) Z Z Z Z;refine Pv a b hk hv h hm hN hs (.mF c (p+1)) rfl rfl rfl (show c<P.k/\p+1<=11 from⟨d,Z⟩) (λW p g=>by cases g) (show 12 - (p+1)+1<=12 - p from Z) (show(jJ (7+p)).op≠0 from Z) (λroot=>?_)
   exact(Tj (i:=jJ (7+p)) o (by show(4096+4*(7+p)) % 4=0;omega) (by show 4096+4*(7+p)+4<_;omega)).trans rfl
  |jmp c=>
   have d:c<P.k:=k;refine Pv a b hk hv h hm hN hs (.mF c 0) rfl rfl rfl (show c<P.k/\0<=11 from⟨d,Z⟩) (λW p g=>by cases g) (show 12 - 0+1<=13 from Z) (show(jJ 19).op≠0 from I) (λroot=>?_);exact anB (pc:=4096+4*19) I I
def Dn(P:Pm)(st:Nat->Int)(m:Sm):Prop:=(∃W p,m=.dD W p)/\∀c,c<P.k->st (c+1)=0
theorem KI.live(h:KI P K0 K j st q m)(hm:qR m):Dn P st m\/∃i,i<=P.k/\st i=1:=by
 by_cases a:m.s=4
 ·by_cases e:∃c,c<P.k/\st (c+1)=1
  ·obtain⟨c,h1,f⟩:=e;exact Or.inr ⟨c+1,Z,f⟩
  refine Or.inl ⟨?_,λc b=>?_⟩
  ·cases m using Sm.cs with
   |dD W p=>exact⟨W,p,rfl⟩
   |nK p=>exact absurd a (show¬(1:Int)=4 from I)
   |mF d p=>exact absurd a (show¬(1:Int)=4 from I)
   |jmp d=>exact absurd a (show¬(1:Int)=4 from I)
   |get W p=>exact absurd a (show¬(1:Int)=4 from I)
  rcases(h.cl c b).1.ls with h1|h1|h1|h1
  ·exact h1
  ·exact absurd ⟨c,b,h1⟩ e
  ·have:=(h.qi c).2 ⟨b,h1⟩;rw[h.qe a] at this;cases this
  have:=(h.cu c b).1 h1
  cases m using Sm.cs with
  |dD W p=>cases this
  |nK p=>cases this
  |mF d p=>exact absurd a (show¬(1:Int)=4 from I)
  |jmp d=>exact absurd a (show¬(1:Int)=4 from I)
  |get W p=>cases this
 refine Or.inr ⟨0,Z,?_⟩;rw[h.s0]
 cases m using Sm.cs with
 |dD W p=>exact absurd rfl a
 |_=>rfl
theorem KI.ahf(h:KI P K0 K j st q m)(hm:qR m){i:Nat}(hi:i<=P.k)(h1:st i=1):1<=fV P j st m:=by
 unfold fV
 cases i with
 |zero=>
  have hs:m.s=1:=h.s0.symm.trans h1;have a:=h.ok
  have:1<=m.loc:=by
   cases m using Sm.cs with
   |dD W p=>exact absurd hs (show¬(4:Int)=1 from I)
   |nK p=>have:p<=6:=a;show 1<=7 - p;omega
   |mF d p=>have:=a.2;show 1<=12 - p;omega
   |jmp d=>show 1<=13;decide
   |get W p=>show 1<=1;decide
  omega
 |succ c=>
  have b:c<P.k:=Z;have g:=(h.cl c b).1.lj;have e:=VN (λc=>oB (P.Q c) (j c) (st (c+1))) c P.k b;have f:oB (P.Q c) (j c) (st (c+1))=17*(P.Q c).m+1 - j c:=by rw[h1];rfl
  rw[f] at e;unfold Bj;omega
theorem PQ(f:Nat->Nat):∀k,(∀c,c<k->f c=0)->oz k f=0
 |0,_=>rfl
 |k+1,h=>by
  show oz k f+f k=0;rw[PQ f k (λc a=>h c Z),h k Z]
theorem KI.ahg(h:KI P K0 K j st q m)(a:Dn P st m):fV P j st m=0:=by
 obtain⟨⟨W,p,rfl⟩,a⟩:=a;unfold fV Bj Dm
 rw[PQ _ P.k (λc b=>by rw[a c b];rfl),PQ _ P.k (λc b=>by
  have:=(h.cl c b).1.le (a c b);rw[a c b];show(P.Q c).m - (j c+4)/17 - 0=0
  omega)]
 rfl
def Bd(P:Pm)(K:Kn)(j:Nat->Nat)(st:Nat->Int)(m:Sm)(B:Nat):Prop:=Dn P st m\/∃i,i<=P.k/\st i=1/\27*fV P j st m+Cu P.a P.b P.c K.t K.lf (P.dm i)<=B
theorem Bd.zero(h:KI P K0 K j st q m)(hm:qR m)(hb:Bd P K j st m 0):Dn P st m:=by
 rcases hb with hb|⟨i,h1,a,b⟩
 ·exact hb
 have:=h.ahf hm h1 a;omega
theorem KI.bd(h:KI P K0 K j st q m)(hm:qR m){B:Nat}(b:27*fV P j st m+18<=B):Bd P K j st m B:=by
 rcases h.live hm with h1|⟨i,h1,a⟩
 ·exact Or.inl h1
 exact Or.inr ⟨i,h1,a,by have:=anY h.tn (P.dm i);omega⟩
def tN(P:Pm)(K0:Kn)(U:Z1)(w0:Z0)(kb mb sb pb qb bb tb:Nat)(D:DataW Value)(ks:List Int)(G:Int->Nat)(B:Nat)(w:Z0):Prop:=
 ∃K j st q m,aq U w kb mb sb pb qb bb tb D ks G K/\Zn U w0 w/\KI P K0 K j st q m/\qR m/\Bd P K j st m B
theorem ae4{w0:Z0}(b:j0 P)(o:Env P K0)(hv:oh U w0){B:Nat}(h:tN P K0 U w0 kb mb sb pb qb bb tb D ks G B w):Zk 12 #[M kb] w λe w'=>(∃v,Zr e v)/\tN P K0 U w0 kb mb sb pb qb bb tb D ks G (B - 1) w':=by
 obtain⟨K,j,st,q,m,hk,c,hi,hm,hb⟩:=h;refine(aeb b o hk (hv.on c) hi hm).m ?_;rintro e w' ⟨v,p,d,f,r,g,rfl,s,t,k,l,n⟩;refine⟨⟨v,rfl⟩,p,d,f,r,g,s,c.trans t,k,l,?_⟩;rcases n with⟨rfl,rfl,rfl,rfl,u⟩|n
 ·rcases hb with hb|⟨i,h1,a,x⟩
  ·exact Or.inl hb
  have e:K.ts=kI P.a P.b P.c:=hi.fx.ts.trans hi.ts;have hn:kH K.ts K.t K.lf≠P.dm i:=λe=>u i h1 e.symm a
  refine Or.inr ⟨i,h1,a,?_⟩;rw[e] at hn;have:=anX hi.tn (b.dm i) hn;show 27*fV P d f g+Cu P.a P.b P.c (kH K.ts K.t K.lf) (ov K.ts K.t K.lf) (P.dm i)<=B - 1;rw[e];omega
 rcases hb with hb|⟨i,h1,a,x⟩
 ·have:=hi.ahg hb;omega
 exact k.bd l Z
theorem tN.done{w0:Z0}(h:tN P K0 U w0 kb mb sb pb qb bb tb D ks G 0 w):∃K j st q W p,aq U w kb mb sb pb qb bb tb D ks G K/\Zn U w0 w/\KI P K0 K j st q (.dD W p)/\∀c,c<P.k->st (c+1)=0:=by
 obtain⟨K,j,st,q,m,hk,a,hi,hm,hb⟩:=h;obtain⟨⟨W,p,rfl⟩,b⟩:=Bd.zero hi hm hb;exact⟨K,j,st,q,W,p,hk,a,hi,b⟩
theorem tN.start(a:j0 P){w0:Z0}(hk:aq U w kb mb sb pb qb bb tb D ks G K)(b:Zn U w0 w)(h:KI P K0 K (λ_=>0) (λ_=>1) [] (.nK 0)):tN P K0 U w0 kb mb sb pb qb bb tb D ks G 12000 w:=by
 have hm:qR (.nK 0):=λW p d=>by cases d
 refine⟨K,_,_,_,_,hk,b,h,hm,h.bd hm ?_⟩
 have h1:Bj P (λ_=>0) (λ_=>1)<=P.k*52:=PS _ 52 P.k (λc e=>by
  have:=(a.Q c).m;show 17*(P.Q c).m+1 - 0<=52
  omega)
 have f:Dm P (λ_=>0) (λ_=>1)<=P.k*3:=PS _ 3 P.k (λc e=>by
  have:=(a.Q c).m;show(P.Q c).m - (0+4)/17 - 0<=3
  omega)
 have hk:=a.k;unfold fV;show 27*(_+13*_+7)+18<=12000;omega
end
section
def toQ(P:Pm)(cd:Nat->Z2)(pr:Nat->Int):Pq:=⟨P.k,cd,P.dm,pr,P.a,P.b,P.c⟩
variable {P:Pm}{cd:Nat->Z2}{pr:Nat->Int}{f:Nat->UInt8}{m i:Nat}
def A8(l:Z2)(p:Nat):Nat:=bM (λx=>l.getD x 0) (4*p)
theorem yx{α:Type}{g:Nat->List α}{x:α}:∀{n:Nat},x∈cH g n↔∃i,i<n/\x∈g i
 |0=>by
  constructor
  ·intro h;cases h
  rintro⟨i,h,_⟩;omega
 |n+1=>by
  show x∈cH g n++g n↔_;rw[List.mem_append,yx];constructor
  ·rintro(⟨i,h1,a⟩|h)
   ·exact⟨i,Z,a⟩
   exact⟨n,Z,h⟩
  rintro⟨i,h1,a⟩;by_cases e:i=n
  ·subst e;exact Or.inr a
  exact Or.inl ⟨i,Z,a⟩
theorem pZ.place(h:pZ (toQ P cd pr) (2*(P.k+1)) f)(hk:P.k<=4)(hi:i<=P.k){p:Nat}(hp:4*p+4<=(cd i).length)(q:(cd i).length<=4096):jL f (6+5*P.k) (5*i+1) (4096+4*p) 4 0=.ok (4096*(5*i+3)+4*p)/\bM f (4096*(5*i+3)+4*p)=A8 (cd i) p:=by
 have h1:=h.rt i hi;have a:=h.tb i hi;rw[if_pos Z] at h1 a;constructor
 ·have e1:eC f (6+5*P.k) (5*i+1) ((4096+4*p)/4194304)=(1024*(5*i+2)+1,0):=by
   unfold eC;rw[if_neg Z,show(5*(i:Int)+1).toNat=5*i+1 from Z,show 4096*(5*i+1)+4*((4096+4*p)/4194304)=4096*(5*i+1) from Z,h1]
  have c:eC f (6+5*P.k) (((1024*(5*i+2)+1)/1024:Nat):Int) ((4096+4*p) % 4194304/4096)=(1024*(5*i+3)+91,0):=by
   rw[show(1024*(5*i+2)+1)/1024=5*i+2 from Z,show(4096+4*p) % 4194304/4096=1 from Z];unfold eC;rw[if_neg Z,show(((5*i+2:Nat):Int)).toNat=5*i+2 from Z,show 4096*(5*i+2)+4*1=4096*(5*i+2)+4 from Z,a]
  have d:wY (1024*(5*i+2)+1)=true:=by
   unfold wY;rw[decide_eq_true Z,decide_eq_true Z,decide_eq_true Z,decide_eq_true Z];rfl
  have g:fL f (6+5*P.k) (5*i+1) (4096+4*p)=(1024*(5*i+3)+91,4096,0):=by
   unfold fL;rw[e1];dsimp only;rw[d,if_neg (by simp),c]
  have k:okB 0 (1024*(5*i+3)+91)=true:=by
   obtain⟨e,he⟩:=Ze (1024*(5*i+3)+91);have l:e % 2=1:=Z;have a2:e/2 % 2=1:=Z;have a3:¬e/2 % 4=2:=Z;have a4:e/8 % 2=1:=Z;have a5:e/16 % 2=1:=Z;have m:e/64 % 2=1:=Z;rw[<-he];simp[okB,Mg,l,a2,a3,a4,a5,m]
  have n:zF (1024*(5*i+3)+91) 4096=true:=by
   unfold zF;exact decide_eq_true Z
  have o:tX f (6+5*P.k) (5*i+1) (4096+4*p) (0:Nat)=(4096*(5*i+3)+4*p, -1):=by
   unfold tX;rw[if_neg Z,g,if_neg (by simp)];show JU (6+5*P.k) 0 (4096+4*p) (1024*(5*i+3)+91) 4096=_;unfold JU;rw[k,n,if_neg I,if_neg Z];exact Prod.ext (by show(1024*(5*i+3)+91)/1024*4096+(4096+4*p) % 4096=_;omega) rfl
  unfold jL;rw[o];unfold Bn;rw[if_neg Z,if_neg (λh=>h rfl)]
 have e:∀j,j<4->f (4096*(5*i+3)+4*p+j)=(cd i).getD (4*p+j) 0:=λj r=>by
  have:=h.cd i hi (4*p+j) (by show _<(cd i).length;omega);rw[<-Nat.add_assoc] at this;exact this
 unfold A8 bM;have b:=e 0 I;rw[Nat.add_zero,Nat.add_zero] at b;rw[b,e 1 I,e 2 I,e 3 I];rfl
structure O3(P:Pm)(cd:Nat->Z2):Prop where
 le:∀i,(cd i).length<=4096
 ln:∀i,i<=P.k->4*MD P i<=(cd i).length
 wd:∀i,i<=P.k->∀p,p<MD P i->dec (A8 (cd i) p:Nat)=DQ P i p
structure EF(P:Pm)(pr:Nat->Int):Prop where
 k:1<=P.k
 p:∀i,0<=pr i/\pr i<=7
 a:1<=P.a/\P.a<=9
 b:1<=P.b/\P.b<=9
 c:1<=P.c/\P.c<=9
theorem lb(i:Nat):aD i=5*(i:Int)+5:=by unfold aD;omega
theorem anG(c:j0 P)(d:EF P pr)(b:O3 P cd)(hf:pZ (toQ P cd pr) (2*(P.k+1)) f):Env P (ew (toQ P cd pr) f (dO (2*(P.k+1)) (P.k+1)) (P.k+1)):=by
 have h1:=d.k;have a:=c.k;refine⟨λi hi=>?_,λi hi=>?_,λi hi=>?_,rfl,rfl,rfl,rfl⟩
 ·refine⟨⟨5,5*i+4,7,0,0,26,0,0⟩,⟨7,0,7,Cy i,0,0,0,0⟩,(5*i+4,0),⟨?_,?_,?_,rfl,rfl,(DD c hi).1,by unfold af;dsimp only;omega,by unfold af;dsimp only;omega,by unfold af;dsimp only;omega⟩,rfl,rfl⟩
  ·exact lH (p:=λk i=>aI (qN (k+1)) (dO (2*(k+1)) (k+1)) (aD i,0)=(⟨5,5*i+4,7,0,0,26,0,0⟩,0)) ⟨Zw,Zw,Zw,Zw,Zw,Zw,Zw,Zw,Zw,Zw,Zw,Zw,Zw,Zw⟩ h1 a hi
  ·exact lH (p:=λk i=>zZ (qN (k+1)) (dO (2*(k+1)) (k+1)) 0 ⟨5,5*i+4,7,0,0,26,0,0⟩ 32=(((5*(i:Int)+4,0):Sl),(0:Int))) ⟨Zw,Zw,Zw,Zw,Zw,Zw,Zw,Zw,Zw,Zw,Zw,Zw,Zw,Zw⟩ h1 a hi
  exact lH (p:=λk i=>aI (qN (k+1)) (dO (2*(k+1)) (k+1)) (5*i+4,0)=(⟨7,0,7,Cy i,0,0,0,0⟩,0)) ⟨Zw,Zw,Zw,Zw,Zw,Zw,Zw,Zw,Zw,Zw,Zw,Zw,Zw,Zw⟩ h1 a hi
 ·refine⟨⟨4,5*i+1,7,0,0,0,0,0⟩,lH (p:=λk i=>aI (qN (k+1)) (dO (2*(k+1)) (k+1)) (aD i,1)=(⟨4,5*i+1,7,0,0,0,0,0⟩,0)) ⟨Zw,Zw,Zw,Zw,Zw,Zw,Zw,Zw,Zw,Zw,Zw,Zw,Zw,Zw⟩ h1 a hi,rfl,λp hp=>?_⟩;have g:=b.ln i hi;obtain⟨e,a2⟩:=hf.place a hi (p:=p) Z (b.le i);exact⟨_,e,by show dec (bM f _:Nat)=_;rw[a2];exact b.wd i hi p hp⟩
 exact lH (p:=λk i=>aI (qN (k+1)) (dO (2*(k+1)) (k+1)) (aD i,2)=(lv,11)) ⟨Zw,Zw,Zw,Zw,Zw,Zw,Zw,Zw,Zw,Zw,Zw,Zw,Zw,Zw⟩ h1 a hi
theorem agq:pk (λ_=>0)=iH (λ_=>0):=by
 funext x
 unfold pk iH
 split<;>rfl
theorem Vp(h1:1<=P.k)(a:P.k<=4)(hi:i<=P.k):(tW (P.k+1) (P.k+1)).getD i .df=⟨aD i,1, -1, -1,false,iH (λ_=>0),4096⟩:=by
 rw[<-agq];exact lH (p:=λk i=>(tW (k+1) (k+1)).getD i .df=⟨aD i,1, -1, -1,false,pk (λ_=>0),4096⟩) ⟨Zw,Zw,Zw,Zw,Zw,Zw,Zw,Zw,Zw,Zw,Zw,Zw,Zw,Zw⟩ h1 a hi
theorem afN(b:j0 P):hY P.k (λi=>(P.dm i:Int)) (λ_=>1) (mE (toQ P cd pr) (P.k+1)):=by
 refine⟨λi hi=>⟨⟨5*i+5,P.dm i,pr i,5,i+1⟩,yx.2 ⟨i,Z,List.mem_singleton.2 rfl⟩,(lb i).symm,rfl,?_⟩,λe he=>?_⟩
 ·constructor
  ·intro _;rfl
  intro _;show((i:Int)+1)≠0;omega
 obtain⟨i,h1,a⟩:=yx.1 he;rw[List.mem_singleton] at a;rw[a];exact⟨i,Z,(lb i).symm⟩
theorem aiX(h1:1<=P.k)(a:P.k<=4):(cH (λi=>[5*(i:Int)+5]) (P.k+1)).Nodup:=by
 have:P.k=1\/P.k=2\/P.k=3\/P.k=4:=Z;rcases this with h|h|h|h<;>rw[h]<;>decide
theorem Xj:∀n,(mE (toQ P cd pr) n).map (·.num)=cH (λi=>[5*(i:Int)+5]) n
 |0=>rfl
 |n+1=>by
  show(mE (toQ P cd pr) n++[_]).map _=_++_;rw[List.map_append,Xj n];rfl
theorem aeQ(b:j0 P)(c:EF P pr):cU (mE (toQ P cd pr) (P.k+1)) (P.k+1):=by
 have hm:∀e,e∈mE (toQ P cd pr) (P.k+1)->∃i,i<=P.k/\e=⟨5*i+5,P.dm i,pr i,5,i+1⟩:=λe he=>by
  obtain⟨i,h1,a⟩:=yx.1 he;rw[List.mem_singleton] at a;exact⟨i,Z,a⟩
 refine⟨by rw[Xj];exact aiX c.k b.k,λe he=>?_,λe he f hf h _=>?_,λe he f hf _ _ _ _=>?_⟩
 ·obtain⟨i,hi,rfl⟩:=hm e he;have h1:=b.dm i;have a:=c.p i;dsimp only;omega
 ·obtain⟨i,hi,rfl⟩:=hm e he;obtain⟨y,hy,rfl⟩:=hm f hf;dsimp only at h;have:i=y:=Z;rw[this]
 obtain⟨y,hy,rfl⟩:=hm f hf;rfl
theorem akq(b:j0 P)(a:EF P pr):KI P (ew (toQ P cd pr) f (dO (2*(P.k+1)) (P.k+1)) (P.k+1)) (ew (toQ P cd pr) f (dO (2*(P.k+1)) (P.k+1)) (P.k+1)) (λ_=>0) (λ_=>1) [] (.nK 0):=by
 have h1:=a.k;have d:=b.k;refine⟨Fx.refl _,rfl,?_,λc e=>⟨⟨Z,Or.inr (Or.inl rfl),(λh=>by cases h),λh=>Z⟩,false,?_⟩,⟨false,?_⟩,rfl,Nat.zero_le _,λc e=>?_,rfl,List.nodup_nil,λc=>?_,λh=>absurd h I,afN b,aeQ b a,⟨a.a,a.b,a.c,by show 0<3;decide,?_⟩⟩
 ·exact lH (p:=λk i=>(tW (k+1) (k+1)).length=k+1) ⟨Zw,Zw,Zw,Zw,Zw,Zw,Zw,Zw,Zw,Zw,Zw,Zw,Zw,Zw⟩ h1 d (Nat.zero_le _)
 ·exact Vp h1 d (show c+1<=P.k from Z)
 ·exact Vp h1 d (Nat.zero_le _)
 ·constructor
  ·intro h;exact absurd h I
  intro h;cases h
 ·constructor
  ·intro h;cases h
  rintro⟨_,h⟩;exact absurd h I
 show 0<=P.a/\P.a<=9;have:=a.a;omega
end
section
open Go.Maps
def NT(l:Z2):Prop:=∀c,l.head?=some c->dZ c=false
theorem Vn:∀(r l:Z2),(∀c∈r,dZ c=true)->NT l->(r++l).takeWhile dZ=r/\(r++l).dropWhile dZ=l
 |[],l,_,h=>by
  cases l with
  |nil=>exact⟨rfl,rfl⟩
  |cons c l=>
   have:=h c rfl
   simp[this]
 |b::r,l,hr,h=>by
  obtain⟨h1,a⟩:=Vn r l (λc d=>hr c (List.mem_cons_of_mem _ d)) h;have hb:=hr b (List.mem_cons_self ..);rw[List.cons_append,List.takeWhile_cons,List.dropWhile_cons,if_pos hb,if_pos hb,h1,a];exact⟨rfl,rfl⟩
theorem Pr(b:UInt8)(r l:Z2)(hr:∀c∈b::r,dZ c=true)(h:NT l):bU ((b::r)++l)=(b::r)::bU l:=by
 obtain⟨h1,a⟩:=Vn r l (λc d=>hr c (List.mem_cons_of_mem _ d)) h;have hb:=hr b (List.mem_cons_self ..);have hn:b≠35:=λe=>by subst e;exact absurd hb I
 rw[List.cons_append,Vx.bUc,if_neg hn,if_pos hb,h1,a]
theorem Ve(l:Z2):bU (32::l)=bU l:=by
 rw[Vx.bUc,if_neg I,if_neg I,if_pos (Or.inl rfl)]
theorem adR(c:UInt8)(l:Z2)(h1:c≠35)(a:dZ c=false)(b:¬(c=32\/c=9)):bU (c::l)=[c]::bU l:=by
 rw[Vx.bUc,if_neg h1,if_neg (by simp[a]),if_neg b]
theorem anZ(c:UInt8)(h:48<=c.toNat/\c.toNat<=57):dZ c=true:=by
 rw[Vf];simp;omega
structure CK(src:Z2)(st:cM):Prop where
 len:src.length<=60
 nl:(10:UInt8)∉src
 no:(35:UInt8)∉src
 ok:oy st
 tk:bU src=dP st
 ak:∀t,(dP st)[1]?=some t->t≠[58]
 Ct:(dP st).length<=30
def zT:Z2:=[110,101,120,116]
structure Ot(src:Z2)(st:cM):Prop where
 len:src.length<=60
 nl:(10:UInt8)∉src
 no:(35:UInt8)∉src
 ok:oy st
 tk:bU src=zT::[58]::dP st
 Ct:(dP st).length<=30
def Aa(r v:Nat):Z2:=[108,105,32,120]++(Lib.decDigits r++([44,32]++Lib.decDigits v))
theorem N3(v:Nat)(hv:v<4294967296):(Lib.decDigits v).length<=10:=by
 rw[Lib.decDigits_length];exact Mw 9 v Z
theorem WI(r v:Nat)(hr:r<32)(hv:v<4294967296):CK (Aa r v) (.li r v):=by
 have e:∀u,∀c∈Lib.decDigits u,dZ c=true:=λu c a=>anZ c (J0 u c a)
 have f:∀u (x:UInt8),(x.toNat<48\/57<x.toNat)->x∉Lib.decDigits u:=λu x d h=>by
  have:=J0 u x h;omega
 have hi:Lib.itoa (v:Int)=Lib.decDigits v:=by
  unfold Lib.itoa;rw[if_neg Z,Int.toNat_natCast]
 have g:∀x:UInt8,(x.toNat<48\/57<x.toNat)->x∉([108,105,32,120,44,32]:Z2)->x∉Aa r v:=λx d h1 h=>by
  unfold Aa at h;rw[List.mem_append,List.mem_append,List.mem_append] at h;rcases h with h|h|h|h
  ·exact h1 (List.mem_append_left [44,32] h)
  ·exact f r x d h
  ·exact h1 (List.mem_append_right [108,105,32,120] h)
  exact f v x d h
 refine⟨?_,g 10 I I,g 35 I I,⟨hr,hv⟩,?_,?_,by simp[dP]⟩
 ·have h1:=N3 r Z;have k:=N3 v hv;unfold Aa;simp only[List.length_append,List.length_cons,List.length_nil];omega
 ·obtain⟨c,l,i⟩:∃c l,Lib.decDigits v=c::l:=by
   cases h:Lib.decDigits v with
   |nil=>exact absurd h (NZ v)
   |cons c l=>exact⟨c,l,rfl⟩
  have e1:Aa r v=([108,105]:Z2)++(32::((120::Lib.decDigits r)++(44::32::Lib.decDigits v))):=by unfold Aa;simp
  rw[e1,Pr 108 [105] _ I (λc a=>by cases a;decide),Ve,Pr 120 (Lib.decDigits r) _ (λc a=>by
   rcases List.mem_cons.1 a with rfl|a
   ·decide
   exact e r c a) (λc a=>by cases a;decide),adR 44 _ I I I,Ve]
  have j:bU (Lib.decDigits v)=[Lib.decDigits v]:=by
   have b:=e v;rw[i] at b|-;have:=Pr c l [] b (λc a=>by cases a);rw[List.append_nil] at this;rw[this];simp[Vx.bUn]
  rw[j];show _=[[108,105],120::Lib.decDigits r,[44],Lib.itoa (v:Int)]
  rw[hi]
 intro t ht
 have:t=120::Lib.decDigits r:=by
  have b:some (120::Lib.decDigits r)=some t:=ht;exact(Option.some.inj b).symm
 rw[this];intro b;injection b with b _
 exact absurd b I
theorem ahr:CK [] .no:=⟨I,I,I,trivial,by simp[Vx.bUn,dP],λt ht=>by simp[dP] at ht,by simp[dP]⟩
def wE(bc:List cM):Option Nat->Nat->DataW Unit
 |none,_=>.map []
 |some i,k=>if i<k then (DataW.map []).put (.string zT) (.lit (.int .i64 (iT (bc.take i):Int))) else .map []
def yJ:Option Nat->Nat->Nat
 |none,_=>0
 |some i,k=>if i<k then 1 else 0
theorem ape(c:List (Z2))(b:List cM)(li:Option Nat)(hlen:b.length=c.length)(p:c≠[])(r:c.length<=950)(q:(gm c).length<=20000)
  (j:∀k (hk:k<c.length),li≠some k->CK (c[k]) (b[k]'Z)) (m:∀k (hk:k<c.length),li=some k->Ot (c[k]) (b[k]'Z)):UC c b (yJ li) (wE b li):=by
 refine⟨hlen,p,Z,?_,q,?_,?_,?_⟩
 ·intro l a;obtain⟨k,hk,rfl⟩:=List.getElem_of_mem a;by_cases h:li=some k
  ·exact(m k hk h).nl
  exact(j k hk h).nl
 ·cases li<;>simp[yJ]
 ·cases li<;>simp[wE]
 intro mx pb n base sb rb k hk w h;have d:(iD (b.take k) 0).length<=30000:=by rw[Ka,List.length_take];omega
 have o:iT (b.take k)<=1000000:=by
  have:=QU (b.take k);rw[List.length_take] at this;omega
 by_cases g:li=some k
 ·have a:=m k hk g;subst g;have f:yJ (some k) k=0/\yJ (some k) (k+1)=0+1:=by simp[yJ]
  have e1:wE b (some k) k=.map []/\wE b (some k) (k+1)=(DataW.map []).put (.string zT) (.lit (.int .i64 (iT (b.take k):Int))):=by simp[wE]
  have hp:=h.pr;rw[f.1,e1.1] at hp;have hr:=agH 110 [101,120,116] I I _ (by have:=a.len;omega) a.no _ a.ok a.tk a.Ct mx pb n base _ 0 I (.map []) rfl _ o d w h.max hp;rw[f.2,e1.2];exact hr
 have a:=j k hk g
 have f:yJ li (k+1)=yJ li k/\wE b li (k+1)=wE b li k:=by
  cases li with
  |none=>exact⟨rfl,rfl⟩
  |some i=>
   have s:i≠k:=λe=>g (by rw[e])
   by_cases h1:i<k
   ·simp[yJ,wE,h1,show i<k+1 from Z]
   simp[yJ,wE,h1,show¬i<k+1 from Z]
 rw[f.1,f.2];exact agG _ (by have:=a.len;omega) a.no _ a.ok a.tk a.ak a.Ct mx pb n base _ _ _ _ o d w h.max h.pr
theorem abD(ss:List cM)(a k:Nat)(hk:k<(iD ss a).length):((iD ss a)[k]).2=a+iT (ss.take k)/\((iD ss a)[k]).1=ss[k]'(by rw[Ka] at hk;exact hk):=by
 induction ss generalizing a k with
 |nil=>simp[iD] at hk
 |cons s ss b=>
  cases k with
  |zero=>exact⟨by simp[iD,iT],by simp[iD]⟩
  |succ k=>
   have h:=b (a+eu s) k (by simpa[iD] using hk);simp only[iD,List.getElem_cons_succ,List.take_succ_cons,iT];exact⟨by rw[h.1];omega,h.2⟩
def lP(is:List Ins):Z2:=je (is.map bT)
def G9(i:Ins):Prop:=dec (bT i)=i/\0<=bT i/\bT i<4294967296
theorem aog(a b:List Ins):lP (a++b)=lP a++lP b:=by
 unfold lP je;rw[List.map_append,List.flatMap_append]
theorem Gz(a:List Ins):(lP a).length=4*a.length:=by
 unfold lP je;rw[LK,List.length_map]
theorem V3(f:Nat->List Ins)(h:∀k,(f k).length<=2):∀n,(cH f n).length<=2*n
 |0=>Nat.zero_le _
 |n+1=>by
  have:=V3 f h n;have:=h n;show(cH f n++f n).length<=_;rw[List.length_append];omega
theorem apf(b:List (Z2))(a:List cM)(li:Option Nat)(hlen:a.length=b.length)(g:b≠[])(j:b.length<=950)(l:(gm b).length<=20000)
  (m:∀k (hk:k<b.length),li≠some k->CK (b[k]) (a[k]'Z)) (n:∀k (hk:k<b.length),li=some k->Ot (b[k]) (a[k]'Z))
  (c:Nat->List Ins) (f:∀k,(c k).length<=2) (hg:∀k,∀i∈c k,G9 i) (o:∀k (hk:k<a.length),CG (wE a li b.length) (iT (a.take k)) a[k] ((c k).map bT)) (p:cH c a.length≠[])
  (mx:Int) (w:Z0) (hm:kC mx w) (q:dX w) (r:0<w.heap.size):
  Zk 14 #[.string ⟨(gm b).toArray⟩] w λe w'=>Zr e (.tuple #[.string ⟨(lP (cH c a.length)).toArray⟩,.int .i64 0,.int .i64 0])/\Zq w w':=by
 refine apc b a (yJ li) (wE a li) (ape b a li hlen g j l m n) (λk=>(c k).map bT) (λk=>by rw[List.length_map];exact f k) (λk x s=>?_) (λk hk=>?_) (λk hk=>?_) (λk=>lP (cH c k)) rfl (λk=>aog _ _) (λk hk=>?_) (λh=>?_) mx w hm q r
 ·obtain⟨i,hi,rfl⟩:=List.mem_map.1 s;exact(hg k i hi).2
 ·obtain⟨d,a2⟩:=abD a 0 k hk;rw[d,a2,Nat.zero_add];exact o k _
 ·obtain⟨d,a2⟩:=abD a 0 k hk;have:=QU (a.take k);rw[List.length_take] at this;rw[d];omega
 ·have:=V3 c f k;rw[Gz];omega
 have t:=Gz (cH c a.length);rw[h,List.length_nil] at t;exact p (List.length_eq_zero_iff.1 Z)
theorem adl(x:Nat)(a:x<4294967296)(l:Z2):A8 (eI x++l) 0=x/\∀p,A8 (eI x++l) (p+1)=A8 l p:=by
 constructor
 ·show(UInt8.ofNat (x % 256)).toNat+256*(UInt8.ofNat (x/256 % 256)).toNat+65536*(UInt8.ofNat (x/65536 % 256)).toNat+16777216*(UInt8.ofNat (x/16777216 % 256)).toNat=x;rw[ofNat_mod,ofNat_mod,ofNat_mod,ofNat_mod];exact aaK x a
 intro p
 have h:∀j,(eI x++l).getD (4+j) 0=l.getD j 0:=λj=>by
  rw[List.getD_eq_getElem?_getD,List.getD_eq_getElem?_getD,List.getElem?_append_right (by show 4<=_;omega)];show(l[4+j - 4]?).getD 0=_;rw[show 4+j - 4=j from Z]
 unfold A8 bM;rw[show 4*(p+1)=4+4*p from Z,show 4+4*p+1=4+(4*p+1) from Z,show 4+4*p+2=4+(4*p+2) from Z,show 4+4*p+3=4+(4*p+3) from Z];dsimp only;rw[h,h,h,h]
theorem Tu:∀(is:List Ins) (p:Nat),(∀i∈is,G9 i)->p<is.length->dec (A8 (lP is) p:Nat)=is.getD p pw
 |[],p,_,h=>by cases h
 |i::is,p,hg,h=>by
  obtain⟨g1,g2,g3⟩:=hg i List.mem_cons_self;have a:lP (i::is)=eI (bT i).toNat++lP is:=rfl;obtain⟨w1,w2⟩:=adl (bT i).toNat Z (lP is);rw[a]
  cases p with
  |zero=>
   rw[w1,show(((bT i).toNat:Nat):Int)=bT i from Z,g1]
   rfl
  |succ p=>
   rw[w2];exact Tu is p (λj b=>hg j (List.mem_cons_of_mem _ b)) (by simpa using h)
structure mW where
 src:Z2
 st:cM
 is:List Ins
structure TU(x:mW):Prop where
 g:∀i∈x.is,G9 i
 n:x.is.length<=2
structure tP(x:mW):Prop extends TU x where
 p:CK x.src x.st
 e:∀D a,CG D a x.st (x.is.map bT)
def jh(r v:Nat):mW:=⟨Aa r v,.li r v,rA r v⟩
def IA:mW:=⟨[],.no,[]⟩
theorem QF:tP IA:={g:=(λi hi=>by cases hi),n:=I,p:=ahr,e:=λD a=>rfl}
theorem nI(r v:Nat)(hr:r<32)(hv:v<4294967296):tP (jh r v):=by
 obtain⟨b,a2,a3⟩:=ao1 r v hr hv;obtain⟨c,d,f⟩:=ao3 r v hr;refine {g:=λi hi=>?_,n:=by show 2<=2;decide,p:=WI r v hr hv,e:=λD a=>⟨hr,hv,b,c,rfl⟩}
 have hi:i=⟨1,r,0,0,gq v⟩\/i=⟨19,r,r,0,fi v⟩:=by
  have:i∈([⟨1,r,0,0,gq v⟩,⟨19,r,r,0,fi v⟩]:List Ins):=hi;simpa using this
 rcases hi with rfl|rfl
 ·exact⟨b,a2,a3⟩
 exact⟨c,d,f⟩
theorem DO{src:Z2}{i:Ins}(hp:CK src (.ins i []))(b:1<=i.op)(h1:i.op<=48)(hg:G9 i):tP ⟨src,.ins i [],[i]⟩:=
 {g:=λj c=>by rw[List.mem_singleton.1 c];exact hg,n:=by show 1<=2;decide,p:=hp,e:=λD a=>⟨b,h1,hg.1,rfl⟩}
def zg:mW:=⟨[101,99,97,108,108],.ins ⟨39,0,0,0,0⟩ [],[⟨39,0,0,0,0⟩]⟩
theorem Tr:dP (.ins ⟨39,0,0,0,0⟩ [])=[[101,99,97,108,108]]:=by decide+kernel
theorem JV:tP zg:=DO ⟨I,I,I,⟨I,I,⟨I,I⟩,⟨I,I⟩,⟨I,I⟩,I,I,Or.inl rfl,rfl,I⟩,by rw[Tr];decide+kernel,by rw[Tr];intro t ht;simp at ht,by rw[Tr];decide⟩ I I ⟨Zx,I,I⟩
def JW:mW:=⟨[101,98,114,101,97,107],.ins ⟨40,0,0,0,0⟩ [],[⟨40,0,0,0,0⟩]⟩
theorem Ts:dP (.ins ⟨40,0,0,0,0⟩ [])=[[101,98,114,101,97,107]]:=by decide+kernel
theorem anP:tP JW:=DO ⟨I,I,I,⟨I,I,⟨I,I⟩,⟨I,I⟩,⟨I,I⟩,I,I,Or.inl rfl,rfl,I⟩,by rw[Ts];decide+kernel,by rw[Ts];intro t ht;simp at ht,by rw[Ts];decide⟩ I I ⟨Zx,I,I⟩
def QJ:mW:=⟨[109,117,108,32,120,50,48,44,32,120,50,48,44,32,120,49,57],.ins ⟨41,20,20,19,0⟩ [],[⟨41,20,20,19,0⟩]⟩
theorem QI:dP (.ins ⟨41,20,20,19,0⟩ [])=[[109,117,108],[120,50,48],[44],[120,50,48],[44],[120,49,57]]:=by decide+kernel
theorem aj6:tP QJ:=DO ⟨I,I,I,⟨I,I,⟨I,I⟩,⟨I,I⟩,⟨I,I⟩,I,I,Or.inl rfl,rfl,I⟩,by rw[QI];decide+kernel,by rw[QI];intro t ht;cases ht;decide,by rw[QI];decide⟩ I I ⟨Zx,I,I⟩
def TO:mW:=⟨[97,100,100,32,120,50,48,44,32,120,50,48,44,32,120,49,50],.ins ⟨28,20,20,12,0⟩ [],[⟨28,20,20,12,0⟩]⟩
theorem TN:dP (.ins ⟨28,20,20,12,0⟩ [])=[[97,100,100],[120,50,48],[44],[120,50,48],[44],[120,49,50]]:=by decide+kernel
theorem apE:tP TO:=DO ⟨I,I,I,⟨I,I,⟨I,I⟩,⟨I,I⟩,⟨I,I⟩,I,I,Or.inl rfl,rfl,I⟩,by rw[TN];decide+kernel,by rw[TN];intro t ht;cases ht;decide,by rw[TN];decide⟩ I I ⟨Zx,I,I⟩
def CC:mW:=⟨[97,100,100,32,120,49,50,44,32,120,49,50,44,32,120,49,51],.ins ⟨28,12,12,13,0⟩ [],[⟨28,12,12,13,0⟩]⟩
theorem Oj:dP (.ins ⟨28,12,12,13,0⟩ [])=[[97,100,100],[120,49,50],[44],[120,49,50],[44],[120,49,51]]:=by decide+kernel
theorem CB:tP CC:=DO ⟨I,I,I,⟨I,I,⟨I,I⟩,⟨I,I⟩,⟨I,I⟩,I,I,Or.inl rfl,rfl,I⟩,by rw[Oj];decide+kernel,by rw[Oj];intro t ht;cases ht;decide,by rw[Oj];decide⟩ I I ⟨Zx,I,I⟩
def J9:mW:=⟨[97,100,100,32,120,49,50,44,32,120,49,50,44,32,120,49,49],.ins ⟨28,12,12,11,0⟩ [],[⟨28,12,12,11,0⟩]⟩
theorem TP:dP (.ins ⟨28,12,12,11,0⟩ [])=[[97,100,100],[120,49,50],[44],[120,49,50],[44],[120,49,49]]:=by decide+kernel
theorem abB:tP J9:=DO ⟨I,I,I,⟨I,I,⟨I,I⟩,⟨I,I⟩,⟨I,I⟩,I,I,Or.inl rfl,rfl,I⟩,by rw[TP];decide+kernel,by rw[TP];intro t ht;cases ht;decide,by rw[TP];decide⟩ I I ⟨Zx,I,I⟩
def J8:mW:=⟨[97,100,100,32,120,49,52,44,32,120,49,54,44,32,120,48],.ins ⟨28,14,16,0,0⟩ [],[⟨28,14,16,0,0⟩]⟩
theorem TM:dP (.ins ⟨28,14,16,0,0⟩ [])=[[97,100,100],[120,49,52],[44],[120,49,54],[44],[120,48]]:=by decide+kernel
theorem abA:tP J8:=DO ⟨I,I,I,⟨I,I,⟨I,I⟩,⟨I,I⟩,⟨I,I⟩,I,I,Or.inl rfl,rfl,I⟩,by rw[TM];decide+kernel,by rw[TM];intro t ht;cases ht;decide,by rw[TM];decide⟩ I I ⟨Zx,I,I⟩
theorem V0{α:Type}(L:List (List α)):∀n,n<=L.length->cH (λk=>L.getD k []) n=(L.take n).flatten
 |0,_=>by simp[cH]
 |n+1,h=>by
  show cH (λk=>L.getD k []) n++L.getD n []=_;rw[V0 L n Z,List.take_succ_eq_append_getElem Z,List.flatten_append,List.getD_eq_getElem?_getD,List.getElem?_eq_getElem Z];simp
theorem Q3:∀X:List (Z2),gm (X++[[]])=X.flatMap (λl=>l++[10])
 |[]=>rfl
 |[l]=>by simp[gm]
 |l::l2::X=>by
  have h:=Q3 (l2::X);show l++10::gm (l2::(X++[[]]))=_;rw[show l2::(X++[[]])=(l2::X)++[[]] from rfl,h];simp[List.flatMap_cons]
theorem abt(L:List mW)(li:Option Nat)(j:L≠[])(t:L.length<=100)(a:∀k (hk:k<L.length),li≠some k->CK L[k].src L[k].st)(b:∀k (hk:k<L.length),li=some k->Ot L[k].src L[k].st)(c:∀x∈L,TU x)
  (m:∀k (hk:k<L.length),CG (wE (L.map (·.st)) li L.length) (iT ((L.map (·.st)).take k)) L[k].st (L[k].is.map bT)) (n:(L.map (·.is)).flatten≠[])
  (mx:Int) (w:Z0) (hm:kC mx w) (o:dX w) (p:0<w.heap.size):
  Zk 14 #[.string ⟨(gm (L.map (·.src))).toArray⟩] w λe w'=>Zr e (.tuple #[.string ⟨(lP (L.map (·.is)).flatten).toArray⟩,O 0,O 0])/\Zq w w':=by
 have d:cH (λk=>(L.map (·.is)).getD k []) L.length=(L.map (·.is)).flatten:=by
  rw[V0 _ _ (by rw[List.length_map];exact Nat.le_refl _),List.take_of_length_le (by rw[List.length_map];exact Nat.le_refl _)]
 have f:∀k (hk:k<L.length),(L.map (·.is)).getD k []=L[k].is:=λk hk=>by
  rw[List.getD_eq_getElem?_getD,List.getElem?_map,List.getElem?_eq_getElem hk];rfl
 have g:∀k,(L.map (·.is)).getD k []=[]\/∃hk:k<L.length,(L.map (·.is)).getD k []=L[k].is:=λk=>by
  by_cases hk:k<L.length
  ·exact Or.inr ⟨hk,f k hk⟩
  refine Or.inl ?_;rw[List.getD_eq_getElem?_getD,List.getElem?_map,List.getElem?_eq_none Z];rfl
 have h:=apf (L.map (·.src)) (L.map (·.st)) li (by rw[List.length_map,List.length_map]) (by simpa using j) (by rw[List.length_map];omega) ?_ (λk hk h=>?_) (λk hk h=>?_) (λk=>(L.map (·.is)).getD k []) (λk=>?_) (λk i hi=>?_) (λk hk=>?_) (by rw[List.length_map,d];exact n) mx w hm o p
 ·rw[List.length_map,d] at h;exact h
 ·have h1:∀l∈L.map (·.src),l.length<=60:=λl q=>by
   obtain⟨x,r,rfl⟩:=List.mem_map.1 q;obtain⟨k,hk,rfl⟩:=List.getElem_of_mem r;by_cases e:li=some k
   ·exact(b k hk e).len
   exact(a k hk e).len
  have s:=Ya (L.map (·.src)) 60 h1;rw[List.length_map] at s;omega
 ·rw[List.getElem_map,List.getElem_map];exact a k (by simpa using hk) h
 ·rw[List.getElem_map,List.getElem_map];exact b k (by simpa using hk) h
 ·rcases g k with e|⟨hk,e⟩
  ·rw[e];exact Nat.zero_le _
  rw[e];exact(c _ (List.getElem_mem hk)).n
 ·rcases g k with e|⟨hk,e⟩
  ·rw[e] at hi;cases hi
  rw[e] at hi;exact(c _ (List.getElem_mem hk)).g i hi
 have hk:k<L.length:=by simpa using hk
 rw[f k hk,List.getElem_map,List.length_map];exact m k hk
theorem apd(L:List mW)(b:L≠[])(c:L.length<=100)(a:∀x∈L,tP x)(d:(L.map (·.is)).flatten≠[])(mx:Int)(w:Z0)(hm:kC mx w)(f:dX w)(g:0<w.heap.size):
  Zk 14 #[.string ⟨(gm (L.map (·.src))).toArray⟩] w λe w'=>Zr e (.tuple #[.string ⟨(lP (L.map (·.is)).flatten).toArray⟩,O 0,O 0])/\Zq w w':=
 abt L none b c (λk hk _=>(a _ (List.getElem_mem hk)).p) (λk hk h=>by cases h) (λx i=>(a x i).toTU) (λk hk=>(a _ (List.getElem_mem hk)).e _ _) d mx w hm f g
def vV(q A B:Nat):List mW:=[jh 10 0,jh 11 q,jh 12 A,jh 13 B,jh 16 4294967295,jh 17 3,zg,jh 19 33,QJ,TO]
def tJ(Q:Qn):List mW:=cH (λq=>vV q (Q.A q) (Q.B q)) Q.m++[JW,IA]
theorem V1{α β:Type}(f:α->β)(g:Nat->List α):∀n,(cH g n).map f=cH (λq=>(g q).map f) n
 |0=>rfl
 |n+1=>by
  show(cH g n++g n).map f=_;rw[List.map_append,V1 f g n];rfl
theorem V4{β:Type}(g:Nat->List (List β)):∀n,(cH g n).flatten=cH (λq=>(g q).flatten) n
 |0=>rfl
 |n+1=>by
  show(cH g n++g n).flatten=_;rw[List.flatten_append,V4 g n];rfl
theorem TJ(Q:Qn):((tJ Q).map (·.is)).flatten=cH (λq=>vD q (Q.A q) (Q.B q)) Q.m++[pw]:=by
 unfold tJ;rw[List.map_append,List.flatten_append,V1,V4];rfl
theorem PY(g:Nat->List Ins)(hg:∀q,(g q).length=17):∀n,(cH g n).length=17*n/\∀j,j<17*n->(cH g n).getD j pw=(g (j/17)).getD (j % 17) pw
 |0=>⟨rfl,λj h=>Z⟩
 |n+1=>by
  obtain⟨h1,a⟩:=PY g hg n;refine⟨by show(cH g n++g n).length=_;rw[List.length_append,h1,hg];omega,λj b=>?_⟩;show(cH g n++g n).getD j pw=_;rw[List.getD_eq_getElem?_getD];by_cases h:j<17*n
  ·rw[List.getElem?_append_left Z,<-List.getD_eq_getElem?_getD];exact a j h
  rw[List.getElem?_append_right Z,h1,<-List.getD_eq_getElem?_getD,show j/17=n from Z,show j % 17=j - 17*n from Z]
theorem aph(Q:Qn){p:Nat}(hp:p<17*Q.m+1):(((tJ Q).map (·.is)).flatten).getD p pw=pS Q p:=by
 obtain⟨h1,a⟩:=PY (λq=>vD q (Q.A q) (Q.B q)) (λq=>rfl) Q.m;rw[TJ,List.getD_eq_getElem?_getD];unfold pS;by_cases h:p<17*Q.m
 ·rw[List.getElem?_append_left Z,<-List.getD_eq_getElem?_getD,if_pos h];exact a p h
 rw[List.getElem?_append_right Z,if_neg h,h1,show p - 17*Q.m=0 from Z];rfl
theorem abv(Q:Qn)(h:uY Q):∀x∈tJ Q,tP x:=λx a=>by
 have hm:=h.m;unfold tJ at a;rcases List.mem_append.1 a with a|a
 ·obtain⟨q,b,a⟩:=yx.1 a;unfold vV at a;simp only[List.mem_cons,List.not_mem_nil,or_false] at a;rcases a with rfl|rfl|rfl|rfl|rfl|rfl|rfl|rfl|rfl|rfl
  ·exact nI _ _ I I
  ·exact nI _ _ I Z
  ·exact nI _ _ I (h.A q)
  ·exact nI _ _ I (h.B q)
  ·exact nI _ _ I I
  ·exact nI _ _ I I
  ·exact JV
  ·exact nI _ _ I I
  ·exact aj6
  exact apE
 simp only[List.mem_cons,List.not_mem_nil,or_false] at a;rcases a with rfl|rfl
 ·exact anP
 exact QF
def CA(Q:Qn):Z2:=(cH (λq=>vV q (Q.A q) (Q.B q)) Q.m++[JW]).flatMap (λx=>x.src++[10])
theorem apg(Q:Qn):gm ((tJ Q).map (·.src))=CA Q:=by
 unfold tJ CA;rw[show cH (λq=>vV q (Q.A q) (Q.B q)) Q.m++[JW,IA]=(cH (λq=>vV q (Q.A q) (Q.B q)) Q.m++[JW])++[IA] by simp,List.map_append];show gm (_++[[]])=_;rw[Q3,List.flatMap_map]
theorem api(Q:Qn)(h:uY Q)(mx:Int)(w:Z0)(hm:kC mx w)(b:dX w)(c:0<w.heap.size):Zk 14 #[.string ⟨(CA Q).toArray⟩] w λe w'=>Zr e (.tuple #[.string ⟨(lP ((tJ Q).map (·.is)).flatten).toArray⟩,O 0,O 0])/\Zq w w':=by
 have g:=h.m
 have d:∀n,(cH (λq=>vV q (Q.A q) (Q.B q)) n).length=10*n:=λn=>by
  induction n with
  |zero=>rfl
  |succ n f=>show(cH (λq=>vV q (Q.A q) (Q.B q)) n++_).length=_;rw[List.length_append,f];show _+10=_;omega
 have a:=apd (tJ Q) (by unfold tJ;simp) (by unfold tJ;rw[List.length_append,d];show _+2<=_;omega) (abv Q h) (by rw[TJ];simp) mx w hm b c;rw[apg] at a;exact a
end
end Go.Proofs.YtdjlkahbpdoemaaGreatDoor

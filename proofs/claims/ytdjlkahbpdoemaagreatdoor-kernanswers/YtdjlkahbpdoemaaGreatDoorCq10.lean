import Derived.Test.YtdjlkahbpdoemaaGreatDoorCq7
import Derived.Test.YtdjlkahbpdoemaaGreatDoorCq8
import Derived.Test.YtdjlkahbpdoemaaGreatDoorCq9
set_option maxRecDepth 100000
set_option maxHeartbeats 8000000
set_option linter.unusedVariables false
set_option linter.unusedSimpArgs false
open Go Go.Vx Go.Proofs.Tryz Go.ChangeShapes Go.WideShapes Go.ChangeAt Go.RowKit
variable {a r:Int}{bm n root t v va:Nat}{w w':Z0}{U:Z1}
namespace Go.Proofs.YtdjlkahbpdoemaaGreatDoor
theorem alz{k:Int}(h:rB n a k=true):∃x y:Nat,a=(x:Int)/\k=(y:Int)/\x+y<=4096*n:=by
 simp[rB] at h;exact⟨a.toNat,k.toNat,Z,Z,Z⟩
def yq(f:Nat->UInt8)(n:Nat)(a:Int)(s:Z2):(Nat->UInt8)×Nat:=if rB n a (s.length:Nat)=true then (cQ f a.toNat s,0) else (f,1)
theorem acX{f:Nat->UInt8}(h:cP U w bm n f)(a s):
  Zk 87 #[M bm,O a,.string ⟨s.toArray⟩] w λe w'=>Zr e (O ((yq f n a s).2:Nat))/\cP U w' bm n (yq f n a s).1/\Zn U w w':=by
 unfold yq;by_cases hi:rB n a (s.length:Nat)=true
 ·obtain⟨x,y,rfl,hy,b⟩:=alz hi;rw[if_pos hi];have⟨bp,q,hm⟩:=h;exact acV hm x s Z
 rw[if_neg hi];refine(acW h a s (by simpa using hi)).m ?_;rintro e w' ⟨rfl,rfl⟩;exact⟨rfl,h,H.refl _ _⟩
def tV(f:Nat->UInt8)(n:Nat)(p:Int):(Nat->UInt8)×Nat:=if hasB n p=true then (yn f p.toNat,0) else (f,1)
theorem JE{p:Int}(h:hasB n p=true):∃x:Nat,p=(x:Int)/\x<n:=by
 simp[hasB] at h;exact⟨p.toNat,Z,Z⟩
theorem acg{f:Nat->UInt8}(h:cP U w bm n f)(p):
  Zk 124 #[M bm,O p] w λe w'=>Zr e (O ((tV f n p).2:Nat))/\cP U w' bm n (tV f n p).1/\Zn U w w':=by
 unfold tV;by_cases hi:hasB n p=true
 ·obtain⟨x,rfl,a⟩:=JE hi;rw[if_pos hi];have⟨bp,q,hm⟩:=h;refine(acb hm x a).m ?_;rintro e w' ⟨rfl,h1,b⟩;exact⟨rfl,⟨bp,q,h1⟩,b⟩
 rw[if_neg hi];refine(acd h p (by simpa using hi)).m ?_;rintro e w' ⟨rfl,rfl⟩;exact⟨rfl,h,H.refl _ _⟩
def Wa(f:Nat->UInt8)(p q:Nat):Bool:=(List.range 4096).all λj=>f (4096*p+j)==f (4096*q+j)
def ki(bm n:Nat)(f:Nat->UInt8):ff:=λU w=>cP U w bm n f
def nk(xb:Nat)(bs:Lp)(es:List En):ff:=λU w=>jo U w xb bs es
def oW(xb:Nat)(P:Int)(os rs:Lp):ff:=λU w=>qP U w xb P os rs
def jY(xb:Nat)(ts:Lp)(t:Nat)(lf:Int)(es:List Et)(ck:Nat):ff:=λU w=>uU U w xb ts t lf es ck
def re(xb:Nat)(s:Bs):ff:=λU w=>eQ U w xb s
theorem ki.dF(bm n f):jX (ki bm n f):=by
 rintro U V S w w2 ⟨bp,q,h⟩ e l g;have c:=h.only e (λk a b=>l k b a);have hb:∀b,b<w.heap.size->¬U b->¬V b:=λb h1 m o=>by
  rcases g b o with d|d
  ·exact m d
  omega
 refine⟨bp,q,c.pos,c.top,c.m,c.p,c.nil,c.pg,c.inj,hb _ (aB h.m) h.um,hb _ (aB h.p) h.up,λi b hi j=>hb _ (aB (h.pg i hi b j)) (h.ug i b hi j),λk hk=>?_⟩;have hs:=e.size;rcases g k hk with d|d
 ·have:=h.low k d;omega
 exact d.2
theorem nk.dF(xb bs es):jX (nk xb bs es):=λU V S w w2 h a b c=>jo.step h a b c
theorem oW.dF(xb P os rs):jX (oW xb P os rs):=λU V S w w2 h a b c=>qP.step h a b c
theorem jY.dF(xb ts t lf es ck):jX (jY xb ts t lf es ck):=λU V S w w2 h a b c=>uU.step h a b c
theorem re.dF(xb s):jX (re xb s):=λU V S w w2 h a b c=>eQ.step h a b c
end Go.Proofs.YtdjlkahbpdoemaaGreatDoor
namespace Go.Vx
def jI(root va:Nat):Nat:=4096*root+va/4194304*4
def uJ(t va:Nat):Nat:=4096*t+va/4096 % 1024*4
def yL(r:Int):Bool:=decide (r=1) || decide (r=3) || decide (r=4) || decide (r=5) || decide (r=7)
theorem ajq(h:yL r=true):r=1\/r=3\/r=4\/r=5\/r=7:=by
 simp[yL] at h;omega
def tL(n:Nat)(ps:List Int):Bool:=ps.all λp=>decide (0<=p)&&decide (p<(n:Int))
end Go.Vx
namespace Go.Proofs.YtdjlkahbpdoemaaGreatDoor
theorem adp(e:Nat)(he:e<4294967296)(w):
  Zk 328 #[J (e:Int)] w λx w'=>x=.returned (O ((e/1024:Nat):Int))/\w'=w:=by
 have h1:(e:Int)/1024=((e/1024:Nat):Int):=Z;have hw:=Zh ((e/1024:Nat):Int) Z;generalize e/1024=p at h1 hw;have hb:(e:Int)<4294967296:=Z;go_enter func328,ntmps328;go_wp2;all_goals
  go_ret;refine⟨?_,rfl⟩;first|rfl|(simp[h1])
theorem ab0(p b:Nat)(hp:p<256)(hb:b<1024)(w):
  Zk 289 #[O (p:Int),J (b:Int)] w λx w'=>x=.returned (J ((1024*p+b:Nat):Int))/\w'=w:=by
 have w1:IntKind.u32.wrap (p:Int)=(p:Int):=by rw[IntKind.wrap_u32];omega
 have w2:IntKind.u32.wrap ((p:Int)*1024)=(p:Int)*1024:=by rw[IntKind.wrap_u32];omega
 have a:bits .or .u32 ((p:Int)*1024) (b:Int)=((1024*p+b:Nat):Int):=by
  rw[Ba 10 1024 ((p:Int)*1024) (b:Int) rfl I Z];omega
 generalize 1024*p+b=r at a;go_enter func289,ntmps289;go_wp2;all_goals
  go_ret;exact⟨rfl,rfl⟩
theorem Vo(root va:Nat)(hr:root<256)(hv:va<4294967296)(w):
  Zk 288 #[O (root:Int),J (va:Int)] w λx w'=>x=.returned (O ((jI root va:Nat):Int))/\w'=w:=by
 have h1:(va:Int)/4194304=((va/4194304:Nat):Int):=Z;have b:Int.tdiv (va:Int) 4194304=((va/4194304:Nat):Int):=by rw[Int.tdiv_eq_ediv_of_nonneg Z];omega
 have c:va/4194304<1024:=Z;have a:Hid (jI root va=4096*root+va/4194304*4):=rfl;generalize jI root va=T at a;generalize va/4194304=q at h1 b c a;have w0:=Zh (q:Int) Z;have d:IntKind.u32.wrap (q:Int)=(q:Int):=by rw[IntKind.wrap_u32];omega
 have w1:=Zh ((root:Int)*4096) Z;have w2:=Zh ((q:Int)*4) Z;have w3:=Zh ((root:Int)*4096+(q:Int)*4) Z;go_enter func288,ntmps288;go_wp2;all_goals
  go_ret;refine⟨?_,rfl⟩;rw[a.j];refine Bi ?_;exact congrArg (Value.int .i64) (by omega:(root:Int)*4096+(q:Int)*4=((4096*root+q*4:Nat):Int))
theorem anf(t va:Nat)(hr:t<256)(hv:va<4294967296)(w):
  Zk 292 #[O (t:Int),J (va:Int)] w λx w'=>x=.returned (O ((uJ t va:Nat):Int))/\w'=w:=by
 have c:(va:Int) % 4194304=((va % 4194304:Nat):Int):=Z;have d:Int.tmod (va:Int) 4194304=((va % 4194304:Nat):Int):=by rw[Int.tmod_eq_emod_of_nonneg Z];omega
 have h1:((va % 4194304:Nat):Int)/4096=((va/4096 % 1024:Nat):Int):=Z;have b:Int.tdiv ((va % 4194304:Nat):Int) 4096=((va/4096 % 1024:Nat):Int):=by rw[Int.tdiv_eq_ediv_of_nonneg Z];omega
 have e:va/4096 % 1024<1024:=Z;have hm:va % 4194304<4294967296:=Z;have a:Hid (uJ t va=4096*t+va/4096 % 1024*4):=rfl;generalize uJ t va=T at a;generalize va/4096 % 1024=q at h1 b e a;generalize va % 4194304=m at c d h1 b hm;have w0:=Zh (q:Int) Z;have f:IntKind.u32.wrap (q:Int)=(q:Int):=by rw[IntKind.wrap_u32];omega
 have g:IntKind.u32.wrap (m:Int)=(m:Int):=by rw[IntKind.wrap_u32];omega
 have w1:=Zh ((t:Int)*4096) Z;have w2:=Zh ((q:Int)*4) Z;have w3:=Zh ((t:Int)*4096+(q:Int)*4) Z;go_enter func292,ntmps292;go_wp2;all_goals
  go_ret;refine⟨?_,rfl⟩;rw[a.j];refine Bi ?_;exact congrArg (Value.int .i64) (by omega:(t:Int)*4096+(q:Int)*4=((4096*t+q*4:Nat):Int))
theorem ajp(r w):
  Zk 290 #[O r] w λx w'=>x=.returned (.bool (yL r))/\w'=w:=by
 by_cases h1:0<r
 ·by_cases c:r<=7
  ·have b:r=1\/r=2\/r=3\/r=4\/r=5\/r=6\/r=7:=Z;rcases b with rfl|rfl|rfl|rfl|rfl|rfl|rfl
   all_goals
    go_enter func290,ntmps290;go_wp2;all_goals
     go_ret;exact⟨rfl,rfl⟩
  have a:Hid (yL r=false):=by show _=_;simp[yL];omega
  go_enter func290,ntmps290;go_wp2;all_goals
   go_ret;rw[a.j];exact⟨rfl,rfl⟩
 have a:Hid (yL r=false):=by show _=_;simp[yL];omega
 go_enter func290,ntmps290;go_wp2;all_goals
  go_ret;rw[a.j];exact⟨rfl,rfl⟩
end Go.Proofs.YtdjlkahbpdoemaaGreatDoor
namespace Go.Vx
def vy(f:Nat->UInt8)(n root va:Nat):Option Nat:=if bM f (jI root va) % 1024=1/\bM f (jI root va)/1024<n then some (bM f (jI root va)/1024) else none
theorem aeM{f:Nat->UInt8}(h:vy f n root va=some t):t<n:=by
 unfold vy at h;split at h
 ·rename_i h1;simp at h;omega
 simp at h
end Go.Vx
namespace Go.Proofs.YtdjlkahbpdoemaaGreatDoor
theorem Vh{f:Nat->UInt8}(h:cP U w bm n f)(sb ps)(q:ps.length<=2)(d:∀(j:Nat) (x:j<ps.length),w.cell? (E sb j)=some (O ps[j])):
  Zk 286 #[M bm,Zs sb ps.length ps.length] w λe w'=>Zr e (.bool (tL n ps))/\w'=w:=by
 have g:=Y (Qu h);have r:=Y d;have⟨L,c⟩:=Ze (ps.length);have l:=Y c;rw[<-c] at q|-;have y:(L:Int)<=2:=Z;have s:Hid (tL n ps=tL n (ps.drop 0)):=rfl;clear h d c;go_enter func286,ntmps286
 go_wp2;go_loopw [9] (λi wr=>∃k:Nat,i=O (k:Int)/\k<=L/\Hid (tL n ps=tL n (ps.drop k))/\wr=w) (λi _=>L - (RowKit.intOf i).toNat)
 case atStart=>exact⟨0,rfl,Z,s,rfl⟩
 case round=>
  obtain⟨k,rfl,hk,m,rfl⟩:=hrel;by_cases z:k<L
  ·have o:k<ps.length:=by have:=l.j;omega
   have t:=r.j k o;have h1:(k:Int)<(L:Int):=Z;have A:0<=(k:Int)/\(k:Int)<(L:Int):=Z;have B:=Zf k Z;have b:Hid (tL n ps=((decide (0<=ps[k])&&decide (ps[k]<(n:Int)))&&tL n (ps.drop (k+1)))):=by
    show _=_;rw[m.j,List.drop_eq_getElem_cons o];rfl
   generalize ps[k]=p at t b;by_cases c1:p<0
   ·have a:Hid (tL n ps=false):=by show _=_;rw[b.j,show decide (0<=p)=false from decide_eq_false Z];rfl
    have u:decide (p<0)=true:=decide_eq_true c1;go_wp2_with fail;all_goals
     go_ret;rw[a.j];exact⟨rfl,rfl⟩
   have u:decide (p<0)=false:=decide_eq_false c1;by_cases c2:(n:Int)<=p
   ·have a:Hid (tL n ps=false):=by show _=_;rw[b.j,show decide (p<(n:Int))=false from decide_eq_false Z];simp
    have v:decide ((n:Int)<=p)=true:=decide_eq_true c2;go_wp2_with fail;refine g.j.e1 ?_;go_wp2_with fail;all_goals
     go_ret;rw[a.j];exact⟨rfl,rfl⟩
   have a:Hid (tL n ps=tL n (ps.drop (k+1))):=by show _=_;rw[b.j,show decide (0<=p)=true from decide_eq_true Z,show decide (p<(n:Int))=true from decide_eq_true Z];simp
   have v:decide ((n:Int)<=p)=false:=decide_eq_false c2;go_wp2_with fail;refine g.j.e1 ?_;go_wp2;go_roundw
   case rel=>exact⟨k+1,by go_num,Z,a,trivial⟩
   case measure=>exact Zm
  have h1:¬(k:Int)<(L:Int):=Z;have a:Hid (tL n ps=true):=by
   show _=_;rw[m.j,List.drop_eq_nil_of_le (by have:=l.j;omega)];rfl
  go_wp2_with fail;all_goals
   go_ret;rw[a.j];exact⟨rfl,rfl⟩
theorem aem{f:Nat->UInt8}(h:cP U w bm n f)(p):
  Zk 286 #[M bm,Zs w.heap.size 1 1] (w.alloc (.cells #[O p] 3)) λe w'=>Zr e (.bool (hasB n p))/\w'=w.alloc (.cells #[O p] 3):=by
 refine(Vh (h.only ((H.refl (λ_=>False) w).alloc _) (λ_ h _=>h.elim)) w.heap.size [p] (by simp) (λj a=>?_)).m ?_
 ·obtain rfl:j=0:=by simp at a;omega
  rw[cell_of_row _ _ 0 _ _ (0,0) (heap_alloc_last w _)];rfl
 rintro e w' ⟨rfl,rfl⟩;refine⟨?_,rfl⟩;refine Bi (congrArg Value.bool ?_);simp[tL,hasB]
theorem Pw{f:Nat->UInt8}(h:cP U w bm n f)(p q):
  Zk 286 #[M bm,Zs w.heap.size 2 2] (w.alloc (.cells #[O p,O q] 3)) λe w'=>Zr e (.bool (hasB n p&&hasB n q))/\w'=w.alloc (.cells #[O p,O q] 3):=by
 refine(Vh (h.only ((H.refl (λ_=>False) w).alloc _) (λ_ h _=>h.elim)) w.heap.size [p,q] (by simp) (λj a=>?_)).m ?_
 ·have b:j=0\/j=1:=by simp at a;omega
  rcases b with rfl|rfl
  ·rw[cell_of_row _ _ 0 _ _ (0,0) (heap_alloc_last w _)];rfl
  rw[cell_of_row _ _ 1 _ _ (0,0) (heap_alloc_last w _)];rfl
 rintro e w' ⟨rfl,rfl⟩;refine⟨?_,rfl⟩;refine Bi (congrArg Value.bool ?_);simp[tL,hasB]
theorem aeI{f:Nat->UInt8}(h:cP U w bm n f)(root va:Nat)(hr:root<n)(hv:va<4294967296):
  Zk 291 #[M bm,O (root:Int),J (va:Int)] w λe w'=>Zr e (.tuple #[O (((vy f n root va).getD 0:Nat):Int),.bool (vy f n root va).isSome])/\Zq w w':=by
 have hn:n<=256:=by obtain⟨bp,q,h⟩:=h;exact h.top
 have s:=Y (λg=>Vo root va Z hv g);have u:jI root va % 4=0:=by unfold jI;omega
 have v:jI root va+4<=4096*n:=by unfold jI;omega
 have i:=Y (LL h (jI root va) u v);have j:=LN f (jI root va);have a:Hid (vy f n root va=if bM f (jI root va) % 1024=1/\bM f (jI root va)/1024<n then some (bM f (jI root va)/1024) else none):=rfl;generalize vy f n root va=c at a;generalize jI root va=P at s i a j;generalize bM f P=e at i a j;have hb:bits .and .u32 (e:Int) 1023=((e % 1024:Nat):Int):=by
  rw[u32_and (e:Int) 1023 Z Z I I];show((e&&&1023:Nat):Int)=_;rw[show(1023:Nat)=2^10 - 1 from I,Nat.and_two_pow_sub_one_eq_mod]
 have k:=Y (λg=>adp e j g);go_enter func291,ntmps291;go_wp2_with fail;refine(s.j _).e1 ?_;go_wp2_with fail;refine i.j.m ?_;rintro x w1 ⟨rfl,t⟩;have l:=Y t;by_cases h1:e % 1024=1
 ·have z:bits .and .u32 (e:Int) 1023=1:=by rw[hb,h1];rfl
  have o:Hid (c=if e/1024<n then some (e/1024) else none):=by
   show _=_;rw[a.j];simp[h1]
  generalize e/1024=p at k o;go_wp2_with fail;refine(k.j _).e1 ?_;go_wp2_with fail;have d:=Y (aem (Y ((Y h).j.only t (λ_ h _=>h.elim))).j (p:Int));by_cases hp:p<n
  ·have r:Hid (hasB n (p:Int)=true):=by show _=_;simp[hasB];exact hp
   have b:Hid (c=some p):=by show _=_;rw[o.j,if_pos hp]
   rw[r.j] at d;refine d.j.e1 ?_;go_wp2_with fail;refine(k.j _).e1 ?_;go_wp2_with fail;all_goals
    go_ret2;rw[b.j];exact⟨rfl,l.j.alloc _⟩
  have r:Hid (hasB n (p:Int)=false):=by show _=_;simp[hasB];omega
  have b:Hid (c=none):=by show _=_;rw[o.j,if_neg hp]
  rw[r.j] at d;refine d.j.e1 ?_;go_wp2_with fail;all_goals
   go_ret2;rw[b.j];exact⟨rfl,l.j.alloc _⟩
 have b:Hid (c=none):=by show _=_;rw[a.j,if_neg (λy=>h1 y.1)]
 have c1:¬((e % 1024:Nat):Int)=1:=Z;have c2:(((e % 1024:Nat):Int) !=1)=true:=by simpa using c1
 generalize e % 1024=m at hb c1 c2;go_wp2_with fail;all_goals
  go_ret2;rw[b.j];exact⟨rfl,l.j⟩
def xK(f:Nat->UInt8)(P x:Nat):(Nat->UInt8)×Nat:=if bM f P=0 then (cQ f P (eI x),0) else (f,7)
theorem aaW{f:Nat->UInt8}(h:cP U w bm n f)(P x:Nat)(j:P % 4=0)(k:P+4<=4096*n)(m:x<4294967296):
  Zk 287 #[M bm,O (P:Int),J (x:Int)] w λe w'=>Zr e (O ((xK f P x).2:Nat))/\cP U w' bm n (xK f P x).1/\Zn U w w':=by
 have a:=Y (LL h P j k);have l:=Y h;have d:=Y (And.intro j (And.intro k m));by_cases g:bM f P=0
 ·have i:Hid (xK f P x=(cQ f P (eI x),0)):=if_pos g;rw[g] at a;go_enter func287,ntmps287;go_wp2_with fail;refine a.j.m ?_;rintro e w1 ⟨rfl,b⟩;have⟨bp,q,o⟩:=l.j.only b (λ_ h _=>h.elim);have c:=Y b;go_wp2_with fail;refine (Y (afB o P x d.j.2.2 d.j.1 d.j.2.1)).j.m ?_;rintro e w2 ⟨rfl,p,r⟩;go_wp2_with fail;all_goals
   go_ret;rw[i.j];exact⟨rfl,⟨bp,(Y p).j⟩,(c.j.f).trans (Y r).j⟩
 have i:Hid (xK f P x=(f,7)):=if_neg g;have c1:¬((bM f P:Nat):Int)=0:=Z;have c2:(((bM f P:Nat):Int) !=0)=true:=by simpa using c1
 generalize bM f P=v at a c1 c2;go_enter func287,ntmps287;go_wp2_with fail;refine a.j.m ?_;rintro e w1 ⟨rfl,b⟩;have c:=Y b;go_wp2_with fail;all_goals
  go_ret;rw[i.j];exact⟨rfl,l.j.only c.j (λ_ h _=>h.elim),c.j.f⟩
def ly(f:Nat->UInt8)(n:Nat)(root:Int)(va:Nat)(t:Int):(Nat->UInt8)×Nat:=if (hasB n root&&hasB n t)=true then xK f (jI root.toNat va) (1024*t.toNat+1) else (f,1)
def AH(r:Int):Nat:=if r=1 then 83 else if r=3 then 215 else if r=4 then 89 else if r=5 then 91 else 223
def j8(f:Nat->UInt8)(n:Nat)(root:Int)(va:Nat)(fr r:Int):(Nat->UInt8)×Nat:=
 if (hasB n root&&hasB n fr)=true/\va % 4096=0 then (if yL r=true then (match vy f n root.toNat va with|some t=>xK f (uJ t va) (1024*fr.toNat+AH r)|none=>(f,15)) else (f,13)) else (f,1)
theorem abo(r):AH r<1024:=by
 unfold AH;split
 ·decide
 split
 ·decide
 split
 ·decide
 split<;>decide
theorem aeL(r v):jI r v % 4=0:=by unfold jI;omega
theorem anb(r v):uJ r v % 4=0:=by unfold uJ;omega
theorem aeK{r:Nat}(h:r<n)(hv:v<4294967296):jI r v+4<=4096*n:=by unfold jI;omega
theorem ana{r:Nat}(h:r<n):uJ r v+4<=4096*n:=by unfold uJ;omega
theorem cP.top{f:Nat->UInt8}(h:cP U w bm n f):n<=256:=by obtain⟨bp,q,h⟩:=h;exact h.top
theorem cP.quiet{f:Nat->UInt8}(h:cP U w bm n f)(a:Zq w w'):cP U w' bm n f:=h.only a (λ_ h _=>h.elim)
theorem ah3{f:Nat->UInt8}(h:cP U w bm n f)(root)(va:Nat)(hv:va<4294967296)(t):
  Zk 223 #[M bm,O root,J (va:Int),O t] w λe w'=>Zr e (O ((ly f n root va t).2:Nat))/\cP U w' bm n (ly f n root va t).1/\Zn U w w':=by
 have d:=Y (Pw h root t);have i:=Y h;by_cases hb:(hasB n root&&hasB n t)=true
 ·have a:Hid (ly f n root va t=xK f (jI root.toNat va) (1024*t.toNat+1)):=if_pos hb;rw[hb] at d;rw[Bool.and_eq_true] at hb;obtain⟨r,rfl,hr⟩:=JE hb.1;obtain⟨p,rfl,hp⟩:=JE hb.2;rw[Int.toNat_natCast,Int.toNat_natCast] at a;have hn:=h.top;have j:=Y (λb=>Vo r va Z hv b);have k:=Y (λb=>ab0 p 1 Z I b);have g:=Y (λb (hm:cP U b bm n f)=>aaW hm (jI r va) (1024*p+1) (aeL _ _) (aeK hr hv) Z);generalize ly f n r va p=R at a;generalize 1024*p+1=x at k g a;generalize jI r va=P at j g a;go_enter func223,ntmps223;go_wp2_with fail;refine d.j.m ?_;rintro e w1 ⟨rfl,h1⟩;have c:Hid (Zq w w1):=by show H _ _ _;rw[h1];exact(H.refl _ w).alloc _
  clear h1;go_wp2_with fail;refine(j.j _).e1 ?_;go_wp2_with fail;refine(k.j _).e1 ?_;go_wp2_with fail;refine(g.j _ (i.j.quiet c.j)).m ?_;rintro e w2 ⟨rfl,o,q⟩;have s:Hid (cP U w2 bm n R.1/\Zn U w w2):=by rw[a.j];exact⟨o,(c.j.f).trans q⟩
  rw[<-a.j];have⟨l,m⟩:∃l,Hid (R.2=l):=⟨_,rfl⟩;rw[m.j];go_wp2_with fail;all_goals
   go_ret;rw[m.j];exact⟨rfl,s.j⟩
 have a:Hid (ly f n root va t=(f,1)):=if_neg hb;have u:(hasB n root&&hasB n t)=false:=by simpa using hb
 rw[u] at d;go_enter func223,ntmps223;go_wp2_with fail;refine d.j.m ?_;rintro e w1 ⟨rfl,h1⟩;have c:Hid (Zq w w1):=by show H _ _ _;rw[h1];exact(H.refl _ w).alloc _
 clear h1;go_wp2_with fail
 all_goals
  go_ret;rw[a.j];exact⟨rfl,i.j.quiet c.j,c.j.f⟩
structure Kt where
 num:Int
 st:Int
 dV:Int
 dD:Int
 gr:Bool
 rg:Nat->Int
 pc:Int
def Kt.df:Kt:=⟨0,0,0,0,false,λ_=>0,0⟩
structure Ln where
 ga:Int
 aQ:Int
 Bv:Bool
 pd:Bool
def Ln.df:Ln:=⟨0,0,false,false⟩
structure Kn where
 n:Nat
 f:Nat->UInt8
 bs:Lp
 es:List En
 os:Lp
 rs:Lp
 ts:Lp
 t:Nat
 lf:Int
 ss:List Et
 ck:Nat
 b:Bs
 T:List Kt
 L:List Ln
 ci:List (Z2)
 co:List (Z2)
 c:Nat
structure Mp where
 at':Sl
 root:Int
 va:Nat
 rights:Int
def Mp.df:Mp:=⟨(0,0),0,0,0⟩
structure Tc where
 num:Int
 cy:Int
 prio:Int
 yA:Bool
 rg:Nat->Int
 pc:Int
def Tc.df:Tc:=⟨0,0,0,false,λ_=>0,0⟩
structure Sk where
 n:Int
 ts:Lp
 c:Nat
 ob:List (Int×Int×Int)
 eM:List (Int×Z2)
 cp:List En
 mp:List Mp
 th:List Tc
 iq:List (Int×Int×Int)
def dJ(os rs:Lp)(o:Int×Int):Bool:=if o.1=9\/o.1=10 then decide (0<=o.2/\o.2<8) else decide (o∈zn os rs)
def qq(num:Int):Kt:=⟨num,0, -1, -1,false,λ_=>0,0⟩
def oG(x:Kt):List Kt->List Kt
 |[]=>[x]
 |y::r=>if x.num<y.num then x::y::r else y::oG x r
def da(T:List Kt)(n:Int):Option Nat:=dL (λx=>decide (x.num=n)) T 0
def xM(K:Kn)(o:Int×Int)(size:Int):Kn:=
 let K:={K with f:=(tV K.f K.n o.2).1}
 if o.1=5 then {K with bs:=kL K.bs o.2 size}
 else if o.1=6 then {K with bs:=kL K.bs o.2 4,T:=oG (qq o.2) K.T}
 else if o.1=7\/o.1=8 then {K with b:=qm K.b o.2 (decide (o.1=8))}
 else K
def dH(K:Kn)(x:Int×Int×Int):Kn×Int:=
 if x.1=5/\iO x.2.2=false then (K,1)
 else if iZ K.n K.os K.rs (x.1,x.2.1)=0 then
  (let K2:={K with os:=lR K.n K.os K.rs (x.1,x.2.1),rs:=oV K.n K.os K.rs (x.1,x.2.1)}
   (if x.1=1 then K2 else xM K2 (x.1,x.2.1) x.2.2),0)
 else (K,iZ K.n K.os K.rs (x.1,x.2.1))
def Ev(K:Kn)(x:Int×Z2):Int:=if x.1<0\/dJ K.os K.rs (2,x.1/4096)=false\/4096<x.1 % 4096+(x.2.length:Int) then 6 else 0
def dB(K:Kn)(x:Int×Z2):Kn×Int:=if Ev K x=0 then ({K with f:=cQ K.f x.1.toNat x.2},0) else (K,6)
def p6(c:Cp):Bool:=decide (0<=c.rights/\c.rights<=7/\c.root=0/\c.va=0)&&decide (c.bh=0\/c.kind=7\/c.kind=8)&&(if c.kind=5 then decide (0<=c.aC/\c.aC<=32/\c.guard/(2^c.aC.toNat:Nat)=0) else decide (c.guard=0/\c.aC=0))
def qh(a b:Int):Bool:=decide (a.toNat&&&b.toNat=a.toNat)
def rW(c up:Cp):Bool:=decide (up.kind=c.kind/\up.num=c.num)&&qh c.rights up.rights&&decide (up.bh=0\/up.bh=c.bh)
def zi(K:Kn)(x:En):Int:=
 if dJ K.os K.rs (x.cap.kind,x.cap.num)=false then 6
 else if p6 x.cap=false then 4
 else if (aI K.bs K.es x.cw).2=0/\rW x.cap (aI K.bs K.es x.cw).1=false then 4
 else fU K.bs K.es x.at' x.cap x.cw
def dI(K:Kn)(x:En):Kn×Int:=if zi K x=0 then ({K with es:=iQ K.bs K.es x.at' x.cap x.cw},0) else (K,zi K x)
def qu(es:List En)(s:Sl)(c:Cp):Bool:=es.any λx=>decide (0<x.cap.root)&&(decide (x.at'=s) || (decide (c.kind=3)&&decide (x.cap.kind=c.kind/\x.cap.num=c.num)))
def DI(c:Cp)(va:Nat):Nat:=if c.kind=3 then va/4194304*4194304 else va
def ui(K:Kn)(s:Sl)(c:Cp)(root:Int)(va:Nat)(rights:Int):(Nat->UInt8)×Int:=
 if qu K.es s c=true then (K.f,16)
 else if c.kind=3 then ((ly K.f K.n root (DI c va) c.num).1,((ly K.f K.n root (DI c va) c.num).2:Int))
 else if rights<0\/7<rights\/qh rights c.rights=false then (K.f,13)
 else ((j8 K.f K.n root va c.num rights).1,((j8 K.f K.n root va c.num rights).2:Int))
def nG(K:Kn)(s:Sl)(c:Cp)(root:Int)(va:Nat)(rights:Int):Kn×Int:=
 if (ui K s c root va rights).2=0 then ({K with f:=(ui K s c root va rights).1,es:=gO K.bs K.es s {c with root:=root+1,va:=(DI c va:Int)}},0)
 else ({K with f:=(ui K s c root va rights).1},(ui K s c root va rights).2)
def dj(K:Kn)(x:Mp):Kn×Int:=
 if (aI K.bs K.es x.at').2=0 then
  (if (aI K.bs K.es x.at').1.kind≠2/\(aI K.bs K.es x.at').1.kind≠3 then (K,12)
   else if dJ K.os K.rs (4,x.root)=false then (K,6)
   else nG K x.at' (aI K.bs K.es x.at').1 x.root x.va x.rights)
 else (K,(aI K.bs K.es x.at').2)
def pk(rg:Nat->Int):Nat->Int:=λj=>if j=0 then 0 else rg j
def di(K:Kn)(x:Tc):Kn×Int:=match da K.T x.num with
 |none=>(K,6)
 |some i=>if jn K.ss x.num x.cy x.prio=0 then
   (let y:={K.T.getD i .df with rg:=pk x.rg,pc:=x.pc}
    let s2:=de K.ss x.num x.cy x.prio
    if x.yA=true/\y.st≠1 then {K with T:=K.T.set i {y with st:=1},ss:=(if jw s2 x.num=0 then nJ s2 K.ck x.num else s2),ck:=(if jw s2 x.num=0 then K.ck+1 else K.ck)}
    else {K with T:=K.T.set i y,ss:=s2},0)
  else (K,jn K.ss x.num x.cy x.prio)
def fY(K:Kn)(x:Int×Int×Int):Kn×Int:=
 if x.1<0\/7<x.1 then (K,1) else if dJ K.os K.rs (8,x.2.1)=false then (K,6)
 else if (K.L.getD x.1.toNat .df).ga≠ -1 then (K,7) else ({K with L:=K.L.set x.1.toNat ⟨x.2.1,x.2.2,false,false⟩},0)
def bf{α:Type}(st:Kn->α->Kn×Int):Kn->List α->Nat->Kn×Int×Nat
 |K,[],_=>(K,0,0)
 |K,x::r,i=>if (st K x).2=0 then bf st (st K x).1 r (i+1) else ((st K x).1,(st K x).2,i)
def BB:Ln:=⟨-1,0,false,false⟩
def BE(S:Sk):Kn:=⟨S.n.toNat,λ_=>0,[],[],[],[],S.ts,0,(S.ts.getD 0 (0,0)).2,[],0,⟨[],[]⟩,[],List.replicate 8 BB,List.replicate 8 [],List.replicate 8 [],S.c⟩
def qj(ss:List Et):List Int->List Et
 |[]=>ss
 |n::r=>qj (de ss n 0 0) r
def Gu(K:Kn):Kn:={K with ss:=qj K.ss (K.T.map (·.num))}
def bO{α:Type}(st:Kn->α->Kn×Int)(q:Kn×Int×Nat)(l:List α):Kn×Int×Nat:=if q.2.1=0 then bf st q.1 l 0 else q
def Ew(S:Sk):Kn×Int×Nat:=bO fY (bO di (bO dj (bO dI (bO dB (bf dH (BE S) S.ob 0) S.eM) S.cp) S.mp) S.th) S.iq
def xN(S:Sk):Int×Nat:=if S.n<1\/256<S.n then (1,0) else if jN S.ts≠0 then (1,0) else (Ew S).2
def Tz(S:Sk):Kn:=Gu (Ew S).1
end Go.Proofs.YtdjlkahbpdoemaaGreatDoor

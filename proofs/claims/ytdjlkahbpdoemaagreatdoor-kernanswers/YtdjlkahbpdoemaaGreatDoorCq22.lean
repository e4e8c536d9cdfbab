import Derived.Test.YtdjlkahbpdoemaaGreatDoorCq9
import Derived.Lib.ItoaNum
set_option maxRecDepth 100000
set_option maxHeartbeats 8000000
set_option linter.unusedVariables false
set_option linter.unusedSimpArgs false
open Go Go.Vx Go.Proofs.Tryz Go.ChangeShapes Go.WideShapes Go.ChangeAt Go.RowKit
variable {a b im root:Int}{bm cb d n o pc q r t v:Nat}{R:Nat->Nat}{w w':Z0}{S U:Z1}
namespace Go.Vx
def sG(a:Nat):Int:=if 2147483648<=a then (a:Int) - 4294967296 else (a:Int)
def m32(v:Int):Nat:=(v % 4294967296).toNat
theorem DJ(v):m32 v<4294967296:=by unfold m32;omega
theorem BA(v):((m32 v:Nat):Int)=v % 4294967296:=by unfold m32;omega
def aeC(op a b:Nat):Bool:=if op=5 then decide (a=b) else if op=6 then decide (a≠b) else if op=7 then decide (sG a<sG b) else if op=8 then decide (sG b<=sG a) else if op=9 then decide (a<b) else decide (b<=a)
def N9(op:Nat):Nat:=if op=13\/op=18 then 4 else if op=12\/op=15\/op=17 then 2 else 1
def aeX(op a b:Nat):Nat:=
 if op=28 then m32 ((a:Int)+b) else if op=29 then m32 ((a:Int) - b) else if op=30 then m32 ((a:Int)*2^(b % 32)) else if op=31 then (if sG a<sG b then 1 else 0) else if op=32 then (if a<b then 1 else 0)
 else if op=33 then a^^^b else if op=34 then a/2^(b % 32) else if op=35 then m32 (sG a/2^(b % 32)) else if op=36 then a ||| b else a&&&b
def Sq(a b:Int):Nat:=m32 (a*b/4294967296)
def Mm(op a b:Nat):Nat:=
 if op=41 then m32 ((a:Int)*b) else if op=42 then Sq (sG a) (sG b) else if op=43 then Sq (sG a) b else if op=44 then Sq a b
 else if b=0 then (if op<=46 then 4294967295 else a) else if op=45 then m32 (Int.tdiv (sG a) (sG b)) else if op=46 then a/b else if op=47 then m32 (Int.tmod (sG a) (sG b)) else a % b
def opR(op:Nat):Nat:=if op=19 then 28 else if op=20 then 31 else if op=21 then 32 else if op=22 then 33 else if op=23 then 36 else if op=24 then 37 else if op=25 then 30 else if op=26 then 34 else if op=27 then 35 else op
def tK(op a b:Nat):Nat:=if op<=37 then aeX (opR op) a b else Mm op a b
theorem Dj(v):IntKind.u32.wrap v=(m32 v:Nat):=by rw[IntKind.wrap_u32,BA]
theorem Hn(a:Nat)(h:a<4294967296):IntKind.u32.wrap (a:Int)=(a:Int):=by rw[IntKind.wrap_u32];omega
end Go.Vx
namespace Go.Proofs.YtdjlkahbpdoemaaGreatDoor
theorem adz(v w):
  Zk 146 #[J v] w λe w'=>Zr e (J (m32 (v*4096):Nat))/\w'=w:=by
 have h1:IntKind.u32.wrap (v*4096)=(m32 (v*4096):Nat):=Dj _;go_enter func146,ntmps146;go_wp2_with fail;all_goals
  go_ret;rw[<-h1];exact⟨rfl,rfl⟩
theorem QS(v):((m32 v:Nat):Int)=wrap32 v % 4294967296:=by rw[BA];simp only[wrap32];omega
theorem ahb(a b:Nat)(_ha:a<4294967296)(_hb:b<4294967296)(w):
  Zk 233 #[O 41,J (a:Int),J (b:Int)] w λe w'=>Zr e (J (Mm 41 a b:Nat))/\w'=w:=by
 have c:Hid (Mm 41 a b=m32 ((a:Int)*b)):=rfl;have m1:IntKind.u32.wrap ((a:Int)*b)=(m32 ((a:Int)*b):Nat):=Dj _;go_enter func233,ntmps233;go_wp2_with fail;all_goals
  go_ret;rw[c.j];first|(rw[<-m1];exact⟨rfl,rfl⟩)|(rw[BA];exact⟨rfl,rfl⟩)|(rw[QS];exact⟨rfl,rfl⟩)
theorem af0(a b:Nat)(_ha:a<4294967296)(_hb:b<4294967296)(w):
  Zk 151 #[O 19,J (a:Int),J (b:Int)] w λe w'=>Zr e (J (tK 19 a b:Nat))/\w'=w:=by
 have c:Hid (tK 19 a b=m32 ((a:Int)+b)):=rfl;have⟨n,hn⟩:=Ze (b % 32);have t1:Int.tmod (b:Int) 32=(n:Int):=by rw[hn];rfl
 have t2:(b:Int) % 32=(n:Int):=by rw[hn];rfl
 have d:n<32:=by rw[hn];exact Nat.mod_lt _ I
 have t3:=Hn n Z;have m1:IntKind.u32.wrap ((a:Int)+b)=(m32 ((a:Int)+b):Nat):=Dj _;clear _ha _hb hn d;go_enter func151,ntmps151;go_wp2_with fail
 all_goals
  go_ret;rw[c.j]
  first|(rw[<-m1];exact⟨rfl,rfl⟩)|(rw[BA];exact⟨rfl,rfl⟩)|(rw[QS];exact⟨rfl,rfl⟩)
theorem aeZ(a b:Nat)(_ha:a<4294967296)(_hb:b<4294967296)(w):
  Zk 151 #[O 28,J (a:Int),J (b:Int)] w λe w'=>Zr e (J (tK 28 a b:Nat))/\w'=w:=by
 have c:Hid (tK 28 a b=m32 ((a:Int)+b)):=rfl;have⟨n,hn⟩:=Ze (b % 32);have t1:Int.tmod (b:Int) 32=(n:Int):=by rw[hn];rfl
 have t2:(b:Int) % 32=(n:Int):=by rw[hn];rfl
 have d:n<32:=by rw[hn];exact Nat.mod_lt _ I
 have t3:=Hn n Z;have m1:IntKind.u32.wrap ((a:Int)+b)=(m32 ((a:Int)+b):Nat):=Dj _;clear _ha _hb hn d;go_enter func151,ntmps151;go_wp2_with fail
 all_goals
  go_ret;rw[c.j]
  first|(rw[<-m1];exact⟨rfl,rfl⟩)|(rw[BA];exact⟨rfl,rfl⟩)|(rw[QS];exact⟨rfl,rfl⟩)
theorem aeY(a b:Nat)(_ha:a<4294967296)(_hb:b<4294967296)(w):
  Zk 151 #[O 41,J (a:Int),J (b:Int)] w λe w'=>Zr e (J (tK 41 a b:Nat))/\w'=w:=by
 have c:=Y (λd=>ahb a b _ha _hb d);have f:Hid (tK 41 a b=Mm 41 a b):=rfl;have⟨n,hn⟩:=Ze (b % 32);have t1:Int.tmod (b:Int) 32=(n:Int):=by rw[hn];rfl
 have t2:(b:Int) % 32=(n:Int):=by rw[hn];rfl
 have g:n<32:=by rw[hn];exact Nat.mod_lt _ I
 have t3:=Hn n Z;clear _ha _hb hn g;go_enter func151,ntmps151;go_wp2_with fail;refine(c.j _).e1 ?_;go_wp2_with fail
 all_goals
  go_ret;rw[f.j];exact⟨rfl,rfl⟩
end Go.Proofs.YtdjlkahbpdoemaaGreatDoor
namespace Go.Vx
def wY(e:Nat):Bool:=decide (e % 2=1)&&decide (e/2 % 8=0)&&decide (e/16 % 2=0)&&decide (e/64 % 4=0)
def Mg(u:Nat):Nat:=if u=0 then 8 else if u=1 then 2 else 4
def okB(u e:Nat):Bool:=decide (e % 2=1)&&(decide (e/2 % 2=1) || decide (e/8 % 2=1))&& !(decide (e/2 % 4=2))&&decide (e/Mg u % 2=1)&&decide (e/16 % 2=1)&&decide (e/64 % 2=1)&&(decide (u≠2) || decide (e/128 % 2=1))
theorem Oh(e m)(hm:m<256):e&&&m=(e % 256)&&&m:=by
 have h1:e&&&m<2^8:=Nat.lt_of_le_of_lt Nat.and_le_right hm;have c:=Nat.and_mod_two_pow (a:=e) (b:=m) (n:=8);rwa[Nat.mod_eq_of_lt h1,Nat.mod_eq_of_lt (show m<2^8 from hm)] at c
theorem ake(e):wY e=wY (e % 256):=by
 unfold wY;rw[show e % 256 % 2=e % 2 from Z,show e % 256/2 % 8=e/2 % 8 from Z,show e % 256/16 % 2=e/16 % 2 from Z,show e % 256/64 % 4=e/64 % 4 from Z]
theorem akf(e):decide (e&&&223=1)=wY e:=by
 rw[Oh e 223 I,ake e];have h:e % 256<256:=Nat.mod_lt _ I;generalize e % 256=m at h;revert m;decide+kernel
theorem ais(u e)(hu:u<3):okB u e=okB u (e % 256):=by
 have a:u=0\/u=1\/u=2:=Z;unfold okB;rw[show e % 256 % 2=e % 2 from Z,show e % 256/2 % 2=e/2 % 2 from Z,show e % 256/8 % 2=e/8 % 2 from Z,show e % 256/2 % 4=e/2 % 4 from Z,show e % 256/16 % 2=e/16 % 2 from Z,show e % 256/64 % 2=e/64 % 2 from Z,show e % 256/128 % 2=e/128 % 2 from Z];have hr:e % 256/Mg u % 2=e/Mg u % 2:=by
  rcases a with rfl|rfl|rfl
  ·show e % 256/8 % 2=e/8 % 2;omega
  ·show e % 256/2 % 2=e/2 % 2;omega
  show e % 256/4 % 2=e/4 % 2;omega
 rw[hr]
def FH(u:Nat):Nat:=if u=0 then 89 else if u=1 then 83 else 213
def FG(u:Nat):Nat:=if u=0 then 91 else if u=1 then 83 else 215
theorem Xp(u):FH u<256:=by unfold FH;split;decide;split<;>decide
theorem Xo(u):FG u<256:=by unfold FG;split;decide;split<;>decide
theorem ait(u e)(hu:u<3):okB u e=if e&&&4=0 then decide (e&&&FH u=FH u) else decide (e&&&FG u=FG u):=by
 rw[Oh e 4 I,Oh e (FH u) (Xp u),Oh e (FG u) (Xo u),ais u e hu];have h:e % 256<256:=Nat.mod_lt _ I;generalize e % 256=m at h;have a:u=0\/u=1\/u=2:=Z;rcases a with rfl|rfl|rfl
 ·revert m;decide+kernel
 ·revert m;decide+kernel
 revert m;decide+kernel
end Go.Vx
namespace Go.Proofs.YtdjlkahbpdoemaaGreatDoor
theorem Qv(e:Nat)(he:e<4294967296)(w):
  Zk 331 #[J (e:Int)] w λx w'=>x=.returned (O ((e/1024:Nat):Int))/\w'=w:=by
 have h1:(e:Int)/1024=((e/1024:Nat):Int):=Z;have hw:=Zh ((e/1024:Nat):Int) Z;generalize e/1024=p at h1 hw;have hb:(e:Int)<4294967296:=Z;go_enter func331,ntmps331;go_wp2;all_goals
  go_ret;refine⟨?_,rfl⟩;first|rfl|(simp[h1])
theorem akg(e:Nat)(he:e<4294967296)(w):
  Zk 359 #[J (e:Int)] w λx w'=>x=.returned (.bool (wY e))/\w'=w:=by
 have h1:bits .and .u32 (e:Int) 223=((e&&&223:Nat):Int):=by
  rw[u32_and (e:Int) 223 Z Z I I];rfl
 have a:=Y (akf e);generalize e&&&223=x at h1 a;generalize wY e=b at a;go_enter func359,ntmps359;go_wp2;all_goals
  go_ret;refine⟨?_,rfl⟩;rw[<-a.j];refine Bi (congrArg Value.bool ?_);rw[Bool.eq_iff_iff];simp;try omega
def zF(e S:Nat):Bool:=decide (e/1024*4096 % S=0)
theorem apw(e S o a b:Nat)(he:e<4294967296)(t:S=4096\/S=4194304)(u:a<256)(k:b<256)(h1:bits .or .u32 (o:Int) 81=(a:Int))(D:bits .or .u32 (a:Int) 2=(b:Int))(B)(q:B=if e&&&4=0 then decide (e&&&a=a) else decide (e&&&b=b))(w):
  Zk 330 #[J (e:Int),J (S:Int),J (o:Int)] w λx w'=>x=.returned (.bool (B&&zF e S))/\w'=w:=by
 have a4:bits .and .u32 (e:Int) 4=((e&&&4:Nat):Int):=by
  rw[u32_and (e:Int) 4 Z Z I I];rfl
 have v:bits .and .u32 (e:Int) (a:Int)=((e&&&a:Nat):Int):=by
  rw[u32_and (e:Int) (a:Int) Z Z Z Z];rfl
 have a2:bits .and .u32 (e:Int) (b:Int)=((e&&&b:Nat):Int):=by
  rw[u32_and (e:Int) (b:Int) Z Z Z Z];rfl
 have h:=Y (Qv e he);have y:e/1024<4194304:=Z;have s:IntKind.i64.wrap (((e/1024:Nat):Int)*4096)=((e/1024*4096:Nat):Int):=by rw[IntKind.wrap_i64];omega
 have F:=Zh (S:Int) Z;have z:¬(S:Int)=0:=Z;have A:¬(S:Int)= -1:=Z
 have hm:Int.tmod ((e/1024*4096:Nat):Int) (S:Int)=((e/1024*4096 % S:Nat):Int):=by
  rw[Int.tmod_eq_emod_of_nonneg Z];rfl
 have C:IntKind.i64.wrap ((e/1024*4096 % S:Nat):Int)=((e/1024*4096 % S:Nat):Int):=by
  have:e/1024*4096 % S<S:=Nat.mod_lt _ Z;rw[IntKind.wrap_i64];omega
 have j:Hid (zF e S=decide (e/1024*4096 % S=0)):=rfl;generalize zF e S=W at j;generalize e/1024*4096 % S=r at hm C j;generalize e/1024*4096=m at s hm;generalize e/1024=p at h s;have c:=Y q;generalize e&&&4=l at a4 c;generalize e&&&a=f at v c;generalize e&&&b=g at a2 c;clear he t q y u k;by_cases n:l=0
 ·subst n;have i:Hid (B=decide (f=a)):=by show _=_;rw[c.j,if_pos rfl]
  clear c;by_cases d:f=a
  ·have c1:((f:Int)==(a:Int))=true:=by simp[d]
   have c2:(f:Int)=(a:Int):=Z;obtain rfl:B=true:=by rw[i.j];simp[d]
   go_enter func330,ntmps330;go_wp2_with fail;refine(h.j _).e1 ?_;go_wp2_with fail
   all_goals
    go_ret;refine⟨?_,rfl⟩;rw[j.j];refine Bi (congrArg Value.bool ?_);rw[Bool.eq_iff_iff];simp
    try omega
  have c1:((f:Int)==(a:Int))=false:=by simp;omega
  have c2:¬(f:Int)=(a:Int):=Z;obtain rfl:B=false:=by rw[i.j];simp[d]
  go_enter func330,ntmps330;go_wp2_with fail;refine(h.j _).e1 ?_;go_wp2_with fail
  all_goals
   go_ret;exact⟨by simp,rfl⟩
 have G:¬(l:Int)=0:=Z;have K:((l:Int) !=0)=true:=by simp[n]
 have i:Hid (B=decide (g=b)):=by show _=_;rw[c.j,if_neg n]
 clear c;by_cases d:g=b
 ·have c1:((g:Int)==(b:Int))=true:=by simp[d]
  have c2:(g:Int)=(b:Int):=Z;obtain rfl:B=true:=by rw[i.j];simp[d]
  go_enter func330,ntmps330;go_wp2_with fail;refine(h.j _).e1 ?_;go_wp2_with fail
  all_goals
   go_ret;refine⟨?_,rfl⟩;rw[j.j];refine Bi (congrArg Value.bool ?_);rw[Bool.eq_iff_iff];simp
   try omega
 have c1:((g:Int)==(b:Int))=false:=by simp;omega
 have c2:¬(g:Int)=(b:Int):=Z;obtain rfl:B=false:=by rw[i.j];simp[d]
 go_enter func330,ntmps330;go_wp2_with fail;refine(h.j _).e1 ?_;go_wp2_with fail
 all_goals
  go_ret;exact⟨by simp,rfl⟩
def eC(f:Nat->UInt8)(n:Nat)(p:Int)(k:Nat):Nat×Nat:=if p<0\/(n:Int)<=p then (0,1) else (bM f (4096*p.toNat+4*k),0)
theorem Tn(f n p k):(eC f n p k).1<4294967296:=by
 unfold eC;split
 ·show 0<4294967296;decide
 exact LN _ _
theorem XF{f:Nat->UInt8}(h:cP U w bm n f)(p)(k:Nat)(hk:k<1024):
  Zk 358 #[M bm,O p,J (k:Int)] w λx w'=>x=.returned (.tuple #[J ((eC f n p k).1:Nat),O ((eC f n p k).2:Nat)])/\Zq w w':=by
 have hn:n<=256:=by obtain⟨bp,q,h⟩:=h;exact h.top
 have d:=Y (Qu h);by_cases c:p<0
 ·have b:Hid (eC f n p k=(0,1)):=if_pos (Or.inl c);have d0:decide (p<0)=true:=decide_eq_true c;go_enter func358,ntmps358;go_wp2_with fail;all_goals
   go_ret2;rw[b.j];exact⟨rfl,H.refl _ _⟩
 have d0:decide (p<0)=false:=decide_eq_false c;by_cases h1:(n:Int)<=p
 ·have b:Hid (eC f n p k=(0,1)):=if_pos (Or.inr h1);go_enter func358,ntmps358;go_wp2_with fail;refine d.j.e1 ?_;go_wp2_with fail;all_goals
   go_ret2;rw[b.j];exact⟨rfl,H.refl _ _⟩
 obtain⟨m,rfl⟩:∃m:Nat,p=(m:Int):=⟨p.toNat,Z⟩;have b:Hid (eC f n (m:Int) k=(bM f (4096*m+4*k),0)):=by
  show eC f n (m:Int) k=_;unfold eC;rw[if_neg Z];rfl
 have e:=Y (LL (Y h).j (4096*m+4*k) Z Z);have w1:=Zh ((m:Int)*4096) Z;have w2:=Zh ((k:Int)*4) Z;have w3:=Zh (k:Int) Z;have g:IntKind.i64.wrap ((m:Int)*4096+(k:Int)*4)=((4096*m+4*k:Nat):Int):=by rw[IntKind.wrap_i64];omega
 have i:(m:Int)*4096+(k:Int)*4=((4096*m+4*k:Nat):Int):=Z;generalize 4096*m+4*k=a at b e g i;go_enter func358,ntmps358;go_wp2_with fail;refine d.j.e1 ?_;go_wp2_with fail;refine e.j.m ?_;rintro z l ⟨rfl,j⟩;go_wp2_with fail;all_goals
  go_ret2;rw[b.j];exact⟨rfl,(Y j).j⟩
def fL(f:Nat->UInt8)(n:Nat)(root:Int)(va:Nat):Nat×Nat×Nat:=
 if (eC f n root (va/4194304)).2≠0\/wY (eC f n root (va/4194304)).1=false then ((eC f n root (va/4194304)).1,4194304,(eC f n root (va/4194304)).2)
 else ((eC f n (((eC f n root (va/4194304)).1/1024:Nat):Int) (va % 4194304/4096)).1,4096,(eC f n (((eC f n root (va/4194304)).1/1024:Nat):Int) (va % 4194304/4096)).2)
theorem MG(f n root va):fL f n root va=
 if (eC f n root (va/4194304)).2≠0\/wY (eC f n root (va/4194304)).1=false then ((eC f n root (va/4194304)).1,4194304,(eC f n root (va/4194304)).2)
 else ((eC f n (((eC f n root (va/4194304)).1/1024:Nat):Int) (va % 4194304/4096)).1,4096,(eC f n (((eC f n root (va/4194304)).1/1024:Nat):Int) (va % 4194304/4096)).2):=rfl
theorem To(f n p k):(eC f n p k).2=0\/(eC f n p k).2=1:=by
 unfold eC;split
 ·exact Or.inr rfl
 exact Or.inl rfl
theorem akd{f:Nat->UInt8}(h:cP U w bm n f)(root)(va:Nat)(K:va<4294967296):
  Zk 329 #[M bm,O root,J (va:Int)] w λx w'=>x=.returned (.tuple #[J ((fL f n root va).1:Nat),J ((fL f n root va).2.1:Nat),O ((fL f n root va).2.2:Nat)])/\Zq w w':=by
 have B:Int.tdiv (va:Int) 4194304=((va/4194304:Nat):Int):=by rw[Int.tdiv_eq_ediv_of_nonneg Z];omega
 have C:Int.tmod (va:Int) 4194304=((va % 4194304:Nat):Int):=by rw[Int.tmod_eq_emod_of_nonneg Z];omega
 have s:Int.tdiv ((va % 4194304:Nat):Int) 4096=((va % 4194304/4096:Nat):Int):=by rw[Int.tdiv_eq_ediv_of_nonneg Z];omega
 have j:(va:Int)/4194304=((va/4194304:Nat):Int):=Z;have k:(va:Int) % 4194304=((va % 4194304:Nat):Int):=Z;have t:((va % 4194304:Nat):Int)/4096=((va % 4194304/4096:Nat):Int):=Z;have D:Hid ((va:Int)<4294967296):=by show(va:Int)<_;omega
 have d:=Y (XF h root (va/4194304) Z);have a:=Y (MG f n root va);have u:va % 4194304/4096<1024:=Z;have l:=Tn f n root (va/4194304);have dM:=To f n root (va/4194304);have v:Hid (∀w2,Zq w w2->∀p:Int,Zk 358 #[M bm,O p,J ((va % 4194304/4096:Nat):Int)] w2 λx w'=>x=.returned (.tuple #[J ((eC f n p (va % 4194304/4096)).1:Nat),O ((eC f n p (va % 4194304/4096)).2:Nat)])/\Zq w w'):=λw2 y p=>by
  refine(XF (h.only y (λ_ h _=>h.elim)) p _ u).m ?_;rintro x w' ⟨rfl,b⟩;exact⟨rfl,y.trans b⟩
 generalize va % 4194304/4096=A at s t a v u;generalize va % 4194304=v2 at C k s t;generalize va/4194304=c at B j a d l dM;have i:=Y (λm=>akg (eC f n root c).1 l m);have o:=Y (λm=>Qv (eC f n root c).1 l m);have F:(eC f n root c).1/1024<4194304:=Z;generalize (eC f n root c).1/1024=pg at o a F;generalize wY (eC f n root c).1=G at i a;generalize (eC f n root c).1=e1 at d a i o;generalize (eC f n root c).2=r1 at d a dM;generalize fL f n root va=q at a;have N:=D.j;rcases dM with rfl|rfl
 ·cases G with
  |false=>
   have e:Hid (q=(e1,4194304,0)):=by show _=_;rw[a.j,if_pos (Or.inr rfl)]
   go_enter func329,ntmps329;go_wp2_with fail;refine d.j.m ?_;rintro z r ⟨rfl,b⟩;have g:=Y b;go_wp2_with fail;refine(i.j _).e1 ?_;go_wp2_with fail;all_goals
    go_ret3;rw[e.j];exact⟨rfl,g.j⟩
  |true=>
   have e:Hid (q=((eC f n (pg:Int) A).1,4096,(eC f n (pg:Int) A).2)):=by show _=_;rw[a.j,if_neg (by simp)]
   go_enter func329,ntmps329;go_wp2_with fail;refine d.j.m ?_;rintro z r ⟨rfl,b⟩;have g:=Y b;go_wp2_with fail;refine(i.j _).e1 ?_;go_wp2_with fail;refine(o.j _).e1 ?_;go_wp2_with fail;refine(v.j r g.j (pg:Int)).m ?_;rintro z P ⟨rfl,b⟩;go_wp2_with fail;all_goals
    go_ret3;rw[e.j];exact⟨rfl,(Y b).j⟩
 have e:Hid (q=(e1,4194304,1)):=by show _=_;rw[a.j,if_pos (Or.inl I)]
 go_enter func329,ntmps329;go_wp2_with fail;refine d.j.m ?_;rintro z r ⟨rfl,b⟩;have g:=Y b;go_wp2_with fail;all_goals
  go_ret3;rw[e.j];exact⟨rfl,g.j⟩
end Go.Proofs.YtdjlkahbpdoemaaGreatDoor
namespace Go.Vx
def DG(u:Nat):Nat:=if u=0 then 8 else if u=1 then 2 else 132
def Dy(u:Nat):Nat:=if u=0 then 12 else if u=1 then 13 else 15
def AL(u:Nat):Nat:=if u=0 then 1 else if u=1 then 5 else 7
end Go.Vx
namespace Go.Proofs.YtdjlkahbpdoemaaGreatDoor
def rY(w:Z0):Prop:=∀u,u<3->w.cell? (E 6 (u*3))=some (J (DG u:Nat))/\w.cell? (E 6 (u*3+1))=some (O (Dy u:Nat))/\w.cell? (E 6 (u*3+2))=some (O (AL u:Nat))
theorem rY.only(h:rY w)(a:H S w w')(b:¬S 6):rY w':=by
 have c:=World.block_lt_of_cell? w _ (h 0 I).1;intro u hu;have⟨d,h1,e⟩:=h u hu;exact⟨(a.cell (p:=E 6 (u*3)) c b)▸d,(a.cell (p:=E 6 (u*3+1)) c b)▸h1,(a.cell (p:=E 6 (u*3+2)) c b)▸e⟩
def JU(n u va:Nat)(e S:Nat):Nat×Int:=
 if (okB u e&&zF e S)=false then (0,(Dy u:Nat)) else if 4096*n<=e/1024*4096+va % S then (0,(AL u:Nat)) else (e/1024*4096+va % S, -1)
def tX(f:Nat->UInt8)(n:Nat)(root:Int)(va:Nat)(use:Int):Nat×Int:=
 if use<0\/3<=use then (0,2)
 else if (fL f n root va).2.2≠0 then (0,(AL use.toNat:Nat)) else JU n use.toNat va (fL f n root va).1 (fL f n root va).2.1
theorem aqe(p root va use)(h:use<0\/3<=use)(w):
  Zk 295 #[p,O root,J va,O use] w λx w'=>x=.returned (.tuple #[O 0,O 2])/\w'=w:=by
 by_cases a:use<0
 ·have d0:decide (use<0)=true:=decide_eq_true a;go_enter func295,ntmps295;go_wp2_with fail;all_goals
   go_ret2;exact⟨rfl,rfl⟩
 have d0:decide (use<0)=false:=decide_eq_false a;have h1:3<=use:=Z;go_enter func295,ntmps295;go_wp2_with fail;all_goals
  go_ret2;exact⟨rfl,rfl⟩
theorem QV(f n root va):(fL f n root va).2.1=4096\/(fL f n root va).2.1=4194304:=by
 rw[MG];split
 ·exact Or.inr rfl
 exact Or.inl rfl
theorem QW(f n root va):(fL f n root va).1<4294967296:=by
 rw[MG];split
 ·exact Tn _ _ _ _
 exact Tn _ _ _ _
theorem akc(f n root va):(fL f n root va).2.2=0\/(fL f n root va).2.2=1:=by
 rw[MG];split
 ·exact To _ _ _ _
 exact To _ _ _ _
theorem apx(u e S:Nat)(hu:u<3)(he:e<4294967296)(b:S=4096\/S=4194304)(w):
  Zk 330 #[J (e:Int),J (S:Int),J (DG u:Nat)] w λx w'=>x=.returned (.bool (okB u e&&zF e S))/\w'=w:=by
 have a:u=0\/u=1\/u=2:=Z;refine apw e S (DG u) (FH u) (FG u) he b (Xp u) (Xo u) ?_ ?_ (okB u e) (ait u e hu) w
 ·rcases a with rfl|rfl|rfl<;>kernel_rfl
 rcases a with rfl|rfl|rfl<;>kernel_rfl
theorem adn{f:Nat->UInt8}(h:cP U w bm n f)(K:rY w)(root)(va:Nat)(N:va<4294967296)(u:Nat)(hu:u<3):
  Zk 295 #[M bm,O root,J (va:Int),O (u:Int)] w λx w'=>x=.returned (.tuple #[O ((tX f n root va u).1:Nat),O (tX f n root va u).2])/\Zq w w':=by
 have⟨A,P,Q⟩:=K u hu;have R:=World.block_lt_of_cell? w _ A;have C:=Y h;have hn:n<=256:=by obtain⟨bp,q,h⟩:=h;exact h.top
 have l:=Y (λd (hv:Zq w d)=>akd (C.j.only hv (λ_ h _=>h.elim)) root va N);have i:=Y (λd=>apx u (fL f n root va).1 (fL f n root va).2.1 hu (QW f n root va) (QV f n root va) d);have p:=Y (λd=>Qv (fL f n root va).1 (QW f n root va) d);have T:=QV f n root va;have hr:=akc f n root va;have D:(fL f n root va).1/1024<4194304:=by have:=QW f n root va;omega
 have a:Hid (tX f n root va u=if (fL f n root va).2.2≠0 then (0,((AL u:Nat):Int)) else if (okB u (fL f n root va).1&&zF (fL f n root va).1 (fL f n root va).2.1)=false then (0,((Dy u:Nat):Int)) else if 4096*n<=(fL f n root va).1/1024*4096+va % (fL f n root va).2.1 then (0,((AL u:Nat):Int)) else ((fL f n root va).1/1024*4096+va % (fL f n root va).2.1, -1)):=by
  show tX f n root va u=_;unfold tX JU;rw[if_neg Z];rfl
 generalize tX f n root va u=WF at a;generalize (okB u (fL f n root va).1&&zF (fL f n root va).1 (fL f n root va).2.1)=B at i a;generalize (fL f n root va).1/1024=pg at p D a;generalize (fL f n root va).2.2=c at l hr a;generalize (fL f n root va).2.1=S at l i T a;generalize (fL f n root va).1=e at l i p;have F:va % S<S:=Nat.mod_lt _ Z;have t1:Int.tmod (va:Int) (S:Int)=((va % S:Nat):Int):=by rw[Int.tmod_eq_emod_of_nonneg Z];rfl
 have t2:(va:Int) % (S:Int)=((va % S:Nat):Int):=rfl;have V:¬(S:Int)=0:=Z;have W:¬S=0:=Z;have w1:=Zh ((pg:Int)*4096) Z;have w2:=Zh ((va % S:Nat):Int) Z;have w3:=Zh ((n:Int)*4096) Z;have X:va % S<4194304:=Z;generalize va % S=r at t1 t2 w2 F X a;have w4:=Zh ((pg:Int)*4096+(r:Int)) Z;have iX:0<=(u:Int)/\(u:Int)<3:=Z;have d0:decide ((u:Int)<0)=false:=decide_eq_false Z;have d1:¬3<=(u:Int):=Z;have HU:=Y hu;have HB:=Y (And.intro D (And.intro F hn));generalize DG u=s at A i;generalize Dy u=m at P a;generalize AL u=AC at Q a;go_enter func295,ntmps295;go_wp2_with fail;refine(l.j _ ((H.refl _ w).alloc _)).m ?_;rintro z j ⟨rfl,G⟩;have k:=Y ((((H.refl (λ_=>False) w).alloc (.cells #[Value.int .u32 (s:Int),O (m:Int),O (AC:Int)] 445)).trans G));have t:j.heap[w.heap.size]?=some (.cells #[Value.int .u32 (s:Int),O (m:Int),O (AC:Int)] 445 (0,0)):=by
  rw[G.block w.heap.size (by simp) id];exact heap_alloc_last w _
 have g0:j.cell? (E w.heap.size 0)=some (J (s:Int)):=by rw[cell_of_row _ _ 0 _ _ (0,0) t];rfl
 have g1:j.cell? (E w.heap.size 1)=some (O (m:Int)):=by rw[cell_of_row _ _ 1 _ _ (0,0) t];rfl
 have g2:j.cell? (E w.heap.size 2)=some (O (AC:Int)):=by rw[cell_of_row _ _ 2 _ _ (0,0) t];rfl
 have Cs:=g1;have JP:=g2;have v:=g2;generalize w.heap.size=g at g0 g1 g2 Cs JP v R;rcases hr with rfl|rfl
 ·cases B with
  |false=>
   have b:Hid (WF=(0,(m:Int))):=by show _=_;rw[a.j];rfl
   go_wp2_with fail;refine(i.j _).e1 ?_;go_wp2_with fail;go_region;all_goals
    go_wp2;go_ret2;rw[b.j]
    exact⟨rfl,k.j.drew⟩
  |true=>
   have b:Hid (WF=if 4096*n<=pg*4096+r then (0,(AC:Int)) else (pg*4096+r, -1)):=by show _=_;rw[a.j];rfl
   clear a;go_wp2_with fail;refine(i.j _).e1 ?_;go_wp2_with fail;have OG:=Y (p.j j.drew)
   go_region_law (refine VC rfl 331 #[.tmp 44] #[27] rfl #[J (e:Int)] (by simp[Act.eval,Act.put]) (by simp[go_sem]) OG.j ?_;rintro z w' ⟨rfl,h⟩;have h2:=h.symm;clear h;subst h2;refine⟨_,rfl,?_⟩)
   all_goals
    go_wp2_with fail;refine((Y (λd (hv:Zq w d)=>Qu (C.j.only hv (λ_ h _=>h.elim)))).j _ k.j.drew).e1 ?_;by_cases o:4096*n<=pg*4096+r
    ·have c1:(n:Int)*4096<=(pg:Int)*4096+(r:Int):=Z;have y:Hid (WF=(0,(AC:Int))):=by show _=_;rw[b.j,if_pos o]
     clear o b;go_wp2_with fail
     go_region
     all_goals
      go_wp2
      go_ret2;rw[y.j];exact⟨rfl,k.j.drew.drew⟩
    have c1:¬(n:Int)*4096<=(pg:Int)*4096+(r:Int):=Z;have y:Hid (WF=(pg*4096+r, -1)):=by show _=_;rw[b.j,if_neg o]
    clear o b;go_wp2_with fail
    all_goals
     go_ret2;rw[y.j];exact⟨rfl,k.j.drew⟩
 have b:Hid (WF=(0,(AC:Int))):=by show _=_;rw[a.j];rfl
 clear a;go_wp2_with fail
 go_region
 all_goals
  go_wp2
  go_ret2;rw[b.j];exact⟨rfl,k.j.drew⟩
end Go.Proofs.YtdjlkahbpdoemaaGreatDoor
namespace Go.Vx
def FJ(u:Nat):Nat:=if u=0 then 0 else if u=1 then 4 else 6
def Bn(va len u:Nat)(W:Nat×Int):Except (Int×Nat) Nat:=
 if va % len≠0 then .error ((FJ u:Nat),va) else if W.2≠ -1 then .error (W.2,va) else .ok W.1
end Go.Vx
namespace Go.Proofs.YtdjlkahbpdoemaaGreatDoor
def Bb(c:Int)(t:Nat):List PanicEntry:=[{v:=.iface 285 (.agg #[O c,J (t:Int)]),recovered:=false}]
theorem aey(va:Nat)(a:va % 4=0)(w):
  Zk 147 #[J (va:Int)] w λe w'=>Zr e (J (va:Int))/\w'=w:=by
 have t1:Int.tmod (va:Int) 4=0:=by rw[Int.tmod_eq_emod_of_nonneg Z];omega
 have t2:(va:Int) % 4=0:=Z;go_enter func147,ntmps147;go_wp2_with fail;all_goals
  go_ret;exact⟨rfl,rfl⟩
theorem aeA(va:Nat)(a:va % 4≠0)(w):
  Zk 147 #[J (va:Int)] w λe w'=>e=.panicked (Bb 0 va)/\w'=w:=by
 have⟨r,hr⟩:=Ze (va % 4:Nat);have t1:Int.tmod (va:Int) 4=(r:Int):=by rw[Int.tmod_eq_emod_of_nonneg Z];omega
 have t2:(va:Int) % 4=(r:Int):=Z;have b:¬(r:Int)=0:=Z;have c:((r:Int) !=0)=true:=by simp;omega
 have w0:=Hn r Z;clear a hr;go_enter func147,ntmps147;go_wp2_with fail
 all_goals
  exact⟨rfl,rfl,rfl⟩
def aO(R:Nat->Nat)(r:Nat):Nat:=if r=0 then 0 else R r
structure UB(w:Z0)(cb off:Nat)(R:Nat->Nat)(pc:Nat):Prop where
 r:∀i,i<32->w.cell? (E cb (off+i))=some (J (R i:Nat))
 p:w.cell? (E cb (off+32))=some (J (pc:Int))
theorem agD{off:Nat}(h:UB w cb off R pc)(m root)(r:Nat)(hr:r<32):
  Zk 145 #[.agg #[m,O root,.pointer (some (E cb off))],O (r:Int)] w λe w'=>Zr e (J (aO R r:Nat))/\Zq w w':=by
 by_cases a:r=0
 ·subst a;go_enter func145,ntmps145;go_wp2_with fail;all_goals
   go_ret;exact⟨rfl,(H.refl _ w).alloc _⟩
 have b:Hid (aO R r=R r):=if_neg a;have c:=h.r r hr;have d:=World.block_lt_of_cell? w _ c;have c0:¬(r:Int)=0:=Z;have hi:0<=(r:Int)/\(r:Int)<32:=Z;go_enter func145,ntmps145;go_wp2_with fail;all_goals
  go_ret;rw[b.j];exact⟨rfl,(H.refl _ w).alloc _⟩
def tO(w:Z0):Prop:=∀u,u<3->w.cell? (E 2 u)=some (O (FJ u:Nat))
theorem tO.only(h:tO w)(a:H S w w')(b:¬S 2):tO w':=by
 have c:=World.block_lt_of_cell? w _ (h 0 I);intro u hu;rw[a.cell (p:=E 2 u) c b];exact h u hu
def jL(f:Nat->UInt8)(n:Nat)(root:Int)(va len u:Nat):Except (Int×Nat) Nat:=Bn va len u (tX f n root va u)
theorem am9{f:Nat->UInt8}(h:cP U w bm n f)(q:rY w)(s:tO w)(root cp)(va:Nat)(v:va<4294967296)(len:Nat)(F:1<=len)(x:len<=4)(u:Nat)(hu:u<3):
  Zk 228 #[.agg #[M bm,O root,.pointer (some cp)],J (va:Int),J (len:Int),O (u:Int)] w λe w'=>((∃c t,jL f n root va len u=.error (c,t)/\e=.panicked (Bb c t))\/∃a,jL f n root va len u=.ok a/\Zr e (O (a:Nat)))/\Zq w w':=by
 have t1:Int.tmod (va:Int) (len:Int)=((va % len:Nat):Int):=by rw[Int.tmod_eq_emod_of_nonneg Z];rfl
 have t2:(va:Int) % (len:Int)=((va % len:Nat):Int):=rfl;have G:¬(len:Int)=0:=Z;have hr:va % len<4:=by have:=Nat.mod_lt va (show len>0 from Z);omega
 have g:=Y (λy (hv:Zq w y)=>adn ((Y h).j.only hv (λ_ h _=>h.elim)) ((Y q).j.only hv id) root va v u hu);have b:Hid (jL f n root va len u=Bn va len u (tX f n root va u)):=rfl;have A:=s u hu;have K:=World.block_lt_of_cell? w _ A;have hi:0<=(u:Int)/\(u:Int)<3:=Z;generalize tX f n root va u=WF at g b;generalize jL f n root va len u=i at b;have⟨o,cs⟩:=WF;have⟨r,p⟩:∃r,va % len=r:=⟨_,rfl⟩;rw[p] at t1 t2 hr;have w0:=Hn r Z;have j:=Y p;by_cases B:r=0
 ·subst B;by_cases k:cs= -1
  ·subst k;have d:Hid (i=.ok o):=by show _=_;rw[b.j];unfold Bn;rw[if_neg (by have:=j.j;omega),if_neg (by simp)]
   go_enter func228,ntmps228;go_wp2_with fail;refine(g.j _ ((H.refl _ w).alloc _)).m ?_;rintro z C ⟨rfl,l⟩;have m:=Y (((H.refl (λ_=>False) w).alloc (.cells #[M bm,O root,.pointer (some cp)] 238)).trans l);go_wp2_with fail;all_goals
    go_ret;exact⟨Or.inr ⟨o,d.j,rfl⟩,m.j⟩
  have d:Hid (i=.error (cs,va)):=by show _=_;rw[b.j];unfold Bn;rw[if_neg (by have:=j.j;omega),if_pos k]
  have D:(cs != -1)=true:=by simpa using k
  go_enter func228,ntmps228;go_wp2_with fail;refine(g.j _ ((H.refl _ w).alloc _)).m ?_;rintro z C ⟨rfl,l⟩;have m:=Y (((H.refl (λ_=>False) w).alloc (.cells #[M bm,O root,.pointer (some cp)] 238)).trans l);go_wp2_with fail;all_goals
   exact⟨rfl,Or.inl ⟨cs,va,d.j,rfl⟩,m.j⟩
 have d:Hid (i=.error ((FJ u:Nat),va)):=by show _=_;rw[b.j];unfold Bn;rw[if_pos (by have:=j.j;omega)]
 have D:((r:Int) !=0)=true:=by simp;omega
 have N:¬(r:Int)=0:=Z;go_enter func228,ntmps228;go_wp2_with fail;all_goals
  exact⟨rfl,Or.inl ⟨_,va,d.j,rfl⟩,(H.refl _ w).alloc _⟩
end Go.Proofs.YtdjlkahbpdoemaaGreatDoor
namespace Go.Vx
section
open Go.RowKit (wrap32 wrap64)
structure Ins where
 op:Int
 rd:Int
 bQ:Int
 bt:Int
 bu:Int
def kinds:List Nat:=[0,1,1,2,3,6,6,6,6,6,6,3,3,3,3,3,7,7,7,3,3,3,3,3,3,4,4,4,5,5,5,5,5,5,5,5,5,5,3,0,0,5,5,5,5,5,5,5,5]
def forms:List Nat:=[0,55,23,111,103,99,4195,16483,20579,24675,28771,3,4099,8195,16387,20483,35,4131,8227,19,8211,12307,16403,24595,28691,4115,20499,1073762323,51,1073741875,4147,8243,12339,16435,20531,1073762355,24627,28723,15,115,1048691,33554483,33558579,33562675,33566771,33570867,33574963,33579059,33583155]
def kindOf(op:Int):Nat:=kinds.getD op.toNat 0
def oR(op:Int):Nat:=forms.getD op.toNat 0
def lz(k:Nat):Nat:=[0,3968,3968,1019776,1019776,33525632,33521664,33521664].getD k 0
def zY(k:Nat):Nat:=[0,4294967168,4294967168,4294938496,33525632,33525632,4294938496,4294938496].getD k 0
def NW(k:Nat):Nat:=4294967295 - zY k
def mT(k:Nat)(x:Int):Int:=
 match k with
 |1=>x/4096 - x/2147483648*1048576
 |2=>x/4096 % 256*4096+x/1048576 % 2*2048+x/2097152 % 1024*2 - x/2147483648*1048576
 |3=>x/1048576 - x/2147483648*4096
 |4=>x/1048576 % 32
 |6=>x/128 % 2*2048+x/33554432 % 64*32+x/256 % 16*2 - x/2147483648*4096
 |7=>x/33554432*32+x/128 % 32 - x/2147483648*4096
 |_=>0
def iP(k:Nat)(x:Int):Int:=
 match k with
 |1=>x % 1048576*4096
 |2=>x/1048576 % 2*2147483648+x/2 % 1024*2097152+x/2048 % 2*1048576+x/4096 % 256*4096
 |3=>x % 4096*1048576
 |4=>x % 32*1048576
 |6=>x/4096 % 2*2147483648+x/32 % 64*33554432+x/2 % 16*256+x/2048 % 2*128
 |7=>x/32 % 128*33554432+x % 32*128
 |_=>0
theorem afk(x)(a:0<=x)(h1:x<4294967296):x*4096 % 4294967296=iP 1 x:=by
 simp only[iP];omega
theorem afi(x)(a:0<=x)(h1:x<4294967296):x*1048576 % 4294967296=iP 3 x:=by
 simp only[iP];omega
theorem afj(x)(a:0<=x)(h1:x<4294967296):
  bits .or .u32 (bits .or .u32 (bits .or .u32 (bits .and .u32 (x*2048 % 4294967296) 2147483648) (bits .and .u32 (x*1048576 % 4294967296) 2145386496)) (bits .and .u32 (x*512 % 4294967296) 1048576)) (bits .and .u32 x 1044480)=iP 2 x:=by
 rw[ir 31 1 2147483648 2 (x*2048 % 4294967296) 2147483648 Z Z rfl rfl rfl I,ir 21 10 2097152 1024 (x*1048576 % 4294967296) 2145386496 Z Z rfl rfl rfl I,
  ir 20 1 1048576 2 (x*512 % 4294967296) 1048576 Z Z rfl rfl rfl I,ir 12 8 4096 256 (x) 1044480 Z Z rfl rfl rfl I,
  U7 31 21 20 2147483648 2097152 1048576 _ _ _ _ rfl rfl rfl I I I Z Z Z]
 simp only[iP];omega
theorem afh(x)(a:0<=x)(h1:x<4294967296):bits .and .u32 (x*1048576 % 4294967296) 32505856=iP 4 x:=by
 rw[ir 20 5 1048576 32 (x*1048576 % 4294967296) 32505856 Z Z rfl rfl rfl I];simp only[iP];omega
theorem afg(x)(a:0<=x)(h1:x<4294967296):
  bits .or .u32 (bits .or .u32 (bits .or .u32 (bits .and .u32 (x*524288 % 4294967296) 2147483648) (bits .and .u32 (x*1048576 % 4294967296) 2113929216)) (bits .and .u32 (x*128 % 4294967296) 3840)) (bits .and .u32 (x/16) 128)=iP 6 x:=by
 rw[ir 31 1 2147483648 2 (x*524288 % 4294967296) 2147483648 Z Z rfl rfl rfl I,ir 25 6 33554432 64 (x*1048576 % 4294967296) 2113929216 Z Z rfl rfl rfl I,
  ir 8 4 256 16 (x*128 % 4294967296) 3840 Z Z rfl rfl rfl I,ir 7 1 128 2 (x/16) 128 Z Z rfl rfl rfl I,
  U7 31 25 8 2147483648 33554432 256 _ _ _ _ rfl rfl rfl I I I Z Z Z]
 simp only[iP];omega
theorem aff(x)(a:0<=x)(h1:x<4294967296):
  bits .or .u32 (bits .and .u32 (x*1048576 % 4294967296) 4261412864) (bits .and .u32 (x*128 % 4294967296) 3968)=iP 7 x:=by
 rw[ir 25 7 33554432 128 (x*1048576 % 4294967296) 4261412864 Z Z rfl rfl rfl I,ir 7 5 128 32 (x*128 % 4294967296) 3968 Z Z rfl rfl rfl I,Ba 25 33554432 _ _ rfl I Z];simp only[iP];omega
theorem an5(x)(a:0<=x)(h1:x<4294967296):wrap64 (wrap32 x/4096)=mT 1 x:=by
 simp only[wrap64,wrap32,mT];omega
theorem an3(x)(a:0<=x)(h1:x<4294967296):wrap64 (wrap32 x/1048576)=mT 3 x:=by
 simp only[wrap64,wrap32,mT];omega
theorem an2(x)(a:0<=x)(h1:x<4294967296):wrap64 (bits .and .u32 (x/1048576) 31)=mT 4 x:=by
 rw[ir 0 5 1 32 (x/1048576) 31 Z Z rfl rfl rfl I];simp only[wrap64,mT];omega
theorem Ho(x)(a: -9223372036854775808<=x)(h1:x<9223372036854775808):wrap64 x=x:=by simp only[wrap64];omega
theorem O7(x)(a:0<=x)(h1:x<2147483648):wrap32 x=x:=by simp only[wrap32];omega
theorem ad1(x)(a:0<=x)(h1:x<4294967296):wrap32 (wrap32 x/2147483648*1048576)= -(x/2147483648*1048576):=by simp only[wrap32];omega
theorem ad0(x)(a:0<=x)(h1:x<4294967296):wrap32 (wrap32 x/2147483648*4096)= -(x/2147483648*4096):=by simp only[wrap32];omega
theorem acZ(x)(a:0<=x)(h1:x<4294967296):wrap32 (wrap32 x/33554432*32)=x/33554432*32 - x/2147483648*4096:=by simp only[wrap32];omega
theorem an4(x)(a:0<=x)(h1:x<4294967296):
  wrap64 (bits .or .i32 (wrap32 (wrap32 x/2147483648*1048576)) (wrap32 (bits .or .u32 (bits .or .u32 (bits .and .u32 x 1044480) (bits .and .u32 (x/512) 2048)) (bits .and .u32 (x/1048576) 2046))))=mT 2 x:=by
 rw[ad1 x a h1,ir 12 8 4096 256 (x) 1044480 Z Z rfl rfl rfl I,ir 11 1 2048 2 (x/512) 2048 Z Z rfl rfl rfl I,ir 1 10 2 1024 (x/1048576) 2046 Z Z rfl rfl rfl I,
  Pn 12 11 4096 2048 _ _ _ rfl rfl I I Z Z,O7 _ Z Z,Rf 20 1048576 _ _ rfl I Z]
 have e1:x/512/2048=x/1048576:=Z;have b:x/1048576/2=x/2097152:=Z;rw[e1,b,Ho _ Z Z];simp only[mT];omega
theorem an1(x)(a:0<=x)(h1:x<4294967296):
  wrap64 (bits .or .i32 (wrap32 (wrap32 x/2147483648*4096)) (wrap32 (bits .or .u32 (bits .or .u32 (bits .and .u32 (x*16 % 4294967296) 2048) (bits .and .u32 (x/1048576) 2016)) (bits .and .u32 (x/128) 30))))=mT 6 x:=by
 rw[ad0 x a h1,ir 11 1 2048 2 (x*16 % 4294967296) 2048 Z Z rfl rfl rfl I,ir 5 6 32 64 (x/1048576) 2016 Z Z rfl rfl rfl I,ir 1 4 2 16 (x/128) 30 Z Z rfl rfl rfl I,
  Pn 11 5 2048 32 _ _ _ rfl rfl I I Z Z,O7 _ Z Z,Rf 12 4096 _ _ rfl I Z]
 have e1:x*16 % 4294967296/2048 % 2=x/128 % 2:=Z;have b:x/1048576/32=x/33554432:=Z;have c:x/128/2=x/256:=Z;rw[e1,b,c,Ho _ Z Z];simp only[mT];omega
theorem an0(x)(a:0<=x)(h1:x<4294967296):
  wrap64 (bits .or .i32 (wrap32 (wrap32 x/33554432*32)) (wrap32 (bits .and .u32 (x/128) 31)))=mT 7 x:=by
 rw[acZ x a h1,ir 0 5 1 32 (x/128) 31 Z Z rfl rfl rfl I,O7 _ Z Z,Rf 5 32 _ _ rfl I Z];simp only[wrap64,mT];omega
def yB(k:Nat)(x:Int):Int:=if 1<=k/\k<=5 then x/128 % 32 else 0
def zM(k:Nat)(x:Int):Int:=if 3<=k then x/32768 % 32 else 0
def zL(k:Nat)(x:Int):Int:=if 5<=k then x/1048576 % 32 else 0
theorem Pk(a n:Nat)(x m)(b:0<=x)(h1:x<4294967296)(hm:m=(((2^a - 1)*32768+3968:Nat):Int))(f:(2^a - 1)*32768+3968<4294967296)(hn:n=2^a):
  bits .and .u32 x m=x/32768 % (n:Int)*32768+x/128 % 32*128:=by
 subst hm hn;rw[u32_and x _ b h1 (Int.natCast_nonneg _) Z,Int.toNat_natCast];have e:=Xv 15 x.toNat (2^a - 1) 3968 I;have c:=Xu 7 5 (x.toNat % 32768);simp only[Nat.reducePow,Nat.reduceSub,Nat.reduceMul] at e c;rw[e,Xt,c];have g:((2^a:Nat):Int)=((2^a:Nat):Int):=rfl;generalize 2^a=q at*;obtain⟨n,rfl⟩:=Int.eq_ofNat_of_zero_le b;rw[Int.toNat_natCast];have d:n % 32768/128 % 32=n/128 % 32:=Z;rw[d];simp only[Int.natCast_add,Int.natCast_mul,Int.natCast_emod,Int.natCast_ediv];rfl
theorem Mi(k)(hk:k<=7)(x)(a:0<=x)(h1:x<4294967296):
  bits .and .u32 x (lz k)=(if 5<=k then x/32768 % 1024*32768 else if 3<=k then x/32768 % 32*32768 else 0)+(if 1<=k/\k<=5 then x/128 % 32*128 else 0):=by
 have b:k=0\/k=1\/k=2\/k=3\/k=4\/k=5\/k=6\/k=7:=Z;rcases b with rfl|rfl|rfl|rfl|rfl|rfl|rfl|rfl
 ·have e:=ir 0 0 1 1 x 0 a h1 rfl rfl rfl I;have r:((lz 0:Nat):Int)=0:=rfl;rw[r,e];simp
 ·have e:=ir 7 5 128 32 x 3968 a h1 rfl rfl rfl I;have r:((lz 1:Nat):Int)=3968:=rfl;rw[r,e];simp
 ·have e:=ir 7 5 128 32 x 3968 a h1 rfl rfl rfl I;have r:((lz 2:Nat):Int)=3968:=rfl;rw[r,e];simp
 ·have e:=Pk 5 32 x 1019776 a h1 rfl I rfl;have r:((lz 3:Nat):Int)=1019776:=rfl;rw[r,e];simp
 ·have e:=Pk 5 32 x 1019776 a h1 rfl I rfl;have r:((lz 4:Nat):Int)=1019776:=rfl;rw[r,e];simp
 ·have e:=Pk 10 1024 x 33525632 a h1 rfl I rfl;have r:((lz 5:Nat):Int)=33525632:=rfl;rw[r,e];simp
 ·have e:=ir 15 10 32768 1024 x 33521664 a h1 rfl rfl rfl I;have r:((lz 6:Nat):Int)=33521664:=rfl;rw[r,e];simp
 have e:=ir 15 10 32768 1024 x 33521664 a h1 rfl rfl rfl I;have r:((lz 7:Nat):Int)=33521664:=rfl;rw[r,e];simp
theorem agI(k)(hk:k<=7)(x)(a:0<=x)(h1:x<4294967296):wrap64 (bits .and .u32 (bits .and .u32 x (lz k)/128) 31)=yB k x:=by
 rw[Mi k hk x a h1,ir 0 5 1 32 _ 31 (by split<;>split<;>(try split)<;>omega) (by split<;>split<;>(try split)<;>omega) rfl rfl rfl I,Ho _ Z Z];simp only[yB];split<;>split<;>(try split)<;>omega
theorem ag3(k)(hk:k<=7)(x)(a:0<=x)(h1:x<4294967296):wrap64 (bits .and .u32 (bits .and .u32 x (lz k)/32768) 31)=zM k x:=by
 rw[Mi k hk x a h1,ir 0 5 1 32 _ 31 (by split<;>split<;>(try split)<;>omega) (by split<;>split<;>(try split)<;>omega) rfl rfl rfl I,Ho _ Z Z];simp only[zM];split<;>split<;>(try split)<;>omega
theorem ag2(k)(hk:k<=7)(x)(a:0<=x)(h1:x<4294967296):wrap64 (bits .and .u32 (bits .and .u32 x (lz k)/1048576) 31)=zL k x:=by
 rw[Mi k hk x a h1,ir 0 5 1 32 _ 31 (by split<;>split<;>(try split)<;>omega) (by split<;>split<;>(try split)<;>omega) rfl rfl rfl I,Ho _ Z Z];simp only[zL];split<;>split<;>(try split)<;>omega
def ins(op x:Int):Ins:=⟨op,yB (kindOf op) x,zM (kindOf op) x,zL (kindOf op) x,mT (kindOf op) x⟩
def Dh:Ins:=⟨0,0,0,0,0⟩
def fj(i:Ins):Value:=.agg #[O i.op,O i.rd,O i.bQ,O i.bt,O i.bu]
def fits(op x:Int):Bool:=(x.toNat&&&NW (kindOf op))==oR op
def oe:Nat->Int->Int->Ins
 |0,_,_=>Dh
 |n+1,op,x=>if fits op x then ins op x else oe n (op+1) x
def dec(x:Int):Ins:=oe 48 1 x
theorem FP(op):kindOf op<=7:=by
 have h:∀n:Nat,kinds.getD n 0<=7:=by
  intro n;by_cases hn:n<49
  ·have:∀m:Fin 49,kinds.getD m.val 0<=7:=I;exact this ⟨n,hn⟩
  have:kinds.getD n 0=0:=by
   rw[List.getD_eq_getElem?_getD,List.getElem?_eq_none (by simp[kinds];omega)];rfl
  omega
 exact h _
theorem anm(op):oR op<4294967296:=by
 have h:∀n:Nat,forms.getD n 0<4294967296:=by
  intro n;by_cases hn:n<49
  ·have:∀m:Fin 49,forms.getD m.val 0<4294967296:=I;exact this ⟨n,hn⟩
  have:forms.getD n 0=0:=by
   rw[List.getD_eq_getElem?_getD,List.getElem?_eq_none (by simp[forms];omega)];rfl
  omega
 exact h _
theorem ajU(k):zY k<4294967296:=by
 unfold zY;by_cases hn:k<8
 ·have:∀m:Fin 8,[0,4294967168,4294967168,4294938496,33525632,33525632,4294938496,4294938496].getD m.val 0<4294967296:=I;exact this ⟨k,hn⟩
 rw[List.getD_eq_getElem?_getD,List.getElem?_eq_none (by simp;omega)];decide
theorem anp(op x)(a:0<=x)(h1:x<4294967296):(bits .andNot .u32 x (zY (kindOf op))==(oR op:Int))=fits op x:=by
 have b:=ajU (kindOf op);rw[u32_andNot x _ a h1 Z Z,Int.toNat_natCast];unfold fits NW;rw[Bool.eq_iff_iff];simp only[beq_iff_eq];omega
theorem Ti(n op x)(h:fits op x=true):oe (n+1) op x=ins op x:=by simp[oe,h]
theorem aaU(n op x)(h:fits op x=false):oe (n+1) op x=oe n (op+1) x:=by simp[oe,h]
end
def Fz(cs:Array Value)(n:Nat):Value:=cs.toList.getD n (.bool false)
end Go.Vx
namespace Go.Proofs.YtdjlkahbpdoemaaGreatDoor
section
open Go.Vx (Ins)
theorem kJ{k:IntKind}(h:a=b):Ending.returned (.int k a)=.returned (.int k b):=h▸rfl
theorem sL{a b:Z3}(h:a=b):Ending.returned a=.returned b:=h▸rfl
theorem cat(a b:Z2):(⟨a.toArray⟩:ByteArray)++⟨b.toArray⟩=⟨(a++b).toArray⟩:=by
 apply ByteArray.ext;simp[ByteArray.data_append]
theorem ID(N)(h:N<18446744073709551616):Lib.nDigits N<=20:=by
 by_cases h1:1<=N
 ·have:=Lib.numDigits_eq N h1 h;split at this<;>omega
 have:N=0:=Z;subst this;decide+kernel
theorem Rb(p)(l:Z2)(k)(hp:p=⟨l.toArray⟩)(hk:k<l.length)(wv):
  (Instr.index 9 (.string p) (O (k:Int))).run prog wv=.ok (.int .u8 ((l[k].toNat:Nat):Int)) wv:=by
 subst hp;have hs:(ByteArray.mk l.toArray).size=l.length:=by simp[ByteArray.size]
 rw[run_index_string wv 9 _ .i64 (k:Int) underlying9,dif_pos Z];simp only[Int.toNat_natCast];rfl
end
end Go.Proofs.YtdjlkahbpdoemaaGreatDoor
namespace Go.Vx
def WL:List (Z2):=[
 [],
 [116,115,114,113,112,111,110,109,108,107,106,105,104,103,102,101,100,99,98,97,68,68,68,68,68,48,49,49,48,49,49,49],
 [116,115,114,113,112,111,110,109,108,107,106,105,104,103,102,101,100,99,98,97,68,68,68,68,68,48,48,49,48,49,49,49],
 [117,107,106,105,104,103,102,101,100,99,98,108,116,115,114,113,112,111,110,109,68,68,68,68,68,49,49,48,49,49,49,49],
 [108,107,106,105,104,103,102,101,100,99,98,97,83,83,83,83,83,48,48,48,68,68,68,68,68,49,49,48,48,49,49,49],
 [109,107,106,105,104,103,102,84,84,84,84,84,83,83,83,83,83,48,48,48,101,100,99,98,108,49,49,48,48,48,49,49],
 [109,107,106,105,104,103,102,84,84,84,84,84,83,83,83,83,83,48,48,49,101,100,99,98,108,49,49,48,48,48,49,49],
 [109,107,106,105,104,103,102,84,84,84,84,84,83,83,83,83,83,49,48,48,101,100,99,98,108,49,49,48,48,48,49,49],
 [109,107,106,105,104,103,102,84,84,84,84,84,83,83,83,83,83,49,48,49,101,100,99,98,108,49,49,48,48,48,49,49],
 [109,107,106,105,104,103,102,84,84,84,84,84,83,83,83,83,83,49,49,48,101,100,99,98,108,49,49,48,48,48,49,49],
 [109,107,106,105,104,103,102,84,84,84,84,84,83,83,83,83,83,49,49,49,101,100,99,98,108,49,49,48,48,48,49,49],
 [108,107,106,105,104,103,102,101,100,99,98,97,83,83,83,83,83,48,48,48,68,68,68,68,68,48,48,48,48,48,49,49],
 [108,107,106,105,104,103,102,101,100,99,98,97,83,83,83,83,83,48,48,49,68,68,68,68,68,48,48,48,48,48,49,49],
 [108,107,106,105,104,103,102,101,100,99,98,97,83,83,83,83,83,48,49,48,68,68,68,68,68,48,48,48,48,48,49,49],
 [108,107,106,105,104,103,102,101,100,99,98,97,83,83,83,83,83,49,48,48,68,68,68,68,68,48,48,48,48,48,49,49],
 [108,107,106,105,104,103,102,101,100,99,98,97,83,83,83,83,83,49,48,49,68,68,68,68,68,48,48,48,48,48,49,49],
 [108,107,106,105,104,103,102,84,84,84,84,84,83,83,83,83,83,48,48,48,101,100,99,98,97,48,49,48,48,48,49,49],
 [108,107,106,105,104,103,102,84,84,84,84,84,83,83,83,83,83,48,48,49,101,100,99,98,97,48,49,48,48,48,49,49],
 [108,107,106,105,104,103,102,84,84,84,84,84,83,83,83,83,83,48,49,48,101,100,99,98,97,48,49,48,48,48,49,49],
 [108,107,106,105,104,103,102,101,100,99,98,97,83,83,83,83,83,48,48,48,68,68,68,68,68,48,48,49,48,48,49,49],
 [108,107,106,105,104,103,102,101,100,99,98,97,83,83,83,83,83,48,49,48,68,68,68,68,68,48,48,49,48,48,49,49],
 [108,107,106,105,104,103,102,101,100,99,98,97,83,83,83,83,83,48,49,49,68,68,68,68,68,48,48,49,48,48,49,49],
 [108,107,106,105,104,103,102,101,100,99,98,97,83,83,83,83,83,49,48,48,68,68,68,68,68,48,48,49,48,48,49,49],
 [108,107,106,105,104,103,102,101,100,99,98,97,83,83,83,83,83,49,49,48,68,68,68,68,68,48,48,49,48,48,49,49],
 [108,107,106,105,104,103,102,101,100,99,98,97,83,83,83,83,83,49,49,49,68,68,68,68,68,48,48,49,48,48,49,49],
 [48,48,48,48,48,48,48,101,100,99,98,97,83,83,83,83,83,48,48,49,68,68,68,68,68,48,48,49,48,48,49,49],
 [48,48,48,48,48,48,48,101,100,99,98,97,83,83,83,83,83,49,48,49,68,68,68,68,68,48,48,49,48,48,49,49],
 [48,49,48,48,48,48,48,101,100,99,98,97,83,83,83,83,83,49,48,49,68,68,68,68,68,48,48,49,48,48,49,49],
 [48,48,48,48,48,48,48,84,84,84,84,84,83,83,83,83,83,48,48,48,68,68,68,68,68,48,49,49,48,48,49,49],
 [48,49,48,48,48,48,48,84,84,84,84,84,83,83,83,83,83,48,48,48,68,68,68,68,68,48,49,49,48,48,49,49],
 [48,48,48,48,48,48,48,84,84,84,84,84,83,83,83,83,83,48,48,49,68,68,68,68,68,48,49,49,48,48,49,49],
 [48,48,48,48,48,48,48,84,84,84,84,84,83,83,83,83,83,48,49,48,68,68,68,68,68,48,49,49,48,48,49,49],
 [48,48,48,48,48,48,48,84,84,84,84,84,83,83,83,83,83,48,49,49,68,68,68,68,68,48,49,49,48,48,49,49],
 [48,48,48,48,48,48,48,84,84,84,84,84,83,83,83,83,83,49,48,48,68,68,68,68,68,48,49,49,48,48,49,49],
 [48,48,48,48,48,48,48,84,84,84,84,84,83,83,83,83,83,49,48,49,68,68,68,68,68,48,49,49,48,48,49,49],
 [48,49,48,48,48,48,48,84,84,84,84,84,83,83,83,83,83,49,48,49,68,68,68,68,68,48,49,49,48,48,49,49],
 [48,48,48,48,48,48,48,84,84,84,84,84,83,83,83,83,83,49,49,48,68,68,68,68,68,48,49,49,48,48,49,49],
 [48,48,48,48,48,48,48,84,84,84,84,84,83,83,83,83,83,49,49,49,68,68,68,68,68,48,49,49,48,48,49,49],
 [108,107,106,105,104,103,102,101,100,99,98,97,83,83,83,83,83,48,48,48,68,68,68,68,68,48,48,48,49,49,49,49],
 [48,48,48,48,48,48,48,48,48,48,48,48,48,48,48,48,48,48,48,48,48,48,48,48,48,49,49,49,48,48,49,49],
 [48,48,48,48,48,48,48,48,48,48,48,49,48,48,48,48,48,48,48,48,48,48,48,48,48,49,49,49,48,48,49,49],
 [48,48,48,48,48,48,49,84,84,84,84,84,83,83,83,83,83,48,48,48,68,68,68,68,68,48,49,49,48,48,49,49],
 [48,48,48,48,48,48,49,84,84,84,84,84,83,83,83,83,83,48,48,49,68,68,68,68,68,48,49,49,48,48,49,49],
 [48,48,48,48,48,48,49,84,84,84,84,84,83,83,83,83,83,48,49,48,68,68,68,68,68,48,49,49,48,48,49,49],
 [48,48,48,48,48,48,49,84,84,84,84,84,83,83,83,83,83,48,49,49,68,68,68,68,68,48,49,49,48,48,49,49],
 [48,48,48,48,48,48,49,84,84,84,84,84,83,83,83,83,83,49,48,48,68,68,68,68,68,48,49,49,48,48,49,49],
 [48,48,48,48,48,48,49,84,84,84,84,84,83,83,83,83,83,49,48,49,68,68,68,68,68,48,49,49,48,48,49,49],
 [48,48,48,48,48,48,49,84,84,84,84,84,83,83,83,83,83,49,49,48,68,68,68,68,68,48,49,49,48,48,49,49],
 [48,48,48,48,48,48,49,84,84,84,84,84,83,83,83,83,83,49,49,49,68,68,68,68,68,48,49,49,48,48,49,49]]
def pic(op:Int):Z2:=WL.getD op.toNat []
structure St where
 rd:Int
 bQ:Int
 bt:Int
 bu:Int
 top:Int
def aqn(c:UInt8)(b:Int)(s:St):Option St:=
 if c=48 then (if b=0 then some s else none)
 else if c=49 then (if b=1 then some s else none)
 else if c=68 then some {s with rd:=2*s.rd+b}
 else if c=83 then some {s with bQ:=2*s.bQ+b}
 else if c=84 then some {s with bt:=2*s.bt+b}
 else some {s with bu:=s.bu+b*2^(c.toNat - 97),top:=if s.top<(c.toNat:Int) - 97 then (c.toNat:Int) - 97 else s.top}
def s0:St:=⟨0,0,0,0, -1⟩
def fix:Nat->Nat->Z2
 |0,_=>[]
 |n+1,v=>(if v/2^n % 2=1 then 49 else 48)::fix n v
def letters(a:Nat):Nat->Z2
 |0=>[]
 |m+1=>UInt8.ofNat (97+a+m)::letters a m
def WN(k f:Nat):Z2:=
 match k with
 |1=>letters 0 20++(List.replicate 5 68++(fix 7 f++[]))
 |2=>letters 20 1++(letters 1 10++(letters 11 1++(letters 12 8++(List.replicate 5 68++(fix 7 f++[])))))
 |3=>letters 0 12++(List.replicate 5 83++(fix 3 (f/4096)++(List.replicate 5 68++(fix 7 f++[]))))
 |4=>fix 7 (f/33554432)++(letters 0 5++(List.replicate 5 83++(fix 3 (f/4096)++(List.replicate 5 68++(fix 7 f++[])))))
 |5=>fix 7 (f/33554432)++(List.replicate 5 84++(List.replicate 5 83++(fix 3 (f/4096)++(List.replicate 5 68++(fix 7 f++[])))))
 |6=>letters 12 1++(letters 5 6++(List.replicate 5 84++(List.replicate 5 83++(fix 3 (f/4096)++(letters 1 4++(letters 11 1++(fix 7 f++[])))))))
 |7=>letters 5 7++(List.replicate 5 84++(List.replicate 5 83++(fix 3 (f/4096)++(letters 0 5++(fix 7 f++[])))))
 |_=>fix 32 f++[]
theorem ahG:∀n:Fin 49,1<=n.val->WL.getD n.val []=WN (kinds.getD n.val 0) (forms.getD n.val 0):=by decide+kernel
theorem aqp(op)(a:1<=op)(h1:op<=48):pic op=WN (kindOf op) (oR op):=by
 have:=ahG ⟨op.toNat,Z⟩ (by show 1<=op.toNat;omega);exact this
def ze(k f:Nat):Bool:=
 match k with
 |1=>f==f % 128
 |2=>f==f % 128
 |3=>f==f/4096 % 8*4096+f % 128
 |4=>f==f/33554432 % 128*33554432+f/4096 % 8*4096+f % 128
 |5=>f==f/33554432 % 128*33554432+f/4096 % 8*4096+f % 128
 |6=>f==f/4096 % 8*4096+f % 128
 |7=>f==f/4096 % 8*4096+f % 128
 |_=>f==f % 4294967296
theorem anh:∀n:Fin 49,ze (kinds.getD n.val 0) (forms.getD n.val 0)=true:=by decide+kernel
theorem anl(op)(a:1<=op)(h1:op<=48):ze (kindOf op) (oR op)=true:=anh ⟨op.toNat,Z⟩
def L(hi r2 r1 f3 rd op:Nat):Nat:=((((hi*2^5+r2)*2^5+r1)*2^3+f3)*2^5+rd)*2^7+op
theorem W8(hi r2 r1 f3 rd op f a b c d e)(g:r2<32/\a<32)(h1:r1<32/\b<32)(h:f3<8/\c<8)(i:rd<32/\d<32)(j:op<128/\e<128):
  L hi r2 r1 f3 rd op ||| L f a b c d e=L (hi ||| f) (r2 ||| a) (r1 ||| b) (f3 ||| c) (rd ||| d) (op ||| e):=by
 unfold L;rw[IC 7 _ _ _ _ j.1 j.2,IC 5 _ _ _ _ i.1 i.2,IC 3 _ _ _ _ h.1 h.2,IC 5 _ _ _ _ h1.1 h1.2,IC 5 _ _ _ _ g.1 g.2]
theorem kW(hi r2 r1 f3 rd op):L hi r2 r1 f3 rd op=hi*33554432+r2*1048576+r1*32768+f3*4096+rd*128+op:=by
 unfold L;omega
theorem ai6(a b c hi r2 r1 f3 rd op t i j k l m x o p q r s)(y:a=L hi r2 r1 f3 rd op)(z:b=L t i j k l m)(A:c=L x o p q r s)(d:r2<32/\i<32/\o<32)(h1:r1<32/\j<32/\p<32)(e:f3<8/\k<8/\q<8)(f:rd<32/\l<32/\r<32)(g:op<128/\m<128/\s<128)(z0:(hi=0/\t=0)\/(hi=0/\x=0)\/(t=0/\x=0))(B:(r2=0/\i=0)\/(r2=0/\o=0)\/(i=0/\o=0))(z2:(r1=0/\j=0)\/(r1=0/\p=0)\/(j=0/\p=0))(z3:(f3=0/\k=0)\/(f3=0/\q=0)\/(k=0/\q=0))(z4:(rd=0/\l=0)\/(rd=0/\r=0)\/(l=0/\r=0))(z5:(op=0/\m=0)\/(op=0/\s=0)\/(m=0/\s=0)):
  a ||| b ||| c=a+b+c:=by
 have key:∀u v w:Nat,(u=0/\v=0)\/(u=0/\w=0)\/(v=0/\w=0)->u ||| v ||| w=u+v+w:=by
  intro u v w h;rcases h with⟨rfl,rfl⟩|⟨rfl,rfl⟩|⟨rfl,rfl⟩<;>simp
 have lt:∀n u v:Nat,u<2^n->v<2^n->u ||| v<2^n:=λn u v hu hv=>Nat.or_lt_two_pow hu hv
 rw[y,z,A,W8 _ _ _ _ _ _ _ _ _ _ _ _ ⟨d.1,d.2.1⟩ ⟨h1.1,h1.2.1⟩ ⟨e.1,e.2.1⟩ ⟨f.1,f.2.1⟩ ⟨g.1,g.2.1⟩,
  W8 _ _ _ _ _ _ _ _ _ _ _ _ ⟨lt 5 _ _ d.1 d.2.1,d.2.2⟩ ⟨lt 5 _ _ h1.1 h1.2.1,h1.2.2⟩ ⟨lt 3 _ _ e.1 e.2.1,e.2.2⟩ ⟨lt 5 _ _ f.1 f.2.1,f.2.2⟩ ⟨lt 7 _ _ g.1 g.2.1,g.2.2⟩,
  key _ _ _ z0,key _ _ _ B,key _ _ _ z2,key _ _ _ z3,key _ _ _ z4,key _ _ _ z5]
 simp only[kW];omega
theorem abn(k a b):bits .or k a b=bits .or k b a:=by
 show k.wrap ((BitVec.ofInt k.bits a ||| BitVec.ofInt k.bits b).toNat:Int)=k.wrap ((BitVec.ofInt k.bits b ||| BitVec.ofInt k.bits a).toNat:Int);rw[BitVec.or_comm]
theorem agC(rd bQ bt):
  bits .or .u32 (bits .or .u32 (bits .and .u32 (rd % 4294967296) 31*128 % 4294967296) (bits .and .u32 (bQ % 4294967296) 31*32768 % 4294967296)) (bits .and .u32 (bt % 4294967296) 31*1048576 % 4294967296)
   =rd % 32*128+bQ % 32*32768+bt % 32*1048576:=by
 rw[ir 0 5 1 32 (rd % 4294967296) 31 Z Z rfl rfl rfl I,ir 0 5 1 32 (bQ % 4294967296) 31 Z Z rfl rfl rfl I,
  ir 0 5 1 32 (bt % 4294967296) 31 Z Z rfl rfl rfl I]
 have e1:rd % 4294967296/1 % 32*1*128 % 4294967296=rd % 32*128:=Z;have a:bQ % 4294967296/1 % 32*1*32768 % 4294967296=bQ % 32*32768:=Z;have b:bt % 4294967296/1 % 32*1*1048576 % 4294967296=bt % 32*1048576:=Z;rw[e1,a,b,abn .u32 (rd % 32*128),Ba 15 32768 (bQ % 32*32768) (rd % 32*128) rfl I Z,abn .u32 _ (bt % 32*1048576),Ba 20 1048576 _ _ rfl I Z];omega
def Fs(k:Nat)(i:Ins):Int:=(if 1<=k/\k<=5 then i.rd % 32*128 else 0)+(if 3<=k then i.bQ % 32*32768 else 0)+(if 5<=k then i.bt % 32*1048576 else 0)
def bT(i:Ins):Int:=oR i.op+Fs (kindOf i.op) i+iP (kindOf i.op) (i.bu % 4294967296)
theorem agB(k)(hk:k<=7)(i):bits .and .u32 (i.rd % 32*128+i.bQ % 32*32768+i.bt % 32*1048576) (lz k)=Fs k i:=by
 rw[Mi k hk _ Z Z];unfold Fs;split<;>split<;>(try split)<;>(try split)<;>(try split)<;>omega
theorem W7(a b c)(ha:0<=a/\a<4294967296)(hb:0<=b/\b<4294967296)(d:0<=c/\c<4294967296)(h:a.toNat ||| b.toNat ||| c.toNat=a.toNat+b.toNat+c.toNat)(hs:a+b+c<4294967296):
  bits .or .u32 (bits .or .u32 a b) c=a+b+c:=by
 rw[u32_or a b ha.1 ha.2 hb.1 hb.2];have e:a.toNat ||| b.toNat<4294967296:=Nat.or_lt_two_pow (n:=32) Z Z
 rw[u32_or _ c Z Z d.1 d.2,Int.toNat_natCast,h];omega
theorem DB(hi r2 r1 f3 rd op a b c d e f g i j k l n)(t:hi+a+g<128)(o:r2<32/\b<32/\i<32)(h1:r1<32/\c<32/\j<32)(p:f3<8/\d<8/\k<8)(q:rd<32/\e<32/\l<32)(r:op<128/\f<128/\n<128)(z0:(hi=0/\a=0)\/(hi=0/\g=0)\/(a=0/\g=0))(s:(r2=0/\b=0)\/(r2=0/\i=0)\/(b=0/\i=0))(z2:(r1=0/\c=0)\/(r1=0/\j=0)\/(c=0/\j=0))(z3:(f3=0/\d=0)\/(f3=0/\k=0)\/(d=0/\k=0))(z4:(rd=0/\e=0)\/(rd=0/\l=0)\/(e=0/\l=0))(z5:(op=0/\f=0)\/(op=0/\n=0)\/(f=0/\n=0)):
  bits .or .u32 (bits .or .u32 (L hi r2 r1 f3 rd op:Nat) (L a b c d e f:Nat)) (L g i j k l n:Nat)=(L hi r2 r1 f3 rd op:Nat)+(L a b c d e f:Nat)+(L g i j k l n:Nat):=by
 have key:∀u v w m:Nat,(u=0/\v=0)\/(u=0/\w=0)\/(v=0/\w=0)->u<m/\v<m/\w<m->u+v+w<m:=by
  intro u v w m h hm;rcases h with⟨rfl,rfl⟩|⟨rfl,rfl⟩|⟨rfl,rfl⟩<;>omega
 have x:=key _ _ _ 32 s o;have y:=key _ _ _ 32 z2 h1;have z:=key _ _ _ 8 z3 p;have A:=key _ _ _ 32 z4 q;have B:=key _ _ _ 128 z5 r;have hs:L hi r2 r1 f3 rd op+L a b c d e f+L g i j k l n<4294967296:=by
  simp only[kW];omega
 refine W7 _ _ _ Z Z Z ?_ Z;simp only[Int.toNat_natCast];exact ai6 _ _ _ _ _ _ _ _ _ _ _ _ _ _ _ _ _ _ _ _ _ rfl rfl rfl o h1 p q r z0 s z2 z3 z4 z5
theorem adf(k f i)(hk:k<=7)(hf:ze k f=true)(j:f<4294967296):
  bits .or .u32 (bits .or .u32 (f:Int) (Fs k i)) (iP k (i.bu % 4294967296))=f+Fs k i+iP k (i.bu % 4294967296):=by
 have u:k=0\/k=1\/k=2\/k=3\/k=4\/k=5\/k=6\/k=7:=Z;have l:0<=i.bu % 4294967296:=Z;generalize i.bu % 4294967296=y at l;have p:0<=i.rd % 32/\i.rd % 32<32:=Z;have q:0<=i.bQ % 32/\i.bQ % 32<32:=Z;have r:0<=i.bt % 32/\i.bt % 32<32:=Z;unfold Fs;generalize i.rd % 32=rd at p;generalize i.bQ % 32=bQ at q;generalize i.bt % 32=bt at r;obtain⟨rd,rfl⟩:=Int.eq_ofNat_of_zero_le p.1;obtain⟨bQ,rfl⟩:=Int.eq_ofNat_of_zero_le q.1;obtain⟨bt,rfl⟩:=Int.eq_ofNat_of_zero_le r.1;have x:rd<32:=Z;have h1:bQ<32:=Z;have z:bt<32:=Z;rcases u with rfl|rfl|rfl|rfl|rfl|rfl|rfl|rfl
 ·simp only[iP];rw[W7 _ _ _ Z (by simp) (by simp) (by simp) (by simp;omega)]
 ·simp only[ze,beq_iff_eq] at hf;simp only[iP];have b:f % 128<128:=Nat.mod_lt _ I;generalize f % 128=a at hf b;subst hf;have⟨s,hs⟩:=Int.eq_ofNat_of_zero_le (show 0<=y % 1048576 from Z);have bs:s<1048576:=Z;rw[hs];have e1:(f:Int)=((L 0 0 0 0 0 f:Nat):Int):=by rw[kW];omega
  have c:((if 1<=1/\1<=5 then (rd:Int)*128 else 0)+(if 3<=1 then (bQ:Int)*32768 else 0)+(if 5<=1 then (bt:Int)*1048576 else 0))=((L 0 0 0 0 rd 0:Nat):Int):=by rw[kW];simp;try omega
  have d:(s:Int)*4096=((L (s/8192) (s/256 % 32) (s/8 % 32) (s % 8) 0 0:Nat):Int):=by rw[kW];omega
  rw[e1,c,d];exact DB _ _ _ _ _ _ _ _ _ _ _ _ _ _ _ _ _ _ Z Z Z Z Z Z (by simp) (by simp) (by simp) (by simp) (by simp) (by simp)
 ·simp only[ze,beq_iff_eq] at hf;simp only[iP];have b:f % 128<128:=Nat.mod_lt _ I;generalize f % 128=a at hf b;subst hf;clear j;obtain⟨A,g⟩:=Int.eq_ofNat_of_zero_le (show 0<=y/1048576 % 2 from Z);have bA:A<2:=Z;obtain⟨B,h⟩:=Int.eq_ofNat_of_zero_le (show 0<=y/2 % 1024 from Z);have t:B<1024:=Z;obtain⟨C,m⟩:=Int.eq_ofNat_of_zero_le (show 0<=y/2048 % 2 from Z);have v:C<2:=Z;obtain⟨D,n⟩:=Int.eq_ofNat_of_zero_le (show 0<=y/4096 % 256 from Z);have w:D<256:=Z;rw[g,h,m,n];clear g h m n l;have e1:(f:Int)=((L 0 0 0 0 0 f:Nat):Int):=by rw[kW];omega
  have c:((if 1<=2/\2<=5 then (rd:Int)*128 else 0)+(if 3<=2 then (bQ:Int)*32768 else 0)+(if 5<=2 then (bt:Int)*1048576 else 0))=((L 0 0 0 0 rd 0:Nat):Int):=by rw[kW];simp;try omega
  have d:(A:Int)*2147483648+(B:Int)*2097152+(C:Int)*1048576+(D:Int)*4096=((L (A*64+B/16) (B % 16*2+C) (D/8) (D % 8) 0 0:Nat):Int):=by rw[kW];omega
  rw[e1,c,d];exact DB _ _ _ _ _ _ _ _ _ _ _ _ _ _ _ _ _ _ Z Z Z Z Z Z (by simp) (by simp) (by simp) (by simp) (by simp) (by simp)
 ·simp only[ze,beq_iff_eq] at hf;simp only[iP];have e:f/4096 % 8<8:=Nat.mod_lt _ I;generalize f/4096 % 8=f3 at hf e;have b:f % 128<128:=Nat.mod_lt _ I;generalize f % 128=a at hf b;subst hf;clear j;obtain⟨s,hs⟩:=Int.eq_ofNat_of_zero_le (show 0<=y % 4096 from Z);have bs:s<4096:=Z;rw[hs];clear hs l;have e1:((f3*4096+a:Nat):Int)=((L 0 0 0 f3 0 a:Nat):Int):=by rw[kW];omega
  have c:((if 1<=3/\3<=5 then (rd:Int)*128 else 0)+(if 3<=3 then (bQ:Int)*32768 else 0)+(if 5<=3 then (bt:Int)*1048576 else 0))=((L 0 0 bQ 0 rd 0:Nat):Int):=by rw[kW];simp;try omega
  have d:(s:Int)*1048576=((L (s/32) (s % 32) 0 0 0 0:Nat):Int):=by rw[kW];omega
  rw[e1,c,d];exact DB _ _ _ _ _ _ _ _ _ _ _ _ _ _ _ _ _ _ Z Z Z Z Z Z (by simp) (by simp) (by simp) (by simp) (by simp) (by simp)
 ·simp only[ze,beq_iff_eq] at hf;simp only[iP];have o:f/33554432 % 128<128:=Nat.mod_lt _ I;generalize f/33554432 % 128=hi at hf o;have e:f/4096 % 8<8:=Nat.mod_lt _ I;generalize f/4096 % 8=f3 at hf e;have b:f % 128<128:=Nat.mod_lt _ I;generalize f % 128=a at hf b;subst hf;clear j;obtain⟨s,hs⟩:=Int.eq_ofNat_of_zero_le (show 0<=y % 32 from Z);have bs:s<32:=Z;rw[hs];clear hs l;have e1:((hi*33554432+f3*4096+a:Nat):Int)=((L hi 0 0 f3 0 a:Nat):Int):=by rw[kW];omega
  have c:((if 1<=4/\4<=5 then (rd:Int)*128 else 0)+(if 3<=4 then (bQ:Int)*32768 else 0)+(if 5<=4 then (bt:Int)*1048576 else 0))=((L 0 0 bQ 0 rd 0:Nat):Int):=by rw[kW];simp;try omega
  have d:(s:Int)*1048576=((L 0 s 0 0 0 0:Nat):Int):=by rw[kW];omega
  rw[e1,c,d];exact DB _ _ _ _ _ _ _ _ _ _ _ _ _ _ _ _ _ _ Z Z Z Z Z Z (by simp) (by simp) (by simp) (by simp) (by simp) (by simp)
 ·simp only[ze,beq_iff_eq] at hf;simp only[iP];have o:f/33554432 % 128<128:=Nat.mod_lt _ I;generalize f/33554432 % 128=hi at hf o;have e:f/4096 % 8<8:=Nat.mod_lt _ I;generalize f/4096 % 8=f3 at hf e;have b:f % 128<128:=Nat.mod_lt _ I;generalize f % 128=a at hf b;subst hf;clear j;have e1:((hi*33554432+f3*4096+a:Nat):Int)=((L hi 0 0 f3 0 a:Nat):Int):=by rw[kW];omega
  have c:((if 1<=5/\5<=5 then (rd:Int)*128 else 0)+(if 3<=5 then (bQ:Int)*32768 else 0)+(if 5<=5 then (bt:Int)*1048576 else 0))=((L 0 bt bQ 0 rd 0:Nat):Int):=by rw[kW];simp;try omega
  have d:(0:Int)=((L 0 0 0 0 0 0:Nat):Int):=by rw[kW];omega
  rw[e1,c,d];exact DB _ _ _ _ _ _ _ _ _ _ _ _ _ _ _ _ _ _ Z Z Z Z Z Z (by simp) (by simp) (by simp) (by simp) (by simp) (by simp)
 ·simp only[ze,beq_iff_eq] at hf;simp only[iP];have e:f/4096 % 8<8:=Nat.mod_lt _ I;generalize f/4096 % 8=f3 at hf e;have b:f % 128<128:=Nat.mod_lt _ I;generalize f % 128=a at hf b;subst hf;clear j;obtain⟨A,g⟩:=Int.eq_ofNat_of_zero_le (show 0<=y/4096 % 2 from Z);have bA:A<2:=Z;obtain⟨B,h⟩:=Int.eq_ofNat_of_zero_le (show 0<=y/32 % 64 from Z);have t:B<64:=Z;obtain⟨C,m⟩:=Int.eq_ofNat_of_zero_le (show 0<=y/2 % 16 from Z);have v:C<16:=Z;obtain⟨D,n⟩:=Int.eq_ofNat_of_zero_le (show 0<=y/2048 % 2 from Z);have w:D<2:=Z;rw[g,h,m,n];clear g h m n l;have e1:((f3*4096+a:Nat):Int)=((L 0 0 0 f3 0 a:Nat):Int):=by rw[kW];omega
  have c:((if 1<=6/\6<=5 then (rd:Int)*128 else 0)+(if 3<=6 then (bQ:Int)*32768 else 0)+(if 5<=6 then (bt:Int)*1048576 else 0))=((L 0 bt bQ 0 0 0:Nat):Int):=by rw[kW];simp;try omega
  have d:(A:Int)*2147483648+(B:Int)*33554432+(C:Int)*256+(D:Int)*128=((L (A*64+B) 0 0 0 (C*2+D) 0:Nat):Int):=by rw[kW];omega
  rw[e1,c,d];exact DB _ _ _ _ _ _ _ _ _ _ _ _ _ _ _ _ _ _ Z Z Z Z Z Z (by simp) (by simp) (by simp) (by simp) (by simp) (by simp)
 simp only[ze,beq_iff_eq] at hf;simp only[iP];have e:f/4096 % 8<8:=Nat.mod_lt _ I;generalize f/4096 % 8=f3 at hf e;have b:f % 128<128:=Nat.mod_lt _ I;generalize f % 128=a at hf b;subst hf;clear j;obtain⟨A,g⟩:=Int.eq_ofNat_of_zero_le (show 0<=y/32 % 128 from Z);have bA:A<128:=Z;obtain⟨B,h⟩:=Int.eq_ofNat_of_zero_le (show 0<=y % 32 from Z);have t:B<32:=Z;rw[g,h];clear g h l;have e1:((f3*4096+a:Nat):Int)=((L 0 0 0 f3 0 a:Nat):Int):=by rw[kW];omega
 have c:((if 1<=7/\7<=5 then (rd:Int)*128 else 0)+(if 3<=7 then (bQ:Int)*32768 else 0)+(if 5<=7 then (bt:Int)*1048576 else 0))=((L 0 bt bQ 0 0 0:Nat):Int):=by rw[kW];simp;try omega
 have d:(A:Int)*33554432+(B:Int)*128=((L A 0 0 0 B 0:Nat):Int):=by rw[kW];omega
 rw[e1,c,d];exact DB _ _ _ _ _ _ _ _ _ _ _ _ _ _ _ _ _ _ Z Z Z Z Z Z (by simp) (by simp) (by simp) (by simp) (by simp) (by simp)
theorem UT(i)(a:1<=i.op)(h1:i.op<=48):
  bits .or .u32 (bits .or .u32 (oR i.op:Int) (bits .and .u32 (bits .or .u32 (bits .or .u32 (bits .and .u32 (i.rd % 4294967296) 31*128 % 4294967296) (bits .and .u32 (i.bQ % 4294967296) 31*32768 % 4294967296)) (bits .and .u32 (i.bt % 4294967296) 31*1048576 % 4294967296)) (lz (kindOf i.op)))) (iP (kindOf i.op) (i.bu % 4294967296))=bT i:=by
 rw[agC,agB _ (FP _),adf _ _ _ (FP _) (anl i.op a h1) (anm _)];rfl
theorem aoT(op a b):0<=bits op .u32 a b/\bits op .u32 a b<4294967296:=by
 unfold bits;rw[IntKind.wrap_u32];omega
theorem adg(i)(a:1<=i.op)(h1:i.op<=48):0<=bT i/\bT i<4294967296:=by
 rw[<-UT i a h1];exact aoT _ _ _
end Go.Vx
namespace Go.Proofs.YtdjlkahbpdoemaaGreatDoor
section
open Go.Vx (kindOf oR ins fj Dh fits dec Ins bT oe)
theorem anr(x):∀(n:Nat) (op:Int),oe n op x=Dh\/∃o,op<=o/\o<op+n/\fits o x=true/\oe n op x=ins o x:=by
 intro n;induction n with
 |zero=>intro op;exact Or.inl rfl
 |succ n b=>
  intro op;cases h:fits op x with
  |true=>exact Or.inr ⟨op,Z,Z,h,by simp[oe,h]⟩
  |false=>
   rcases b (op+1) with a|⟨o,a,e,c,d⟩
   ·exact Or.inl (by simp[oe,h,a])
   exact Or.inr ⟨o,Z,Z,c,by simp[oe,h,d]⟩
end
end Go.Proofs.YtdjlkahbpdoemaaGreatDoor
namespace Go.Vx
def jv(R:Nat->Nat)(rd v:Nat):Nat->Nat:=if rd=0 then R else λi=>if i=rd then v else R i
def Dq(op a b:Nat)(bu:Int)(pc:Nat):Nat:=
 if op=3 then m32 ((pc:Int)+bu) else if op=4 then m32 ((a:Int)+bu) - m32 ((a:Int)+bu) % 2
 else if 5<=op/\op<=10/\aeC op a b=true then m32 ((pc:Int)+bu) else m32 ((pc:Int)+4)
def Hs(op a b:Nat)(bu:Int)(pc:Nat):Nat:=
 if op=1 then m32 (bu*4096) else if op=2 then m32 ((pc:Int)+bu*4096) else if op=3\/op=4 then m32 ((pc:Int)+4)
 else if 19<=op/\op<=27 then tK op a (m32 bu) else tK op a b
def PV(op:Nat):Bool:=decide (op<=4) || (decide (19<=op)&&decide (op≠38))
def ldF(op v:Nat):Nat:=if op=11/\128<=v then v+4294967296 - 256 else if op=12/\32768<=v then v+4294967296 - 65536 else v
abbrev zo:=Except (Int×Nat) ((Nat->UInt8)×(Nat->Nat)×Nat)
def ajX(f:Nat->UInt8)(R:Nat->Nat)(pc op rd:Nat):Except (Int×Nat) Nat->zo
 |.error e=>.error e
 |.ok p=>.ok (f,jv R rd (ldF op (ru f p (N9 op))),m32 ((pc:Int)+4))
def af3(f:Nat->UInt8)(R:Nat->Nat)(pc op b:Nat):Except (Int×Nat) Nat->zo
 |.error e=>.error e
 |.ok p=>.ok (cQ f p ((eI b).take (N9 op)),R,m32 ((pc:Int)+4))
def Bm(f:Nat->UInt8)(R:Nat->Nat)(rd v dst:Nat):zo:=if dst % 4≠0 then .error (0,dst) else .ok (f,jv R rd v,dst)
end Go.Vx
namespace Go.Proofs.YtdjlkahbpdoemaaGreatDoor
def gK(f:Nat->UInt8)(n:Nat)(root:Int)(R:Nat->Nat)(pc:Nat)(op rd a b:Nat)(bu:Int):zo:=
 if op=39 then .error (8,0) else if op=40 then .error (3,pc)
 else if 11<=op/\op<=15 then ajX f R pc op rd (jL f n root (m32 ((a:Int)+bu)) (N9 op) 1)
 else if 16<=op/\op<=18 then af3 f R pc op b (jL f n root (m32 ((a:Int)+bu)) (N9 op) 2)
 else Bm f R (if PV op=true then rd else 0) (Hs op a b bu pc) (Dq op a b bu pc)
def ab5(f:Nat->UInt8)(n:Nat)(root:Int)(R:Nat->Nat)(pc:Nat):Except (Int×Nat) Nat->zo
 |.error e=>.error e
 |.ok p=>if (dec (bM f p:Nat)).op=0 then .error (2,bM f p) else
   gK f n root R pc (dec (bM f p:Nat)).op.toNat (dec (bM f p:Nat)).rd.toNat (aO R (dec (bM f p:Nat)).bQ.toNat) (aO R (dec (bM f p:Nat)).bt.toNat) (dec (bM f p:Nat)).bu
def jK(f:Nat->UInt8)(n:Nat)(root:Int)(R:Nat->Nat)(pc:Nat):zo:=ab5 f n root R pc (jL f n root pc 4 0)
theorem akp:∀n:Fin 49,kinds.getD n.val 0<=7:=by decide+kernel
theorem ako:∀n:Fin 49,((5<=n.val/\n.val<=10)\/(16<=n.val/\n.val<=18))->6<=kinds.getD n.val 0:=by decide+kernel
theorem amY(k)(hk:k<=7)(x:Nat)(b:x<4294967296): -1048576<=mT k (x:Int)/\mT k (x:Int)<=1048576:=by
 have a:k=0\/k=1\/k=2\/k=3\/k=4\/k=5\/k=6\/k=7:=Z;rcases a with rfl|rfl|rfl|rfl|rfl|rfl|rfl|rfl<;>simp only[mT]<;>omega
structure TV(i:Ins)(op rd r1 r2:Nat)(im:Int):Prop where
 e:i=⟨op,rd,r1,r2,im⟩
 lo:1<=op
 hi:op<=48
 dn:rd<32
 dM:r1<32
 fN:r2<32
 i0: -1048576<=im
 i1:im<=1048576
 no:((5<=op/\op<=10)\/(16<=op/\op<=18))->rd=0
theorem ao2(x:Nat)(a:x<4294967296)(b:(dec (x:Int)).op≠0):∃op rd r1 r2 im,TV (dec (x:Int)) op rd r1 r2 im:=by
 rcases anr (x:Int) 48 1 with h|⟨o,h1,g,i,c⟩
 ·exact absurd (by show(oe 48 1 (x:Int)).op=0;rw[h];rfl) b
 have d:dec (x:Int)=ins o x:=c;obtain⟨op,rfl⟩:∃op:Nat,o=(op:Int):=⟨o.toNat,Z⟩;have hg:=amY (kindOf (op:Int)) (akp ⟨op,Z⟩) x a;have hn:((5<=op/\op<=10)\/(16<=op/\op<=18))->6<=kindOf (op:Int):=λh=>ako ⟨op,Z⟩ h;refine⟨op,(yB (kindOf (op:Int)) x).toNat,(zM (kindOf (op:Int)) x).toNat,(zL (kindOf (op:Int)) x).toNat,mT (kindOf (op:Int)) x,?_,Z,Z,?_,?_,?_,hg.1,hg.2,?_⟩
 ·rw[d];unfold ins;have e1:((yB (kindOf (op:Int)) x).toNat:Int)=yB (kindOf (op:Int)) x:=by unfold yB;split<;>omega
  have e:((zM (kindOf (op:Int)) x).toNat:Int)=zM (kindOf (op:Int)) x:=by unfold zM;split<;>omega
  have f:((zL (kindOf (op:Int)) x).toNat:Int)=zL (kindOf (op:Int)) x:=by unfold zL;split<;>omega
  rw[e1,e,f]
 ·unfold yB;split<;>omega
 ·unfold zM;split<;>omega
 ·unfold zL;split<;>omega
 intro h;have:=hn h;unfold yB;rw[if_neg Z];rfl
theorem ao4{f:Nat->UInt8}{p op rd r1 r2:Nat}(h:TV (dec (bM f p:Nat)) op rd r1 r2 im):ab5 f n root R pc (.ok p)=gK f n root R pc op rd (aO R r1) (aO R r2) im:=by
 show(if (dec (bM f p:Nat)).op=0 then _ else _)=_;rw[h.e];have:=h.lo;rw[if_neg (by show¬(op:Int)=0;omega)];rfl
def jm(i:Ins)(R:Nat->Nat):Nat->Nat:=jv R i.rd.toNat (Hs i.op.toNat (aO R i.bQ.toNat) (aO R i.bt.toNat) i.bu 0)
def fi(n:Nat):Int:=((n:Int)+2048) % 4096 - 2048
def gq(n:Nat):Int:=((n:Int) - fi n)/4096 - (if 2147483648<=((n:Int) - fi n) % 4294967296 then 1048576 else 0) - (if (n:Int) - fi n=4294967296 then 1048576 else 0)
def rA(r:Nat)(v:Nat):List Ins:=[⟨1,r,0,0,gq v⟩,⟨19,r,r,0,fi v⟩]
theorem XU(n): -2048<=fi n/\fi n<=2047:=by unfold fi;omega
theorem aa7(n)(h:n<4294967296): -524288<=gq n/\gq n<=524287:=by
 unfold gq fi;split<;>split<;>omega
theorem ak9(n)(h:n<4294967296):m32 ((m32 (gq n*4096):Nat)+(m32 (fi n):Nat))=n:=by
 unfold m32 gq fi;split<;>split<;>omega
theorem yv(R)(h:r≠0)(v x):jv R r v x=if x=r then v else R x:=by unfold jv;rw[if_neg h]
theorem anN(r:Nat)(im R):jm ⟨1,r,0,0,im⟩ R=jv R r (m32 (im*4096)):=rfl
theorem anO(r s:Nat)(im R):jm ⟨19,r,s,0,im⟩ R=jv R r (m32 ((aO R s:Nat)+(m32 im:Nat))):=rfl
theorem Tq(d s t:Nat)(R):jm ⟨28,d,s,t,0⟩ R=jv R d (m32 ((aO R s:Nat)+(aO R t:Nat))):=rfl
theorem anM(d s t:Nat)(R):jm ⟨41,d,s,t,0⟩ R=jv R d (m32 ((aO R s:Nat)*(aO R t:Nat))):=rfl
theorem ajO(a b):m32 ((m32 a:Nat)+(m32 b:Nat))=m32 (a+b):=by unfold m32;omega
def gk(R:Nat->Nat)(r v:Nat):Nat->Nat:=λx=>if x=r then v else R x
theorem DK(hr:r≠0)(v)(hv:v<4294967296)(R):jm ⟨19,r,r,0,fi v⟩ (jm ⟨1,r,0,0,gq v⟩ R)=gk R r v:=by
 rw[anN,anO];funext x;have e:aO (jv R r (m32 (gq v*4096))) r=m32 (gq v*4096):=by unfold aO;rw[if_neg hr,yv R hr,if_pos rfl]
 rw[yv _ hr,yv R hr,e,ak9 v hv];unfold gk;split<;>rfl
theorem adw(c:o=1\/o=19\/o=28\/o=41)(a b im):Hs o a b im 0<4294967296:=by
 rcases c with rfl|rfl|rfl|rfl
 ·exact DJ _
 ·show m32 ((a:Int)+(m32 im:Nat))<_;exact DJ _
 ·show m32 ((a:Int)+(b:Int))<_;exact DJ _
 show m32 ((a:Int)*(b:Int))<_;exact DJ _
theorem Tp{i:Ins}(h:∀x,R x<4294967296)(a:i.op=1\/i.op=19\/i.op=28\/i.op=41):∀x,jm i R x<4294967296:=λx=>by
 have hv:=adw (o:=i.op.toNat) Z (aO R i.bQ.toNat) (aO R i.bt.toNat) i.bu;unfold jm jv
 split
 ·exact h x
 dsimp only
 split
 ·exact hv
 exact h x
def vD(q A B:Nat):List Ins:=rA 10 0++rA 11 q++rA 12 A++rA 13 B++rA 16 4294967295++rA 17 3++[⟨39,0,0,0,0⟩]++rA 19 33++[⟨41,20,20,19,0⟩,⟨28,20,20,12,0⟩]
structure Qn where
 m:Nat
 A:Nat->Nat
 B:Nat->Nat
 bd:Nat
structure uY(Q:Qn):Prop where
 m:1<=Q.m/\Q.m<=3
 A:∀q,Q.A q<4294967296
 B:∀q,Q.B q<4294967296
 bd:Q.bd<4294967296
def pw:Ins:=⟨40,0,0,0,0⟩
def pS(Q:Qn)(j:Nat):Ins:=if j<17*Q.m then (vD (j/17) (Q.A (j/17)) (Q.B (j/17))).getD (j % 17) pw else pw
def GH(bd:Nat)(R:Nat->Nat):Nat->Nat:=λx=>if x=10 then 0 else if x=12 then m32 ((R 12:Int)+3*(R 13:Int)+(R 11:Int)) else if x=14 then bd else if x=16 then 0 else if x=17 then 0 else R x
def Br(bd:Nat)(i:Ins)(R:Nat->Nat):Nat->Nat:=if i.op=39 then GH bd R else jm i R
def RC(Q:Qn):Nat->Nat->Nat
 |0=>λ_=>0
 |j+1=>Br Q.bd (pS Q j) (RC Q j)
theorem Tv(Q)(a:q<Q.m)(hr:r<17):pS Q (17*q+r)=(vD q (Q.A q) (Q.B q)).getD r pw:=by
 unfold pS;rw[if_pos Z,show(17*q+r)/17=q from Z,show(17*q+r) % 17=r from Z]
theorem Ke(Q)(a:q<Q.m)(hr:r<17):RC Q (17*q+(r+1))=Br Q.bd ((vD q (Q.A q) (Q.B q)).getD r pw) (RC Q (17*q+r)):=by
 rw[<-Tv Q a hr];rfl
theorem EE(Q){a:Nat}(b:q<Q.m)(hr:r+1<17)(ha:a≠0)(hv:v<4294967296)(h1:(vD q (Q.A q) (Q.B q)).getD r pw=⟨1,a,0,0,gq v⟩)(c:(vD q (Q.A q) (Q.B q)).getD (r+1) pw=⟨19,a,a,0,fi v⟩):RC Q (17*q+(r+2))=gk (RC Q (17*q+r)) a v:=by
 rw[Ke Q b (r:=r+1) Z,Ke Q b (r:=r) Z,h1,c];unfold Br;rw[if_neg (by show¬(19:Int)=39;decide),if_neg (by show¬(1:Int)=39;decide)];exact DK ha v hv _
theorem apZ(Q)(h:uY Q)(b:q<Q.m):RC Q (17*q+12)=gk (gk (gk (gk (gk (gk (RC Q (17*q)) 10 0) 11 q) 12 (Q.A q)) 13 (Q.B q)) 16 4294967295) 17 3:=by
 have hm:=h.m;rw[EE Q b (r:=10) (a:=17) (v:=3) Z Z Z rfl rfl,EE Q b (r:=8) (a:=16) (v:=4294967295) Z Z Z rfl rfl,EE Q b (r:=6) (a:=13) (v:=Q.B q) Z Z (h.B q) rfl rfl,EE Q b (r:=4) (a:=12) (v:=Q.A q) Z Z (h.A q) rfl rfl,EE Q b (r:=2) (a:=11) (v:=q) Z Z Z rfl rfl,EE Q b (r:=0) (a:=10) (v:=0) Z Z Z rfl rfl];rfl
theorem abL(Q)(h:uY Q)(a:q<Q.m):RC Q (17*q+12) 10=0/\RC Q (17*q+12) 11=q/\RC Q (17*q+12) 12=Q.A q/\RC Q (17*q+12) 13=Q.B q/\RC Q (17*q+12) 16=4294967295/\RC Q (17*q+12) 17=3/\RC Q (17*q+12) 20=RC Q (17*q) 20:=by
 rw[apZ Q h a];exact⟨rfl,rfl,rfl,rfl,rfl,rfl,rfl⟩
theorem abM(Q)(h:uY Q)(a:q<Q.m):RC Q (17*(q+1)) 14=Q.bd/\RC Q (17*(q+1)) 20=m32 ((RC Q (17*q) 20:Int)*33+((Q.A q:Int)+3*(Q.B q:Int)+(q:Int))):=by
 have⟨c0,c1,c2,c3,c4,c5,c6⟩:=abL Q h a;have c:RC Q (17*q+13)=GH Q.bd (RC Q (17*q+12)):=by
  rw[Ke Q a (r:=12) Z];rfl
 have b:=EE Q a (r:=13) Z Z Z rfl rfl;have d:RC Q (17*(q+1))=jm ⟨28,20,20,12,0⟩ (jm ⟨41,20,20,19,0⟩ (RC Q (17*q+15))):=by
  rw[show 17*(q+1)=17*q+(16+1) from Z,Ke Q a (r:=16) Z,Ke Q a (r:=15) Z];rfl
 rw[d,show jm ⟨28,20,20,12,0⟩ (jm ⟨41,20,20,19,0⟩ (RC Q (17*q+15)))=_ from Tq 20 20 12 _,show jm ⟨41,20,20,19,0⟩ (RC Q (17*q+15))=_ from anM 20 20 19 _];have v20:RC Q (17*q+15) 20=RC Q (17*q) 20:=b▸c▸c6;have e:RC Q (17*q+15) 19=33:=by rw[b];rfl
 have f:RC Q (17*q+15) 14=Q.bd:=by rw[b,c];rfl
 have v12:RC Q (17*q+15) 12=m32 ((Q.A q:Int)+3*(Q.B q:Int)+(q:Int)):=by
  rw[b,c];show m32 ((RC Q (17*q+12) 12:Int)+3*(RC Q (17*q+12) 13:Int)+(RC Q (17*q+12) 11:Int))=_;rw[c1,c2,c3]
 generalize RC Q (17*q+15)=R at v20 e f v12;refine⟨?_,?_⟩
 ·rwa[yv _ I,if_neg I,yv _ I,if_neg I]
 rw[yv _ I,if_pos rfl];have g:aO (jv R 20 (m32 ((aO R 20:Nat)*(aO R 19:Nat)))) 20=m32 ((RC Q (17*q) 20:Int)*33):=by
  unfold aO;rw[if_neg I,yv _ I,if_pos rfl,if_neg I,if_neg I,v20,e];rfl
 have a2:aO (jv R 20 (m32 ((aO R 20:Nat)*(aO R 19:Nat)))) 12=m32 ((Q.A q:Int)+3*(Q.B q:Int)+(q:Int)):=by
  unfold aO;rwa[if_neg I,yv _ I,if_neg I]
 rw[g,a2];exact ajO _ _
theorem Ws(q A B:Nat):∀r,r<17->r≠12->let o:=((vD q A B).getD r pw).op;o=1\/o=19\/o=28\/o=41:=λr hr hn=>by
 have:r=0\/r=1\/r=2\/r=3\/r=4\/r=5\/r=6\/r=7\/r=8\/r=9\/r=10\/r=11\/r=13\/r=14\/r=15\/r=16:=Z;rcases this with rfl|rfl|rfl|rfl|rfl|rfl|rfl|rfl|rfl|rfl|rfl|rfl|rfl|rfl|rfl|rfl<;>simp[vD,rA]
theorem CI(Q:Qn)(h:uY Q):∀j,j<=17*Q.m->∀x,RC Q j x<4294967296
 |0,_,x=>by show 0<_;decide
 |j+1,e,x=>by
  have b:=CI Q h j Z;have c:pS Q j=(vD (j/17) (Q.A (j/17)) (Q.B (j/17))).getD (j % 17) pw:=if_pos Z;show Br Q.bd (pS Q j) (RC Q j) x<_;unfold Br;by_cases d:j % 17=12
  ·rw[if_pos (by rw[c,d];rfl)];have hb:=h.bd;have:=b x;unfold GH
   split
   ·decide
   split
   ·exact DJ _
   split
   ·exact hb
   split
   ·decide
   split
   ·decide
   exact this
  have a:=Ws (j/17) (Q.A (j/17)) (Q.B (j/17)) (j % 17) Z d;dsimp only at a;rw[<-c] at a;rw[if_neg Z];exact Tp b a x
def sy(Q:Qn):Nat->Nat
 |0=>0
 |q+1=>m32 ((sy Q q:Int)*33+((Q.A q:Int)+3*(Q.B q:Int)+(q:Int)))
theorem abK(Q:Qn)(h:uY Q):∀q,q<=Q.m->RC Q (17*q) 20=sy Q q
 |0,_=>rfl
 |q+1,a=>by
  rw[(abM Q h (q:=q) Z).2,abK Q h q Z];rfl
theorem apY(Q)(h:uY Q):RC Q (17*Q.m) 14=Q.bd/\RC Q (17*Q.m) 20=sy Q Q.m:=by
 refine⟨?_,abK Q h _ (Nat.le_refl _)⟩;have hm:=h.m;have:=(abM Q h (q:=Q.m - 1) Z).1;rwa[show Q.m - 1+1=Q.m from Z] at this
def Be:List Ins:=rA 10 0++rA 18 4294967295++rA 17 4++[⟨39,0,0,0,0⟩,⟨28,12,12,13,0⟩,⟨28,12,12,13,0⟩,⟨28,12,12,13,0⟩,⟨28,12,12,11,0⟩,⟨28,14,16,0,0⟩]++rA 10 0++rA 18 4294967295++rA 17 7++[⟨39,0,0,0,0⟩,⟨3,0,0,0, -48⟩]
def jJ(p:Nat):Ins:=Be.getD p pw
def SI:Nat->Nat->Nat
 |0=>λ_=>0
 |p+1=>jm (jJ p) (SI p)
def B0:Nat->Nat:=λx=>if x=18 then 4294967295 else 0
def Bq(R:Nat->Nat):Prop:=(∀x,x<10\/17<x->R x=B0 x)/\∀x,R x<4294967296
theorem apX:SI 2=gk (λ_=>0) 10 0:=DK I 0 I _
theorem apW:SI 4=gk (SI 2) 18 4294967295:=DK I 4294967295 I _
theorem apV:SI 6=gk (SI 4) 17 4:=DK I 4 I _
theorem apU:SI 6 10=0/\SI 6 17=4/\Bq (SI 6):=by
 rw[apV,apW,apX];refine⟨rfl,rfl,λx a=>?_,λx=>?_⟩
 ·unfold gk B0;rw[if_neg Z];split
  ·rfl
  split<;>rfl
 unfold gk;split
 ·decide
 split
 ·decide
 split
 ·decide
 show 0<4294967296;decide
theorem PB:∀p:Fin 20,p.val≠6->p.val≠18->p.val≠19->(jJ p.val).op=1\/(jJ p.val).op=19\/(jJ p.val).op=28\/(jJ p.val).op=41:=I
theorem abI:∀p,p<=6->∀x,SI p x<4294967296
 |0,_,x=>by show 0<_;decide
 |p+1,h,x=>Tp (abI p Z) (PB ⟨p,Z⟩ (by show p≠6;omega) (by show p≠18;omega) (by show p≠19;omega)) x
def uT(R:Nat->Nat)(bd:Nat):Nat->Nat:=λx=>if x=10 then 0 else if x=16 then bd else if x=17 then 0 else if 11<=x/\x<=15 then R x else B0 x
def SV(R:Nat->Nat)(bd:Nat):Nat->Nat->Nat
 |0=>uT R bd
 |p+1=>jm (jJ (7+p)) (SV R bd p)
theorem apv{bd:Nat}(h:∀x,R x<4294967296)(hb:bd<4294967296):∀x,uT R bd x<4294967296:=λx=>by
 have:=h x;unfold uT B0
 split
 ·decide
 split
 ·exact hb
 split
 ·decide
 split
 ·exact this
 split<;>decide
theorem Om{bd:Nat}(h:∀x,R x<4294967296)(hb:bd<4294967296):∀p,p<=11->∀x,SV R bd p x<4294967296
 |0,_,x=>apv h hb x
 |p+1,hp,x=>Tp (Om h hb p Z) (PB ⟨7+p,Z⟩ (by show 7+p≠6;omega) (by show 7+p≠18;omega) (by show 7+p≠19;omega)) x
theorem Ol{s:Nat}(a:d≠0)(hs:s≠0)(ht:t≠0)(R):jm ⟨28,d,s,t,0⟩ R=gk R d (m32 ((R s:Int)+(R t:Int))):=by
 rw[Tq];funext x;rw[yv _ a];unfold aO gk;rw[if_neg hs,if_neg ht]
theorem apS(R){bd:Nat}(hb:bd<4294967296):SV R bd 5=gk (gk (uT R bd) 12 (m32 ((R 12:Int)+3*(R 13:Int)+(R 11:Int)))) 14 bd:=by
 have e1:SV R bd 1=gk (uT R bd) 12 (m32 ((R 12:Int)+(R 13:Int))):=Ol (d:=12) (s:=12) (t:=13) I I I (uT R bd);have a:SV R bd 2=gk (uT R bd) 12 (m32 ((R 12:Int)+2*(R 13:Int))):=by
  rw[show SV R bd 2=jm ⟨28,12,12,13,0⟩ (SV R bd 1) from rfl,show jm ⟨28,12,12,13,0⟩ (SV R bd 1)=_ from Ol (d:=12) (s:=12) (t:=13) I I I _,e1];funext x;unfold gk;split
  ·show m32 ((m32 ((R 12:Int)+(R 13:Int)):Nat)+(R 13:Int))=_;unfold m32;omega
  rfl
 have b:SV R bd 3=gk (uT R bd) 12 (m32 ((R 12:Int)+3*(R 13:Int))):=by
  rw[show SV R bd 3=jm ⟨28,12,12,13,0⟩ (SV R bd 2) from rfl,show jm ⟨28,12,12,13,0⟩ (SV R bd 2)=_ from Ol (d:=12) (s:=12) (t:=13) I I I _,a];funext x;unfold gk;split
  ·show m32 ((m32 ((R 12:Int)+2*(R 13:Int)):Nat)+(R 13:Int))=_;unfold m32;omega
  rfl
 have c:SV R bd 4=gk (uT R bd) 12 (m32 ((R 12:Int)+3*(R 13:Int)+(R 11:Int))):=by
  rw[show SV R bd 4=jm ⟨28,12,12,11,0⟩ (SV R bd 3) from rfl,show jm ⟨28,12,12,11,0⟩ (SV R bd 3)=_ from Ol (d:=12) (s:=12) (t:=11) I I I _,b];funext x;unfold gk;split
  ·show m32 ((m32 ((R 12:Int)+3*(R 13:Int)):Nat)+(R 11:Int))=_;unfold m32;omega
  rfl
 rw[show SV R bd 5=jm ⟨28,14,16,0,0⟩ (SV R bd 4) from rfl,show jm ⟨28,14,16,0,0⟩ (SV R bd 4)=_ from Tq 14 16 0 _,c];funext x;rw[yv _ I];unfold gk;split
 ·unfold aO;rw[if_neg I,if_pos rfl];show m32 ((bd:Int)+0)=bd;unfold m32;omega
 rfl
theorem apT(R){bd:Nat}(hb:bd<4294967296):SV R bd 11=gk (gk (gk (SV R bd 5) 10 0) 18 4294967295) 17 7:=by
 have b:SV R bd 7=gk (SV R bd 5) 10 0:=DK (r:=10) I 0 I _;have c:SV R bd 9=gk (SV R bd 7) 18 4294967295:=DK (r:=18) I 4294967295 I _;have a:SV R bd 11=gk (SV R bd 9) 17 7:=DK (r:=17) I 7 I _;rw[a,c,b]
theorem TT(R){bd:Nat}(h:∀x,R x<4294967296)(hb:bd<4294967296):SV R bd 11 10=0/\SV R bd 11 17=7/\SV R bd 11 11=R 11/\SV R bd 11 12=m32 ((R 12:Int)+3*(R 13:Int)+(R 11:Int))/\SV R bd 11 13=R 13/\SV R bd 11 14=bd/\SV R bd 11 15=R 15/\Bq (SV R bd 11):=by
 refine⟨?_,?_,?_,?_,?_,?_,?_,λx b=>?_,Om h hb 11 I⟩;all_goals rw[apT R hb,apS R hb]
 ·rfl
 ·rfl
 ·rfl
 ·rfl
 ·rfl
 ·rfl
 ·rfl
 unfold gk uT;rw[if_neg Z];by_cases a:x=18
 ·rw[if_pos a,a];rfl
 rw[if_neg a,if_neg Z,if_neg Z,if_neg Z,if_neg Z,if_neg Z,if_neg Z,if_neg Z]
theorem apu{W:Nat->Nat}(a:Bq W)(bd):(λx=>if x=10 then 0 else if x=11 then R 11 else if x=12 then R 12 else if x=13 then R 13 else if x=14 then R 14 else if x=15 then R 15 else if x=16 then bd else if x=17 then 0 else W x)=uT R bd:=by
 funext x;unfold uT;by_cases h:x<10\/17<x
 ·rw[if_neg Z,if_neg Z,if_neg Z,if_neg Z,if_neg Z,if_neg Z,if_neg Z,if_neg Z,if_neg Z,if_neg Z,if_neg Z,if_neg Z];exact a.1 x h
 have:x=10\/x=11\/x=12\/x=13\/x=14\/x=15\/x=16\/x=17:=Z;rcases this with rfl|rfl|rfl|rfl|rfl|rfl|rfl|rfl<;>rfl
end Go.Proofs.YtdjlkahbpdoemaaGreatDoor

import Derived.Test.YtdjlkahbpdoemaaGreatDoorCq4
set_option maxRecDepth 100000
set_option maxHeartbeats 8000000
set_option linter.unusedVariables false
set_option linter.unusedSimpArgs false
open Go Go.Vx Go.Proofs.Tryz Go.ChangeShapes Go.WideShapes Go.ChangeAt Go.RowKit
variable {d n t:Int}{l:List Int}{b ck i rc:Nat}{o:Obj}{β:Type}{w w2 w3:Z0}{U:Z1}
namespace Go.Vx
structure Et where
 num:Int
 cy:Int
 prio:Int
 left:Int
 came:Int
def Et.df:Et:=⟨0,0,0,0,0⟩
def du(es:List Et)(n:Int):Option Nat:=dL (λe=>decide (e.num=n)) es 0
end Go.Vx
namespace Go.Proofs.YtdjlkahbpdoemaaGreatDoor
def dK(ck:Nat)(e:Et):Et:={e with left:=5,came:=(ck:Int)+1}
section
variable {es:List Et}
theorem uK(h:du es n=some i):∃hi:i<es.length,es[i].num=n:=by
 have⟨a,hp⟩:=sZ h;simp only[Nat.sub_zero i] at a hp;exact⟨a,of_decide_eq_true hp⟩
def jw(es:List Et)(n:Int):Int:=match du es n with|none=>6|some i=>if 0<(es.getD i .df).came then 16 else 0
def su(es:List Et)(n:Int):Int:=match du es n with|none=>6|some i=>if (es.getD i .df).came=0 then 16 else 0
def nJ(es:List Et)(ck:Nat)(n:Int):List Et:=match du es n with|none=>es|some i=>es.set i (dK ck (es.getD i .df))
def zk(es:List Et)(n:Int):List Et:=match du es n with|none=>es|some i=>es.set i {es.getD i .df with left:=0,came:=0}
theorem gJ{k:Nat}(hk:k<es.length):es.getD k .df=es[k]:=by simp[List.getD_eq_getElem?_getD,hk]
def aqo(es:List Et)(n p:Int):Int:=match du es n with|none=>6|some _=>if p<0\/7<p then 1 else 0
def lF(es:List Et)(n:Int):Int×Int×Int×Int:=match du es n with|none=>(0,0,0,6)|some i=>((es.getD i .df).cy,(es.getD i .df).prio,(es.getD i .df).left,0)
def jn(es:List Et)(n d p:Int):Int:=if n<0\/d<0\/7<d\/p<0\/7<p then 1 else if (du es n).isSome=true then 7 else 0
def de(es:List Et)(n d p:Int):List Et:=if jn es n d p=0 then es++[⟨n,d,p,0,0⟩] else es
end
end Go.Proofs.YtdjlkahbpdoemaaGreatDoor
namespace Go.Vx
def AK(es:List Et)(d:Int)(b:Option Nat)(i:Nat):Option Nat:=
 if (es.getD i .df).cy≠d\/(es.getD i .df).came=0 then b else match b with
 |none=>some i
 |some j=>if (es.getD j .df).prio<(es.getD i .df).prio\/((es.getD i .df).prio=(es.getD j .df).prio/\(es.getD i .df).came<(es.getD j .df).came) then some i else some j
def tI(es:List Et)(d:Int):Nat->Option Nat
 |0=>none
 |k+1=>AK es d (tI es d k) k
def pT(es:List Et)(d:Int):Option Nat:=tI es d es.length
def kH(ts:Lp)(t:Nat)(lf:Int):Nat:=if lf=0 then (t+1) % ts.length else t
def ov(ts:Lp)(t:Nat)(lf:Int):Int:=(if lf=0 then (ts.getD ((t+1) % ts.length) (0,0)).2 else lf) - 1
def tY(ts:Lp)(t:Nat)(lf:Int):Int:=(ts.getD (kH ts t lf) (0,0)).1
def uo(e:Et):Et:={e with left:=e.left - 1}
end Go.Vx
namespace Go.Proofs.YtdjlkahbpdoemaaGreatDoor
section
variable {es:List Et}
def mf(es:List Et)(ck:Nat)(d:Int):List Et×Nat×Int:=match pT es d with
 |none=>(es,ck, -1)
 |some i=>if (es.getD i .df).left=0 then match pT (es.set i (dK ck (es.getD i .df))) d with
   |none=>(es.set i (dK ck (es.getD i .df)),ck+1, -1)
   |some j=>((es.set i (dK ck (es.getD i .df))).set j (uo ((es.set i (dK ck (es.getD i .df))).getD j .df)),ck+1,((es.set i (dK ck (es.getD i .df))).getD j .df).num)
  else (es.set i (uo (es.getD i .df)),ck,(es.getD i .df).num)
end
def xV(d:Int)(e:Et):Prop:=e.cy=d/\e.came≠0
def De(e f:Et):Prop:=f.prio<e.prio\/(f.prio=e.prio/\e.came<=f.came)
section
variable {es:List Et}
theorem TC(es:List Et)(d:Int):∀k,(tI es d k=none->∀m,m<k->¬xV d (es.getD m .df))/\∀j,tI es d k=some j->j<k/\xV d (es.getD j .df)/\∀m,m<k->xV d (es.getD m .df)->De (es.getD j .df) (es.getD m .df)
 |0=>⟨λ_ m hm=>Z,λj h=>by cases h⟩
 |k+1=>by
  obtain⟨g,i⟩:=TC es d k;by_cases hk:(es.getD k .df).cy≠d\/(es.getD k .df).came=0
  ·have e:tI es d (k+1)=tI es d k:=by
    show AK es d (tI es d k) k=_;unfold AK;rw[if_pos hk]
   have hn:¬xV d (es.getD k .df):=λh=>by
    rcases hk with hk|hk
    ·exact hk h.1
    exact h.2 hk
   rw[e];refine⟨λh m hm=>?_,λj h=>?_⟩
   ·by_cases f:m=k
    ·subst f;exact hn
    exact g h m Z
   obtain⟨a,b,c⟩:=i j h;refine⟨Z,b,λm hm hi=>?_⟩;by_cases f:m=k
   ·subst f;exact absurd hi hn
   exact c m Z hi
  have l:xV d (es.getD k .df):=⟨Classical.byContradiction (λh=>hk (Or.inl h)),λh=>hk (Or.inr h)⟩
  cases hb:tI es d k with
  |none=>
   have e:tI es d (k+1)=some k:=by
    show AK es d (tI es d k) k=_;unfold AK;rw[if_neg hk,hb]
   rw[e];refine⟨λh=>(by cases h),λj h=>?_⟩;injection h with h
   subst h;refine⟨Z,l,λm hm hi=>?_⟩;by_cases f:m=k
   ·subst f;exact Or.inr ⟨rfl,Int.le_refl _⟩
   exact absurd hi (g hb m Z)
  |some b=>
   obtain⟨o,a2,a3⟩:=i b hb;by_cases n:(es.getD b .df).prio<(es.getD k .df).prio\/((es.getD k .df).prio=(es.getD b .df).prio/\(es.getD k .df).came<(es.getD b .df).came)
   ·have e:tI es d (k+1)=some k:=by
     show AK es d (tI es d k) k=_;unfold AK;rw[if_neg hk,hb];dsimp only;rw[if_pos n]
    rw[e];refine⟨λh=>(by cases h),λj h=>?_⟩;injection h with h
    subst h;refine⟨Z,l,λm hm hi=>?_⟩;by_cases f:m=k
    ·subst f;exact Or.inr ⟨rfl,Int.le_refl _⟩
    have:=a3 m Z hi;unfold De at this|-;omega
   have e:tI es d (k+1)=some b:=by
    show AK es d (tI es d k) k=_;unfold AK;rw[if_neg hk,hb];dsimp only;rw[if_neg n]
   rw[e];refine⟨λh=>(by cases h),λj h=>?_⟩;injection h with h
   subst h;refine⟨Z,a2,λm hm hi=>?_⟩;by_cases f:m=k
   ·subst f;unfold De;omega
   exact a3 m Z hi
structure cU(es:List Et)(ck:Nat):Prop where
 nd:(es.map (·.num)).Nodup
 ok:∀e∈es,0<=e.num/\0<=e.cy/\e.cy<=7/\0<=e.prio/\e.prio<=7/\0<=e.left/\e.left<=5/\0<=e.came/\e.came<=(ck:Int)/\(e.came=0->e.left=0)
 cd:∀e∈es,∀f∈es,e.came=f.came->e.came≠0->e=f
 qf:∀e∈es,∀f∈es,e.cy=f.cy->e.prio=f.prio->e.came≠0->e.came<f.came->f.left=5
end
theorem cU.nil:cU [] 0:=⟨List.nodup_nil,(λ_ h=>by cases h),(λ_ h=>by cases h),(λ_ h=>by cases h)⟩
section
variable {es:List Et}
theorem mh{k:Nat}{y e:Et}(hk:k<es.length)(h:e∈es.set k y):e=y\/(e∈es/\∃j,∃a:j<es.length,j≠k/\es[j]=e):=by
 obtain⟨j,a,rfl⟩:=List.getElem_of_mem h;have b:j<es.length:=by simpa using a
 rw[List.getElem_set];by_cases he:k=j
 ·rw[if_pos he];exact Or.inl rfl
 rw[if_neg he];exact Or.inr ⟨List.getElem_mem b,j,b,λc=>he c.symm,rfl⟩
theorem wU(hn:(es.map (·.num)).Nodup){j k:Nat}(b:j<es.length)(hk:k<es.length)(h:j≠k):es[j].num≠es[k].num:=λhe=>by
 have h1:=List.pairwise_iff_getElem.1 hn;rcases Nat.lt_or_gt_of_ne h with a|a
 ·exact h1 j k (by simpa using b) (by simpa using hk) a (by rw[List.getElem_map,List.getElem_map];exact he)
 exact h1 k j (by simpa using hk) (by simpa using b) a (by rw[List.getElem_map,List.getElem_map];exact he.symm)
theorem PW{k:Nat}{y:Et}(hk:k<es.length)(h:y.num=es[k].num):(es.set k y).map (·.num)=es.map (·.num):=by
 apply List.ext_getElem
 ·simp
 intro j h1 a;rw[List.getElem_map,List.getElem_map,List.getElem_set];split
 ·rename_i e;subst e;exact h
 rfl
theorem cU.add(h:cU es ck)(n d p):cU (de es n d p) ck:=by
 unfold de;by_cases he:jn es n d p=0
 ·rw[if_pos he];unfold jn at he;by_cases h1:n<0\/d<0\/7<d\/p<0\/7<p
  ·rw[if_pos h1] at he;cases he
  rw[if_neg h1] at he;have hf:du es n=none:=by
   cases hi:du es n with
   |none=>rfl
   |some i=>rw[hi] at he;cases he
  have o:∀e∈es,e.num≠n:=λe q r=>by
   have:=jQ hf e q;simp[r] at this
  refine⟨?_,λe hm=>?_,λe hm f c k g=>?_,λe hm f c s t l m=>?_⟩
  ·rw[List.map_append,List.nodup_append];refine⟨h.nd,by simp,λa ha b hb=>?_⟩;obtain⟨e,j,rfl⟩:=List.mem_map.1 ha;simp only[List.map_cons,List.map_nil,List.mem_singleton] at hb;rw[hb];exact o e j
  ·rcases List.mem_append.1 hm with hm|hm
   ·exact h.ok e hm
   rw[List.mem_singleton] at hm;subst hm;exact⟨by show 0<=n;omega,by show 0<=d;omega,by show d<=7;omega,by show 0<=p;omega,by show p<=7;omega,by show(0:Int)<=0;omega,by show(0:Int)<=5;omega,by show(0:Int)<=0;omega,by show(0:Int)<=(ck:Int);omega,λ_=>rfl⟩
  ·rcases List.mem_append.1 hm with hm|hm
   ·rcases List.mem_append.1 c with c|c
    ·exact h.cd e hm f c k g
    rw[List.mem_singleton] at c;subst c;exact absurd k g
   rw[List.mem_singleton] at hm;subst hm;exact absurd rfl g
  rcases List.mem_append.1 hm with hm|hm
  ·rcases List.mem_append.1 c with c|c
   ·exact h.qf e hm f c s t l m
   rw[List.mem_singleton] at c;subst c;have:=(h.ok e hm).2.2.2.2.2.2.2.1;simp only at m;omega
  rw[List.mem_singleton] at hm;subst hm;exact absurd rfl l
 rwa[if_neg he]
theorem cU.put(h:cU es ck){k:Nat}(hk:k<es.length)(p)(hp:0<=p/\p<=7):cU (es.set k (dK ck {es[k] with prio:=p})) (ck+1):=by
 have m:=h.ok _ (List.getElem_mem hk);have d:((ck+1:Nat):Int)=(ck:Int)+1:=Z;refine⟨by rw[PW (y:=dK ck {es[k] with prio:=p}) hk rfl];exact h.nd,λe hm=>?_,λe hm f a b g=>?_,λe hm f a i j l c=>?_⟩
 ·rcases mh hk hm with rfl|⟨hm,_⟩
  ·unfold dK;simp only;rw[d];omega
  have:=h.ok e hm;rw[d];omega
 ·rcases mh hk hm with rfl|⟨hm,_⟩
  ·rcases mh hk a with rfl|⟨a,_⟩
   ·rfl
   have:=h.ok f a;unfold dK at b;simp only at b;omega
  rcases mh hk a with rfl|⟨a,_⟩
  ·have:=h.ok e hm;unfold dK at b;simp only at b;omega
  exact h.cd e hm f a b g
 rcases mh hk a with rfl|⟨a,_⟩
 ·rfl
 rcases mh hk hm with rfl|⟨hm,_⟩
 ·have:=h.ok f a;unfold dK at c;simp only at c;omega
 exact h.qf e hm f a i j l c
theorem cU.off(h:cU es ck){k:Nat}(hk:k<es.length)(y)(hn:y.num=es[k].num)(i:y.cy=es[k].cy)(hp:0<=y.prio/\y.prio<=7)(j:y.left=0)(b:y.came=0):cU (es.set k y) ck:=by
 have o:=h.ok _ (List.getElem_mem hk);refine⟨(PW (y:=y) hk hn)▸h.nd,λe hm=>?_,λe hm f a c d=>?_,λe hm f a l m g n=>?_⟩
 ·rcases mh hk hm with rfl|⟨hm,_⟩
  ·rw[hn,i,j,b];omega
  exact h.ok e hm
 ·rcases mh hk hm with rfl|⟨hm,_⟩
  ·exact absurd b d
  rcases mh hk a with rfl|⟨a,_⟩
  ·rw[b] at c;exact absurd c d
  exact h.cd e hm f a c d
 rcases mh hk hm with rfl|⟨hm,_⟩
 ·exact absurd b g
 have p:=h.ok e hm;rcases mh hk a with rfl|⟨a,_⟩
 ·omega
 exact h.qf e hm f a l m g n
theorem cU.last(h:cU es ck)(n):cU (nJ es ck n) (if (du es n).isSome then ck+1 else ck):=by
 unfold nJ;cases hi:du es n with
 |none=>exact h
 |some i=>
  have⟨a,_⟩:=uK hi;dsimp only;rw[gJ a];have b:=h.ok _ (List.getElem_mem a);exact h.put a es[i].prio ⟨b.2.2.2.1,b.2.2.2.2.1⟩
theorem cU.block(h:cU es ck)(n):cU (zk es n) ck:=by
 unfold zk;cases hi:du es n with
 |none=>exact h
 |some i=>
  have⟨a,_⟩:=uK hi;dsimp only;rw[gJ a];have b:=h.ok _ (List.getElem_mem a);exact h.off a _ rfl rfl ⟨b.2.2.2.1,b.2.2.2.2.1⟩ rfl rfl
theorem cU.less(h:cU es ck){k:Nat}(hk:k<es.length)(o:es[k].came≠0)(q:0<es[k].left)(hf:∀e∈es,xV es[k].cy e->De es[k] e):cU (es.set k (uo es[k])) ck:=by
 have r:=h.ok _ (List.getElem_mem hk);refine⟨by rw[PW (y:=uo es[k]) hk rfl];exact h.nd,λe hm=>?_,λe hm f a c n=>?_,λe hm f a d g i b=>?_⟩
 ·rcases mh hk hm with rfl|⟨hm,_⟩
  ·unfold uo;simp only;omega
  exact h.ok e hm
 ·rcases mh hk hm with rfl|⟨hm,j,l,m,rfl⟩
  ·rcases mh hk a with rfl|⟨a,j,l,m,rfl⟩
   ·rfl
   have h1:=h.cd _ (List.getElem_mem hk) _ a c o;exact absurd (congrArg (·.num) h1) (λp=>wU h.nd l hk m p.symm)
  rcases mh hk a with rfl|⟨a,_⟩
  ·have h1:=h.cd _ hm _ (List.getElem_mem hk) c n;exact absurd (congrArg (·.num) h1) (wU h.nd l hk m)
  exact h.cd _ hm f a c n
 rcases mh hk a with rfl|⟨a,_⟩
 ·rcases mh hk hm with rfl|⟨hm,_⟩
  ·exact absurd b (Int.lt_irrefl _)
  have h1:=hf e hm ⟨d,i⟩;have s:e.came<es[k].came:=b;have t:e.prio=es[k].prio:=g;unfold De at h1;omega
 rcases mh hk hm with rfl|⟨hm,_⟩
 ·exact h.qf _ (List.getElem_mem hk) f a d g i b
 exact h.qf e hm f a d g i b
theorem zm{j:Nat}(h:pT es d=some j):∃f:j<es.length,xV d es[j]/\∀e∈es,xV d e->De es[j] e:=by
 have⟨h1,a,b⟩:=(TC es d es.length).2 j h;rw[gJ h1] at a b;refine⟨h1,a,λe he hi=>?_⟩;obtain⟨m,hm,rfl⟩:=List.getElem_of_mem he;have c:=b m hm;rw[gJ hm] at c;exact c hi
theorem TD(h:pT es d=none):∀e∈es,¬xV d e:=λe he=>by
 obtain⟨m,hm,rfl⟩:=List.getElem_of_mem he;have a:=(TC es d es.length).1 h m hm;rw[gJ hm] at a;exact a
theorem TE(h:cU es ck)(hb:pT es d=some i):∃hi:i<es.length,∃j,pT (es.set i (dK ck es[i])) d=some j/\∃b:j<(es.set i (dK ck es[i])).length,(es.set i (dK ck es[i]))[j].left=5:=by
 have⟨hi,h1,o⟩:=zm hb;refine⟨hi,?_⟩;have hy:dK ck es[i]∈es.set i (dK ck es[i]):=List.mem_set hi _;have k:xV d (dK ck es[i]):=⟨h1.1,by show(ck:Int)+1≠0;omega⟩;cases l:pT (es.set i (dK ck es[i])) d with
 |none=>exact absurd k (TD l _ hy)
 |some j=>
  have⟨b,c,p⟩:=zm l;refine⟨j,rfl,b,?_⟩;have f:=p _ hy k;rcases mh hi (List.getElem_mem b) with a|⟨a,m,hm,q,n⟩
  ·rw[a];rfl
  have g:=o _ a c;generalize (es.set i (dK ck es[i]))[j]=e at c f a g n|-
  have r:es[i].prio=e.prio:=by
   have s:(dK ck es[i]).prio=es[i].prio:=rfl;unfold De at f g;rw[s] at f;omega
  have u:es[i].came<=e.came:=by unfold De at g;omega
  have v:es[i].came≠e.came:=λt=>by
   have:=h.cd _ (List.getElem_mem hi) _ a t h1.2;rw[<-n] at this;exact wU h.nd hm hi q (congrArg (·.num) this).symm
  exact h.qf _ (List.getElem_mem hi) _ a (h1.1.trans c.1.symm) r h1.2 Z
theorem cU.next(h:cU es ck)(d):cU (mf es ck d).1 (mf es ck d).2.1:=by
 unfold mf;cases hb:pT es d with
 |none=>exact h
 |some i=>
  have⟨hi,h1,l⟩:=zm hb;have b:=h.ok _ (List.getElem_mem hi);dsimp only;rw[gJ hi];by_cases c:es[i].left=0
  ·rw[if_pos c];have⟨_,j,f,o,m⟩:=TE h hb;rw[f];dsimp only;have⟨g,k,n⟩:=zm f;rw[gJ g];exact (h.put hi es[i].prio ⟨b.2.2.2.1,b.2.2.2.2.1⟩).less g k.2 (by rw[m];omega) (λe he a=>n e he ⟨a.1.trans k.1,a.2⟩)
  rw[if_neg c];exact h.less hi h1.2 Z (λe he a=>l e he ⟨a.1.trans h1.1,a.2⟩)
end
section
variable {p:Int}
def jP(d p:Int)(e:Et):Bool:=decide (e.cy=d/\e.prio=p/\e.came≠0)
end
section
variable {es xs:List Et}{p:Int}
def IsQ(es:List Et)(d p:Int)(xs:List Et):Prop:=xs.Perm (es.filter (jP d p))/\xs.Pairwise (λa b=>a.came<=b.came)
def NQ(es:List Et)(d p:Int)(l:List Int):Prop:=∃xs,IsQ es d p xs/\l=xs.map (·.num)
end
section
variable {p:Int}
theorem NQ.nil(d p):NQ [] d p []:=⟨[],⟨List.Perm.refl _,List.Pairwise.nil⟩,rfl⟩
end
section
variable {es xs:List Et}{p:Int}
theorem NQ.mem(h:NQ es d p l):n∈l↔∃e∈es,e.num=n/\e.cy=d/\e.prio=p/\e.came≠0:=by
 obtain⟨xs,b,rfl⟩:=h;rw[List.mem_map];constructor
 ·rintro⟨e,he,rfl⟩;have h1:=List.mem_filter.1 (b.1.mem_iff.1 he);have a:=of_decide_eq_true h1.2;exact⟨e,h1.1,rfl,a⟩
 rintro⟨e,he,rfl,a⟩;exact⟨e,b.1.mem_iff.2 (List.mem_filter.2 ⟨he,decide_eq_true a⟩),rfl⟩
theorem NQ.nodup(hw:(es.map (·.num)).Nodup)(h:NQ es d p l):l.Nodup:=by
 obtain⟨xs,a,rfl⟩:=h;rw[(a.1.map (·.num)).nodup_iff];exact hw.sublist (List.filter_sublist.map _)
theorem NQ.len(h:NQ es d p l):l.length<=es.length:=by
 obtain⟨xs,a,rfl⟩:=h;rw[List.length_map,a.1.length_eq];exact List.length_filter_le _ _
end
section
variable {es:List Et}
theorem VK{k:Nat}(hk:k<es.length):es=es.take k++es[k]::es.drop (k+1):=by
 rw[<-List.drop_eq_getElem_cons hk,List.take_append_drop]
theorem PX{k:Nat}(hk:k<es.length)(y):es.set k y=es.take k++y::es.drop (k+1):=by
 rw[List.set_eq_take_append_cons_drop,if_pos hk]
end
section
variable {es xs:List Et}{p:Int}
theorem NQ.off(hw:(es.map (·.num)).Nodup){k:Nat}(hk:k<es.length)(y:Et)(i:y.came=0)(h:NQ es d p l):NQ (es.set k y) d p (l.filter (λn=>decide (n≠es[k].num))):=by
 obtain⟨xs,c,rfl⟩:=h;refine⟨xs.filter (λe=>decide (e.num≠es[k].num)),⟨?_,c.2.sublist List.filter_sublist⟩,?_⟩
 ·have e:(es.set k y).filter (jP d p)=(es.filter (jP d p)).filter (λe=>decide (e.num≠es[k].num)):=by
   have o:∀e∈es.take k,e.num≠es[k].num:=λe he=>by
    obtain⟨j,b,rfl⟩:=List.getElem_of_mem he;have q:j<k/\j<es.length:=by rw[List.length_take] at b;omega
    rw[List.getElem_take];exact wU hw q.2 hk Z
   have hr:∀e∈es.drop (k+1),e.num≠es[k].num:=λe he=>by
    obtain⟨j,b,rfl⟩:=List.getElem_of_mem he;rw[List.length_drop] at b;rw[List.getElem_drop];exact wU hw Z hk Z
   have f:∀z:List Et,(∀e∈z,e.num≠es[k].num)->z.filter (jP d p)=(z.filter (jP d p)).filter (λe=>decide (e.num≠es[k].num)):=λz r=>by
    symm;rw[List.filter_eq_self];intro a ha;exact decide_eq_true (r a (List.mem_filter.1 ha).1)
   have g:es.filter (jP d p)=(es.take k).filter (jP d p)++([es[k]].filter (jP d p)++(es.drop (k+1)).filter (jP d p)):=by
    conv=>lhs;rw[VK hk,show es[k]::es.drop (k+1)=[es[k]]++es.drop (k+1) from rfl,List.filter_append,List.filter_append]
   have m:([es[k]].filter (jP d p)).filter (λe=>decide (e.num≠es[k].num))=[]:=by
    rw[List.filter_eq_nil_iff];intro a ha;have:=(List.mem_filter.1 ha).1;rw[List.mem_singleton] at this;rw[this];simp
   rw[g,List.filter_append,List.filter_append,m,<-f _ o,<-f _ hr,PX hk,List.filter_append,List.filter_cons];have s:jP d p y=false:=by unfold jP;simp[i]
   rw[s];rfl
  rw[e];exact c.1.filter _
 rw[List.filter_map];rfl
theorem NQ.join{k:Nat}(hk:k<es.length)(y:Et)(h1:es[k].came=0)(m:y.came≠0)(n:∀e∈es,e.came<=y.came)(h:NQ es d p l):NQ (es.set k y) d p (l++if y.cy=d/\y.prio=p then [y.num] else []):=by
 obtain⟨xs,c,rfl⟩:=h;have a2:jP d p es[k]=false:=by unfold jP;simp[h1]
 have g:es.filter (jP d p)=(es.take k).filter (jP d p)++(es.drop (k+1)).filter (jP d p):=by
  conv=>lhs;rw[VK hk]
  rw[List.filter_append,List.filter_cons,a2];rfl
 by_cases f:y.cy=d/\y.prio=p
 ·rw[if_pos f];have j:jP d p y=true:=decide_eq_true ⟨f.1,f.2,m⟩;refine⟨xs++[y],⟨?_,?_⟩,by rw[List.map_append];rfl⟩
  ·rw[PX hk,List.filter_append,List.filter_cons,j];have i:=c.1;rw[g] at i;refine((i.append_right [y])).trans ?_;rw[List.append_assoc];refine List.Perm.append_left _ ?_;exact List.perm_append_singleton _ _
  rw[List.pairwise_append];refine⟨c.2,List.pairwise_singleton _ _,λa ha b hb=>?_⟩;rw[List.mem_singleton] at hb;subst hb;exact n a (List.mem_filter.1 (c.1.mem_iff.1 ha)).1
 rw[if_neg f,List.append_nil];have j:jP d p y=false:=decide_eq_false (λh=>f ⟨h.1,h.2.1⟩);refine⟨xs,⟨?_,c.2⟩,rfl⟩;rw[PX hk,List.filter_append,List.filter_cons,j];have i:=c.1;rwa[g] at i
theorem NQ.same(hw:(es.map (·.num)).Nodup){k:Nat}(hk:k<es.length)(y:Et)(o:y.num=es[k].num)(h1:y.cy=es[k].cy)(q:y.prio=es[k].prio)(m:y.came=es[k].came)(h:NQ es d p l):NQ (es.set k y) d p l:=by
 obtain⟨xs,g,rfl⟩:=h;have hf:∀e∈es,e.num=es[k].num->e=es[k]:=λe he hn=>by
  obtain⟨j,i,rfl⟩:=List.getElem_of_mem he;by_cases f:j=k
  ·subst f;rfl
  exact absurd hn (wU hw i hk f)
 have r:∀e,e.num=(if e.num=es[k].num then y else e).num:=λe=>by
  by_cases he:e.num=es[k].num
  ·rw[if_pos he,o,he]
  rw[if_neg he]
 have hs:es.set k y=es.map (λe=>if e.num=es[k].num then y else e):=by
  apply List.ext_getElem
  ·simp
  intro j s a2;rw[List.getElem_set,List.getElem_map];have i:j<es.length:=by simpa using s
  by_cases f:k=j
  ·subst f;rw[if_pos rfl,if_pos rfl]
  rw[if_neg f,if_neg (wU hw i hk (λe=>f e.symm))]
 have n:∀e∈es,(if e.num=es[k].num then y else e).came=e.came:=λe he=>by
  by_cases c:e.num=es[k].num
  ·rw[if_pos c,m,hf e he c]
  rw[if_neg c]
 refine⟨xs.map (λe=>if e.num=es[k].num then y else e),⟨?_,?_⟩,?_⟩
 ·have e:(es.set k y).filter (jP d p)=(es.filter (jP d p)).map (λe=>if e.num=es[k].num then y else e):=by
   rw[hs,List.filter_map];congr 1;apply List.filter_congr;intro a ha;show jP d p (if a.num=es[k].num then y else a)=jP d p a;by_cases c:a.num=es[k].num
   ·rw[if_pos c];have:=hf a ha c;unfold jP;rw[h1,q,m,this]
   rw[if_neg c]
  rw[e];exact g.1.map _
 ·rw[List.pairwise_map];refine g.2.imp_of_mem (fun {a b} ha hb t=>?_);rwa[n a (List.mem_filter.1 (g.1.mem_iff.1 ha)).1,n b (List.mem_filter.1 (g.1.mem_iff.1 hb)).1]
 rw[List.map_map];refine List.map_congr_left (λa _=>?_);exact r a
theorem NQ.add(y)(b:y.came=0)(h:NQ es d p l):NQ (es++[y]) d p l:=by
 obtain⟨xs,a,rfl⟩:=h;refine⟨xs,⟨?_,a.2⟩,rfl⟩;have c:jP d p y=false:=by unfold jP;simp[b]
 rw[List.filter_append,List.filter_cons,c];simpa using a.1
end
section
variable {es:List Et}
theorem aaM(hw:(es.map (·.num)).Nodup){j:Nat}(a:j<es.length):du es es[j].num=some j:=by
 cases hi:du es es[j].num with
 |none=>have:=jQ hi es[j] (List.getElem_mem a);simp at this
 |some i=>
  have⟨c,he⟩:=uK hi;by_cases b:i=j
  ·rw[b]
  exact absurd he (wU hw c a b)
end
section
variable {es xs:List Et}{p:Int}
theorem ap2(h:cU es ck)(hn:NQ es d p (n::l))(t:∀q,p<q->q<=7->NQ es d q []):∃i,du es n=some i/\pT es d=some i:=by
 have⟨xs,k,m⟩:=hn;cases xs with
 |nil=>cases m
 |cons e xs=>
  have u:n=e.num:=by injection m
  have f:=List.mem_filter.1 (k.1.mem_iff.1 (List.mem_cons_self ..));have b:e.cy=d/\e.prio=p/\e.came≠0:=of_decide_eq_true f.2;cases hb:pT es d with
  |none=>exact absurd ⟨b.1,b.2.2⟩ (TD hb e f.1)
  |some j=>
   have⟨o,h1,v⟩:=zm hb;have a:=v e f.1 ⟨b.1,b.2.2⟩;have g:=List.getElem_mem o;have r:es[j].prio=p:=by
    rcases a with a|a
    ·exfalso;rw[b.2.1] at a;have c:=t es[j].prio a (h.ok _ g).2.2.2.2.1;have s:=(NQ.mem c (n:=es[j].num)).2 ⟨_,g,rfl,h1.1,rfl,h1.2⟩;cases s
    rw[<-a.1,b.2.1]
   have heq:e=es[j]:=by
    rcases List.mem_cons.1 (k.1.mem_iff.2 (List.mem_filter.2 ⟨g,decide_eq_true ⟨h1.1,r,h1.2⟩⟩)) with c|c
    ·exact c.symm
    have s:=(List.pairwise_cons.1 k.2).1 _ c;have w:es[j].came<=e.came:=by
     rcases a with a|a
     ·rw[b.2.1,r] at a;omega
     exact a.2
    exact h.cd e f.1 _ g Z b.2.2
   exact⟨j,u▸heq▸aaM h.nd o,rfl⟩
end
section
variable {es:List Et}
theorem ap3(h:cU es ck)(c:∀q,0<=q->q<=7->NQ es d q []):pT es d=none:=by
 cases hb:pT es d with
 |none=>rfl
 |some j=>
  have⟨e,h1,g⟩:=zm hb;have a:=List.getElem_mem e;have b:=h.ok _ a;have f:=(NQ.mem (c es[j].prio b.2.2.2.1 b.2.2.2.2.1) (n:=es[j].num)).2 ⟨_,a,rfl,h1.1,rfl,h1.2⟩;cases f
end
end Go.Proofs.YtdjlkahbpdoemaaGreatDoor
namespace Go.Vx
structure Ms where
 ak:Int
 w0:Int
 w1:Int
 w2:Int
 w3:Int
 aQ:Int
def Ms.df:Ms:=⟨0,0,0,0,0,0⟩
structure Wt where
 at':Int
 bL:Int
 how:Int
 m:Ms
def Wt.df:Wt:=⟨0,0,0,.df⟩
structure Pc where
 num:Int
 ga:Bool
 word:Int
def Pc.df:Pc:=⟨0,false,0⟩
structure Oc where
 err:Int
 peer:Int
 m:Ms
 wt:Bool
 ask:Bool
 ft:Bool
def Oc.df:Oc:=⟨0,0,.df,false,false,false⟩
structure Bs where
 ps:List Pc
 ws:List Wt
def mL(m:Ms):Value:=.agg #[J m.ak,J m.w0,J m.w1,J m.w2,J m.w3,J m.aQ]
def lC(o:Oc):Value:=.agg #[O o.err,O o.peer,J o.m.ak,J o.m.w0,J o.m.w1,J o.m.w2,J o.m.w3,J o.m.aQ,.bool o.wt,.bool o.ask,.bool o.ft]
def mg:Ms:=⟨0,0,0,0,0,0⟩
def pF(ps:List Pc)(n:Int):Option Nat:=dL (λp=>decide (p.num=n)) ps 0
def tF(ws:List Wt)(t:Int):Option Nat:=dL (λx=>decide (x.bL=t)) ws 0
def aF(ws:List Wt)(n:Int):Option Nat:=dL (λx=>decide (x.at'=n)) ws 0
def oS{α:Type}(l:List α)(i:Nat):List α:=l.take i++l.drop (i+1)
def wT(e:Int):Oc:=⟨e, -1,mg,false,false,false⟩
def lD:Oc:=⟨0, -1,mg,true,false,false⟩
def yG(p h:Int)(m:Ms):Oc:=⟨0,p,m,false,decide (h=3\/h=7),decide (h=7)⟩
def ue(s:Bs)(i:Nat):Pc:=s.ps.getD i .df
def sA(s:Bs)(i:Nat):Wt:=s.ws.getD i .df
def iS(s:Bs)(n:Int)(b:Bool)(t:Int):Int:=match pF s.ps n with
 |none=>6
 |some i=>if (ue s i).ga≠b then 6 else if (tF s.ws t).isSome=true then 16 else 0
def jR(h:Int):Bool:=decide (h=1\/h=2\/h=3\/h=7)
def zQ(s:Bs)(n:Int):Int:=if n<0 then 1 else if (pF s.ps n).isSome=true then 7 else 0
def qm(s:Bs)(n:Int)(b:Bool):Bs:=if zQ s n=0 then ⟨s.ps++[⟨n,b,0⟩],s.ws⟩ else s
def xI(s:Bs)(n:Int):Option Nat:=match aF s.ws n with|none=>none|some i=>if (sA s i).how=4 then some i else none
def yy(s:Bs)(n:Int):Option Nat:=match aF s.ws n with|none=>none|some i=>if (sA s i).how=4 then none else some i
def sH(s:Bs)(n t h:Int)(m:Ms):Oc:=if jR h=false then wT 1 else if iS s n false t≠0 then wT (iS s n false t) else match xI s n with
 |some i=>yG (sA s i).bL h m
 |none=>if h=1 then wT 17 else lD
def rl(s:Bs)(n t h:Int)(m:Ms):Bs:=if jR h=false then s else if iS s n false t≠0 then s else match xI s n with
 |some i=>⟨s.ps,oS s.ws i⟩
 |none=>if h=1 then s else ⟨s.ps,s.ws++[⟨n,t,h,m⟩]⟩
def uH(s:Bs)(n t:Int)(b:Bool):Oc:=if iS s n false t≠0 then wT (iS s n false t) else match yy s n with
 |some i=>yG (sA s i).bL (sA s i).how (sA s i).m
 |none=>if b=false then wT 17 else lD
def tC(s:Bs)(n t:Int)(b:Bool):Bs:=if iS s n false t≠0 then s else match yy s n with
 |some i=>⟨s.ps,oS s.ws i⟩
 |none=>if b=false then s else ⟨s.ps,s.ws++[⟨n,t,4,mg⟩]⟩
def eW(s:Bs)(n:Int):List Int:=(s.ws.filter λx=>decide (x.at'=n)).map (·.bL)
def yu(s:Bs)(t:Int):Int:=match tF s.ws t with|none=> -1|some i=>(sA s i).at'
def Dk(s:Bs)(t:Int):Int:=match tF s.ws t with|none=>0|some i=>(sA s i).how
theorem Td{α:Type}{d:α}{l:List α}(h:i<l.length):l.getD i d=l[i]:=by
 rw[List.getD_eq_getElem?_getD,List.getElem?_eq_getElem h];rfl
end Go.Vx
namespace Go.Proofs.YtdjlkahbpdoemaaGreatDoor
structure lX(s:Bs):Prop where
 np:(s.ps.map (·.num)).Nodup
 nt:(s.ws.map (·.bL)).Nodup
 at':∀x∈s.ws,∃p∈s.ps,p.num=x.at'/\(p.ga=false->x.how=2\/x.how=3\/x.how=4\/x.how=7)
 ip:∀p∈s.ps,af p.num
 iw:∀x∈s.ws,af x.bL
theorem Qw{ps:List Pc}(h:pF ps n=some i):∃hi:i<ps.length,ps[i].num=n:=by
 have⟨a,hp⟩:=sZ h;simp only[Nat.sub_zero i] at a hp;exact⟨a,of_decide_eq_true hp⟩
theorem Vs{ws:List Wt}(h:tF ws n=some i):∃hi:i<ws.length,ws[i].bL=n:=by
 have⟨a,hp⟩:=sZ h;simp only[Nat.sub_zero i] at a hp;exact⟨a,of_decide_eq_true hp⟩
def Iy:Array Value:=#[O 0,O 0,J 0,J 0,J 0,J 0,J 0,J 0,.bool false,.bool false,.bool false]
theorem yF(w g a0 a1 a2 a3 a4 a5 b c d a9 a):H (λk=>k=g) w (((((((((((w.setCell (E g 0) a0).setCell (E g 1) a1).setCell (E g 2) a2).setCell (E g 3) a3).setCell (E g 4) a4).setCell (E g 5) a5).setCell (E g 6) b).setCell (E g 7) c).setCell (E g 8) d).setCell (E g 9) a9).setCell (E g 10) a):=
 (((((((((((H.refl (λk=>k=g) w).setCell (p:=E g 0) (Or.inl rfl) a0).setCell (p:=E g 1) (Or.inl rfl) a1).setCell (p:=E g 2) (Or.inl rfl) a2).setCell (p:=E g 3) (Or.inl rfl) a3).setCell (p:=E g 4) (Or.inl rfl) a4).setCell (p:=E g 5) (Or.inl rfl) a5).setCell (p:=E g 6) (Or.inl rfl) b).setCell (p:=E g 7) (Or.inl rfl) c).setCell (p:=E g 8) (Or.inl rfl) d).setCell (p:=E g 9) (Or.inl rfl) a9).setCell (p:=E g 10) (Or.inl rfl) a
structure EA(w:Z0)(g:Nat):Prop where
 c0:w.cell? (E g 0)=some (O 0)
 c1:w.cell? (E g 1)=some (O 0)
 c2:w.cell? (E g 2)=some (J 0)
 c3:w.cell? (E g 3)=some (J 0)
 c4:w.cell? (E g 4)=some (J 0)
 c5:w.cell? (E g 5)=some (J 0)
 c6:w.cell? (E g 6)=some (J 0)
 c7:w.cell? (E g 7)=some (J 0)
 c8:w.cell? (E g 8)=some (.bool false)
 c9:w.cell? (E g 9)=some (.bool false)
 Cx:w.cell? (E g 10)=some (.bool false)
 fz:∀j,w.frozen? (E g j)=false
 lt:g<w.heap.size
theorem LH{g:Nat}(h:w.heap[g]?=some (.cells Iy 244 (0,0))):EA w g:=
 ⟨Zl h,Zl h,Zl h,Zl h,Zl h,Zl h,Zl h,Zl h,Zl h,Zl h,Zl h,λj=>by simp[World.frozen?,h],aB h⟩
end Go.Proofs.YtdjlkahbpdoemaaGreatDoor
namespace Go.Vx
def Up(U:Z1)(w w2:Z0):Nat->Prop:=λk=>U k\/(w.heap.size<=k/\k<w2.heap.size)
def abG(R:(Nat->Prop)->World->Prop):Prop:=∀(U V S:Z1) (w w2:Z0),R U w->H S w w2->(∀k,k<w.heap.size->S k->U k)->(∀k,V k->U k\/(w.heap.size<=k/\k<w2.heap.size))->R V w2
theorem adB(a:Zq w w2)(b:H (λk=>¬Up U w w2 k) w2 w3):Zn U w w3:=(a.f).trans (b.mono (λ_ _ h c=>h (Or.inl c)))
theorem LS(c:H (λk=>¬Up U w w2 k) w2 w3)(hb:w2.heap[b]?=some o)(h1:w.heap.size<=b):w3.heap[b]?=some o:=by
 have a:=(Array.getElem?_eq_some_iff.1 hb).1;rwa[c.block b a (λh=>h (Or.inr ⟨h1,a⟩))]
section
variable {R:(Nat->Prop)->World->Prop}{w4:Z0}
theorem Ph(b:abG R)(h:R (Up U w w2) w3)(c:Zq w w2)(d:H (λk=>¬Up U w w2 k) w2 w3)(h1:w.heap.size<=rc)(f:rc<w2.heap.size)(a:H (λk=>k=rc) w3 w4):R U w4/\Zn U w w4:=by
 refine⟨b (Up U w w2) U (λk=>k=rc) w3 w4 h a (λk _ e=>by subst e;exact Or.inr ⟨h1,f⟩) (λ_ h=>Or.inl (Or.inl h)),?_⟩;exact(adB c d).Mu a h1
end
theorem ab7{α:Type}[DecidableEq β](f:α->β)(xs)(hn:(xs.map f).Nodup)(hi:i<xs.length):oS xs i=xs.filter (λx=>decide (f x≠f xs[i])):=by
 have h1:=List.pairwise_iff_getElem.1 hn;have c:∀x∈xs.take i,decide (f x≠f xs[i])=true:=λx a=>by
  obtain⟨j,b,rfl⟩:=List.getElem_of_mem a;rw[List.length_take] at b;rw[List.getElem_take];have:=h1 j i (by rw[List.length_map];omega) (by rw[List.length_map];exact hi) Z;rw[List.getElem_map,List.getElem_map] at this;exact decide_eq_true this
 have hr:∀x∈xs.drop (i+1),decide (f x≠f xs[i])=true:=λx a=>by
  obtain⟨j,b,rfl⟩:=List.getElem_of_mem a;rw[List.length_drop] at b;rw[List.getElem_drop];have:=h1 i (i+1+j) (by rw[List.length_map];exact hi) (by rw[List.length_map];omega) Z;rw[List.getElem_map,List.getElem_map] at this;exact decide_eq_true (λe=>this e.symm)
 have e:xs=xs.take i++xs[i]::xs.drop (i+1):=by rw[<-List.drop_eq_getElem_cons hi,List.take_append_drop]
 have d:xs.filter (λx=>decide (f x≠f xs[i]))=(xs.take i++xs[i]::xs.drop (i+1)).filter (λx=>decide (f x≠f xs[i])):=e▸rfl;rw[d,List.filter_append,List.filter_cons,List.filter_eq_self.2 c,List.filter_eq_self.2 hr];simp[oS]
theorem Vq{ws:List Wt}(h:tF ws t=none):∀x∈ws,x.bL≠t:=λx a=>by
 have:=jQ h x a;simpa using this
end Go.Vx

import Derived.Test.YtdjlkahbpdoemaaGreatDoorCq22
import Derived.Defers
import Derived.JoinedOf
import Derived.Laws.Pointers
import Derived.Lib.AtoiAll
import Derived.Lib.ConvBytes
import Derived.Lib.IndexBytes
import Derived.Lib.OthersKept
import Derived.Lib.ParseIntB
import Derived.Lib.Strings
import Derived.Recover
set_option maxRecDepth 100000
set_option maxHeartbeats 8000000
set_option linter.unusedVariables false
set_option linter.unusedSimpArgs false
open Go Go.Vx Go.Proofs.Tryz Go.ChangeShapes Go.WideShapes Go.ChangeAt Go.RowKit
variable {q:Addr}{a abF acc:Ins×Z2}{n op:Int}{Vc ts xs:List (Z2)}{B b pos:Nat}{Zd:Nat->World->Prop}{o:Obj}{row:Option Nat}{Own:World->Nat->Prop}{w w' w2 wr:Z0}{S:Z1}{sh:Z2}{v v':Z3}
namespace Go.Vx
def dZ(c:UInt8):Bool:=(decide (97<=c)&&decide (c<=122)) || (decide (65<=c)&&decide (c<=90)) || (decide (48<=c)&&decide (c<=57)) || c==46 || c==95 || c==45
def mV(c:UInt8):Bool:=decide (48<=c)&&decide (c<=57)
def kM(c:UInt8):Bool:=dZ c&&c !=45
def gP(t:Z2):Bool:=t.all kM&& !(mV (t.headD 0))
theorem Vf(c):dZ c=(decide (97<=(c.toNat:Int))&&decide ((c.toNat:Int)<=122) || decide (65<=(c.toNat:Int))&&decide ((c.toNat:Int)<=90) || decide (48<=(c.toNat:Int))&&decide ((c.toNat:Int)<=57) || ((c.toNat:Int)==46) || ((c.toNat:Int)==95) || ((c.toNat:Int)==45)):=by
 unfold dZ;have e:∀n:UInt8,(c==n)=((c.toNat:Int)==(n.toNat:Int)):=by
  intro n;rw[Bool.eq_iff_iff,beq_iff_eq,beq_iff_eq];constructor
  ·rintro rfl;rfl
  intro h;exact UInt8.toNat_inj.1 Z
 have l1:∀n:UInt8,decide (n<=c)=decide ((n.toNat:Int)<=(c.toNat:Int)):=by
  intro n;rw[Bool.eq_iff_iff];simp[UInt8.le_iff_toNat_le]
 have a:∀n:UInt8,decide (c<=n)=decide ((c.toNat:Int)<=(n.toNat:Int)):=by
  intro n;rw[Bool.eq_iff_iff];simp[UInt8.le_iff_toNat_le]
 rw[e,e,e,l1,l1,l1,a,a,a];rfl
def bUg:Nat->Z2->List (Z2)
 |n+1,c::cs=>if c=35 then [] else if dZ c=true then (c::cs.takeWhile dZ)::bUg n (cs.dropWhile dZ) else if c=32\/c=9 then bUg n cs else [c]::bUg n cs
 |_,_=>[]
theorem bUm:∀(n m:Nat) (l:Z2),l.length<=n->l.length<=m->bUg n l=bUg m l
 |n,m,[],_,_=>by cases n<;>cases m<;>rfl
 |0,_,_::_,h,_=>absurd h (by simp)
 |_+1,0,_::_,_,h=>absurd h (by simp)
 |n+1,m+1,c::cs,h1,h2=>by
  have a:(cs.dropWhile dZ).length<=cs.length:=(List.dropWhile_suffix dZ (l:=cs)).length_le
  have b1:cs.length<=n:=by simpa using h1
  have b2:cs.length<=m:=by simpa using h2
  simp only[bUg];rw[bUm n m (cs.dropWhile dZ) (Nat.le_trans a b1) (Nat.le_trans a b2),bUm n m cs b1 b2]
def bU(l:Z2):List (Z2):=bUg l.length l
theorem bUn:bU []=[]:=rfl
theorem bUc(c:UInt8)(cs:Z2):bU (c::cs)=if c=35 then [] else if dZ c=true then (c::cs.takeWhile dZ)::bU (cs.dropWhile dZ) else if c=32\/c=9 then bU cs else [c]::bU cs:=by
 have a:=(List.dropWhile_suffix dZ (l:=cs)).length_le;show bUg (cs.length+1) (c::cs)=_;simp only[bUg];unfold bU;rw[bUm cs.length (cs.dropWhile dZ).length _ a (Nat.le_refl _)]
def iG(l:Z2):Nat:=(l.takeWhile dZ).length
theorem Fj(c l):iG (c::l)=if dZ c=true then iG l+1 else 0:=by
 unfold iG;rw[List.takeWhile_cons];split<;>simp_all
theorem PN:∀l:Z2,iG l<=l.length
 |[]=>by simp[iG]
 |c::l=>by rw[Fj];have:=PN l;split<;>simp;omega
theorem Vm:∀l:Z2,l.take (iG l)=l.takeWhile dZ
 |[]=>rfl
 |c::l=>by
  rw[Fj,List.takeWhile_cons];cases h:dZ c
  ·simp
  simp[Vm l]
theorem ab2:∀l:Z2,l.drop (iG l)=l.dropWhile dZ
 |[]=>rfl
 |c::l=>by
  rw[Fj,List.dropWhile_cons];cases h:dZ c
  ·simp
  simp[ab2 l]
theorem afl(l:Z2)(j)(h:j<l.length):iG (l.drop j)=if dZ l[j]=true then iG (l.drop (j+1))+1 else 0:=by
 rw[List.drop_eq_getElem_cons h,Fj]
theorem adV(l:Z2)(k)(h:k<l.length)(a:l[k]≠35)(ht:dZ l[k]=true):bU (l.drop k)=(l.drop k).take (iG (l.drop k))::bU (l.drop (k+iG (l.drop k))):=by
 rw[<-List.drop_drop,ab2,Vm,List.drop_eq_getElem_cons h,Vx.bUc,if_neg a,if_pos ht,List.takeWhile_cons,List.dropWhile_cons,if_pos ht,if_pos ht]
theorem adW(l:Z2)(k)(h:k<l.length)(a:l[k]=32\/l[k]=9):bU (l.drop k)=bU (l.drop (k+1)):=by
 have h1:l[k]≠35:=by rcases a with e|e<;>rw[e]<;>decide
 have b:¬dZ l[k]=true:=by rcases a with e|e<;>rw[e]<;>decide
 rw[List.drop_eq_getElem_cons h,Vx.bUc,if_neg h1,if_neg b,if_pos a]
theorem adU(l:Z2)(k)(h:k<l.length)(a:l[k]≠35)(ht:dZ l[k]=false)(hb:¬(l[k]=32\/l[k]=9)):bU (l.drop k)=(l.drop k).take 1::bU (l.drop (k+1)):=by
 rw[List.drop_eq_getElem_cons h,Vx.bUc,if_neg a,if_neg (by simp[ht]),if_neg hb];rfl
theorem H.frozen(h:H S w w'){p:Addr}(hk:p.block<w.heap.size)(hn:¬S p.block):w'.frozen? p=w.frozen? p:=World.frozen?_of_block (w:=w) (h.block p.block hk hn)
theorem H.Ix(h:w.grownBy w' row)(hs:∀k,row=some k->S k):H S w w':=
 ⟨h.os,h.tape,h.output,h.size,λk hk hn=>h.block k hk (λe=>hn (hs k e.symm))⟩
end Go.Vx
namespace Go.Proofs.YtdjlkahbpdoemaaGreatDoor
section
open Go.Vx (dZ bU iG cj kM gP mV)
theorem IQ(c w):
  Zk 210 #[.int .u8 (c.toNat:Int)] w λe w'=>Zr e (.bool (dZ c))/\w'=w:=by
 have a:=Y (Vf c);generalize c.toNat=n at a;generalize dZ c=b at a;go_enter func210,ntmps210;go_wp2;all_goals
  go_ret;refine⟨?_,rfl⟩;rw[a.j];refine sL (congrArg Value.bool ?_);rw[Bool.eq_iff_iff];simp;omega
theorem Yi(c w):
  Zk 211 #[.int .u8 (c.toNat:Int)] w λe w'=>Zr e (.bool (mV c))/\w'=w:=by
 have a:Hid (mV c=(decide (48<=(c.toNat:Int))&&decide ((c.toNat:Int)<=57))):=by
  show mV c=_;unfold mV;rw[Bool.eq_iff_iff];simp[UInt8.le_iff_toNat_le];omega
 generalize c.toNat=n at a;generalize mV c=b at a;go_enter func211,ntmps211;go_wp2;all_goals
  go_ret;refine⟨?_,rfl⟩;rw[a.j];refine sL (congrArg Value.bool ?_);rw[Bool.eq_iff_iff];simp;omega
theorem alA:(prog.info? 9).map (λi=>(i.zero,i.size,i.bytes))=some (some (.string ⟨#[]⟩),1,16):=Zx
theorem aaX(l:Z2)(a n):(⟨l.toArray⟩:ByteArray).extract a (a+n)=⟨((l.drop a).take n).toArray⟩:=by
 apply ByteArray.ext;apply Array.ext';rw[Lib.extract_data];simp
theorem adS{s:Z2}(a:Below B w wr)(hb:B<=wr.heap.size)(b:wr.ownsRow B 9 1 v xs.length (xs.map cj))(c:w2.ownsRow B 9 1 v' (xs.length+1) (xs.map cj++[cj s]))(hg:(wr.alloc o).grownBy w2 v.ownBlock):
  w2.ownsRow B 9 1 v' (xs++[s]).length ((xs++[s]).map cj)/\Below B w w2/\B<=w2.heap.size:=by
 refine⟨by simpa using c,(a.alloc hb o).grown hg (by simp;omega) (λk hk=>(b.lt k hk).1),?_⟩;have:=hg.size;simp at this;omega
theorem Pp(t)(ht:t.length<=20000)(w):
  Zk 113 #[.string ⟨t.toArray⟩] w λe w'=>Zr e (O (max (iG t) 1:Nat))/\w'=w:=by
 obtain⟨p,hp⟩:=Ze (⟨t.toArray⟩:ByteArray);have r:p.size=t.length:=by rw[hp];simp[ByteArray.size]
 have n:Hid (p=⟨t.toArray⟩):=hp;obtain⟨z,b⟩:∃z,iG t=z:=⟨_,rfl⟩
 have o:z<=t.length:=by rw[<-b];exact PN t
 have q:Hid (0+iG (t.drop 0)=z):=by show _=_;simpa using b
 rw[<-hp,b];clear hp b;go_enter func113,ntmps113
 go_wp2
 go_loop [3] (λi=>∃j:Nat,j<=z/\i=O j/\Hid (j+iG (t.drop j)=z)) (λi=>t.length - (RowKit.intOf i).toNat)
 case atStart=>exact⟨0,Z,rfl,q⟩
 case round=>
  obtain⟨j,s,rfl,c⟩:=hrel;by_cases m:j<t.length
  ·obtain⟨d,f⟩:∃d,t[j]=d:=⟨_,rfl⟩
   have h:=Rb p t j n.j m;rw[f] at h;have hr:=c.j;rw[afl t j m,f] at hr
   cases a:dZ d with
   |true=>
    rw[a,if_pos rfl] at hr;have k:Hid (dZ d=true):=a;have l:Hid ((j+1)+iG (t.drop (j+1))=z):=by show _=_;omega
    have g:j<z:=Z;clear f hr c a;go_wp2_with fail;refine(IQ d _).m ?_;rintro e w2 ⟨rfl,rfl⟩;rw[k.j]
    go_wp2
    go_round
    case rel=>exact⟨j+1,Z,by go_num,l⟩
    case measure=>simp[RowKit.intOf];omega
   |false=>
    have k:Hid (dZ d=false):=a;have g:j=z:=by rw[a] at hr;simpa using hr
    subst g;clear f hr c a;go_wp2_with fail;refine(IQ d _).m ?_;rintro e w2 ⟨rfl,rfl⟩;rw[k.j]
    go_wp2
    all_goals
     go_ret;refine⟨?_,rfl⟩;refine kJ ?_;omega
  have g:j=z:=Z;subst g;clear c
  go_wp2
  all_goals
   go_ret;refine⟨?_,rfl⟩;refine kJ ?_;omega
end
end Go.Proofs.YtdjlkahbpdoemaaGreatDoor
namespace Go.Vx
section
variable {P:Program}
theorem afR(t e n cs k)(i:Int)(h:P.underlying t=some (.array n e))(he:P.plainKey e=true)(a:P.cellsOf e=1)(c:0<=i)(h1:i<n)(hn:cs.size=n):
  (Instr.index t (.agg cs) (.int k i)).run P w=.ok (Fz cs i.toNat) w:=by
 have f:i.toNat<cs.size:=Z;have⟨v,hv⟩:∃v,cs[i.toNat]?=some v:=⟨cs[i.toNat],by simp[f]⟩;have hr:Fz cs i.toNat=v:=by simp[Fz,hv]
 rw[hr];cases b:P.info? e with
 |none=>simp[Program.cellsOf,b] at a
 |some g=>
  unfold Program.plainKey at he;cases hu:P.underlying e with
  |none=>simp[hu] at he
  |some d=>cases d<;>simp[hu] at he<;>simp[Instr.index,asIntOf,run_underlying h,c,h1,run_sizeOf w b,a,part,isAgg,run_underlying hu,hv]
end
def FI:List (Z2):=[
 [],
 [108,117,105],
 [97,117,105,112,99],
 [106,97,108],
 [106,97,108,114],
 [98,101,113],
 [98,110,101],
 [98,108,116],
 [98,103,101],
 [98,108,116,117],
 [98,103,101,117],
 [108,98],
 [108,104],
 [108,119],
 [108,98,117],
 [108,104,117],
 [115,98],
 [115,104],
 [115,119],
 [97,100,100,105],
 [115,108,116,105],
 [115,108,116,105,117],
 [120,111,114,105],
 [111,114,105],
 [97,110,100,105],
 [115,108,108,105],
 [115,114,108,105],
 [115,114,97,105],
 [97,100,100],
 [115,117,98],
 [115,108,108],
 [115,108,116],
 [115,108,116,117],
 [120,111,114],
 [115,114,108],
 [115,114,97],
 [111,114],
 [97,110,100],
 [102,101,110,99,101],
 [101,99,97,108,108],
 [101,98,114,101,97,107],
 [109,117,108],
 [109,117,108,104],
 [109,117,108,104,115,117],
 [109,117,108,104,117],
 [100,105,118],
 [100,105,118,117],
 [114,101,109],
 [114,101,109,117]]
def jO(op:Int):Z2:=FI.getD op.toNat []
theorem ahH(n)(h:n<49):Fz (FI.map λl=>Value.string ⟨l.toArray⟩).toArray n=.string ⟨(FI.getD n []).toArray⟩:=by
 have a:n<FI.length:=by simpa[FI] using h
 simp only[Fz,List.getD_eq_getElem?_getD,List.getElem?_map];rw[List.getElem?_eq_getElem a];rfl
def dR(op:Int):Z2:=
 if op=1\/op=2 then [100,105]
 else if op=3 then [100,106]
 else if op=4\/(11<=op/\op<=15) then [100,109]
 else if 5<=op/\op<=10 then [115,116,106]
 else if 16<=op/\op<=18 then [116,109]
 else if (19<=op/\op<=27)\/op=38 then [100,115,105]
 else if op=39\/op=40\/op<1\/48<op then []
 else [100,115,116]
end Go.Vx
namespace Go.Proofs.YtdjlkahbpdoemaaGreatDoor
theorem Xx(op)(h1:1<=op)(a:op<=48)(w):
  Zk 280 #[O op] w λe w'=>Zr e (.string ⟨(jO op).toArray⟩)/\w'=w:=by
 have b:=λ(cs:Array Value) (hn:cs.size=49) (w:Z0)=>afR (P:=prog) (w:=w) 441 9 49 cs .i64 op underlying441 Zx Zx Z Z hn;go_enter func280,ntmps280;go_wp2;go_ret;exact⟨sL (Y (ahH op.toNat Z)).j,rfl⟩
theorem afx(op:Int)(h1:1<=op)(l:op<=48)(w:Z0):
  Zk 281 #[O op] w λe w'=>Zr e (.string ⟨(dR op).toArray⟩)/\w'=w:=by
 have k:op=1\/op=2\/op=3\/op=4\/(11<=op/\op<=15)\/(5<=op/\op<=10)\/(16<=op/\op<=18)\/(19<=op/\op<=27)\/op=38\/op=39\/op=40\/(28<=op/\op<=37)\/(41<=op/\op<=48):=Z;rcases k with rfl|rfl|rfl|rfl|⟨a,b⟩|⟨a,b⟩|⟨a,b⟩|⟨a,b⟩|rfl|rfl|rfl|⟨a,b⟩|⟨a,b⟩
 ·go_enter func281,ntmps281
  go_wp2
  go_ret;exact⟨sL rfl,rfl⟩
 ·go_enter func281,ntmps281
  go_wp2
  go_ret;exact⟨sL rfl,rfl⟩
 ·go_enter func281,ntmps281
  go_wp2
  go_ret;exact⟨sL rfl,rfl⟩
 ·go_enter func281,ntmps281
  go_wp2
  go_ret;exact⟨sL rfl,rfl⟩
 ·have c:Hid (dR op=[100,109]):=by
   show dR op=_;unfold Vx.dR;rw[if_neg Z,if_neg Z,if_pos Z]
  have e1:(op==1)=false:=ZF;have d:(op==2)=false:=ZF;have f:(op==3)=false:=ZF;have g:(op==4)=false:=ZF;have h:(op==38)=false:=ZF;have i:(op==39)=false:=ZF;have j:(op==40)=false:=ZF;go_enter func281,ntmps281
  go_wp2
  go_ret;refine⟨?_,rfl⟩;rw[c.j];rfl
 ·have c:Hid (dR op=[115,116,106]):=by
   show dR op=_;unfold Vx.dR;rw[if_neg Z,if_neg Z,if_neg Z,if_pos Z]
  have e1:(op==1)=false:=ZF;have d:(op==2)=false:=ZF;have f:(op==3)=false:=ZF;have g:(op==4)=false:=ZF;have h:(op==38)=false:=ZF;have i:(op==39)=false:=ZF;have j:(op==40)=false:=ZF;go_enter func281,ntmps281
  go_wp2
  go_ret;refine⟨?_,rfl⟩;rw[c.j];rfl
 ·have c:Hid (dR op=[116,109]):=by
   show dR op=_;unfold Vx.dR;rw[if_neg Z,if_neg Z,if_neg Z,if_neg Z,if_pos Z]
  have e1:(op==1)=false:=ZF;have d:(op==2)=false:=ZF;have f:(op==3)=false:=ZF;have g:(op==4)=false:=ZF;have h:(op==38)=false:=ZF;have i:(op==39)=false:=ZF;have j:(op==40)=false:=ZF;go_enter func281,ntmps281
  go_wp2
  go_ret;refine⟨?_,rfl⟩;rw[c.j];rfl
 ·have c:Hid (dR op=[100,115,105]):=by
   show dR op=_;unfold Vx.dR;rw[if_neg Z,if_neg Z,if_neg Z,if_neg Z,if_neg Z,if_pos Z]
  have e1:(op==1)=false:=ZF;have d:(op==2)=false:=ZF;have f:(op==3)=false:=ZF;have g:(op==4)=false:=ZF;have h:(op==38)=false:=ZF;have i:(op==39)=false:=ZF;have j:(op==40)=false:=ZF;go_enter func281,ntmps281
  go_wp2
  go_ret;refine⟨?_,rfl⟩;rw[c.j];rfl
 ·go_enter func281,ntmps281
  go_wp2
  go_ret;exact⟨sL rfl,rfl⟩
 ·go_enter func281,ntmps281
  go_wp2
  go_ret;exact⟨sL rfl,rfl⟩
 ·go_enter func281,ntmps281
  go_wp2
  go_ret;exact⟨sL rfl,rfl⟩
 ·have c:Hid (dR op=[100,115,116]):=by
   show dR op=_;unfold Vx.dR;rw[if_neg Z,if_neg Z,if_neg Z,if_neg Z,if_neg Z,if_neg Z,if_neg Z]
  have e1:(op==1)=false:=ZF;have d:(op==2)=false:=ZF;have f:(op==3)=false:=ZF;have g:(op==4)=false:=ZF;have h:(op==38)=false:=ZF;have i:(op==39)=false:=ZF;have j:(op==40)=false:=ZF;go_enter func281,ntmps281
  go_wp2
  go_ret;refine⟨?_,rfl⟩;rw[c.j];rfl
 have c:Hid (dR op=[100,115,116]):=by
  show dR op=_;unfold Vx.dR;rw[if_neg Z,if_neg Z,if_neg Z,if_neg Z,if_neg Z,if_neg Z,if_neg Z]
 have e1:(op==1)=false:=ZF;have d:(op==2)=false:=ZF;have f:(op==3)=false:=ZF;have g:(op==4)=false:=ZF;have h:(op==38)=false:=ZF;have i:(op==39)=false:=ZF;have j:(op==40)=false:=ZF;go_enter func281,ntmps281
 go_wp2
 go_ret;refine⟨?_,rfl⟩;rw[c.j];rfl
section
open Go.Vx (dZ bU iG cj kM gP mV H jO)
def CH(w:Z0)(B:Nat)(v:Z3)(ts:List (Z2)):Prop:=
 ∃p n c,v=.slice p n c/\n=ts.length/\n<=c/\(ts=[]\/∃g o,p=some (E g o)/\g<B/\∀(j:Nat) (h:j<ts.length),w.cell? (E g (o+j))=some (cj ts[j]))
def aY(w:Z0)(b:Nat)(ts:List (Z2)):Prop:=
 b<w.heap.size/\∃v,w.cell? (E b 0)=some v/\w.frozen? (E b 0)=false/\CH w b v ts
theorem CH.only(h:CH w B v ts)(a:H S w w')(i:B<=w.heap.size)(b:∀k,k<B->¬S k):CH w' B v ts:=by
 have⟨p,n,c,hv,hn,d,h1⟩:=h;refine⟨p,n,c,hv,hn,d,?_⟩;rcases h1 with h1|⟨g,o,hp,hg,e⟩
 ·exact Or.inl h1
 refine Or.inr ⟨g,o,hp,hg,λj f=>?_⟩;rw[a.cell (p:=E g (o+j)) (by show g<_;omega) (b g hg)];exact e j f
theorem aY.only(h:aY w b ts)(a:H S w w')(c:∀k,k<=b->¬S k):aY w' b ts:=by
 have⟨hb,v,d,hf,hs⟩:=h;refine⟨Nat.lt_of_lt_of_le hb a.size,v,?_,?_,hs.only a Z (λk hk=>c k Z)⟩
 ·rwa[a.cell (p:=E b 0) hb (c b (Nat.le_refl _))]
 rwa[a.frozen (p:=E b 0) hb (c b (Nat.le_refl _))]
theorem aY.set(hb:b<w.heap.size)(c:w.cell? (E b 0)=some v)(hf:w.frozen? (E b 0)=false)(hs:CH w b v' ts):
  aY (w.setCell (E b 0) v') b ts/\H (λk=>k=b) w (w.setCell (E b 0) v'):=by
 have a:=H.setCell (S:=λk=>k=b) (H.refl _ w) (p:=E b 0) (Or.inl rfl) v';refine⟨⟨Nat.lt_of_lt_of_le hb a.size,v',?_,?_,hs.only a Z (λk hk=>Z)⟩,a⟩
 ·exact World.cell?_setCell_same _ _ _ (by rw[c])
 simp[go_sem];exact hf
theorem sz9(w):(sizeOf 9).run prog w=.ok 1 w:=Zx
theorem DE(b t ts)(B:ts.length<=30000)(w)(h:aY w b (t::ts)):
  Zk 114 #[M b] w λe w'=>Zr e (cj t)/\aY w' b ts/\H (λk=>k=b) w w':=by
 obtain⟨hb,v,x,hf,p,n,c,rfl,hn,C,h1⟩:=h;rcases h1 with h1|⟨g,o,rfl,hg,u⟩
 ·cases h1
 have D:w.cell? (E g o)=some (cj t):=u 0 (by simp);have d:Hid (n=ts.length+1):=by show n=_;simpa using hn
 have F:((n:Int)==0)=false:=by rw[beq_eq_false_iff_ne];have:=d.j;omega
 have q:(1:Int)<=(n:Int):=by have:=d.j;omega
 have G:0<=(0:Int)/\(0:Int)<(n:Int):=by have:=d.j;omega
 have⟨f,i⟩:∃f:Option Addr,(if c=1 then some (E g o) else some (E g (o+1)))=f:=⟨_,rfl⟩;have⟨l,r⟩:∃l:Nat,n - 1=l:=⟨_,rfl⟩;have⟨c',s⟩:∃c':Nat,c - 1=c':=⟨_,rfl⟩;have K:∀m:Z0,(Instr.slice 119 (.slice (some (E g o)) n c) (some (O 1)) none none).run prog m=.ok (.slice f l c') m:=by
  intro m;have e1:prog.elem 119=9:=Zx;rw[run_slice_l (P:=prog) (t:=119) (w:=m) (a:=some (E g o)) (len:=n) (cap:=c) (e1▸underlying119) .i64 1 I q,e1,sz9,<-i,<-r,<-s];rfl
 have y:Hid ((if c=1 then some (E g o) else some (E g (o+1)))=f/\n - 1=l/\c - 1=c'):=⟨i,r,s⟩;have z:Hid (∀j (h:j<ts.length),w.cell? (E g (o+1+j))=some (cj ts[j])):=by
  intro j A;have:=u (j+1) (by simpa using A);rw[show o+1+j=o+(j+1) from Z];simpa using this
 go_enter func114,ntmps114;go_wp2;go_ret;have hn:=d.j;have⟨i,r,s⟩:=y.j;refine⟨rfl,aY.set hb (Y x).j (Y hf).j ⟨_,_,_,rfl,Z,Z,?_⟩⟩;rw[<-i];by_cases he:ts=[]
 ·exact Or.inl he
 have:0<ts.length:=List.length_pos_iff.2 he;rw[if_neg Z];exact Or.inr ⟨g,o+1,rfl,hg,z.j⟩
theorem aiO(b w)(h:aY w b []):
  Zk 114 #[M b] w λe w'=>Zr e (cj [])/\w'=w:=by
 obtain⟨hb,v,d,hf,p,n,c,rfl,hn,f,h1⟩:=h;have a:n=0:=by simpa using hn
 subst a;clear hn;go_enter func114,ntmps114;go_wp2;go_ret;exact⟨rfl,rfl⟩
theorem IE(b t ts)(c:ts.length<=30000)(w)(h:aY w b (t::ts)):
  Zk 116 #[M b,cj t] w λe w'=>Zr e (.tuple #[])/\aY w' b ts/\H (λk=>k=b) w w':=by
 go_enter func116,ntmps116;go_wp2_with fail;refine(DE b t ts c _ (Y h).j).m ?_;rintro e w1 ⟨rfl,hr,d⟩;have a:Hid (aY w1 b ts/\H (λk=>k=b) w w1):=⟨hr,d⟩;unfold cj;have f:(t !=t)=false:=by simp
 go_wp2;first|go_end0|refine bodyPost_ret (results_none rfl _ _ _) rfl ?_
 exact⟨rfl,a.j⟩
end
end Go.Proofs.YtdjlkahbpdoemaaGreatDoor
namespace Go.Vx
def wR(t:Z2):Nat->Int->Int
 |0,_=>0
 |n+1,i=>if jO i=t then i else wR t n (i+1)
def vJ(t:Z2):Int:=wR t 48 1
end Go.Vx
namespace Go.Proofs.YtdjlkahbpdoemaaGreatDoor
section
open Go.Vx (dZ bU iG cj kM gP mV H jO vJ wR)
theorem aii(t k)(a:1<=k)(hk:k<=48)(h:jO k=t):wR t (49 - k).toNat k=k:=by
 rw[show(49 - k).toNat=(49 - (k+1)).toNat+1 from Z,wR,if_pos h]
theorem aih(t k)(a:1<=k)(hk:k<=48)(h:jO k≠t):wR t (49 - k).toNat k=wR t (49 - (k+1)).toNat (k+1):=by
 rw[show(49 - k).toNat=(49 - (k+1)).toNat+1 from Z,wR,if_neg h]
theorem aif(t w):
  Zk 214 #[.string ⟨t.toArray⟩] w λe w'=>Zr e (O (vJ t))/\w'=w:=by
 go_enter func214,ntmps214;go_wp2;go_loop [3] (λa=>∃k:Int,1<=k/\k<=49/\a=O k/\Hid (wR t (49 - k).toNat k=vJ t)) (λa=>(49 - RowKit.intOf a).toNat)
 case atStart=>exact⟨1,Z,Z,rfl,rfl⟩
 case round=>
  obtain⟨k,h1,h,rfl,d⟩:=hrel;by_cases c:k<=48
  ·have⟨nm,f⟩:∃nm,jO k=nm:=⟨_,rfl⟩;have g:=Y f;by_cases he:nm=t
   ·have b:Hid (k=vJ t):=by
     show k=vJ t;rw[<-d.j,aii t k h1 c (f▸he)]
    have hb:(nm==t)=true:=by simp[he]
    go_wp2_with fail;refine(Xx k h1 c _).m ?_;rintro e w2 ⟨rfl,rfl⟩;rw[g.j];go_wp2;go_ret;exact⟨kJ b.j,rfl⟩
   have b:Hid (wR t (49 - (k+1)).toNat (k+1)=vJ t):=by
    show wR t (49 - (k+1)).toNat (k+1)=vJ t;rw[<-d.j,aih t k h1 c (f▸he)]
   have hb:(nm==t)=false:=by simp[he]
   go_wp2_with fail;refine(Xx k h1 c _).m ?_;rintro e w2 ⟨rfl,rfl⟩;rw[g.j];go_wp2;go_round
   case rel=>exact⟨k+1,Z,Z,by go_num,b⟩
   case measure=>simp[RowKit.intOf];omega
  have hk:k=49:=Z;subst hk;have b:Hid ((0:Int)=vJ t):=d.j;go_wp2;go_ret;exact⟨kJ b.j,rfl⟩
theorem aij(op)(b:1<=op)(h1:op<=48):vJ (jO op)=op:=by
 have h:∀k:Fin 48,vJ (jO ((k.val:Int)+1))=(k.val:Int)+1:=by decide+kernel
 have a:=h ⟨(op - 1).toNat,Z⟩;have e:(((op - 1).toNat:Nat):Int)+1=op:=Z;rwa[e] at a
theorem Q6(c0 t)(ht:t.length<=20000)(w):
  Zk 115 #[.string ⟨(c0::t).toArray⟩] w λe w'=>Zr e (.bool (gP (c0::t)))/\w'=w:=by
 obtain⟨l,b⟩:∃l,c0::t=l:=⟨_,rfl⟩
 have hlen:l.length<=20001:=by rw[<-b];simp;exact ht
 have q:0<l.length:=by rw[<-b];simp
 have j:Hid (gP l=(l.all kM&& !(mV c0))):=by
  show gP l=_;rw[<-b];rfl
 have v:∀m:Z0,(Instr.index 9 (.string ⟨l.toArray⟩) (O 0)).run prog m=.ok (.int .u8 ((c0.toNat:Nat):Int)) m:=by
  intro m;have:=Rb ⟨l.toArray⟩ l 0 rfl q m;have e:l[0]=c0:=by subst b;rfl
  rw[e] at this;exact this
 have B:(l==[])=false:=by rw[<-b];rfl
 have C:(ByteArray.mk l.toArray).size=l.length:=by simp[ByteArray.size]
 rw[b];clear b ht
 cases n:mV c0 with
 |true=>
  have f:Hid (mV c0=true):=n;clear n;go_enter func115,ntmps115;go_wp2_with (go_at_call 211;refine(Yi _ _).m ?_;rintro e w' ⟨rfl,rfl⟩;rw[f.j]);go_ret
  exact⟨sL (by rw[j.j,f.j];simp[go_sem]),rfl⟩
 |false=>
  have f:Hid (mV c0=false):=n;clear n;go_enter func115,ntmps115;go_wp2_with (go_at_call 211;refine(Yi _ _).m ?_;rintro e w' ⟨rfl,rfl⟩;rw[f.j])
  go_loop [13] (λa=>∃k:Nat,k<=l.length/\a=O k/\Hid ((l.drop k).all kM=l.all kM)) (λa=>l.length - (RowKit.intOf a).toNat)
  case atStart=>exact⟨0,Z,rfl,rfl⟩
  case round=>
   obtain⟨k,hk,rfl,o⟩:=hrel;by_cases u:k<l.length
   ·obtain⟨c,r⟩:∃c,l[k]=c:=⟨_,rfl⟩
    have x:=Rb ⟨l.toArray⟩ l k rfl u;rw[r] at x
    have p:Hid ((kM c&&(l.drop (k+1)).all kM)=l.all kM):=by
     have:=o.j;rw[List.drop_eq_getElem_cons u,List.all_cons,r] at this;exact this
    clear r o
    cases g:dZ c with
    |false=>
     have s:Hid (gP l=false):=by
      show gP l=false;rw[j.j,<-p.j];simp[kM,g]
     have i:Hid (dZ c=false):=g;clear g;go_wp2_with (go_at_call 210;refine(IQ c _).m ?_;rintro e w2 ⟨rfl,rfl⟩;rw[i.j]);go_ret
     exact⟨sL (by rw[s.j];rfl),rfl⟩
    |true=>
     have i:Hid (dZ c=true):=g;clear g;by_cases d:c=45
     ·have s:Hid (gP l=false):=by
       show gP l=false;rw[j.j,<-p.j];simp[kM,d]
      have hb:(((c.toNat:Nat):Int)==45)=true:=by rw[d];decide
      clear d;go_wp2_with (go_at_call 210;refine(IQ c _).m ?_;rintro e w2 ⟨rfl,rfl⟩;rw[i.j]);go_ret;exact⟨sL (by rw[s.j];rfl),rfl⟩
     have y:Hid ((l.drop (k+1)).all kM=l.all kM):=by
      have:=p.j;have z:kM c=true:=by unfold kM;rw[i.j];simp[d]
      rw[z,Bool.true_and] at this;exact this
     have hb:(((c.toNat:Nat):Int)==45)=false:=by rw[beq_eq_false_iff_ne];intro h;exact d (UInt8.toNat_inj.1 (by show c.toNat=45;omega))
     clear d p;go_wp2_with (go_at_call 210;refine(IQ c _).m ?_;rintro e w2 ⟨rfl,rfl⟩;rw[i.j])
     go_round
     case rel=>exact⟨k+1,Z,by go_num,y⟩
     case measure=>simp[RowKit.intOf];omega
   have A:Hid (l.all kM=true):=by
    have:=o.j;rw[List.drop_of_length_le Z] at this;exact this.symm
   clear o
   go_wp2
   go_ret;exact⟨sL (by rw[j.j,A.j,f.j];rfl),rfl⟩
end
end Go.Proofs.YtdjlkahbpdoemaaGreatDoor
namespace Go.Vx
theorem Gy(n)(h:n<10):(UInt8.ofNat (48+n)).toNat=48+n:=by
 rw[UInt8.toNat_ofNat'];omega
theorem J0(u):∀c∈Lib.decDigits u,48<=c.toNat/\c.toNat<=57:=by
 induction u using Nat.strongRecOn with
 |_ u b=>
  intro c a;rw[Lib.decDigits] at a;split at a
  ·rename_i h;rw[List.mem_singleton] at a;rw[a,Gy u h];omega
  rename_i h;rw[List.mem_append,List.mem_singleton] at a;rcases a with a|a
  ·exact b (u/10) Z c a
  rw[a,Gy _ Z];omega
theorem NZ(u):Lib.decDigits u≠[]:=by
 rw[Lib.decDigits];split<;>simp
theorem Mw:∀(k u:Nat),u<10^(k+1)->Lib.nDigits u<=k+1
 |0,u,h=>by rw[Lib.nDigits_small (by simpa using h)];omega
 |k+1,u,h=>by
  by_cases hu:u<10
  ·rw[Lib.nDigits_small hu];omega
  rw[Lib.nDigits_big hu];have:=Mw k (u/10) (by rw[Nat.pow_succ] at h;omega);omega
theorem WT(a:Nat):∀(l:Z2) (c:UInt8) (acc n:Nat),Lib.parseUintM a acc l=.ok n->48<=c.toNat/\c.toNat<=57->n<1844674407370955162->n*10+(c.toNat - 48)<=a->Lib.parseUintM a acc (l++[c])=.ok (n*10+(c.toNat - 48))
 |[],c,acc,n,h,d,h1,e=>by
  have:acc=n:=by simpa[Lib.parseUintM] using h
  subst this;simp only[List.nil_append,Lib.parseUintM];rw[if_pos d,if_neg Z,if_neg Z]
 |b::l,c,acc,n,h,d,h1,e=>by
  rw[List.cons_append];rw[Lib.parseUintM] at h|-;by_cases hb:48<=b.toNat/\b.toNat<=57
  ·rw[if_pos hb] at h|-;by_cases f:1844674407370955162<=acc
   ·rw[if_pos f] at h;cases h
   rw[if_neg f] at h|-;by_cases g:a<acc*10+(b.toNat - 48)
   ·rw[if_pos g] at h;cases h
   rw[if_neg g] at h|-;exact WT a l c _ n h d h1 e
  rw[if_neg hb] at h;cases h
theorem ahP(a u)(h:u<=a)(c:u<18446744073709551616):Lib.parseUintM a 0 (Lib.decDigits u)=.ok u:=by
 induction u using Nat.strongRecOn with
 |_ u b=>
  rw[Lib.decDigits];split
  ·rename_i hu;simp only[Lib.parseUintM];rw[Gy u hu,if_pos Z,if_neg Z,if_neg Z];congr 1;omega
  rename_i hu;rw[WT a _ (UInt8.ofNat (48+u % 10)) 0 (u/10) (b (u/10) Z Z Z) (by rw[Gy _ Z];omega) Z (by rw[Gy _ Z];omega),Gy _ Z];congr 1;omega
theorem ahQ(u)(h:u<18446744073709551616):Lib.parseUintB 64 (Lib.decDigits u)=.ok u:=by
 unfold Lib.parseUintB;rw[if_neg (NZ u)];exact ahP _ u (by have:(2:Nat)^64 - 1=18446744073709551615:=I;omega) h
theorem agE(n)(h:n<32):Lib.atoiAll (Lib.decDigits n)=.ok (n:Int):=by
 have:∀k:Fin 32,Lib.atoiAll (Lib.decDigits k.val)=.ok (k.val:Int):=by decide+kernel
 exact this ⟨n,h⟩
theorem aiM(u):Lib.hasPrefix (Lib.decDigits u) [45]=false:=by
 have h:=J0 u;cases a:Lib.decDigits u with
 |nil=>rfl
 |cons c l=>
  rw[a] at h;have:=(h c (List.mem_cons_self ..)).1;unfold Lib.hasPrefix;simp only[List.isPrefixOf];have b:((45:UInt8)==c)=false:=by rw[beq_eq_false_iff_ne];intro e;subst e;exact absurd this I
  rw[b];rfl
theorem Xm(u):Lib.hasPrefix (Lib.decDigits u) [48,120]=false:=by
 have h:=J0 u;cases a:Lib.decDigits u with
 |nil=>rfl
 |cons c l=>
  cases l with
  |nil=>unfold Lib.hasPrefix;simp[List.isPrefixOf]
  |cons d l=>
   rw[a] at h;have:=(h d (by simp)).2;unfold Lib.hasPrefix;simp only[List.isPrefixOf];have b:((120:UInt8)==d)=false:=by rw[beq_eq_false_iff_ne];intro e;subst e;exact absurd this I
   rw[b];simp
theorem Po{s p:Z2}(h:Lib.hasPrefix s p=false):Lib.trimPrefix s p=s:=by
 unfold Lib.trimPrefix;rw[h];rfl
theorem aao(l):Lib.hasPrefix (45::l) [45]=true:=by simp[Lib.hasPrefix,List.isPrefixOf]
theorem adL(l):Lib.trimPrefix (45::l) [45]=l:=by unfold Lib.trimPrefix;rw[aao];rfl
theorem adK(l):Lib.trimPrefix (120::l) [120]=l:=by
 have:Lib.hasPrefix (120::l) [120]=true:=by simp[Lib.hasPrefix,List.isPrefixOf]
 unfold Lib.trimPrefix;rw[this];rfl
theorem alh(n):gP (Lib.itoa n)=false:=by
 unfold Lib.itoa;split
 ·unfold gP;simp[kM]
 have h:=J0 n.toNat;cases a:Lib.decDigits n.toNat with
 |nil=>exact absurd a (NZ _)
 |cons c l=>
  rw[a] at h;have d:=h c (List.mem_cons_self ..);have b:mV c=true:=by
   unfold mV;simp[UInt8.le_iff_toNat_le];omega
  show((c::l).all kM&& !(mV c))=false;rw[b];simp
theorem H.bytes(S w e s):H S w (Lib.bytesWorld w e s):=
 ⟨rfl,rfl,rfl,by rw[Lib.bytesWorld_size];omega,λk hk _=>Lib.bytesWorld_at_old w e s k hk⟩
end Go.Vx
namespace Go.Proofs.YtdjlkahbpdoemaaGreatDoor
section
open Go.Vx (dZ bU iG cj kM gP mV H)
theorem ap8(n)(hn:n<32)(w):
  Zk 277 #[.string ⟨(Lib.decDigits n).toArray⟩] w λe w'=>Zr e (.tuple #[O n,.nilIface])/\Zq w w':=by
 have a:(ByteArray.mk (Lib.decDigits n).toArray).size<=9223372036854775806:=by
  have:(ByteArray.mk (Lib.decDigits n).toArray).size=(Lib.decDigits n).length:=by simp[ByteArray.size]
  rw[this,Lib.decDigits_length];have:=ID n Z;omega
 refine(strconv_Atoi_ok ⟨(Lib.decDigits n).toArray⟩ a n (agE n hn) w).m ?_;rintro e w' ⟨rfl,rfl|⟨t,rfl⟩⟩
 ·exact⟨rfl,H.refl _ _⟩
 exact⟨rfl,H.bytes _ _ _ _⟩
theorem WU(n)(hn:n<18446744073709551616)(w):
  Zk 319 #[.string ⟨(Lib.decDigits n).toArray⟩,O 10,O 64] w λe w'=>Zr e (.tuple #[.int .u64 n,.nilIface])/\Zq w w':=by
 have a:(ByteArray.mk (Lib.decDigits n).toArray).size<=9223372036854775806:=by
  have:(ByteArray.mk (Lib.decDigits n).toArray).size=(Lib.decDigits n).length:=by simp[ByteArray.size]
  rw[this,Lib.decDigits_length];have:=ID n hn;omega
 refine(strconv_ParseUint_10_at64_ok ⟨(Lib.decDigits n).toArray⟩ a n (ahQ n hn) w).m ?_;rintro e w' ⟨rfl,rfl|rfl⟩
 ·exact⟨rfl,H.refl _ _⟩
 exact⟨rfl,H.bytes _ _ _ _⟩
theorem adM(l p w):
  Zk 278 #[.string ⟨l.toArray⟩,.string ⟨p.toArray⟩] w λe w'=>Zr e (.string ⟨(Lib.trimPrefix l p).toArray⟩)/\w'=w:=strings_TrimPrefix ⟨l.toArray⟩ ⟨p.toArray⟩ w
theorem N4(l p w):
  Zk 318 #[.string ⟨l.toArray⟩,.string ⟨p.toArray⟩] w λe w'=>Zr e (.tuple #[.string ⟨(Lib.trimPrefix l p).toArray⟩,.bool (Lib.hasPrefix l p)])/\w'=w:=strings_CutPrefix ⟨l.toArray⟩ ⟨p.toArray⟩ w
theorem Mj(b n)(hn:n<32)(ts)(f:ts.length<=30000)(w)(h:aY w b ((120::Lib.decDigits n)::ts)):
  Zk 213 #[M b] w λe w'=>Zr e (O n)/\aY w' b ts/\H (λk=>k=b) w w':=by
 have⟨ds,c⟩:∃ds,Lib.decDigits n=ds:=⟨_,rfl⟩;have a:=Y c;have g:ds.length<=20:=by rw[<-c,Lib.decDigits_length];exact ID n Z
 have h1:¬(n:Int)<0:=Z;have m:¬(31:Int)<(n:Int):=Z;have i:=cat [120] ds;have hb:(120::ds==120::ds)=true:=by simp
 have o:(120::ds !=120::ds)=false:=by simp
 go_enter func213,ntmps213;go_wp2_with fail;refine(DE b _ ts f _ (Y h).j).m ?_;rintro e w1 ⟨rfl,dM,j⟩;have H1:Hid (aY w1 b ts/\H (λk=>k=b) w w1):=⟨dM,j⟩;rw[a.j];unfold cj;go_wp2_with fail;refine(adM (120::ds) [120] _).m ?_;rintro e w2 ⟨rfl,rfl⟩;rw[(Y (adK ds)).j];go_wp2_with fail;have ha:=ap8 n hn w2;rw[a.j] at ha;refine ha.m ?_;rintro e w3 ⟨rfl,d⟩;have l:Hid (aY w3 b ts/\H (λk=>k=b) w w3):=⟨H1.j.1.only d (λ_ _ h=>h),H1.j.2.trans (d.mono λ_ _ h=>h.elim)⟩;go_wp2_with fail;have hi:=strconv_Itoa_small n Z w3;rw[a.j] at hi;refine hi.m ?_;rintro e p ⟨rfl,rfl⟩;go_wp2;go_ret;exact⟨rfl,l.j⟩
theorem Xi(n)(q: -4294967296<=n)(h1:n<=4294967296)(w):
  Zk 276 #[.string ⟨(Lib.itoa n).toArray⟩] w λe w'=>Zr e (.tuple #[O n,.bool true])/\Zq w w':=by
 by_cases o:n<0
 ·have⟨m,hm⟩:∃m:Nat,n.natAbs=m:=⟨_,rfl⟩;have d:n= -(m:Int):=Z;have p:m<=4294967296:=Z;have⟨ds,a⟩:∃ds,Lib.decDigits m=ds:=⟨_,rfl⟩;have f:=Y a;have hit:Lib.itoa n=45::ds:=by unfold Lib.itoa;rw[if_pos o,hm,a]
  have g:ds.length<=10:=by rw[<-a,Lib.decDigits_length];exact Mw 9 m Z
  have h:=Y (adL ds);have c:=Y (aao ds);have b:Hid (Lib.hasPrefix ds [48,120]=false):=by show _=_;rw[<-a];exact Xm m
  have i:Hid (Lib.trimPrefix ds [48,120]=ds):=Po b.j;rw[hit];have j:=Y d;go_enter func276,ntmps276;go_wp2_with fail;refine(N4 (45::ds) [45] _).m ?_;rintro e w2 ⟨rfl,rfl⟩;rw[h.j,c.j];go_wp2_with fail;refine(N4 ds [48,120] _).m ?_;rintro e w2 ⟨rfl,rfl⟩;rw[i.j,b.j];go_wp2_with fail;have hp:=WU m Z w2;rw[f.j] at hp;refine hp.m ?_;rintro e w3 ⟨rfl,k⟩;have l:=Y k;go_wp2;go_ret2;refine⟨?_,l.j⟩;rw[j.j];rfl
 have⟨m,hm⟩:∃m:Nat,n.toNat=m:=⟨_,rfl⟩;have d:n=(m:Int):=Z;have p:m<=4294967296:=Z;have⟨ds,a⟩:∃ds,Lib.decDigits m=ds:=⟨_,rfl⟩;have f:=Y a;have hit:Lib.itoa n=ds:=by unfold Lib.itoa;rw[if_neg o,hm,a]
 have g:ds.length<=10:=by rw[<-a,Lib.decDigits_length];exact Mw 9 m Z
 have c:Hid (Lib.hasPrefix ds [45]=false):=by show _=_;rw[<-a];exact aiM m
 have h:Hid (Lib.trimPrefix ds [45]=ds):=Po c.j;have b:Hid (Lib.hasPrefix ds [48,120]=false):=by show _=_;rw[<-a];exact Xm m
 have i:Hid (Lib.trimPrefix ds [48,120]=ds):=Po b.j;rw[hit];have j:=Y d;go_enter func276,ntmps276;go_wp2_with fail;refine(N4 ds [45] _).m ?_;rintro e w2 ⟨rfl,rfl⟩;rw[h.j,c.j];go_wp2_with fail;refine(N4 ds [48,120] _).m ?_;rintro e w2 ⟨rfl,rfl⟩;rw[i.j,b.j];go_wp2_with fail;have hp:=WU m Z w2;rw[f.j] at hp;refine hp.m ?_;rintro e w3 ⟨rfl,k⟩;have l:=Y k;go_wp2;go_ret2;refine⟨?_,l.j⟩;rw[j.j];rfl
theorem Xh(b n)(c: -4294967296<=n)(h1:n<=4294967296)(ts)(d:ts.length<=30000)(w)(h:aY w b (Lib.itoa n::ts)):
  Zk 212 #[M b] w λe w'=>Zr e (O n)/\aY w' b ts/\H (λk=>k=b) w w':=by
 go_enter func212,ntmps212;go_wp2_with fail;refine(DE b _ ts d _ (Y h).j).m ?_;rintro e w1 ⟨rfl,dM,f⟩;have H1:Hid (aY w1 b ts/\H (λk=>k=b) w w1):=⟨dM,f⟩;unfold cj;go_wp2_with fail;refine(Xi n c h1 _).m ?_;rintro e w3 ⟨rfl,a⟩;have g:Hid (aY w3 b ts/\H (λk=>k=b) w w3):=⟨H1.j.1.only a (λ_ _ h=>h),H1.j.2.trans (a.mono λ_ _ h=>h.elim)⟩;go_wp2;go_ret;exact⟨rfl,g.j⟩
theorem aez(b n)(j: -4294967296<=n)(h1:n<=4294967296)(ts)(a:ts.length<=30000)(w)(h:aY w b (Lib.itoa n::ts)):
  Zk 282 #[M b] w λe w'=>Zr e (.tuple #[O n,cj []])/\aY w' b ts/\H (λk=>k=b) w w':=by
 obtain⟨c,l,d⟩:∃c l,Lib.itoa n=c::l:=by
  cases a:Lib.itoa n with
  |nil=>unfold Lib.itoa at a;split at a;cases a;exact absurd a (NZ _)
  |cons c l=>exact⟨c,l,rfl⟩
 have f:=Y d;have hlen:l.length<=20000:=by
  have:(Lib.itoa n).length<=21:=by
   unfold Lib.itoa;split
   ·have:=ID n.natAbs Z;rw[List.length_cons,Lib.decDigits_length];omega
   have:=ID n.toNat Z;rw[Lib.decDigits_length];omega
  rw[d,List.length_cons] at this;omega
 have m:Hid (gP (c::l)=false):=by show _=_;rw[<-d];exact alh n
 go_enter func282,ntmps282;go_wp2_with fail;refine(DE b _ ts a _ (Y h).j).m ?_;rintro e w1 ⟨rfl,dM,o⟩;have H1:Hid (aY w1 b ts/\H (λk=>k=b) w w1):=⟨dM,o⟩;rw[f.j];unfold cj;go_wp2_with fail;refine(Q6 c l hlen _).m ?_;rintro e w2 ⟨rfl,rfl⟩;rw[m.j];go_wp2_with fail;have g:=Xi n j h1 w2;rw[f.j] at g;refine g.m ?_;rintro e w3 ⟨rfl,i⟩;have p:Hid (aY w3 b ts/\H (λk=>k=b) w w3):=⟨H1.j.1.only i (λ_ _ h=>h),H1.j.2.trans (i.mono λ_ _ h=>h.elim)⟩;go_wp2;go_ret2;exact⟨rfl,p.j⟩
theorem aeB(b c l)(hn:gP (c::l)=true)(hlen:l.length<=20000)(ts)(a:ts.length<=30000)(w)(h:aY w b ((c::l)::ts)):
  Zk 282 #[M b] w λe w'=>Zr e (.tuple #[O 0,cj (c::l)])/\aY w' b ts/\H (λk=>k=b) w w':=by
 go_enter func282,ntmps282;go_wp2_with fail;refine(DE b _ ts a _ (Y h).j).m ?_;rintro e w1 ⟨rfl,dM,d⟩;have H1:Hid (aY w1 b ts/\H (λk=>k=b) w w1):=⟨dM,d⟩;unfold cj;go_wp2_with fail;refine(Q6 c l hlen _).m ?_;rintro e w2 ⟨rfl,rfl⟩;rw[(Y hn).j];go_wp2;go_ret2;exact⟨rfl,H1.j⟩
end
end Go.Proofs.YtdjlkahbpdoemaaGreatDoor
namespace Go.Vx
def Bk(n:Int):Z2:=120::Lib.decDigits n.toNat
def mc(i:Ins)(ak:Z2)(c:UInt8):List (Z2):=
 if c=100 then [Bk i.rd] else if c=115 then [Bk i.bQ] else if c=116 then [Bk i.bt]
 else if c=105 then [Lib.itoa i.bu] else if c=106 then [if ak=[] then Lib.itoa i.bu else ak]
 else [Lib.itoa i.bu,[40],Bk i.bQ,[41]]
def kz(i:Ins)(ak:Z2):Bool->Z2->List (Z2)
 |_,[]=>[]
 |f,c::cs=>(if f then [] else [[44]])++mc i ak c++kz i ak false cs
def vF(i:Ins)(ak:Z2)(a:Ins×Z2)(c:UInt8):Ins×Z2:=
 if c=100 then ({a.1 with rd:=i.rd},a.2) else if c=115 then ({a.1 with bQ:=i.bQ},a.2) else if c=116 then ({a.1 with bt:=i.bt},a.2)
 else if c=105 then ({a.1 with bu:=i.bu},a.2) else if c=106 then ({a.1 with bu:=i.bu},ak)
 else ({a.1 with bu:=i.bu,bQ:=i.bQ},a.2)
def ED(n:Int):Prop:=0<=n/\n<32
structure Df(i:Ins)(ak:Z2):Prop where
 QA:1<=i.op
 Qz:i.op<=48
 rd:ED i.rd
 bQ:ED i.bQ
 bt:ED i.bt
 im0: -4294967296<=i.bu
 im1:i.bu<=4294967296
 akm:ak=[]\/(∃c l,ak=c::l/\gP (c::l)=true/\l.length<=20000/\i.bu=0)
 all:(dR i.op).foldl (vF i ak) (⟨i.op,0,0,0,0⟩,[])=(i,ak)
 Ct:i.op=3\/i.op=28\/i.op=39\/i.op=40\/i.op=41
def DL(c:UInt8):Prop:=c=100\/c=115\/c=116\/c=105\/c=106\/c=109
theorem afw(h:op=3\/op=28\/op=39\/op=40\/op=41):∀(k:Nat) (hk:k<(dR op).length),(k=0->(dR op)[k]=100)/\(0<k->(dR op)[k]=115\/(dR op)[k]=116\/(dR op)[k]=106):=by
 rcases h with rfl|rfl|rfl|rfl|rfl
 all_goals
  intro k hk;have a:k<3:=Nat.lt_of_lt_of_le hk I;rcases(by omega:k=0\/k=1\/k=2) with rfl|rfl|rfl<;>(clear a;revert hk;decide)
theorem VQ(op):(dR op).length<=3/\∀c∈dR op,DL c:=by
 unfold dR DL;split
 ·decide
 split
 ·decide
 split
 ·decide
 split
 ·decide
 split
 ·decide
 split
 ·decide
 split
 ·simp
 decide
theorem TK(i:Ins)(ak:Z2):∀(f:Bool) (l:Z2),(kz i ak f l).length<=5*l.length
 |_,[]=>by simp[kz]
 |f,c::l=>by
  have h:=TK i ak false l
  have a:(mc i ak c).length<=4:=by
   unfold mc
   split;simp;split;simp;split;simp;split;simp;split<;>simp
  have b:(if f then ([]:List (Z2)) else [[44]]).length<=1:=by cases f<;>simp
  simp only[kz,List.length_append,List.length_cons];omega
end Go.Vx
namespace Go.Proofs.YtdjlkahbpdoemaaGreatDoor
section
open Go.Vx (dZ bU iG cj kM gP mV H Ins fj dR mc kz vF ED Df Bk DL)
structure j1(w:Z0)(s:Nat)(a:Ins×Z2):Prop where
 lt:s<w.heap.size
 c0:w.cell? (E s 0)=some (O a.1.op)
 c1:w.cell? (E s 1)=some (O a.1.rd)
 c2:w.cell? (E s 2)=some (O a.1.bQ)
 c3:w.cell? (E s 3)=some (O a.1.bt)
 c4:w.cell? (E s 4)=some (O a.1.bu)
 c5:w.cell? (E s 5)=some (.string ⟨a.2.toArray⟩)
 fz:∀o,w.frozen? (E s o)=false
theorem j1.only{s:Nat}(h:j1 w s a)(c:H S w w')(d:¬S s):j1 w' s a:=by
 have b:=λo=>c.cell (p:=E s o) h.lt d;refine⟨Nat.lt_of_lt_of_le h.lt c.size,?_,?_,?_,?_,?_,?_,λo=>?_⟩
 ·rw[b];exact h.c0
 ·rw[b];exact h.c1
 ·rw[b];exact h.c2
 ·rw[b];exact h.c3
 ·rw[b];exact h.c4
 ·rw[b];exact h.c5
 rw[c.frozen (p:=E s o) h.lt d];exact h.fz o
theorem size_set(w:Z0)(p v):(w.setCell p v).heap.size=w.heap.size:=by simp[World.setCell]
theorem AE(w:Z0)(p q v)(h:w.frozen? q=false):(w.setCell p v).frozen? q=false:=by simp[go_sem];exact h
theorem other{p:Addr}(h:q≠p):(w.setCell p v).cell? q=w.cell? q:=World.cell?_setCell_other _ _ _ _ h.symm
theorem same{p:Addr}{u:Z3}(h:w.cell? p=some u):(w.setCell p v).cell? p=some v:=World.cell?_setCell_same _ _ _ (by rw[h])
theorem j1.VT{s:Nat}(h:j1 w s a)(v):j1 (w.setCell (E s 1) (O v)) s ({a.1 with rd:=v},a.2):=by
 refine⟨by rw[size_set];exact h.lt,?_,?_,?_,?_,?_,?_,λo=>AE _ _ _ _ (h.fz o)⟩
 ·rw[other (by simp)];exact h.c0
 ·exact same h.c1
 ·rw[other (by simp)];exact h.c2
 ·rw[other (by simp)];exact h.c3
 ·rw[other (by simp)];exact h.c4
 rw[other (by simp)];exact h.c5
theorem j1.VS{s:Nat}(h:j1 w s a)(v):j1 (w.setCell (E s 2) (O v)) s ({a.1 with bQ:=v},a.2):=by
 refine⟨by rw[size_set];exact h.lt,?_,?_,?_,?_,?_,?_,λo=>AE _ _ _ _ (h.fz o)⟩
 ·rw[other (by simp)];exact h.c0
 ·rw[other (by simp)];exact h.c1
 ·exact same h.c2
 ·rw[other (by simp)];exact h.c3
 ·rw[other (by simp)];exact h.c4
 rw[other (by simp)];exact h.c5
theorem j1.VR{s:Nat}(h:j1 w s a)(v):j1 (w.setCell (E s 3) (O v)) s ({a.1 with bt:=v},a.2):=by
 refine⟨by rw[size_set];exact h.lt,?_,?_,?_,?_,?_,?_,λo=>AE _ _ _ _ (h.fz o)⟩
 ·rw[other (by simp)];exact h.c0
 ·rw[other (by simp)];exact h.c1
 ·rw[other (by simp)];exact h.c2
 ·exact same h.c3
 ·rw[other (by simp)];exact h.c4
 rw[other (by simp)];exact h.c5
theorem j1.VW{s:Nat}(h:j1 w s a)(v):j1 (w.setCell (E s 4) (O v)) s ({a.1 with bu:=v},a.2):=by
 refine⟨by rw[size_set];exact h.lt,?_,?_,?_,?_,?_,?_,λo=>AE _ _ _ _ (h.fz o)⟩
 ·rw[other (by simp)];exact h.c0
 ·rw[other (by simp)];exact h.c1
 ·rw[other (by simp)];exact h.c2
 ·rw[other (by simp)];exact h.c3
 ·exact same h.c4
 rw[other (by simp)];exact h.c5
theorem j1.afA{s:Nat}(h:j1 w s a)(v):j1 (w.setCell (E s 0) (O v)) s ({a.1 with op:=v},a.2):=by
 refine⟨by rw[size_set];exact h.lt,?_,?_,?_,?_,?_,?_,λo=>AE _ _ _ _ (h.fz o)⟩
 ·exact same h.c0
 ·rw[other (by simp)];exact h.c1
 ·rw[other (by simp)];exact h.c2
 ·rw[other (by simp)];exact h.c3
 ·rw[other (by simp)];exact h.c4
 rw[other (by simp)];exact h.c5
theorem j1.VV{s:Nat}(h:j1 w s a)(l):j1 (w.setCell (E s 5) (.string ⟨l.toArray⟩)) s (a.1,l):=by
 refine⟨by rw[size_set];exact h.lt,?_,?_,?_,?_,?_,?_,λo=>AE _ _ _ _ (h.fz o)⟩
 ·rw[other (by simp)];exact h.c0
 ·rw[other (by simp)];exact h.c1
 ·rw[other (by simp)];exact h.c2
 ·rw[other (by simp)];exact h.c3
 ·rw[other (by simp)];exact h.c4
 exact same h.c5
structure kD(w:Z0)(b:Nat)(sh:Z2)(wr:Z0)(k:Nat)(acc:Ins×Z2)(ts:List (Z2)):Prop where
 bl:b<w.heap.size
 rd:aY wr b ts
 ins:j1 wr (w.heap.size+1) acc
 res:j1 wr w.heap.size (⟨0,0,0,0,0⟩,[])
 it:wr.heap[w.heap.size+2]?=some (.stringIter ⟨sh.toArray⟩ k)
 on:H (λx=>x=b) w wr
theorem kD.step{k:Nat}(h:kD w b sh wr k acc ts)(hr:aY w2 b Vc)(a:H (λx=>x=b) wr w2):kD w b sh w2 k acc Vc:=by
 have hb:=h.bl;have hi:=h.it;have c:=(Array.getElem?_eq_some_iff.1 hi).1;refine⟨hb,hr,h.ins.only a Z,h.res.only a Z,?_,h.on.trans a⟩;rwa[a.block _ c Z]
theorem kD.put{k:Nat}(h:kD w b sh wr k acc ts)(o v)(hi:j1 (wr.setCell ⟨w.heap.size+1,o,none⟩ v) (w.heap.size+1) abF):kD w b sh (wr.setCell ⟨w.heap.size+1,o,none⟩ v) k abF ts:=by
 have hb:=h.bl;have a:H (λx=>x=w.heap.size+1) wr (wr.setCell ⟨w.heap.size+1,o,none⟩ v):=H.setCell (S:=λx=>x=w.heap.size+1) (H.refl _ _) (p:=⟨w.heap.size+1,o,none⟩) (Or.inl rfl) v;refine⟨hb,h.rd.only a (λk hk=>Z),hi,h.res.only a Z,?_,?_⟩
 ·rw[a.block _ ((Array.getElem?_eq_some_iff.1 h.it).1) Z];exact h.it
 exact H.setCell (S:=λx=>x=b) h.on (p:=⟨w.heap.size+1,o,none⟩) (Or.inr (by show w.heap.size<=w.heap.size+1;omega)) v
theorem ali(wr n s p):H (λx=>x=n) wr (wr.iterAt n s p):=by
 refine⟨rfl,rfl,rfl,by rw[Lib.iterAt_size];exact Nat.le_refl _,λk hk hn=>?_⟩;exact Lib.iterAt_other wr n k s p hn
theorem kD.next{k:Nat}(h:kD w b sh wr k acc ts):kD w b sh (wr.iterAt (w.heap.size+2) ⟨sh.toArray⟩ (k+1)) (k+1) acc ts:=by
 have hb:=h.bl;have a:=ali wr (w.heap.size+2) ⟨sh.toArray⟩ (k+1);refine⟨hb,h.rd.only a (λk hk=>Z),h.ins.only a Z,h.res.only a Z,Lib.iterAt_heap wr _ _ k (k+1) h.it,?_⟩;exact⟨h.on.os,h.on.tape,h.on.output,Nat.le_trans h.on.size a.size,λx c hn=>(a.block x (Nat.lt_of_lt_of_le c h.on.size) Z).trans (h.on.block x c hn)⟩
def MJ(w:Z0)(k:Nat):Nat:=match w.heap[k]? with|some (.stringIter _ pos)=>pos|_=>0
theorem IP{k:Nat}{s:ByteArray}(h:w.heap[k]?=some (.stringIter s pos)):MJ w k=pos:=by
 unfold MJ;rw[h]
def qz(i:Ins)(ak:Z2):Value:=.agg #[O i.op,O i.rd,O i.bQ,O i.bt,O i.bu,.string ⟨ak.toArray⟩]
theorem Qd(h:ED n):∃m:Nat,m<32/\(m:Int)=n/\Bk n=120::Lib.decDigits m:=⟨n.toNat,by have:=h.1;have:=h.2;omega,by have:=h.1;omega,rfl⟩
theorem alr(b:Nat)(i:Ins)(ak:Z2)(ha:Df i ak)(w:Z0)(h:aY w b (kz i ak true (dR i.op))):
  Zk 215 #[M b,O i.op] w λe w'=>Zr e (qz i ak)/\aY w' b []/\H (λk=>k=b) w w':=by
 have r:Hid (Df i ak):=ha;have h0:=ha.QA;have h1:=ha.Qz;have HR:Hid (aY w b (kz i ak true (dR i.op))):=h;clear ha h;go_enter func215,ntmps215;go_wp2_with (go_at_call 281;refine(afx _ h0 h1 _).m ?_;rintro e w' ⟨rfl,rfl⟩);have Lw:Hid ((dR i.op).foldl (vF i ak) (⟨i.op,0,0,0,0⟩,[])=(i,ak)):=r.j.all;have K:Hid ((dR i.op).length<=3/\∀c∈dR i.op,DL c):=VQ i.op;have aa:Hid (∀(k:Nat) (hk:k<(dR i.op).length),(k=0->(dR i.op)[k]=100)/\(0<k->(dR i.op)[k]=115\/(dR i.op)[k]=116\/(dR i.op)[k]=106)):=afw r.j.Ct;generalize dR i.op=sh at*;have Ay:b<w.heap.size:=HR.j.1
 go_loopw [6] (λ_ wr=>∃k:Nat,∃acc,k<=sh.length/\Hid (kD w b sh wr k acc (kz i ak (k==0) (sh.drop k)))/\Hid ((sh.drop k).foldl (vF i ak) acc=(i,ak))) (λ_ wr=>sh.length - MJ wr (w.heap.size+2))
 case atStart=>
  obtain⟨s,W⟩:∃s,w.alloc (.cells #[O 0,O 0,O 0,O 0,O 0,.string ⟨#[]⟩] 332)=s:=⟨_,rfl⟩
  obtain⟨wb,X⟩:∃wb,s.alloc (.cells #[O i.op,O 0,O 0,O 0,O 0,.string ⟨#[]⟩] 332)=wb:=⟨_,rfl⟩
  have s1:s.heap.size=w.heap.size+1:=by rw[<-W];simp
  have s2:wb.heap.size=w.heap.size+2:=by rw[<-X];simp[s1]
  refine⟨0,(⟨i.op,0,0,0,0⟩,[]),Nat.zero_le _,?_,Lw⟩;rw[W,X];have hit:=World.iter_heap wb ⟨sh.toArray⟩ 0;have ol:∀S:Z1,H S wb (wb.iter ⟨sh.toArray⟩ 0):=λS=>(H.refl S wb).alloc _
  have ob:∀S:Z1,H S s wb:=λS=>by rw[<-X];exact(H.refl S s).alloc _
  have oa:∀S:Z1,H S w s:=λS=>by rw[<-W];exact(H.refl S w).alloc _
  have i0:j1 s w.heap.size (⟨0,0,0,0,0⟩,[]):=by
   refine⟨Z,?_,?_,?_,?_,?_,?_,λo=>?_⟩<;>rw[<-W]<;>first|exact World.frozen?_alloc_new _ _ _ _|(rw[World.cell?_alloc_new];rfl)
  have i1:j1 wb (w.heap.size+1) (⟨i.op,0,0,0,0⟩,[]):=by
   refine⟨Z,?_,?_,?_,?_,?_,?_,λo=>?_⟩<;>rw[<-X,<-s1]<;>first|exact World.frozen?_alloc_new _ _ _ _|(rw[World.cell?_alloc_new];rfl)
  rw[s2] at hit;exact⟨Ay,((HR.j.only (oa (λ_=>False)) (λ_ _ h=>h)).only (ob (λ_=>False)) (λ_ _ h=>h)).only (ol (λ_=>False)) (λ_ _ h=>h),i1.only (ol (λ_=>False)) id,(i0.only (ob (λ_=>False)) id).only (ol (λ_=>False)) id,hit,((oa _).trans (ob _)).trans (ol _)⟩
 case round=>
  obtain⟨k,acc,hk,B,HF⟩:=hrel;have Rx:(ByteArray.mk sh.toArray).size=sh.length:=by simp[ByteArray.size]
  have OB:Hid (MJ wr (w.heap.size+2)=k):=IP B.j.it;by_cases C:k<sh.length
  ·obtain⟨c,D⟩:∃c,sh[k]=c:=⟨_,rfl⟩
   have ab:DL c:=by rw[<-D];exact K.j.2 _ (List.getElem_mem _)
   have Ce:(k=0->c=100)/\(0<k->c=115\/c=116\/c=106):=by rw[<-D];exact aa.j k C
   have N:∀ty,(Instr.next (.pointer (some ⟨w.heap.size+1+1,0,none⟩)) true ty).run prog wr=.ok (.tuple #[.bool true,O k,.int .i32 (c.toNat:Int)]) (wr.iterAt (w.heap.size+2) ⟨sh.toArray⟩ (k+1)):=by
    intro ty;have hg:(ByteArray.mk sh.toArray)[k]'(by rw[Rx];exact C)=c:=D;have:=Lib.run_next_ascii_at (P:=prog) wr (w.heap.size+2) ⟨sh.toArray⟩ k ty B.j.it (by rw[Rx];exact C) (by rw[hg];rcases ab with rfl|rfl|rfl|rfl|rfl|rfl<;>decide);rw[hg] at this;exact this
   have g:Hid (kD w b sh (wr.iterAt (w.heap.size+2) ⟨sh.toArray⟩ (k+1)) (k+1) acc ((if (k==0) then [] else [[44]])++(mc i ak c++kz i ak false (sh.drop (k+1))))):=by
    have h:=B.j.next;rw[List.drop_eq_getElem_cons C,D,kz,List.append_assoc] at h;exact h
   have wo:Hid ((sh.drop (k+1)).foldl (vF i ak) (vF i ak acc c)=(i,ak)):=by
    have h:=HF.j;rw[List.drop_eq_getElem_cons C,D,List.foldl_cons] at h;exact h
   have hlen:(kz i ak false (sh.drop (k+1))).length<=15:=by
    have:=TK i ak false (sh.drop (k+1));have h3:=K.j.1;rw[List.length_drop] at this;omega
   have GX:Hid (kz i ak false (sh.drop (k+1))=kz i ak (k+1==0) (sh.drop (k+1))):=rfl;generalize kz i ak false (sh.drop (k+1))=rest at*;generalize wr.iterAt (w.heap.size+2) ⟨sh.toArray⟩ (k+1)=wi at*
   have ae:(mc i ak c).length<=4:=by
    unfold Vx.mc
    split;simp;split;simp;split;simp;split;simp;split<;>simp
   clear D B HF;have HK:Hid ((k==0)=true\/(k==0)=false):=by cases h:(k==0)<;>simp[Hid]
   rcases HK.j with Q|Q
   ·have D9:k=0:=by simpa using Q
    clear HK;obtain rfl:c=100:=Ce.1 D9;have j:((((100:UInt8)).toNat:Nat):Int)=100:=rfl;rw[j] at N;clear j;have a:Hid (kD w b sh wi (k+1) acc (mc i ak 100++rest)):=by have h:=g.j;rw[Q] at h;exact h
    have Ee:¬(0:Int)<(k:Int):=Z;clear g;go_wp2_with fail;obtain⟨m,hm,t,u⟩:=Qd r.j.rd;have dn:=a.j.rd;have f:mc i ak 100=[120::Lib.decDigits m]:=by rw[<-u];rfl
    rw[f] at dn;refine(Mj b m hm rest Z _ dn).m ?_;rintro e w3 ⟨rfl,l,n⟩;rw[t];have d:Hid (kD w b sh w3 (k+1) acc rest):=a.j.step l n;have gG:=d.j.ins.c1;have yZ:=d.j.ins.fz 1;clear dn f u t hm l n a;go_wp2_with fail
    have q:Hid (kD w b sh (w3.setCell ⟨w.heap.size+1,1,none⟩ (O i.rd)) (k+1) (vF i ak acc 100) (kz i ak (k+1==0) (sh.drop (k+1)))):=by
     have h:=d.j.put 1 (O i.rd) (d.j.ins.VT i.rd);rw[GX.j] at h;exact h
    go_roundw
    case rel=>exact⟨k+1,_,Z,q,wo⟩
    case measure=>rw[OB.j,IP q.j.it];omega
   have D9:0<k:=Nat.pos_of_ne_zero (by simpa using Q);clear Q;clear HK;rcases Ce.2 D9 with rfl|rfl|rfl
   ·have j:((((115:UInt8)).toNat:Nat):Int)=115:=rfl;rw[j] at N;clear j;have dn:=g.j.rd;have y:(if (k==0)=true then ([]:List (Z2)) else [[44]])=[[44]]:=by rw[if_neg (by simp;omega)]
    rw[y] at dn;have z:Hid (aY wi b ([44]::(mc i ak 115++rest))):=dn;have Ee:(0:Int)<(k:Int):=Z;clear dn y;go_wp2_with fail;refine(IE b [44] _ (by simp only[List.length_append];omega) _ z.j).m ?_;rintro e w2 ⟨rfl,fN,A⟩;have a:Hid (kD w b sh w2 (k+1) acc (mc i ak 115++rest)):=g.j.step fN A;clear fN A g z;go_wp2_with fail;obtain⟨m,hm,t,u⟩:=Qd r.j.bQ;have dn:=a.j.rd;have f:mc i ak 115=[120::Lib.decDigits m]:=by rw[<-u];rfl
    rw[f] at dn;refine(Mj b m hm rest Z _ dn).m ?_;rintro e w3 ⟨rfl,l,n⟩;rw[t];have d:Hid (kD w b sh w3 (k+1) acc rest):=a.j.step l n;have gG:=d.j.ins.c2;have yZ:=d.j.ins.fz 2;clear dn f u t hm l n a;go_wp2_with fail
    have q:Hid (kD w b sh (w3.setCell ⟨w.heap.size+1,2,none⟩ (O i.bQ)) (k+1) (vF i ak acc 115) (kz i ak (k+1==0) (sh.drop (k+1)))):=by
     have h:=d.j.put 2 (O i.bQ) (d.j.ins.VS i.bQ);rw[GX.j] at h;exact h
    go_roundw
    case rel=>exact⟨k+1,_,Z,q,wo⟩
    case measure=>rw[OB.j,IP q.j.it];omega
   ·have j:((((116:UInt8)).toNat:Nat):Int)=116:=rfl;rw[j] at N;clear j;have dn:=g.j.rd;have y:(if (k==0)=true then ([]:List (Z2)) else [[44]])=[[44]]:=by rw[if_neg (by simp;omega)]
    rw[y] at dn;have z:Hid (aY wi b ([44]::(mc i ak 116++rest))):=dn;have Ee:(0:Int)<(k:Int):=Z;clear dn y;go_wp2_with fail;refine(IE b [44] _ (by simp only[List.length_append];omega) _ z.j).m ?_;rintro e w2 ⟨rfl,fN,A⟩;have a:Hid (kD w b sh w2 (k+1) acc (mc i ak 116++rest)):=g.j.step fN A;clear fN A g z;go_wp2_with fail;obtain⟨m,hm,t,u⟩:=Qd r.j.bt;have dn:=a.j.rd;have f:mc i ak 116=[120::Lib.decDigits m]:=by rw[<-u];rfl
    rw[f] at dn;refine(Mj b m hm rest Z _ dn).m ?_;rintro e w3 ⟨rfl,l,n⟩;rw[t];have d:Hid (kD w b sh w3 (k+1) acc rest):=a.j.step l n;have gG:=d.j.ins.c3;have yZ:=d.j.ins.fz 3;clear dn f u t hm l n a;go_wp2_with fail
    have q:Hid (kD w b sh (w3.setCell ⟨w.heap.size+1,3,none⟩ (O i.bt)) (k+1) (vF i ak acc 116) (kz i ak (k+1==0) (sh.drop (k+1)))):=by
     have h:=d.j.put 3 (O i.bt) (d.j.ins.VR i.bt);rw[GX.j] at h;exact h
    go_roundw
    case rel=>exact⟨k+1,_,Z,q,wo⟩
    case measure=>rw[OB.j,IP q.j.it];omega
   have j:((((106:UInt8)).toNat:Nat):Int)=106:=rfl;rw[j] at N;clear j;have dn:=g.j.rd;have y:(if (k==0)=true then ([]:List (Z2)) else [[44]])=[[44]]:=by rw[if_neg (by simp;omega)]
   rw[y] at dn;have z:Hid (aY wi b ([44]::(mc i ak 106++rest))):=dn;have Ee:(0:Int)<(k:Int):=Z;clear dn y;go_wp2_with fail;refine(IE b [44] _ (by simp only[List.length_append];omega) _ z.j).m ?_;rintro e w2 ⟨rfl,fN,A⟩;have a:Hid (kD w b sh w2 (k+1) acc (mc i ak 106++rest)):=g.j.step fN A;clear fN A g z;go_wp2_with fail
   have Y1:Zk 282 #[M b] w2 λe w'=>Zr e (.tuple #[O i.bu,.string ⟨ak.toArray⟩])/\aY w' b rest/\H (λk=>k=b) w2 w':=by
    have dn:=a.j.rd;rcases r.j.akm with R|⟨c',l',R,kq,rJ,ad⟩
    ·have f:mc i ak 106=[Lib.itoa i.bu]:=by show[if ak=[] then Lib.itoa i.bu else ak]=_;rw[if_pos R]
     rw[f] at dn;have ht:=aez b i.bu r.j.im0 r.j.im1 rest Z _ dn;rw[R];exact ht
    have f:mc i ak 106=[c'::l']:=by show[if ak=[] then Lib.itoa i.bu else ak]=_;rw[R,if_neg (by simp)]
    rw[f] at dn;have ht:=aeB b c' l' kq rJ rest Z _ dn;rw[R,ad];exact ht
   refine Y1.m ?_;rintro e w3 ⟨rfl,l,n⟩;have d:Hid (kD w b sh w3 (k+1) acc rest):=a.j.step l n;have gG:=d.j.ins.c4;have yZ:=d.j.ins.fz 4;have ag:=d.j.ins.c5;have ah:=d.j.ins.fz 5;clear Y1 l n a;go_wp2_with fail
   have q:Hid (kD w b sh ((w3.setCell ⟨w.heap.size+1,4,none⟩ (O i.bu)).setCell ⟨w.heap.size+1,5,none⟩ (.string ⟨ak.toArray⟩)) (k+1) (vF i ak acc 106) (kz i ak (k+1==0) (sh.drop (k+1)))):=by
    have h:=d.j.put 4 (O i.bu) (d.j.ins.VW i.bu);have h':=h.put 5 (.string ⟨ak.toArray⟩) (h.ins.VV ak);rw[GX.j] at h';exact h'
   go_roundw
   case rel=>exact⟨k+1,_,Z,q,wo⟩
   case measure=>rw[OB.j,IP q.j.it];omega
  have N:∀ty,(Instr.next (.pointer (some ⟨w.heap.size+1+1,0,none⟩)) true ty).run prog wr=.ok (.tuple #[.bool false]) wr:=λty=>
   Lib.run_next_end_at (P:=prog) wr (w.heap.size+2) ⟨sh.toArray⟩ k ty B.j.it (by rw[Rx];exact C)
  have Nx:sh.drop k=[]:=List.drop_of_length_le Z;have T:acc=(i,ak):=by have h:=HF.j;rw[Nx] at h;exact h
  have a:Hid (kD w b sh wr k (i,ak) []):=by have h:=B.j;rw[Nx,T] at h;exact h
  have q0:=a.j.ins.c0;have q1:=a.j.ins.c1;have q2:=a.j.ins.c2;have q3:=a.j.ins.c3;have q4:=a.j.ins.c4;have q5:=a.j.ins.c5;have z0:=a.j.res.c0;have z1:=a.j.res.c1;have z2:=a.j.res.c2;have z3:=a.j.res.c3;have z4:=a.j.res.c4;have z5:=a.j.res.c5;have zf:=a.j.res.fz;clear B HF Nx T;go_wp2_with fail;have F:=((((((a.j.res.afA i.op).VT i.rd).VS i.bQ).VR i.bt).VW i.bu).VV ak)
  have r0:=F.c0;have r1:=F.c1;have r2:=F.c2;have r3:=F.c3;have r4:=F.c4;have r5:=F.c5
  have U:∀S:Z1,S w.heap.size->H S wr ((((((wr.setCell (E w.heap.size 0) (O i.op)).setCell (E w.heap.size 1) (O i.rd)).setCell (E w.heap.size 2) (O i.bQ)).setCell (E w.heap.size 3) (O i.bt)).setCell (E w.heap.size 4) (O i.bu)).setCell (E w.heap.size 5) (.string ⟨ak.toArray⟩)):=λS G=>
   H.setCell (p:=E w.heap.size 5) (H.setCell (p:=E w.heap.size 4) (H.setCell (p:=E w.heap.size 3) (H.setCell (p:=E w.heap.size 2) (H.setCell (p:=E w.heap.size 1) (H.setCell (p:=E w.heap.size 0) (H.refl S wr) (Or.inl G) _) (Or.inl G) _) (Or.inl G) _) (Or.inl G) _) (Or.inl G) _) (Or.inl G) _
  generalize (((((wr.setCell (E w.heap.size 0) (O i.op)).setCell (E w.heap.size 1) (O i.rd)).setCell (E w.heap.size 2) (O i.bQ)).setCell (E w.heap.size 3) (O i.bt)).setCell (E w.heap.size 4) (O i.bu)).setCell (E w.heap.size 5) (.string ⟨ak.toArray⟩)=wz at*;refine bodyPost_ret (v:=qz i ak) (by simp[results,results215,go_sem,r0,r1,r2,r3,r4,r5,qz]) rfl ⟨rfl,?_,?_⟩
  ·exact a.j.rd.only (U (λx=>x=w.heap.size) rfl) (λk hk=>Z)
  have h1:=a.j.on;have V:=U (λx=>x=w.heap.size) rfl;exact⟨V.os.trans h1.os,V.tape.trans h1.tape,V.output.trans h1.output,Nat.le_trans h1.size V.size,λx hx hn=>(V.block x (Nat.lt_of_lt_of_le hx h1.size) Z).trans (h1.block x hx hn)⟩
end
end Go.Proofs.YtdjlkahbpdoemaaGreatDoor
namespace Go.Vx
abbrev cM:=Option (Nat⊕((Ins×Z2)⊕(Nat×Nat)))
abbrev cM.no:cM:=none
abbrev cM.word(n:Nat):cM:=some (.inl n)
abbrev cM.ins(i:Ins)(ak:Z2):cM:=some (.inr (.inl (i,ak)))
abbrev cM.li(r v:Nat):cM:=some (.inr (.inr (r,v)))
theorem cM.cs{motive:cM->Prop}(no:motive .no)(word:∀n,motive (.word n))(ins:∀i ak,motive (.ins i ak))(li:∀r v,motive (.li r v))(s:cM):motive s:=by
 rcases s with _|n|⟨i,ak⟩|⟨r,v⟩
 ·exact no
 ·exact word n
 ·exact ins i ak
 exact li r v
def dP:cM->List (Z2)
 |none=>[]
 |some (.inl n)=>[[46,119,111,114,100],Lib.itoa (n:Int)]
 |some (.inr (.inl (i,ak)))=>jO i.op::kz i ak true (dR i.op)
 |some (.inr (.inr (r,v)))=>[[108,105],120::Lib.decDigits r,[44],Lib.itoa (v:Int)]
def oy:cM->Prop
 |none=>True
 |some (.inl n)=>n<4294967296
 |some (.inr (.inl (i,ak)))=>Df i ak
 |some (.inr (.inr (r,v)))=>r<32/\v<4294967296
def eu:cM->Nat
 |none=>0
 |some (.inr (.inr (_,_)))=>8
 |_=>4
theorem Xw(op)(b:1<=op)(h1:op<=48):(jO op==[46,119,111,114,100])=false/\(jO op==[108,105])=false/\(jO op==[])=false:=by
 have h:∀k:Fin 48,(jO ((k.val:Int)+1)==[46,119,111,114,100])=false/\(jO ((k.val:Int)+1)==[108,105])=false/\(jO ((k.val:Int)+1)==[])=false:=by decide+kernel
 have a:=h ⟨(op - 1).toNat,Z⟩;have e:(((op - 1).toNat:Nat):Int)+1=op:=Z;simp only[e] at a;exact a
end Go.Vx
namespace Go.Proofs.YtdjlkahbpdoemaaGreatDoor
section
open Go.Vx (dZ bU iG cj kM gP mV H Ins fj dR jO mc kz vF ED Df Bk DL cM dP oy eu)
def l8:cM->Value
 |none=>.iface 261 (.agg #[])
 |some (.inl n)=>.iface 328 (.agg #[O n])
 |some (.inr (.inl (i,ak)))=>.iface 332 (qz i ak)
 |some (.inr (.inr (r,v)))=>.iface 330 (.agg #[O r,O v])
theorem aiY(b)(n:Nat)(hn:n<4294967296)(w)(h:aY w b [Lib.itoa (n:Int)]):
  Zk 117 #[M b,cj [46,119,111,114,100]] w λe w'=>Zr e (l8 (.word n))/\aY w' b []/\H (λk=>k=b) w w':=by
 have e1:(([46,119,111,114,100]:Z2)==[46,119,111,114,100])=true:=I;unfold cj l8;go_enter func117,ntmps117;go_wp2_with fail;refine(Xh b n Z Z [] (by simp) _ (Y h).j).m ?_;rintro e w1 ⟨rfl,dM,a⟩;have H1:Hid (aY w1 b []/\H (λk=>k=b) w w1):=⟨dM,a⟩;go_wp2;go_ret;exact⟨rfl,H1.j⟩
theorem aj0(b r v:Nat)(hr:r<32)(hv:v<4294967296)(w)(h:aY w b [120::Lib.decDigits r,[44],Lib.itoa (v:Int)]):
  Zk 117 #[M b,cj [108,105]] w λe w'=>Zr e (l8 (.li r v))/\aY w' b []/\H (λk=>k=b) w w':=by
 have e1:(([108,105]:Z2)==[46,119,111,114,100])=false:=I;have f:(([108,105]:Z2)==[108,105])=true:=I;unfold cj l8;go_enter func117,ntmps117;go_wp2_with fail;refine(Mj b r hr _ (by simp) _ (Y h).j).m ?_;rintro e w1 ⟨rfl,dM,a⟩;have H1:Hid (aY w1 b [[44],Lib.itoa (v:Int)]/\H (λk=>k=b) w w1):=⟨dM,a⟩;go_wp2_with fail;refine(IE b [44] _ (by simp) _ H1.j.1).m ?_;rintro e w2 ⟨rfl,dM,a⟩;have c:Hid (aY w2 b [Lib.itoa (v:Int)]/\H (λk=>k=b) w w2):=⟨dM,H1.j.2.trans a⟩;go_wp2_with fail;refine(Xh b v Z Z [] (by simp) _ c.j.1).m ?_;rintro e w3 ⟨rfl,dM,a⟩;have d:Hid (aY w3 b []/\H (λk=>k=b) w w3):=⟨dM,c.j.2.trans a⟩;go_wp2;go_ret;exact⟨rfl,d.j⟩
theorem aj1(b i ak)(ha:Df i ak)(w)(h:aY w b (kz i ak true (dR i.op))):
  Zk 117 #[M b,cj (jO i.op)] w λe w'=>Zr e (l8 (.ins i ak))/\aY w' b []/\H (λk=>k=b) w w':=by
 have d:=ha.QA;have h1:=ha.Qz;have⟨e1,g,j⟩:=Xw i.op d h1;have a:=Y (aij i.op d h1);have m:(i.op==0)=false:=ZF;have⟨nm,f⟩:∃nm,jO i.op=nm:=⟨_,rfl⟩;rw[f] at e1 g j a|-;clear f;unfold cj l8;go_enter func117,ntmps117;go_wp2_with (go_at_call 214;refine(aif nm _).m ?_;rintro e w1 ⟨rfl,rfl⟩;rw[a.j]);refine(alr b i ak (Y ha).j _ (Y h).j).m ?_;rintro e w2 ⟨rfl,dM,l⟩;have H1:Hid (aY w2 b []/\H (λk=>k=b) _ w2):=⟨dM,l⟩
 have c:Hid (qz i ak=.agg #[O i.op,O i.rd,O i.bQ,O i.bt,O i.bu,.string ⟨ak.toArray⟩]):=rfl;rw[c.j];go_wp2;go_ret;exact⟨rfl,H1.j⟩
theorem aka(h:aY w b []):∃p c,w.cell? (E b 0)=some (.slice p 0 c):=by
 obtain⟨_,v,a,_,p,n,c,rfl,hn,_⟩:=h;have:n=0:=by simpa using hn
 subst this;exact⟨p,c,a⟩
theorem PG(b s c0 l0 ts)(l:ts.length<=30)(w)(h:aY w b ((c0::l0)::ts))(f:∀w1,aY w1 b ts->Zk 117 #[M b,cj (c0::l0)] w1 λe w'=>Zr e (l8 s)/\aY w' b []/\H (λk=>k=b) w1 w'):
  Zk 79 #[M b] w λe w'=>Zr e (l8 s)/\aY w' b []/\H (λk=>k=b) w w':=by
 have a:=Y f;have e1:(c0::l0==[])=false:=rfl;generalize m:l8 s=sv at a|-;go_enter func79,ntmps79;go_wp2_with fail;refine(DE b _ ts Z _ (Y h).j).m ?_;rintro e w1 ⟨rfl,dM,g⟩;have H1:Hid (aY w1 b ts/\H (λk=>k=b) w w1):=⟨dM,g⟩
 have d:Hid (Value.string ⟨(c0::l0).toArray⟩=cj (c0::l0)):=rfl;rw[<-d.j];go_wp2_with fail;rw[d.j];refine(a.j w1 H1.j.1).m ?_;rintro e w2 ⟨rfl,fN,i⟩;have j:Hid (aY w2 b []/\H (λk=>k=b) w w2):=⟨fN,H1.j.2.trans i⟩;have⟨p,c,n⟩:=aka fN;go_wp2;go_ret;exact⟨rfl,j.j⟩
theorem VF(b s)(hs:oy s)(w)(h:aY w b (dP s)):
  Zk 79 #[M b] w λe w'=>Zr e (l8 s)/\aY w' b []/\H (λk=>k=b) w w':=by
 cases s using Vx.cM.cs with
 |no=>
  have a:=Y h;unfold l8;go_enter func79,ntmps79;go_wp2_with fail;refine(aiO b _ a.j).m ?_;rintro e w1 ⟨rfl,rfl⟩;unfold cj;go_wp2;go_ret;exact⟨rfl,a.j,H.refl _ _⟩
 |word n=>exact PG b (.word n) 46 [119,111,114,100] [Lib.itoa (n:Int)] (by simp) w h (λw1 h1=>aiY b n hs w1 h1)
 |ins i ak=>
  have d:=(Xw i.op hs.QA hs.Qz).2.2;obtain⟨c0,l0,f⟩:∃c l,jO i.op=c::l:=by
   cases hn:jO i.op with
   |nil=>rw[hn] at d;cases d
   |cons c l=>exact⟨c,l,rfl⟩
  have j:=TK i ak true (dR i.op);have m:=(VQ i.op).1;have g:aY w b (jO i.op::kz i ak true (dR i.op)):=h;rw[f] at g;refine PG b (.ins i ak) c0 l0 _ Z w g (λw1 h1=>?_);rw[<-f];exact aj1 b i ak hs w1 h1
 |li r v=>exact PG b (.li r v) 108 [105] [120::Lib.decDigits r,[44],Lib.itoa (v:Int)] (by simp) w h (λw1 h1=>aj0 b r v hs.1 hs.2 w1 h1)
end
end Go.Proofs.YtdjlkahbpdoemaaGreatDoor
namespace Go.Vx
theorem index_none:∀(l:Z2) (c:UInt8),c∉l->Lib.indexByte l c= -1
 |[],c,_=>rfl
 |b::l,c,h=>by
  have h1:b≠c:=λe=>h (by simp[e])
  have a:=index_none l c (λe=>h (by simp[e]));unfold Lib.indexByte;simp[h1,a]
theorem adT(c r)(d:c≠35)(m)(hm:max (iG (c::r)) 1=m):
  bU (c::r)=(if (c::r).take m=[32]\/(c::r).take m=[9] then [] else [(c::r).take m])++bU ((c::r).drop m):=by
 have b:(c::r).drop 0=c::r:=rfl;cases a:dZ c with
 |true=>
  have h1:=Fj c r;rw[a,if_pos rfl] at h1;have f:iG (c::r)=m:=Z;have h:=adV (c::r) 0 (by simp) d a;rw[b,Nat.zero_add,f] at h;rw[h,if_neg]
  ·rfl
  have g:m=iG r+1:=Z;rw[g,List.take_succ_cons];rintro(e|e)
  ·have:=(List.cons.inj e).1;subst this;exact absurd a I
  have:=(List.cons.inj e).1;subst this;exact absurd a I
 |false=>
  have h1:=Fj c r;rw[a] at h1;have i:m=1:=by simp at h1;omega
  subst i;by_cases hb:c=32\/c=9
  ·have h:=adW (c::r) 0 (by simp) hb;rw[b] at h;rw[h,if_pos (by simpa using hb)];rfl
  have h:=adU (c::r) 0 (by simp) d a hb;rw[b] at h;rw[h,if_neg (by simpa using hb)];rfl
end Go.Vx
namespace Go.Proofs.YtdjlkahbpdoemaaGreatDoor
section
open Go.Vx (dZ bU iG cj)
def Ff:Value->Nat|.string s=>s.size|_=>0
def kC(m:Int)(w:Z0):Prop:=w.cell? (E 0 0)=some (O m)
theorem ao7(l:Z2)(m)(hn:(35:UInt8)∉l)(a:l.length<=20000)(w)(hm:kC m w):
  Zk 112 #[.string ⟨l.toArray⟩,.string ⟨#[35]⟩] w λe w'=>Zr e (.tuple #[.string ⟨l.toArray⟩,.string ⟨#[]⟩,.bool false])/\∃n,w'=w.drewN n:=by
 have hs:(ByteArray.mk l.toArray).size=l.length:=by simp[ByteArray.size]
 have h:=strings_Cut ⟨l.toArray⟩ ⟨#[35]⟩ m w Z hm;have e:Lib.cut l [35]=(l,[],false):=by
  unfold Lib.cut;rw[Lib.index_one,index_none l 35 hn];rfl
 rwa[e] at h
theorem afr(l:Z2)(m)(h:m<=l.length)(wv):
  (Instr.slice 9 (.string ⟨l.toArray⟩) none (some (O (m:Int))) none).run prog wv=.ok (.string ⟨(l.take m).toArray⟩) wv:=by
 have hs:(ByteArray.mk l.toArray).size=l.length:=by simp[ByteArray.size]
 rw[run_slice_string_to_if wv 9 _ .i64 (m:Int) underlying9];have e:=aaX l 0 m;rw[Nat.zero_add,List.drop_zero] at e;simp[hs,h,e]
theorem afs(l:Z2)(m)(h:m<=l.length)(wv):
  (Instr.slice 9 (.string ⟨l.toArray⟩) (some (O (m:Int))) none none).run prog wv=.ok (.string ⟨(l.drop m).toArray⟩) wv:=by
 have hs:(ByteArray.mk l.toArray).size=l.length:=by simp[ByteArray.size]
 rw[run_slice_string_from_if wv 9 _ .i64 (m:Int) underlying9];have e:=aaX l m (l.length - m);rw[show m+(l.length - m)=l.length from Z,List.take_of_length_le (by simp)] at e;simp[hs,h,e]
theorem Vd(t)(ht:t.length<=20000)(hn:(35:UInt8)∉t)(mx w)(hm:kC mx w):
  Zk 75 #[.string ⟨t.toArray⟩] w λe w'=>(∃v,Zr e v/\w'.ownsRow w.heap.size 9 1 v (bU t).length ((bU t).map cj))/\Below w.heap.size w w':=by
 have⟨i0,hi,px,el,jy⟩:=info_parts alA;have HM:=Y hm;have X:=Y hn;go_enter func75,ntmps75;go_wp2_with fail;refine(ao7 t mx X.j ht _ HM.j).m ?_;rintro e w1 ⟨rfl,nd,rfl⟩;have Y4:(w.drewN nd).heap.size=w.heap.size:=rfl;have zA:Hid (Below w.heap.size w (w.drewN nd)):=⟨rfl,rfl,rfl,Nat.le_refl _,λ_ _=>rfl⟩;generalize w.drewN nd=w1 at*;go_wp2;go_loopw [3,6] (λs v wr=>∃k:Nat,∃xs:List (Z2),k<=t.length/\s=.string ⟨(t.drop k).toArray⟩/\Hid (xs++bU (t.drop k)=bU t)/\xs.length<=k/\wr.ownsRow w.heap.size 9 1 v xs.length (xs.map cj)/\Below w.heap.size w wr/\w.heap.size<=wr.heap.size)
  (λs _ _=>Ff s)
 case atStart=>exact⟨0,[],Z,rfl,rfl,by simp,World.ownsRow_nil _ _ _ _,zA.j,Z⟩
 case round=>
  obtain⟨k,xs,hk,rfl,x,FV,d,i,y⟩:=hrel;by_cases al:k<t.length
  ·have⟨c,B⟩:∃c,t[k]=c:=⟨_,rfl⟩;have z:t.drop k=c::t.drop (k+1):=by rw[List.drop_eq_getElem_cons al,B]
   have l:c≠35:=λe=>X.j (by rw[<-e,<-B];exact List.getElem_mem _);have⟨r,hr⟩:∃r,t.drop k=r:=⟨_,rfl⟩;have C:r.length=t.length - k:=by rw[<-hr];simp
   have aH:(r==[])=false:=by rw[<-hr,z];rfl
   have Jg:(r !=[])=true:=by rw[bne,aH];rfl
   have⟨m,hm⟩:∃m,max (iG r) 1=m:=⟨_,rfl⟩;have uC:m<=r.length:=by have:=PN r;omega
   have gn:1<=m:=Z;have n:=adT c (t.drop (k+1)) l m (by rw[<-z,hr];exact hm);rw[<-z,hr] at n;have⟨q,D⟩:∃q,r.take m=q:=⟨_,rfl⟩;have F:q.length=m:=by rw[<-D];simp;omega
   have G:=afr r m uC;have aa:∀K,(Instr.slice 9 (.string ⟨r.toArray⟩) (some (O (q.length:Int))) none none).run prog K=.ok (.string ⟨(t.drop (k+m)).toArray⟩) K:=by
    intro K;rw[F,afs r m uC,<-hr,List.drop_drop]
   rw[D] at G n;have o:r.drop m=t.drop (k+m):=by rw[<-hr,List.drop_drop]
   rw[o] at n;have f:=Y n;have g:Hid (xs++bU r=bU t):=by have:=x.j;rw[hr] at this;exact this
   have N:=Y hm;rw[hr];have KQ:=Y C;have ab:=Y F
   have Z8:Ff (.string ⟨(t.drop (k+m)).toArray⟩)<Ff (.string ⟨r.toArray⟩):=by
    simp[Ff,ByteArray.size,C];omega
   have P:Hid (Ff (.string ⟨(t.drop (k+m)).toArray⟩)<Ff (.string ⟨r.toArray⟩)):=Z8;have Q:k+m<=t.length:=Z;have R:r.length<=20000:=Z;clear hr z B x n hm D o C F Z8 l;by_cases a:q=[32]
   ·have e1:(q==[32])=true:=by simp[a]
    have e2:(q !=[32])=false:=by simp[a]
    have p:Hid (xs++bU (t.drop (k+m))=bU t):=by have:=g.j;rw[f.j,if_pos (Or.inl a)] at this;exact this
    clear a g f;go_wp2_with (go_at_call 113;refine(Pp r R _).m ?_;rintro e w2 ⟨rfl,rfl⟩;rw[N.j]);go_roundw
    case rel=>exact⟨k+m,xs,Q,rfl,p,Z,d,i,y⟩
    case measure=>exact P.j
   by_cases b:q=[9]
   ·have e1:(q==[32])=false:=by simp[a]
    have e2:(q !=[32])=true:=by simp[a]
    have e3:(q==[9])=true:=by simp[b]
    have e4:(q !=[9])=false:=by simp[b]
    have p:Hid (xs++bU (t.drop (k+m))=bU t):=by have:=g.j;rw[f.j,if_pos (Or.inr b)] at this;exact this
    clear a b g f;go_wp2_with (go_at_call 113;refine(Pp r R _).m ?_;rintro e w2 ⟨rfl,rfl⟩;rw[N.j]);go_roundw
    case rel=>exact⟨k+m,xs,Q,rfl,p,Z,d,i,y⟩
    case measure=>exact P.j
   have e1:(q==[32])=false:=by simp[a]
   have e2:(q !=[32])=true:=by simp[a]
   have e3:(q==[9])=false:=by simp[b]
   have e4:(q !=[9])=true:=by simp[b]
   have p:Hid ((xs++[q])++bU (t.drop (k+m))=bU t):=by
    have:=g.j;rw[f.j,if_neg (by rintro(h|h);exact a h;exact b h)] at this;show(xs++[q])++bU (t.drop (k+m))=bU t;rw[<-this];simp
   have Hq:Hid (Value.string ⟨q.toArray⟩=cj q):=rfl;clear a b g f;go_wp2_with (first|(go_at_call 113;refine(Pp r R _).m ?_;rintro e w2 ⟨rfl,rfl⟩;rw[N.j])|(at_builtin;refine wpList_append_own _ rfl _ _ 119 rfl w.heap.size 9 i0 (.string ⟨#[]⟩) 1 16 underlying119 hi px el jy rfl I _ _ _ rfl (d.alloc _) (E _ 0) 1 1 [.string ⟨q.toArray⟩] rfl rfl ?c1A ?c2A ?c3A ?c4A ?c5A ?_))
   first
   |(case c1A=>
     intro j u A
     match j,A with
     |0,A=>simp at A;subst A;simp[Addr.add])
   |skip
   first
   |(case c2A=>first|rfl|(intro u hu;simp at hu;subst hu;rfl))
   |skip
   first
   |(case c3A=>unfold maxLen;omega)
   |skip
   first
   |(case c4A=>omega)
   |skip
   first
   |(case c5A=>first|omega|(simp;omega))
   |skip
   intro v' w2 S vO _;rw[Hq.j] at S;obtain⟨T,U,V⟩:=adS (s:=q) i y d S vO;clear S vO d i y
   go_wp2
   go_roundw
   case rel=>exact⟨k+m,xs++[q],Q,rfl,p,by simp;omega,T,U,V⟩
   case measure=>exact P.j
  have W:t.drop k=[]:=List.drop_of_length_le Z
  have HE:Hid (xs=bU t):=by
   have:=x.j;rw[W,Vx.bUn,List.append_nil] at this;exact this
  rw[W];have e1:(([]:Z2) !=[])=false:=rfl;clear x W
  go_wp2
  go_ret;refine⟨⟨_,rfl,?_⟩,i⟩;rw[<-HE.j];exact d
end
section
open Go.Vx (H)
theorem aot(p w):
  CallsD prog 111 #[.pointer (some p)] .returning w λe a w'=>Zr e (.tuple #[])/\a=.returning/\w'=w:=by
 refine callsD_of_wpS func111 rfl λb cs hu=>?_;apply wpS_seq;apply wpS_region;simp[wpOpsS,go_sem,recoverD,hu,ntmps111,Exit.thenS];apply wpS_seq;apply wpS_seq;apply wpS_region;have c:∀w,(binOp .eql 20 .nilIface .nilIface).run prog w=.ok (.bool true) w:=λ_=>Zx;simp[wpOpsS,go_sem,c,Exit.thenS];refine wpS_cond (t:=true) (by simp[Act.eval,Array.replicate]) ?_;simp only[if_true];refine wpS_of_wp (wp_ret ?_);cases b;simp_all [bodyPostS,results,results111,Exit.thenS]
theorem aou(p x n a w)(b:w.cell? p=some (O x))(c:w.frozen? p=false):
  CallsD prog 111 #[.pointer (some p)] (.panicking ({v:=.iface 54 (O n),recovered:=false}::a)) w λe d w'=>
   Zr e (.tuple #[])/\d=.panicking ({v:=.iface 54 (O n),recovered:=true}::a)/\w'=w.setCell p (O n):=by
 refine callsD_of_wpS func111 rfl λh cs hu=>?_;apply wpS_seq;apply wpS_region;simp[wpOpsS,go_sem,recoverD,hu,ntmps111,Exit.thenS];apply wpS_seq;apply wpS_seq;apply wpS_region;have f:∀w,(binOp .eql 20 (.iface 54 (O n)) .nilIface).run prog w=.ok (.bool false) w:=λ_=>Zx;simp[wpOpsS,go_sem,f,Exit.thenS];refine wpS_cond (t:=false) (by simp[Act.eval,Array.replicate]) ?_;simp only[Bool.false_eq_true,if_false];refine wpS_of_wp (wp_skip ?_);apply wpS_seq;apply wpS_region;have g:∀w,(Instr.typeAssert (.iface 54 (O n)) 20 54 true).run prog w=.ok (.tuple #[O n,.bool true]) w:=λ_=>Zx;simp[wpOpsS,go_sem,g,Exit.thenS];apply wpS_seq;apply wpS_seq;apply wpS_region;simp[wpOpsS,go_sem,Exit.thenS];refine wpS_cond (t:=false) (by simp[Act.eval,Array.replicate]) ?_;simp only[Bool.false_eq_true,if_false];refine wpS_of_wp (wp_skip ?_);apply wpS_region;simp[wpOpsS,go_sem,b,c,bodyPostS,results,results111]
theorem aop(caps w)(Q:World->Prop)(h:Zk 74 caps (w.alloc (.cells #[O 0] 54)) λe w'=>Zr e (.tuple #[])/\Q w'/\w'.cell? (E w.heap.size 0)=some (O 0)/\w'.frozen? (E w.heap.size 0)=false):
  Zk 73 #[.func (.func 74) #[] caps] w λe w'=>Zr e (O 0)/\∃w1,Q w1/\w'=w1.setCell (E w.heap.size 0) (O 0):=by
 have d:∀(fn:Fn) (first cap:Array Value) (w:Z0),(Instr.makeFunc fn first cap).run prog w=.ok (.func fn first cap) w:=λ_ _ _ _=>rfl;go_enter_defers func73,ntmps73;go_wp2_with fail;refine (Y h).j.m ?_;rintro e w1 ⟨rfl,a,b,hf⟩;go_wp2_with fail;refine leaves_cons (f:=111) (args:=#[M w.heap.size]) (by simp) (by simp[go_sem]) ?_;refine(aot (E w.heap.size 0) _).mono ?_;rintro e g i ⟨rfl,rfl,rfl⟩;have c:(w1.setCell (E w.heap.size 0) (O 0)).cell? (E w.heap.size 0)=some (O 0):=World.cell?_setCell_same _ _ _ (by rw[b]);simp[Leaves,settle,results,results73,go_sem,c];exact⟨w1,(Y a).j,rfl⟩
theorem aoq(caps n w)(Q:World->Prop)(h:Zk 74 caps (w.alloc (.cells #[O 0] 54)) λe w'=>e=.panicked [{v:=.iface 54 (O n),recovered:=false}]/\Q w'/\w'.cell? (E w.heap.size 0)=some (O 0)/\w'.frozen? (E w.heap.size 0)=false):
  Zk 73 #[.func (.func 74) #[] caps] w λe w'=>Zr e (O n)/\∃w1,Q w1/\w'=w1.setCell (E w.heap.size 0) (O n):=by
 have d:∀(fn:Fn) (first cap:Array Value) (w:Z0),(Instr.makeFunc fn first cap).run prog w=.ok (.func fn first cap) w:=λ_ _ _ _=>rfl;go_enter_defers func73,ntmps73;go_wp2_with fail;refine (Y h).j.m ?_;rintro e w1 ⟨rfl,b,a,hf⟩;try go_wp2_with fail
 refine leaves_cons (f:=111) (args:=#[M w.heap.size]) (by simp) (by simp[go_sem]) ?_;refine(aou (E w.heap.size 0) 0 n [] _ a hf).mono ?_;rintro e g i ⟨rfl,rfl,rfl⟩;have c:(w1.setCell (E w.heap.size 0) (O n)).cell? (E w.heap.size 0)=some (O n):=World.cell?_setCell_same _ _ _ (by rw[a]);simp[Leaves,settle,results,results73,go_sem,c];exact⟨w1,(Y b).j,rfl⟩
structure Pass(B0:Nat)(Zd:Nat->World->Prop)(Own:World->Nat->Prop):Prop where
 LZ:∀k w w',Zd k w->H (λb=>B0<=b/\¬Own w b) w w'->Zd k w'/\∀b,Own w' b->Own w b
 lt:∀k w,Zd k w->∀b,Own w b->b<w.heap.size
theorem an8(c1 c2 k b c w R)(h1:w.cell? b=some (.func (.func 28) #[] #[c1,c2]))(f:w.cell? c=some (O k))(d:∀v w',R (.returned v) w'->v=.tuple #[])(h:Zk 28 #[O k,c1,c2] w R):
  Zk 74 #[.pointer (some b),.pointer (some c)] w R:=by
 go_enter func74,ntmps74;go_wp2_with fail;refine (Y h).j.m ?_;intro e w1 a;cases e with
 |returned v=>
  obtain rfl:=(Y d).j v w1 a;go_wp2_with fail;first|go_end0|refine bodyPost_ret (results_none rfl _ _ _) rfl ?_
  exact (Y a).j
 |panicked g=>exact⟨rfl,a⟩
 |outgrown=>exact⟨{tmps:=#[],defers:=[]},w1,a⟩
theorem an7(c1 c2 k b c w R)(h1:w.cell? b=some (.func (.func 30) #[] #[c1,c2]))(f:w.cell? c=some (O k))(d:∀v w',R (.returned v) w'->v=.tuple #[])(h:Zk 30 #[O k,c1,c2] w R):
  Zk 74 #[.pointer (some b),.pointer (some c)] w R:=by
 go_enter func74,ntmps74;go_wp2_with fail;refine (Y h).j.m ?_;intro e w1 a;cases e with
 |returned v=>
  obtain rfl:=(Y d).j v w1 a;go_wp2_with fail;first|go_end0|refine bodyPost_ret (results_none rfl _ _ _) rfl ?_
  exact (Y a).j
 |panicked g=>exact⟨rfl,a⟩
 |outgrown=>exact⟨{tmps:=#[],defers:=[]},w1,a⟩
theorem aaG{f:Nat}(hf:f=28\/f=30)(c1 c2 k a b w R)(h1:w.cell? a=some (.func (.func f) #[] #[c1,c2]))(c:w.cell? b=some (O k))(d:∀v w',R (.returned v) w'->v=.tuple #[])(h:Zk f #[O k,c1,c2] w R):
  Zk 74 #[.pointer (some a),.pointer (some b)] w R:=by
 rcases hf with rfl|rfl
 ·exact an8 c1 c2 k a b w R h1 c d h
 exact an7 c1 c2 k a b w R h1 c d h
theorem aor{f:Nat}(hf:f=28\/f=30){B0:Nat}(o:Pass B0 Zd Own)(c1 c2 k w wr)(Q:B0=w.heap.size)(hi:Zd k wr)(B:H (Own w) w wr)(x:∀b,b<w.heap.size->Own wr b->Own w b)(C:¬Own wr w.heap.size)(D:w.heap.size<wr.heap.size)(R:wr.cell? (E w.heap.size 0)=some (.func (.func f) #[] #[c1,c2]))(td:∀w,Zd k w->Zk f #[O k,c1,c2] w λe w'=>Zr e (.tuple #[])/\Zd (k+1) w'/\H (Own w) w w'/\∀b,b<w.heap.size->Own w' b->Own w b):
  Zk 73 #[.func (.func 74) #[] #[M w.heap.size,M wr.heap.size]] (wr.alloc (.cells #[O k] 3)) λe w'=>
   Zr e (O 0)/\(Zd (k+1) w'/\H (Own w) w w'/\(∀b,b<w.heap.size->Own w' b->Own w b)/\¬Own w' w.heap.size)/\w.heap.size<w'.heap.size/\w'.cell? (E w.heap.size 0)=some (.func (.func f) #[] #[c1,c2]):=by
 have⟨c,l⟩:∃c,wr.alloc (.cells #[O k] 3)=c:=⟨_,rfl⟩;have⟨a,i⟩:∃a,c.alloc (.cells #[O 0] 54)=a:=⟨_,rfl⟩;have m:c.heap.size=wr.heap.size+1:=by rw[<-l];simp
 have T:a.heap.size=wr.heap.size+2:=by rw[<-i];simp[m]
 have q:∀S:Z1,H S wr a:=λS=>by rw[<-i,<-l];exact((H.refl _ _).alloc _).alloc _
 have⟨F,n⟩:=o.LZ k wr a hi (q _);have G:a.cell? (E wr.heap.size 0)=some (O k):=by rw[<-i,<-l];simp[go_sem]
 have U:a.cell? (E c.heap.size 0)=some (O 0):=by rw[<-i];simp[go_sem]
 have V:a.frozen? (E c.heap.size 0)=false:=by rw[<-i];exact World.frozen?_alloc_new _ _ _ _
 have y:a.cell? (E w.heap.size 0)=some (.func (.func f) #[] #[c1,c2]):=by
  rwa[(q (λ_=>False)).cell (p:=E w.heap.size 0) D id]
 have r:¬Own a (wr.heap.size+1):=λh=>by have:=o.lt k wr hi _ (n _ h);omega
 rw[l];refine(aop _ c (λd=>Zd (k+1) d/\H (Own a) a d/\∀b,b<a.heap.size->Own d b->Own a b) ?_).m ?_
 ·rw[i];refine aaG hf c1 c2 k _ _ a _ y G ?_ ((td a F).m ?_)
  ·rintro v w' ⟨h,_⟩;exact Ending.returned.inj h
  rintro e d ⟨rfl,h1,g,j⟩;refine⟨rfl,⟨h1,g,j⟩,?_,?_⟩
  ·rwa[g.cell (p:=E c.heap.size 0) (by show c.heap.size<_;omega) (by show¬Own a c.heap.size;rw[m];exact r)]
  rwa[g.frozen (p:=E c.heap.size 0) (by show c.heap.size<_;omega) (by show¬Own a c.heap.size;rw[m];exact r)]
 rintro e w' ⟨rfl,d,⟨h1,g,j⟩,rfl⟩;have s:¬Own d c.heap.size:=λh=>by rw[m] at h;exact r (j _ Z h)
 have t:H (λb=>B0<=b/\¬Own d b) d (d.setCell (E c.heap.size 0) (O 0)):=H.setCell (S:=λb=>B0<=b/\¬Own d b) (H.refl _ _) (p:=E c.heap.size 0) (Or.inl ⟨by show B0<=c.heap.size;omega,s⟩) _;have⟨u,z⟩:=o.LZ (k+1) d _ h1 t
 have all:H (Own w) w (d.setCell (E c.heap.size 0) (O 0)):=by
  have K:H (λb=>Own w b\/w.heap.size<=b) w wr:=B.mono λ_ _ h=>Or.inl h
  have a2:H (λb=>Own w b\/w.heap.size<=b) a d:=g.mono λb _ h=>by
   by_cases hb:b<w.heap.size
   ·exact Or.inl (x b hb (n b h))
   exact Or.inr Z
  have a3:H (λb=>Own w b\/w.heap.size<=b) d (d.setCell (E c.heap.size 0) (O 0)):=t.mono λb _ h=>Or.inr Z
  exact(((K.trans (q _)).trans a2).trans a3).mono λb hb h=>by
   rcases h with h|h
   ·exact h
   omega
 have N:a.heap.size<=d.heap.size:=g.size;have P:d.heap.size<=(d.setCell (E c.heap.size 0) (O 0)).heap.size:=t.size;have A:¬Own a w.heap.size:=λh=>C (n _ h)
 refine⟨rfl,⟨u,all,λb hb h=>x b hb (n b (j b Z (z b h))),λh=>A (j _ Z (z _ h))⟩,Z,?_⟩;rw[World.cell?_setCell_other _ _ _ _ (by simp<;>omega),g.cell (p:=E w.heap.size 0) (by show w.heap.size<_;omega) A];exact y
theorem aos{f:Nat}(hf:f=28\/f=30){B0:Nat}(l:Pass B0 Zd Own)(c1 c2 k err w wr)(hi:Zd k wr)(t:H (Own w) w wr)(u:∀b,b<w.heap.size->Own wr b->Own w b)(x:w.heap.size<wr.heap.size)(B:wr.cell? (E w.heap.size 0)=some (.func (.func f) #[] #[c1,c2]))(td:∀w,Zd k w->Zk f #[O k,c1,c2] w λe w'=>e=.panicked [{v:=.iface 54 (O err),recovered:=false}]/\H (Own w) w w'):
  Zk 73 #[.func (.func 74) #[] #[M w.heap.size,M wr.heap.size]] (wr.alloc (.cells #[O k] 3)) λe w'=>
   Zr e (O err)/\H (Own w) w w'/\w'.cell? (E wr.heap.size 0)=some (O k):=by
 have⟨c,j⟩:∃c,wr.alloc (.cells #[O k] 3)=c:=⟨_,rfl⟩;have⟨a,g⟩:∃a,c.alloc (.cells #[O 0] 54)=a:=⟨_,rfl⟩;have m:c.heap.size=wr.heap.size+1:=by rw[<-j];simp
 have C:a.heap.size=wr.heap.size+2:=by rw[<-g];simp[m]
 have n:∀S:Z1,H S wr a:=λS=>by rw[<-g,<-j];exact((H.refl _ _).alloc _).alloc _
 have⟨y,o⟩:=l.LZ k wr a hi (n _);have r:a.cell? (E wr.heap.size 0)=some (O k):=by rw[<-g,<-j];simp[go_sem]
 have D:a.cell? (E c.heap.size 0)=some (O 0):=by rw[<-g];simp[go_sem]
 have F:a.frozen? (E c.heap.size 0)=false:=by rw[<-g];exact World.frozen?_alloc_new _ _ _ _
 have z:a.cell? (E w.heap.size 0)=some (.func (.func f) #[] #[c1,c2]):=by
  rwa[(n (λ_=>False)).cell (p:=E w.heap.size 0) x id]
 have s:¬Own a (wr.heap.size+1):=λh=>by have:=l.lt k wr hi _ (o _ h);omega
 have q:¬Own a wr.heap.size:=λh=>by have:=l.lt k wr hi _ (o _ h);omega
 rw[j];refine(aoq _ err c (λd=>H (Own a) a d) ?_).m ?_
 ·rw[g];refine aaG hf c1 c2 k _ _ a _ z r ?_ ((td a y).m ?_)
  ·rintro v w' ⟨h,_⟩;cases h
  rintro e d ⟨rfl,i⟩;refine⟨rfl,i,?_,?_⟩
  ·rwa[i.cell (p:=E c.heap.size 0) (by show c.heap.size<_;omega) (by show¬Own a c.heap.size;rw[m];exact s)]
  rwa[i.frozen (p:=E c.heap.size 0) (by show c.heap.size<_;omega) (by show¬Own a c.heap.size;rw[m];exact s)]
 rintro e w' ⟨rfl,d,i,rfl⟩;have all:H (Own w) w (d.setCell (E c.heap.size 0) (O err)):=by
  have A:H (λb=>Own w b\/w.heap.size<=b) w wr:=t.mono λ_ _ h=>Or.inl h;have a2:H (λb=>Own w b\/w.heap.size<=b) a d:=i.mono λb _ h=>by
   by_cases hb:b<w.heap.size
   ·exact Or.inl (u b hb (o b h))
   exact Or.inr Z
  have a3:H (λb=>Own w b\/w.heap.size<=b) d (d.setCell (E c.heap.size 0) (O err)):=H.setCell (S:=λb=>Own w b\/w.heap.size<=b) (H.refl _ _) (p:=E c.heap.size 0) (Or.inl (Or.inr (by show w.heap.size<=c.heap.size;omega))) _
  exact(((A.trans (n _)).trans a2).trans a3).mono λb hb h=>by
   rcases h with h|h
   ·exact h
   omega
 refine⟨rfl,all,?_⟩;rw[World.cell?_setCell_other _ _ _ _ (by simp<;>omega),i.cell (p:=E wr.heap.size 0) (by show wr.heap.size<_;omega) q];exact r
theorem aaS{f:Nat}(hf:f=28\/f=30)(n j)(hn:n<=30000)(c1 c2 Zd Own w)(A:Pass w.heap.size Zd Own)(B:Zd 0 w)(Q:j<=n)(err)(l:(err !=0)=true)(td:∀k,k<j->∀w,Zd k w->Zk f #[O k,c1,c2] w λe w'=>Zr e (.tuple #[])/\Zd (k+1) w'/\H (Own w) w w'/\∀b,b<w.heap.size->Own w' b->Own w b)(C:j<n->∀w,Zd j w->Zk f #[O j,c1,c2] w λe w'=>e=.panicked [{v:=.iface 54 (O err),recovered:=false}]/\H (Own w) w w'):
  Zk 27 #[O n,.func (.func f) #[] #[c1,c2]] w λe w'=>
   H (Own w) w w'/\((j=n/\Zr e (.tuple #[O 0,O 0])/\Zd n w'/\∀b,b<w.heap.size->Own w' b->Own w b)\/(j<n/\Zr e (.tuple #[O err,O (j+1)]))):=by
 have d:=Y hf;have R:∀(fn:Fn) (first cap:Array Value) (w:Z0),(Instr.makeFunc fn first cap).run prog w=.ok (.func fn first cap) w:=λ_ _ _ _=>rfl;have i:=Y A;have D:=Y td;have F:=Y C;have r:=Y B;have s:=Y l;go_enter func27,ntmps27;go_wp2;go_loopw [9] (λa wr=>∃k:Nat,k<=j/\a=O k/\Hid (Zd k wr/\H (Own w) w wr/\(∀b,b<w.heap.size->Own wr b->Own w b)/\¬Own wr w.heap.size)/\w.heap.size<wr.heap.size/\Zc wr w.heap.size 0 (.func (.func f) #[] #[c1,c2])) (λa _=>n - (RowKit.intOf a).toNat)
 case atStart=>
  have c:H (λb=>w.heap.size<=b/\¬Own w b) w (w.alloc (.cells #[.func (.func f) #[] #[c1,c2]] 127)):=(H.refl _ _).alloc _;have⟨hi,t⟩:=i.j.LZ 0 w _ r.j c;refine⟨0,Z,rfl,⟨hi,(H.refl _ _).alloc _,λb _ h=>t b h,λh=>?_⟩,by simp,by show _=_;simp[go_sem]⟩;have:=i.j.lt 0 w r.j _ (t _ h);omega
 case round=>
  obtain⟨k,hk,rfl,m,u,x⟩:=hrel;by_cases y:k<n
  ·by_cases o:k<j
   ·go_wp2_with fail;have⟨hi,c,hb,g⟩:=m.j;refine(aor d.j i.j c1 c2 k w wr rfl hi c hb g u x (D.j k o)).m ?_;rintro e w2 ⟨rfl,h1,z,G⟩;have K:Hid (Zd (k+1) w2/\H (Own w) w w2/\(∀b,b<w.heap.size->Own w2 b->Own w b)/\¬Own w2 w.heap.size):=h1;clear hi c hb g h1
    go_wp2
    go_roundw
    case rel=>exact⟨k+1,Z,by go_num,K,z,G⟩
    case measure=>simp[RowKit.intOf];omega
   have p:k=j:=Z;subst p;have S:(err==0)=false:=by have:=s.j;simpa using this
   have T:(err !=0)=true:=s.j;go_wp2_with fail;obtain⟨hi,c,hb,g⟩:=m.j;refine(aos d.j i.j c1 c2 k err w wr hi c hb u x (F.j y)).m ?_;rintro e w2 ⟨rfl,h1,z⟩;have N:Hid (H (Own w) w w2):=h1;clear hi c hb g h1;go_wp2_with fail;go_quiet (fail)
   go_wp2
   go_ret2;refine⟨?_,Or.inr ⟨y,rfl⟩⟩;exact N.j.drewN _
  have P:k=n:=Z;have q:j=n:=Z
  go_wp2
  go_ret2;obtain⟨hi,c,hb,g⟩:=m.j;refine⟨c,Or.inl ⟨q,rfl,?_,hb⟩⟩;rw[<-P];exact hi
end
theorem al5:(Rows.kernAnswersRow.wf (OpenSpec.ofChange Rows.kernAnswersSpec))=true:=by kernel_rfl
theorem akU:(laidOutB prog)=true:=by kernel_rfl
theorem akJ:(mapsRowed prog)=true:=by kernel_rfl
theorem akF:(f3.params.all (prog.readableRec ·))=true:=by kernel_rfl
theorem akE:(namedTie prog Rows.kernAnswersRow.named Rows.kernAnswersSpec.vars)=true:=by kernel_rfl
theorem akD:((Rows.kernAnswersRow.stops==[]))=true:=by kernel_rfl
theorem akC:((prog.stops==[]))=true:=by kernel_rfl
theorem akB:((Rows.kernAnswersRow.knobs==[]))=true:=by kernel_rfl
theorem akA:((prog.stopKnobs==[]))=true:=by kernel_rfl
theorem al4:((Rows.kernAnswersRow.inPlace==prog.inPlace 3))=true:=by kernel_rfl
theorem al3:((Rows.kernAnswersRow.unfollowed==prog.unfollowed 3))=true:=by kernel_rfl
theorem al2:((Rows.kernAnswersRow.recurses==prog.recurses 3))=true:=by kernel_rfl
theorem al1:((Rows.kernAnswersRow.named==prog.varsNamed 3))=true:=by kernel_rfl
theorem al0:((Rows.kernAnswersRow.maps==(f3.params.toList++Rows.kernAnswersSpec.plain.varTypes prog).any (prog.mapsRec ·)))=true:=by kernel_rfl
theorem akZ:((Rows.kernAnswersRow.ifaces==(f3.params.toList++Rows.kernAnswersSpec.plain.varTypes prog).any (prog.ifacesRec ·)))=true:=by kernel_rfl
theorem akY:((Rows.kernAnswersRow.mapsOut==prog.mapsAmong f3.resultTypes.toList))=true:=by kernel_rfl
theorem akX:((Rows.kernAnswersRow.loops==(f3.params.toList++Rows.kernAnswersSpec.plain.varTypes prog).any (prog.loopsFrom ·)))=true:=by kernel_rfl
theorem akW:((Rows.kernAnswersRow.wideKeys==(f3.params.toList++Rows.kernAnswersSpec.plain.varTypes prog++f3.resultTypes.toList).any (prog.wideKeysFrom ·)))=true:=by kernel_rfl
theorem akV:(Rows.kernAnswersSpec.vars.all (prog.varReadable ·))=true:=by kernel_rfl
theorem akT:(f3.resultTypes.all (λt=>prog.readableRec t&&decide (t<prog.types.size)))=true:=by kernel_rfl
theorem akS:((Rows.kernAnswersRow.ifacesOut==f3.resultTypes.toList.any (prog.ifacesRec ·)))=true:=by kernel_rfl
theorem akR:((Rows.kernAnswersRow.loopsOut==f3.resultTypes.toList.any (prog.loopsFrom ·)))=true:=by kernel_rfl
theorem akQ:((Rows.kernAnswersRow.plainKeys==prog.plainKeys))=true:=by kernel_rfl
theorem akP:(Rows.kernAnswersRow.shortTexts.isNone)=true:=by kernel_rfl
theorem akO:(prog.stopsHeard)=true:=by kernel_rfl
theorem akN:(prog.mayEnter)=true:=by kernel_rfl
theorem akM:((Rows.kernAnswersRow.lifted==prog.liftsFinal))=true:=by kernel_rfl
theorem akL:((prog.make==some Rows.kernAnswersRow.make))=true:=by kernel_rfl
theorem akK:((Rows.kernAnswersRow.kinds==(if Rows.kernAnswersRow.domain.isEmpty then [] else f3.params.toList.map λt=>match prog.underlying t with|some (.int k)=>some k|_=>none)))=true:=by kernel_rfl
theorem akI:((Rows.kernAnswersRow.pinned==Rows.kernAnswersRow.pinnedBy))=true:=by kernel_rfl
theorem akH:((Rows.kernAnswersRow.veiled==(f3.params.toList++Rows.kernAnswersSpec.plain.varTypes prog++f3.resultTypes.toList).any (prog.veiledRec ·)))=true:=by kernel_rfl
theorem akG:(Rows.kernAnswersRow.veiledFits prog f3.params.toList (f3.params.toList++Rows.kernAnswersSpec.plain.varTypes prog++f3.resultTypes.toList))=true:=by kernel_rfl
theorem akz:joinedFacts Tryz.pinned.checked.prog 3 f3 Rows.kernAnswersSpec Rows.kernAnswersRow=true:=by
 simp only[joinedFacts,Bool.and_eq_true];exact⟨⟨⟨⟨⟨⟨⟨⟨⟨⟨⟨⟨⟨⟨⟨⟨⟨⟨⟨⟨⟨⟨⟨⟨⟨⟨⟨⟨⟨⟨⟨al5,akU⟩,akJ⟩,akF⟩,akE⟩,akD⟩,akC⟩,akB⟩,akA⟩,al4⟩,al3⟩,al2⟩,al1⟩,al0⟩,akZ⟩,akY⟩,akX⟩,akW⟩,akV⟩,akT⟩,akS⟩,akR⟩,akQ⟩,akP⟩,akO⟩,akN⟩,akM⟩,akL⟩,akK⟩,akI⟩,akH⟩,akG⟩
end Go.Proofs.YtdjlkahbpdoemaaGreatDoor

import Derived.Test.YtdjlkahbpdoemaaGreatDoorCq29
import Derived.Test.YtdjlkahbpdoemaaGreatDoorCq30
import Derived.Laws.IdiomArrays
import Derived.Laws.IdiomStrings
import Derived.Lib.ItoaMem
import Derived.Lib.LaidU8
import Derived.Shelf.Vars
set_option maxRecDepth 100000
set_option maxHeartbeats 8000000
set_option linter.unusedVariables false
set_option linter.unusedSimpArgs false
open Go Go.Vx Go.Proofs.Tryz Go.ChangeShapes Go.WideShapes Go.ChangeAt Go.RowKit
namespace Go.Proofs.YtdjlkahbpdoemaaGreatDoor
variable {α aa:Type}{act:Act}{K:Act->World->Prop}{q:Addr}{D:DataW Value}{Q:Exit->Act->World->Prop}{a b mx pg z:Int}{G:Int->Nat}{K0:Kn}{xs:List (List (Nat×Nat))}{l:List (Nat×Nat)}{ks ps:List Int}{cs:List Value}{ys zs:List α}{B b0 bb cl fuel i kb mb n pb qb sb tb:Nat}{pr:Nat->Int}{cd:Nat->Z2}{o:Oper}{pl:Option Addr}{P:Pm}{r:Reach}{S:Sk}{T e t:TypeId}{V w w0 w1 w2 w9:Z0}{U:Z1}{v v' vb vc vl vm vo vp vr vt:Z3}
section
open Go.Maps
def Bp:mW:=⟨[110,101,120,116,58,32,97,100,100,32,120,49,50,44,32,120,49,50,44,32,120,49,51],.ins ⟨28,12,12,13,0⟩ [],[⟨28,12,12,13,0⟩]⟩
def BG:mW:=⟨[106,97,108,32,120,48,44,32,110,101,120,116],.ins ⟨3,0,0,0,0⟩ zT,[⟨3,0,0,0, -48⟩]⟩
theorem aiD:Ot Bp.src Bp.st:=⟨I,I,I,CB.p.ok,by show _=zT::[58]::dP (.ins ⟨28,12,12,13,0⟩ []);rw[Oj];decide+kernel,CB.p.Ct⟩
theorem Q4:dP (.ins ⟨3,0,0,0,0⟩ zT)=[[106,97,108],[120,48],[44],[110,101,120,116]]:=by decide+kernel
theorem alf:CK BG.src BG.st:=⟨I,I,I,⟨I,I,⟨I,I⟩,⟨I,I⟩,⟨I,I⟩,I,I,Or.inr ⟨110,[101,120,116],rfl,I,I,rfl⟩,rfl,I⟩,by show bU _=dP (.ins ⟨3,0,0,0,0⟩ zT);rw[Q4];decide+kernel,by show∀t,(dP (.ins ⟨3,0,0,0,0⟩ zT))[1]?=some t->t≠[58];rw[Q4];intro t ht;cases ht;decide,by show(dP (.ins ⟨3,0,0,0,0⟩ zT)).length<=30;rw[Q4];decide⟩
theorem Yb:G9 ⟨3,0,0,0, -48⟩:=⟨Zx,I,I⟩
def wJ:List mW:=[jh 10 0,jh 18 4294967295,jh 17 4,zg,Bp,CC,CC,J9,J8,jh 10 0,jh 18 4294967295,jh 17 7,zg,BG,IA]
theorem PD:(wJ.map (·.is)).flatten=Be:=rfl
def Fc:Z2:=([jh 10 0,jh 18 4294967295,jh 17 4,zg,Bp,CC,CC,J9,J8,jh 10 0,jh 18 4294967295,jh 17 7,zg,BG]:List mW).flatMap (λx=>x.src++[10])
theorem aeS:gm (wJ.map (·.src))=Fc:=by
 show gm (([jh 10 0,jh 18 4294967295,jh 17 4,zg,Bp,CC,CC,J9,J8,jh 10 0,jh 18 4294967295,jh 17 7,zg,BG]:List mW).map (·.src)++[[]])=_;rw[Q3,List.flatMap_map];rfl
theorem aeT:∀x∈wJ,tP x\/x=Bp\/x=BG:=λx a=>by
 unfold wJ at a;simp only[List.mem_cons,List.not_mem_nil,or_false] at a;rcases a with rfl|rfl|rfl|rfl|rfl|rfl|rfl|rfl|rfl|rfl|rfl|rfl|rfl|rfl|rfl
 ·exact Or.inl (nI _ _ I I)
 ·exact Or.inl (nI _ _ I I)
 ·exact Or.inl (nI _ _ I I)
 ·exact Or.inl JV
 ·exact Or.inr (Or.inl rfl)
 ·exact Or.inl CB
 ·exact Or.inl CB
 ·exact Or.inl abB
 ·exact Or.inl abA
 ·exact Or.inl (nI _ _ I I)
 ·exact Or.inl (nI _ _ I I)
 ·exact Or.inl (nI _ _ I I)
 ·exact Or.inl JV
 ·exact Or.inr (Or.inr rfl)
 exact Or.inl QF
theorem Vv:∀x∈wJ,TU x:=λx a=>by
 rcases aeT x a with h|rfl|rfl
 ·exact h.toTU
 ·exact⟨CB.g,I⟩
 exact⟨λi hi=>by rw[List.mem_singleton.1 hi];exact Yb,I⟩
theorem Vu(k:Nat)(hk:k<wJ.length):(k≠4/\k≠13/\tP wJ[k])\/(k=4/\wJ[k]=Bp)\/(k=13/\wJ[k]=BG):=by
 have a:k<15:=hk;have:k=0\/k=1\/k=2\/k=3\/k=4\/k=5\/k=6\/k=7\/k=8\/k=9\/k=10\/k=11\/k=12\/k=13\/k=14:=Z;rcases this with rfl|rfl|rfl|rfl|rfl|rfl|rfl|rfl|rfl|rfl|rfl|rfl|rfl|rfl|rfl
 ·exact Or.inl ⟨I,I,nI 10 0 I I⟩
 ·exact Or.inl ⟨I,I,nI 18 4294967295 I I⟩
 ·exact Or.inl ⟨I,I,nI 17 4 I I⟩
 ·exact Or.inl ⟨I,I,JV⟩
 ·exact Or.inr (Or.inl ⟨rfl,rfl⟩)
 ·exact Or.inl ⟨I,I,CB⟩
 ·exact Or.inl ⟨I,I,CB⟩
 ·exact Or.inl ⟨I,I,abB⟩
 ·exact Or.inl ⟨I,I,abA⟩
 ·exact Or.inl ⟨I,I,nI 10 0 I I⟩
 ·exact Or.inl ⟨I,I,nI 18 4294967295 I I⟩
 ·exact Or.inl ⟨I,I,nI 17 7 I I⟩
 ·exact Or.inl ⟨I,I,JV⟩
 ·exact Or.inr (Or.inr ⟨rfl,rfl⟩)
 exact Or.inl ⟨I,I,QF⟩
theorem aeU(mx:Int)(w:Z0)(hm:kC mx w)(b:dX w)(c:0<w.heap.size):Zk 14 #[.string ⟨Fc.toArray⟩] w λe w'=>Zr e (.tuple #[.string ⟨(lP Be).toArray⟩,O 0,O 0])/\Zq w w':=by
 have a:=abt wJ (some 4) (by unfold wJ;simp) I (λk hk h=>?_) (λk hk h=>?_) Vv (λk hk=>?_) (by rw[PD];decide) mx w hm b c
 ·rw[aeS,PD] at a;exact a
 ·rcases Vu k hk with⟨_,_,h1⟩|⟨rfl,_⟩|⟨rfl,h1⟩
  ·exact h1.p
  ·exact absurd rfl h
  rw[h1];exact alf
 ·have d:k=4:=(Option.some.inj h).symm;subst d;exact aiD
 rcases Vu k hk with⟨_,_,h1⟩|⟨rfl,h1⟩|⟨rfl,h1⟩
 ·exact h1.e _ _
 ·rw[h1];exact CB.e _ _
 rw[h1];refine⟨I,I,I,28,I,rfl,rfl,?_,?_⟩
 ·show dec (bT ⟨3,0,0,0,(28:Int) - ((76:Nat):Int)⟩)=⟨3,0,0,0,(28:Int) - ((76:Nat):Int)⟩
  exact Yb.1
 rfl
def Cw(P:Pm):Nat->Z2
 |0=>lP Be
 |c+1=>lP ((tJ (P.Q c)).map (·.is)).flatten
theorem aeV:∀i∈Be,G9 i:=λi hi=>by
 rw[<-PD] at hi;obtain⟨l,a,hi⟩:=List.mem_flatten.1 hi;obtain⟨x,b,rfl⟩:=List.mem_map.1 a;exact(Vv x b).g i hi
theorem TI(Q:Qn):(((tJ Q).map (·.is)).flatten).length=17*Q.m+1:=by
 rw[TJ,List.length_append,(PY (λq=>vD q (Q.A q) (Q.B q)) (λq=>rfl) Q.m).1];rfl
theorem aoo(a:j0 P):O3 P (Cw P):=by
 refine⟨λi=>?_,λi hi=>?_,λi hi p hp=>?_⟩
 ·cases i with
  |zero=>show(lP Be).length<=4096;rw[Gz];decide
  |succ c=>
   have:=(a.Q c).m;show(lP _).length<=4096;rw[Gz,TI];omega
 ·cases i with
  |zero=>show 4*20<=(lP Be).length;rw[Gz];decide
  |succ c=>
   show 4*(17*(P.Q c).m+1)<=(lP _).length;rw[Gz,TI];exact Nat.le_refl _
 cases i with
 |zero=>exact Tu Be p aeV hp
 |succ c=>
  have hp:p<17*(P.Q c).m+1:=hp
  have b:=Tu (((tJ (P.Q c)).map (·.is)).flatten) p (λi hi=>by
   obtain⟨l,d,hi⟩:=List.mem_flatten.1 hi;obtain⟨x,e,rfl⟩:=List.mem_map.1 d
   exact(abv (P.Q c) (a.Q c) x e).g i hi) (by rw[TI];exact hp)
  rw[aph _ hp] at b;exact b
end
theorem ke(a b:Z2):(⟨a.toArray⟩:ByteArray)++⟨b.toArray⟩=⟨(a++b).toArray⟩:=by
 apply ByteArray.ext;simp[ByteArray.data_append]
theorem aj3(N:Nat)(h:N<18446744073709551616):Lib.nDigits N<=20:=by
 by_cases h1:1<=N
 ·have:=Lib.numDigits_eq N h1 h;split at this<;>omega
 have:N=0:=Z;subst this;decide+kernel
theorem aj2(N:Nat):1<=Lib.nDigits N:=by
 rw[Lib.nDigits];split<;>omega
theorem ab9(wr:Z0)(c:UInt8)(z:Int)(a:z=(c.toNat:Int)):
  (convert 128 9 (Zs wr.heap.size 1 1)).run prog (wr.alloc (.cells #[.int .u8 z] 5))=.ok (.string ⟨[c].toArray⟩) (wr.alloc (.cells #[.int .u8 z] 5)):=by
 subst a
 have h:=run_convert_bytes_back (P:=prog) (wr.alloc (.cells #[.int .u8 (c.toNat:Int)] 5)) 128 9 5 (E wr.heap.size 0) 1 [c] underlying128 underlying5 underlying9 (λj b=>by
  have:j=0:=by simpa using b
  subst this;rw[Lib.add_plain,World.cell?_alloc_new]
  rfl)
 exact h
theorem ao0(m:Nat):((UInt8.ofNat (48+m % 10)).toNat:Int)=48+(m:Int) % 10:=by
 rw[UInt8.toNat_ofNat',Nat.mod_eq_of_lt Z];omega
theorem ab4(N:Nat)(hN:N<9223372036854775808)(w:Z0):
  Zk 32 #[O (N:Int)] w λe w'=>Zr e (.string ⟨(Lib.decDigits N).toArray⟩)/\Below w.heap.size w w':=by
 go_enter func32,ntmps32
 go_wp2
 go_loopw [0,3] (λa t wr=>∃m:Nat,∃l:Z2,m<=N/\a=O m/\t=.string ⟨l.toArray⟩/\Hid (Lib.decDigits m++l=Lib.decDigits N)/\Below w.heap.size w wr) (λa _ _=>(RowKit.intOf a).toNat)
 case atStart=>exact⟨N,[],Nat.le_refl _,rfl,rfl,List.append_nil _,Below.refl _ _⟩
 case round=>
  obtain⟨m,l,hm,rfl,rfl,d,hb⟩:=hrel
  have o:l.length<=19:=by
   have h1:=congrArg List.length d.j;rw[List.length_append,Lib.decDigits_length,Lib.decDigits_length] at h1;have p:=aj3 N Z;have q:=aj2 m;omega
  have j:Hid (Below w.heap.size w wr):=hb;have k:w.heap.size<=wr.heap.size:=hb.size;clear hb;obtain⟨c,f⟩:=Ze (UInt8.ofNat (48+m % 10):UInt8);have b:Hid (c=UInt8.ofNat (48+m % 10)):=f;have g:((c.toNat:Nat):Int)=48+(m:Int) % 10:=by rw[f];exact ao0 m
  clear f;by_cases r:9<m
  ·have n:=ab9 wr c (48+(m:Int) % 10) g.symm
   have i:Hid (Lib.decDigits (m/10)++(c::l)=Lib.decDigits N):=by
    have h:=d.j;rw[Lib.decDigits,dif_neg Z] at h;show Lib.decDigits (m/10)++(c::l)=Lib.decDigits N;rw[<-h,b.j];simp
   clear g b
   go_wp2
   go_roundw
   case rel=>exact⟨m/10,c::l,Z,by go_num,congrArg Value.string (ke [c] l),i,j.j.alloc k _⟩
   case measure=>simp[RowKit.intOf];omega
  have n:=ab9 wr c (48+(m:Int)) Z
  have i:Hid (c::l=Lib.decDigits N):=by
   have h:=d.j;rw[Lib.decDigits,dif_pos Z] at h;rw[<-h,b.j,Nat.mod_eq_of_lt Z];rfl
  clear g b
  go_wp2
  go_ret;exact⟨(congrArg Ending.returned<| by rw[<-i.j];exact congrArg Value.string (ke [c] l)),j.j.alloc k _⟩
def gA(r v:Nat):Z2:=Aa r v++[10]
theorem oF(r v:Nat)(hr:r<32)(hv:v<4294967296):(gA r v).length<=61:=by
 have:=(WI r v hr hv).len;unfold gA;rw[List.length_append];show _+1<=_;omega
theorem II(r v:Nat)(hr:r<32)(hv:v<4294967296)(w:Z0):Zk 15 #[O r,J v] w λe w'=>Zr e (.string ⟨(gA r v).toArray⟩)/\Zq w w':=by
 have a:=Y (λb=>ab4 r Z b);have c:=Y (λb=>ab4 v Z b);have o:=N3 r Z;have p:=N3 v hv;have q:=Zh (v:Int) Z
 have d:Hid (gA r v=[108,105,32,120]++Lib.decDigits r++[44,32]++Lib.decDigits v++[10]):=by
  show _=_;unfold gA Aa;simp
 obtain⟨x,f⟩:=Ze (gA r v);rw[<-f] at d|-;clear f;generalize s:Lib.decDigits r=dr at*;generalize i:Lib.decDigits v=dv at*;have t:∀l:Z2,(ByteArray.mk l.toArray).size=l.length:=λl=>by simp[ByteArray.size]
 go_enter func15,ntmps15;go_wp2_with fail;refine(a.j _).m ?_;rintro e w1 ⟨rfl,g⟩;have j:Hid (Zq w w1):=H.zS g (λk hk m=>Z);clear g;go_wp2_with fail;refine(c.j _).m ?_;rintro e w2 ⟨rfl,h⟩;have n:Hid (Zq w w2):=j.j.trans (H.zS h (λk hk m=>Z));clear h
 go_wp2
 go_ret;refine⟨?_,n.j⟩;rw[d.j,<-ke,<-ke,<-ke,<-ke];rfl
theorem afD(w:Z0):Zk 8 #[] w λe w'=>Zr e (.string ⟨Fc.toArray⟩)/\Zq w w':=by
 have H1:=Y (λb=>II 10 0 I I b);have c:=Y (λb=>II 18 4294967295 I I b);have g:=Y (λb=>II 17 4 I I b);have h:=Y (λb=>II 17 7 I I b);have l1:=oF 10 0 I I;have o:=oF 18 4294967295 I I;have p:=oF 17 4 I I;have q:=oF 17 7 I I
 have d:Hid (Fc=gA 10 0++gA 18 4294967295++gA 17 4++([101,99,97,108,108,10]:Z2)++[110,101,120,116,58,32,97,100,100,32,120,49,50,44,32,120,49,50,44,32,120,49,51,10,97,100,100,32,120,49,50,44,32,120,49,50,44,32,120,49,51,10,97,100,100,32,120,49,50,44,32,120,49,50,44,32,120,49,51,10,97,100,100,32,120,49,50,44,32,120,49,50,44,32,120,49,49,10,97,100,100,32,120,49,52,44,32,120,49,54,44,32,120,48,10]++gA 10 0++gA 18 4294967295++gA 17 7++[101,99,97,108,108,10,106,97,108,32,120,48,44,32,110,101,120,116,10]):=by
  show _=_;unfold Fc gA;simp[jh,zg,Bp,CC,J9,J8,BG]
 obtain⟨x,f⟩:=Ze (Fc);rw[<-f] at d|-;clear f;generalize gA 10 0=a1 at*;generalize gA 18 4294967295=a2 at*;generalize gA 17 4=a3 at*;generalize gA 17 7=a4 at*;go_enter func8,ntmps8;go_wp2_with fail;refine(H1.j _).m ?_;rintro e w1 ⟨rfl,a⟩;have i:=Y a;clear a;go_wp2_with fail;refine(c.j _).m ?_;rintro e w2 ⟨rfl,a⟩;have j:=Y (i.j.trans a);clear a;go_wp2_with fail;refine(g.j _).m ?_;rintro e w3 ⟨rfl,a⟩;have k:=Y (j.j.trans a);clear a;go_wp2_with fail;refine(H1.j _).m ?_;rintro e r ⟨rfl,a⟩;have l:=Y (k.j.trans a);clear a;go_wp2_with fail;refine(c.j _).m ?_;rintro e s ⟨rfl,a⟩;have m:=Y (l.j.trans a);clear a;go_wp2_with fail;refine(h.j _).m ?_;rintro e t ⟨rfl,a⟩;have n:=Y (m.j.trans a);clear a
 go_wp2
 go_ret;refine⟨?_,n.j⟩;rw[d.j,<-ke,<-ke,<-ke,<-ke,<-ke,<-ke,<-ke,<-ke]
 first|rfl|(simp only[ByteArray.append_assoc];rfl)
def tB(Q:Qn)(k:Nat):Z2:=(cH (λq=>vV q (Q.A q) (Q.B q)) k).flatMap (λx=>x.src++[10])
def qB(k A B:Nat):Z2:=gA 10 0++gA 11 k++gA 12 A++gA 13 B++gA 16 4294967295++gA 17 3++[101,99,97,108,108,10]++gA 19 33++[109,117,108,32,120,50,48,44,32,120,50,48,44,32,120,49,57,10,97,100,100,32,120,50,48,44,32,120,50,48,44,32,120,49,50,10]
theorem apm(q A B:Nat):(vV q A B).flatMap (λx=>x.src++[10])=qB q A B:=by
 unfold vV qB gA;simp[jh,zg,QJ,TO]
theorem Vt(Q:Qn)(k:Nat):tB Q (k+1)=tB Q k++qB k (Q.A k) (Q.B k):=by
 show(cH (λq=>vV q (Q.A q) (Q.B q)) k++vV k (Q.A k) (Q.B k)).flatMap _=_;rw[List.flatMap_append,apm];rfl
theorem apk(Q:Qn):CA Q=tB Q Q.m++[101,98,114,101,97,107,10]:=by
 unfold CA tB;rw[List.flatMap_append];rfl
theorem agS(k A B:Nat)(hk:k<4294967296)(a:A<4294967296)(b:B<4294967296):(qB k A B).length<=600:=by
 have l1:=oF 10 0 I I;have c:=oF 11 k I hk;have d:=oF 12 A I a;have e:=oF 13 B I b;have f:=oF 16 4294967295 I I;have g:=oF 17 3 I I;have h:=oF 19 33 I I;unfold qB;simp only[List.length_append,List.length_cons,List.length_nil];omega
theorem Pz(Q:Qn)(a:uY Q):∀k,k<=3->(tB Q k).length<=600*k
 |0,_=>Nat.le_refl _
 |k+1,h=>by
  have h1:=Pz Q a k Z;have b:=agS k (Q.A k) (Q.B k) Z (a.A k) (a.B k);rw[Vt,List.length_append];omega
theorem adm(Q:Qn):∀k,sy Q k<4294967296
 |0=>by show 0<_;decide
 |k+1=>DJ _
theorem apj(Q:Qn)(V:uY Q)(n c g o:Nat)(hm:Q.m=min n 3)(w:Z0)(W:∀j,j<Q.m->w.cell? (E g (o+j*2))=some (J (Q.A j))/\w.cell? (E g (o+j*2+1))=some (J (Q.B j))):Zk 10 #[.slice (some (E g o)) n c] w λe w'=>Zr e (.tuple #[.string ⟨(CA Q).toArray⟩,J (sy Q Q.m)])/\Zq w w':=by
 have eH:=V.m;have HQ:=Y W;have eB:g<w.heap.size:=World.block_lt_of_cell? w _ (W 0 Z).1;have y:=Y eB;have G:=Y V;have N:Hid (CA Q=tB Q Q.m++[101,98,114,101,97,107,10]):=apk Q;obtain⟨R,hR⟩:=Ze (CA Q);rw[<-hR] at N|-;obtain⟨X,hX⟩:=Ze (sy Q Q.m);rw[<-hX];have HX:=Y hX;obtain⟨z,hM⟩:=Ze (Q.m);rw[<-hM] at hm eH N HX;have HM:=Y hM;have vg:Hid (z=min n 3):=hm;clear W eB hR hX V hM hm;go_enter func10,ntmps10
 go_wp2
 go_loopw [4,5,6] (λt x i wr=>∃k:Nat,k<=z/\i=O k/\t=.string ⟨(tB Q k).toArray⟩/\x=J (sy Q k)/\Hid (Zq w wr)) (λ_ _ i _=>z - (RowKit.intOf i).toNat)
 case atStart=>exact⟨0,Nat.zero_le _,rfl,rfl,rfl,H.refl _ _⟩
 case round=>
  obtain⟨k,hk,rfl,rfl,rfl,P⟩:=hrel;by_cases al:k<z
  ·have h1:(k:Int)<(n:Int):=by have:=vg.j;omega
   have h3:(k:Int)<3:=Z;have gF:0<=(k:Int)/\(k:Int)<(n:Int):=by have:=vg.j;omega
   have xe:=Zf k Z;have Nz:(k:Int) % 4294967296=(k:Int):=Z;have s:IntKind.u32.wrap (k:Int)=(k:Int):=by rw[IntKind.wrap_u32];omega
   have hA:=G.j.A k;have hB:=G.j.B k
   have m:Hid (∀b,Zq w b->b.cell? (E g (o+k*2))=some (J (Q.A k))/\b.cell? (E g (o+k*2+1))=some (J (Q.B k))):=λb h=>by
    obtain⟨c1,c2⟩:=HQ.j k (by rw[<-HM.j];exact al);exact⟨by rw[h.cell (p:=E g (o+k*2)) y.j id];exact c1,by rw[h.cell (p:=E g (o+k*2+1)) y.j id];exact c2⟩
   have T:=Pz Q G.j k Z;have zr:Hid (tB Q (k+1)=tB Q k++qB k (Q.A k) (Q.B k)):=Vt Q k;have aa:Hid (sy Q (k+1)=m32 ((sy Q k:Int)*33+((Q.A k:Int)+3*(Q.B k:Int)+(k:Int)))):=rfl;have xd:=adm Q k;generalize Q.A k=A at*;generalize Q.B k=B at*;unfold qB at zr;have q:∀r v:Nat,r<32->v<4294967296->∀b,Zq w b->Zk 15 #[O r,J v] b λe w'=>Zr e (.string ⟨(gA r v).toArray⟩)/\Hid (Zq w w'):=λr v hr hv b h=>(II r v hr hv b).mono (λe w' h9=>⟨h9.1,h.trans h9.2⟩)
   have L1:=Y (q 10 0 I I);have L2:=Y (q 11 k I Z);have L3:=Y (q 12 A I hA);have L4:=Y (q 13 B I hB);have L5:=Y (q 16 4294967295 I I);have L6:=Y (q 17 3 I I);have L7:=Y (q 19 33 I I);have l1:=oF 10 0 I I;have l2:=oF 11 k I Z;have l3:=oF 12 A I hA;have l4:=oF 13 B I hB;have l5:=oF 16 4294967295 I I;have l6:=oF 17 3 I I;have l7:=oF 19 33 I I;clear q;generalize gA 10 0=a1 at*;generalize gA 11 k=a2 at*;generalize gA 12 A=a3 at*;generalize gA 13 B=a4 at*;generalize gA 16 4294967295=a5 at*;generalize gA 17 3=a6 at*;generalize gA 19 33=a7 at*;obtain⟨tb,u⟩:=Ze (tB Q k);rw[<-u] at T zr|-;clear u;have JF:tb.length<=2000:=Z;clear T;have H0:Hid (Zq w wr.drew):=P.j.drew;have d:=Y (m.j _ H0.j);go_upto_region 6 with fail
   refine sx (S:=(λb=>b.cell? (E g (o+k*2))=some (J A)/\b.cell? (E g (o+k*2+1))=some (J B))) 25 Zx Zg Zx ?_;simp only[jM,oC,List.setIfInBounds_toArray,List.set_cons_zero,List.set_cons_succ,List.size_toArray,List.length_cons,List.length_nil,Nat.zero_add,Nat.reduceAdd];refine Zt 0 d.j ?_;refine Zt 3 d.j ?_;refine Zt 4 d.j ?_;refine Zt 7 d.j ?_;refine Zt 8 d.j ?_;refine Zt 9 d.j ?_;refine Zt 10 d.j ?_;refine Zt 11 d.j ?_;refine Zt 14 d.j ?_;refine Zt 15 d.j ?_;refine Zt 16 d.j ?_;refine Zt 17 d.j ?_;refine Zt 18 d.j ?_;refine Zy 1 (λK f=>?_);refine dc rfl 15 #[Operand.const (Value.int IntKind.i64 10),Operand.const (Value.int IntKind.u32 0)] #[3,27] rfl #[O 10,J 0] (by first|rfl|simp[Act.eval,go_sem,s]) (by simp[go_sem]) (L1.j _ H0.j) ?_;rintro e wa ⟨rfl,Ha⟩;have KH:=Y (m.j _ Ha.j);refine⟨_,rfl,?_⟩;refine Zb f KH.j ?_;refine wpAnyH_take (i:=2) (v:=?v6_2) Zg Zx Zx Zx (by exact λ_ _ _ h=>h) (Or.inl ⟨by rfl,?hy6_2⟩) KH.j ?_
   case hy6_2=>(intro C l;(try dsimp only at l);go_simp;rw[if_neg Z];try (with_reducible rfl))
   try simp only[Act.put,List.setIfInBounds_toArray,List.set_cons_zero,List.set_cons_succ]
   refine Zy 5 (λK f=>?_);refine dc rfl 15 #[Operand.const (Value.int IntKind.i64 11),Operand.tmp 21] #[3,27] rfl #[O 11,J k] (by first|rfl|simp[Act.eval,go_sem,s]) (by simp[go_sem]) (L2.j _ Ha.j) ?_;rintro e wb ⟨rfl,Hb⟩;have KG:=Y (m.j _ Hb.j);refine⟨_,rfl,?_⟩;refine Zb f KG.j ?_;refine wpAnyH_take (i:=6) (v:=?v6_6) Zg Zx Zx Zx (by exact λ_ _ _ h=>h) (Or.inl ⟨by rfl,?hy6_6⟩) KG.j ?_
   case hy6_6=>(intro C l;(try dsimp only at l);go_simp;rw[if_neg Z];try (with_reducible rfl))
   try simp only[Act.put,List.setIfInBounds_toArray,List.set_cons_zero,List.set_cons_succ]
   refine Zy 12 (λK f=>?_);refine dc rfl 15 #[Operand.const (Value.int IntKind.i64 12),Operand.tmp 28] #[3,27] rfl #[O 12,J A] (by first|rfl|simp[Act.eval,go_sem,s]) (by simp[go_sem]) (L3.j _ Hb.j) ?_;rintro e wc ⟨rfl,Hc⟩;have GR:=Y (m.j _ Hc.j);refine⟨_,rfl,?_⟩;refine Zb f GR.j ?_;refine wpAnyH_take (i:=13) (v:=?v6_13) Zg Zx Zx Zx (by exact λ_ _ _ h=>h) (Or.inl ⟨by rfl,?hy6_13⟩) GR.j ?_
   case hy6_13=>(intro C l;(try dsimp only at l);go_simp;rw[if_neg Z];try (with_reducible rfl))
   try simp only[Act.put,List.setIfInBounds_toArray,List.set_cons_zero,List.set_cons_succ]
   refine Zy 19 (λK f=>?_);refine dc rfl 15 #[Operand.const (Value.int IntKind.i64 13),Operand.tmp 35] #[3,27] rfl #[O 13,J B] (by first|rfl|simp[Act.eval,go_sem,s]) (by simp[go_sem]) (L4.j _ Hc.j) ?_;rintro e wd ⟨rfl,Hd⟩;have T6:=Y (m.j _ Hd.j);refine⟨_,rfl,?_⟩;refine Zb f T6.j ?_;refine wpAnyH_take (i:=20) (v:=?v6_20) Zg Zx Zx Zx (by exact λ_ _ _ h=>h) (Or.inl ⟨by rfl,?hy6_20⟩) T6.j ?_
   case hy6_20=>(intro C l;(try dsimp only at l);go_simp;rw[if_neg Z];try (with_reducible rfl))
   try simp only[Act.put,List.setIfInBounds_toArray,List.set_cons_zero,List.set_cons_succ]
   refine Zy 21 (λK f=>?_);refine dc rfl 15 #[Operand.const (Value.int IntKind.i64 16),Operand.const (Value.int IntKind.u32 4294967295)] #[3,27] rfl #[O 16,J 4294967295] (by first|rfl|simp[Act.eval,go_sem,s]) (by simp[go_sem]) (L5.j _ Hd.j) ?_;rintro e we ⟨rfl,He⟩;have T5:=Y (m.j _ He.j);refine⟨_,rfl,?_⟩;refine Zb f T5.j ?_;refine wpAnyH_take (i:=22) (v:=?v6_22) Zg Zx Zx Zx (by exact λ_ _ _ h=>h) (Or.inl ⟨by rfl,?hy6_22⟩) T5.j ?_
   case hy6_22=>(intro C l;(try dsimp only at l);go_simp;rw[if_neg Z];try (with_reducible rfl))
   try simp only[Act.put,List.setIfInBounds_toArray,List.set_cons_zero,List.set_cons_succ]
   refine Zy 23 (λK f=>?_);refine dc rfl 15 #[Operand.const (Value.int IntKind.i64 17),Operand.const (Value.int IntKind.u32 3)] #[3,27] rfl #[O 17,J 3] (by first|rfl|simp[Act.eval,go_sem,s]) (by simp[go_sem]) (L6.j _ He.j) ?_;rintro e wf ⟨rfl,Hf⟩;have U:=Y (m.j _ Hf.j);refine⟨_,rfl,?_⟩;refine Zb f U.j ?_;refine wpAnyH_take (i:=24) (v:=?v6_24) Zg Zx Zx Zx (by exact λ_ _ _ h=>h) (Or.inl ⟨by rfl,?hy6_24⟩) U.j ?_
   case hy6_24=>(intro C l;(try dsimp only at l);go_simp;rw[if_neg Z];try (with_reducible rfl))
   try simp only[Act.put,List.setIfInBounds_toArray,List.set_cons_zero,List.set_cons_succ]
   refine wpAnyH_take (i:=25) (v:=undef) Zg Zx Zx Zx (by exact λ_ _ _ h=>h) (Or.inr ⟨by rfl,rfl⟩) U.j ?_;refine wpAnyH_done Zx ?_ _;simp only[p8];clear d KH KG GR T6 T5 U L1 L2 L3 L4 L5 L6 H0 Ha Hb Hc Hd He P;go_wp2_with (go_at_call 15;refine(L7.j _ Hf.j).m ?_;rintro e wh ⟨rfl,Hh⟩);go_upto_region 8 with fail
   have H8:Hid (Zq w wh.drew):=Hh.j.drew;have a:=Y (m.j _ H8.j);refine sx (S:=(λb=>b.cell? (E g (o+k*2))=some (J A)/\Zc b g (o+k*2+1) (J B))) 18 Zx Zg Zx ?_;simp only[jM,oC,List.setIfInBounds_toArray,List.set_cons_zero,List.set_cons_succ,List.size_toArray,List.length_cons,List.length_nil,Nat.zero_add,Nat.reduceAdd];refine Zt 0 a.j ?_;refine Zt 1 a.j ?_;refine Zt 2 a.j ?_;refine Zt 3 a.j ?_;refine Zt 4 a.j ?_;refine Zt 5 a.j ?_;refine Zt 6 a.j ?_;refine Zt 7 a.j ?_;refine Zt 8 a.j ?_;refine Zt 9 a.j ?_;refine Zt 10 a.j ?_;refine Zt 11 a.j ?_;refine Zt 12 a.j ?_;refine Zt 13 a.j ?_;refine Zt 14 a.j ?_;refine Zt 15 a.j ?_;refine Zt 16 a.j ?_;refine Zt 17 a.j ?_;refine wpAnyH_take (i:=18) (v:=undef) Zg Zx Zx Zx (by exact λ_ _ _ h=>h) (Or.inr ⟨by rfl,rfl⟩) a.j ?_;refine wpAnyH_done Zx ?_ _;simp only[p8];clear a m
   go_wp2
   go_roundw
   case rel=>
    refine⟨k+1,Z,by go_num,?_,?_,H8⟩
    ·rw[zr.j];simp only[<-List.append_assoc];rw[<-ke,<-ke,<-ke,<-ke,<-ke,<-ke,<-ke,<-ke,<-ke]
    rw[aa.j];unfold m32;refine congrArg (Value.int .u32) ?_;omega
   case measure=>exact Zm
  obtain rfl:k=z:=Z;have T:=Pz Q G.j k Z;have JF:(tB Q k).length<=2000:=Z;obtain⟨tb,u⟩:=Ze (tB Q k);have D:Hid (R=tb++[101,98,114,101,97,107,10]):=by rw[u];exact N.j
  rw[<-u] at JF|-;clear T u N;have F:=Y HX.j;by_cases h9:(k:Int)<(n:Int)
  ·have h3:¬(k:Int)<3:=by have:=vg.j;omega
   go_wp2
   go_ret2;refine⟨?_,P.j⟩;rw[D.j,F.j,<-ke];rfl
  go_wp2
  go_ret2;refine⟨?_,P.j⟩;rw[D.j,F.j,<-ke];rfl
def Kp(V w:Z0):Prop:=∀(k:Nat) (cur:Array Value) (t:TypeId),V.heap[k]?=some (.cells cur t (0,0))->(t=3\/t=27)->w.heap[k]?=some (.cells cur t (0,0))
theorem Kp.step{P:Z1}(h:Kp V w)(b:H P w w2)(hs:∀(k:Nat),P k->∃(cur:Array Value) (u:TypeId),w.heap[k]?=some (.cells cur u (0,0))/\u≠3/\u≠27):Kp V w2:=λk cur t hk ht=>by
 have h1:=h k cur t hk ht;refine H.keep b h1 (λc=>?_);obtain⟨c2,u,a,n1,n2⟩:=hs k c;rcases ht with ht|ht
 ·exact ef h1 a (by rw[ht];exact λe=>n1 e.symm) rfl
 exact ef h1 a (by rw[ht];exact λe=>n2 e.symm) rfl
structure eR(V W w:Z0)(pb:Nat)(vt vo vb vc vm vr:Z3)(pg:Int)(S:Sk):Prop where
 be:Below W.heap.size W w
 kp:Kp V w
 row:w.heap[pb]?=some (.cells #[O S.n,vt,J (S.c:Int),vo,vb,vc,vm,vr,.slice none 0 0,O pg,.bool false] 37 (0,0))
 hb:W.heap.size<=pb
 lt:ax dG w W.heap.size 52 vt S.ts
 lo:ax sU w W.heap.size 73 vo S.ob
 lb:ax oT w W.heap.size 77 vb S.eM
 lc:ax tG w W.heap.size 86 vc S.cp
 lm:ax sW w W.heap.size 79 vm S.mp
 lr:ax sE w W.heap.size 81 vr S.th
section
variable {W:Z0}
theorem eR.quiet(h:eR V W w pb vt vo vb vc vm vr pg S)(a:Zq w w2):eR V W w2 pb vt vo vb vc vm vr pg S:=
 ⟨h.be.trans (a.below h.be.size (λ_ _ h=>h)),h.kp.step a (λ_ h=>h.elim),(a.block pb (aB h.row) id).trans h.row,h.hb,h.lt.kept a (λ_ _ h=>h),h.lo.kept a (λ_ _ h=>h),h.lb.kept a (λ_ _ h=>h),h.lc.kept a (λ_ _ h=>h),h.lm.kept a (λ_ _ h=>h),h.lr.kept a (λ_ _ h=>h)⟩
theorem eR.step{L:Lay α}{xs:List α}(h:eR V W w pb vt vo vb vc vm vr pg S)(c:ax L w W.heap.size T v xs)(hv:ax L w2 W.heap.size T v' ys)(d:H (λk=>v.ownBlock=some k) w w2)(e:T≠37/\T≠3/\T≠27)(i:Nat)(x:Z3):(w2.heap[pb]?=some (.cells #[O S.n,vt,J (S.c:Int),vo,vb,vc,vm,vr,.slice none 0 0,O pg,.bool false] 37 (0,0)))/\Below W.heap.size W (w2.setCell (E pb i) x)/\Kp V (w2.setCell (E pb i) x)/\((w2.setCell (E pb i) x).heap[pb]?=some (.cells ((#[O S.n,vt,J (S.c:Int),vo,vb,vc,vm,vr,.slice none 0 0,O pg,.bool false]:Array Value).setIfInBounds i x) 37 (0,0)))/\ax L (w2.setCell (E pb i) x) W.heap.size T v' ys/\∀{β:Type} (j:Lay β) (t:TypeId) (u:Z3) (zs:List β),t≠T->t≠37->ax j w W.heap.size t u zs->ax j (w2.setCell (E pb i) x) W.heap.size t u zs:=by
 have f:=h.row;have hb:=h.hb;have g:w2.heap[pb]?=_:=(d.block pb (aB f) (λa=>by obtain⟨cur,b⟩:=cW c a;exact ef b f e.1 rfl)).trans f;have hs:H (λk=>k=pb) w2 (w2.setCell (E pb i) x):=H.setCell (S:=λk=>k=pb) (H.refl _ w2) (Or.inl rfl) _;have l:Below W.heap.size W w2:=h.be.trans (d.below h.be.size (λk hk a=>by have:=(iu c a).1;omega));refine⟨g,l.trans (hs.below l.size (λk hk a=>Z)),(h.kp.step d (λk a=>by obtain⟨cur,b⟩:=cW c a;exact⟨_,_,b,e.2.1,e.2.2⟩)).step hs (λk a=>by subst a;exact⟨_,_,g,I,I⟩),heap_setCell_same _ _ i _ _ _ g,hv.kept hs (λk hk a=>by obtain⟨cur,b⟩:=cW hv hk;exact ef b g e.1 a),λj t u zs n1 n2 hu=>(hu.kept d (λk hk a=>by obtain⟨c1,b⟩:=cW hu hk;obtain⟨c2,m⟩:=cW c a;exact ef b m n1 rfl)).kept hs (λk hk a=>by obtain⟨c1,b⟩:=cW hu hk;exact ef b f n2 a)⟩
theorem eR.It(h:eR V W w pb vt vo vb vc vm vr pg S)(g:Int):eR V W (w.setCell (E pb 9) (O g)) pb vt vo vb vc vm vr g S:=by
 obtain⟨a,b,c,d,e,f⟩:=h.step (T:=0) (ax.nil kN _ _ _) (ax.nil _ _ _ _) (H.refl _ w) I 9 (O g);exact⟨b,c,d,h.hb,f _ _ _ _ I I h.lt,f _ _ _ _ I I h.lo,f _ _ _ _ I I h.lb,f _ _ _ _ I I h.lc,f _ _ _ _ I I h.lm,f _ _ _ _ I I h.lr⟩
theorem eR.ahR(h:eR V W w pb vt vo vb vc vm vr pg S)(g:Int):eR V W (w.setCell (E pb 0) (O g)) pb vt vo vb vc vm vr pg {S with n:=g}:=by
 obtain⟨a,b,c,d,e,f⟩:=h.step (T:=0) (ax.nil kN _ _ _) (ax.nil _ _ _ _) (H.refl _ w) I 0 (O g);exact⟨b,c,d,h.hb,f _ _ _ _ I I h.lt,f _ _ _ _ I I h.lo,f _ _ _ _ I I h.lb,f _ _ _ _ I I h.lc,f _ _ _ _ I I h.lm,f _ _ _ _ I I h.lr⟩
theorem eR.calls(h:eR V W w pb vt vo vb vc vm vr pg S)(g:Nat):eR V W (w.setCell (E pb 2) (J (g:Int))) pb vt vo vb vc vm vr pg {S with c:=g}:=by
 obtain⟨a,b,c,d,e,f⟩:=h.step (T:=0) (ax.nil kN _ _ _) (ax.nil _ _ _ _) (H.refl _ w) I 2 (J (g:Int));exact⟨b,c,d,h.hb,f _ _ _ _ I I h.lt,f _ _ _ _ I I h.lo,f _ _ _ _ I I h.lb,f _ _ _ _ I I h.lc,f _ _ _ _ I I h.lm,f _ _ _ _ I I h.lr⟩
theorem eR.agU(h:eR V W w pb vt vo vb vc vm vr pg S){xs:Lp}(hv:ax dG w2 W.heap.size 52 v' xs)(g:H (λk=>vt.ownBlock=some k) w w2):(w2.heap[pb]?=some (.cells #[O S.n,vt,J (S.c:Int),vo,vb,vc,vm,vr,.slice none 0 0,O pg,.bool false] 37 (0,0)))/\eR V W (w2.setCell (E pb 1) v') pb v' vo vb vc vm vr pg {S with ts:=xs}:=by
 obtain⟨a,b,c,d,e,f⟩:=h.step h.lt hv g I 1 v';exact⟨a,b,c,d,h.hb,e,f _ _ _ _ I I h.lo,f _ _ _ _ I I h.lb,f _ _ _ _ I I h.lc,f _ _ _ _ I I h.lm,f _ _ _ _ I I h.lr⟩
theorem eR.agW(h:eR V W w pb vt vo vb vc vm vr pg S){xs:List (Int×Int×Int)}(hv:ax sU w2 W.heap.size 73 v' xs)(g:H (λk=>vo.ownBlock=some k) w w2):(w2.heap[pb]?=some (.cells #[O S.n,vt,J (S.c:Int),vo,vb,vc,vm,vr,.slice none 0 0,O pg,.bool false] 37 (0,0)))/\eR V W (w2.setCell (E pb 3) v') pb vt v' vb vc vm vr pg {S with ob:=xs}:=by
 obtain⟨a,b,c,d,e,f⟩:=h.step h.lo hv g I 3 v';exact⟨a,b,c,d,h.hb,f _ _ _ _ I I h.lt,e,f _ _ _ _ I I h.lb,f _ _ _ _ I I h.lc,f _ _ _ _ I I h.lm,f _ _ _ _ I I h.lr⟩
theorem eR.ah2(h:eR V W w pb vt vo vb vc vm vr pg S){xs:List (Int×Z2)}(hv:ax oT w2 W.heap.size 77 v' xs)(g:H (λk=>vb.ownBlock=some k) w w2):(w2.heap[pb]?=some (.cells #[O S.n,vt,J (S.c:Int),vo,vb,vc,vm,vr,.slice none 0 0,O pg,.bool false] 37 (0,0)))/\eR V W (w2.setCell (E pb 4) v') pb vt vo v' vc vm vr pg {S with eM:=xs}:=by
 obtain⟨a,b,c,d,e,f⟩:=h.step h.lb hv g I 4 v';exact⟨a,b,c,d,h.hb,f _ _ _ _ I I h.lt,f _ _ _ _ I I h.lo,e,f _ _ _ _ I I h.lc,f _ _ _ _ I I h.lm,f _ _ _ _ I I h.lr⟩
theorem eR.ah1(h:eR V W w pb vt vo vb vc vm vr pg S){xs:List (En)}(hv:ax tG w2 W.heap.size 86 v' xs)(g:H (λk=>vc.ownBlock=some k) w w2):(w2.heap[pb]?=some (.cells #[O S.n,vt,J (S.c:Int),vo,vb,vc,vm,vr,.slice none 0 0,O pg,.bool false] 37 (0,0)))/\eR V W (w2.setCell (E pb 5) v') pb vt vo vb v' vm vr pg {S with cp:=xs}:=by
 obtain⟨a,b,c,d,e,f⟩:=h.step h.lc hv g I 5 v';exact⟨a,b,c,d,h.hb,f _ _ _ _ I I h.lt,f _ _ _ _ I I h.lo,f _ _ _ _ I I h.lb,e,f _ _ _ _ I I h.lm,f _ _ _ _ I I h.lr⟩
theorem eR.Wv(h:eR V W w pb vt vo vb vc vm vr pg S){xs:List (Mp)}(hv:ax sW w2 W.heap.size 79 v' xs)(g:H (λk=>vm.ownBlock=some k) w w2):(w2.heap[pb]?=some (.cells #[O S.n,vt,J (S.c:Int),vo,vb,vc,vm,vr,.slice none 0 0,O pg,.bool false] 37 (0,0)))/\eR V W (w2.setCell (E pb 6) v') pb vt vo vb vc v' vr pg {S with mp:=xs}:=by
 obtain⟨a,b,c,d,e,f⟩:=h.step h.lm hv g I 6 v';exact⟨a,b,c,d,h.hb,f _ _ _ _ I I h.lt,f _ _ _ _ I I h.lo,f _ _ _ _ I I h.lb,f _ _ _ _ I I h.lc,e,f _ _ _ _ I I h.lr⟩
theorem eR.agV(h:eR V W w pb vt vo vb vc vm vr pg S){xs:List (Tc)}(hv:ax sE w2 W.heap.size 81 v' xs)(g:H (λk=>vr.ownBlock=some k) w w2):(w2.heap[pb]?=some (.cells #[O S.n,vt,J (S.c:Int),vo,vb,vc,vm,vr,.slice none 0 0,O pg,.bool false] 37 (0,0)))/\eR V W (w2.setCell (E pb 7) v') pb vt vo vb vc vm v' pg {S with th:=xs}:=by
 obtain⟨a,b,c,d,e,f⟩:=h.step h.lr hv g I 7 v';exact⟨a,b,c,d,h.hb,f _ _ _ _ I I h.lt,f _ _ _ _ I I h.lo,f _ _ _ _ I I h.lb,f _ _ _ _ I I h.lc,f _ _ _ _ I I h.lm,e⟩
end
theorem ahw:Kind prog sU 28 73:=sY (z:=.agg #[O 0,O 0,O 0]) (b:=24) underlying28 Zx rfl I
theorem ahu:Kind prog dG 26 52:=sY (z:=.agg #[O 0,O 0]) (b:=16) underlying26 Zx rfl I
theorem WK:Kind prog sW 31 79:=sY (z:=.agg #[O 0,O 0,O 0,J 0,O 0]) (b:=40) underlying31 Zx rfl I
def iR(c n:Int):Int:=(if c<0 then -(c+1) else c) % n
theorem WM(c n:Int)(g:af c)(hn:0<n/\n<1000000)(w:Z0):Zk 6 #[O c,O n] w λe w'=>Zr e (O (iR c n))/\w'=w:=by
 unfold af at g;have f:¬n=0:=Z;by_cases h:c<0
 ·have h1:=Zh (c+1) Z;have k:=Zh (-(c+1)) Z;have i:Int.tmod (-(c+1)) n= -(c+1) % n:=Int.tmod_eq_emod_of_nonneg Z;have a:=Int.emod_nonneg (-(c+1)) f;have b:=Int.emod_lt_of_pos (-(c+1)) hn.1;have j:=Zh (-(c+1) % n) Z;have d:Hid (iR c n= -(c+1) % n):=by show iR c n=_;unfold iR;rw[if_pos h]
  clear a b;go_enter func6,ntmps6
  go_wp2
  go_ret;rw[d.j];exact⟨rfl,rfl⟩
 have i:Int.tmod c n=c % n:=Int.tmod_eq_emod_of_nonneg Z;have a:=Int.emod_nonneg c f;have b:=Int.emod_lt_of_pos c hn.1;have j:=Zh (c % n) Z;have d:Hid (iR c n=c % n):=by show iR c n=_;unfold iR;rw[if_neg h]
 clear a b;go_enter func6,ntmps6
 go_wp2
 go_ret;rw[d.j];exact⟨rfl,rfl⟩
section
variable {W:Z0}
theorem apG(h:eR V W w pb vt vo vb vc vm vr pg S)(kd sz:Int)(hp:0<=pg/\pg<1000)(o:S.ob.length<=1000):Zk 4 #[M pb,O kd,O sz] w λe w'=>Zr e (O pg)/\Hid (∃p,eR V W w' pb vt p vb vc vm vr (pg+1) {S with ob:=S.ob++[(kd,pg,sz)]}):=by
 have v:=Zh (pg+1) Z;have c9:=cell_of_row _ _ 9 _ _ (0,0) h.row;simp only[List.getElem?_toArray,List.getElem?_cons_zero,List.getElem?_cons_succ] at c9;have f9:w.frozen? (E pb 9)=false:=fX h.row _;obtain⟨q,co,g,_⟩:=h.lo.form;obtain⟨no,i⟩:=Ze (S.ob.length);rw[<-i] at g;subst g;have a:=Y (h.It (pg+1));obtain⟨w1,b⟩:=Ze (w.setCell (E pb 9) (O (pg+1)));rw[<-b] at a;have c3:=cell_of_row _ _ 3 _ _ (0,0) a.j.row;simp only[List.getElem?_toArray,List.getElem?_cons_zero,List.getElem?_cons_succ] at c3;have r:Hid (S.ob.length+1<=10000000):=by show _<=_;omega
 have s:Hid (W.heap.size<=w1.heap.size):=a.j.be.size;clear h i o;go_enter func4,ntmps4;go_upto_region 3 with fail
 rw[<-b];clear b c9 f9;go_wp2_with (at_builtin;refine wH ahw _ rfl _ _ rfl W.heap.size (.slice q no co) _ rfl a.j.lo (kd,pg,sz) _ _ rfl rfl rfl r.j s.j ?_;intro v' t c j u;obtain⟨x,y,k,_⟩:=c.form;obtain⟨l,m⟩:∃l,l=(S.ob++[(kd,pg,sz)]).length:=⟨_,rfl⟩;rw[<-m] at k;clear m;subst k;obtain⟨d,n⟩:=a.j.agW c j;have f:=Y n;have f5:t.frozen? (E pb 3)=false:=fX d _;have c5:=(cell_of_row _ _ 3 _ _ (0,0) d).trans rfl;clear c j u d n);go_ret;exact⟨rfl,_,f.j⟩
end
def ma(ps:List Int)(i:Nat):Int:=if h:i<ps.length then iR ps[i] 8 else 0
def Kg(w:Z0)(q:Addr)(ps:List Int):Prop:=∃p c,w.cell? q=some (.slice p ps.length c)/\(0<ps.length->∃g o,p=some (E g o)/\∀j,(h:j<ps.length)->w.cell? (E g (o+j))=some (O ps[j]))
theorem ahc(h:Kg w q ps)(hi:∀x∈ps,af x)(i:Nat)(hs:i<1000):Zk 5 #[O i,.pointer (some q)] w λe w'=>Zr e (O (ma ps i))/\w'=w:=by
 obtain⟨p,c,k,hg⟩:=h;by_cases a:i<ps.length
 ·obtain⟨g,o,rfl,d⟩:=hg Z;have j:=d i a;have f:=Y (WM ps[i] 8 (hi _ (List.getElem_mem a)) I w);have b:Hid (ma ps i=iR ps[i] 8):=dif_pos a;clear hg d hi;generalize ps[i]=x at j f b;generalize ps.length=n at*;have h1:(i:Int)<(n:Int):=Z;have l:0<=(i:Int)/\(i:Int)<(n:Int):=Z;go_enter func5,ntmps5;go_wp2_with (go_at_call 6;refine f.j.m ?_;rintro e w' ⟨rfl,rfl⟩);go_ret;rw[b.j];exact⟨rfl,rfl⟩
 have b:Hid (ma ps i=0):=dif_neg a;clear hg hi;generalize ps.length=n at*;have h1:¬(i:Int)<(n:Int):=Z;go_enter func5,ntmps5
 go_wp2
 go_ret;rw[b.j];exact⟨rfl,rfl⟩
theorem ahx:Kind prog tG 30 86:=sY (z:=.agg #[O 0,O 0,O 0,O 0,O 0,J 0,J 0,O 0,O 0,J 0,O 0,O 0]) (b:=88) underlying30 Zx rfl I
def jV(kd num aQ:Int):Cp:=⟨kd,num,7,aQ,0,if kd=5 then 26 else 0,0,0⟩
section
variable {W:Z0}
theorem amT(h:eR V W w pb vt vo vb vc vm vr pg S)(s1 s2 kd num aQ:Int)(x:S.cp.length<=1000):Zk 9 #[M pb,.agg #[O s1,O s2],O kd,O num,J aQ] w λe w'=>Zr e (.tuple #[])/\Hid (∃Pe,eR V W w' pb vt vo vb Pe vm vr pg {S with cp:=S.cp++[⟨(s1,s2),jV kd num aQ,(-1,0)⟩]}):=by
 obtain⟨pc,cc,IZ,_⟩:=h.lc.form;obtain⟨o,ko⟩:=Ze (S.cp.length);rw[<-ko] at IZ;subst IZ;have j5:Hid (S.cp.length+1<=10000000):=by show _<=_;omega
 clear ko x;obtain⟨d,jU⟩:=Ze (if kd=5 then 26 else 0:Int);have z:=Y jU;clear jU;obtain⟨w3,m⟩:=Ze ((w.alloc (.cells #[O s1,O s2] 45)).alloc (.cells #[O kd,O num,O 7,J aQ,J 0,O d,O 0,J 0] 84));obtain⟨g,A⟩:=Ze (w.heap.size);obtain⟨cb,s⟩:=Ze (w.heap.size+1);have B:Zq w w3:=by rw[m];exact((H.refl _ w).alloc _).alloc _
 have C:w3.heap[g]?=some (.cells #[O s1,O s2] 45 (0,0)):=by
  rw[m,A];exact H.keep ((H.refl (λ_=>False) _).alloc _) (heap_alloc_last w _) id
 have D:w3.heap[cb]?=some (.cells #[O kd,O num,O 7,J aQ,J 0,O d,O 0,J 0] 84 (0,0)):=by
  rw[m,s];have:=heap_alloc_last (w.alloc (.cells #[O s1,O s2] 45)) (.cells #[O kd,O num,O 7,J aQ,J 0,O d,O 0,J 0] 84);simpa using this
 obtain⟨y,hy⟩:=Ze (⟨(s1,s2),⟨kd,num,7,aQ,0,d,0,0⟩,(-1,0)⟩:En);obtain⟨l,F⟩:=Ze ((w3.alloc (.cells #[O s1,O s2,O kd,O num,O 7,J aQ,J 0,O d,O 0,J 0,O (-1),O 0] 86)).drew);obtain⟨G,pH⟩:=Ze (w3.heap.size);have p:Zq w3 l:=by rw[F];exact((H.refl _ _).alloc _).drew
 have q:=Y ((h.quiet B).quiet p);have nh:Hid (W.heap.size<=l.heap.size):=q.j.be.size
 have TW:Hid (∀j u,(Gx y)[j]?=some u->l.cell? (E G j)=some u):=λj u hj=>by
  have x:l.heap[G]?=some (.cells (Gx y).toArray 86 (0,0)):=by rw[F,pH,hy];exact heap_alloc_last w3 _
  rw[cell_of_row _ _ j _ _ (0,0) x,List.getElem?_toArray];exact hj
 have r:Hid (l.heap[g]?=some (.cells #[O s1,O s2] 45 (0,0))):=H.keep p C id;have CZ:Hid (l.heap[cb]?=some (.cells #[O kd,O num,O 7,J aQ,J 0,O d,O 0,J 0] 84 (0,0))):=H.keep p D id
 have N:∀a,Zq w3 a->a.cell? (E pb 5)=some (.slice pc o cc)/\(a.cell? (E g 0)=some (O s1)/\a.cell? (E g 1)=some (O s2))/\a.cell? (E cb 0)=some (O kd)/\a.cell? (E cb 1)=some (O num)/\a.cell? (E cb 2)=some (O 7)/\a.cell? (E cb 3)=some (J aQ)/\a.cell? (E cb 4)=some (J 0)/\a.cell? (E cb 5)=some (O d)/\a.cell? (E cb 6)=some (O 0)/\a.cell? (E cb 7)=some (J 0):=λa P=>by
  have h1:=(h.quiet B).quiet P;have h2:=H.keep P C id;have k:=H.keep P D id;exact⟨Zl h1.row,⟨Zl h2,Zl h2⟩,Zl k,Zl k,Zl k,Zl k,Zl k,Zl k,Zl k,Zl k⟩
 have c:=Y (N w3.drew ((H.refl _ _).drew));have fI:=Y (N l p);have HY:Hid (jV kd num aQ=⟨kd,num,7,aQ,0,d,0,0⟩):=by show jV kd num aQ=_;unfold jV;rw[z.j]
 have Q:=Y hy;clear h B C D p N hy;go_enter func9,ntmps9
 go_upto_if 17 with fail
 go_cut [10] from 16 to 18 (λv wx=>v=M cb/\wx=w3)
 case first=>
  by_cases hk:kd=5
  ·subst hk
   go_wp2
   go_meet;exact⟨by rw[s],by rw[m,z.j];rfl⟩
  have rL:(kd==5)=false:=by rw[beq_eq_false_iff_ne];exact hk
  go_wp2
  go_meet;exact⟨by rw[s],by rw[m,z.j,if_neg hk]⟩
 case rest=>
 obtain⟨rfl,rfl⟩:=hcut;go_upto_region 4 with fail
 rw[<-A];clear m s A;refine sx (S:=(λa=>Zc a pb 5 (.slice pc o cc)/\(Zc a g 0 (O s1)/\Zc a g 1 (O s2))/\Zc a cb 0 (O kd)/\Zc a cb 1 (O num)/\Zc a cb 2 (O 7)/\Zc a cb 3 (J aQ)/\Zc a cb 4 (J 0)/\Zc a cb 5 (O d)/\Zc a cb 6 (O 0)/\Zc a cb 7 (J 0))) 15 Zx Zg Zx ?_;simp only[jM,oC,List.setIfInBounds_toArray,List.set_cons_zero,List.set_cons_succ,List.size_toArray,List.length_cons,List.length_nil,Nat.zero_add,Nat.reduceAdd];refine Zt 0 c.j ?_;refine Zt 1 c.j ?_;refine Zt 2 c.j ?_;refine Zt 3 c.j ?_;refine Zt 4 c.j ?_;refine Zt 5 c.j ?_;refine Zt 6 c.j ?_;refine Zt 7 c.j ?_;refine Zt 8 c.j ?_;refine Zt 9 c.j ?_;refine Zy 10 (λK R=>?_);go_simp;rw[<-F,<-pH];refine Zb R fI.j ?_;refine Zy 11 (λK R=>?_);refine VD ahx rfl (.tmp 24) (.tmp 29) rfl W.heap.size (.slice pc o cc) S.cp (by simp[Act.eval]) q.j.lc y G 1 1 (by simp[Act.eval]) TW.j j5.j nh.j ?_;intro v6 b T t iz;obtain⟨pz,cz,pD,_⟩:=T.form;obtain⟨mz,Jj⟩:=Ze ((S.cp++[y]).length);rw[<-Jj] at pD;subst pD;clear Jj;obtain⟨U,BW⟩:=q.j.ah1 T t;have CT:=Y BW;have f6:=fX U 5;have c6:Zc b pb 5 (.slice pc o cc):=Zl U;have X:=H.keep t r.j (λhk=>by obtain⟨cur,hc⟩:=cW q.j.lc hk;exact ef r.j hc I rfl);have f:=H.keep t CZ.j (λhk=>by obtain⟨cur,hc⟩:=cW q.j.lc hk;exact ef CZ.j hc I rfl);have n:Hid (Zc b pb 5 (.slice pc o cc)/\(Zc b g 0 (O s1)/\Zc b g 1 (O s2))/\Zc b cb 0 (O kd)/\Zc b cb 1 (O num)/\Zc b cb 2 (O 7)/\Zc b cb 3 (J aQ)/\Zc b cb 4 (J 0)/\Zc b cb 5 (O d)/\Zc b cb 6 (O 0)/\Zc b cb 7 (J 0)):=⟨c6,⟨Zl X,Zl X⟩,Zl f,Zl f,Zl f,Zl f,Zl f,Zl f,Zl f,Zl f⟩
 clear T t iz U BW X f;refine Zb R n.j ?_;refine Zt 12 n.j ?_;refine Zt 13 n.j ?_;refine Zt 14 n.j ?_;refine wpAnyH_take (i:=15) (v:=undef) Zg Zx Zx Zx (by exact λ_ _ _ h=>h) (Or.inr ⟨by rfl,rfl⟩) n.j ?_;refine wpAnyH_done Zx ?_ _;simp only[p8];clear c fI n;go_wp2_with fail
 all_goals first|go_end0|refine bodyPost_ret (results_none rfl _ _ _) rfl ?_
 all_goals rw[HY.j]
 all_goals rw[Q.j] at CT
 all_goals exact⟨rfl,_,CT.j⟩
end
theorem ahy:Kind prog oT 29 77:=sY (z:=.agg #[O 0,.string ⟨#[]⟩]) (b:=24) underlying29 Zx rfl I
def Fp(S:Sk)(pg:Int)(cd:Z2)(cy prio:Int):Sk:={S with ob:=S.ob++[(4,pg,0),(3,pg+1,0),(2,pg+2,0),(5,pg+3,64),(6,pg+4,0)],eM:=S.eM++[((pg+2)*4096,cd)],cp:=S.cp++[⟨(pg+3,61),jV 4 pg 0,(-1,0)⟩,⟨(pg+3,62),jV 3 (pg+1) 0,(-1,0)⟩,⟨(pg+3,63),jV 2 (pg+2) 0,(-1,0)⟩,⟨(pg+4,0),jV 5 (pg+3) 0,(-1,0)⟩,⟨(pg+4,1),jV 4 pg 0,(-1,0)⟩],mp:=S.mp++[⟨(pg+3,62),pg,0,0⟩,⟨(pg+3,63),pg,4096,5⟩],th:=S.th++[⟨pg+4,cy,prio,true,λ_=>0,4096⟩]}
section
variable {W:Z0}
def ia(V W w:Z0)(pb:Nat)(vt:Z3)(pg:Int)(S:Sk):Prop:=∃vo vb vc vm vr,eR V W w pb vt vo vb vc vm vr pg S
theorem GI(h:ia V W w pb vt pg S)(kd sz:Int)(hp:0<=pg/\pg<1000)(a:S.ob.length<=1000):Zk 4 #[M pb,O kd,O sz] w λe w'=>Zr e (O pg)/\Hid (ia V W w' pb vt (pg+1) {S with ob:=S.ob++[(kd,pg,sz)]}):=by
 obtain⟨vo,vb,vc,vm,vr,h⟩:=h;refine(apG h kd sz hp a).m ?_;rintro e w' ⟨rfl,h1⟩;obtain⟨b,h1⟩:=h1.j;exact⟨rfl,b,vb,vc,vm,vr,h1⟩
theorem Gr(h:ia V W w pb vt pg S)(s1 s2 kd num aQ:Int)(a:S.cp.length<=1000):Zk 9 #[M pb,.agg #[O s1,O s2],O kd,O num,J aQ] w λe w'=>Zr e (.tuple #[])/\Hid (ia V W w' pb vt pg {S with cp:=S.cp++[⟨(s1,s2),jV kd num aQ,(-1,0)⟩]}):=by
 obtain⟨vo,vb,vc,vm,vr,h⟩:=h;refine(amT h s1 s2 kd num aQ a).m ?_;rintro e w' ⟨rfl,h1⟩;obtain⟨b,h1⟩:=h1.j;exact⟨rfl,vo,vb,b,vm,vr,h1⟩
theorem ia.quiet(h:ia V W w pb vt pg S)(a:Zq w w2):ia V W w2 pb vt pg S:=by
 obtain⟨vo,vb,vc,vm,vr,h⟩:=h;exact⟨vo,vb,vc,vm,vr,h.quiet a⟩
end
theorem ahv:Kind prog sE 32 81:=sY (z:=.agg #[O 0,O 0,O 0,.bool false,J 0,J 0,J 0,J 0,J 0,J 0,J 0,J 0,J 0,J 0,J 0,J 0,J 0,J 0,J 0,J 0,J 0,J 0,J 0,J 0,J 0,J 0,J 0,J 0,J 0,J 0,J 0,J 0,J 0,J 0,J 0,J 0,J 0]) (b:=160) underlying32 Zx rfl I
structure Few(S:Sk)(n:Nat):Prop where
 o:S.ob.length<=n
 b:S.eM.length<=n
 c:S.cp.length<=n
 m:S.mp.length<=n
 h:S.th.length<=n
section
variable {W:Z0}
theorem afP(h:ia V W w pb vt pg S)(hp:0<=pg/\pg<900)(hl:Few S 900)(code:ByteArray)(cd:Z2)(aL:cd.length<=4096)(hA:∀wv,Zq w wv->Zk 14 #[.string code] wv λe w'=>Zr e (.tuple #[.string ⟨cd.toArray⟩,O 0,O 0])/\Zq wv w')(cy prio:Int):Zk 7 #[M pb,.string code,O cy,O prio] w λe w'=>Zr e (O (pg+3))/\Hid (ia V W w' pb vt (pg+5) (Fp S pg cd cy prio)):=by
 have HA:=Y hA;have H0:=Y h;have c:=Y hl;have cZ:(ByteArray.mk cd.toArray).size=cd.length:=by simp[ByteArray.size]
 have bX:¬(4096:Int)<(cd.length:Int):=Z;clear hA h hl;go_enter func7,ntmps7;go_wp2_with (go_at_call 14;refine(HA.j _ (H.refl _ _)).m ?_;rintro e w1 ⟨rfl,ar⟩;have H1:=Y (H0.j.quiet ar);clear ar);refine(GI H1.j 4 0 Z (by have:=c.j.o;omega)).m ?_;rintro e w2 ⟨rfl,H2⟩;clear H1;go_wp2_with fail;refine(GI H2.j 3 0 Z (by have:=c.j.o;simp only[List.length_append,List.length_cons,List.length_nil];omega)).m ?_;rintro e w3 ⟨rfl,H3⟩;clear H2;go_wp2_with fail;refine(GI H3.j 2 0 Z (by have:=c.j.o;simp only[List.length_append,List.length_cons,List.length_nil];omega)).m ?_;rintro e w4 ⟨rfl,H4⟩;clear H3;go_wp2_with fail;refine(GI H4.j 5 64 Z (by have:=c.j.o;simp only[List.length_append,List.length_cons,List.length_nil];omega)).m ?_;rintro e w5 ⟨rfl,H5⟩;clear H4;go_wp2_with fail;refine(GI H5.j 6 0 Z (by have:=c.j.o;simp only[List.length_append,List.length_cons,List.length_nil];omega)).m ?_;rintro e w6 ⟨rfl,H6⟩;clear H5;go_upto_region 9 with fail
 obtain⟨vo,vb,vc,vm,vr,l⟩:=H6.j;obtain⟨pB,cB,pE,_⟩:=l.lb.form;obtain⟨nB,ZY⟩:∃n,n=S.eM.length:=⟨_,rfl⟩
 have N:vb=.slice pB nB cB:=by rw[ZY];exact pE
 clear pE ZY H6;subst N;have P:=Y l;have c4:=cell_of_row _ _ 4 _ _ (0,0) l.row;simp only[List.getElem?_toArray,List.getElem?_cons_zero,List.getElem?_cons_succ] at c4;have IY:=Zh ((pg+1+1)*4096) Z;have vh:Hid (S.eM.length+1<=10000000):=by have:=c.j.b;show _<=_;omega
 have nh:Hid (W.heap.size<=w6.heap.size):=l.be.size;clear l;go_upto_region 10 with(at_builtin;refine wH ahy _ rfl _ _ rfl W.heap.size (.slice pB nB cB) _ rfl P.j.lb ((pg+1+1)*4096,cd) _ _ rfl rfl rfl vh.j nh.j ?_;intro v' w7 a d k;obtain⟨pA,cA,f,_⟩:=a.form;obtain⟨j,g⟩:∃j,j=(S.eM++[((pg+1+1)*4096,cd)]).length:=⟨_,rfl⟩;rw[<-g] at f;clear g;subst f;obtain⟨b,i⟩:=P.j.ah2 a d;have Lg:=Y i;have f7:w7.frozen? (E pb 4)=false:=fX b _;have c7:=(cell_of_row _ _ 4 _ _ (0,0) b).trans rfl;clear a d k b i)
 obtain⟨w8,Q⟩:=Ze (w7.setCell (E pb 4) (.slice pA j cA))
 have H8:Hid (ia V W w8 pb vt (pg+1+1+1+1+1) {S with ob:=S.ob++[(4,pg,0)]++[(3,pg+1,0)]++[(2,pg+1+1,0)]++[(5,pg+1+1+1,64)]++[(6,pg+1+1+1+1,0)],eM:=S.eM++[((pg+1+1)*4096,cd)]}):=by
  rw[Q];exact⟨_,_,_,_,_,Lg.j⟩
 rw[<-Q];clear Q Lg P f7 c7 c4 IY vh nh;go_wp2_with fail;refine(Gr H8.j (pg+1+1+1) 61 4 pg 0 (by have:=c.j.c;show S.cp.length<=1000;omega)).m ?_;rintro e w9 ⟨rfl,H9⟩;clear H8;go_wp2_with fail;refine(Gr H9.j (pg+1+1+1) 62 3 (pg+1) 0 (by have:=c.j.c;simp only[List.length_append,List.length_cons,List.length_nil];omega)).m ?_;rintro e vx ⟨rfl,jH⟩;clear H9;go_wp2_with fail;refine(Gr jH.j (pg+1+1+1) 63 2 (pg+1+1) 0 (by have:=c.j.c;simp only[List.length_append,List.length_cons,List.length_nil];omega)).m ?_;rintro e aM ⟨rfl,m⟩;clear jH;go_wp2_with fail;refine(Gr m.j (pg+1+1+1+1) 0 5 (pg+1+1+1) 0 (by have:=c.j.c;simp only[List.length_append,List.length_cons,List.length_nil];omega)).m ?_;rintro e aP ⟨rfl,LC⟩;clear m;go_wp2_with fail;refine(Gr LC.j (pg+1+1+1+1) 1 4 pg 0 (by have:=c.j.c;simp only[List.length_append,List.length_cons,List.length_nil];omega)).m ?_;rintro e mC ⟨rfl,o⟩;clear LC;go_upto_region 15 with fail
 obtain⟨aR,aS,aT,R,aU,p⟩:=o.j;obtain⟨WY,q,YW,_⟩:=p.lm.form;obtain⟨XA,Z6⟩:∃n,n=(S.mp).length:=⟨_,rfl⟩
 have T:R=.slice WY XA q:=by rw[Z6];exact YW
 clear YW Z6 o;subst T;have U:=Y p;have r:=cell_of_row _ _ 6 _ _ (0,0) p.row;simp only[List.getElem?_toArray,List.getElem?_cons_zero,List.getElem?_cons_succ] at r;have s:Hid ((S.mp).length+1<=10000000):=by have:=c.j.m;show _<=_;omega
 have t:Hid (W.heap.size<=mC.heap.size):=p.be.size;clear p;go_upto_region 16 with(at_builtin;refine wH WK _ rfl _ _ rfl W.heap.size (.slice WY XA q) _ rfl U.j.lm (⟨(pg+1+1+1,62),pg,0,0⟩:Mp) _ _ rfl rfl rfl s.j t.j ?_;intro v' E9 a d k;obtain⟨X,aa,f,_⟩:=a.form;obtain⟨ab,g⟩:∃j,j=(S.mp++[(⟨(pg+1+1+1,62),pg,0,0⟩:Mp)]).length:=⟨_,rfl⟩;rw[<-g] at f;clear g;subst f;obtain⟨b,i⟩:=U.j.Wv a d;have u:=Y i;have f13:E9.frozen? (E pb 6)=false:=fX b _;have d13:=(cell_of_row _ _ 6 _ _ (0,0) b).trans rfl;clear a d k b i)
 obtain⟨LQ,Rr⟩:=Ze (E9.setCell (E pb 6) (.slice X ab aa))
 have v:Hid (ia V W LQ pb vt (pg+1+1+1+1+1) {S with ob:=S.ob++[(4,pg,0)]++[(3,pg+1,0)]++[(2,pg+1+1,0)]++[(5,pg+1+1+1,64)]++[(6,pg+1+1+1+1,0)],eM:=S.eM++[((pg+1+1)*4096,cd)],cp:=S.cp++[⟨(pg+1+1+1,61),jV 4 pg 0,(-1,0)⟩]++[⟨(pg+1+1+1,62),jV 3 (pg+1) 0,(-1,0)⟩]++[⟨(pg+1+1+1,63),jV 2 (pg+1+1) 0,(-1,0)⟩]++[⟨(pg+1+1+1+1,0),jV 5 (pg+1+1+1) 0,(-1,0)⟩]++[⟨(pg+1+1+1+1,1),jV 4 pg 0,(-1,0)⟩],mp:=S.mp++[(⟨(pg+1+1+1,62),pg,0,0⟩:Mp)]}):=by
  rw[Rr];exact⟨_,_,_,_,_,u.j⟩
 rw[<-Rr];clear Rr u U f13 d13 r s t;obtain⟨aV,aW,aX,ad,aZ,x⟩:=v.j;obtain⟨WX,y,YV,_⟩:=x.lm.form;obtain⟨Xz,Z5⟩:∃n,n=(S.mp++[(⟨(pg+1+1+1,62),pg,0,0⟩:Mp)]).length:=⟨_,rfl⟩
 have ae:ad=.slice WX Xz y:=by rw[Z5];exact YV
 clear YV Z5 v;subst ae;have Ur:=Y x;have z:=cell_of_row _ _ 6 _ _ (0,0) x.row;simp only[List.getElem?_toArray,List.getElem?_cons_zero,List.getElem?_cons_succ] at z;have A:Hid ((S.mp++[(⟨(pg+1+1+1,62),pg,0,0⟩:Mp)]).length+1<=10000000):=by have:=c.j.m;show _<=_;simp only[List.length_append,List.length_cons,List.length_nil];omega
 have B:Hid (W.heap.size<=LQ.heap.size):=x.be.size;clear x;go_upto_region 17 with(at_builtin;refine wH WK _ rfl _ _ rfl W.heap.size (.slice WX Xz y) _ rfl Ur.j.lm (⟨(pg+1+1+1,63),pg,4096,5⟩:Mp) _ _ rfl rfl rfl A.j B.j ?_;intro v' zG a d k;obtain⟨ag,ah,f,_⟩:=a.form;obtain⟨al,g⟩:∃j,j=(S.mp++[(⟨(pg+1+1+1,62),pg,0,0⟩:Mp)]++[(⟨(pg+1+1+1,63),pg,4096,5⟩:Mp)]).length:=⟨_,rfl⟩;rw[<-g] at f;clear g;subst f;obtain⟨b,i⟩:=Ur.j.Wv a d;have C:=Y i;have f15:zG.frozen? (E pb 6)=false:=fX b _;have d15:=(cell_of_row _ _ 6 _ _ (0,0) b).trans rfl;clear a d k b i)
 obtain⟨UZ,Rq⟩:=Ze (zG.setCell (E pb 6) (.slice ag al ah))
 have D:Hid (ia V W UZ pb vt (pg+1+1+1+1+1) {S with ob:=S.ob++[(4,pg,0)]++[(3,pg+1,0)]++[(2,pg+1+1,0)]++[(5,pg+1+1+1,64)]++[(6,pg+1+1+1+1,0)],eM:=S.eM++[((pg+1+1)*4096,cd)],cp:=S.cp++[⟨(pg+1+1+1,61),jV 4 pg 0,(-1,0)⟩]++[⟨(pg+1+1+1,62),jV 3 (pg+1) 0,(-1,0)⟩]++[⟨(pg+1+1+1,63),jV 2 (pg+1+1) 0,(-1,0)⟩]++[⟨(pg+1+1+1+1,0),jV 5 (pg+1+1+1) 0,(-1,0)⟩]++[⟨(pg+1+1+1+1,1),jV 4 pg 0,(-1,0)⟩],mp:=S.mp++[(⟨(pg+1+1+1,62),pg,0,0⟩:Mp)]++[(⟨(pg+1+1+1,63),pg,4096,5⟩:Mp)]}):=by
  rw[Rq];exact⟨_,_,_,_,_,C.j⟩
 rw[<-Rq];clear Rq C Ur f15 d15 z A B;obtain⟨an,ao,av,ay,az,F⟩:=D.j;obtain⟨WW,G,YU,_⟩:=F.lr.form;obtain⟨Xy,ZZ⟩:∃n,n=S.th.length:=⟨_,rfl⟩
 have aA:az=.slice WW Xy G:=by rw[ZZ];exact YU
 clear YU ZZ D;subst aA;have K:=Y F;have aE:=cell_of_row _ _ 7 _ _ (0,0) F.row;simp only[List.getElem?_toArray,List.getElem?_cons_zero,List.getElem?_cons_succ] at aE;have aG:Hid (S.th.length+1<=10000000):=by have:=c.j.h;show _<=_;omega
 have aH:Hid (W.heap.size<=UZ.heap.size):=F.be.size;clear F;go_wp2_with (at_builtin;refine wH ahv _ rfl _ _ rfl W.heap.size (.slice WW Xy G) _ rfl K.j.lr (⟨pg+1+1+1+1,cy,prio,true,λ_=>0,4096⟩:Tc) _ _ rfl rfl rfl aG.j aH.j ?_;intro v' aJ a d k;obtain⟨a1,a6,f,_⟩:=a.form;obtain⟨a7,g⟩:∃j,j=(S.th++[(⟨pg+1+1+1+1,cy,prio,true,λ_=>0,4096⟩:Tc)]).length:=⟨_,rfl⟩;rw[<-g] at f;clear g;subst f;obtain⟨b,i⟩:=K.j.agV a d;have aK:=Y i;have f17:aJ.frozen? (E pb 7)=false:=fX b _;have d17:=(cell_of_row _ _ 7 _ _ (0,0) b).trans rfl;clear a d k b i);go_ret;have e1:pg+1+1=pg+2:=Z;have e2:pg+2+1=pg+3:=Z;have e3:pg+3+1=pg+4:=Z;have e4:pg+4+1=pg+5:=Z;have HF:=aK.j;rw[e1,e2,e3,e4] at HF;simp only[List.append_assoc,List.cons_append,List.nil_append] at HF;refine⟨by rw[<-e2,<-e1];rfl,?_⟩;exact⟨an,ao,av,ay,_,HF⟩
end
theorem aft(b:j0 P)(d:EF P pr)(c:O3 P cd):TS (pj (toQ P cd pr)):=by
 have e:=b.k;refine⟨?_,by show 4094<4294967296;decide,by show 3<=10000000000000;decide,λx a=>?_,λx a=>?_,λx a=>?_,λx a=>?_,λx a=>?_,λx a=>by cases a⟩
 ·show af (6+5*(P.k:Int));unfold af;omega
 ·rcases List.mem_cons.1 a with rfl|a
  ·unfold af;decide
  obtain⟨i,hi,a⟩:=yx.1 a;have hi:i<P.k+1:=hi;unfold FC at a;simp only[List.mem_cons,List.not_mem_nil,or_false] at a;unfold af;rcases a with rfl|rfl|rfl|rfl|rfl<;>dsimp only<;>omega
 ·obtain⟨i,hi,a⟩:=yx.1 a;have hi:i<P.k+1:=hi;rw[List.mem_singleton] at a;rw[a];have:=c.le i;refine⟨?_,?_⟩
  ·unfold af;dsimp only;omega
  show(cd i).length<=_;omega
 ·obtain⟨i,hi,a⟩:=yx.1 a;have hi:i<P.k+1:=hi;unfold J2 at a;simp only[List.mem_cons,List.not_mem_nil,or_false] at a;unfold af ot;rcases a with rfl|rfl|rfl|rfl|rfl|rfl<;>dsimp only<;>omega
 ·obtain⟨i,hi,a⟩:=yx.1 a;have hi:i<P.k+1:=hi;unfold zV at a;simp only[List.mem_cons,List.not_mem_nil,or_false] at a;unfold af;rcases a with rfl|rfl<;>dsimp only<;>omega
 obtain⟨i,hi,a⟩:=yx.1 a;have hi:i<P.k+1:=hi;rw[List.mem_singleton] at a;rw[a];refine⟨⟨λj=>?_,?_⟩,?_⟩
 ·show(0:Int)<=0/\(0:Int)<4294967296;decide
 ·show(0:Int)<=4096/\(4096:Int)<4294967296;decide
 show af (5*(i:Int)+5);unfold af;omega
section
variable {m:Nat}
theorem aiP(b:j0 P)(a:EF P pr)(c:O3 P cd)(h:kV w){d:Z3}(i:TR w vt vo vb vc vm vr d (pj (toQ P cd pr))):Zk 11 #[.agg #[O (6+5*(P.k:Int)),vt,J 4094,vo,vb,vc,vm,vr,d]] w λe w'=>∃kb mb sb pb qb bb tb D ks G K0,Zr e (.tuple #[M kb,O 0,O 0])/\Zq w w'/\Env P K0/\tN P K0 (λk=>k<w.heap.size/\k≠1) w' kb mb sb pb qb bb tb D ks G 12000 w':=by
 obtain⟨g,hg,j,l⟩:=aoP (P:=toQ P cd pr) b.dm a.p a.k b.k c.le a.a a.b a.c;refine(akv h (pj (toQ P cd pr)) (aft b a c) rfl i).m ?_;rintro e w' ⟨m,⟨h1,_⟩|⟨_,_,kb,mb,sb,pb,qb,bb,tb,rfl,_,f⟩⟩
 ·exact absurd (by rw[j]) h1
 rw[l] at f;obtain⟨D,ks,G,hk⟩:=f.g;exact⟨kb,mb,sb,pb,qb,bb,tb,D,ks,G,_,rfl,m,anG b a c hg,tN.start b hk (H.refl _ _) (akq b a)⟩
end
section
variable {st:Nat->Int}{m:Sm}{c:Nat}
structure ac7(P:Pm)(ls:List Tl):Prop where
 len:ls.length=P.k+1
 s:ls[0].st=4/\ls[0].at'=0
 c:∀c,(h:c<P.k)->ls[c+1].num=aD (c+1)/\ls[c+1].st=0/\ls[c+1].rg 20=((sy (P.Q c) (P.Q c).m:Nat):Int)/\ls[c+1].rg 14=((100+c:Nat):Int)
end
section
variable {K:Kn}{j W:Nat->Nat}{st:Nat->Int}{q:List Nat}{m:Sm}{c p:Nat}
theorem KI.anJ(h:KI P K0 K j st q (.dD W p))(g:j0 P)(k:∀c,c<P.k->st (c+1)=0):ac7 P (K.T.map (qw K))/\(K.T.map (·.num)).Pairwise (·<·)/\∀t∈K.T,t.dV= -1/\t.dD= -1:=by
 have l:(K.T.map (qw K)).length=P.k+1:=by rw[List.length_map];exact h.len
 have hi:∀i,i<=P.k->∃hi:i<K.T.length,K.T[i]=aw K i:=λi hi=>⟨by rw[h.len];omega,(dQ _).symm⟩
 refine⟨⟨l,?_,λc d=>?_⟩,?_,λt ht=>?_⟩
 ·obtain⟨m,e⟩:=hi 0 Z;obtain⟨gr,es⟩:=h.sv;have hs:st 0=4:=h.s0;rw[List.getElem_map,e,es,hs];refine⟨rfl,?_⟩;show yu K.b (aD 0)=0;rw[h.ws];rfl
 ·obtain⟨m,e⟩:=hi (c+1) Z;obtain⟨f,gr,es⟩:=h.cl c d;rw[k c d] at f es;have n:=f.le rfl;obtain⟨r1,r2⟩:=apY (P.Q c) (g.Q c);rw[List.getElem_map,e,es,n];refine⟨rfl,rfl,?_,?_⟩
  ·show((RC (P.Q c) (17*(P.Q c).m) 20:Nat):Int)=_;rw[r2]
  show((RC (P.Q c) (17*(P.Q c).m) 14:Nat):Int)=_;rw[r1,g.bd c d]
 ·rw[List.pairwise_iff_getElem];intro a b ha hb o;rw[List.length_map] at ha hb;rw[List.getElem_map,List.getElem_map,<-dQ ha,<-dQ hb,(h.num (by rw[h.len] at ha;omega)).1,(h.num (by rw[h.len] at hb;omega)).1];unfold aD;omega
 obtain⟨i,hi,rfl⟩:=List.getElem_of_mem ht;rw[<-dQ hi]
 cases i with
 |zero=>
  obtain⟨gr,es⟩:=h.sv;rw[es]
  exact⟨rfl,rfl⟩
 |succ c=>
  have d:c<P.k:=by rw[h.len] at hi;omega
  obtain⟨f,gr,es⟩:=h.cl c d;rw[es,k c d];exact⟨rfl,rfl⟩
end
section
variable {K:Kn}{j W:Nat->Nat}{st:Nat->Int}{q:List Nat}{m:Sm}{p:Nat}
theorem aec(a:j0 P)(h:tN P K0 U w0 kb mb sb pb qb bb tb D ks G 0 w):Zk 13 #[M kb] w λe w'=>∃v ls,Zr e v/\ax ox w' w.heap.size 68 v ls/\ac7 P ls/\Zq w w':=by
 obtain⟨K,j,st,q,W,p,hk,i,hi,b⟩:=h.done;obtain⟨h1,c,d⟩:=hi.anJ a b;refine(ald hk c d (by rw[hi.len];have:=a.k;omega)).m ?_;rintro e w' ⟨v,rfl,f,g⟩;exact⟨v,_,rfl,f,h1,g⟩
end
theorem gv2(n b:Int):jV 2 n b=⟨2,n,7,b,0,0,0,0⟩:=rfl
theorem gv3(n b:Int):jV 3 n b=⟨3,n,7,b,0,0,0,0⟩:=rfl
theorem gv4(n b:Int):jV 4 n b=⟨4,n,7,b,0,0,0,0⟩:=rfl
theorem gv5(n b:Int):jV 5 n b=⟨5,n,7,b,0,26,0,0⟩:=rfl
theorem gv7(n b:Int):jV 7 n b=⟨7,n,7,b,0,0,0,0⟩:=rfl
def sF(P:Pq)(i:Nat):Sk:=⟨0,[],0,(7,0,0)::cH FC i,cH (λi=>[(4096*(5*(i:Int)+3),P.cd i)]) i,cH J2 i,cH zV i,cH (λi=>[qg P i]) i,[]⟩
theorem afm(P:Pq)(i:Nat):{Fp (sF P i) (5*(i:Int)+1) (P.cd i) (P.dm i) (P.pr i) with cp:=(Fp (sF P i) (5*(i:Int)+1) (P.cd i) (P.dm i) (P.pr i)).cp++[⟨(5*(i:Int)+1+3,0),jV 7 0 (Cy i),(-1,0)⟩]}=sF P (i+1):=by
 have e1:5*(i:Int)+1+1=5*i+2:=Z;have a:5*(i:Int)+1+2=5*i+3:=Z;have b:5*(i:Int)+1+3=5*i+4:=Z;have c:5*(i:Int)+1+4=5*i+5:=Z;have d:(5*(i:Int)+3)*4096=4096*(5*i+3):=Z;simp only[Fp,sF,cH,FC,J2,zV,qg,e1,a,b,c,d,gv2,gv3,gv4,gv5,gv7,List.append_assoc,List.cons_append,List.nil_append]
theorem Fo(f:Nat->List α)(m:Nat)(h:∀i,(f i).length=m):∀n,(cH f n).length=m*n
 |0=>rfl
 |n+1=>by
  show(cH f n++f n).length=_;rw[List.length_append,Fo f m h n,h,Nat.mul_add,Nat.mul_one]
theorem VL(P:Pq)(i:Nat)(hi:i<=5):Few (sF P i) 900:=by
 refine⟨?_,?_,?_,?_,?_⟩
 ·show((7,0,0)::cH FC i).length<=900;rw[List.length_cons,Fo FC 5 (λ_=>rfl)];omega
 ·show(cH _ i).length<=900;rw[Fo _ 1 (λ_=>rfl)];omega
 ·show(cH _ i).length<=900;rw[Fo J2 6 (λ_=>rfl)];omega
 ·show(cH _ i).length<=900;rw[Fo zV 2 (λ_=>rfl)];omega
 show(cH _ i).length<=900;rw[Fo _ 1 (λ_=>rfl)];omega
theorem FA{L:Lay α}{base:Nat}{xs:List α}(h:ax L w base e v xs):jZ L w v xs:=by
 obtain⟨p,c,hv,h1,a,b⟩:=h.form;refine⟨p,c,hv,⟨h1,a⟩,λk hk=>?_⟩;obtain⟨g,rfl,_,hg,_⟩:=b Z;subst hv;exact⟨g,0,rfl,hg,λj d=>by rw[Nat.zero_add];exact h.cell k j hk d⟩
section
variable {W:Z0}
theorem eR.spec{P:Pq}{k:Nat}(h:eR V W w pb vt vo vb vc vm vr pg {sF P (P.k+1) with ts:=kI P.a P.b P.c,n:=6+5*(P.k:Int),c:=4094}):TR w vt vo vb vc vm vr (.slice none 0 0) (pj P):=
 ⟨FA h.lt,FA h.lo,FA h.lb,FA h.lc,FA h.lm,FA h.lr,⟨none,0,rfl,⟨Nat.le_refl _,Nat.zero_le _⟩,λk hk=>by cases hk⟩⟩
end
theorem ax.Ob{L:Lay α}{base:Nat}{xs:List α}(h:ax L w base e v xs)(hk:Kp w w2)(he:e=3\/e=27):ax L w2 base e v xs:=
 ⟨h.1,h.2.imp id (λ⟨g,cap,cur,a,b,c,d⟩=>⟨g,cap,cur,a,b,hk g _ _ c he,d⟩)⟩
theorem Kp.refl(w:Z0):Kp w w:=λ_ _ _ h _=>h
section
variable {W:Z0}
theorem ia.base(h:ia V W w pb vt pg S):ia w W w pb vt pg S:=by
 obtain⟨vo,vb,vc,vm,vr,h⟩:=h;exact⟨vo,vb,vc,vm,vr,h.be,Kp.refl w,h.row,h.hb,h.lt,h.lo,h.lb,h.lc,h.lm,h.lr⟩
theorem ia.kp(h:ia V W w pb vt pg S):Kp V w:=by
 obtain⟨vo,vb,vc,vm,vr,h⟩:=h;exact h.kp
theorem ia.be(h:ia V W w pb vt pg S):Below W.heap.size W w:=by
 obtain⟨vo,vb,vc,vm,vr,h⟩:=h;exact h.be
end
def Pj:Lay Int:=⟨λx=>[J x],1,λ_=>rfl,λa u hu=>by simp only[List.mem_cons,List.not_mem_nil,or_false] at hu;subst hu;rfl,I⟩
theorem unK:Kind prog Pj 39 27:=sY (z:=J 0) (b:=4) underlying39 Zx rfl I
theorem alJ:Kind prog kN 24 3:=sY (z:=O 0) (b:=8) underlying24 Zx rfl I
def Fv:Lay (Nat×Nat):=⟨λx=>[J (x.1:Int),J (x.2:Int)],2,λ_=>rfl,λa u hu=>by simp only[List.mem_cons,List.not_mem_nil,or_false] at hu;rcases hu with rfl|rfl<;>rfl,I⟩
def AO(w:Z0)(v:Z3)(xs:List (List (Nat×Nat))):Prop:=∃ss:List Sh,jZ Md w v ss/\ss.length=xs.length/\∀i (h:i<ss.length) (h':i<xs.length),jZ Fv w (Ia ss[i]) xs[i]
theorem AO.keep(h:AO w v xs)(a:Zq w w2):AO w2 v xs:=by
 obtain⟨ss,h1,b,c⟩:=h;exact⟨ss,h1.keep a,b,λi h d=>(c i h d).keep a⟩
def qF(xs:List (List (Nat×Nat)))(i:Nat):Qn:=if (xs.getD i []).length=0 then ⟨1,λ_=>5,λ_=>7,100+i % 4⟩ else ⟨min (xs.getD i []).length 3,λj=>((xs.getD i []).getD j (0,0)).1,λj=>((xs.getD i []).getD j (0,0)).2,100+i % 4⟩
def kF(xs:List (List (Nat×Nat))):Nat:=if xs.length=0 then 1 else min xs.length 4
def Ql(xs:List (List (Nat×Nat)))(ps:List Int)(a b c:Int):Pm:=⟨kF xs,qF xs,λi=>(ma ps (2*i) % 3).toNat,1+iR a 9,1+iR b 9,1+iR c 9⟩
theorem Ip(c n:Int)(hn:0<n):0<=iR c n/\iR c n<n:=by
 unfold iR
 split
 ·exact⟨Int.emod_nonneg _ Z,Int.emod_lt_of_pos _ hn⟩
 exact⟨Int.emod_nonneg _ Z,Int.emod_lt_of_pos _ hn⟩
theorem Io(ps:List Int)(i:Nat):0<=ma ps i/\ma ps i<=7:=by
 unfold ma
 split
 ·have:=Ip (ps[i]) 8 I;omega
 omega
def GM(xs:List (List (Nat×Nat))):Prop:=∀l∈xs,∀x∈l,x.1<4294967296/\x.2<4294967296
theorem aaB(h:∀x∈l,x.1<4294967296/\x.2<4294967296)(j:Nat):(l.getD j (0,0)).1<4294967296/\(l.getD j (0,0)).2<4294967296:=by
 rw[List.getD_eq_getElem?_getD];by_cases a:j<l.length
 ·rw[List.getElem?_eq_getElem a];exact h _ (List.getElem_mem a)
 rw[List.getElem?_eq_none Z];exact⟨I,I⟩
theorem aaC(h:GM xs)(i:Nat):∀x∈xs.getD i [],x.1<4294967296/\x.2<4294967296:=by
 rw[List.getD_eq_getElem?_getD];by_cases a:i<xs.length
 ·rw[List.getElem?_eq_getElem a];exact h _ (List.getElem_mem a)
 rw[List.getElem?_eq_none Z];intro x b;cases b
theorem agQ(h:GM xs)(i:Nat):uY (qF xs i):=by
 unfold qF
 split
 ·exact⟨⟨by show 1<=1;decide,by show 1<=3;decide⟩,λ_=>by show 5<_;decide,λ_=>by show 7<_;decide,by show 100+i % 4<_;omega⟩
 refine⟨⟨?_,?_⟩,λq=>(aaB (aaC h i) q).1,λq=>(aaB (aaC h i) q).2,?_⟩
 ·show 1<=min _ 3;omega
 ·show min _ 3<=3;omega
 show 100+i % 4<_;omega
theorem agR(xs:List (List (Nat×Nat)))(i:Nat)(hi:i<4):(qF xs i).bd=100+i:=by
 unfold qF
 split
 ·show 100+i % 4=_;omega
 show 100+i % 4=_;omega
theorem ale(xs:List (List (Nat×Nat))):1<=kF xs/\kF xs<=4:=by
 unfold kF
 split
 ·omega
 omega
theorem ahk(h:GM xs)(ps:List Int)(a b c:Int):j0 (Ql xs ps a b c)/\EF (Ql xs ps a b c) (λi=>ma ps (2*i+1)):=by
 have h1:=ale xs;have ha:=Ip a 9 I;have hb:=Ip b 9 I;have d:=Ip c 9 I;refine⟨⟨λc=>agQ h c,λc d=>agR xs c ?_,λi=>?_,h1.2⟩,⟨h1.1,λi=>Io ps _,?_,?_,?_⟩⟩
 ·have:c<kF xs:=d;omega
 ·have:=Io ps (2*i);show(ma ps (2*i) % 3).toNat<3;omega
 ·show 1<=1+iR a 9/\1+iR a 9<=9;omega
 ·show 1<=1+iR b 9/\1+iR b 9<=9;omega
 show 1<=1+iR c 9/\1+iR c 9<=9;omega
section
variable {c:Int}
theorem Kg.keep(h:Kg w q ps)(a:Zq w w2):Kg w2 q ps:=by
 obtain⟨p,c,h1,e⟩:=h;refine⟨p,c,(a.cell (p:=q) (World.block_lt_of_cell? w _ h1) id).trans h1,λf=>?_⟩;obtain⟨g,o,i,b⟩:=e f;exact⟨g,o,i,λj d=>(a.cell (p:=E g (o+j)) (World.block_lt_of_cell? w _ (b j d)) id).trans (b j d)⟩
structure EH(w:Z0)(tb qb:Nat)(mx:Int)(vl:Z3)(xs:List (List (Nat×Nat)))(ps:List Int)(a b c:Int):Prop where
 ns:kV w
 fo:dX w
 us:rY w
 mi:tO w
 mx:kC mx w
 gl:0<w.heap.size
 q:AO w vl xs
 p:Kg w (E qb 0) ps
 t:w.heap[tb]?=some (.cells #[O a,O b,O c] 23 (0,0))
theorem EH.keep(h:EH w tb qb mx vl xs ps a b c)(d:Zq w w2):EH w2 tb qb mx vl xs ps a b c:=
 ⟨h.ns.quiet d,h.fo.only d id,h.us.only d id,h.mi.only d id,(d.cell (p:=E 0 0) h.gl id).trans h.mx,Nat.lt_of_lt_of_le h.gl d.size,h.q.keep d,h.p.keep d,H.keep d h.t id⟩
theorem alc(k:kV w)(l:dX w)(m:rY w)(n:tO w)(q:kC mx w)(f:0<w.heap.size)(r:AO w vl xs)(hp:jZ kN w vp ps):
  EH ((w.alloc (.cells #[O a,O b,O c] 23)).alloc (.cells #[vp] 24)) w.heap.size (w.heap.size+1) mx vl xs ps a b c:=by
 have h1:Zq w (w.alloc (.cells #[O a,O b,O c] 23)):=(H.refl _ w).alloc _;have h:Zq (w.alloc (.cells #[O a,O b,O c] 23)) ((w.alloc (.cells #[O a,O b,O c] 23)).alloc (.cells #[vp] 24)):=(H.refl _ _).alloc _;have d:=h1.trans h
 have s:((w.alloc (.cells #[O a,O b,O c] 23)).alloc (.cells #[vp] 24)).heap[w.heap.size+1]?=some (.cells #[vp] 24 (0,0)):=by
  have:=heap_alloc_last (w.alloc (.cells #[O a,O b,O c] 23)) (.cells #[vp] 24);simpa using this
 refine⟨k.quiet d,l.only d id,m.only d id,n.only d id,(d.cell (p:=E 0 0) f id).trans q,Nat.lt_of_lt_of_le f d.size,r.keep d,?_,H.keep h (heap_alloc_last w _) id⟩;obtain⟨p,c,rfl,y,i⟩:=hp.keep d;refine⟨p,c,Zl s,λt=>?_⟩;obtain⟨g,o,rfl,_,_⟩:=i 0 t;refine⟨g,o,rfl,λj u=>?_⟩;obtain⟨g2,z,e,_,v⟩:=i j u;injection e with e
 injection e with e1 x
 subst e1 x;have:=v 0 I;rw[show o+j*kN.sz+0=o+j by show o+j*1+0=_;omega] at this;exact this.trans rfl
theorem AO.at(h:AO w (.slice pl n cl) xs):n=xs.length/\n<=maxLen/\∀i,i<n->∃g o pi a ci,pl=some (E g o)/\w.cell? (E g (o+i))=some (.slice pi a ci)/\a=(xs.getD i []).length/\a<=maxLen/\(0<a->∃gi b,pi=some (E gi b)/\∀j,j<a->w.cell? (E gi (b+j*2))=some (J (((xs.getD i []).getD j (0,0)).1:Nat))/\w.cell? (E gi (b+j*2+1))=some (J (((xs.getD i []).getD j (0,0)).2:Nat))):=by
 obtain⟨ss,⟨p,c,e,⟨h1,K⟩,u⟩,v,x⟩:=h;injection e with e1 y N
 refine⟨by rw[y];exact v,Z,λi hi=>?_⟩;have k:i<ss.length:=Z;have l:i<xs.length:=Z;obtain⟨g,o,hp,hg,z⟩:=u i k;have A:=z 0 I;obtain⟨B,c2,C,⟨P,Q⟩,m⟩:=x i k l;have q:xs.getD i []=xs[i]:=by rw[List.getD_eq_getElem?_getD,List.getElem?_eq_getElem l];rfl
 refine⟨g,o,B,xs[i].length,c2,by rw[e1,hp],?_,by rw[q],Z,λD=>?_⟩
 ·rw[<-C,show o+i=o+i*Md.sz+0 by show _=o+i*1+0;omega];exact A.trans rfl
 obtain⟨gi,b,r,_,_⟩:=m 0 D;refine⟨gi,b,r,λj s=>?_⟩;obtain⟨g2,R,d,_,t⟩:=m j s;rw[r] at d;injection d with d
 injection d with F G
 subst F G;have f:xs[i].getD j (0,0)=xs[i][j]:=by rw[List.getD_eq_getElem?_getD,List.getElem?_eq_getElem s];rfl
 rw[q,f];exact⟨(t 0 I).trans rfl,(t 1 I).trans rfl⟩
theorem ahj(h:GM xs)(ps:List Int)(a b c:Int):∃(P:Pm) (pr:Nat->Int),Hid (j0 P)/\Hid (EF P pr)/\Hid (∀i,P.Q i=qF xs i)/\Hid (P.k=kF xs)/\Hid (∀i,(P.dm i:Int)=ma ps (2*i) % 3)/\Hid (∀i,pr i=ma ps (2*i+1))/\Hid (P.a=1+iR a 9/\P.b=1+iR b 9/\P.c=1+iR c 9):=by
 obtain⟨h1,d⟩:=ahk h ps a b c;refine⟨Ql xs ps a b c,_,h1,d,λ_=>rfl,rfl,λi=>?_,λ_=>rfl,rfl,rfl,rfl⟩;have:=Io ps (2*i);show(((ma ps (2*i) % 3).toNat:Nat):Int)=_;omega
def zh(j:Nat):List Int:=(List.range j).map (λc=>aD (c+1))
def yr(P:Pm)(j:Nat):List Int:=(List.range j).map (λc=>((sy (P.Q c) (P.Q c).m:Nat):Int))
end
theorem aom(j:Nat):zh (j+1)=zh j++[aD (j+1)]:=by unfold zh;rw[List.range_succ,List.map_append];rfl
theorem adh(P:Pm)(j:Nat):yr P (j+1)=yr P j++[((sy (P.Q j) (P.Q j).m:Nat):Int)]:=by unfold yr;rw[List.range_succ,List.map_append];rfl
theorem N6(j:Nat):(zh j).length=j:=by unfold zh;simp
theorem LO(P:Pm)(j:Nat):(yr P j).length=j:=by unfold yr;simp
section
variable {W:Z0}
theorem ia.pass{L:Lay α}(h:ia V W w pb vt pg S)(ht:t=3\/t=27)(hv:ax L w W.heap.size t v zs)(d:H (λk=>v.ownBlock=some k) w w2):ia w2 W w2 pb vt pg S:=by
 obtain⟨vo,vb,vc,vm,vr,h⟩:=h;have n0:37≠t:=by rcases ht with rfl|rfl<;>decide
 have n1:52≠t:=by rcases ht with rfl|rfl<;>decide
 have n2:73≠t:=by rcases ht with rfl|rfl<;>decide
 have n3:77≠t:=by rcases ht with rfl|rfl<;>decide
 have n4:86≠t:=by rcases ht with rfl|rfl<;>decide
 have n5:79≠t:=by rcases ht with rfl|rfl<;>decide
 have n6:81≠t:=by rcases ht with rfl|rfl<;>decide
 refine⟨vo,vb,vc,vm,vr,h.be.trans (d.below h.be.size (λk hk a=>by have:=(iu hv a).1;omega)),Kp.refl w2,H.keep d h.row (λa=>by obtain⟨cur,b⟩:=cW hv a;exact ef h.row b n0 rfl),h.hb,h.lt.kept d (λk hk a=>by obtain⟨c1,b⟩:=cW h.lt hk;obtain⟨c2,c⟩:=cW hv a;exact ef b c n1 rfl),h.lo.kept d (λk hk a=>by obtain⟨c1,b⟩:=cW h.lo hk;obtain⟨c2,c⟩:=cW hv a;exact ef b c n2 rfl),h.lb.kept d (λk hk a=>by obtain⟨c1,b⟩:=cW h.lb hk;obtain⟨c2,c⟩:=cW hv a;exact ef b c n3 rfl),h.lc.kept d (λk hk a=>by obtain⟨c1,b⟩:=cW h.lc hk;obtain⟨c2,c⟩:=cW hv a;exact ef b c n4 rfl),h.lm.kept d (λk hk a=>by obtain⟨c1,b⟩:=cW h.lm hk;obtain⟨c2,c⟩:=cW hv a;exact ef b c n5 rfl),h.lr.kept d (λk hk a=>by obtain⟨c1,b⟩:=cW h.lr hk;obtain⟨c2,c⟩:=cW hv a;exact ef b c n6 rfl)⟩
end
section
variable {c:Int}
def Fa(a b c:Int)(m:Nat):Int:=if m=0 then a else if m=1 then b else c
theorem EH.tc(h:EH w tb qb mx vl xs ps a b c)(m:Nat)(hm:m<3):w.cell? (E tb m)=some (O (Fa a b c m)):=by
 rw[cell_of_row _ _ m _ _ (0,0) h.t];rcases(by omega:m=0\/m=1\/m=2) with rfl|rfl|rfl<;>rfl
theorem adY(ha:af a)(hb:af b)(d:af c)(m:Nat):af (Fa a b c m):=by
 unfold Fa
 split
 ·exact ha
 split
 ·exact hb
 exact d
def sD(a b c:Int)(m:Nat):Lp:=(List.range m).map (λ(i:Nat)=>((i:Int),1+iR (Fa a b c i) 9))
theorem adI(m:Nat):sD a b c (m+1)=sD a b c m++[((m:Int),1+iR (Fa a b c m) 9)]:=by unfold sD;rw[List.range_succ,List.map_append];rfl
theorem adJ(m:Nat):(sD a b c m).length=m:=by unfold sD;simp
end
section
variable {W:Z0}
theorem amN(h:eR V W w pb vt vo vb vc vm vr pg S)(a:H (λk=>vt.ownBlock=some k) w w2):Below W.heap.size W w2:=h.be.trans (a.below h.be.size (λk hk b=>by have:=(iu h.lt b).1;omega))
end
theorem tN.j{a b c:Nat}(h:tN P K0 U w0 kb mb sb a b bb c D ks G B w):kV w/\Zn U w0 w:=by
 obtain⟨K,j,st,q,m,hk,d,_⟩:=h;exact⟨hk.x.ns,d⟩
theorem adZ(a:Zq w0 w1)(b:H (λk=>¬(k<w0.heap.size/\k≠1)) w1 w9)(n0:kV w0)(n9:kV w9):Zq w0 w9:=
 ⟨b.os.trans a.os,b.tape.trans a.tape,b.output.trans a.output,Nat.le_trans a.size b.size,λk hk _=>by
  by_cases e:k=1
  ·subst e;exact Eq.trans n9 (Eq.symm n0)
  rw[b.block k (Nat.lt_of_lt_of_le hk a.size) (λh=>h ⟨hk,e⟩),a.block k hk id]⟩
theorem aei{b:Nat}(h:w.heap[b]?=some (.cells cs.toArray T (0,0)))(hn:n=cs.length):w.there b 0 n:=λj a=>by
 refine⟨?_,fX h _⟩;rw[Nat.zero_add,cell_of_row _ _ j _ _ (0,0) h,List.getElem?_toArray,List.getElem?_eq_getElem (hn▸a)];rfl
section
variable {c:Int}
theorem ad4(x:Operand)(d:Nat)(b:o.op=.load 68 x)(e:o.dst=some d){g off:Nat}{u:Tl}(f:act.eval x=.pointer (some (E g off)))(hr:w.rangeAt g off (fT u))(h:K (act.put (some d) (.agg (fT u).toArray)) w):Oper.wp prog o act w K Q:=by
 have a:=run_loadAt_mid (P:=prog) w g off 68 (fT u) _ hr underlying68 rfl (by rw[Ra];exact congrArg some (ox.len u).symm);generalize (fT u).toArray=c at a h;unfold Oper.wp;simp only[execOp,b,f];simp[a,Result.andThen];rw[Oper.upon_value,e];exact h
end
section
variable {W:Z0}
theorem Wc{P:Pq}(h:ia V W w pb vt (5*(i:Int)+1) (sF P i))(hi:i<=4)(code:ByteArray)(a:(P.cd i).length<=4096)(c:∀wv,Zq W wv->Zk 14 #[.string code] wv λe w'=>Zr e (.tuple #[.string ⟨(P.cd i).toArray⟩,O 0,O 0])/\Zq wv w')(dm pr b:Int)(d:dm=P.dm i)(hp:pr=P.pr i)(hb:b=5*(i:Int)+4):
  Zk 7 #[M pb,.string code,O dm,O pr] w λe w'=>Zr e (O b)/\Hid (ia V W w' pb vt (5*((i+1:Nat):Int)+1) (Fp (sF P i) (5*(i:Int)+1) (P.cd i) (P.dm i) (P.pr i))):=by
 subst d hp;have hw:=zR h.be;refine(afP h Z (VL P i Z) code (P.cd i) a (λwv f=>c wv (hw.trans f)) (P.dm i) (P.pr i)).m ?_;rintro e w' ⟨rfl,h1⟩;refine⟨by rw[hb,show 5*(i:Int)+1+3=5*(i:Int)+4 from Z],?_⟩;have:=h1.j;rw[show 5*(i:Int)+1+5=5*((i+1:Nat):Int)+1 from Z] at this;exact this
end
section
variable {W:Z0}{c:Int}
theorem aav{P:Pq}(h:ia V W w pb vt (5*((i+1:Nat):Int)+1) (Fp (sF P i) (5*(i:Int)+1) (P.cd i) (P.dm i) (P.pr i)))(hi:i<=4)(a b:Int)(hb:a=5*(i:Int)+4)(hg:b=Cy i):
  Zk 9 #[M pb,.agg #[O a,O 0],O 7,O 0,J b] w λe w'=>Zr e (.tuple #[])/\Hid (ia V W w' pb vt (5*((i+1:Nat):Int)+1) (sF P (i+1))):=by
 have hf:=(VL P i Z).c;refine(Gr h a 0 7 0 b (by show(_++_:List En).length<=1000;rw[List.length_append];show _+5<=1000;omega)).m ?_;rintro e w' ⟨rfl,h1⟩;refine⟨rfl,?_⟩;have:=h1.j;rw[hb,hg,show 5*(i:Int)+4=5*(i:Int)+1+3 from Z,afm] at this;exact this
end
section
variable {W:Z0}
theorem ahn(W:Z0):ia W W (W.alloc (.cells #[O 0,.slice none 0 0,J 0,.slice none 0 0,.slice none 0 0,.slice none 0 0,.slice none 0 0,.slice none 0 0,.slice none 0 0,O 0,.bool false] 37)) W.heap.size (.slice none 0 0) 0 ⟨0,[],0,[],[],[],[],[],[]⟩:=
 ⟨_,_,_,_,_,((H.refl (λ_=>False) W).alloc _).below (Nat.le_refl _) (λ_ _ h=>h),λk cur t hk _=>H.keep ((H.refl (λ_=>False) W).alloc _) hk id,heap_alloc_last W _,Nat.le_refl _,ax.nil _ _ _ _,ax.nil _ _ _ _,ax.nil _ _ _ _,ax.nil _ _ _ _,ax.nil _ _ _ _,ax.nil _ _ _ _⟩
end
theorem akx(iB:kV w)(nX:dX w)(jS:rY w)(fP:tO w)(D3:kC mx w)(eB:0<w.heap.size)(hq:AO w vl xs)(ey:GM xs)(hp:jZ kN w vp ps)(iI:∀x∈ps,af x)(a b c:Int)(ha:af a)(hb:af b)(hc:af c):
  Zk 3 #[vl,.agg #[O a,O b,O c],vp] w λe w'=>Zr e (.bool true)/\Below w.heap.size w w':=by
 obtain⟨pl,n,cl,rfl⟩:∃p n c,vl=.slice p n c:=by obtain⟨ss,⟨p,c,e,_⟩,_⟩:=hq;exact⟨p,_,c,e⟩
 obtain⟨pv,nv,cv,rfl⟩:∃p n c,vp=.slice p n c:=by obtain⟨p,c,e,_⟩:=hp;exact⟨p,_,c,e⟩
 have aK:=Y iI;obtain⟨P,pr,ES,ER,HQ,HK,aa,Le,AP⟩:=ahj ey ps a b c;have Uz:=Y (aoo ES.j);have zy:=alc (a:=a) (b:=b) (c:=c) iB nX jS fP D3 eB hq hp;obtain⟨W,hW⟩:=Ze ((w.alloc (.cells #[O a,O b,O c] 23)).alloc (.cells #[.slice pv nv cv] 24));rw[<-hW] at zy;have aL:Hid (Zq w W):=by rw[hW];exact((H.refl _ w).alloc _).alloc _
 have aM:W.heap.size=w.heap.size+1+1:=by rw[hW];simp
 obtain⟨tb,dk⟩:=Ze (w.heap.size);obtain⟨qb,I6⟩:=Ze (w.heap.size+1);obtain⟨pb,fF⟩:=Ze (w.heap.size+1+1);rw[<-I6,<-dk] at zy;have t:=Y zy;obtain⟨w1,ae⟩:=Ze (W.alloc (.cells #[O 0,.slice none 0 0,J 0,.slice none 0 0,.slice none 0 0,.slice none 0 0,.slice none 0 0,.slice none 0 0,.slice none 0 0,O 0,.bool false] 37))
 have H1:Hid (ia W W w1 pb (.slice none 0 0) 0 ⟨0,[],0,[],[],[],[],[],[]⟩):=by
  rw[ae,show pb=W.heap.size from Z];exact ahn W
 have T3:=Y (⟨ha,hb,hc⟩:af a/\af b/\af c);have eV:Hid (∀q,Zq W q->∀i:Nat,i<1000->Zk 5 #[O i,M qb] q λe w'=>Zr e (O (ma ps i))/\w'=q):=λq B i hi=>ahc (t.j.keep B).p aK.j i hi
 clear iB nX jS fP D3 eB hq hp zy ey aM iI ha hb hc;go_enter func3,ntmps3;go_wp2_with fail;rw[<-fF,<-hW,<-ae,<-I6,<-dk];refine(GI H1.j 7 0 Z I).m ?_;rintro e w2 ⟨rfl,H2⟩;have H3:Hid (ia w2 W w2 pb (.slice none 0 0) (5*((0:Nat):Int)+1) (sF (toQ P (Cw P) pr) 0)):=H2.j.base;clear H1 H2 ae hW dk I6 fF;go_wp2_with fail;refine(afD _).m ?_;rintro e w3 ⟨rfl,aA⟩;have H4:=Y (H3.j.quiet aA);have xY:Hid (Zq W w3):=zR H4.j.be;clear H3 aA;obtain⟨C,R⟩:=Ze (ma ps 0);obtain⟨y0,rC⟩:=Ze (ma ps 1);obtain⟨d0,jk⟩:=Ze ((P.dm 0:Int):Int);obtain⟨Q,pP⟩:=Ze (5*((0:Nat):Int)+4:Int);have JA:d0=C % 3:=by rw[jk,R];exact aa.j 0
 have Af:0<=C/\C<=7:=by rw[R];exact Io ps 0
 have I2:Int.tmod C 3=d0:=by rw[JA];exact Int.tmod_eq_emod_of_nonneg Af.1
 have oI:=Zh d0 Z;have EI:Hid (ma ps 0=C):=R.symm;have Kv:Hid (y0=pr 0):=by rw[rC];exact(Le.j 0).symm
 have Ku:Hid (ma ps 1=y0):=rC.symm;have zB:=Y pP;have Ly:=Y jk;clear R rC jk pP JA Af;go_wp2_with fail;refine(eV.j _ xY.j 0 I).m ?_;rintro e w' ⟨rfl,d⟩;have f:=d.symm;clear d;subst f;rw[EI.j];go_wp2_with fail;refine(eV.j _ xY.j 1 I).m ?_;rintro e w' ⟨rfl,d⟩;have f:=d.symm;clear d;subst f;rw[Ku.j];go_wp2_with fail;refine(Wc (P:=(toQ P (Cw P) pr)) (i:=0) H4.j Z _ (Uz.j.le 0) (λq B=>aeU mx q (t.j.keep B).mx (t.j.keep B).fo (t.j.keep B).gl) _ _ Q Ly.j Kv.j zB.j).m ?_;rintro e w4 ⟨rfl,H5⟩;clear H4 xY I2 oI;go_wp2_with fail;refine(aav H5.j Z Q 0 zB.j rfl).m ?_;rintro e w5 ⟨rfl,H6⟩;clear H5 zB Ly Kv Ku EI;go_wp2_with fail;have xy:=ES.j.k
 have aP:Hid (∀j,j<P.k↔(j<4/\(j=0\/j<n))):=λj=>by
  have h1:=(t.j.q.at).1;rw[HK.j];unfold kF
  split<;>omega
 go_loopw [9,10,12,14] (λvw kk vc i wr=>∃j:Nat,j<=P.k/\i=O j/\kk=O j/\Hid (ia wr W wr pb (.slice none 0 0) (5*((j+1:Nat):Int)+1) (sF (toQ P (Cw P) pr) (j+1)))/\Hid (ax kN wr W.heap.size 3 vc (zh j))/\Hid (ax Pj wr W.heap.size 27 vw (yr P j))) (λ_ _ _ i _=>4 - (RowKit.intOf i).toNat)
 case atStart=>exact⟨0,Nat.zero_le _,rfl,rfl,H6.j.base,ax.nil _ _ _ _,ax.nil _ _ _ _⟩
 case round=>
  obtain⟨j,hj,rfl,rfl,A,HC,HN⟩:=hrel;clear H6;go_upto_region 10 with fail
  go_cut [56] from 45 to 114 (λv T=>v=.bool (decide (j<P.k))/\Hid (Zq wr T))
  case first=>
   have kS:=aP.j j;by_cases h4:j<4
   ·have aR:(j:Int)<4:=Z;by_cases h0:j=0
    ·subst h0;have hd:decide (0<P.k)=true:=decide_eq_true Z;clear kS
     go_wp2
     go_meet;exact⟨by rw[hd],H.refl _ _⟩
    have ab:((j:Int)==0)=false:=ZF;by_cases hn:j<n
    ·have mP:(j:Int)<(n:Int):=Z;have hd:decide (j<P.k)=true:=decide_eq_true Z;clear kS
     go_wp2
     go_meet;exact⟨by rw[hd],H.refl _ _⟩
    have mP:¬(j:Int)<(n:Int):=Z;have hd:decide (j<P.k)=false:=decide_eq_false Z;clear kS
    go_wp2
    go_meet;exact⟨by rw[hd],H.refl _ _⟩
   have aR:¬(j:Int)<4:=Z;have hd:decide (j<P.k)=false:=decide_eq_false Z;clear kS
   go_wp2
   go_meet;exact⟨by rw[hd],H.refl _ _⟩
  case rest=>
   obtain⟨rfl,qT⟩:=hcut;by_cases V:j<P.k
   ·have F:decide (j<P.k)=true:=decide_eq_true V;rw[F];clear F;have b4:j<4:=Z;have OA:=Y (HQ.j j);obtain⟨wq,mN⟩:=Ze (wc.alloc (.cells #[J 5,J 7] 47));obtain⟨lb,kr⟩:=Ze (wc.heap.size);have Ou:Hid (Zq wr wq):=by rw[mN];exact qT.j.alloc _
    have Um:Hid (wq.heap[lb]?=some (.cells #[J 5,J 7] 47 (0,0))):=by rw[mN,kr];exact heap_alloc_last wc _
    have KZ:Hid (EH wq tb qb mx (.slice pl n cl) xs ps a b c):=t.j.keep ((zR A.j.be).trans Ou.j);go_upto_region 13 with fail
    rw[<-mN,<-kr];clear mN kr;obtain⟨lj,Ge⟩:=Ze ((xs.getD j []).length);have CY:=Y Ge;clear Ge;go_cut [72] from 45 to 114 (λv T=>v=.bool (decide (0<lj))/\T=wq)
    case first=>
     by_cases hn:j<n
     ·obtain⟨g,o,pi,ni,ci,cY,dA,mP,iK,gG⟩:=KZ.j.q.at.2.2 j hn;have OE:=Y cY;have jT:ni=lj:=by rw[CY.j];exact mP
      rw[cY];clear cY gG mP;subst jT;have gF:0<=(j:Int)/\(j:Int)<(n:Int):=Z;by_cases h0:0<ni
      ·have ab:(0:Int)<(ni:Int):=Z;go_wp2_with fail;rw[<-OE.j];go_meet;exact⟨by rw[decide_eq_true h0],rfl⟩
      have ab:¬(0:Int)<(ni:Int):=Z;go_wp2_with fail;rw[<-OE.j];go_meet;exact⟨by rw[decide_eq_false h0],rfl⟩
     have mP:¬(j:Int)<(n:Int):=Z
     have bk:Hid (lj=0):=by
      have:=KZ.j.q.at.1;rw[CY.j,List.getD_eq_getElem?_getD,List.getElem?_eq_none Z];rfl
     go_wp2
     go_meet;exact⟨by rw[bk.j];rfl,rfl⟩
    case rest=>
    obtain⟨rfl,rfl⟩:=hcut
    go_upto_if 72 with fail
    go_cut [15] from 45 to 114 (λv T=>∃g o m cc,v=.slice (some (E g o)) m cc/\Hid ((P.Q j).m=min m 3)/\Hid (∀i,i<(P.Q j).m->T.cell? (E g (o+i*2))=some (J ((P.Q j).A i))/\Zc T g (o+i*2+1) (J ((P.Q j).B i)))/\Hid (Zq wr T))
    case first=>
     by_cases h0:0<lj
     ·have F:decide (0<lj)=true:=decide_eq_true h0;rw[F];clear F
      have hn:j<n:=by
       have d:=KZ.j.q.at.1;have f:=CY.j;rw[List.getD_eq_getElem?_getD] at f;by_cases l:j<xs.length
       ·omega
       rw[List.getElem?_eq_none Z] at f;have:lj=0:=f;omega
      obtain⟨g,o,pi,ni,ci,cY,dA,mP,iK,gG⟩:=KZ.j.q.at.2.2 j hn;have OE:=Y cY;have jT:ni=lj:=by rw[CY.j];exact mP
      rw[cY];clear cY mP;subst jT;have C9:=Y gG;clear gG;have gF:0<=(j:Int)/\(j:Int)<(n:Int):=Z;go_wp2_with fail;rw[<-OE.j];go_meet;obtain⟨gi,oi,rfl,dE⟩:=C9.j h0
      have hm:(P.Q j).m=min ni 3:=by
       rw[OA.j];unfold qF;rw[if_neg (by rw[<-CY.j];omega),CY.j]
      refine⟨gi,oi,ni,ci,rfl,hm,?_,Ou.j⟩;intro i hi;rw[hm] at hi;have:=dE i Z;rw[OA.j];unfold qF;rw[if_neg (by rw[<-CY.j];omega)];exact this
     have F:decide (0<lj)=false:=decide_eq_false h0;rw[F];clear F
     go_wp2
     go_meet
     have h1:P.Q j=⟨1,λ_=>5,λ_=>7,100+j % 4⟩:=by
      rw[OA.j];unfold qF;exact if_pos (by rw[<-CY.j];omega)
     rw[h1];refine⟨lb,0,1,1,rfl,rfl,?_,Ou.j⟩;intro i hi;have Cc:i=0:=by have:i<1:=hi;omega
     subst Cc;exact⟨Zl Um.j,Zl Um.j⟩
    case rest=>
     obtain⟨g,o,m,cc,rfl,vg,ad,pW⟩:=hcut;clear Ou Um KZ OA;have RZ:=vg.j;have ag:=Y (apj (P.Q j) (ES.j.Q j) m cc g o RZ wc ad.j);clear RZ;have tS:=Y (A.j.quiet pW.j);obtain⟨n2,fq⟩:=Ze (2*(j+1):Nat);obtain⟨n3,RU⟩:=Ze (2*(j+1)+1:Nat);obtain⟨C,R⟩:=Ze (ma ps n2);obtain⟨y0,rC⟩:=Ze (ma ps n3);obtain⟨d0,jk⟩:=Ze ((P.dm (j+1):Int):Int);obtain⟨Q,pP⟩:=Ze (5*((j+1:Nat):Int)+4:Int);have JA:d0=C % 3:=by rw[jk,R,fq];exact aa.j (j+1)
     have Af:0<=C/\C<=7:=by rw[R];exact Io ps _
     have I2:Int.tmod C 3=d0:=by rw[JA];exact Int.tmod_eq_emod_of_nonneg Af.1
     have oI:=Zh d0 Z;have aS:=Zh (2*(j:Int)) Z;have eH:IntKind.i64.wrap (2*(j:Int)+2)=(n2:Int):=by rw[IntKind.wrap_i64,fq];omega
     have aT:IntKind.i64.wrap (2*(j:Int)+3)=(n3:Int):=by rw[IntKind.wrap_i64,RU];omega
     have Gd:=Zh (100+(j:Int)) Z;have b5:IntKind.u32.wrap (100+(j:Int))=100+(j:Int):=by rw[IntKind.wrap_u32];omega
     have b6:IntKind.i64.wrap (Q+1)=Q+1:=by rw[IntKind.wrap_i64,pP];omega
     have b7:=Zf j Z;have aU:n2<1000:=Z;have aV:n3<1000:=Z;have EI:Hid (ma ps n2=C):=R.symm;have Ku:Hid (ma ps n3=y0):=rC.symm;have Kv:Hid (y0=pr (j+1)):=by rw[rC,RU];exact(Le.j (j+1)).symm
     have zB:=Y pP;have Ly:=Y jk;have aW:Hid (Q+1=aD (j+1)):=by show Q+1=aD (j+1);rw[pP];unfold aD;omega
     have OZ:Hid (100+(j:Int)=Cy (j+1)):=by show 100+(j:Int)=((100+j:Nat):Int);omega
     clear R rC jk pP JA Af fq RU;go_wp2_with fail;refine ag.j.m ?_;rintro e w6 ⟨rfl,An⟩;have CT:=Y (tS.j.quiet An);have o7:Hid (Zq W w6):=zR CT.j.be;obtain⟨wn,Ag⟩:=Ze (sy (P.Q j) (P.Q j).m);rw[<-Ag];have aX:=Y Ag;clear An tS ag ad Ag;go_wp2_with fail;refine(eV.j _ o7.j n2 aU).m ?_;rintro e w' ⟨rfl,d⟩;have f:=d.symm;clear d;subst f;rw[EI.j];go_wp2_with fail;refine(eV.j _ o7.j n3 aV).m ?_;rintro e w' ⟨rfl,d⟩;have f:=d.symm;clear d;subst f;rw[Ku.j];go_wp2_with fail;refine(Wc (P:=(toQ P (Cw P) pr)) (i:=j+1) CT.j Z _ (Uz.j.le (j+1)) (λq B=>api (P.Q j) (ES.j.Q j) mx q (t.j.keep B).mx (t.j.keep B).fo (t.j.keep B).gl) _ _ Q Ly.j Kv.j zB.j).m ?_;rintro e w7 ⟨rfl,Lg⟩;clear CT o7 I2 oI aS eH aT;go_wp2_with fail;refine(aav Lg.j Z Q _ zB.j OZ.j).m ?_;rintro e w8 ⟨rfl,Lf⟩;have LA:=Y (ax.Ob HC.j Lf.j.kp (Or.inl rfl));have OM:=Y (ax.Ob HN.j Lf.j.kp (Or.inr rfl));clear Lg HC HN A qT pW EI Ku Kv Ly;obtain⟨aZ,a1,IZ,_⟩:=LA.j.form;obtain⟨a6,ko⟩:∃nc,nc=(zh j).length:=⟨_,rfl⟩
     rw[<-ko] at IZ;subst IZ;obtain⟨a7,a8,YP,_⟩:=OM.j.form;obtain⟨bc,dN⟩:∃nc,nc=(yr P j).length:=⟨_,rfl⟩
     rw[<-dN] at YP;subst YP;have vh:Hid ((zh j).length+1<=10000000):=by rw[N6];show _<=_;omega
     have j5:Hid ((yr P j).length+1<=10000000):=by rw[LO];show _<=_;omega
     have nh:Hid (W.heap.size<=w8.heap.size):=Lf.j.be.size;clear ko dN;go_upto_region 19 with(at_builtin;refine wH alJ _ rfl _ _ rfl W.heap.size (.slice aZ a6 a1) _ rfl LA.j (Q+1) _ _ rfl rfl rfl vh.j nh.j ?_;intro v' w9 X N iz;have GV:=Y (Lf.j.pass (Or.inl rfl) LA.j N);have tT:=Y (OM.j.kept N (λk hk d=>by obtain⟨c1,f⟩:=cW OM.j hk;obtain⟨c2,l⟩:=cW LA.j d;exact ef f l I rfl));have na:=Y X;clear X N iz)
     have bg:Hid (W.heap.size<=w9.heap.size):=GV.j.be.size;clear Lf OM LA vh nh;go_wp2_with (at_builtin;refine wH unK _ rfl _ _ rfl W.heap.size (.slice a7 bc a8) _ rfl tT.j (wn:Int) _ _ rfl rfl rfl j5.j bg.j ?_;intro v2 vx X N iz;have bm:=Y (GV.j.pass (Or.inr rfl) tT.j N);have bB:=Y (na.j.kept N (λk hk d=>by obtain⟨c1,f⟩:=cW na.j hk;obtain⟨c2,l⟩:=cW tT.j d;exact ef f l I rfl));have bC:=Y X;clear X N iz);go_roundw
     case rel=>
      refine⟨j+1,Z,by go_num,by go_num,bm.j,?_,?_⟩
      ·rw[aom,<-aW.j];exact bB.j
      rw[adh,<-aX.j];exact bC.j
     case measure=>exact Zm
   have F:decide (j<P.k)=false:=decide_eq_false V;rw[F];clear F;obtain rfl:j=P.k:=Z;have GV:=Y (A.j.quiet qT.j).base;have na:=Y (HC.j.kept qT.j (λ_ _ h=>h));have tT:=Y (HN.j.kept qT.j (λ_ _ h=>h));clear A HC HN qT V hj;obtain⟨pg,Al⟩:=Ze (6+5*(P.k:Int):Int);rw[show 5*((P.k+1:Nat):Int)+1=pg from Z] at GV;have ja:=Y Al;clear Al;obtain⟨vo,vb,b8,vm,vr,d⟩:=GV.j;have c9:wc.cell? (E pb 9)=some (O pg):=Zl d.row;have c0:wc.cell? (E pb 0)=some (O 0):=Zl d.row;have f0:wc.frozen? (E pb 0)=false:=fX d.row _;obtain⟨wA,dy⟩:=Ze (wc.setCell (E pb 0) (O pg));have HA:=Y (d.ahR pg);rw[<-dy] at HA;have c2:wA.cell? (E pb 2)=some (J 0):=Zl HA.j.row;have f2:wA.frozen? (E pb 2)=false:=fX HA.j.row _;obtain⟨wB,jR⟩:=Ze (wA.setCell (E pb 2) (J 4094))
   have HB:Hid (ia wc W wB pb (.slice none 0 0) pg {sF (toQ P (Cw P) pr) (P.k+1) with n:=pg,c:=4094,ts:=sD a b c 0}):=by
    rw[jR];exact⟨_,_,_,_,_,HA.j.calls 4094⟩
   clear d;go_upto_region 22 with fail
   rw[<-dy];clear c9 c0 f0 dy GV;go_wp2_with fail;rw[<-jR];clear c2 f2 jR HA
   go_loopw [19] (λi wr=>∃(m:Nat) (vt:Z3),m<=3/\i=O m/\Hid (ia wc W wr pb vt pg {sF (toQ P (Cw P) pr) (P.k+1) with n:=pg,c:=4094,ts:=sD a b c m})) (λi _=>3 - (RowKit.intOf i).toNat)
   case atStart=>exact⟨0,_,Nat.zero_le _,rfl,HB.j⟩
   case round=>
    obtain⟨m,vt,hm,rfl,A⟩:=hrel;clear HB;by_cases h3:m<3
    ·have bD:(m:Int)<3:=Z;have gF:0<=(m:Int)/\(m:Int)<3:=Z;have F3:=Zf m Z;obtain⟨vo,vb,LR,vm,vr,l⟩:=A.j;obtain⟨pt,ct,Ai,_⟩:=l.lt.form;obtain⟨nt,Gc⟩:=Ze ((sD a b c m).length);have bF:vt=.slice pt nt ct:=by rw[Gc];exact Ai
     clear Ai A;have lV:Hid ((sD a b c m).length+1<=10000000):=by rw[adJ];show _<=_;omega
     clear Gc;subst bF;obtain⟨x,hx⟩:=Ze (Fa a b c m);have an:=Y hx;have Ld:Hid (∀q,Zk 6 #[O x,O 9] q λe w'=>Zr e (O (iR x 9))/\w'=q):=λq=>WM x 9 (by rw[hx];exact adY T3.j.1 T3.j.2.1 T3.j.2.2 m) I q
     have FU:=Ip x 9 I;have zr:Hid (sD a b c (m+1)=sD a b c m++[((m:Int),1+iR x 9)]):=by rw[hx];exact adI m
     generalize iR x 9=y at Ld FU zr;have b9:=Zh (1+y) Z;clear hx FU;obtain⟨wD,Ro⟩:=Ze ((wr.alloc (.cells #[O (m:Int),O (1+y)] 52)).drew);obtain⟨nD,ZX⟩:=Ze (wr.heap.size);have RR:Zq wr wD:=by rw[Ro];exact((H.refl _ _).alloc _).drew
     have wC:=Y (l.quiet RR);have bK:Hid (W.heap.size<=wD.heap.size):=wC.j.be.size
     have TW:Hid (∀j u,(dG.cf ((m:Int),1+y))[j]?=some u->wD.cell? (E nD j)=some u):=λj u hj=>by
      have hl:wD.heap[nD]?=some (.cells (dG.cf ((m:Int),1+y)).toArray 52 (0,0)):=by rw[Ro,ZX];exact heap_alloc_last wr _
      rw[cell_of_row _ _ j _ _ (0,0) hl,List.getElem?_toArray];exact hj
     have EM:∀q,Zq wr q->q.cell? (E pb 1)=some (.slice pt nt ct)/\q.cell? (E tb m)=some (O x):=λq B=>by
      have h1:=l.quiet B;exact⟨Zl h1.row,by rw[an.j];exact(t.j.keep (zR h1.be)).tc m h3⟩
     have s:=Y (EM wr.drew ((H.refl _ _).drew));have fI:=Y (EM wD RR);clear RR EM l;go_upto_region 26 with fail
     refine sx (S:=(λq=>q.cell? (E pb 1)=some (.slice pt nt ct)/\q.cell? (E tb m)=some (O x))) 18 (by kernel_rfl) Zg (by kernel_rfl) ?_;simp only[jM,oC,List.setIfInBounds_toArray,List.set_cons_zero,List.set_cons_succ,List.size_toArray,List.length_cons,List.length_nil,Nat.zero_add,Nat.reduceAdd];refine Zt 0 s.j ?_;refine Zt 1 s.j ?_;refine Zt 2 s.j ?_;refine Zt 3 s.j ?_;refine Zt 4 s.j ?_;refine Zt 5 s.j ?_;refine Zt 6 s.j ?_;refine Zt 7 s.j ?_;refine Zt 8 s.j ?_;refine Zt 9 s.j ?_;refine Zy 10 (λK hK=>?_);refine dc rfl 6 #[Operand.tmp 140,Operand.const (Value.int IntKind.i64 9)] #[3,3] rfl #[O x,O 9] (by first|rfl|simp[Act.eval,go_sem]) (by simp[go_sem]) (Ld.j _) ?_;rintro e wp ⟨rfl,d⟩;have f:=d.symm;clear d;subst f;refine⟨_,rfl,?_⟩;refine Zb hK s.j ?_;refine Zt 11 s.j ?_;refine Zt 12 s.j ?_;refine Zy 13 (λK hK=>?_);go_simp;rw[<-Ro,<-ZX];refine Zb hK fI.j ?_;refine Zy 14 (λK hK=>?_);refine VD ahu rfl (.tmp 136) (.tmp 144) rfl W.heap.size (.slice pt nt ct) (sD a b c m) (by simp[Act.eval]) wC.j.lt ((m:Int),1+y) nD 1 1 (by simp[Act.eval]) TW.j lV.j bK.j ?_;intro v6 w6 X N iz;obtain⟨pz,cz,pD,_⟩:=X.form;obtain⟨mz,Jj⟩:=Ze ((sD a b c m++[((m:Int),1+y)]).length);rw[<-Jj] at pD;subst pD;clear Jj;obtain⟨py,BW⟩:=wC.j.agU X N;have CT:=Y BW;have f6:=fX py 1;have c6:w6.cell? (E pb 1)=some (.slice pt nt ct):=Zl py;have Y3:w6.cell? (E tb m)=some (O x):=by rw[an.j];exact(t.j.keep (zR (amN wC.j N))).tc m h3
     have mq:Hid (Zc w6 pb 1 (.slice pt nt ct)/\w6.cell? (E tb m)=some (O x)):=⟨c6,Y3⟩
     clear X N iz py BW Y3;refine Zb hK mq.j ?_;refine Zt 15 mq.j ?_;refine Zt 16 mq.j ?_;refine Zt 17 mq.j ?_;refine wpAnyH_take (i:=18) (v:=undef) Zg (by kernel_rfl) (by kernel_rfl) (by kernel_rfl) (by exact λ_ _ _ h=>h) (Or.inr ⟨by rfl,rfl⟩) mq.j ?_;refine wpAnyH_done (by kernel_rfl) ?_ _;simp only[p8];clear s fI mq
     go_wp2
     go_roundw
     case rel=>
      have d:=CT.j;rw[<-zr.j] at d;exact⟨m+1,.slice pz mz cz,Z,by go_num,⟨_,_,_,_,_,d⟩⟩
     case measure=>exact Zm
    obtain rfl:m=3:=Z;have bD:¬((3:Nat):Int)<3:=Z;obtain⟨r,zb⟩:=Ze (wr);subst zb;have bR:=Y (ax.Ob na.j A.j.kp (Or.inl rfl));have bW:=Y (ax.Ob tT.j A.j.kp (Or.inr rfl));obtain⟨vo,vb,LR,vm,vr,l⟩:=A.j;have G7:=Y (t.j.keep (zR l.be));have kZ:Hid (Zq w r):=aL.j.trans (zR l.be);have c0:Zc r pb 0 (O pg):=Zl l.row;have c1:Zc r pb 1 (vt):=Zl l.row;have c2:Zc r pb 2 (J 4094):=Zl l.row;have c3:Zc r pb 3 (vo):=Zl l.row;have c4:Zc r pb 4 (vb):=Zl l.row;have c5:Zc r pb 5 (LR):=Zl l.row;have c6:Zc r pb 6 (vm):=Zl l.row;have c7:Zc r pb 7 (vr):=Zl l.row;have c8:Zc r pb 8 (.slice none 0 0):=Zl l.row;have CS:Hid (r.heap[pb]?=some (.cells #[O pg,vt,J 4094,vo,vb,LR,vm,vr,.slice none 0 0,O pg,.bool false] 37 (0,0))):=l.row
    have ao:Hid (Zk 11 #[.agg #[O pg,vt,J 4094,vo,vb,LR,vm,vr,.slice none 0 0]] r λe w'=>∃kb mb sb Is Il bb Hw D ks G K0,Zr e (.tuple #[M kb,O 0,O 0])/\Zq r w'/\Env P K0/\tN P K0 (λk=>k<r.heap.size/\k≠1) w' kb mb sb Is Il bb Hw D ks G 12000 w'):=by
     have e3:sD a b c 3=kI P.a P.b P.c:=by rw[AP.j.1,AP.j.2.1,AP.j.2.2];rfl
     rw[e3,ja.j] at l;have f:=aiP ES.j ER.j Uz.j G7.j.ns (eR.spec (k:=0) (P:=(toQ P (Cw P) pr)) l);rw[<-ja.j] at f;exact f
    clear l A na tT hm h3;go_wp2_with fail;refine ao.j.m ?_;rintro e E9 ⟨kb,mb,sb,Is,Il,bb,Hw,D,ks,G,K0,rfl,Na,av,SU⟩;have ay:=Y av;have az:=Y (H.keep Na CS.j id);have Cx:E9.cell? (E pb 10)=some (.bool false):=Zl az.j;have bX:=Y Na;obtain⟨U,hU⟩:=Ze ((λk=>k<r.heap.size/\k≠1):Z1);rw[<-hU] at SU;have HU:=Y hU
    have aE:Hid (oh U E9):=by
     have h:=G7.j.keep Na;refine⟨h.us,h.mi,h.fo,?_,?_,?_⟩
     ·rw[hU];exact⟨World.block_lt_of_cell? r _ (G7.j.us 0 I).1,I⟩
     ·rw[hU];exact⟨World.block_lt_of_cell? r _ (G7.j.mi 0 I),I⟩
     rw[hU];exact⟨G7.j.fo.1,I⟩
    have CN:=Y SU;clear av SU Na hU ao CS az c0 c1 c2 c3 c4 c5 c6 c7 c8;go_wp2_with fail;clear Cx
    go_loopw [23] (λi T=>∃m:Nat,m<=12000/\i=O m/\Hid (tN P K0 U E9 kb mb sb Is Il bb Hw D ks G (12000 - m) T)) (λi _=>12000 - (RowKit.intOf i).toNat)
    case atStart=>exact⟨0,Nat.zero_le _,rfl,CN.j⟩
    case round=>
     obtain⟨m,hm,rfl,HT⟩:=hrel;clear CN;by_cases kc:m<12000
     ·have b0:(m:Int)<12000:=Z;have F3:=Zf m Z;go_wp2_with fail;refine(ae4 ES.j ay.j aE.j HT.j).m ?_;rintro e w' ⟨⟨v,rfl⟩,h⟩;have GQ:=Y h;clear h HT
      go_wp2
      go_roundw
      case rel=>exact⟨m+1,Z,by go_num,by have:=GQ.j;rw[show 12000 - m - 1=12000 - (m+1) from Z] at this;exact this⟩
      case measure=>exact Zm
     obtain rfl:m=12000:=Z;have b0:¬((12000:Nat):Int)<12000:=Z;obtain⟨LQ,za⟩:=Ze (wr);subst za;have Oy:=HT.j;rw[Nat.sub_self] at Oy;obtain⟨n15,QD⟩:=tN.j Oy
     have Uh:Hid (Zq r LQ):=by
      rw[HU.j] at QD;exact adZ bX.j QD G7.j.ns n15
     have iN:=Y (aec ES.j Oy);clear Oy n15 QD HT hm kc aE ay HU;go_wp2_with fail;refine iN.j.m ?_;rintro e zG ⟨v,ls,rfl,hl,JJ,M9⟩;have aG:=Y ((bR.j.kept Uh.j (λ_ _ h=>h)).kept M9 (λ_ _ h=>h));have aH:=Y ((bW.j.kept Uh.j (λ_ _ h=>h)).kept M9 (λ_ _ h=>h));have b1:=Y ((kZ.j.trans Uh.j).trans M9);obtain⟨pL,cL,hv,_,_,hg⟩:=hl.form;have hlen:=JJ.len;obtain⟨gL,rfl,_,eB,_⟩:=hg Z;obtain⟨nL,RT⟩:=Ze (ls.length);rw[<-RT] at hv;subst hv;obtain⟨pC,cC,YT,_,_,Sv⟩:=aG.j.form;obtain⟨pN,cN,YS,_,_,Su⟩:=aH.j.form;rw[N6] at YT Sv;rw[LO] at YS Su;subst YT YS;have fm:=ER.j.k;obtain⟨gC,rfl,_,aJ,_⟩:=Sv Z;obtain⟨gN,rfl,_,nW,_⟩:=Su Z
     have s0:zG.cell? (E gL 1)=some (O 4):=by
      have:=hl.cell 0 1 Z I;rw[Nat.zero_mul,Nat.zero_add] at this;exact this.trans (by show some (Value.int .i64 ls[0].st)=_;rw[JJ.s.1])
     have a0:zG.cell? (E gL 4)=some (O 0):=by
      have:=hl.cell 0 4 Z I;rw[Nat.zero_mul,Nat.zero_add] at this;exact this.trans (by show some (Value.int .i64 ls[0].at')=_;rw[JJ.s.2])
     have ZT:(nL:Int)=(P.k:Int)+1:=Z;have DT:=Zh ((P.k:Int)+1) Z;have ca:(0:Int)<(P.k:Int)+1:=Z;have HL:=Y hl;have b2:=Y JJ;have b3:=Y RT;have HG:=Y (⟨eB,aJ,nW⟩:gL<zG.heap.size/\gC<zG.heap.size/\gN<zG.heap.size);clear hl JJ RT hlen hg Sv Su M9 eB aJ nW fm iN;go_wp2_with fail;clear s0 a0
     go_loopw [25] (λi wr=>∃m:Nat,m<=P.k/\i=O m/\Hid (Zq zG wr)) (λi _=>P.k - (RowKit.intOf i).toNat)
     case atStart=>exact⟨0,Nat.zero_le _,rfl,H.refl _ _⟩
     case round=>
      obtain⟨m,hm,rfl,HO⟩:=hrel;by_cases V:m<P.k
      ·have R7:(m:Int)<(P.k:Int):=Z;have gn:=Zf m Z;have ch:0<=(m:Int)+1:=Z;have cq:0<=(m:Int)/\(m:Int)<(P.k:Int):=Z;have eZ:=Zh (100+(m:Int)) Z;have xg:IntKind.u32.wrap (100+(m:Int))=100+(m:Int):=by rw[IntKind.wrap_u32];omega
       have I0:m+1<ls.length:=by have:=b3.j;omega
       obtain⟨e1,e2,e3,e4⟩:=b2.j.c m V;obtain⟨u,hu⟩:=Ze (ls[m+1]);rw[<-hu] at e1 e2 e3 e4
       have gy:Hid (wr.rangeAt gL ((m+1)*41) (fT u)):=by
        rw[hu];exact ai2 (HL.j.kept HO.j (λ_ _ h=>h)) I0
       clear hu;obtain⟨z,hz⟩:=Ze (aD (m+1));obtain⟨y,hy⟩:=Ze (((sy (P.Q m) (P.Q m).m:Nat):Int):Int);obtain⟨wZ,MU⟩:=Ze (wr.alloc (.cells zH.toArray 68));obtain⟨xb,eo⟩:=Ze (wr.heap.size);have el:wZ.heap[xb]?=some (.cells ([]++zH).toArray 68 (0,0)):=by rw[MU,eo];exact heap_alloc_last wr _
       have ar:=Za MU;obtain⟨px,DZ⟩:=vB (fT u) [] zH wZ ((ox.len ⟨0,0,0,0,0,0,0,0,λ_=>0,0⟩).trans (ox.len u).symm) el;simp only[List.length_nil,List.nil_append] at px DZ el;have bV:=L0 wZ xb 0 (fT u) (aei el ((ox.len u).trans (ox.len ⟨0,0,0,0,0,0,0,0,λ_=>0,0⟩).symm)) (ox.one _);obtain⟨w9,IY⟩:=Ze (wZ.setCells xb 0 (fT u));rw[<-IY] at px DZ bV;have rG:Zq wr w9:=ar.beyond DZ (λk hk=>Z);have Ug:=Y (HO.j.trans rG)
       have cr:w9.cell? (E xb 0)=some (O z):=by
        rw[cell_of_row _ _ 0 _ _ (0,0) px,List.getElem?_toArray,hz,<-e1];rfl
       have cx:w9.cell? (E xb 1)=some (O 0):=by
        rw[cell_of_row _ _ 1 _ _ (0,0) px,List.getElem?_toArray,<-e2];rfl
       have cA:w9.cell? (E xb 28)=some (J y):=by
        rw[cell_of_row _ _ 28 _ _ (0,0) px,List.getElem?_toArray,hy,<-e3];rfl
       have cB:w9.cell? (E xb 22)=some (J (100+(m:Int))):=by
        rw[cell_of_row _ _ 22 _ _ (0,0) px,List.getElem?_toArray,show(100+(m:Int))=((100+m:Nat):Int) from Z,<-e4];rfl
       have cE:w9.cell? (E gC m)=some (O z):=by
        have f:=(aG.j.kept Ug.j (λ_ _ h=>h)).cell m 0 (by rw[N6];exact V) I;rw[show m*kN.sz+0=m by show m*1+0=m;omega] at f;refine f.trans ?_;show some (Value.int .i64 ((zh P.k)[m]'(by rw[N6];exact V)))=_;rw[hz];simp[zh]
       have cF:w9.cell? (E gN m)=some (J y):=by
        have f:=(aH.j.kept Ug.j (λ_ _ h=>h)).cell m 0 (by rw[LO];exact V) I;rw[show m*Pj.sz+0=m by show m*1+0=m;omega] at f;refine f.trans ?_;show some (Value.int .u32 ((yr P P.k)[m]'(by rw[LO];exact V)))=_;rw[hy];simp[yr]
       clear e1 e2 e3 e4 hz hy el ar px DZ IY rG I0;go_upto_region 40 with fail
       go_wp2_with (first|(refine wpList_plain rfl (λ_ hK=>ad4 (.tmp 206) 207 rfl rfl rfl gy.j (hK _ _ ?_))));generalize YK:wr.alloc _=wX;have eX:wX=wZ:=by rw[<-YK,MU];rfl
       rw[eX,<-eo];clear YK eX MU eo;simp only[bV,Result.andThen];clear bV;go_upto_region 41 with fail
       go_quiet (fail)
       go_wp2
       go_roundw
       case rel=>exact⟨m+1,Z,by go_num,Ug.j.drewN _⟩
       case measure=>exact Zm
      obtain rfl:m=P.k:=Z;have R7:¬(P.k:Int)<(P.k:Int):=Z
      go_wp2
      go_ret;exact⟨rfl,(b1.j.trans HO.j).below (Nat.le_refl _) (λ_ _ h=>h)⟩
section
open Go.Deep
theorem Xs(h:(Lit.int .u32 z).wf=true):∃a:Nat,z=(a:Int)/\a<4294967296:=by
 obtain⟨l0,l1⟩:=bounds_u32 h;obtain⟨a,rfl⟩:=Int.eq_ofNat_of_zero_le l0;exact⟨a,rfl,Z⟩
end
section
variable {enc:TypeId×Value->aa}{W:Z0}{base:Nat}{spare:Nat->Bool}{held:Bool}{c:List Value}{y:DataW aa×List MemPlace}
open Go.Deep
theorem ain(e:c.length=2)(h:DataW.trod enc prog W base spare held n 47 c=some y):∃z:Nat×Nat,(z.1<4294967296/\z.2<4294967296)/\c=Fv.cf z:=by
 obtain⟨a,f,g⟩:=aaN underlying47 h 0 rfl underlying27;obtain⟨b,i,wb⟩:=aaN underlying47 h 1 rfl underlying27;obtain⟨a,rfl,ha⟩:=Xs g;obtain⟨b,rfl,hb⟩:=Xs wb;refine⟨(a,b),⟨ha,hb⟩,anF e (λj d=>?_)⟩;have d:j<2:=d;rcases(by omega:j=0\/j=1) with rfl|rfl
 ·exact f
 exact i
end
section
variable {enc:TypeId×Value->aa}{W:Z0}{held:Bool}{c:List Value}{x y:DataW aa×List MemPlace}
open Go.Deep
theorem aio(h:DataW.trod enc prog W 0 (λ_=>true) held n 48 c=some y):∃z:Sh,(∃qs:List (Nat×Nat),jZ Fv W (Ia z) qs/\∀x∈qs,x.1<4294967296/\x.2<4294967296)/\c=Md.cf z:=by
 obtain⟨v,zs,rfl,h1,a,_⟩:=open_row Fv (λz _=>z.1<4294967296/\z.2<4294967296) underlying48 Zx (λn c y b h=>ain b h) h;obtain⟨p,cc,rfl,f⟩:=id h1;refine⟨(p,zs.length,cc),⟨zs,h1,λx d=>?_⟩,rfl⟩;obtain⟨i,hi,rfl⟩:=List.getElem_of_mem d;obtain⟨_,e,_⟩:=a i hi;exact e
end
section
variable {enc:TypeId×Value->aa}{W:Z0}{c:List Value}{x y:DataW aa×List MemPlace}
open Go.Deep
theorem ai7{d:DataW aa}{p:List MemPlace}(hv:Value.okWide prog W r b0 22 v)(h:DataW.Trod enc prog W 0 (λ_=>true) true 22 v d p):
  ∃xs,AO W v xs/\GM xs:=by
 obtain⟨a,len,cap,rfl⟩:=okWide_slice underlying22 hv;obtain⟨fuel,hf⟩:=h;have hf:DataW.trod enc prog W 0 (λ_=>true) true fuel 22 [.slice a len cap]=some (d,p):=hf;obtain⟨v,ss,hv,h1,f,_⟩:=open_row Md (λz _=>∃qs:List (Nat×Nat),jZ Fv W (Ia z) qs/\∀x∈qs,x.1<4294967296/\x.2<4294967296) underlying22 Zx (λn c y b h=>aio h) hf;obtain rfl:Value.slice a len cap=v:=by simpa using hv
 have each:∀i,i<ss.length->∃qs:List (Nat×Nat),(∀h:i<ss.length,jZ Fv W (Ia ss[i]) qs)/\∀x∈qs,x.1<4294967296/\x.2<4294967296:=λi hi=>by
  obtain⟨_,⟨qs,g,j⟩,_⟩:=f i hi;exact⟨qs,λ_=>g,j⟩
 obtain⟨k,e⟩:=choose_lt each;refine⟨(List.range ss.length).map k,⟨ss,h1,by simp,λi h m=>?_⟩,λl b=>?_⟩
 ·simp only[List.getElem_map,List.getElem_range];exact(e i h).1 h
 obtain⟨i,hi,rfl⟩:=List.mem_map.1 b;exact(e i (List.mem_range.1 hi)).2
theorem ai8{d:DataW aa}{p:List MemPlace}(hv:Value.okWide prog W r b0 24 v)(h:DataW.Trod enc prog W 0 (λ_=>true) true 24 v d p):
  ∃ps,jZ kN W v ps/\∀x∈ps,af x:=by
 obtain⟨a,len,cap,rfl⟩:=okWide_slice underlying24 hv;obtain⟨fuel,hf⟩:=h;have hf:DataW.trod enc prog W 0 (λ_=>true) true fuel 24 [.slice a len cap]=some (d,p):=hf
 obtain⟨v,ss,hv,h1,b,_⟩:=open_row kN (λz _=>af z) underlying24 Zx (λn c y g h=>by
  obtain⟨z,b,_,e⟩:=DataW.trod_int underlying3 h
  exact⟨z,bounds_i64 e,b⟩) hf
 obtain rfl:Value.slice a len cap=v:=by simpa using hv
 refine⟨ss,h1,λx f=>?_⟩;obtain⟨i,hi,rfl⟩:=List.getElem_of_mem f;obtain⟨_,e,_⟩:=b i hi;exact e
end
section
variable {enc:TypeId×Value->aa}{W:Z0}{c:List Value}
open Go.Deep
theorem ai9{d:DataW aa}{p:List MemPlace}(hv:Value.okWide prog W r b0 23 v)(h:DataW.Trod enc prog W 0 (λ_=>true) true 23 v d p):
  ∃a b c:Int,v=.agg #[.int .i64 a,.int .i64 b,.int .i64 c]/\af a/\af b/\af c:=by
 have i:∃cs,v=.agg cs/\cs.size=3:=by
  simp only[Value.okWide,underlying23] at hv;obtain⟨cs,h1,e,_⟩:=hv;exact⟨cs,h1,e.trans Zx⟩
 obtain⟨cs,rfl,j⟩:=i;obtain⟨l⟩:=cs
 match l,j with
 |[c0,c1,c2],_=>
  obtain⟨fuel,hf⟩:=h;have hf:DataW.trod enc prog W 0 (λ_=>true) true fuel 23 [c0,c1,c2]=some (d,p):=hf;obtain⟨m,o,q,n,_,k,h1,e⟩:=trod_array3 underlying23 Zx hf;obtain⟨a,f,_,w0⟩:=DataW.trod_int underlying3 k;obtain⟨b,e1,_,w1⟩:=DataW.trod_int underlying3 h1;obtain⟨c,g,_,w2⟩:=DataW.trod_int underlying3 e;simp only[List.cons.injEq,and_true] at f e1 g;subst f e1 g;exact⟨a,b,c,rfl,bounds_i64 w0,bounds_i64 w1,bounds_i64 w2⟩
end
section
open Go.Deep
abbrev Ab:List (String×DataW Unit):=Rows.kernAnswersRow.laid
theorem aiv{W:Z0}(h:laidMetH prog Ab W)(hs:W.ShapedOpen prog):dX W/\rY W/\tO W/\kV W:=by
 rw [MakeChecks.laidMetH_plain _ _ _ Zx] at h;obtain ⟨g3, t3, f, f3, D, g, i, j, k⟩ := Lib.laidMet.reads h (n := "vault/isa.forms") (d := Rows.laid_vault_isa_forms) (by simp [Ab, Rows.kernAnswersRow]);obtain ⟨g0, t0, l, f0, F, m, o, p, q⟩ := Lib.laidMet.reads h (n := "vault/mmu.uses") (d := Rows.laid_vault_mmu_uses) (by simp [Ab, Rows.kernAnswersRow]);obtain ⟨g1, t1, r, f1, G, s, t, v, w⟩ := Lib.laidMet.reads h (n := "vault/hart.misaligned") (d := Rows.laid_vault_hart_misaligned) (by simp [Ab, Rows.kernAnswersRow]);obtain ⟨g2, t2, x, f2, K, y, z, b, c⟩ := Lib.laidMet.reads h (n := "vault/caps.noSlot") (d := Rows.laid_vault_caps_noSlot) (by simp [Ab, Rows.kernAnswersRow]);obtain rfl:=Option.some.inj (aaF.symm.trans g);obtain rfl:=Option.some.inj (aeP.symm.trans i);obtain rfl:=Option.some.inj (aaD.symm.trans m);obtain rfl:=Option.some.inj (aeN.symm.trans o);obtain rfl:=Option.some.inj (aaE.symm.trans s);obtain rfl:=Option.some.inj (aeO.symm.trans t);obtain rfl:=Option.some.inj (gNs.symm.trans y);obtain rfl:=Option.some.inj (tNs.symm.trans z);refine ⟨ank j (anj k),?_,?_,?_⟩
 ·have a:=World.var?_cell aaD p;intro u hu;rw[a,a,a];exact ady q u hu
 ·have a:=World.var?_cell aaE v;intro u hu;rw[a];exact aj9 w u hu
 obtain⟨cs,hb,A,_⟩:=hs.1 1 #[.int .i64 0,.int .i64 0] 45 I Zx
 have hv : W.var? prog "vault/caps.noSlot" = some cs := by
  simp only[World.var?,gNs,Option.bind_some,hb]
 rw[hv] at b;injection b with b
 subst b;have B:cs.toList.length=2:=by simpa using A
 obtain⟨v0,v1,e⟩:=U9 _ B;rw[e] at c;obtain⟨rfl,rfl⟩:=aiJ c
 have C:cs=#[.int .i64 (-1),.int .i64 (-1)]:=by
  apply Array.toList_inj.1;rw[e]
 unfold kV;rw[hb,C]
theorem ajr{W:Z0}(h:W.ShapedOpen prog):∃m,kC m W:=
 cell_of_shapedOpen_int (t:=3) (zero:=#[.int .i64 0]) h I Zx rfl Zx Zx underlying3
end
end Go.Proofs.YtdjlkahbpdoemaaGreatDoor

import Derived.Test.YtdjlkahbpdoemaaGreatDoorCq18
set_option maxRecDepth 100000
set_option maxHeartbeats 8000000
set_option linter.unusedVariables false
set_option linter.unusedSimpArgs false
open Go Go.Vx Go.Proofs.Tryz Go.ChangeShapes Go.WideShapes Go.ChangeAt Go.RowKit
namespace Go.Proofs.YtdjlkahbpdoemaaGreatDoor
variable {K K2:Kn}{xs:List (Int×Int×Int)}{F:List (Nat×Obj)}{N bb kb mb pb qb sb tb:Nat}{w wv:Z0}{U:Z1}
theorem Yp:(prog.info? 73).map (·.size)=some sU.sz:=Zx
theorem anS(h:au U w kb mb sb pb qb bb tb K)(hw:bP K){p:Option Addr}{c:Nat}(hN:N=xs.length)(hr:lS sU U w p xs)(G:∀x∈xs,af x.1/\af x.2.1/\af x.2.2):
  Zk 39 #[.slice p N c,.func (.func 40) #[M kb] #[]] w λe w'=>Zr e (.tuple #[O (bf dH K xs 0).2.1,O ((bf dH K xs 0).2.2:Nat)])/\Hid (au U w' kb mb sb pb qb bb tb (bf dH K xs 0).1/\bP (bf dH K xs 0).1/\Zn U w w'):=by
 have⟨Q,z⟩:=Ze (bf dH K xs 0);rw[<-z];have P:Hid (fH dH xs Q K 0/\bP K/\aj U w kb mb sb pb qb bb tb [] K w):=⟨by rw[z];exact fH.start dH K xs,hw,aj.start h⟩;have uZ:=Y hr;have HR:=Y G;have R:=Y hN;have JH:(N:Int)<=9223372036854775807:=by have:=hr.n;omega
 have Kz:=Y (aN.ul h);clear h hw hr G z hN;go_enter func39,ntmps39
 go_wp2
 go_loopw [6,7,8,11] (λ_ _ _ d wr=>∃j:Nat,∃a,d=O (j:Int)/\j<=N/\Hid (fH dH xs Q a j/\bP a/\aj U w kb mb sb pb qb bb tb [] a wr)) (λ_ _ _ d _=>N - (RowKit.intOf d).toNat)
 case atStart=>exact⟨0,K,rfl,Z,P⟩
 case round=>
  clear P;obtain⟨j,a,rfl,hj,b⟩:=hrel;by_cases S:j<N
  ·have m:j<xs.length:=by have:=R.j;omega
   have h1:(j:Int)<(N:Int):=Z;have gF:0<=(j:Int)/\(j:Int)<(N:Int):=Z;have xe:=Zf j Z;obtain⟨g,o,rfl,Aq,T⟩:=(uZ.j.keep b.j.2.2.o).r Z;have i:=Y (T.Ij m);have n:=Y (HR.j _ (List.getElem_mem m));have f:Hid ((((dH a xs[j]).2=0)->fH dH xs Q (dH a xs[j]).1 (j+1))/\((dH a xs[j]).2≠0->Q=((dH a xs[j]).1,(dH a xs[j]).2,j))):=⟨λA=>b.j.1.next m A,λA=>b.j.1.bad m A⟩
   generalize xs[j]=x at i n f
   have r:Hid (∀F wv,aj U w kb mb sb pb qb bb tb F a wv->Zk 40 #[M kb,.agg (sU.cf x).toArray] wv λe w'=>Zr e (O (dH a x).2)/\Hid (aj U w kb mb sb pb qb bb tb F (dH a x).1 w')):=λF wv h=>h.call (λV h=>by
    have hw:=b.j.2.1;have hr:=n.j
    exact apM h hw.1 x.1 x.2.1 x.2.2 hr.1 hr.2.1)
   have s:Hid (bP (dH a x).1):=by
    have hw:=b.j.2.1;have hr:=n.j;exact hw.obj x hr.2.1
   obtain⟨KE,W⟩:=Ze (dH a x);rw[<-W] at f r s;obtain⟨cs,k⟩:=Ze (sU.cf x);have X:Hid (some sU.sz=some cs.length):=by rw[k];exact congrArg some (sU.len x).symm
   have dA:cs.length=3:=by rw[k];exact sU.len x
   have qC:∀v∈cs,v.oneCell'=true:=by rw[k];exact sU.one x
   rw[<-k] at i r;rw[show sU.sz=3 from rfl] at i;obtain⟨w8,B⟩:=Ze (wr.alloc (.cells #[O 0,O 0,O 0] 73));obtain⟨xb,t⟩:=Ze (wr.heap.size);have tA:aj U w kb mb sb pb qb bb tb [(xb,.cells [O 0,O 0,O 0].toArray 73 (0,0))] a w8:=by rw[B,t];exact b.j.2.2.alloc _
   obtain⟨w9,bV,C⟩:=tA.fill (cs:=cs) (by rw[dA];rfl) qC (λhu=>by have:=b.j.2.2.low xb hu;omega) (λq hq=>by cases hq);have D:=Y (C.Ii List.mem_cons_self);have na:=Y (r.j _ _ C);rw[B,t] at bV;rw[t] at D;clear W k qC tA C r n T Aq B t S;go_wp2_with (first|(refine wpList_load_mid rfl 73 (.tmp 14) rfl g (o+j*3) rfl cs _ i.j underlying73 rfl (by rw[Yp];exact X.j) ?_)|(refine wpList_load_mid rfl 73 (.tmp 7) rfl wr.heap.size 0 rfl cs _ D.j underlying73 rfl (by rw[Yp];exact X.j) ?_));refine na.j.m ?_;rintro e vx ⟨rfl,u⟩;clear bV D na i dA;obtain⟨K2,e2⟩:=KE;dsimp only at f s u|-;by_cases y:e2=0
   ·subst y;have lU:Hid (fH dH xs Q K2 (j+1)/\bP K2/\aj U w kb mb sb pb qb bb tb [] K2 vx):=⟨by first|exact f.j.1 rfl|exact f.j.1 trivial|exact f.j.1,s.j,u.j.tail⟩
    clear f
    go_wp2
    go_roundw
    case rel=>exact⟨j+1,K2,by go_num,Z,lU⟩
    case measure=>exact Zm
   have e1:(e2 !=0)=true:=by simpa using y
   have l:=Y (f.j.2 y);clear y f;go_wp2_with fail
   all_goals
    go_ret2;exact⟨Zv l.j,by rw[l.j];exact⟨u.j.fin.1,s.j,u.j.fin.2⟩⟩
  obtain rfl:j=N:=Z;have h1:¬(j:Int)<(j:Int):=Z;have l:=Y (b.j.1.fin (by have:=R.j;omega));clear S;go_wp2_with fail
  all_goals
   go_ret2;exact⟨Zv l.j,by rw[l.j];exact⟨b.j.2.2.fin.1,b.j.2.1,b.j.2.2.fin.2⟩⟩
theorem Yv:(prog.info? 77).map (·.size)=some oT.sz:=Zx
theorem anW(h:au U w kb mb sb pb qb bb tb K)(hw:bP K){p:Option Addr}{c:Nat}{xs:List (Int×Z2)}(hN:N=xs.length)(hr:lS oT U w p xs)(G:∀x∈xs,af x.1/\x.2.length<=140737488355328):
  Zk 41 #[.slice p N c,.func (.func 42) #[M kb] #[]] w λe w'=>Zr e (.tuple #[O (bf dB K xs 0).2.1,O ((bf dB K xs 0).2.2:Nat)])/\Hid (au U w' kb mb sb pb qb bb tb (bf dB K xs 0).1/\bP (bf dB K xs 0).1/\Zn U w w'):=by
 have⟨Q,z⟩:=Ze (bf dB K xs 0);rw[<-z];have H0:Hid (fH dB xs Q K 0/\bP K/\aj U w kb mb sb pb qb bb tb [] K w):=⟨by rw[z];exact fH.start dB K xs,hw,aj.start h⟩;have uZ:=Y hr;have HR:=Y G;have P:=Y hN;have JH:(N:Int)<=9223372036854775807:=by have:=hr.n;omega
 have Kz:=Y (aN.ul h);clear h hw hr G z hN;go_enter func41,ntmps41;go_wp2;go_loopw [6,7,8,11] (λ_ _ _ d wr=>∃j:Nat,∃a,d=O (j:Int)/\j<=N/\Hid (fH dB xs Q a j/\bP a/\aj U w kb mb sb pb qb bb tb [] a wr)) (λ_ _ _ d _=>N - (RowKit.intOf d).toNat)
 case atStart=>exact⟨0,K,rfl,Z,H0⟩
 case round=>
  obtain⟨j,a,rfl,hj,b⟩:=hrel;by_cases R:j<N
  ·have m:j<xs.length:=by have:=P.j;omega
   have h1:(j:Int)<(N:Int):=Z;have gF:0<=(j:Int)/\(j:Int)<(N:Int):=Z;have xe:=Zf j Z;obtain⟨g,o,rfl,Aq,S⟩:=(uZ.j.keep b.j.2.2.o).r Z;have i:=Y (S.Ij m);have n:=Y (HR.j _ (List.getElem_mem m));have f:Hid ((((dB a xs[j]).2=0)->fH dB xs Q (dB a xs[j]).1 (j+1))/\((dB a xs[j]).2≠0->Q=((dB a xs[j]).1,(dB a xs[j]).2,j))):=⟨λA=>b.j.1.next m A,λA=>b.j.1.bad m A⟩
   generalize xs[j]=x at i n f
   have r:Hid (∀F wv,aj U w kb mb sb pb qb bb tb F a wv->Zk 42 #[M kb,.agg (oT.cf x).toArray] wv λe w'=>Zr e (O (dB a x).2)/\Hid (aj U w kb mb sb pb qb bb tb F (dB a x).1 w')):=λF wv h=>h.call (λV h=>by
    have hw:=b.j.2.1;have hr:=n.j
    exact apP h x.1 x.2 hr.1 hr.2)
   have s:Hid (bP (dB a x).1):=by
    have hw:=b.j.2.1;have hr:=n.j;exact hw.Ty x
   obtain⟨KE,T⟩:=Ze (dB a x);rw[<-T] at f r s;obtain⟨cs,k⟩:=Ze (oT.cf x);have W:Hid (some oT.sz=some cs.length):=by rw[k];exact congrArg some (oT.len x).symm
   have X:cs.length=2:=by rw[k];exact oT.len x
   have qC:∀v∈cs,v.oneCell'=true:=by rw[k];exact oT.one x
   rw[<-k] at i r;rw[show oT.sz=2 from rfl] at i;obtain⟨w8,B⟩:=Ze (wr.alloc (.cells #[O 0,.string ⟨#[]⟩] 77));obtain⟨xb,t⟩:=Ze (wr.heap.size);have tA:aj U w kb mb sb pb qb bb tb [(xb,.cells [O 0,.string ⟨#[]⟩].toArray 77 (0,0))] a w8:=by rw[B,t];exact b.j.2.2.alloc _
   obtain⟨w9,bV,C⟩:=tA.fill (cs:=cs) (by rw[X];rfl) qC (λhu=>by have:=b.j.2.2.low xb hu;omega) (λq hq=>by cases hq);have D:=Y (C.Ii List.mem_cons_self);have na:=Y (r.j _ _ C);rw[B,t] at bV;rw[t] at D;clear T k qC tA C r n S Aq B t R;go_wp2_with (first|(refine wpList_load_mid rfl 77 (.tmp 14) rfl g (o+j*2) rfl cs _ i.j underlying77 rfl (by rw[Yv];exact W.j) ?_)|(refine wpList_load_mid rfl 77 (.tmp 7) rfl wr.heap.size 0 rfl cs _ D.j underlying77 rfl (by rw[Yv];exact W.j) ?_));refine na.j.m ?_;rintro e vx ⟨rfl,u⟩;clear bV D na i X;obtain⟨K2,e2⟩:=KE;dsimp only at f s u|-;by_cases y:e2=0
   ·subst y;have lU:Hid (fH dB xs Q K2 (j+1)/\bP K2/\aj U w kb mb sb pb qb bb tb [] K2 vx):=⟨by first|exact f.j.1 rfl|exact f.j.1 trivial|exact f.j.1,s.j,u.j.tail⟩
    clear f
    go_wp2
    go_roundw
    case rel=>exact⟨j+1,K2,by go_num,Z,lU⟩
    case measure=>exact Zm
   have e1:(e2 !=0)=true:=by simpa using y
   have l:=Y (f.j.2 y);clear y f;go_wp2_with fail
   all_goals
    go_ret2;exact⟨Zv l.j,by rw[l.j];exact⟨u.j.fin.1,s.j,u.j.fin.2⟩⟩
  obtain rfl:j=N:=Z;have h1:¬(j:Int)<(j:Int):=Z;have l:=Y (b.j.1.fin (by have:=P.j;omega));clear R;go_wp2_with fail
  all_goals
   go_ret2;exact⟨Zv l.j,by rw[l.j];exact⟨b.j.2.2.fin.1,b.j.2.1,b.j.2.2.fin.2⟩⟩
end Go.Proofs.YtdjlkahbpdoemaaGreatDoor

import Derived.Test.YtdjlkahbpdoemaaGreatDoorCq18
set_option maxRecDepth 100000
set_option maxHeartbeats 8000000
set_option linter.unusedVariables false
set_option linter.unusedSimpArgs false
open Go Go.Vx Go.Proofs.Tryz Go.ChangeShapes Go.WideShapes Go.ChangeAt Go.RowKit
namespace Go.Proofs.YtdjlkahbpdoemaaGreatDoor
variable {K K2:Kn}{xs:List (En)}{F:List (Nat×Obj)}{N bb kb mb pb qb sb tb:Nat}{w wv:Z0}{U:Z1}
theorem Yt:(prog.info? 86).map (·.size)=some tG.sz:=Zx
theorem anV(h:au U w kb mb sb pb qb bb tb K)(hw:bP K){p:Option Addr}{c:Nat}(hN:N=xs.length)(hr:lS tG U w p xs)(G:∀x∈xs,ot x.cap/\af x.cap.num/\af x.cap.rights/\af x.at'.1/\af x.cw.1):
  Zk 43 #[.slice p N c,.func (.func 44) #[M kb] #[]] w λe w'=>Zr e (.tuple #[O (bf dI K xs 0).2.1,O ((bf dI K xs 0).2.2:Nat)])/\Hid (au U w' kb mb sb pb qb bb tb (bf dI K xs 0).1/\bP (bf dI K xs 0).1/\Zn U w w'):=by
 have⟨Q,z⟩:=Ze (bf dI K xs 0);rw[<-z];have P:Hid (fH dI xs Q K 0/\bP K/\aj U w kb mb sb pb qb bb tb [] K w):=⟨by rw[z];exact fH.start dI K xs,hw,aj.start h⟩;have uZ:=Y hr;have HR:=Y G;have R:=Y hN;have JH:(N:Int)<=9223372036854775807:=by have:=hr.n;omega
 have Kz:=Y (aN.ul h);clear h hw hr G z hN;go_enter func43,ntmps43
 go_wp2
 go_loopw [6,7,8,11] (λ_ _ _ d wr=>∃j:Nat,∃a,d=O (j:Int)/\j<=N/\Hid (fH dI xs Q a j/\bP a/\aj U w kb mb sb pb qb bb tb [] a wr)) (λ_ _ _ d _=>N - (RowKit.intOf d).toNat)
 case atStart=>exact⟨0,K,rfl,Z,P⟩
 case round=>
  clear P;obtain⟨j,a,rfl,hj,b⟩:=hrel;by_cases S:j<N
  ·have m:j<xs.length:=by have:=R.j;omega
   have h1:(j:Int)<(N:Int):=Z;have gF:0<=(j:Int)/\(j:Int)<(N:Int):=Z;have xe:=Zf j Z;obtain⟨g,o,rfl,Aq,T⟩:=(uZ.j.keep b.j.2.2.o).r Z;have i:=Y (T.Ij m);have n:=Y (HR.j _ (List.getElem_mem m));have f:Hid ((((dI a xs[j]).2=0)->fH dI xs Q (dI a xs[j]).1 (j+1))/\((dI a xs[j]).2≠0->Q=((dI a xs[j]).1,(dI a xs[j]).2,j))):=⟨λA=>b.j.1.next m A,λA=>b.j.1.bad m A⟩
   generalize xs[j]=x at i n f
   have r:Hid (∀F wv,aj U w kb mb sb pb qb bb tb F a wv->Zk 44 #[M kb,.agg (tG.cf x).toArray] wv λe w'=>Zr e (O (dI a x).2)/\Hid (aj U w kb mb sb pb qb bb tb F (dI a x).1 w')):=λF wv h=>h.call (λV h=>by
    have hw:=b.j.2.1;have hr:=n.j
    exact apO h hw.1 x hr.1 hr.2.1 hr.2.2.2.1 hr.2.2.2.2)
   have s:Hid (bP (dI a x).1):=by
    have hw:=b.j.2.1;have hr:=n.j;exact hw.cap x hr.1 hr.2.1
   obtain⟨KE,W⟩:=Ze (dI a x);rw[<-W] at f r s;obtain⟨cs,k⟩:=Ze (tG.cf x);have X:Hid (some tG.sz=some cs.length):=by rw[k];exact congrArg some (tG.len x).symm
   have dA:cs.length=12:=by rw[k];exact tG.len x
   have qC:∀v∈cs,v.oneCell'=true:=by rw[k];exact tG.one x
   rw[<-k] at i r;rw[show tG.sz=12 from rfl] at i;obtain⟨w8,B⟩:=Ze (wr.alloc (.cells #[O 0,O 0,O 0,O 0,O 0,J 0,J 0,O 0,O 0,J 0,O 0,O 0] 86));obtain⟨xb,t⟩:=Ze (wr.heap.size);have tA:aj U w kb mb sb pb qb bb tb [(xb,.cells [O 0,O 0,O 0,O 0,O 0,J 0,J 0,O 0,O 0,J 0,O 0,O 0].toArray 86 (0,0))] a w8:=by rw[B,t];exact b.j.2.2.alloc _
   obtain⟨w9,bV,C⟩:=tA.fill (cs:=cs) (by rw[dA];rfl) qC (λhu=>by have:=b.j.2.2.low xb hu;omega) (λq hq=>by cases hq);have D:=Y (C.Ii List.mem_cons_self);have na:=Y (r.j _ _ C);rw[B,t] at bV;rw[t] at D;clear W k qC tA C r n T Aq B t S;go_wp2_with (first|(refine wpList_load_mid rfl 86 (.tmp 14) rfl g (o+j*12) rfl cs _ i.j underlying86 rfl (by rw[Yt];exact X.j) ?_)|(refine wpList_load_mid rfl 86 (.tmp 7) rfl wr.heap.size 0 rfl cs _ D.j underlying86 rfl (by rw[Yt];exact X.j) ?_));refine na.j.m ?_;rintro e vx ⟨rfl,u⟩;clear bV D na i dA;obtain⟨K2,e2⟩:=KE;dsimp only at f s u|-;by_cases y:e2=0
   ·subst y;have lU:Hid (fH dI xs Q K2 (j+1)/\bP K2/\aj U w kb mb sb pb qb bb tb [] K2 vx):=⟨by first|exact f.j.1 rfl|exact f.j.1 trivial|exact f.j.1,s.j,u.j.tail⟩
    clear f
    go_wp2
    go_roundw
    case rel=>exact⟨j+1,K2,by go_num,Z,lU⟩
    case measure=>exact Zm
   have e1:(e2 !=0)=true:=by simpa using y
   have l:=Y (f.j.2 y);clear y f;go_wp2_with fail
   all_goals
    go_ret2;exact⟨Zv l.j,by rw[l.j];exact⟨u.j.fin.1,s.j,u.j.fin.2⟩⟩
  obtain rfl:j=N:=Z;have h1:¬(j:Int)<(j:Int):=Z;have l:=Y (b.j.1.fin (by have:=R.j;omega));clear S;go_wp2_with fail
  all_goals
   go_ret2;exact⟨Zv l.j,by rw[l.j];exact⟨b.j.2.2.fin.1,b.j.2.1,b.j.2.2.fin.2⟩⟩
theorem Yq:(prog.info? 79).map (·.size)=some sW.sz:=Zx
theorem anT(h:au U w kb mb sb pb qb bb tb K)(hw:bP K){p:Option Addr}{c:Nat}{xs:List (Mp)}(hN:N=xs.length)(hr:lS sW U w p xs)(G:∀x∈xs,af x.root/\x.va<4294967296/\af x.rights/\af x.at'.1):
  Zk 45 #[.slice p N c,.func (.func 46) #[M kb] #[]] w λe w'=>Zr e (.tuple #[O (bf dj K xs 0).2.1,O ((bf dj K xs 0).2.2:Nat)])/\Hid (au U w' kb mb sb pb qb bb tb (bf dj K xs 0).1/\bP (bf dj K xs 0).1/\Zn U w w'):=by
 have⟨Q,z⟩:=Ze (bf dj K xs 0);rw[<-z];have P:Hid (fH dj xs Q K 0/\bP K/\aj U w kb mb sb pb qb bb tb [] K w):=⟨by rw[z];exact fH.start dj K xs,hw,aj.start h⟩;have uZ:=Y hr;have HR:=Y G;have R:=Y hN;have JH:(N:Int)<=9223372036854775807:=by have:=hr.n;omega
 have Kz:=Y (aN.ul h);clear h hw hr G z hN;go_enter func45,ntmps45;go_wp2
 go_loopw [6,7,8,11] (λ_ _ _ d wr=>∃j:Nat,∃a,d=O (j:Int)/\j<=N/\Hid (fH dj xs Q a j/\bP a/\aj U w kb mb sb pb qb bb tb [] a wr)) (λ_ _ _ d _=>N - (RowKit.intOf d).toNat)
 case atStart=>exact⟨0,K,rfl,Z,P⟩
 case round=>
  clear P;obtain⟨j,a,rfl,hj,b⟩:=hrel;by_cases S:j<N
  ·have m:j<xs.length:=by have:=R.j;omega
   have h1:(j:Int)<(N:Int):=Z;have gF:0<=(j:Int)/\(j:Int)<(N:Int):=Z;have xe:=Zf j Z;obtain⟨g,o,rfl,Aq,T⟩:=(uZ.j.keep b.j.2.2.o).r Z;have i:=Y (T.Ij m);have n:=Y (HR.j _ (List.getElem_mem m));have f:Hid ((((dj a xs[j]).2=0)->fH dj xs Q (dj a xs[j]).1 (j+1))/\((dj a xs[j]).2≠0->Q=((dj a xs[j]).1,(dj a xs[j]).2,j))):=⟨λA=>b.j.1.next m A,λA=>b.j.1.bad m A⟩
   generalize xs[j]=x at i n f
   have r:Hid (∀F wv,aj U w kb mb sb pb qb bb tb F a wv->Zk 46 #[M kb,.agg (sW.cf x).toArray] wv λe w'=>Zr e (O (dj a x).2)/\Hid (aj U w kb mb sb pb qb bb tb F (dj a x).1 w')):=λF wv h=>h.call (λV h=>by
    have hw:=b.j.2.1;have hr:=n.j
    exact apN h hw.1 x.at'.1 x.at'.2 x.root x.va x.rights hr.2.2.2 hr.1 hr.2.1 hr.2.2.1)
   have s:Hid (bP (dj a x).1):=by
    have hw:=b.j.2.1;have hr:=n.j;exact hw.map x
   obtain⟨KE,W⟩:=Ze (dj a x);rw[<-W] at f r s;obtain⟨cs,k⟩:=Ze (sW.cf x);have X:Hid (some sW.sz=some cs.length):=by rw[k];exact congrArg some (sW.len x).symm
   have dA:cs.length=5:=by rw[k];exact sW.len x
   have qC:∀v∈cs,v.oneCell'=true:=by rw[k];exact sW.one x
   rw[<-k] at i r;rw[show sW.sz=5 from rfl] at i;obtain⟨w8,B⟩:=Ze (wr.alloc (.cells #[O 0,O 0,O 0,J 0,O 0] 79));obtain⟨xb,t⟩:=Ze (wr.heap.size);have tA:aj U w kb mb sb pb qb bb tb [(xb,.cells [O 0,O 0,O 0,J 0,O 0].toArray 79 (0,0))] a w8:=by rw[B,t];exact b.j.2.2.alloc _
   obtain⟨w9,bV,C⟩:=tA.fill (cs:=cs) (by rw[dA];rfl) qC (λhu=>by have:=b.j.2.2.low xb hu;omega) (λq hq=>by cases hq);have D:=Y (C.Ii List.mem_cons_self);have na:=Y (r.j _ _ C);rw[B,t] at bV;rw[t] at D;clear W k qC tA C r n T Aq B t S;go_wp2_with (first|(refine wpList_load_mid rfl 79 (.tmp 14) rfl g (o+j*5) rfl cs _ i.j underlying79 rfl (by rw[Yq];exact X.j) ?_)|(refine wpList_load_mid rfl 79 (.tmp 7) rfl wr.heap.size 0 rfl cs _ D.j underlying79 rfl (by rw[Yq];exact X.j) ?_));refine na.j.m ?_;rintro e vx ⟨rfl,u⟩;clear bV D na i dA;obtain⟨K2,e2⟩:=KE;dsimp only at f s u|-;by_cases y:e2=0
   ·subst y;have lU:Hid (fH dj xs Q K2 (j+1)/\bP K2/\aj U w kb mb sb pb qb bb tb [] K2 vx):=⟨by first|exact f.j.1 rfl|exact f.j.1 trivial|exact f.j.1,s.j,u.j.tail⟩
    clear f
    go_wp2
    go_roundw
    case rel=>exact⟨j+1,K2,by go_num,Z,lU⟩
    case measure=>exact Zm
   have e1:(e2 !=0)=true:=by simpa using y
   have l:=Y (f.j.2 y);clear y f;go_wp2_with fail
   all_goals
    go_ret2;exact⟨Zv l.j,by rw[l.j];exact⟨u.j.fin.1,s.j,u.j.fin.2⟩⟩
  obtain rfl:j=N:=Z;have h1:¬(j:Int)<(j:Int):=Z;have l:=Y (b.j.1.fin (by have:=R.j;omega));clear S;go_wp2_with fail
  all_goals
   go_ret2;exact⟨Zv l.j,by rw[l.j];exact⟨b.j.2.2.fin.1,b.j.2.1,b.j.2.2.fin.2⟩⟩
end Go.Proofs.YtdjlkahbpdoemaaGreatDoor

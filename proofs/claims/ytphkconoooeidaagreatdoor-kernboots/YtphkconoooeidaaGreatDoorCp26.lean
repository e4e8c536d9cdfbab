import Derived.Test.YtphkconoooeidaaGreatDoorCp25
set_option maxRecDepth 100000
set_option maxHeartbeats 8000000
set_option linter.unusedVariables false
set_option linter.unusedSimpArgs false
open Go Go.Vx Go.Proofs.Tryz Go.ChangeShapes Go.WideShapes Go.ChangeAt Go.RowKit
namespace Go.Proofs.YtphkconoooeidaaGreatDoor
section
variable {kb mb sb pb qb bb tb:Nat} {U V S:Nat->Prop} {w wv w1 w2:World} {K K2:Kn} {F:List (Nat×Obj)}
theorem Qw:(prog.info? 110).map (·.size)=some mU.sz:=Zx
theorem aeP (h:ax U w kb mb sb pb qb bb tb K) (hw:bI K) {p:Option Addr} {N c:Nat} {xs:List (Tc)} (hN:N=xs.length) (hr:jM mU U w p xs) (hR:∀x∈xs,xe x/\aj x.num):
  Zk 51 #[.slice p N c,.func (.func 52) #[Zp kb] #[]] w λe w'=>Zr e (.tuple #[Zi (bz bP K xs 0).2.1,Zi ((bz bP K xs 0).2.2:Nat)])/\Hid (ax U w' kb mb sb pb qb bb tb (bz bP K xs 0).1/\bI (bz bP K xs 0).1/\Zn U w w'):=by
 obtain⟨Q,hQ⟩:=Ze (bz bP K xs 0);rw[<-hQ];have H0:Hid (dn bP xs Q K 0/\bI K/\aq U w kb mb sb pb qb bb tb [] K w):=⟨by rw[hQ];exact dn.start bP K xs,hw,aq.start h⟩
 have im:=aa hr;have HR:=aa hR;have HN:=aa hN;have yK:(N:Int)<=9223372036854775807:=by have:=hr.n;omega
 have EP:=aa (aD.ul h);clear h hw hr hR hQ hN;go_enter func51,ntmps51;go_wp2_with fail
 go_loopw [6,7,8,11] (λ_ _ _ d wr=>∃j:Nat,∃K',d=Zi (j:Int)/\j<=N/\Hid (dn bP xs Q K' j/\bI K'/\aq U w kb mb sb pb qb bb tb [] K' wr)) (λ_ _ _ d _=>N - (RowKit.intOf d).toNat)
 case atStart=>exact⟨0,K,rfl,Zo,H0⟩
 case round=>
  clear H0;obtain⟨j,K',rfl,hj,HI⟩:=hrel;by_cases ah:j<N
  ·have bg:j<xs.length:=by have:=HN.j;omega
   have h1:(j:Int)<(N:Int):=Zo;have bf:0<=(j:Int)/\(j:Int)<(N:Int):=Zo;have jT:=Zf j Zo;obtain⟨g,o,rfl,gR,dM⟩:=(im.j.keep HI.j.2.2.o).r Zo;have dp:=aa (dM.Bv bg);have cW:=aa (HR.j _ (List.getElem_mem bg));have aG:Hid ((((bP K' xs[j]).2=0)->dn bP xs Q (bP K' xs[j]).1 (j+1))/\((bP K' xs[j]).2≠0->Q=((bP K' xs[j]).1,(bP K' xs[j]).2,j))):=⟨λh0=>HI.j.1.next bg h0,λh0=>HI.j.1.bad bg h0⟩
   generalize xs[j]=x at dp cW aG
   have cC:Hid (∀F wv,aq U w kb mb sb pb qb bb tb F K' wv->Zk 52 #[Zp kb,.agg (mU.cf x).toArray] wv λe w'=>Zr e (Zi (bP K' x).2)/\Hid (aq U w kb mb sb pb qb bb tb F (bP K' x).1 w')):=λF wv h=>h.call (λV h=>by
    have hw:=HI.j.2.1;have hr:=cW.j
    exact ag3 h hw.1 x hr.2)
   have fR:Hid (bI (bP K' x).1):=by
    have hw:=HI.j.2.1;have hr:=cW.j;exact hw.dh x hr.1
   obtain⟨KE,aS⟩:=Ze (bP K' x);rw[<-aS] at aG cC fR;obtain⟨cs,du⟩:=Ze (mU.cf x);have mc:Hid (some mU.sz=some cs.length):=by rw[du];exact congrArg some (mU.len x).symm
   have mF:cs.length=37:=by rw[du];exact mU.len x
   have my:∀v∈cs,v.oneCell'=true:=by rw[du];exact mU.one x
   rw[<-du] at dp cC;rw[show mU.sz=37 from rfl] at dp;obtain⟨w8,dt⟩:=Ze (wr.alloc (.cells #[Zi 0,Zi 0,Zi 0,.bool false,Zu 0,Zu 0,Zu 0,Zu 0,Zu 0,Zu 0,Zu 0,Zu 0,Zu 0,Zu 0,Zu 0,Zu 0,Zu 0,Zu 0,Zu 0,Zu 0,Zu 0,Zu 0,Zu 0,Zu 0,Zu 0,Zu 0,Zu 0,Zu 0,Zu 0,Zu 0,Zu 0,Zu 0,Zu 0,Zu 0,Zu 0,Zu 0,Zu 0] 110));obtain⟨xb,bQ⟩:=Ze (wr.heap.size);have lT:aq U w kb mb sb pb qb bb tb [(xb,.cells [Zi 0,Zi 0,Zi 0,.bool false,Zu 0,Zu 0,Zu 0,Zu 0,Zu 0,Zu 0,Zu 0,Zu 0,Zu 0,Zu 0,Zu 0,Zu 0,Zu 0,Zu 0,Zu 0,Zu 0,Zu 0,Zu 0,Zu 0,Zu 0,Zu 0,Zu 0,Zu 0,Zu 0,Zu 0,Zu 0,Zu 0,Zu 0,Zu 0,Zu 0,Zu 0,Zu 0,Zu 0].toArray 110 (0,0))] K' w8:=by rw[dt,bQ];exact HI.j.2.2.alloc _
   obtain⟨w9,cG,kp⟩:=lT.fill (cs:=cs) (by rw[mF];rfl) my (λhu=>by have:=HI.j.2.2.low xb hu;omega) (λq hq=>by cases hq);have kA:=aa (kp.Bu List.mem_cons_self);have oF:=aa (cC.j _ _ kp);rw[dt,bQ] at cG;rw[bQ] at kA;clear aS du my lT kp cC cW dM gR dt bQ ah;go_wp2_with (first|(refine wpList_load_mid rfl 110 (.tmp 14) rfl g (o+j*37) rfl cs _ dp.j underlying110 rfl (by rw[Qw];exact mc.j) ?_)|(refine wpList_load_mid rfl 110 (.tmp 7) rfl wr.heap.size 0 rfl cs _ kA.j underlying110 rfl (by rw[Qw];exact mc.j) ?_));refine oF.j.m ?_;rintro e ji ⟨rfl,eX⟩;clear cG kA oF dp mF;obtain⟨K2,e2⟩:=KE;dsimp only at aG fR eX|-;by_cases e0:e2=0
   ·subst e0;have dg:Hid (dn bP xs Q K2 (j+1)/\bI K2/\aq U w kb mb sb pb qb bb tb [] K2 ji):=⟨by first|exact aG.j.1 rfl|exact aG.j.1 trivial|exact aG.j.1,fR.j,eX.j.tail⟩
    clear aG;go_wp2_with fail;go_roundw
    case rel=>exact⟨j+1,K2,by go_num,Zo,dg⟩
    case measure=>exact Zm
   ·have e1:(e2 !=0)=true:=by simpa using e0
    have HE:=aa (aG.j.2 e0);clear e0 aG;go_wp2_with fail
    all_goals
     go_ret2;exact⟨Zv HE.j,by rw[HE.j];exact⟨eX.j.fin.1,fR.j,eX.j.fin.2⟩⟩
  ·obtain rfl:j=N:=Zo;have h1:¬(j:Int)<(j:Int):=Zo;have HE:=aa (HI.j.1.fin (by have:=HN.j;omega));clear ah;go_wp2_with fail
   all_goals
    go_ret2;exact⟨Zv HE.j,by rw[HE.j];exact⟨HI.j.2.2.fin.1,HI.j.2.1,HI.j.2.2.fin.2⟩⟩
theorem QA:(prog.info? 112).map (·.size)=some pN.sz:=Zx
theorem aeS (h:ax U w kb mb sb pb qb bb tb K) (hw:bI K) {p:Option Addr} {N c:Nat} {xs:List (Int×Int×Int)} (hN:N=xs.length) (hr:jM pN U w p xs) (hR:∀x∈xs,aj x.1/\aj x.2.1):
  Zk 53 #[.slice p N c,.func (.func 54) #[Zp kb] #[]] w λe w'=>Zr e (.tuple #[Zi (bz cF K xs 0).2.1,Zi ((bz cF K xs 0).2.2:Nat)])/\Hid (ax U w' kb mb sb pb qb bb tb (bz cF K xs 0).1/\bI (bz cF K xs 0).1/\Zn U w w'):=by
 obtain⟨Q,hQ⟩:=Ze (bz cF K xs 0);rw[<-hQ];have H0:Hid (dn cF xs Q K 0/\bI K/\aq U w kb mb sb pb qb bb tb [] K w):=⟨by rw[hQ];exact dn.start cF K xs,hw,aq.start h⟩
 have im:=aa hr;have HR:=aa hR;have HN:=aa hN;have yK:(N:Int)<=9223372036854775807:=by have:=hr.n;omega
 have EP:=aa (aD.ul h);clear h hw hr hR hQ hN;go_enter func53,ntmps53;go_wp2_with fail
 go_loopw [6,7,8,11] (λ_ _ _ d wr=>∃j:Nat,∃K',d=Zi (j:Int)/\j<=N/\Hid (dn cF xs Q K' j/\bI K'/\aq U w kb mb sb pb qb bb tb [] K' wr)) (λ_ _ _ d _=>N - (RowKit.intOf d).toNat)
 case atStart=>exact⟨0,K,rfl,Zo,H0⟩
 case round=>
  clear H0;obtain⟨j,K',rfl,hj,HI⟩:=hrel;by_cases ah:j<N
  ·have bg:j<xs.length:=by have:=HN.j;omega
   have h1:(j:Int)<(N:Int):=Zo;have bf:0<=(j:Int)/\(j:Int)<(N:Int):=Zo;have jT:=Zf j Zo;obtain⟨g,o,rfl,gR,dM⟩:=(im.j.keep HI.j.2.2.o).r Zo;have dp:=aa (dM.Bv bg);have cW:=aa (HR.j _ (List.getElem_mem bg));have aG:Hid ((((cF K' xs[j]).2=0)->dn cF xs Q (cF K' xs[j]).1 (j+1))/\((cF K' xs[j]).2≠0->Q=((cF K' xs[j]).1,(cF K' xs[j]).2,j))):=⟨λh0=>HI.j.1.next bg h0,λh0=>HI.j.1.bad bg h0⟩
   generalize xs[j]=x at dp cW aG
   have cC:Hid (∀F wv,aq U w kb mb sb pb qb bb tb F K' wv->Zk 54 #[Zp kb,.agg (pN.cf x).toArray] wv λe w'=>Zr e (Zi (cF K' x).2)/\Hid (aq U w kb mb sb pb qb bb tb F (cF K' x).1 w')):=λF wv h=>h.call (λV h=>by
    have hw:=HI.j.2.1;have hr:=cW.j
    exact aga h hw.1.ll hw.2 x.1 x.2.1 x.2.2 hr.2)
   have fR:Hid (bI (cF K' x).1):=by
    have hw:=HI.j.2.1;have hr:=cW.j;exact hw.irq x
   obtain⟨KE,aS⟩:=Ze (cF K' x);rw[<-aS] at aG cC fR;obtain⟨cs,du⟩:=Ze (pN.cf x);have mc:Hid (some pN.sz=some cs.length):=by rw[du];exact congrArg some (pN.len x).symm
   have mF:cs.length=3:=by rw[du];exact pN.len x
   have my:∀v∈cs,v.oneCell'=true:=by rw[du];exact pN.one x
   rw[<-du] at dp cC;rw[show pN.sz=3 from rfl] at dp;obtain⟨w8,dt⟩:=Ze (wr.alloc (.cells #[Zi 0,Zi 0,Zu 0] 112));obtain⟨xb,bQ⟩:=Ze (wr.heap.size);have lT:aq U w kb mb sb pb qb bb tb [(xb,.cells [Zi 0,Zi 0,Zu 0].toArray 112 (0,0))] K' w8:=by rw[dt,bQ];exact HI.j.2.2.alloc _
   obtain⟨w9,cG,kp⟩:=lT.fill (cs:=cs) (by rw[mF];rfl) my (λhu=>by have:=HI.j.2.2.low xb hu;omega) (λq hq=>by cases hq);have kA:=aa (kp.Bu List.mem_cons_self);have oF:=aa (cC.j _ _ kp);rw[dt,bQ] at cG;rw[bQ] at kA;clear aS du my lT kp cC cW dM gR dt bQ ah;go_wp2_with (first|(refine wpList_load_mid rfl 112 (.tmp 14) rfl g (o+j*3) rfl cs _ dp.j underlying112 rfl (by rw[QA];exact mc.j) ?_)|(refine wpList_load_mid rfl 112 (.tmp 7) rfl wr.heap.size 0 rfl cs _ kA.j underlying112 rfl (by rw[QA];exact mc.j) ?_));refine oF.j.m ?_;rintro e ji ⟨rfl,eX⟩;clear cG kA oF dp mF;obtain⟨K2,e2⟩:=KE;dsimp only at aG fR eX|-;by_cases e0:e2=0
   ·subst e0;have dg:Hid (dn cF xs Q K2 (j+1)/\bI K2/\aq U w kb mb sb pb qb bb tb [] K2 ji):=⟨by first|exact aG.j.1 rfl|exact aG.j.1 trivial|exact aG.j.1,fR.j,eX.j.tail⟩
    clear aG;go_wp2_with fail;go_roundw
    case rel=>exact⟨j+1,K2,by go_num,Zo,dg⟩
    case measure=>exact Zm
   ·have e1:(e2 !=0)=true:=by simpa using e0
    have HE:=aa (aG.j.2 e0);clear e0 aG;go_wp2_with fail
    all_goals
     go_ret2;exact⟨Zv HE.j,by rw[HE.j];exact⟨eX.j.fin.1,fR.j,eX.j.fin.2⟩⟩
  ·obtain rfl:j=N:=Zo;have h1:¬(j:Int)<(j:Int):=Zo;have HE:=aa (HI.j.1.fin (by have:=HN.j;omega));clear ah;go_wp2_with fail
   all_goals
    go_ret2;exact⟨Zv HE.j,by rw[HE.j];exact⟨HI.j.2.2.fin.1,HI.j.2.1,HI.j.2.2.fin.2⟩⟩
end
end Go.Proofs.YtphkconoooeidaaGreatDoor

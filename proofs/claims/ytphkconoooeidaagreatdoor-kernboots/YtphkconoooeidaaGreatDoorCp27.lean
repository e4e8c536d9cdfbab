import Derived.Test.YtphkconoooeidaaGreatDoorCp25
set_option maxRecDepth 100000
set_option maxHeartbeats 8000000
set_option linter.unusedVariables false
set_option linter.unusedSimpArgs false
open Go Go.Vx Go.Proofs.Tryz Go.ChangeShapes Go.WideShapes Go.ChangeAt Go.RowKit
namespace Go.Proofs.YtphkconoooeidaaGreatDoor
section
variable {kb mb sb pb qb bb tb:Nat} {U V S:Nat->Prop} {w wv w1 w2:World} {K K2:Kn} {F:List (Nat×Obj)}
theorem QC:(prog.info? 99).map (·.size)=some dP.sz:=Zx
theorem aeT (h:ax U w kb mb sb pb qb bb tb K) (hw:bI K) {p:Option Addr} {N c:Nat} {xs:List (En)} (hN:N=xs.length) (hr:jM dP U w p xs) (hR:∀x∈xs,kE x.cap/\aj x.cap.num/\aj x.cap.rights/\aj x.at'.1/\aj x.aW.1):
  Zk 47 #[.slice p N c,.func (.func 48) #[Zp kb] #[]] w λe w'=>Zr e (.tuple #[Zi (bz bY K xs 0).2.1,Zi ((bz bY K xs 0).2.2:Nat)])/\Hid (ax U w' kb mb sb pb qb bb tb (bz bY K xs 0).1/\bI (bz bY K xs 0).1/\Zn U w w'):=by
 obtain⟨Q,hQ⟩:=Ze (bz bY K xs 0);rw[<-hQ];have H0:Hid (dn bY xs Q K 0/\bI K/\aq U w kb mb sb pb qb bb tb [] K w):=⟨by rw[hQ];exact dn.start bY K xs,hw,aq.start h⟩
 have im:=aa hr;have HR:=aa hR;have HN:=aa hN;have yK:(N:Int)<=9223372036854775807:=by have:=hr.n;omega
 have EP:=aa (aD.ul h);clear h hw hr hR hQ hN;go_enter func47,ntmps47;go_wp2_with fail
 go_loopw [6,7,8,11] (λ_ _ _ d wr=>∃j:Nat,∃K',d=Zi (j:Int)/\j<=N/\Hid (dn bY xs Q K' j/\bI K'/\aq U w kb mb sb pb qb bb tb [] K' wr)) (λ_ _ _ d _=>N - (RowKit.intOf d).toNat)
 case atStart=>exact⟨0,K,rfl,Zo,H0⟩
 case round=>
  clear H0;obtain⟨j,K',rfl,hj,HI⟩:=hrel;by_cases ah:j<N
  ·have bg:j<xs.length:=by have:=HN.j;omega
   have h1:(j:Int)<(N:Int):=Zo;have bf:0<=(j:Int)/\(j:Int)<(N:Int):=Zo;have jT:=Zf j Zo;obtain⟨g,o,rfl,gR,dM⟩:=(im.j.keep HI.j.2.2.o).r Zo;have dp:=aa (dM.Bv bg);have cW:=aa (HR.j _ (List.getElem_mem bg));have aG:Hid ((((bY K' xs[j]).2=0)->dn bY xs Q (bY K' xs[j]).1 (j+1))/\((bY K' xs[j]).2≠0->Q=((bY K' xs[j]).1,(bY K' xs[j]).2,j))):=⟨λh0=>HI.j.1.next bg h0,λh0=>HI.j.1.bad bg h0⟩
   generalize xs[j]=x at dp cW aG
   have cC:Hid (∀F wv,aq U w kb mb sb pb qb bb tb F K' wv->Zk 48 #[Zp kb,.agg (dP.cf x).toArray] wv λe w'=>Zr e (Zi (bY K' x).2)/\Hid (aq U w kb mb sb pb qb bb tb F (bY K' x).1 w')):=λF wv h=>h.call (λV h=>by
    have hw:=HI.j.2.1;have hr:=cW.j
    exact agb h hw.1 x hr.1 hr.2.1 hr.2.2.2.1 hr.2.2.2.2)
   have fR:Hid (bI (bY K' x).1):=by
    have hw:=HI.j.2.1;have hr:=cW.j;exact hw.cap x hr.1 hr.2.1
   obtain⟨KE,aS⟩:=Ze (bY K' x);rw[<-aS] at aG cC fR;obtain⟨cs,du⟩:=Ze (dP.cf x);have mc:Hid (some dP.sz=some cs.length):=by rw[du];exact congrArg some (dP.len x).symm
   have mF:cs.length=12:=by rw[du];exact dP.len x
   have my:∀v∈cs,v.oneCell'=true:=by rw[du];exact dP.one x
   rw[<-du] at dp cC;rw[show dP.sz=12 from rfl] at dp;obtain⟨w8,dt⟩:=Ze (wr.alloc (.cells #[Zi 0,Zi 0,Zi 0,Zi 0,Zi 0,Zu 0,Zu 0,Zi 0,Zi 0,Zu 0,Zi 0,Zi 0] 99));obtain⟨xb,bQ⟩:=Ze (wr.heap.size);have lT:aq U w kb mb sb pb qb bb tb [(xb,.cells [Zi 0,Zi 0,Zi 0,Zi 0,Zi 0,Zu 0,Zu 0,Zi 0,Zi 0,Zu 0,Zi 0,Zi 0].toArray 99 (0,0))] K' w8:=by rw[dt,bQ];exact HI.j.2.2.alloc _
   obtain⟨w9,cG,kp⟩:=lT.fill (cs:=cs) (by rw[mF];rfl) my (λhu=>by have:=HI.j.2.2.low xb hu;omega) (λq hq=>by cases hq);have kA:=aa (kp.Bu List.mem_cons_self);have oF:=aa (cC.j _ _ kp);rw[dt,bQ] at cG;rw[bQ] at kA;clear aS du my lT kp cC cW dM gR dt bQ ah;go_wp2_with (first|(refine wpList_load_mid rfl 99 (.tmp 14) rfl g (o+j*12) rfl cs _ dp.j underlying99 rfl (by rw[QC];exact mc.j) ?_)|(refine wpList_load_mid rfl 99 (.tmp 7) rfl wr.heap.size 0 rfl cs _ kA.j underlying99 rfl (by rw[QC];exact mc.j) ?_));refine oF.j.m ?_;rintro e ji ⟨rfl,eX⟩;clear cG kA oF dp mF;obtain⟨K2,e2⟩:=KE;dsimp only at aG fR eX|-;by_cases e0:e2=0
   ·subst e0;have dg:Hid (dn bY xs Q K2 (j+1)/\bI K2/\aq U w kb mb sb pb qb bb tb [] K2 ji):=⟨by first|exact aG.j.1 rfl|exact aG.j.1 trivial|exact aG.j.1,fR.j,eX.j.tail⟩
    clear aG;go_wp2_with fail;go_roundw
    case rel=>exact⟨j+1,K2,by go_num,Zo,dg⟩
    case measure=>exact Zm
   ·have e1:(e2 !=0)=true:=by simpa using e0
    have HE:=aa (aG.j.2 e0);clear e0 aG;go_wp2_with fail
    all_goals
     go_ret2;exact⟨Zv HE.j,by rw[HE.j];exact⟨eX.j.fin.1,fR.j,eX.j.fin.2⟩⟩
  ·obtain rfl:j=N:=Zo;have h1:¬(j:Int)<(j:Int):=Zo;have HE:=aa (HI.j.1.fin (by have:=HN.j;omega));clear ah;go_wp2_with fail
   all_goals
    go_ret2;exact⟨Zv HE.j,by rw[HE.j];exact⟨HI.j.2.2.fin.1,HI.j.2.1,HI.j.2.2.fin.2⟩⟩
theorem Qz:(prog.info? 103).map (·.size)=some pM.sz:=Zx
theorem aeR (h:ax U w kb mb sb pb qb bb tb K) (hw:bI K) {p:Option Addr} {N c:Nat} {xs:List (Mp)} (hN:N=xs.length) (hr:jM pM U w p xs) (hR:∀x∈xs,aj x.root/\x.va<4294967296/\aj x.rights/\aj x.at'.1):
  Zk 49 #[.slice p N c,.func (.func 50) #[Zp kb] #[]] w λe w'=>Zr e (.tuple #[Zi (bz bK K xs 0).2.1,Zi ((bz bK K xs 0).2.2:Nat)])/\Hid (ax U w' kb mb sb pb qb bb tb (bz bK K xs 0).1/\bI (bz bK K xs 0).1/\Zn U w w'):=by
 obtain⟨Q,hQ⟩:=Ze (bz bK K xs 0);rw[<-hQ];have H0:Hid (dn bK xs Q K 0/\bI K/\aq U w kb mb sb pb qb bb tb [] K w):=⟨by rw[hQ];exact dn.start bK K xs,hw,aq.start h⟩
 have im:=aa hr;have HR:=aa hR;have HN:=aa hN;have yK:(N:Int)<=9223372036854775807:=by have:=hr.n;omega
 have EP:=aa (aD.ul h);clear h hw hr hR hQ hN;go_enter func49,ntmps49;go_wp2_with fail
 go_loopw [6,7,8,11] (λ_ _ _ d wr=>∃j:Nat,∃K',d=Zi (j:Int)/\j<=N/\Hid (dn bK xs Q K' j/\bI K'/\aq U w kb mb sb pb qb bb tb [] K' wr)) (λ_ _ _ d _=>N - (RowKit.intOf d).toNat)
 case atStart=>exact⟨0,K,rfl,Zo,H0⟩
 case round=>
  clear H0;obtain⟨j,K',rfl,hj,HI⟩:=hrel;by_cases ah:j<N
  ·have bg:j<xs.length:=by have:=HN.j;omega
   have h1:(j:Int)<(N:Int):=Zo;have bf:0<=(j:Int)/\(j:Int)<(N:Int):=Zo;have jT:=Zf j Zo;obtain⟨g,o,rfl,gR,dM⟩:=(im.j.keep HI.j.2.2.o).r Zo;have dp:=aa (dM.Bv bg);have cW:=aa (HR.j _ (List.getElem_mem bg));have aG:Hid ((((bK K' xs[j]).2=0)->dn bK xs Q (bK K' xs[j]).1 (j+1))/\((bK K' xs[j]).2≠0->Q=((bK K' xs[j]).1,(bK K' xs[j]).2,j))):=⟨λh0=>HI.j.1.next bg h0,λh0=>HI.j.1.bad bg h0⟩
   generalize xs[j]=x at dp cW aG
   have cC:Hid (∀F wv,aq U w kb mb sb pb qb bb tb F K' wv->Zk 50 #[Zp kb,.agg (pM.cf x).toArray] wv λe w'=>Zr e (Zi (bK K' x).2)/\Hid (aq U w kb mb sb pb qb bb tb F (bK K' x).1 w')):=λF wv h=>h.call (λV h=>by
    have hw:=HI.j.2.1;have hr:=cW.j
    exact ag9 h hw.1 x.at'.1 x.at'.2 x.root x.va x.rights hr.2.2.2 hr.1 hr.2.1 hr.2.2.1)
   have fR:Hid (bI (bK K' x).1):=by
    have hw:=HI.j.2.1;have hr:=cW.j;exact hw.map x
   obtain⟨KE,aS⟩:=Ze (bK K' x);rw[<-aS] at aG cC fR;obtain⟨cs,du⟩:=Ze (pM.cf x);have mc:Hid (some pM.sz=some cs.length):=by rw[du];exact congrArg some (pM.len x).symm
   have mF:cs.length=5:=by rw[du];exact pM.len x
   have my:∀v∈cs,v.oneCell'=true:=by rw[du];exact pM.one x
   rw[<-du] at dp cC;rw[show pM.sz=5 from rfl] at dp;obtain⟨w8,dt⟩:=Ze (wr.alloc (.cells #[Zi 0,Zi 0,Zi 0,Zu 0,Zi 0] 103));obtain⟨xb,bQ⟩:=Ze (wr.heap.size);have lT:aq U w kb mb sb pb qb bb tb [(xb,.cells [Zi 0,Zi 0,Zi 0,Zu 0,Zi 0].toArray 103 (0,0))] K' w8:=by rw[dt,bQ];exact HI.j.2.2.alloc _
   obtain⟨w9,cG,kp⟩:=lT.fill (cs:=cs) (by rw[mF];rfl) my (λhu=>by have:=HI.j.2.2.low xb hu;omega) (λq hq=>by cases hq);have kA:=aa (kp.Bu List.mem_cons_self);have oF:=aa (cC.j _ _ kp);rw[dt,bQ] at cG;rw[bQ] at kA;clear aS du my lT kp cC cW dM gR dt bQ ah;go_wp2_with (first|(refine wpList_load_mid rfl 103 (.tmp 14) rfl g (o+j*5) rfl cs _ dp.j underlying103 rfl (by rw[Qz];exact mc.j) ?_)|(refine wpList_load_mid rfl 103 (.tmp 7) rfl wr.heap.size 0 rfl cs _ kA.j underlying103 rfl (by rw[Qz];exact mc.j) ?_));refine oF.j.m ?_;rintro e ji ⟨rfl,eX⟩;clear cG kA oF dp mF;obtain⟨K2,e2⟩:=KE;dsimp only at aG fR eX|-;by_cases e0:e2=0
   ·subst e0;have dg:Hid (dn bK xs Q K2 (j+1)/\bI K2/\aq U w kb mb sb pb qb bb tb [] K2 ji):=⟨by first|exact aG.j.1 rfl|exact aG.j.1 trivial|exact aG.j.1,fR.j,eX.j.tail⟩
    clear aG;go_wp2_with fail;go_roundw
    case rel=>exact⟨j+1,K2,by go_num,Zo,dg⟩
    case measure=>exact Zm
   ·have e1:(e2 !=0)=true:=by simpa using e0
    have HE:=aa (aG.j.2 e0);clear e0 aG;go_wp2_with fail
    all_goals
     go_ret2;exact⟨Zv HE.j,by rw[HE.j];exact⟨eX.j.fin.1,fR.j,eX.j.fin.2⟩⟩
  ·obtain rfl:j=N:=Zo;have h1:¬(j:Int)<(j:Int):=Zo;have HE:=aa (HI.j.1.fin (by have:=HN.j;omega));clear ah;go_wp2_with fail
   all_goals
    go_ret2;exact⟨Zv HE.j,by rw[HE.j];exact⟨HI.j.2.2.fin.1,HI.j.2.1,HI.j.2.2.fin.2⟩⟩
end
end Go.Proofs.YtphkconoooeidaaGreatDoor

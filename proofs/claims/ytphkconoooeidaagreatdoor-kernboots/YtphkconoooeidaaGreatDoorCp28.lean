import Derived.Test.YtphkconoooeidaaGreatDoorCp25
set_option maxRecDepth 100000
set_option maxHeartbeats 8000000
set_option linter.unusedVariables false
set_option linter.unusedSimpArgs false
open Go Go.Vx Go.Proofs.Tryz Go.ChangeShapes Go.WideShapes Go.ChangeAt Go.RowKit
namespace Go.Proofs.YtphkconoooeidaaGreatDoor
section
variable {kb mb sb pb qb bb tb:Nat} {U V S:Nat->Prop} {w wv w1 w2:World} {K K2:Kn} {F:List (Nat×Obj)}
theorem Qy:(prog.info? 87).map (·.size)=some oN.sz:=Zx
theorem aeQ (h:ax U w kb mb sb pb qb bb tb K) (hw:bI K) {p:Option Addr} {N c:Nat} {xs:List (Int×Int×Int)} (hN:N=xs.length) (hr:jM oN U w p xs) (hR:∀x∈xs,aj x.1/\aj x.2.1/\aj x.2.2):
  Zk 43 #[.slice p N c,.func (.func 44) #[Zp kb] #[]] w λe w'=>Zr e (.tuple #[Zi (bz cj K xs 0).2.1,Zi ((bz cj K xs 0).2.2:Nat)])/\Hid (ax U w' kb mb sb pb qb bb tb (bz cj K xs 0).1/\bI (bz cj K xs 0).1/\Zn U w w'):=by
 obtain⟨Q,hQ⟩:=Ze (bz cj K xs 0);rw[<-hQ];have H0:Hid (dn cj xs Q K 0/\bI K/\aq U w kb mb sb pb qb bb tb [] K w):=⟨by rw[hQ];exact dn.start cj K xs,hw,aq.start h⟩
 have im:=aa hr;have HR:=aa hR;have HN:=aa hN;have yK:(N:Int)<=9223372036854775807:=by have:=hr.n;omega
 have EP:=aa (aD.ul h);clear h hw hr hR hQ hN;go_enter func43,ntmps43;go_wp2_with fail
 go_loopw [6,7,8,11] (λ_ _ _ d wr=>∃j:Nat,∃K',d=Zi (j:Int)/\j<=N/\Hid (dn cj xs Q K' j/\bI K'/\aq U w kb mb sb pb qb bb tb [] K' wr)) (λ_ _ _ d _=>N - (RowKit.intOf d).toNat)
 case atStart=>exact⟨0,K,rfl,Zo,H0⟩
 case round=>
  clear H0;obtain⟨j,K',rfl,hj,HI⟩:=hrel;by_cases ah:j<N
  ·have bg:j<xs.length:=by have:=HN.j;omega
   have h1:(j:Int)<(N:Int):=Zo;have bf:0<=(j:Int)/\(j:Int)<(N:Int):=Zo;have jT:=Zf j Zo;obtain⟨g,o,rfl,gR,dM⟩:=(im.j.keep HI.j.2.2.o).r Zo;have dp:=aa (dM.Bv bg);have cW:=aa (HR.j _ (List.getElem_mem bg));have aG:Hid ((((cj K' xs[j]).2=0)->dn cj xs Q (cj K' xs[j]).1 (j+1))/\((cj K' xs[j]).2≠0->Q=((cj K' xs[j]).1,(cj K' xs[j]).2,j))):=⟨λh0=>HI.j.1.next bg h0,λh0=>HI.j.1.bad bg h0⟩
   generalize xs[j]=x at dp cW aG
   have cC:Hid (∀F wv,aq U w kb mb sb pb qb bb tb F K' wv->Zk 44 #[Zp kb,.agg (oN.cf x).toArray] wv λe w'=>Zr e (Zi (cj K' x).2)/\Hid (aq U w kb mb sb pb qb bb tb F (cj K' x).1 w')):=λF wv h=>h.call (λV h=>by
    have hw:=HI.j.2.1;have hr:=cW.j
    exact ag8 h hw.1 x.1 x.2.1 x.2.2 hr.1 hr.2.1)
   have fR:Hid (bI (cj K' x).1):=by
    have hw:=HI.j.2.1;have hr:=cW.j;exact hw.obj x hr.2.1
   obtain⟨KE,aS⟩:=Ze (cj K' x);rw[<-aS] at aG cC fR;obtain⟨cs,du⟩:=Ze (oN.cf x);have mc:Hid (some oN.sz=some cs.length):=by rw[du];exact congrArg some (oN.len x).symm
   have mF:cs.length=3:=by rw[du];exact oN.len x
   have my:∀v∈cs,v.oneCell'=true:=by rw[du];exact oN.one x
   rw[<-du] at dp cC;rw[show oN.sz=3 from rfl] at dp;obtain⟨w8,dt⟩:=Ze (wr.alloc (.cells #[Zi 0,Zi 0,Zi 0] 87));obtain⟨xb,bQ⟩:=Ze (wr.heap.size);have lT:aq U w kb mb sb pb qb bb tb [(xb,.cells [Zi 0,Zi 0,Zi 0].toArray 87 (0,0))] K' w8:=by rw[dt,bQ];exact HI.j.2.2.alloc _
   obtain⟨w9,cG,kp⟩:=lT.fill (cs:=cs) (by rw[mF];rfl) my (λhu=>by have:=HI.j.2.2.low xb hu;omega) (λq hq=>by cases hq);have kA:=aa (kp.Bu List.mem_cons_self);have oF:=aa (cC.j _ _ kp);rw[dt,bQ] at cG;rw[bQ] at kA;clear aS du my lT kp cC cW dM gR dt bQ ah;go_wp2_with (first|(refine wpList_load_mid rfl 87 (.tmp 14) rfl g (o+j*3) rfl cs _ dp.j underlying87 rfl (by rw[Qy];exact mc.j) ?_)|(refine wpList_load_mid rfl 87 (.tmp 7) rfl wr.heap.size 0 rfl cs _ kA.j underlying87 rfl (by rw[Qy];exact mc.j) ?_));refine oF.j.m ?_;rintro e ji ⟨rfl,eX⟩;clear cG kA oF dp mF;obtain⟨K2,e2⟩:=KE;dsimp only at aG fR eX|-;by_cases e0:e2=0
   ·subst e0;have dg:Hid (dn cj xs Q K2 (j+1)/\bI K2/\aq U w kb mb sb pb qb bb tb [] K2 ji):=⟨by first|exact aG.j.1 rfl|exact aG.j.1 trivial|exact aG.j.1,fR.j,eX.j.tail⟩
    clear aG;go_wp2_with fail;go_roundw
    case rel=>exact⟨j+1,K2,by go_num,Zo,dg⟩
    case measure=>exact Zm
   ·have e1:(e2 !=0)=true:=by simpa using e0
    have HE:=aa (aG.j.2 e0);clear e0 aG;go_wp2_with fail
    all_goals
     go_ret2;exact⟨Zv HE.j,by rw[HE.j];exact⟨eX.j.fin.1,fR.j,eX.j.fin.2⟩⟩
  ·obtain rfl:j=N:=Zo;have h1:¬(j:Int)<(j:Int):=Zo;have HE:=aa (HI.j.1.fin (by have:=HN.j;omega));clear ah;go_wp2_with fail
   all_goals
    go_ret2;exact⟨Zv HE.j,by rw[HE.j];exact⟨HI.j.2.2.fin.1,HI.j.2.1,HI.j.2.2.fin.2⟩⟩
theorem QE:(prog.info? 89).map (·.size)=some mJ.sz:=Zx
theorem aeU (h:ax U w kb mb sb pb qb bb tb K) (hw:bI K) {p:Option Addr} {N c:Nat} {xs:List (Int×List UInt8)} (hN:N=xs.length) (hr:jM mJ U w p xs) (hR:∀x∈xs,aj x.1/\x.2.length<=140737488355328):
  Zk 45 #[.slice p N c,.func (.func 46) #[Zp kb] #[]] w λe w'=>Zr e (.tuple #[Zi (bz cV K xs 0).2.1,Zi ((bz cV K xs 0).2.2:Nat)])/\Hid (ax U w' kb mb sb pb qb bb tb (bz cV K xs 0).1/\bI (bz cV K xs 0).1/\Zn U w w'):=by
 obtain⟨Q,hQ⟩:=Ze (bz cV K xs 0);rw[<-hQ];have H0:Hid (dn cV xs Q K 0/\bI K/\aq U w kb mb sb pb qb bb tb [] K w):=⟨by rw[hQ];exact dn.start cV K xs,hw,aq.start h⟩
 have im:=aa hr;have HR:=aa hR;have HN:=aa hN;have yK:(N:Int)<=9223372036854775807:=by have:=hr.n;omega
 have EP:=aa (aD.ul h);clear h hw hr hR hQ hN;go_enter func45,ntmps45;go_wp2_with fail
 go_loopw [6,7,8,11] (λ_ _ _ d wr=>∃j:Nat,∃K',d=Zi (j:Int)/\j<=N/\Hid (dn cV xs Q K' j/\bI K'/\aq U w kb mb sb pb qb bb tb [] K' wr)) (λ_ _ _ d _=>N - (RowKit.intOf d).toNat)
 case atStart=>exact⟨0,K,rfl,Zo,H0⟩
 case round=>
  clear H0;obtain⟨j,K',rfl,hj,HI⟩:=hrel;by_cases ah:j<N
  ·have bg:j<xs.length:=by have:=HN.j;omega
   have h1:(j:Int)<(N:Int):=Zo;have bf:0<=(j:Int)/\(j:Int)<(N:Int):=Zo;have jT:=Zf j Zo;obtain⟨g,o,rfl,gR,dM⟩:=(im.j.keep HI.j.2.2.o).r Zo;have dp:=aa (dM.Bv bg);have cW:=aa (HR.j _ (List.getElem_mem bg));have aG:Hid ((((cV K' xs[j]).2=0)->dn cV xs Q (cV K' xs[j]).1 (j+1))/\((cV K' xs[j]).2≠0->Q=((cV K' xs[j]).1,(cV K' xs[j]).2,j))):=⟨λh0=>HI.j.1.next bg h0,λh0=>HI.j.1.bad bg h0⟩
   generalize xs[j]=x at dp cW aG
   have cC:Hid (∀F wv,aq U w kb mb sb pb qb bb tb F K' wv->Zk 46 #[Zp kb,.agg (mJ.cf x).toArray] wv λe w'=>Zr e (Zi (cV K' x).2)/\Hid (aq U w kb mb sb pb qb bb tb F (cV K' x).1 w')):=λF wv h=>h.call (λV h=>by
    have hw:=HI.j.2.1;have hr:=cW.j
    exact agc h x.1 x.2 hr.1 hr.2)
   have fR:Hid (bI (cV K' x).1):=by
    have hw:=HI.j.2.1;have hr:=cW.j;exact hw.Eu x
   obtain⟨KE,aS⟩:=Ze (cV K' x);rw[<-aS] at aG cC fR;obtain⟨cs,du⟩:=Ze (mJ.cf x);have mc:Hid (some mJ.sz=some cs.length):=by rw[du];exact congrArg some (mJ.len x).symm
   have mF:cs.length=2:=by rw[du];exact mJ.len x
   have my:∀v∈cs,v.oneCell'=true:=by rw[du];exact mJ.one x
   rw[<-du] at dp cC;rw[show mJ.sz=2 from rfl] at dp;obtain⟨w8,dt⟩:=Ze (wr.alloc (.cells #[Zi 0,.string ⟨#[]⟩] 89));obtain⟨xb,bQ⟩:=Ze (wr.heap.size);have lT:aq U w kb mb sb pb qb bb tb [(xb,.cells [Zi 0,.string ⟨#[]⟩].toArray 89 (0,0))] K' w8:=by rw[dt,bQ];exact HI.j.2.2.alloc _
   obtain⟨w9,cG,kp⟩:=lT.fill (cs:=cs) (by rw[mF];rfl) my (λhu=>by have:=HI.j.2.2.low xb hu;omega) (λq hq=>by cases hq);have kA:=aa (kp.Bu List.mem_cons_self);have oF:=aa (cC.j _ _ kp);rw[dt,bQ] at cG;rw[bQ] at kA;clear aS du my lT kp cC cW dM gR dt bQ ah;go_wp2_with (first|(refine wpList_load_mid rfl 89 (.tmp 14) rfl g (o+j*2) rfl cs _ dp.j underlying89 rfl (by rw[QE];exact mc.j) ?_)|(refine wpList_load_mid rfl 89 (.tmp 7) rfl wr.heap.size 0 rfl cs _ kA.j underlying89 rfl (by rw[QE];exact mc.j) ?_));refine oF.j.m ?_;rintro e ji ⟨rfl,eX⟩;clear cG kA oF dp mF;obtain⟨K2,e2⟩:=KE;dsimp only at aG fR eX|-;by_cases e0:e2=0
   ·subst e0;have dg:Hid (dn cV xs Q K2 (j+1)/\bI K2/\aq U w kb mb sb pb qb bb tb [] K2 ji):=⟨by first|exact aG.j.1 rfl|exact aG.j.1 trivial|exact aG.j.1,fR.j,eX.j.tail⟩
    clear aG;go_wp2_with fail;go_roundw
    case rel=>exact⟨j+1,K2,by go_num,Zo,dg⟩
    case measure=>exact Zm
   ·have e1:(e2 !=0)=true:=by simpa using e0
    have HE:=aa (aG.j.2 e0);clear e0 aG;go_wp2_with fail
    all_goals
     go_ret2;exact⟨Zv HE.j,by rw[HE.j];exact⟨eX.j.fin.1,fR.j,eX.j.fin.2⟩⟩
  ·obtain rfl:j=N:=Zo;have h1:¬(j:Int)<(j:Int):=Zo;have HE:=aa (HI.j.1.fin (by have:=HN.j;omega));clear ah;go_wp2_with fail
   all_goals
    go_ret2;exact⟨Zv HE.j,by rw[HE.j];exact⟨HI.j.2.2.fin.1,HI.j.2.1,HI.j.2.2.fin.2⟩⟩
end
end Go.Proofs.YtphkconoooeidaaGreatDoor

import Derived.Test.YtphkconoooeidaaGreatDoorCp4
import Derived.Test.YtphkconoooeidaaGreatDoorCp5
set_option maxRecDepth 100000
set_option maxHeartbeats 8000000
set_option linter.unusedVariables false
set_option linter.unusedSimpArgs false
open Go Go.Vx Go.Proofs.Tryz Go.ChangeShapes Go.WideShapes Go.ChangeAt Go.RowKit
namespace Go.Proofs.YtphkconoooeidaaGreatDoor
section
variable {U S:Nat->Prop} {w w2:World} {pb:Nat} {P:Int} {vo vr:Value} {os rs:Lp}
theorem ag2 (hc:lX U w pb P os rs) (hp:Il os rs) (hP:1<=P/\P<=256) (k n:Int) (hk:k≠1) (hn:aj n) (uY:os.length<1000000) (mB:rs.length<1000000):Zk 57 #[Zp pb,.agg #[Zi k,Zi n]] w λe w'=>Zr e (Zi (aV P os rs (k,n)))/\lX U w' pb P (fX P os rs (k,n)) (ij P os rs (k,n))/\Zn U w w':=by
 obtain⟨vo,vr,h⟩:=hc;obtain⟨w1,ag⟩:=Ze (w.alloc (.cells #[Zi k,Zi n] 85));have aB:=Za ag;have hz:w1.heap[w.heap.size]?=some (.cells #[Zi k,Zi n] 85 (0,0)):=by rw[ag];exact heap_alloc_last _ _
 obtain⟨ob,az⟩:=Ze (w.heap.size);rw[<-az] at hz;have HZ:=aa hz;have sM:=aa aB;have l8:Hid (∀wv,Zq w1 wv->Zn U w wv):=λwv hv=>(aB.trans hv).f
 have HK:=aa (h.quiet aB)
 have qT:Hid (aV P os rs (k,n)≠0->∀wv,Zq w1 wv->lX U wv pb P (fX P os rs (k,n)) (ij P os rs (k,n))):=λhe wv hv=>by
  rw[(yX (k,n) he).1,(yX (k,n) he).2];exact⟨vo,vr,HK.j.quiet hv⟩
 obtain⟨⟨z0,z1⟩,_⟩:=C8 hz;clear h aB hz;have k1:(k==1)=false:=beq_eq_false_iff_ne.2 hk;by_cases a1:k<1
 ·have HE:Hid (aV P os rs (k,n)=12):=if_pos (Or.inl a1);go_enter func57,ntmps57;go_upto_region 1 with fail
  rw[<-ag,<-az];clear ag az;go_wp2_with fail
  all_goals
   go_ret;exact⟨by rw[HE.j];rfl,qT.j (by rw[HE.j];decide) _ (ae.refl _ _),l8.j _ (ae.refl _ _)⟩
 by_cases a2:8<k
 ·have HE:Hid (aV P os rs (k,n)=12):=if_pos (Or.inr a2);go_enter func57,ntmps57;go_upto_region 1 with fail
  rw[<-ag,<-az];clear ag az;go_wp2_with fail
  all_goals
   go_ret;exact⟨by rw[HE.j];rfl,qT.j (by rw[HE.j];decide) _ (ae.refl _ _),l8.j _ (ae.refl _ _)⟩
 have e0:¬((k,n).1<1\/8<(k,n).1):=by simp only;omega
 by_cases a3:n<0
 ·have HE:Hid (aV P os rs (k,n)=1):=by show aV _ _ _ _=_;unfold aV;rw[if_neg e0,if_pos (Or.inl a3)]
  clear e0;go_enter func57,ntmps57;go_upto_region 1 with fail
  rw[<-ag,<-az];clear ag az;go_wp2_with fail
  all_goals
   go_ret;exact⟨by rw[HE.j];rfl,qT.j (by rw[HE.j];decide) _ (ae.refl _ _),l8.j _ (ae.refl _ _)⟩
 have e1:¬((k,n).2<0\/((k,n).1=1/\2304<=(k,n).2)):=by simp only;omega
 have ic:k=1->fK n:=λh1=>absurd h1 hk
 have ud:=aa (λwv=>Cc k n ic wv);have bN:=zM (o:=(k,n)) ic;have bA:0<=aQ (k,n)/\aQ (k,n)<=n:=by unfold aQ;split<;>simp only<;>omega
 have gy:Hid (aV P os rs (k,n)=if aQ (k,n) % aU (k,n)≠0\/P - aU (k,n)<aQ (k,n) then 1 else if (os.any (dD (k,n)) || rs.any (λr=>dD (k,n) (1,r.1)))=true then 7 else 0):=by show aV _ _ _ _=_;unfold aV;rw[if_neg e0,if_neg e1]
 have iU:Hid (aQ (k,n)<=P - aU (k,n)->(∀o∈os,(∀wv,Zk 112 #[.agg #[Zi o.1,Zi o.2]] wv λe w'=>Zr e (.tuple #[Zi (aQ o),Zi (aU o)])/\Zq wv w')/\∀wv,Zk 113 #[Zi (aQ (k,n)),Zi (aU (k,n)),Zi (aQ o),Zi (aU o)] wv λe w'=>Zr e (.bool (dD (k,n) o))/\w'=wv)/\
   (∀r∈rs,(∀wv,Zk 112 #[.agg #[Zi 1,Zi r.1]] wv λe w'=>Zr e (.tuple #[Zi (aQ (1,r.1)),Zi (aU (1,r.1))])/\Zq wv w')/\∀wv,Zk 113 #[Zi (aQ (k,n)),Zi (aU (k,n)),Zi (aQ (1,r.1)),Zi (aU (1,r.1))] wv λe w'=>Zr e (.bool (dD (k,n) (1,r.1)))/\w'=wv)):=λhle=>by
  have lO:0<=n/\n<1000000:=by
   refine⟨Zo,?_⟩;have:aQ (k,n)=n:=if_neg hk;omega
  refine⟨λo ho=>?_,λr hr=>?_⟩
  ·obtain⟨h1,h2,h3⟩:=hp.ok o ho;exact⟨λwv=>Cc o.1 o.2 (λh=>absurd h h1) wv,λwv=>Gm (k,n) o ic (λh=>absurd h h1) lO Zo wv⟩
  ·have h1:=hp.rk r hr;unfold fK at h1;exact⟨λwv=>Cc 1 r.1 (λ_=>h1) wv,λwv=>Gm (k,n) (1,r.1) ic (λ_=>h1) lO (by simp only;omega) wv⟩
 have CD:Hid (ij P os rs (k,n)=rs):=if_neg (λe=>hk e.2);have Nr:Hid (aV P os rs (k,n)=0->fX P os rs (k,n)=os++[(k,n)]):=λhe=>if_pos ⟨he,hk⟩
 obtain⟨m0,oW⟩:=Ze (aQ (k,n) % aU (k,n));have yq:(aQ (k,n)).tmod (aU (k,n))=m0:=by rw[oW];exact Int.tmod_eq_emod_of_nonneg bA.1
 have fa:0<=m0/\m0<256:=by
  have h1:=Int.emod_nonneg (aQ (k,n)) (b:=aU (k,n)) Zo;have h2:=Int.emod_lt_of_pos (aQ (k,n)) (b:=aU (k,n)) Zo;omega
 have rE:=Zh m0 Zo;rw[<-oW] at gy;generalize aQ (k,n)=a0 at ud gy iU yq bA;generalize aU (k,n)=n0 at ud gy iU yq bN;have uV:(n0==0)=false:=by rw[beq_eq_false_iff_ne];omega
 have RG:¬n0=0:=Zo;have rD:=Zh (P - n0) Zo;have nC:(n0== -1)=false:=by rw[beq_eq_false_iff_ne];omega
 clear e0 e1 ic oW hn;have c0:=HK.j.c0;have HPB:Hid (0<=a0/\1<=n0/\n0<=256/\1<=P/\P<=256):=⟨bA.1,bN.1,bN.2,hP.1,hP.2⟩
 by_cases b1:m0=0
 ·by_cases b2:P - n0<a0
  ·have HE:Hid (aV P os rs (k,n)=1):=by show aV _ _ _ _=_;rw[gy.j,if_pos (Or.inr b2)]
   subst b1;go_enter func57,ntmps57;go_upto_region 1 with fail
   rw[<-ag,<-az];clear ag az;go_wp2_with fail;refine(ud.j _).m ?_;rintro e w3 ⟨rfl,aN⟩;have iH:=aa aN;have c0:=(HK.j.quiet aN).c0;clear aN;go_wp2_with fail
   all_goals
    go_ret;exact⟨by rw[HE.j];rfl,qT.j (by rw[HE.j];decide) _ iH.j,l8.j _ iH.j⟩
  ·have Fg:Hid (aV P os rs (k,n)=if (os.any (dD (k,n)) || rs.any (λr=>dD (k,n) (1,r.1)))=true then 7 else 0):=by show aV _ _ _ _=_;rw[gy.j,if_neg Zo]
   obtain⟨jE,DE⟩:=iU.j Zo;have gC:=aa jE;have M7:=aa DE;clear jE DE iU gy;subst b1;obtain⟨po,co,rfl,_⟩:=vN HK.j.o;obtain⟨pr,cr,rfl,_⟩:=vN HK.j.g;obtain⟨N,hN⟩:=Ze (os.length);obtain⟨M,hM⟩:=Ze (rs.length);have l7:Hid (N=os.length/\M=rs.length):=⟨hN,hM⟩
   rw[<-hN] at HK;rw[<-hM] at HK;have eH:N<1000000:=Zo;have qE:M<1000000:=Zo;clear hN hM uY mB;go_enter func57,ntmps57;go_upto_region 1 with fail
   rw[<-ag,<-az];clear ag az;go_wp2_with fail;refine(ud.j _).m ?_;rintro e w3 ⟨rfl,aN⟩;have iH:=aa aN;have c0:=(HK.j.quiet aN).c0;clear aN;go_wp2_with fail;clear c0 z0 z1
   go_loopw [7] (λd wr=>∃j:Nat,d=Zi (j:Int)/\j<=N/\Hid ((os.drop j).any (dD (k,n))=os.any (dD (k,n)))/\Hid (Zq w1 wr)) (λd _=>N - (RowKit.intOf d).toNat)
   case atStart=>exact⟨0,rfl,Zo,(show(os.drop 0).any _=_ from by rw[List.drop_zero]),iH⟩
   case round=>
    obtain⟨j,rfl,hj,HQ,HO⟩:=hrel;have c1:=(HK.j.quiet HO.j).c1;by_cases ah:j<N
    ·have bq:j<os.length:=by have:=l7.j.1;omega
     have h1:(j:Int)<(N:Int):=Zo;have bf:0<=(j:Int)/\(j:Int)<(N:Int):=Zo;have iY:=Zf j Zo;obtain⟨g,rfl,b0,b1⟩:=xR (HK.j.quiet HO.j).o j bq;have hq:=HQ.j;rw[Ih os j bq] at hq;obtain⟨he,hm⟩:=gC.j os[j] (List.getElem_mem _);have HE:=aa he;have HM:=aa hm;generalize os[j]=x at b0 b1 HE HM hq;obtain⟨xk,xn⟩:=x;simp only at b0 b1 HE HM;generalize aQ (xk,xn)=MB at HE HM;generalize aU (xk,xn)=MA at HE HM;have dL:=aa hq;clear hq he hm ah HQ;go_wp2_with fail;refine(HE.j _).m ?_;rintro e w4 ⟨rfl,aC⟩;have aL:=aa (HO.j.trans aC);clear aC c1 b0 b1
     cases hT:dD (k,n) (xk,xn) with
     |true=>
      rw[hT] at HM dL;have HF:Hid (aV P os rs (k,n)=7):=by show aV _ _ _ _=7;rw[Fg.j,<-dL.j];rfl
      go_wp2_with fail;refine(HM.j _).e1 ?_;go_wp2_with fail
      all_goals
       go_ret
       exact⟨by rw[HF.j];rfl,qT.j (by rw[HF.j];decide) _ aL.j,l8.j _ aL.j⟩
     |false=>
      rw[hT,Bool.false_or] at dL;rw[hT] at HM;go_wp2_with fail;refine(HM.j _).e1 ?_;go_wp2_with fail;go_roundw
      case rel=>exact⟨j+1,by go_num,Zo,dL,aL⟩
      case measure=>exact Zm
    ·obtain rfl:j=N:=Zo;have hq:=HQ.j;rw[l7.j.1,Ii] at hq;have Ff:Hid (aV P os rs (k,n)=if rs.any (λr=>dD (k,n) (1,r.1))=true then 7 else 0):=by show aV _ _ _ _=_;rw[Fg.j,<-hq];rfl
     have h1:¬(j:Int)<(j:Int):=Zo;clear hq ah HQ;go_wp2_with fail;clear c1
     go_loopw [11] (λd wr=>∃i:Nat,d=Zi (i:Int)/\i<=M/\Hid ((rs.drop i).any (λr=>dD (k,n) (1,r.1))=rs.any (λr=>dD (k,n) (1,r.1)))/\Hid (Zq w1 wr)) (λd _=>M - (RowKit.intOf d).toNat)
     case atStart=>exact⟨0,rfl,Zo,(show(rs.drop 0).any _=_ from by rw[List.drop_zero]),HO⟩
     case round=>
      obtain⟨i,rfl,hi,HQ,bD⟩:=hrel;have c2:=(HK.j.quiet bD.j).c2;by_cases ah:i<M
      ·have bq:i<rs.length:=by have:=l7.j.2;omega
       have h1:(i:Int)<(M:Int):=Zo;have bf:0<=(i:Int)/\(i:Int)<(M:Int):=Zo;have iY:=Zf i Zo;obtain⟨g,rfl,b0,_⟩:=xR (HK.j.quiet bD.j).g i bq;have hq:=HQ.j;rw[Ih rs i bq] at hq;obtain⟨he,hm⟩:=M7.j rs[i] (List.getElem_mem _);have HE:=aa he;have HM:=aa hm;generalize rs[i]=x at b0 HE HM hq;obtain⟨xk,xn⟩:=x;simp only at b0 HE HM hq;generalize aQ (1,xk)=MB at HE HM;generalize aU (1,xk)=MA at HE HM;have dL:=aa hq;clear hq he hm ah HQ;go_wp2_with fail;refine(HE.j _).m ?_;rintro e w4 ⟨rfl,aC⟩;have aL:=aa (bD.j.trans aC);clear aC c2 b0
       cases hT:dD (k,n) (1,xk) with
       |true=>
        rw[hT] at HM dL;have HF:Hid (aV P os rs (k,n)=7):=by show aV _ _ _ _=7;rw[Ff.j,<-dL.j];rfl
        go_wp2_with fail;refine(HM.j _).e1 ?_;go_wp2_with fail
        all_goals
         go_ret
         exact⟨by rw[HF.j];rfl,qT.j (by rw[HF.j];decide) _ aL.j,l8.j _ aL.j⟩
       |false=>
        rw[hT,Bool.false_or] at dL;rw[hT] at HM;go_wp2_with fail;refine(HM.j _).e1 ?_;go_wp2_with fail;go_roundw
        case rel=>exact⟨i+1,by go_num,Zo,dL,aL⟩
        case measure=>exact Zm
      ·obtain rfl:i=M:=Zo;have hq:=HQ.j;rw[l7.j.2,Ii] at hq;have HF:Hid (aV P os rs (k,n)=0):=by show aV _ _ _ _=0;rw[Ff.j,<-hq];rfl
       have h1:¬(i:Int)<(i:Int):=Zo;have eB:=aa (HK.j.quiet bD.j);have Nd:=aa (l8.j _ bD.j);obtain⟨⟨z0,z1⟩,zf⟩:=C8 (ae.keep bD.j HZ.j (λh=>h));have c1:=eB.j.c1;clear hq ah HQ zf;have oD:Hid (os.length+1<=10000000):=by have:=l7.j;show _<=_;omega
       have lD:Hid ((os++[((k,n):Int×Int)]).length<=1000000):=by show(os++[((k,n):Int×Int)]).length<=1000000;have:=l7.j;rw[List.length_append,List.length_singleton];omega
       go_upto_region 24 with fail
       obtain⟨wd,ny⟩:=Ze ((wr.alloc (.cells #[Zi k,Zi n] 85)).drew);have rJ:Zq wr wd:=by rw[ny];exact((ae.refl _ wr).alloc _).drew
       have xi:Hid (∀j u,(aJ.cf (k,n))[j]?=some u->wd.cell? ⟨wr.heap.size,j,none⟩=some u):=λj u hj=>by
        have hl:wd.heap[wr.heap.size]?=some (.cells #[Zi k,Zi n] 85 (0,0)):=by rw[ny];exact heap_alloc_last wr _
        rw[cell_of_row _ _ j _ _ (0,0) hl];have fi:(iW (k,n))[j]?=some u:=hj;simpa[iW] using fi
       have zx:=aa (eB.j.quiet rJ).o
       have dG:Hid (∀v' w5,ai aJ w5 0 85 v' (os++[((k,n):Int×Int)])->ae (λk=>(.slice po j co:Value).ownBlock=some k) wd w5->(v'.ownBlock=(.slice po j co:Value).ownBlock\/∃g,v'.ownBlock=some g/\wd.heap.size<=g/\Zq wd w5)->(∃p m c,v'=.slice p m c)/\(∃x,w5.cell? ⟨pb,1,none⟩=some x)/\w5.frozen? ⟨pb,1,none⟩=false/\Hid (lX U (w5.setCell ⟨pb,1,none⟩ v') pb P (os++[(k,n)]) rs/\Zn U w (w5.setCell ⟨pb,1,none⟩ v'))):=λv' w5 a1 a2 a3=>by
        obtain⟨q1,q2,q3,q4⟩:=eB.j.XL a1 ((rJ.f).trans a2) (λk hk=>(uM a3 k hk).imp (λh=>h) (λh=>Nat.le_trans rJ.size h)) lD.j;obtain⟨p,c,hv,_⟩:=a1.form;exact⟨⟨p,_,c,hv⟩,q1,q2,⟨_,_,q3⟩,Nd.j.trans q4⟩
       have jm:pb<wr.heap.size:=au eB.j.r;have iz:ob<wr.heap.size:=World.block_lt_of_cell? wr ⟨ob,0,none⟩ z0;clear rJ
       go_region_law (refine FP BC rfl (.tmp 129) (.tmp 131) rfl 0 (.slice po j co) os (by simp[Act.eval]) (by rw[<-ny];exact zx.j) (k,n) wr.heap.size 1 1 (by simp[Act.eval]) (by rw[<-ny];exact xi.j) oD.j (Nat.zero_le _) ?_;intro v' w5 bc aP bB;rw[<-ny] at aP bB;obtain⟨⟨pq,mq,cq,rfl⟩,⟨qx,DA⟩,Dz,py⟩:=dG.j v' w5 bc aP bB;clear bc aP bB)
       all_goals
        go_wp2_with fail;go_ret;exact⟨by rw[HF.j];rfl,by rw[CD.j,Nr.j HF.j];exact py.j.1,py.j.2⟩
 ·have HE:Hid (aV P os rs (k,n)=1):=by show aV _ _ _ _=_;rw[gy.j,if_pos (Or.inl b1)]
  have b3:(m0==0)=false:=beq_eq_false_iff_ne.2 b1;have b4:(m0 !=0)=true:=by simpa using b1
  go_enter func57,ntmps57;go_upto_region 1 with fail
  rw[<-ag,<-az];clear ag az;go_wp2_with fail;refine(ud.j _).m ?_;rintro e w3 ⟨rfl,aN⟩;have iH:=aa aN;have c0:=(HK.j.quiet aN).c0;clear aN;go_wp2_with fail
  all_goals
   go_ret;exact⟨by rw[HE.j];rfl,qT.j (by rw[HE.j];decide) _ iH.j,l8.j _ iH.j⟩
end
end Go.Proofs.YtphkconoooeidaaGreatDoor

import Derived.Test.YtphkconoooeidaaGreatDoorCp9
set_option maxRecDepth 100000
set_option maxHeartbeats 8000000
set_option linter.unusedVariables false
set_option linter.unusedSimpArgs false
open Go Go.Vx Go.Proofs.Tryz Go.ChangeShapes Go.WideShapes Go.ChangeAt Go.RowKit
namespace Go.Proofs.YtphkconoooeidaaGreatDoor
section
variable {U S:Nat->Prop} {w w2 wr:World} {pb:Nat} {P:Int} {vo vr v:Value} {os rs:Lp} {ns:List Int}
theorem TN (h:jN U w pb P vo vr os rs) (uY:os.length<=900000) (mB:rs.length<=900000):Zk 27 #[Zp pb] w λe w'=>∃v,Zr e v/\∃ls,ai aJ w' w.heap.size 85 v ls/\ls.Perm (fE os rs)/\ls.Pairwise kY/\Zq w w':=by
 have HK:=aa h;have c1:=h.c1;obtain⟨po,co,GI,_⟩:=vN h.o;subst GI;obtain⟨pr,cr,hvr,_⟩:=vN h.g;subst hvr;obtain⟨N,hN⟩:=Ze (os.length);obtain⟨M,hM⟩:=Ze (rs.length);have l7:Hid (N=os.length/\M=rs.length):=⟨hN,hM⟩
 have Su:0<os.length->∃ad,po=some ad/\∀j u,(fl aJ os)[j]?=some u->w.cell? (ad.add j)=some u:=λh0=>by
  obtain⟨g,rfl,_⟩:=xR h.o 0 h0;refine⟨_,rfl,λj u hj=>?_⟩;have:=h.o.part 0 os.length j u (by rw[List.drop_zero,List.take_length];exact hj);rw[Nat.zero_mul] at this;exact this
 have ak:=aa Su;have oD:Hid (([]:Lp).length+os.length<=10000000):=by show _+_<=_;simp;omega
 have lD:Hid (∀k,(os++(rs.take k).map (λr=>((1:Int),r.1))).length+1<=10000000):=λk=>by
  rw[List.length_append,List.length_map,List.length_take];omega
 rw[<-hN] at c1;have eH:N<=900000:=Zo;have qE:M<=900000:=Zo;clear h Su uY mB hN hM;go_enter func27,ntmps27;go_upto_region 3 with(at_builtin;refine CH BC _ rfl _ _ rfl w.heap.size (.slice none 0 0) [] rfl (ai.nil _ _ _ _) po co N os rfl l7.j.1 ak.j oD.j (Nat.le_refl _) ?_;intro v1 w1 bc aP bB;have H1:Hid (mM 85 w v1 (os++(rs.take 0).map (λr=>((1:Int),r.1))) w1):=⟨aP.mono (λk _ h=>by cases h),by simpa using bc⟩;clear bc aP bB)
 clear c1;go_wp2_with fail
 go_loopw [3,4] (λv d wr=>∃k:Nat,d=Zi (k:Int)/\k<=M/\Hid (mM 85 w v (os++(rs.take k).map (λr=>((1:Int),r.1))) wr)) (λ_ d _=>M - (RowKit.intOf d).toNat)
 case atStart=>exact⟨0,rfl,Zo,H1⟩
 case round=>
  clear H1;obtain⟨k,rfl,hk,HR⟩:=hrel;obtain⟨pv,cv,iA,_⟩:=HR.j.own.form;obtain⟨m,hm⟩:=Ze ((os++(rs.take k).map (λr=>((1:Int),r.1))).length);have sO:=aa hm;rw[<-hm] at iA;subst iA;have c2:=(HK.j.quiet HR.j.on).c2;rw[<-l7.j.2] at c2;by_cases ah:k<M
  ·have bq:k<rs.length:=by have:=l7.j.2;omega
   have h1:(k:Int)<(M:Int):=Zo;have bf:0<=(k:Int)/\(k:Int)<(M:Int):=Zo;have iY:=Zf k Zo;obtain⟨g,rfl,b0,_⟩:=xR (HK.j.quiet HR.j.on).g k bq
   have dG:Hid (os++(rs.take (k+1)).map (λr=>((1:Int),r.1))=(os++(rs.take k).map (λr=>((1:Int),r.1)))++[((1:Int),rs[k].1)]):=by
    show _=_;rw[List.take_succ_eq_append_getElem bq,List.map_append,List.append_assoc];rfl
   generalize rs[k].1=y at b0 dG;have oG:Hid (w.heap.size<=wr.heap.size):=HR.j.on.size;clear ah hm;go_wp2_with (at_builtin;refine mg BC _ rfl _ _ rfl w.heap.size (.slice pv m cv) _ rfl HR.j.own ((1:Int),y) _ _ rfl rfl rfl (lD.j k) oG.j ?_;intro v' w5 bc aP bB;have aG:=aa (HR.j.push bc aP);clear bc aP bB);go_roundw
   case rel=>exact⟨k+1,by go_num,Zo,by rw[dG.j];exact aG⟩
   case measure=>exact Zm
  ·obtain rfl:k=M:=Zo;have h1:¬(k:Int)<(k:Int):=Zo;have bE:m<=1800000:=by rw[hm,List.length_append,List.length_map,List.length_take];have:=l7.j;omega
   have zn:Hid (m=(fE os rs).length):=by have h3:=sO.j;rw[l7.j.2,List.take_length] at h3;exact h3
   have HA:Hid (uv w (.slice pv m cv) (fE os rs) 1 1 wr):=by
    have h3:=HR.j;rw[l7.j.2,List.take_length] at h3;exact⟨_,h3,List.Perm.refl _,λa b h4 h5 h6=>Zo⟩
   clear ah hm HR sO;go_wp2_with fail;clear c2
   go_loopw [5] (λd wr=>∃i:Nat,d=Zi (i:Int)/\1<=i/\i<=1800001/\Hid (uv w (.slice pv m cv) (fE os rs) i i wr)) (λd _=>m - (RowKit.intOf d).toNat)
   case atStart=>exact⟨1,rfl,Zo,Zo,HA⟩
   case round=>
    clear HA;obtain⟨i,rfl,vd,gj,HS⟩:=hrel;by_cases ah:i<m
    ·have h1:(i:Int)<(m:Int):=Zo;have hwi:=Zf i Zo;clear ah;have zB:Hid (i<m):=by show i<m;omega
     go_wp2_with fail
     go_loopw [6] (λd wr=>∃k:Nat,d=Zi (k:Int)/\k<=i/\Hid (uv w (.slice pv m cv) (fE os rs) i k wr)) (λd _=>(RowKit.intOf d).toNat)
     case atStart=>exact⟨i,rfl,Zo,HS⟩
     case round=>
      clear HS;obtain⟨j,rfl,hj,HS⟩:=hrel;by_cases qF:j=0
      ·subst qF
       have dH:Hid (uv w (.slice pv m cv) (fE os rs) (i+1) (i+1) wr):=by
        obtain⟨xs,a1,a2,a3⟩:=HS.j;exact⟨xs,a1,a2,a3.stop (Or.inl rfl)⟩
       go_wp2_with fail;go_quiet (fail);go_wp2_with fail;go_roundw
       case rel=>exact⟨i+1,by go_num,Zo,by have:=zB.j;omega,dH.j.quiet ((ae.refl _ _).drewN _)⟩
       case measure=>have:=zB.j;simp only[RowKit.intOf];omega
      ·obtain⟨p,rfl⟩:∃p,j=p+1:=⟨j - 1,Zo⟩
       obtain⟨xs,a1,a2,a3⟩:=HS.j;have iz:m=xs.length:=by rw[zn.j];exact a2.length_eq.symm
       have gT:Hid (p+1<xs.length):=by have:=zB.j;show p+1<xs.length;omega
       have rV:Hid (p+1<=i):=hj;obtain⟨g,rfl,b0,b1⟩:=xR a1.own (p+1) gT.j;obtain⟨g',yD,d0,d1⟩:=xR a1.own p (by have:=gT.j;omega);obtain rfl:g=g':=by simpa using yD
       have iQ:∀j,wr.frozen? ⟨g,j,none⟩=false:=λj=>a1.own.fz j
       have e1:xs.getD (p+1) (0,0)=xs[p+1]'gT.j:=wU gT.j _;have e2:xs.getD p (0,0)=xs[p]'(by have:=gT.j;omega):=wU _ _;generalize xs[p+1]'gT.j=x at b0 b1 e1;generalize xs[p]'(by have:=gT.j;omega)=y at d0 d1 e2;obtain⟨x1,x2⟩:=x;obtain⟨y1,y2⟩:=y;dsimp only at b0 b1 d0 d1;have Ip:Hid (mM 85 w (Zs g m cv) xs wr/\xs.Perm (fE os rs)/\vn xs i (p+1)/\xs.getD (p+1) (0,0)=(x1,x2)/\xs.getD p (0,0)=(y1,y2)):=⟨a1,a2,a3,e1,e2⟩
       have G7:(0:Int)<(p:Int)+1:=Zo;have aek:(0:Int)<((p+1:Nat):Int):=Zo;have DF:p+1<m:=by have:=zB.j;omega
       have Sc:0<=(p:Int)+1/\(p:Int)+1<(m:Int):=Zo;have Sb:0<=((p+1:Nat):Int)/\((p+1:Nat):Int)<(m:Int):=Zo;have Sd:0<=(p:Int)/\(p:Int)<(m:Int):=Zo;have jT:IntKind.i64.wrap ((p:Int)+1 - 1)=(p:Int):=by rw[IntKind.wrap_i64];omega
       have adV:IntKind.i64.wrap (p:Int)=(p:Int):=by rw[IntKind.wrap_i64];omega
       have adU:IntKind.i64.wrap (((p+1:Nat):Int) - 1)=(p:Int):=by rw[IntKind.wrap_i64];omega
       clear a1 a2 a3 e1 e2 iz yD qF hj HS DF;by_cases k1:x1<y1
       ·have eM:Hid (mm (x1,x2) (y1,y2)):=Or.inl k1;go_wp2_with fail;go_quiet (fail);obtain⟨w3,dz⟩:=Ze (wr.drewN nq);have yy:Zq wr w3:=by rw[dz];exact(ae.refl _ wr).drewN _
        have Nc:Hid (∀o,uv w (Zs g m cv) (fE os rs) i p (((((w3.setCell ⟨g,(p+1)*2,none⟩ (Zi y1)).setCell ⟨g,(p+1)*2+1,none⟩ (Zi y2)).setCell ⟨g,p*2,none⟩ (Zi x1)).setCell ⟨g,p*2+1,none⟩ (Zi x2)).alloc o)):=λo=>by
         obtain⟨a1,a2,a3,e1,e2⟩:=Ip.j;have h5:=(a1.quiet yy).swap (show p+1<xs.length from gT.j);rw[e1,e2] at h5;refine⟨_,h5.quiet ((ae.refl _ _).alloc _),?_,?_⟩
         ·have h6:=(Pq (xs:=xs) gT.j).trans a2;rw[e1,e2] at h6;exact h6
         ·have h6:=a3.swap rV.j gT.j (by rw[e1,e2];exact eM.j);rw[e1,e2] at h6;exact h6
        have q0:w3.cell? ⟨g,(p+1)*2,none⟩=some (Zi x1):=by rw[dz];simpa using b0
        have q1:w3.cell? ⟨g,(p+1)*2+1,none⟩=some (Zi x2):=by rw[dz];simpa using b1
        have q2:w3.cell? ⟨g,p*2,none⟩=some (Zi y1):=by rw[dz];simpa using d0
        have q3:w3.cell? ⟨g,p*2+1,none⟩=some (Zi y2):=by rw[dz];simpa using d1
        have fW:g<w3.heap.size:=World.block_lt_of_cell? w3 ⟨g,p*2,none⟩ q2;have kk:∀j,w3.frozen? ⟨g,j,none⟩=false:=λj=>by rw[dz];simpa using iQ j
        have z0:=kk ((p+1)*2);have z1:=kk ((p+1)*2+1);have z2:=kk (p*2);have z3:=kk (p*2+1);rw[<-dz];clear dz yy b0 b1 d0 d1 iQ kk;go_wp2_with fail;go_roundw
        case rel=>exact⟨p,by go_num,by have:=rV.j;omega,Nc.j _⟩
        case measure=>exact Zm
       ·by_cases k2:x1=y1
        ·subst k2;by_cases k3:x2<y2
         ·have eM:Hid (mm (x1,x2) (x1,y2)):=Or.inr ⟨rfl,k3⟩;go_wp2_with fail;go_quiet (fail);obtain⟨w3,dz⟩:=Ze (wr.drewN nq);have yy:Zq wr w3:=by rw[dz];exact(ae.refl _ wr).drewN _
          have Nc:Hid (∀o,uv w (Zs g m cv) (fE os rs) i p (((((w3.setCell ⟨g,(p+1)*2,none⟩ (Zi x1)).setCell ⟨g,(p+1)*2+1,none⟩ (Zi y2)).setCell ⟨g,p*2,none⟩ (Zi x1)).setCell ⟨g,p*2+1,none⟩ (Zi x2)).alloc o)):=λo=>by
           obtain⟨a1,a2,a3,e1,e2⟩:=Ip.j;have h5:=(a1.quiet yy).swap (show p+1<xs.length from gT.j);rw[e1,e2] at h5;refine⟨_,h5.quiet ((ae.refl _ _).alloc _),?_,?_⟩
           ·have h6:=(Pq (xs:=xs) gT.j).trans a2;rw[e1,e2] at h6;exact h6
           ·have h6:=a3.swap rV.j gT.j (by rw[e1,e2];exact eM.j);rw[e1,e2] at h6;exact h6
          have q0:w3.cell? ⟨g,(p+1)*2,none⟩=some (Zi x1):=by rw[dz];simpa using b0
          have q1:w3.cell? ⟨g,(p+1)*2+1,none⟩=some (Zi x2):=by rw[dz];simpa using b1
          have q2:w3.cell? ⟨g,p*2,none⟩=some (Zi x1):=by rw[dz];simpa using d0
          have q3:w3.cell? ⟨g,p*2+1,none⟩=some (Zi y2):=by rw[dz];simpa using d1
          have fW:g<w3.heap.size:=World.block_lt_of_cell? w3 ⟨g,p*2,none⟩ q2;have kk:∀j,w3.frozen? ⟨g,j,none⟩=false:=λj=>by rw[dz];simpa using iQ j
          have z0:=kk ((p+1)*2);have z1:=kk ((p+1)*2+1);have z2:=kk (p*2);have z3:=kk (p*2+1);rw[<-dz];clear dz yy b0 b1 d0 d1 iQ kk;go_wp2_with fail;go_roundw
          case rel=>exact⟨p,by go_num,by have:=rV.j;omega,Nc.j _⟩
          case measure=>exact Zm
         ·have eM:Hid (¬mm (x1,x2) (x1,y2)):=λh=>by unfold mm at h;simp only at h;omega
          have dH:Hid (uv w (Zs g m cv) (fE os rs) (i+1) (i+1) wr):=by
           obtain⟨a1,a2,a3,e1,e2⟩:=Ip.j;exact⟨xs,a1,a2,a3.stop (Or.inr ⟨p,rfl,by rw[e1,e2];exact eM.j⟩)⟩
          go_wp2_with fail;go_quiet (fail);go_wp2_with fail;go_roundw
          case rel=>exact⟨i+1,by go_num,Zo,by have:=zB.j;omega,dH.j.quiet ((ae.refl _ _).drewN _)⟩
          case measure=>have:=zB.j;simp only[RowKit.intOf];omega
        ·have eM:Hid (¬mm (x1,x2) (y1,y2)):=λh=>by unfold mm at h;simp only at h;omega
         have k4:(x1==y1)=false:=beq_eq_false_iff_ne.2 k2;have k6:decide (x1=y1)=false:=decide_eq_false k2;have k7:decide (x1<y1)=false:=decide_eq_false k1;clear k2
         have dH:Hid (uv w (Zs g m cv) (fE os rs) (i+1) (i+1) wr):=by
          obtain⟨a1,a2,a3,e1,e2⟩:=Ip.j;exact⟨xs,a1,a2,a3.stop (Or.inr ⟨p,rfl,by rw[e1,e2];exact eM.j⟩)⟩
         go_wp2_with fail;go_quiet (fail);go_wp2_with fail;go_roundw
         case rel=>exact⟨i+1,by go_num,Zo,by have:=zB.j;omega,dH.j.quiet ((ae.refl _ _).drewN _)⟩
         case measure=>have:=zB.j;simp only[RowKit.intOf];omega
    ·have h1:¬(i:Int)<(m:Int):=Zo
     have pE:Hid (∃ls,ai aJ wr w.heap.size 85 (.slice pv m cv) ls/\ls.Perm (fE os rs)/\ls.Pairwise kY/\Zq w wr):=by
      obtain⟨xs,a1,a2,a3⟩:=HS.j;refine⟨xs,a1.own,a2,a3.whole ?_,a1.on⟩;have:=zn.j;rw[a2.length_eq];omega
     clear ah;go_wp2_with fail
     all_goals
      go_ret;obtain⟨ls,q1,q2,q3,q4⟩:=pE.j;exact⟨_,rfl,ls,q1,q2,q3,q4⟩
end
end Go.Proofs.YtphkconoooeidaaGreatDoor

import Derived.Test.YtphkconoooeidaaGreatDoorCp4
import Derived.Test.YtphkconoooeidaaGreatDoorCp5
import Derived.Test.YtphkconoooeidaaGreatDoorCp16
set_option maxRecDepth 100000
set_option maxHeartbeats 8000000
set_option linter.unusedVariables false
set_option linter.unusedSimpArgs false
open Go Go.Vx Go.Proofs.Tryz Go.ChangeShapes Go.WideShapes Go.ChangeAt Go.RowKit
namespace Go.Proofs.YtphkconoooeidaaGreatDoor
theorem YV {w:World} {br bb n:Nat} {f:Nat->UInt8} (h:cR w br bb n f) (root:Int) (hb:hasB n root=false):
  Zk 147 #[Zp br,Zi root] w λe w'=>Zr e (.tuple #[.slice none 0 0,Zi 1])/\Zq w w':=by
 have jh:=aa (D3 h root 0);rw[hb,Bool.false_and] at jh;clear h hb;go_enter func147,ntmps147;go_wp2_with fail;refine jh.j.e1 ?_;go_wp2_with fail
 all_goals
  go_ret2;exact⟨rfl,ae.refl _ _⟩
theorem YU {w:World} {br bb n:Nat} {f:Nat->UInt8} (h:cR w br bb n f) (root:Nat) (hb:root<n):
  Zk 147 #[Zp br,Zi (root:Int)] w λe w'=>∃v,Zr e (.tuple #[v,Zi 0])/\fm w v (gK f n root 1024) w':=by
 have jh:=aa (D3 h (root:Int) 0);rw[show(hasB n (root:Int)&&hasB n 0)=true by have:=h.pos;simp[hasB];omega] at jh;have iT:=aa h;have dC:=aa (λva (hv:va<4294967296) wv (hm:cR wv br bb n f)=>OW hm root va hb hv);clear h hb;go_enter func147,ntmps147;go_wp2_with fail;refine jh.j.e1 ?_;go_wp2_with fail
 go_loopw [7,8] (λlv d wr=>∃k:Nat,d=Zi (k:Int)/\k<=1024/\Hid (fm w lv (gK f n root k) wr)) (λ_ d _=>1024 - (RowKit.intOf d).toNat)
 case atStart=>exact⟨0,rfl,Zo,fm.start (ae.refl _ _)⟩
 case round=>
  obtain⟨k,rfl,hk,HR⟩:=hrel;by_cases ah:k<1024
  ·have h1:(k:Int)<1024:=Zo;have FK:IntKind.i64.wrap ((k:Int)+1)=(k:Int)+1:=by rw[IntKind.wrap_i64];omega
   have e1:4194304*(k:Int)=((4194304*k:Nat):Int):=Zo;have xE:IntKind.u32.wrap ((4194304*k:Nat):Int)=((4194304*k:Nat):Int):=by rw[IntKind.wrap_u32];omega
   have sX:IntKind.i64.wrap ((4194304*k:Nat):Int)=((4194304*k:Nat):Int):=by rw[IntKind.wrap_i64];omega
   have fY:=aa (dC.j (4194304*k) Zo wr (iT.j.quiet HR.j.on));have cX:=aa (CP f n root k);have HS:=aa (Oa f n root k);generalize 4194304*k=va at e1 xE sX fY HS;generalize jO f n root va=TF at fY HS
   cases TF with
   |none=>
    have aw:Hid (gK f n root (k+1)=gK f n root k):=by show _=_;rw[HS.j];exact List.append_nil _
    clear HS;simp only[Option.getD_none,qZ] at fY;go_wp2_with fail;refine fY.j.m ?_;rintro e w2 ⟨rfl,aC⟩;have bW:Hid (fm w u7 (gK f n root (k+1)) w2):=by show fm _ _ _ _;rw[aw.j];exact HR.j.quiet aC
    clear aC;go_wp2_with fail;go_roundw
    case rel=>exact⟨k+1,by go_num,Zo,bW⟩
    case measure=>exact Zm
   |some p=>
    simp only[Option.getD_some,qZ] at fY;go_wp2_with fail;refine fY.j.m ?_;rintro e w2 ⟨rfl,aC⟩;have bW:=aa (HR.j.quiet aC);clear aC;have lD:Hid ((gK f n root k).length<=2000000):=by show _<=_;have:=cX.j;omega
    have fZ:Hid (w.heap.size<=w2.heap.size):=bW.j.on.size;go_wp2_with (at_builtin;refine Ig _ rfl _ _ rfl w.heap.size _ _ rfl bW.j.o ((va:Int),(p:Int),0) rfl lD.j fZ.j (λg cap w3 h1 h2 _=>?_));have cZ:Hid (fm w (Zs g ((gK f n root k).length+1) cap) (gK f n root (k+1)) w3):=by show fm _ _ _ _;rw[HS.j];exact bW.j.push h1 h2
    clear h1 h2;go_wp2_with fail;go_roundw
    case rel=>exact⟨k+1,by go_num,Zo,cZ⟩
    case measure=>exact Zm
  ·obtain rfl:k=1024:=Zo;clear ah hk;go_wp2_with fail
   all_goals
    go_ret2;exact⟨_,rfl,HR.j⟩
theorem YZ {w:World} {br bb n:Nat} {f:Nat->UInt8} (h:cR w br bb n f) (root:Int) (hb:hasB n root=false):
  Zk 85 #[Zp br,Zi root] w λe w'=>Zr e (.tuple #[.slice none 0 0,Zi 1])/\Zq w w':=by
 have dC:=aa (YV h root hb);clear h hb;go_enter func85,ntmps85;go_wp2_with fail;refine dC.j.m ?_;rintro e w1 ⟨rfl,aB⟩;have bX:=aa aB;clear aB;go_wp2_with fail
 all_goals
  go_ret2;exact⟨rfl,bX.j⟩
theorem YY {w:World} {br bb n:Nat} {f:Nat->UInt8} (h:cR w br bb n f) (root:Nat) (hb:root<n):
  Zk 85 #[Zp br,Zi (root:Int)] w λe w'=>∃v,Zr e (.tuple #[v,Zi 0])/\fm w v (gW f (gK f n root 1024)) w':=by
 have hn:=h.top;have dC:=aa (YU h root hb);have iT:=aa h;have cX:=aa (CP f n root 1024);have sP:Hid (∀t∈gK f n root 1024,∃i p:Nat,i<1024/\p<n/\t=(((4194304*i:Nat):Int),((p:Nat):Int),(0:Int))):=λt ht=>Ob ht
 have fP:=aa (λt k (ht:t<n) (hk:k<1024) wv (hm:cR wv br bb n f)=>F3 hm (4096*t+k*4) Zo Zo);have dg:=aa hn;generalize gK f n root 1024=ts at dC cX sP;clear h hb hn;go_enter func85,ntmps85;go_wp2_with fail;refine dC.j.m ?_;rintro e w1 ⟨vt,rfl,ja⟩;have nO:=aa ja;obtain⟨pt,ct,rfl,uZ,jo,DC⟩:=ja.o.form;have lC:=aa DC;have pR:(ts.length:Int)<=1024:=by have:=cX.j;omega
 obtain⟨L,hL⟩:=Ze (ts.length);have HL:=aa hL;rw[<-hL] at pR nO lC|-;clear ja DC uZ jo hL;go_wp2_with fail
 go_loopw [8,9] (λv d wr=>∃j:Nat,d=Zi (j:Int)/\j<=L/\Hid (fm w1 v (gW f (ts.take j)) wr)) (λ_ d _=>L - (RowKit.intOf d).toNat)
 case atStart=>exact⟨0,rfl,Zo,fm.start (ae.refl _ _)⟩
 case round=>
  obtain⟨j,rfl,hj,HR⟩:=hrel;by_cases ah:j<L
  ·have h1:(j:Int)<(L:Int):=Zo;have bf:0<=(j:Int)/\(j:Int)<(L:Int):=Zo;have sx:j<ts.length:=by have:=HL.j;omega
   have FK:IntKind.i64.wrap ((j:Int)+1)=(j:Int)+1:=by rw[IntKind.wrap_i64];omega
   obtain⟨gt,rfl,lQ,lP⟩:=lC.j Zo;obtain⟨i,p,hi,hp,pP⟩:=sP.j ts[j] (List.getElem_mem _);obtain⟨A,hA⟩:=Ze (4194304*i)
   have ar:Hid (∀wv,Zq w1 wv->wv.cell? ⟨gt,j*3,none⟩=some (Zu (A:Int))/\wv.cell? ⟨gt,j*3+1,none⟩=some (Zi (p:Int))):=λwv hv=>by
    have:=(show lA wv w.heap.size 232 (Zs gt ts.length ct) ts from by have:=nO.j.o.quiet hv;rw[HL.j] at this;exact this).at j sx;rw[pP,<-hA] at this;exact⟨this.1,this.2.1⟩
   have fY:Hid (gW f (ts.take (j+1))=gW f (ts.take j)++iE f i p 1024):=by
    show _=_;rw[PZ f ts j sx,pP];simp only[Int.toNat_natCast];rw[show 4194304*i/4194304=i from Zo]
   have zz:=aa (JY f (ts.take j));have gv:Hid ((ts.take j).length<=1024):=by show _<=_;rw[List.length_take];omega
   have HA:Hid (A=4194304*i/\i<1024/\p<n):=⟨hA,hi,hp⟩
   generalize gW f (ts.take j)=ms at HR fY zz;clear pP hA hi hp sx ah;go_wp2_with fail
   go_loopw [8,10] (λv d wx=>∃k:Nat,d=Zi (k:Int)/\k<=1024/\Hid (fm w1 v (ms++iE f i p k) wx)) (λ_ d _=>1024 - (RowKit.intOf d).toNat)
   case atStart=>exact⟨0,rfl,Zo,by show fm _ _ _ _;rw[show iE f i p 0=[] from rfl,List.append_nil];exact HR.j⟩
   case round=>
    clear HR;obtain⟨k,rfl,hk,HR⟩:=hrel;by_cases dA:k<1024
    ·have d1:(k:Int)<1024:=Zo;have v1:=Zf k Zo;have e1:4096*(k:Int)=((4096*k:Nat):Int):=Zo;have v2:IntKind.u32.wrap ((4096*k:Nat):Int)=((4096*k:Nat):Int):=by rw[IntKind.wrap_u32];omega
     have Wm:IntKind.i64.wrap ((4096*k:Nat):Int)=((4096*k:Nat):Int):=by rw[IntKind.wrap_i64];omega
     have e2:(A:Int)+((4096*k:Nat):Int)=((4194304*i+4096*k:Nat):Int):=by have:=HA.j.1;omega
     have v3:IntKind.u32.wrap ((4194304*i+4096*k:Nat):Int)=((4194304*i+4096*k:Nat):Int):=by have:=HA.j.2.1;rw[IntKind.wrap_u32];omega
     have e3:IntKind.i64.wrap (4096*(p:Int))=4096*(p:Int):=by have:=HA.j.2.2;have:=dg.j;rw[IntKind.wrap_i64];omega
     have e4:=Zh (4*(k:Int)) Zo;have e5:4096*(p:Int)+4*(k:Int)=((4096*p+k*4:Nat):Int):=Zo;have e6:IntKind.i64.wrap ((4096*p+k*4:Nat):Int)=((4096*p+k*4:Nat):Int):=by have:=HA.j.2.2;have:=dg.j;rw[IntKind.wrap_i64];omega
     have eV:=aa (fP.j p k HA.j.2.2 dA wr ((iT.j.quiet nO.j.on).quiet HR.j.on));have HS:=aa (S1 f i p k);obtain⟨g0,g1⟩:=ar.j _ HR.j.on
     have nP:Hid ((ms++iE f i p k).length<=2000000):=by
      show _<=_;have h1:=zz.j;have h2:=gv.j;have h3:=Mb f i p k;rw[List.length_append];omega
     generalize 4194304*i+4096*k=VA at e2 v3 HS;generalize 4096*p+k*4=P at eV HS e5 e6;generalize 4096*k=K4 at e1 v2 Wm e2;have oS:=FH f P;generalize cD f P=wd at eV HS oS;have t1:Int.tdiv (wd:Int) 1024=((wd/1024:Nat):Int):=by rw[Int.tdiv_eq_ediv_of_nonneg Zo];omega
     have t2:(wd:Int)/1024=((wd/1024:Nat):Int):=Zo;have t5:=Zh ((wd/1024:Nat):Int) Zo;have t3:Int.tmod (wd:Int) 2=((wd % 2:Nat):Int):=by rw[Int.tmod_eq_emod_of_nonneg Zo];omega
     have t4:(wd:Int) % 2=((wd % 2:Nat):Int):=Zo;have t6:=Zh ((wd % 2:Nat):Int) Zo;have t7:Int.tdiv (wd:Int) 2=((wd/2:Nat):Int):=by rw[Int.tdiv_eq_ediv_of_nonneg Zo];omega
     have t8:(wd:Int)/2=((wd/2:Nat):Int):=Zo;have t9:=Zh ((wd/2:Nat):Int) Zo;have t10:Int.tmod ((wd/2:Nat):Int) 8=((wd/2 % 8:Nat):Int):=by rw[Int.tmod_eq_emod_of_nonneg Zo];omega
     have t11:((wd/2:Nat):Int) % 8=((wd/2 % 8:Nat):Int):=Zo;have t12:=Zh ((wd/2 % 8:Nat):Int) Zo;clear oS;by_cases hw:wd % 2=1
     ·rw[hw] at t3 t4 t6;have aw:Hid (iE f i p (k+1)=iE f i p k++[((VA:Int),((wd/1024:Nat):Int),((wd/2 % 8:Nat):Int))]):=by show _=_;rw[HS.j,if_pos hw]
      generalize wd/1024=pg at t1 t2 t5 aw;generalize wd/2 % 8=rt at t10 t11 t12 aw;generalize wd/2=hf at t7 t8 t9 t10 t11;clear hw HS;go_wp2_with fail;refine eV.j.m ?_;rintro e w3 ⟨rfl,aN⟩;have cZ:=aa (HR.j.quiet aN);obtain⟨g2,g3⟩:=ar.j _ (HR.j.on.trans aN);clear aN g0 g1;have bJ:Hid (w1.heap.size<=w3.heap.size):=cZ.j.on.size;go_wp2_with (at_builtin;refine Ig _ rfl _ _ rfl w1.heap.size _ _ rfl cZ.j.o ((VA:Int),(pg:Int),(rt:Int)) rfl nP.j bJ.j (λg cap w4 h1 h2 h3=>?_))
      have dK:Hid (fm w1 (Zs g ((ms++iE f i p k).length+1) cap) (ms++iE f i p (k+1)) w4):=by
       show fm _ _ _ _;rw[aw.j,<-List.append_assoc];exact cZ.j.push h1 h2
      clear h1 h2 h3;go_wp2_with fail;go_roundw
      case rel=>exact⟨k+1,by go_num,Zo,by have h:=dK.j;rw[List.length_append] at h;exact h⟩
      case measure=>exact Zm
     ·rw[show wd % 2=0 from Zo] at t3 t4 t6;have aw:Hid (iE f i p (k+1)=iE f i p k):=by show _=_;rw[HS.j,if_neg hw,List.append_nil]
      clear hw HS t1 t2 t5 t7 t8 t9 t10 t11 t12;go_wp2_with fail;refine eV.j.m ?_;rintro e w3 ⟨rfl,aN⟩;have cZ:=aa (HR.j.quiet aN);clear aN;go_wp2_with fail;go_roundw
      case rel=>exact⟨k+1,by go_num,Zo,by show fm _ _ _ _;rw[aw.j];exact cZ.j⟩
      case measure=>exact Zm
    ·obtain rfl:k=1024:=Zo;clear dA hk;have bW:Hid (fm w1 u8 (gW f (ts.take (j+1))) wr):=by show fm _ _ _ _;rw[fY.j];exact HR.j
     go_wp2_with fail;go_roundw
     case rel=>exact⟨j+1,by go_num,Zo,bW⟩
     case measure=>exact Zm
  ·obtain rfl:j=L:=Zo;have h1:¬(j:Int)<(j:Int):=Zo
   have HF:Hid (gW f (ts.take j)=gW f ts):=by
    show _=_;rw[List.take_of_length_le (by have:=HL.j;omega)]
   clear ah hj;go_wp2_with fail
   all_goals
    go_ret2;refine⟨_,rfl,?_⟩;have:=HR.j;rw[HF.j] at this;exact⟨⟨this.o.1,this.o.2.imp (λh=>h) (λ⟨g,cap,cur,a,b,c⟩=>⟨g,cap,cur,a,Nat.le_trans nO.j.on.size b,c⟩)⟩,nO.j.on.trans this.on⟩
theorem XT {w:World} {b1 b2:Nat} {v1 v2:Value} {ms:List (Int×Int×Int)} (h1:lA w b1 232 v1 ms) (h2:lA w b2 232 v2 ms) (hl:ms.length<=2000000):
  Zk 86 #[v1,v2] w λe w'=>Zr e (.bool true)/\Zq w w':=by
 obtain⟨p1,c1,rfl,_,ew,rI⟩:=h1.form;obtain⟨p2,c2,rfl,_,bH,lh⟩:=h2.form;have H1:=aa h1;have H2:=aa h2;have qS:=aa rI;have E1:=aa lh;obtain⟨L,hL⟩:=Ze (ms.length);have HL:=aa hL;rw[<-hL] at hl H1 H2 qS E1|-;have pR:(L:Int)<=2000000:=Zo;clear h1 h2 rI lh hL ew bH;go_enter func86,ntmps86;go_wp2_with fail
 go_loopw [5] (λd wr=>∃k:Nat,d=Zi (k:Int)/\k<=L/\Hid (Zq w wr)) (λd _=>L - (RowKit.intOf d).toNat)
 case atStart=>exact⟨0,rfl,Zo,ae.refl _ _⟩
 case round=>
  obtain⟨k,rfl,hk,HO⟩:=hrel;by_cases ah:k<L
  ·have h1:(k:Int)<(L:Int):=Zo;have bf:0<=(k:Int)/\(k:Int)<(L:Int):=Zo;have DQ:k<ms.length:=by have:=HL.j;omega
   have FK:IntKind.i64.wrap ((k:Int)+1)=(k:Int)+1:=by rw[IntKind.wrap_i64];omega
   obtain⟨g1,rfl,_,_⟩:=qS.j Zo;obtain⟨g2,rfl,_,_⟩:=E1.j Zo;have hd:Zq w wr.drew:=HO.j.drew;have zx:=aa hd;obtain⟨a0,a1,a2⟩:=(show lA wr.drew b1 232 (Zs g1 ms.length c1) ms from by have:=H1.j.quiet hd;rw[HL.j] at this;exact this).at k DQ;obtain⟨d0,d1,d2⟩:=(show lA wr.drew b2 232 (Zs g2 ms.length c2) ms from by have:=H2.j.quiet hd;rw[HL.j] at this;exact this).at k DQ;generalize ms[k]=y at a0 a1 a2 d0 d1 d2;obtain⟨y0,y1,y2⟩:=y;simp only at a0 a1 a2 d0 d1 d2;clear hd ah DQ HO;go_wp2_with fail
   go_region
   all_goals
    go_wp2_with fail;go_roundw
    case rel=>exact⟨k+1,by go_num,Zo,zx⟩
    case measure=>exact Zm
  ·have h1:¬(k:Int)<(L:Int):=Zo;go_wp2_with fail
   all_goals
    go_ret;exact⟨rfl,HO.j⟩
theorem XU {w:World} {v1 v2:Value} {xs:List En} (h1:zk dP w v1 xs) (h2:zk dP w v2 xs):Zk 24 #[v1,v2] w λe w'=>Zr e (.bool true)/\Zq w w':=by
 obtain⟨p1,c1,rfl,hn,q1⟩:=h1;obtain⟨p2,c2,rfl,_,q2⟩:=h2;have HQ:=aa (⟨q1,q2⟩:_/\_);obtain⟨N,hN⟩:=Ze (xs.length);have HN:=aa hN;rw[<-hN] at hn|-;clear q1 q2 hN;go_enter func24,ntmps24;go_wp2_with fail
 go_loopw [5] (λd wr=>∃k j:Nat,d=Zi (k:Int)/\k<=N/\wr=w.drewN j) (λd _=>N - (RowKit.intOf d).toNat)
 case atStart=>exact⟨0,0,rfl,Zo,rfl⟩
 case round=>
  obtain⟨k,jj,rfl,hk,rfl⟩:=hrel;by_cases ah:k<N
  ·have dE:k<xs.length:=by have:=HN.j;omega
   have h1:(k:Int)<(N:Int):=Zo;have tI:0<=(k:Int)/\(k:Int)<(N:Int):=Zo;have iY:=Zf k Zo;obtain⟨g1,rfl,ha⟩:=HQ.j.1 k dE;obtain⟨g2,rfl,hb⟩:=HQ.j.2 k dE;generalize xs[k]=z at ha hb;obtain⟨⟨z0,z1⟩,⟨z2,z3,z4,z5,z6,z7,z8,z9⟩,⟨NF,ND⟩⟩:=z;have a0:=ha 0 Zd;have b0:=hb 0 Zd;have a1:=ha 1 Zd;have b1:=hb 1 Zd;have a2:=ha 2 Zd;have b2:=hb 2 Zd;have a3:=ha 3 Zd;have b3:=hb 3 Zd;have a4:=ha 4 Zd;have b4:=hb 4 Zd;have a5:=ha 5 Zd;have b5:=hb 5 Zd;have a6:=ha 6 Zd;have b6:=hb 6 Zd;have a7:=ha 7 Zd;have b7:=hb 7 Zd;have a8:=ha 8 Zd;have b8:=hb 8 Zd;have a9:=ha 9 Zd;have b9:=hb 9 Zd;have Ez:=ha 10 Zd;have Ch:=hb 10 Zd;have Ey:=ha 11 Zd;have Cg:=hb 11 Zd;replace a0:w.cell? ⟨g1,k*12,none⟩=some (Zi z0):=a0;replace b0:w.cell? ⟨g2,k*12,none⟩=some (Zi z0):=b0;replace a1:w.cell? ⟨g1,k*12+1,none⟩=some (Zi z1):=a1;replace b1:w.cell? ⟨g2,k*12+1,none⟩=some (Zi z1):=b1;replace a2:w.cell? ⟨g1,k*12+2,none⟩=some (Zi z2):=a2;replace b2:w.cell? ⟨g2,k*12+2,none⟩=some (Zi z2):=b2;replace a3:w.cell? ⟨g1,k*12+3,none⟩=some (Zi z3):=a3;replace b3:w.cell? ⟨g2,k*12+3,none⟩=some (Zi z3):=b3;replace a4:w.cell? ⟨g1,k*12+4,none⟩=some (Zi z4):=a4;replace b4:w.cell? ⟨g2,k*12+4,none⟩=some (Zi z4):=b4;replace a5:w.cell? ⟨g1,k*12+5,none⟩=some (Zu z5):=a5;replace b5:w.cell? ⟨g2,k*12+5,none⟩=some (Zu z5):=b5;replace a6:w.cell? ⟨g1,k*12+6,none⟩=some (Zu z6):=a6;replace b6:w.cell? ⟨g2,k*12+6,none⟩=some (Zu z6):=b6;replace a7:w.cell? ⟨g1,k*12+7,none⟩=some (Zi z7):=a7;replace b7:w.cell? ⟨g2,k*12+7,none⟩=some (Zi z7):=b7;replace a8:w.cell? ⟨g1,k*12+8,none⟩=some (Zi z8):=a8;replace b8:w.cell? ⟨g2,k*12+8,none⟩=some (Zi z8):=b8;replace a9:w.cell? ⟨g1,k*12+9,none⟩=some (Zu z9):=a9;replace b9:w.cell? ⟨g2,k*12+9,none⟩=some (Zu z9):=b9;replace Ez:w.cell? ⟨g1,k*12+10,none⟩=some (Zi NF):=Ez;replace Ch:w.cell? ⟨g2,k*12+10,none⟩=some (Zi NF):=Ch;replace Ey:w.cell? ⟨g1,k*12+11,none⟩=some (Zi ND):=Ey;replace Cg:w.cell? ⟨g2,k*12+11,none⟩=some (Zi ND):=Cg;clear ha hb ah;go_wp2_with fail;go_quiet (fail);go_wp2_with fail;go_roundw
   case rel=>exact⟨k+1,_,by go_num,Zo,rfl⟩
   case measure=>exact Zm
  ·obtain rfl:k=N:=Zo;have h1:¬(k:Int)<(k:Int):=Zo;clear ah;go_wp2_with fail
   all_goals
    go_ret;exact⟨rfl,(ae.refl _ _).drewN _⟩
end Go.Proofs.YtphkconoooeidaaGreatDoor

import Derived.Test.YtphkconoooeidaaGreatDoorCp2
import Derived.Test.YtphkconoooeidaaGreatDoorCp5
import Derived.Carry
import Derived.Lib.SlKeysI
import Derived.Maps.RangeWalk
import Derived.Shelf.Abstract
set_option maxRecDepth 100000
set_option maxHeartbeats 8000000
set_option linter.unusedVariables false
set_option linter.unusedSimpArgs false
open Go Go.Vx Go.Proofs.Tryz Go.ChangeShapes Go.WideShapes Go.ChangeAt Go.RowKit
namespace Go.Proofs.YtphkconoooeidaaGreatDoor
section
variable {B:Nat->Prop} {w:World} {bb o:Nat} {T:TypeId} {cs:Array Value} {V:Nat->Value} {L:Nat->List Sh}
theorem bk4:Kind prog mV 46 58:=kG (z:=.slice none 0 0) (b:=24) underlying46 Zx rfl Zd
def vj (c:Int):En:=⟨(c,0),⟨0,0,0,0,0,0,0,0⟩,(0,0)⟩
theorem aav {base:Nat} {l:Value} {ms:List En} (hk:gI B w bb o T cs V L) (aR:(L 4).length<=1000000) (hl:ai dP w base 208 l ms) (jb:base<=w.heap.size) (hm:ms.length<=2000000) (kj:∀k,l.ownBlock=some k->¬B k/\k≠bb):
  Zk 29 #[.pointer (some ⟨bb,o,none⟩),l] w λe w'=>Zr e (.tuple #[])/\∃jd v2 s1 s2,gI (λk=>B k\/l.ownBlock=some k\/(w.heap.size<=k/\k<w'.heap.size)) w' bb o T jd (fh V 4 v2) (fh L 4 (L 4++[s1,s2]))/\(∀i,i<o->jd[i]?=cs[i]?)/\ae (λk=>B k\/l.ownBlock=some k\/k=bb) w w':=by
 obtain⟨pl,cl,rfl,_,_,lN⟩:=hl.form;obtain⟨pv,cv,hv,_⟩:=(hk.k 4 Zd).at;have h5:w.cell? ⟨bb,o+4,none⟩=some (V 4):=hk.cell (j:=4) Zd;obtain⟨Ln,hL⟩:=Ze ((L 4).length);obtain⟨N,hN⟩:=Ze (ms.length);have q0:Int.tdiv (Ln:Int) 2=((Ln/2:Nat):Int):=by rw[Int.tdiv_eq_ediv_of_nonneg Zo];omega
 have iX:(Ln:Int)/2=((Ln/2:Nat):Int):=Zo;have q1:=Zh ((Ln/2:Nat):Int) Zo;obtain⟨c,hc⟩:∃c:Int,c= -77 - ((Ln/2:Nat):Int):=⟨_,rfl⟩
 have q2: -77 - ((Ln/2:Nat):Int)=c:=hc.symm;have q3:=Zh c Zo;rw[<-hN] at kj lN|-
 have sR:Hid (∀k,(Value.slice pl N cl).ownBlock=some k->k<w.heap.size):=λk iC=>by
  obtain⟨_,⟨cur,h⟩,_⟩:=hl.eR (k:=k) (by rw[<-hN];exact iC);exact au h
 have H0:Hid (pn dP 208 (vj c) w base (.slice pl N cl) N 0 (w.alloc (.cells #[Zi c,Zi 0,Zi 0,Zi 0,Zi 0,Zu 0,Zu 0,Zi 0,Zi 0,Zu 0,Zi 0,Zi 0] 208))):=⟨⟨ms,by rw[hN];exact hl.kept ((ae.refl _ _).alloc _) (λ_ _ h=>h),hN.symm,λk hk=>Zo⟩,(ae.refl _ _).alloc _⟩
 have rX:Hid ((w.alloc (.cells #[Zi c,Zi 0,Zi 0,Zi 0,Zi 0,Zu 0,Zu 0,Zi 0,Zi 0,Zu 0,Zi 0,Zi 0] 208)).heap[w.heap.size]?=some (.cells #[Zi c,Zi 0,Zi 0,Zi 0,Zi 0,Zu 0,Zu 0,Zi 0,Zi 0,Zu 0,Zi 0,Zi 0] 208 (0,0))):=heap_alloc_last _ _;have kB:=aa kj;have gT:=aa lN;have nR:Hid (c= -77 - (((L 4).length/2:Nat):Int)):=by show c=_;rw[hc,hL]
 have HK:=aa hk;have xx:=aa jb;have jY:=aa aR;have HV:Hid (V 4=.slice pv Ln cv):=by show V 4=_;rw[hv,hL]
 have wP:N<=2000000:=Zo;have Hk:(N:Int)<=2000000:=Zo;rw[hv,<-hL] at h5;obtain⟨mb,fa⟩:=Ze (w.heap.size);have fQ:Hid (w.heap.size<=mb+1/\(mb=w.heap.size)):=⟨Zo,fa⟩
 clear hc;generalize Ln/2=q at q0 iX q1 q2;clear hk aR hl jb hm kj lN hN hv hL;go_enter func29,ntmps29;go_wp2_with fail;rw[<-fa] at rX|-;obtain⟨w0,oR⟩:=Ze (w.alloc (.cells #[Zi c,Zi 0,Zi 0,Zi 0,Zi 0,Zu 0,Zu 0,Zi 0,Zi 0,Zu 0,Zi 0,Zi 0] 208));have af:Hid (mb<w0.heap.size):=by show mb<w0.heap.size;rw[oR,fa];simp
 rw[<-oR] at H0 rX|-;clear oR;clear fa h5
 go_loopw [5] (λd wr=>∃i:Nat,d=Zi (i:Int)/\i<=N/\Hid (mb<wr.heap.size)/\Hid (pn dP 208 (vj c) w base (.slice pl N cl) N i wr)/\Hid (wr.heap[mb]?=some (.cells #[Zi c,Zi 0,Zi 0,Zi 0,Zi 0,Zu 0,Zu 0,Zi 0,Zi 0,Zu 0,Zi 0,Zi 0] 208 (0,0)))) (λd _=>N - (RowKit.intOf d).toNat)
 case atStart=>exact⟨0,rfl,Zo,af,H0,rX⟩
 case round=>
  clear H0 af;obtain⟨i,rfl,hi,HS,HR,cB⟩:=hrel;by_cases ah:i<N
  ·have d1:(i:Int)<(N:Int):=Zo;have bf:0<=(i:Int)/\(i:Int)<(N:Int):=Zo;have v1:=Zf i Zo;obtain⟨g,rfl,_,_⟩:=gT.j Zo;obtain⟨si,cL,fV,ja⟩:=HR.j.ex;obtain⟨y0,c0⟩:∃y,wr.cell? ⟨g,i*12,none⟩=some y:=⟨_,(cL.cell i 0 Zo Zd).trans rfl⟩
   obtain⟨y1,c1⟩:∃y,wr.cell? ⟨g,i*12+1,none⟩=some y:=⟨_,(cL.cell i 1 Zo Zd).trans rfl⟩
   obtain⟨y2,c2⟩:∃y,wr.cell? ⟨g,i*12+2,none⟩=some y:=⟨_,(cL.cell i 2 Zo Zd).trans rfl⟩
   obtain⟨y3,c3⟩:∃y,wr.cell? ⟨g,i*12+3,none⟩=some y:=⟨_,(cL.cell i 3 Zo Zd).trans rfl⟩
   obtain⟨y4,c4⟩:∃y,wr.cell? ⟨g,i*12+4,none⟩=some y:=⟨_,(cL.cell i 4 Zo Zd).trans rfl⟩
   obtain⟨y5,c5⟩:∃y,wr.cell? ⟨g,i*12+5,none⟩=some y:=⟨_,(cL.cell i 5 Zo Zd).trans rfl⟩
   obtain⟨y6,c6⟩:∃y,wr.cell? ⟨g,i*12+6,none⟩=some y:=⟨_,(cL.cell i 6 Zo Zd).trans rfl⟩
   obtain⟨y7,c7⟩:∃y,wr.cell? ⟨g,i*12+7,none⟩=some y:=⟨_,(cL.cell i 7 Zo Zd).trans rfl⟩
   obtain⟨y8,c8⟩:∃y,wr.cell? ⟨g,i*12+8,none⟩=some y:=⟨_,(cL.cell i 8 Zo Zd).trans rfl⟩
   obtain⟨y9,c9⟩:∃y,wr.cell? ⟨g,i*12+9,none⟩=some y:=⟨_,(cL.cell i 9 Zo Zd).trans rfl⟩
   obtain⟨Vh,Tz⟩:∃y,wr.cell? ⟨g,i*12+10,none⟩=some y:=⟨_,(cL.cell i 10 Zo Zd).trans rfl⟩
   obtain⟨Vg,c11⟩:∃y,wr.cell? ⟨g,i*12+11,none⟩=some y:=⟨_,(cL.cell i 11 Zo Zd).trans rfl⟩
   have f0:=cL.fz (i*12);have f1:=cL.fz (i*12+1);have f2:=cL.fz (i*12+2);have f3:=cL.fz (i*12+3);have f4:=cL.fz (i*12+4);have f5:=cL.fz (i*12+5);have f6:=cL.fz (i*12+6);have f7:=cL.fz (i*12+7);have f8:=cL.fz (i*12+8);have f9:=cL.fz (i*12+9);have f10:=cL.fz (i*12+10);have f11:=cL.fz (i*12+11);have m0:wr.cell? ⟨mb,0,none⟩=some (Zi c):=Zl cB.j;have m1:wr.cell? ⟨mb,1,none⟩=some (Zi 0):=Zl cB.j;have m2:wr.cell? ⟨mb,2,none⟩=some (Zi 0):=Zl cB.j;have m3:wr.cell? ⟨mb,3,none⟩=some (Zi 0):=Zl cB.j;have m4:wr.cell? ⟨mb,4,none⟩=some (Zi 0):=Zl cB.j;have m5:wr.cell? ⟨mb,5,none⟩=some (Zu 0):=Zl cB.j;have m6:wr.cell? ⟨mb,6,none⟩=some (Zu 0):=Zl cB.j;have m7:wr.cell? ⟨mb,7,none⟩=some (Zi 0):=Zl cB.j;have m8:wr.cell? ⟨mb,8,none⟩=some (Zi 0):=Zl cB.j;have m9:wr.cell? ⟨mb,9,none⟩=some (Zu 0):=Zl cB.j;have m10:wr.cell? ⟨mb,10,none⟩=some (Zi 0):=Zl cB.j;have m11:wr.cell? ⟨mb,11,none⟩=some (Zi 0):=Zl cB.j;have aw:Hid (mb<((((((((((((wr.setCell ⟨g,i*12,none⟩ (Zi c)).setCell ⟨g,i*12+1,none⟩ (Zi 0)).setCell ⟨g,i*12+2,none⟩ (Zi 0)).setCell ⟨g,i*12+3,none⟩ (Zi 0)).setCell ⟨g,i*12+4,none⟩ (Zi 0)).setCell ⟨g,i*12+5,none⟩ (Zu 0)).setCell ⟨g,i*12+6,none⟩ (Zu 0)).setCell ⟨g,i*12+7,none⟩ (Zi 0)).setCell ⟨g,i*12+8,none⟩ (Zi 0)).setCell ⟨g,i*12+9,none⟩ (Zu 0)).setCell ⟨g,i*12+10,none⟩ (Zi 0)).setCell ⟨g,i*12+11,none⟩ (Zi 0)).heap.size):=by show mb<_;simpa using HS.j
   have bW:Hid (pn dP 208 (vj c) w base (Zs g N cl) N (i+1) ((((((((((((wr.setCell ⟨g,i*12,none⟩ (Zi c)).setCell ⟨g,i*12+1,none⟩ (Zi 0)).setCell ⟨g,i*12+2,none⟩ (Zi 0)).setCell ⟨g,i*12+3,none⟩ (Zi 0)).setCell ⟨g,i*12+4,none⟩ (Zi 0)).setCell ⟨g,i*12+5,none⟩ (Zu 0)).setCell ⟨g,i*12+6,none⟩ (Zu 0)).setCell ⟨g,i*12+7,none⟩ (Zi 0)).setCell ⟨g,i*12+8,none⟩ (Zi 0)).setCell ⟨g,i*12+9,none⟩ (Zu 0)).setCell ⟨g,i*12+10,none⟩ (Zi 0)).setCell ⟨g,i*12+11,none⟩ (Zi 0))):=by
    obtain⟨s1,s2⟩:=Gc cL fV.symm i Zo (vj c);refine⟨⟨si.set i (vj c),s1,by simp[fV],λk hk=>?_⟩,?_⟩
    ·rw[List.getElem?_set];by_cases jn:i=k
     ·rw[if_pos jn,if_pos Zo]
     ·rw[if_neg jn];exact ja k Zo
    ·exact HR.j.on.trans (s2.mono (λk _ hk=>by rw[hk];rfl))
   have p9:Hid (((((((((((((wr.setCell ⟨g,i*12,none⟩ (Zi c)).setCell ⟨g,i*12+1,none⟩ (Zi 0)).setCell ⟨g,i*12+2,none⟩ (Zi 0)).setCell ⟨g,i*12+3,none⟩ (Zi 0)).setCell ⟨g,i*12+4,none⟩ (Zi 0)).setCell ⟨g,i*12+5,none⟩ (Zu 0)).setCell ⟨g,i*12+6,none⟩ (Zu 0)).setCell ⟨g,i*12+7,none⟩ (Zi 0)).setCell ⟨g,i*12+8,none⟩ (Zi 0)).setCell ⟨g,i*12+9,none⟩ (Zu 0)).setCell ⟨g,i*12+10,none⟩ (Zi 0)).setCell ⟨g,i*12+11,none⟩ (Zi 0)).heap[mb]?=some (.cells #[Zi c,Zi 0,Zi 0,Zi 0,Zi 0,Zu 0,Zu 0,Zi 0,Zi 0,Zu 0,Zi 0,Zi 0] 208 (0,0))):=by
    obtain⟨s1,s2⟩:=Gc cL fV.symm i Zo (vj c);exact(s2.block mb (au cB.j) (λe=>by have:=sR.j g rfl;have:=fQ.j;omega)).trans cB.j
   clear cL fV ja ah HR;go_wp2_with fail;go_roundw
   case rel=>exact⟨i+1,by go_num,Zo,aw,bW,p9⟩
   case measure=>exact Zm
  ·obtain rfl:i=N:=Zo;have d1:¬(i:Int)<(i:Int):=Zo;have nS:Hid (oC (o8 4) dP 208 (vj c) w mb base (.slice pl i cl) i 0 (.slice pl i cl) wr):=EF Zd HR.j;clear ah hi HR;go_wp2_with fail
   go_loopw [6,7] (λy d wr=>∃j:Nat,d=Zi (j:Int)/\j<=33/\Hid (mb<wr.heap.size)/\Hid (oC (o8 4) dP 208 (vj c) w mb base (.slice pl i cl) i j y wr)/\Hid (wr.heap[mb]?=some (.cells #[Zi c,Zi 0,Zi 0,Zi 0,Zi 0,Zu 0,Zu 0,Zi 0,Zi 0,Zu 0,Zi 0,Zi 0] 208 (0,0)))) (λ_ d _=>33 - (RowKit.intOf d).toNat)
   case atStart=>exact⟨0,rfl,Zo,HS,nS,cB⟩
   case round=>
    clear nS HS;obtain⟨j,rfl,hj,HS,HR,cB⟩:=hrel;by_cases fi:j<33
    ·have d2:(j:Int)<33:=Zo;have v1:=Zf j Zo;have m0:wr.cell? ⟨mb,0,none⟩=some (Zi c):=Zl cB.j;have m1:wr.cell? ⟨mb,1,none⟩=some (Zi 0):=Zl cB.j;have m2:wr.cell? ⟨mb,2,none⟩=some (Zi 0):=Zl cB.j;have m3:wr.cell? ⟨mb,3,none⟩=some (Zi 0):=Zl cB.j;have m4:wr.cell? ⟨mb,4,none⟩=some (Zi 0):=Zl cB.j;have m5:wr.cell? ⟨mb,5,none⟩=some (Zu 0):=Zl cB.j;have m6:wr.cell? ⟨mb,6,none⟩=some (Zu 0):=Zl cB.j;have m7:wr.cell? ⟨mb,7,none⟩=some (Zi 0):=Zl cB.j;have m8:wr.cell? ⟨mb,8,none⟩=some (Zi 0):=Zl cB.j;have m9:wr.cell? ⟨mb,9,none⟩=some (Zu 0):=Zl cB.j;have m10:wr.cell? ⟨mb,10,none⟩=some (Zi 0):=Zl cB.j;have m11:wr.cell? ⟨mb,11,none⟩=some (Zi 0):=Zl cB.j;have jw:Hid ((List.replicate (i+j) (vj c)).length+1<=10000000):=by show _<=_;simp;omega
     have xu:Hid (base<=wr.heap.size):=Nat.le_trans xx.j HR.j.on.size;clear fi;go_wp2_with (at_builtin;refine mg Mk _ rfl _ _ rfl base _ _ rfl HR.j.own (vj c) _ _ rfl rfl rfl jw.j xu.j (λx2 w4 h1 h2 h3=>?_);have bW:=aa (HR.j.push Zd h1 h2 h3 fQ.j.1 HS.j);have aw:Hid (mb<w4.heap.size):=Nat.lt_of_lt_of_le HS.j h2.size;have p9:Hid (w4.heap[mb]?=some (.cells #[Zi c,Zi 0,Zi 0,Zi 0,Zi 0,Zu 0,Zu 0,Zi 0,Zi 0,Zu 0,Zi 0,Zi 0] 208 (0,0))):=(h2.block mb (au cB.j) (λe=>by rcases HR.j.xw mb e with h9|h9;(have:=sR.j mb h9;have:=fQ.j;omega);omega)).trans cB.j;clear h1 h2 h3);go_roundw
     case rel=>exact⟨j+1,by go_num,Zo,aw,bW,p9⟩
     case measure=>exact Zm
    ·obtain rfl:j=33:=Zo;have eB:Hid (gI B wr bb o T cs V L):=HK.j.only HR.j.on (λk hb hs=>(kB.j k hs).1 hb) (λhs=>(kB.j bb hs).2 rfl);have h5:Zc wr bb (o+4) (V 4):=eB.j.cell (j:=4) Zd;rw[HV.j] at h5;have pA:Hid (ai mV wr 0 58 (.slice pv Ln cv) (L 4)):=by have:=(eB.j.k 4 Zd).own;rw[HV.j] at this;exact this
     obtain⟨px,cx,hx,_⟩:=HR.j.own.form;rw[List.length_replicate] at hx;subst hx;have mS:=aa eB.j.fz;have kC:=aa eB.j.bl
     have xj:Hid (∀k,(Value.slice pv Ln cv).ownBlock=some k->k≠bb):=λk iC e=>by
      have h8:=(eB.j.k 4 Zd).jB k (by rw[HV.j];exact iC);rw[e] at h8;exact eB.j.nb h8
     clear hj fi;go_wp2_with (at_builtin;refine Ex bk4 _ rfl _ _ rfl _ (L 4) rfl pA.j (pl,i,cl) (px,i+33,cx) _ _ rfl rfl rfl rfl jY.j (λv2 w4 h1 h2 h3=>?_);obtain⟨p2,c2,aP,_⟩:=h1.form;subst aP;have mv:=h2.block bb (au kC.j) (λhv=>xj.j bb hv rfl);have lS:=(World.cell?_of_block (a:=⟨bb,o+4,none⟩) mv).trans h5;have Hc:=(World.frozen?_of_block (a:=⟨bb,o+4,none⟩) mv).trans (mS.j (o+4));have H1:=aa h1;have H2:=aa h2;have H3:=aa h3;clear h1 h2 h3 mv)
     all_goals
      go_end0;refine⟨rfl,?_⟩;have rD:∀u:Value,(w4.setCell ⟨bb,o+4,none⟩ u).heap.size=w4.heap.size:=λu=>by simp[World.setCell]
      rw[rD];obtain⟨hb,ay⟩:=HK.j.push (j:=4) Zd (La:=dP) rfl Zd HR.j rfl rfl wP rfl nR.j kB.j fQ.j.1 H1.j (by rw[HV.j];exact H2.j) (by rw[HV.j];exact H3.j);have Az:(L 4++[(pl,i,cl),(px,i+33,cx)]).length=(L 4).length+2:=by simp
      refine⟨_,_,_,_,by simpa using hb,λi hi=>?_,by simpa using ay⟩;rw[Array.getElem?_setIfInBounds_ne Zo]
end
structure Wx (bs:Lp) (es:List En):Prop where
 nd:(bs.map (·.1)).Nodup
 ib:∀b∈bs,aj b.1
 ix:∀e∈es,∃b∈bs,b.1=e.at'.1/\0<=e.at'.2/\e.at'.2<b.2
 kd:∀e∈es,1<=e.cap.kind/\e.cap.kind<=10
 nm:∀e∈es,aj e.cap.num
theorem Jc {bs:Lp} {n m:Int} (h:bR bs n=some m):(n,m)∈bs:=by
 cases hx:mK bs n with
 |none=>rw[FU hx] at h;cases h
 |some i=>
  obtain⟨hi,h1,h2⟩:=Ev hx;rw[h] at h2;injection h2 with h2
  have:bs[i]=(n,m):=Prod.ext h1 h2.symm;rw[<-this];exact List.getElem_mem hi
theorem afn {bs:Lp} (hn:(bs.map (·.1)).Nodup) {a b:Int×Int} (ha:a∈bs) (hb:b∈bs) (h:a.1=b.1):a=b:=by
 obtain⟨i,hi,rfl⟩:=List.getElem_of_mem ha;obtain⟨j,hj,rfl⟩:=List.getElem_of_mem hb;have h1:=List.pairwise_iff_getElem.1 hn;rcases Nat.lt_trichotomy i j with h2|h2|h2
 ·exact absurd (by rw[List.getElem_map,List.getElem_map];exact h) (h1 i j (by simpa using hi) (by simpa using hj) h2)
 ·subst h2;rfl
 ·exact absurd (by rw[List.getElem_map,List.getElem_map];exact h.symm) (h1 j i (by simpa using hj) (by simpa using hi) h2)
theorem zV {bs:Lp} (hn:(bs.map (·.1)).Nodup) {b:Int×Int} (h:b∈bs):bR bs b.1=some b.2/\∃i,mK bs b.1=some i:=by
 cases hx:mK bs b.1 with
 |none=>have:=mu hx b h;simp at this
 |some i=>
  obtain⟨hi,h1,h2⟩:=Ev hx;rw[h2,afn hn (List.getElem_mem hi) h h1];exact⟨rfl,i,rfl⟩
theorem aeG {bs:Lp} {es:List En} {s:Sl} (h:jc bs es s=0):∃n,bR bs s.1=some n/\0<=s.2/\s.2<n/\kq es s=none:=by
 have hf:cy bs es s=.error 11:=by
  unfold jc at h;rcases wW bs es s with⟨i,hi,_⟩|hi|hi
  ·rw[hi] at h;cases h
  ·rw[hi] at h;cases h
  ·exact hi
 unfold cy at hf
 cases hs:bR bs s.1 with
 |none=>rw[hs] at hf;cases hf
 |some n=>
  rw[hs] at hf;dsimp only at hf;by_cases h2:s.2<0\/n<=s.2
  ·rw[if_pos h2] at hf;cases hf
  ·rw[if_neg h2] at hf;refine⟨n,rfl,Zo,Zo,?_⟩
   cases he:kq es s with
   |some i=>rw[he] at hf;cases hf
   |none=>rfl
theorem Pb {bs:Lp} {es:List En} {a f:Sl} {c:Cp} (h:cK bs es a c f=0):1<=c.kind/\c.kind<=10/\jc bs es a=0:=by
 unfold cK at h;by_cases hk:c.kind<1\/10<c.kind
 ·rw[if_pos hk] at h;cases h
 ·rw[if_neg hk] at h;by_cases hf:jc bs es a=0
  ·exact⟨Zo,Zo,hf⟩
  ·rw[if_neg hf] at h;exact absurd h hf
theorem Wx.put {bs:Lp} {es:List En} (h:Wx bs es) (a:Sl) (c:Cp) (f:Sl) (nB:aj c.num):Wx bs (db bs es a c f):=by
 unfold db;by_cases he:cK bs es a c f=0
 ·rw[if_pos he];obtain⟨k1,k2,hf⟩:=Pb he;obtain⟨n,hs,h1,h2,_⟩:=aeG hf;refine⟨h.nd,h.ib,λe hm=>?_,λe hm=>?_,λe hm=>?_⟩
  ·rcases rj.1 hm with rfl|hm
   ·exact⟨_,Jc hs,rfl,h1,h2⟩
   ·exact h.ix e hm
  ·rcases rj.1 hm with rfl|hm
   ·exact⟨k1,k2⟩
   ·exact h.kd e hm
  ·rcases rj.1 hm with rfl|hm
   ·exact nB
   ·exact h.nm e hm
 ·rw[if_neg he];exact h
theorem OC {a b:Cp} (h:mW a b=true):a.kind=b.kind/\a.num=b.num:=of_decide_eq_true h
theorem Wx.set {bs:Lp} {es:List En} (h:Wx bs es) (s:Sl) (c:Cp):Wx bs (eY bs es s c):=by
 unfold eY
 cases hf:cy bs es s with
 |error e=>exact h
 |ok i=>
  dsimp only;obtain⟨hi,hE⟩:=El hf;have hg:=sD es i hi;by_cases he:mW (es.getD i .df).cap c=true
  ·rw[if_pos he];rw[hg] at he|-;refine⟨h.nd,h.ib,λe hm=>?_,λe hm=>?_,λe hm=>?_⟩
   ·obtain⟨e2,h2,h3,_⟩:=vS hi hm;rw[h3];exact h.ix e2 h2
   ·obtain⟨e2,h2,_,_,h3|h3⟩:=vS hi hm
    ·rw[h3,<-(OC he).1];exact h.kd _ (List.getElem_mem hi)
    ·rw[h3];exact h.kd e2 h2
   ·obtain⟨e2,h2,_,_,h3|h3⟩:=vS hi hm
    ·rw[h3,<-(OC he).2];exact h.nm _ (List.getElem_mem hi)
    ·rw[h3];exact h.nm e2 h2
  ·rw[if_neg he];exact h
theorem Wx.make {bs:Lp} {es:List En} (h:Wx bs es) (num n:Int) (hn:aj num):Wx (fH bs num n) es:=by
 unfold fH;by_cases he:gX bs num n=0
 ·rw[if_pos he]
  have hx:mK bs num=none:=by
   unfold gX at he
   split at he
   ·cases he
   ·cases hb:mK bs num with
    |none=>rfl
    |some i=>rw[hb] at he;cases he
  refine⟨?_,λb hb=>?_,λe hm=>?_,h.kd,h.nm⟩
  ·rw[List.map_append,List.nodup_append];refine⟨h.nd,by simp,λa ha b hb=>?_⟩;obtain⟨c,hc,rfl⟩:=List.mem_map.1 ha;have h1:=mu hx c hc;simp only[List.map_cons,List.map_nil,List.mem_cons,List.not_mem_nil,or_false] at hb;subst hb;exact of_decide_eq_false h1
  ·rcases List.mem_append.1 hb with hb|hb
   ·exact h.ib b hb
   ·simp only[List.mem_cons,List.not_mem_nil,or_false] at hb;subst hb;exact hn
  ·obtain⟨b,hb,h1⟩:=h.ix e hm;exact⟨b,List.mem_append_left _ hb,h1⟩
 ·rw[if_neg he];exact h
abbrev Pl:=Cp×Sl
def JC (p:Pl):List Value:=de p.1++iW p.2
theorem Z9 (p:Pl):JC p=[Zi p.1.kind,Zi p.1.num,Zi p.1.rights,Zu p.1.cQ,Zu p.1.guard,Zi p.1.bS,Zi p.1.root,Zu p.1.va,Zi p.2.1,Zi p.2.2]:=rfl
def lH:Lay Pl:=⟨JC,10,λ_=>rfl,λa u hu=>by
 rw[Z9] at hu;simp only[List.mem_cons,List.not_mem_nil,or_false] at hu
 rcases hu with rfl|rfl|rfl|rfl|rfl|rfl|rfl|rfl|rfl|rfl<;>rfl,Zd⟩
def zF:Pl:=(sV,(0,0))
def aX (es:List En) (s:Sl):Pl:=match kq es s with|some i=>((es.getD i .df).cap,(es.getD i .df).aW)|none=>zF
theorem xN {es:List En} {s:Sl} (h:∀e∈es,e.at'≠s):aX es s=zF:=by
 unfold aX
 cases he:kq es s with
 |none=>rfl
 |some i=>
  obtain⟨hi,hE⟩:=AV he;exact absurd hE (h _ (List.getElem_mem hi))
theorem s8 {es:List En} (ho:Co es) {e:En} (h:e∈es):aX es e.at'=(e.cap,e.aW):=by
 unfold aX
 cases he:kq es e.at' with
 |none=>have:=mu he e h;simp at this
 |some i=>
  obtain⟨hi,hE⟩:=AV he;dsimp only;rw[sD es i hi,ho _ (List.getElem_mem hi) e h hE]
theorem ME (es:List En) (s:Sl):(∃e∈es,e.at'=s)\/∀e∈es,e.at'≠s:=by
 by_cases h:∃e∈es,e.at'=s
 ·exact Or.inl h
 ·exact Or.inr λe he hE=>h ⟨e,he,hE⟩
theorem F6 {bs:Lp} {es:List En} (h:Wx bs es) (ho:Co es) (s:Sl):(aX es s).1.kind=0↔∀e∈es,e.at'≠s:=by
 constructor
 ·intro hk e he hE;subst hE;rw[s8 ho he] at hk;have:=h.kd e he;simp only at hk;omega
 ·intro hn;rw[xN hn];rfl
theorem Wf.once {bs:Lp} {es:List En} (h:Wf bs es):Co es:=aaQ h.so.nodup
theorem Z8 {es:List En} {x:En} (ho:Co es) (aC:Co (mr es x)) (hx:∀e∈es,e.at'≠x.at') (s:Sl):aX (mr es x) s=if s=x.at' then (x.cap,x.aW) else aX es s:=by
 by_cases hs:s=x.at'
 ·rw[if_pos hs,hs];exact s8 aC (rj.2 (Or.inl rfl))
 ·rw[if_neg hs];rcases ME es s with⟨e,he,rfl⟩|hn
  ·rw[s8 ho he];exact s8 aC (rj.2 (Or.inr he))
  ·rw[xN hn];refine xN λe he=>?_
   rcases rj.1 he with rfl|he
   ·exact λh=>hs h.symm
   ·exact hn e he
def OU (a t:Sl) (p:Pl):Pl:=if p.1.kind≠0/\p.2=a then (p.1,t) else p
theorem JB {bs:Lp} {es:List En} (hf:Wf bs es) {a:Sl} {i:Nat} (h:cy bs es a=.ok i):∃hi:i<es.length,es[i].at'=a/\aX es a=(es[i].cap,es[i].aW):=by
 obtain⟨hi,hE⟩:=El h;refine⟨hi,hE,?_⟩;have:=s8 hf.once (List.getElem_mem hi);rw[hE] at this;exact this
theorem Z6 {bs:Lp} {es:List En} (hf:Wf bs es) (hw:Wx bs es) {a f:Sl} {c:Cp} (hg:kE c) (he:cK bs es a c f=0) (s:Sl):aX (db bs es a c f) s=if s=a then (c,qL f) else aX es s:=by
 have h2:=hf.put a c f hg;unfold db at h2|-;rw[if_pos he] at h2|-;obtain⟨_,_,h3⟩:=Pb he;exact Z8 hf.once h2.once (Mc h3).2 s
theorem Z5 {bs:Lp} {es:List En} (hf:Wf bs es) {a:Sl} {i:Nat} (h:cy bs es a=.ok i) {c:Cp} (hg:kE c) (ho:mW (es.getD i .df).cap c=true) (s:Sl):aX (eY bs es a c) s=if s=a then (c,(aX es a).2) else aX es s:=by
 obtain⟨hi,hE,hp⟩:=JB hf h;have h2:=(hf.set a c hg).once;unfold eY at h2|-;rw[h] at h2|-;dsimp only at h2|-;rw[if_pos ho,sD es i hi] at h2|-;by_cases hs:s=a
 ·rw[if_pos hs,hs,hp];have hm:(⟨es[i].at',c,es[i].aW⟩:En)∈es.set i ⟨es[i].at',c,es[i].aW⟩:=List.mem_set hi _;have h4:=s8 h2 hm;have h5:aX (es.set i ⟨es[i].at',c,es[i].aW⟩) es[i].at'=(c,es[i].aW):=h4;have h6:aX (es.set i ⟨es[i].at',c,es[i].aW⟩) a=aX (es.set i ⟨es[i].at',c,es[i].aW⟩) es[i].at':=congrArg (aX (es.set i ⟨es[i].at',c,es[i].aW⟩)) hE.symm;rw[h6,h5]
 ·rw[if_neg hs];rcases ME es s with⟨e,he,rfl⟩|hn
  ·rw[s8 hf.once he];obtain⟨j,hj,rfl⟩:=List.getElem_of_mem he;have K9:i≠j:=λh=>hs (by subst h;exact hE)
   have hm:es[j]∈es.set i ⟨es[i].at',c,es[i].aW⟩:=by
    rw[List.mem_iff_getElem?];exact⟨j,by rw[List.getElem?_set_ne K9,List.getElem?_eq_getElem hj]⟩
   exact s8 h2 hm
  ·rw[xN hn];refine xN λy hy=>?_
   obtain⟨e,he,h3,_⟩:=vS hi hy;rw[h3];exact hn e he
def jz (Q:Sl->Pl) (num:Int) (n:Nat):List Pl:=(List.range n).map λ(i:Nat)=>Q (num,(i:Int))
theorem xL (Q:Sl->Pl) (num:Int) (n:Nat):(jz Q num n).length=n:=by simp[jz]
theorem CT (Q:Sl->Pl) (num:Int) (n k:Nat) (hk:k<(jz Q num n).length):(jz Q num n)[k]=Q (num,(k:Int)):=by simp[jz]
theorem Yu {Q Q':Sl->Pl} {num:Int} {n k:Nat} {p:Pl} (h:∀i:Nat,Q' (num,(i:Int))=if i=k then p else Q (num,(i:Int))):jz Q' num n=(jz Q num n).set k p:=by
 apply List.ext_getElem
 ·simp[jz]
 ·intro i h1 h2;rw[CT,h i,List.getElem_set];by_cases hk:i=k
  ·rw[if_pos hk,if_pos hk.symm]
  ·rw[if_neg hk,if_neg (λh=>hk h.symm),CT]
theorem Yv {Q Q':Sl->Pl} {num:Int} {n:Nat} (h:∀i:Nat,Q' (num,(i:Int))=Q (num,(i:Int))):jz Q' num n=jz Q num n:=by
 unfold jz;simp only[h]
def vI (Q:Sl->Pl) (a:Sl) (p:Pl):Sl->Pl:=λs=>if s=a then p else Q s
theorem Yt (Q:Sl->Pl) (num:Int) (n k:Nat) (p:Pl):jz (vI Q (num,(k:Int)) p) num n=(jz Q num n).set k p:=
 Yu λi=>by
  unfold vI;by_cases h:i=k
  ·subst h;simp
  ·rw[if_neg h,if_neg (by simp;omega)]
theorem Yw (Q:Sl->Pl) (num m:Int) (n:Nat) (k:Int) (p:Pl) (h:m≠num):jz (vI Q (num,k) p) m n=jz Q m n:=
 Yv λi=>by
  unfold vI;rw[if_neg (by simp;exact λh1=>absurd h1 h)]
def RH (v:Value):Option (DataW Value×List MemPlace):=match v with|.slice p n c=>some (.held (.slice p n c),[])|_=>none
theorem TS {v:Value} {y:DataW Value×List MemPlace} (h:RH v=some y):∃p n c,v=.slice p n c/\y=(.held (.slice p n c),[]):=by
 unfold RH at h
 split at h
 ·injection h with h;exact⟨_,_,_,rfl,h.symm⟩
 ·cases h
theorem wf_i64 {k:Int} (h:aj k):(Lit.int .i64 k).wf=true:=by
 unfold aj at h;simp[Lit.wf,IntKind.min,IntKind.max,IntKind.bits,IntKind.signed]<;>omega
theorem adT {k:Int} (h:(Lit.int .i64 k).wf=true):aj k:=by
 unfold aj;simp[Lit.wf,IntKind.min,IntKind.max,IntKind.bits,IntKind.signed] at h<;>omega
theorem Gx {k:Int} (h:aj k):keyOf prog 3 (.int .i64 k)=some (.int .i64 k):=Maps.keyOf_int_mk underlying3 (wf_i64 h)
theorem Di:Maps.Keyed prog 3:=Maps.int_keyed underlying3
theorem NB (w:World):(zeroValue 287).run prog w=.ok (.slice none 0 0) w:=Zx
def tf (G:Int->Nat) (bs:Lp) (k:Int):Value:=match bR bs k with|some n=>.slice (some ⟨G k,0,none⟩) n.toNat n.toNat|none=>.slice none 0 0
structure dm (U:Nat->Prop) (w:World) (xb mb:Nat) (D:DataW Value) (G:Int->Nat) (bs:Lp) (Q:Sl->Pl):Prop where
 ns:w.heap[0]?=some (.cells #[.int .i64 (-1),.int .i64 (-1)] 95 (0,0))
 x:w.heap[xb]?=some (.cells #[.map (some mb)] 252 (0,0))
 m:w.ownsMap prog 3 RH mb bs.length D
 hs:∀k,aj k->Maps.has D (.int .i64 k)=(bR bs k).isSome
 ha:∀k n z,bR bs k=some n->D.atKey (.int .i64 k) z=.held (.slice (some ⟨G k,0,none⟩) n.toNat n.toNat)
 bl:∀k n,bR bs k=some n->ai lH w 0 289 (.slice (some ⟨G k,0,none⟩) n.toNat n.toNat) (jz Q k n.toNat)
 gi:∀j k,(bR bs j).isSome=true->(bR bs k).isSome=true->G j=G k->j=k
 un:¬U 0
 ux:¬U xb
 um:¬U mb
 ug:∀k,(bR bs k).isSome=true->¬U (G k)
 low:∀k,U k->k<w.heap.size
 bn:∀k n,bR bs k=some n->1<=n/\n<=64
 nd:(bs.map (·.1)).Nodup
 ib:∀b∈bs,aj b.1
 nb:bs.length<=1000000
theorem dm.Ej {U:Nat->Prop} {w:World} {xb mb:Nat} {D:DataW Value} {G:Int->Nat} {bs:Lp} {Q:Sl->Pl} (h:dm U w xb mb D G bs Q) {k:Int} (hk:(bR bs k).isSome=true):G k<w.heap.size:=by
 obtain⟨n,hn⟩:=Option.isSome_iff_exists.1 hk;exact(cH (h.bl k n hn) rfl).2
theorem dm.aside {U V S:Nat->Prop} {w w2:World} {xb mb:Nat} {D:DataW Value} {G:Int->Nat} {bs:Lp} {Q:Sl->Pl} (h:dm U w xb mb D G bs Q) (ho:ae S w w2)
  (s0:¬S 0) (s1:¬S xb) (s2:¬S mb) (s3:∀k,(bR bs k).isSome=true->¬S (G k))
  (v0:¬V 0) (v1:¬V xb) (v2:¬V mb) (v3:∀k,(bR bs k).isSome=true->¬V (G k)) (vl:∀k,V k->k<w2.heap.size):dm V w2 xb mb D G bs Q:=by
 have fV:=h.m.lt
 have hm:w2.ownsMap prog 3 RH mb bs.length D:=by
  obtain⟨e,clock,hb,F,hs,hD⟩:=h.m;exact⟨e,clock,(ho.block mb fV s2).trans hb,F,hs,hD⟩
 exact⟨by rw[ho.block _ (au h.ns) s0];exact h.ns,by rw[ho.block xb (au h.x) s1];exact h.x,hm,h.hs,h.ha,λk n hk=>(h.bl k n hk).kept ho (λj hj=>by
  have:G k=j:=by simpa[Value.ownBlock] using hj
  rw[<-this]
  exact s3 k (by rw[hk];rfl)),h.gi,v0,v1,v2,v3,vl,h.bn,h.nd,h.ib,h.nb⟩
theorem dm.only {U S:Nat->Prop} {w w2:World} {xb mb:Nat} {D:DataW Value} {G:Int->Nat} {bs:Lp} {Q:Sl->Pl} (h:dm U w xb mb D G bs Q) (ho:ae S w w2) (hS:∀k,k<w.heap.size->S k->U k):dm U w2 xb mb D G bs Q:=
 h.aside ho (λhs=>h.un (hS _ (au h.ns) hs)) (λhs=>h.ux (hS _ (au h.x) hs)) (λhs=>h.um (hS _ h.m.lt hs)) (λk hk hs=>h.ug k hk (hS _ (h.Ej hk) hs)) h.un h.ux h.um h.ug (λk hk=>Nat.lt_of_lt_of_le (h.low k hk) ho.size)
theorem dm.quiet {U:Nat->Prop} {w w2:World} {xb mb:Nat} {D:DataW Value} {G:Int->Nat} {bs:Lp} {Q:Sl->Pl} (h:dm U w xb mb D G bs Q) (ho:Zq w w2):dm U w2 xb mb D G bs Q:=h.only ho (λ_ _ h=>h.elim)
theorem dm.c0 {U:Nat->Prop} {w:World} {xb mb:Nat} {D:DataW Value} {G:Int->Nat} {bs:Lp} {Q:Sl->Pl} (h:dm U w xb mb D G bs Q):w.cell? ⟨xb,0,none⟩=some (.map (some mb)):=Zl h.x
theorem dm.look {U:Nat->Prop} {w:World} {xb mb:Nat} {D:DataW Value} {G:Int->Nat} {bs:Lp} {Q:Sl->Pl} (h:dm U w xb mb D G bs Q) (k:Int) (hk:aj k):
  (Instr.lookup 250 (.map (some mb)) (.int .i64 k) false).run prog w=.ok (tf G bs k) w/\
  (Instr.lookup 250 (.map (some mb)) (.int .i64 k) true).run prog w=.ok (.tuple #[tf G bs k,.bool (bR bs k).isSome]) w:=by
 have hz:RH (.slice none 0 0)=some (.held (.slice none 0 0),[]):=rfl;obtain⟨v,ps,hr,hv⟩:=h.m.lookup (t:=250) (e:=287) Di underlying250 (NB w) hz (Gx hk);obtain⟨v2,ZS,rG,aP⟩:=h.m.look_ok (t:=250) (e:=287) Di underlying250 (NB w) hz (Gx hk)
 have hD:D.atKey (.int .i64 k) (.held (.slice none 0 0))=.held (tf G bs k):=by
  unfold tf
  cases hs:bR bs k with
  |some n=>exact h.ha k n _ hs
  |none=>exact Maps.atKey_of_not_has (by rw[h.hs k hk,hs];rfl) _
 rw[hD] at hv aP;obtain⟨p,n,c,rfl,he⟩:=TS hv;obtain⟨p2,n2,c2,rfl,gm⟩:=TS aP;simp only[Prod.mk.injEq,DataW.held.injEq] at he gm;rw[hr,rG,he.1,<-gm.1,he.1,h.hs k hk];exact⟨rfl,rfl⟩
structure zh (w:World) (g k:Nat) (p:Pl):Prop where
 c0:w.cell? ⟨g,k*10,none⟩=some (.int .i64 p.1.kind)
 c1:w.cell? ⟨g,k*10+1,none⟩=some (.int .i64 p.1.num)
 c2:w.cell? ⟨g,k*10+2,none⟩=some (.int .i64 p.1.rights)
 c3:w.cell? ⟨g,k*10+3,none⟩=some (.int .u32 p.1.cQ)
 c4:w.cell? ⟨g,k*10+4,none⟩=some (.int .u32 p.1.guard)
 c5:w.cell? ⟨g,k*10+5,none⟩=some (.int .i64 p.1.bS)
 c6:w.cell? ⟨g,k*10+6,none⟩=some (.int .i64 p.1.root)
 c7:w.cell? ⟨g,k*10+7,none⟩=some (.int .u32 p.1.va)
 c8:w.cell? ⟨g,k*10+8,none⟩=some (.int .i64 p.2.1)
 c9:w.cell? ⟨g,k*10+9,none⟩=some (.int .i64 p.2.2)
theorem aaj {w:World} {base g n c:Nat} {T:TypeId} {xs:List Pl} (h:ai lH w base T (Zs g n c) xs) (k:Nat) (hk:k<xs.length):zh w g k xs[k]:=
 ⟨h.cell k 0 hk Zd,h.cell k 1 hk Zd,h.cell k 2 hk Zd,h.cell k 3 hk Zd,h.cell k 4 hk Zd,h.cell k 5 hk Zd,h.cell k 6 hk Zd,h.cell k 7 hk Zd,h.cell k 8 hk Zd,h.cell k 9 hk Zd⟩
theorem dm.uH {U:Nat->Prop} {w:World} {xb mb:Nat} {D:DataW Value} {G:Int->Nat} {bs:Lp} {Q:Sl->Pl} (h:dm U w xb mb D G bs Q) {k n:Int} (hn:bR bs k=some n) (i:Nat) (hi:(i:Int)<n):zh w (G k) i (Q (k,(i:Int))):=by
 have hl:i<(jz Q k n.toNat).length:=by rw[xL];omega
 have:=aaj (h.bl k n hn) i hl;rw[CT] at this;exact this
theorem BG (p:Pl) (w:World):Zk 134 #[.agg #[.int .i64 p.1.kind,.int .i64 p.1.num,.int .i64 p.1.rights,.int .u32 p.1.cQ,.int .u32 p.1.guard,.int .i64 p.1.bS,.int .i64 p.1.root,.int .u32 p.1.va,.int .i64 p.2.1,.int .i64 p.2.2]] w λe w'=>Zr e (.bool (p.1.kind !=0))/\Zq w w':=by
 obtain⟨K,hK⟩:=Ze (p.1.kind);rw[<-hK];clear hK;go_enter func134,ntmps134;go_wp2_with fail
 all_goals
  go_ret;exact⟨by first|rfl|simp_all,(ae.refl _ _).alloc _⟩
theorem Pn {w:World} {base g c m:Nat} {T:TypeId} {xs:List Pl} (h:ai lH w base T (Zs g m c) xs) (hm:m=xs.length) (k:Nat) (hk:k<xs.length) (y:Pl):
  let W:=((((((((((w.setCell ⟨g,k*10,none⟩ (Zi y.1.kind)).setCell ⟨g,k*10+1,none⟩ (Zi y.1.num)).setCell ⟨g,k*10+2,none⟩ (Zi y.1.rights)).setCell ⟨g,k*10+3,none⟩ (Zu y.1.cQ)).setCell ⟨g,k*10+4,none⟩ (Zu y.1.guard)).setCell ⟨g,k*10+5,none⟩ (Zi y.1.bS)).setCell ⟨g,k*10+6,none⟩ (Zi y.1.root)).setCell ⟨g,k*10+7,none⟩ (Zu y.1.va)).setCell ⟨g,k*10+8,none⟩ (Zi y.2.1)).setCell ⟨g,k*10+9,none⟩ (Zi y.2.2));ai lH W base T (Zs g m c) (xs.set k y)/\ae (λb=>b=g) w W:=Gb h hm hk 0 (JC y) y (Nat.le_of_ble_eq_true rfl) rfl
theorem Z4 {w:World} {base g c m:Nat} {T:TypeId} {xs:List Pl} (h:ai lH w base T (Zs g m c) xs) (hm:m=xs.length) (k:Nat) (hk:k<xs.length) (cp:Cp):
  let W:=((((((((w.setCell ⟨g,k*10,none⟩ (Zi cp.kind)).setCell ⟨g,k*10+1,none⟩ (Zi cp.num)).setCell ⟨g,k*10+2,none⟩ (Zi cp.rights)).setCell ⟨g,k*10+3,none⟩ (Zu cp.cQ)).setCell ⟨g,k*10+4,none⟩ (Zu cp.guard)).setCell ⟨g,k*10+5,none⟩ (Zi cp.bS)).setCell ⟨g,k*10+6,none⟩ (Zi cp.root)).setCell ⟨g,k*10+7,none⟩ (Zu cp.va));ai lH W base T (Zs g m c) (xs.set k (cp,xs[k].2))/\ae (λb=>b=g) w W:=Gb h hm hk 0 (de cp) (cp,xs[k].2) (Nat.le_of_ble_eq_true rfl) rfl
section
variable {U:Nat->Prop} {w:World} {xb mb:Nat} {D:DataW Value} {G:Int->Nat} {bs:Lp} {Q:Sl->Pl}
theorem BF {n k:Int} (h:bR bs k=some n):tf G bs k=.slice (some ⟨G k,0,none⟩) n.toNat n.toNat:=by unfold tf;rw[h]
theorem J1 {k:Int} (h:bR bs k=none):tf G bs k=.slice none 0 0:=by unfold tf;rw[h]
theorem Vl (h:dm U w xb mb D G bs Q) (k:Int) (hk:aj k):Zk 149 #[Zp xb,Zi k] w λe w'=>Zr e (.tuple #[Zi (jk bs k).1,Zi (jk bs k).2])/\w'=w:=by
 have hl:=(h.look k hk).2;have c0:=h.c0
 cases hs:bR bs k with
 |none=>
  have HE:Hid (jk bs k=(0,6)):=by show jk bs k=_;unfold jk;rw[hs]
  rw[J1 hs,hs] at hl;have kH:(Instr.lookup 250 (.map (some mb)) (Zi k) true).run prog w=.ok (.tuple #[.slice none 0 0,.bool false]) w:=hl;clear hl hs;go_enter func149,ntmps149;go_wp2_with fail
  all_goals
   go_ret2
   exact⟨by rw[HE.j];try rfl,rfl⟩
 |some n=>
  have hn:=h.bn k n hs;have HE:Hid (jk bs k=(n,0)):=by show jk bs k=_;unfold jk;rw[hs]
  rw[BF hs,hs] at hl;have kH:(Instr.lookup 250 (.map (some mb)) (Zi k) true).run prog w=.ok (.tuple #[.slice (some ⟨G k,0,none⟩) n.toNat n.toNat,.bool true]) w:=hl;have e1:((n.toNat:Nat):Int)=n:=Zo;clear hl hs;go_enter func149,ntmps149;go_wp2_with fail
  all_goals
   go_ret2;exact⟨by rw[HE.j];first|rfl|rw[e1]|simp[e1],rfl⟩
theorem FM (h:dm U w xb mb D G bs Q) (b:Int) (hb:aj b) (k:Nat) (n:Int) (hn:bR bs b=some n) (hk:(k:Int)<n):
  Zk 200 #[Zp xb,.agg #[Zi b,Zi (k:Int)]] w λe w'=>Zr e (.tuple #[.pointer (some ⟨G b,k*10,none⟩),Zi 0])/\Zq w w':=by
 obtain⟨w1,ag⟩:=Ze (w.alloc (.cells #[Zi b,Zi (k:Int)] 95));have ho:=Za ag;have h1:=h.quiet ho;have Hg:=h.bn b n hn;obtain⟨N,hN⟩:∃N:Nat,n=(N:Int):=⟨n.toNat,Zo⟩
 subst hN;have c0:=h1.c0
 have hl:∀j,(Instr.lookup 250 (.map (some mb)) (Zi b) false).run prog (w1.drewN j)=.ok (.slice (some ⟨G b,0,none⟩) N N) (w1.drewN j):=λj=>by
  have:=((h1.quiet ((ae.refl _ w1).drewN j)).look b hb).1;rw[BF hn] at this;exact this
 have lL:w1.heap[w.heap.size]?=some (.cells #[Zi b,Zi (k:Int)] 95 (0,0)):=by rw[ag];exact heap_alloc_last _ _
 have k0:w1.cell? ⟨w.heap.size,0,none⟩=some (Zi b):=Zl lL;have k1:w1.cell? ⟨w.heap.size,1,none⟩=some (Zi (k:Int)):=Zl lL;have HO:=aa ho;have g1:¬(k:Int)<0:=Zo;have g2:¬(N:Int)<=(k:Int):=Zo;have bf:0<=(k:Int)/\(k:Int)<(N:Int):=Zo;clear h h1 lL ho hn Hg;go_enter func200,ntmps200;go_wp2_with fail;rw[<-ag];obtain⟨sb,iB⟩:=Ze (w.heap.size);rw[<-iB] at k0 k1|-;clear ag iB;go_quiet (fail);go_wp2_with fail
 all_goals
  go_ret2;exact⟨by simp,HO.j.trans (by repeat' (first|exact ae.refl _ _|refine ae.drewN ?_ _|refine ae.drew ?_))⟩
theorem WL (h:dm U w xb mb D G bs Q) (b i:Int) (hb:aj b) (hn:bR bs b=none) (hi:0<=i):
  Zk 200 #[Zp xb,.agg #[Zi b,Zi i]] w λe w'=>Zr e (.tuple #[.pointer none,Zi 9])/\Zq w w':=by
 obtain⟨w1,ag⟩:=Ze (w.alloc (.cells #[Zi b,Zi i] 95));have ho:=Za ag;have h1:=h.quiet ho;have yz:=J1 (G:=G) hn;have g1:¬i<0:=Zo;have g2:(0:Int)<=i:=hi;have c0:=h1.c0
 have hl:∀j,(Instr.lookup 250 (.map (some mb)) (Zi b) false).run prog (w1.drewN j)=.ok (.slice none 0 0) (w1.drewN j):=λj=>by
  have:=((h1.quiet ((ae.refl _ w1).drewN j)).look b hb).1;rw[yz] at this;exact this
 have lL:w1.heap[w.heap.size]?=some (.cells #[Zi b,Zi i] 95 (0,0)):=by rw[ag];exact heap_alloc_last _ _
 have k0:w1.cell? ⟨w.heap.size,0,none⟩=some (Zi b):=Zl lL;have k1:w1.cell? ⟨w.heap.size,1,none⟩=some (Zi i):=Zl lL;have HO:=aa ho;clear h h1 lL ho yz;go_enter func200,ntmps200;go_wp2_with fail;rw[<-ag];obtain⟨sb,iB⟩:=Ze (w.heap.size);rw[<-iB] at k0 k1|-;clear ag iB;go_quiet (fail);go_wp2_with fail
 all_goals
  go_ret2;exact⟨rfl,HO.j.trans (by repeat' (first|exact ae.refl _ _|refine ae.drewN ?_ _|refine ae.drew ?_))⟩
theorem WM (h:dm U w xb mb D G bs Q) (b i:Int) (hb:aj b) (hi:i<0):
  Zk 200 #[Zp xb,.agg #[Zi b,Zi i]] w λe w'=>Zr e (.tuple #[.pointer none,Zi 9])/\Zq w w':=by
 obtain⟨w1,ag⟩:=Ze (w.alloc (.cells #[Zi b,Zi i] 95));have ho:=Za ag;have h1:=h.quiet ho;have yz:tf G bs b=tf G bs b:=rfl;have c0:=h1.c0
 have hl:∀j,(Instr.lookup 250 (.map (some mb)) (Zi b) false).run prog (w1.drewN j)=.ok (tf G bs b) (w1.drewN j):=λj=>by
  have:=((h1.quiet ((ae.refl _ w1).drewN j)).look b hb).1;rw[yz] at this;exact this
 have lL:w1.heap[w.heap.size]?=some (.cells #[Zi b,Zi i] 95 (0,0)):=by rw[ag];exact heap_alloc_last _ _
 have k0:w1.cell? ⟨w.heap.size,0,none⟩=some (Zi b):=Zl lL;have k1:w1.cell? ⟨w.heap.size,1,none⟩=some (Zi i):=Zl lL;have HO:=aa ho;clear h h1 lL ho yz;go_enter func200,ntmps200;go_wp2_with fail;rw[<-ag];obtain⟨sb,iB⟩:=Ze (w.heap.size);rw[<-iB] at k0 k1|-;clear ag iB;go_quiet (fail);go_wp2_with fail
 all_goals
  go_ret2;exact⟨rfl,HO.j.trans (by repeat' (first|exact ae.refl _ _|refine ae.drewN ?_ _|refine ae.drew ?_))⟩
theorem WN (h:dm U w xb mb D G bs Q) (b i:Int) (hb:aj b) (n:Int) (hn:bR bs b=some n) (hi:n<=i):
  Zk 200 #[Zp xb,.agg #[Zi b,Zi i]] w λe w'=>Zr e (.tuple #[.pointer none,Zi 9])/\Zq w w':=by
 obtain⟨w1,ag⟩:=Ze (w.alloc (.cells #[Zi b,Zi i] 95));have ho:=Za ag;have h1:=h.quiet ho;have yz:=BF (G:=G) hn;have Hg:=h.bn b n hn;have g1:¬i<0:=Zo;have g2:((n.toNat:Nat):Int)<=i:=Zo;have c0:=h1.c0
 have hl:∀j,(Instr.lookup 250 (.map (some mb)) (Zi b) false).run prog (w1.drewN j)=.ok (.slice (some ⟨G b,0,none⟩) n.toNat n.toNat) (w1.drewN j):=λj=>by
  have:=((h1.quiet ((ae.refl _ w1).drewN j)).look b hb).1;rw[yz] at this;exact this
 have lL:w1.heap[w.heap.size]?=some (.cells #[Zi b,Zi i] 95 (0,0)):=by rw[ag];exact heap_alloc_last _ _
 have k0:w1.cell? ⟨w.heap.size,0,none⟩=some (Zi b):=Zl lL;have k1:w1.cell? ⟨w.heap.size,1,none⟩=some (Zi i):=Zl lL;have HO:=aa ho;clear h h1 lL ho yz;go_enter func200,ntmps200;go_wp2_with fail;rw[<-ag];obtain⟨sb,iB⟩:=Ze (w.heap.size);rw[<-iB] at k0 k1|-;clear ag iB;go_quiet (fail);go_wp2_with fail
 all_goals
  go_ret2;exact⟨rfl,HO.j.trans (by repeat' (first|exact ae.refl _ _|refine ae.drewN ?_ _|refine ae.drew ?_))⟩
def EE (bs:Lp) (s:Sl):Prop:=∀n,bR bs s.1=some n->s.2<0\/n<=s.2
theorem N4 (h:dm U w xb mb D G bs Q) (s:Sl) (hb:aj s.1) (ho:EE bs s):
  Zk 200 #[Zp xb,.agg #[Zi s.1,Zi s.2]] w λe w'=>Zr e (.tuple #[.pointer none,Zi 9])/\Zq w w':=by
 by_cases hi:s.2<0
 ·exact WM h s.1 s.2 hb hi
 ·cases hn:bR bs s.1 with
  |none=>exact WL h s.1 s.2 hb hn Zo
  |some n=>exact WN h s.1 s.2 hb n hn (by rcases ho n hn with h1|h1;exact absurd h1 hi;exact h1)
theorem QF (bs:Lp) (s:Sl):(∃(k:Nat) (n:Int),s.2=(k:Int)/\bR bs s.1=some n/\(k:Int)<n)\/EE bs s:=by
 cases hn:bR bs s.1 with
 |none=>exact Or.inr λn h=>by rw[hn] at h;cases h
 |some n=>
  by_cases hi:s.2<0\/n<=s.2
  ·exact Or.inr λm h=>by rw[hn] at h;injection h with h;subst h;exact hi
  ·exact Or.inl ⟨s.2.toNat,n,Zo,rfl,Zo⟩
end
section
variable {U:Nat->Prop} {w:World} {xb mb:Nat} {D:DataW Value} {G:Int->Nat} {bs:Lp} {Q:Sl->Pl}
theorem VN (h:dm U w xb mb D G bs Q) (b:Int) (hb:aj b) (k:Nat) (n:Int) (hn:bR bs b=some n) (hk:(k:Int)<n) (hq:(Q (b,(k:Int))).1.kind≠0):
  Zk 165 #[Zp xb,.agg #[Zi b,Zi (k:Int)]] w λe w'=>Zr e (.tuple #[.pointer (some ⟨G b,k*10,none⟩),Zi 0])/\Zq w w':=by
 have HX:=aa h;have HC:Hid (∀w2,Zq w w2->Zk 200 #[Zp xb,.agg #[Zi b,Zi (k:Int)]] w2 λe w'=>Zr e (.tuple #[.pointer (some ⟨G b,k*10,none⟩),Zi 0])/\Zq w2 w'):=λw2 ho=>FM (h.quiet ho) b hb k n hn hk
 have HP:Hid (∀w2,Zq w w2->zh w2 (G b) k (Q (b,(k:Int)))):=λw2 ho=>(h.quiet ho).uH hn k hk
 have HF:Hid (∀w2,Zk 134 #[.agg #[Zi (Q (b,(k:Int))).1.kind,Zi (Q (b,(k:Int))).1.num,Zi (Q (b,(k:Int))).1.rights,Zu (Q (b,(k:Int))).1.cQ,Zu (Q (b,(k:Int))).1.guard,Zi (Q (b,(k:Int))).1.bS,Zi (Q (b,(k:Int))).1.root,Zu (Q (b,(k:Int))).1.va,Zi (Q (b,(k:Int))).2.1,Zi (Q (b,(k:Int))).2.2]] w2 λe w'=>Zr e (.bool true)/\Zq w2 w'):=λw2=>by
  refine(BG (Q (b,(k:Int))) w2).m ?_;rintro e w' ⟨rfl,h2⟩;exact⟨by simp[hq],h2⟩
 have HO:Hid (∀o,Zq w (w.alloc o)):=λo=>(ae.refl _ w).alloc o
 clear h hn hk hb hq;go_enter func165,ntmps165;go_wp2_with fail;refine(HC.j _ (HO.j _)).m ?_;rintro e w2 ⟨rfl,h2⟩;have H2:Hid (Zq w w2):=(HO.j _).trans h2;obtain⟨c0,c1,c2,c3,c4,c5,c6,c7,c8,c9⟩:=HP.j w2 H2.j;clear h2;go_wp2_with fail;refine(HF.j _).m ?_;rintro e w3 ⟨rfl,h3⟩;have H3:Hid (Zq w w3):=H2.j.trans h3;clear h3;go_wp2_with fail
 all_goals
  go_ret2;exact⟨rfl,H3.j⟩
theorem VM (h:dm U w xb mb D G bs Q) (b:Int) (hb:aj b) (k:Nat) (n:Int) (hn:bR bs b=some n) (hk:(k:Int)<n) (hq:(Q (b,(k:Int))).1.kind=0):
  Zk 165 #[Zp xb,.agg #[Zi b,Zi (k:Int)]] w λe w'=>Zr e (.tuple #[.pointer none,Zi 11])/\Zq w w':=by
 have HX:=aa h;have HC:Hid (∀w2,Zq w w2->Zk 200 #[Zp xb,.agg #[Zi b,Zi (k:Int)]] w2 λe w'=>Zr e (.tuple #[.pointer (some ⟨G b,k*10,none⟩),Zi 0])/\Zq w2 w'):=λw2 ho=>FM (h.quiet ho) b hb k n hn hk
 have HP:Hid (∀w2,Zq w w2->zh w2 (G b) k (Q (b,(k:Int)))):=λw2 ho=>(h.quiet ho).uH hn k hk
 have HF:Hid (∀w2,Zk 134 #[.agg #[Zi (Q (b,(k:Int))).1.kind,Zi (Q (b,(k:Int))).1.num,Zi (Q (b,(k:Int))).1.rights,Zu (Q (b,(k:Int))).1.cQ,Zu (Q (b,(k:Int))).1.guard,Zi (Q (b,(k:Int))).1.bS,Zi (Q (b,(k:Int))).1.root,Zu (Q (b,(k:Int))).1.va,Zi (Q (b,(k:Int))).2.1,Zi (Q (b,(k:Int))).2.2]] w2 λe w'=>Zr e (.bool false)/\Zq w2 w'):=λw2=>by
  refine(BG (Q (b,(k:Int))) w2).m ?_;rintro e w' ⟨rfl,h2⟩;exact⟨by simp[hq],h2⟩
 have HO:Hid (∀o,Zq w (w.alloc o)):=λo=>(ae.refl _ w).alloc o
 clear h hn hk hb hq;go_enter func165,ntmps165;go_wp2_with fail;refine(HC.j _ (HO.j _)).m ?_;rintro e w2 ⟨rfl,h2⟩;have H2:Hid (Zq w w2):=(HO.j _).trans h2;obtain⟨c0,c1,c2,c3,c4,c5,c6,c7,c8,c9⟩:=HP.j w2 H2.j;clear h2;go_wp2_with fail;refine(HF.j _).m ?_;rintro e w3 ⟨rfl,h3⟩;have H3:Hid (Zq w w3):=H2.j.trans h3;clear h3;go_wp2_with fail
 all_goals
  go_ret2;exact⟨rfl,H3.j⟩
theorem VS (h:dm U w xb mb D G bs Q) (b:Int) (hb:aj b) (k:Nat) (n:Int) (hn:bR bs b=some n) (hk:(k:Int)<n) (hq:(Q (b,(k:Int))).1.kind=0):
  Zk 167 #[Zp xb,.agg #[Zi b,Zi (k:Int)]] w λe w'=>Zr e (.tuple #[.pointer (some ⟨G b,k*10,none⟩),Zi 0])/\Zq w w':=by
 have HX:=aa h;have HC:Hid (∀w2,Zq w w2->Zk 200 #[Zp xb,.agg #[Zi b,Zi (k:Int)]] w2 λe w'=>Zr e (.tuple #[.pointer (some ⟨G b,k*10,none⟩),Zi 0])/\Zq w2 w'):=λw2 ho=>FM (h.quiet ho) b hb k n hn hk
 have HP:Hid (∀w2,Zq w w2->zh w2 (G b) k (Q (b,(k:Int)))):=λw2 ho=>(h.quiet ho).uH hn k hk
 have HF:Hid (∀w2,Zk 134 #[.agg #[Zi (Q (b,(k:Int))).1.kind,Zi (Q (b,(k:Int))).1.num,Zi (Q (b,(k:Int))).1.rights,Zu (Q (b,(k:Int))).1.cQ,Zu (Q (b,(k:Int))).1.guard,Zi (Q (b,(k:Int))).1.bS,Zi (Q (b,(k:Int))).1.root,Zu (Q (b,(k:Int))).1.va,Zi (Q (b,(k:Int))).2.1,Zi (Q (b,(k:Int))).2.2]] w2 λe w'=>Zr e (.bool false)/\Zq w2 w'):=λw2=>by
  refine(BG (Q (b,(k:Int))) w2).m ?_;rintro e w' ⟨rfl,h2⟩;exact⟨by simp[hq],h2⟩
 have HO:Hid (∀o,Zq w (w.alloc o)):=λo=>(ae.refl _ w).alloc o
 clear h hn hk hb hq;go_enter func167,ntmps167;go_wp2_with fail;refine(HC.j _ (HO.j _)).m ?_;rintro e w2 ⟨rfl,h2⟩;have H2:Hid (Zq w w2):=(HO.j _).trans h2;obtain⟨c0,c1,c2,c3,c4,c5,c6,c7,c8,c9⟩:=HP.j w2 H2.j;clear h2;go_wp2_with fail;refine(HF.j _).m ?_;rintro e w3 ⟨rfl,h3⟩;have H3:Hid (Zq w w3):=H2.j.trans h3;clear h3;go_wp2_with fail
 all_goals
  go_ret2;exact⟨rfl,H3.j⟩
theorem VR (h:dm U w xb mb D G bs Q) (b:Int) (hb:aj b) (k:Nat) (n:Int) (hn:bR bs b=some n) (hk:(k:Int)<n) (hq:(Q (b,(k:Int))).1.kind≠0):
  Zk 167 #[Zp xb,.agg #[Zi b,Zi (k:Int)]] w λe w'=>Zr e (.tuple #[.pointer none,Zi 10])/\Zq w w':=by
 have HX:=aa h;have HC:Hid (∀w2,Zq w w2->Zk 200 #[Zp xb,.agg #[Zi b,Zi (k:Int)]] w2 λe w'=>Zr e (.tuple #[.pointer (some ⟨G b,k*10,none⟩),Zi 0])/\Zq w2 w'):=λw2 ho=>FM (h.quiet ho) b hb k n hn hk
 have HP:Hid (∀w2,Zq w w2->zh w2 (G b) k (Q (b,(k:Int)))):=λw2 ho=>(h.quiet ho).uH hn k hk
 have HF:Hid (∀w2,Zk 134 #[.agg #[Zi (Q (b,(k:Int))).1.kind,Zi (Q (b,(k:Int))).1.num,Zi (Q (b,(k:Int))).1.rights,Zu (Q (b,(k:Int))).1.cQ,Zu (Q (b,(k:Int))).1.guard,Zi (Q (b,(k:Int))).1.bS,Zi (Q (b,(k:Int))).1.root,Zu (Q (b,(k:Int))).1.va,Zi (Q (b,(k:Int))).2.1,Zi (Q (b,(k:Int))).2.2]] w2 λe w'=>Zr e (.bool true)/\Zq w2 w'):=λw2=>by
  refine(BG (Q (b,(k:Int))) w2).m ?_;rintro e w' ⟨rfl,h2⟩;exact⟨by simp[hq],h2⟩
 have HO:Hid (∀o,Zq w (w.alloc o)):=λo=>(ae.refl _ w).alloc o
 clear h hn hk hb hq;go_enter func167,ntmps167;go_wp2_with fail;refine(HC.j _ (HO.j _)).m ?_;rintro e w2 ⟨rfl,h2⟩;have H2:Hid (Zq w w2):=(HO.j _).trans h2;obtain⟨c0,c1,c2,c3,c4,c5,c6,c7,c8,c9⟩:=HP.j w2 H2.j;clear h2;go_wp2_with fail;refine(HF.j _).m ?_;rintro e w3 ⟨rfl,h3⟩;have H3:Hid (Zq w w3):=H2.j.trans h3;clear h3;go_wp2_with fail
 all_goals
  go_ret2;exact⟨rfl,H3.j⟩
theorem VL (h:dm U w xb mb D G bs Q) (s:Sl) (hb:aj s.1) (ho:EE bs s):
  Zk 165 #[Zp xb,.agg #[Zi s.1,Zi s.2]] w λe w'=>Zr e (.tuple #[.pointer none,Zi 9])/\Zq w w':=by
 have HC:Hid (∀w2,Zq w w2->Zk 200 #[Zp xb,.agg #[Zi s.1,Zi s.2]] w2 λe w'=>Zr e (.tuple #[.pointer none,Zi 9])/\Zq w2 w'):=λw2 h2=>N4 (h.quiet h2) s hb ho
 have HO:Hid (∀o,Zq w (w.alloc o)):=λo=>(ae.refl _ w).alloc o
 clear h ho hb;obtain⟨s1,s2⟩:=s;dsimp only at HC|-;go_enter func165,ntmps165;go_wp2_with fail;refine(HC.j _ (HO.j _)).m ?_;rintro e w2 ⟨rfl,h2⟩;have H2:Hid (Zq w w2):=(HO.j _).trans h2;clear h2;go_wp2_with fail
 all_goals
  go_ret2;exact⟨rfl,H2.j⟩
theorem VQ (h:dm U w xb mb D G bs Q) (s:Sl) (hb:aj s.1) (ho:EE bs s):
  Zk 167 #[Zp xb,.agg #[Zi s.1,Zi s.2]] w λe w'=>Zr e (.tuple #[.pointer none,Zi 9])/\Zq w w':=by
 have HC:Hid (∀w2,Zq w w2->Zk 200 #[Zp xb,.agg #[Zi s.1,Zi s.2]] w2 λe w'=>Zr e (.tuple #[.pointer none,Zi 9])/\Zq w2 w'):=λw2 h2=>N4 (h.quiet h2) s hb ho
 have HO:Hid (∀o,Zq w (w.alloc o)):=λo=>(ae.refl _ w).alloc o
 clear h ho hb;obtain⟨s1,s2⟩:=s;dsimp only at HC|-;go_enter func167,ntmps167;go_wp2_with fail;refine(HC.j _ (HO.j _)).m ?_;rintro e w2 ⟨rfl,h2⟩;have H2:Hid (Zq w w2):=(HO.j _).trans h2;clear h2;go_wp2_with fail
 all_goals
  go_ret2;exact⟨rfl,H2.j⟩
end
section
def jL (U:Nat->Prop) (w:World) (xb:Nat) (bs:Lp) (es:List En):Prop:=∃mb D G,dm U w xb mb D G bs (aX es)/\Wf bs es/\Wx bs es/\es.length<=1000000
variable {U:Nat->Prop} {w:World} {xb mb:Nat} {D:DataW Value} {G:Int->Nat} {bs:Lp} {es:List En}
theorem S0 {s:Sl} (h:EE bs s):cy bs es s=.error 9:=by
 unfold cy
 cases hs:bR bs s.1 with
 |none=>rfl
 |some n=>
  dsimp only;rw[if_pos (h n hs)]
theorem Ti (es:List En) (s:Sl):(∃i,kq es s=some i)\/(kq es s=none/\∀e∈es,e.at'≠s):=by
 cases he:kq es s with
 |some i=>exact Or.inl ⟨i,rfl⟩
 |none=>exact Or.inr ⟨rfl,λe hm hE=>by have h1:=mu he e hm;rw[hE] at h1;simp at h1⟩
theorem Ma {s:Sl} {n:Int} (h:bR bs s.1=some n) (h0:0<=s.2) (h1:s.2<n):cy bs es s=match kq es s with|none=>.error 11|some i=>.ok i:=by
 unfold cy;rw[h];dsimp only;rw[if_neg Zo];cases kq es s<;>rfl
def slA (s:Sl):Value:=.agg #[Zi s.1,Zi s.2]
def cpA (c:Cp):Value:=.agg #[Zi c.kind,Zi c.num,Zi c.rights,Zu c.cQ,Zu c.guard,Zi c.bS,Zi c.root,Zu c.va]
theorem dm.full (h:dm U w xb mb D G bs (aX es)) (hf:Wf bs es) (hx:Wx bs es) (s:Sl) (hb:aj s.1):
  (∃(k:Nat) (n:Int) (i:Nat),s.2=(k:Int)/\bR bs s.1=some n/\(k:Int)<n/\cy bs es s=.ok i/\(aX es s).1.kind≠0/\∀w2,Zq w w2->Zk 165 #[Zp xb,.agg #[Zi s.1,Zi (k:Int)]] w2 λe w'=>Zr e (.tuple #[.pointer (some ⟨G s.1,k*10,none⟩),Zi 0])/\Zq w2 w')\/
  (∃er:Int,cy bs es s=.error er/\er≠0/\∀w2,Zq w w2->Zk 165 #[Zp xb,.agg #[Zi s.1,Zi s.2]] w2 λe w'=>Zr e (.tuple #[.pointer none,Zi er])/\Zq w2 w'):=by
 obtain⟨s1,s2⟩:=s;dsimp only at hb|-;rcases QF bs (s1,s2) with⟨k,n,hk,hn,ah⟩|ho
 ·dsimp only at hk hn;subst hk;have gA:=Ma (es:=es) (s:=(s1,(k:Int))) hn (by simp) ah;rcases Ti es (s1,(k:Int)) with⟨i,hi⟩|⟨hi,cu⟩
  ·left;obtain⟨bM,hE⟩:=AV hi;have oe:(aX es (s1,(k:Int))).1.kind≠0:=λh0=>(F6 hx hf.once _).1 h0 _ (List.getElem_mem bM) hE
   exact⟨k,n,i,rfl,hn,ah,by rw[gA,hi],oe,λw2 h2=>VN (h.quiet h2) s1 hb k n hn ah oe⟩
  ·right;have oe:(aX es (s1,(k:Int))).1.kind=0:=(F6 hx hf.once _).2 cu;exact⟨11,by rw[gA,hi],Zd,λw2 h2=>VM (h.quiet h2) s1 hb k n hn ah oe⟩
 ·right;exact⟨9,S0 ho,Zd,λw2 h2=>VL (h.quiet h2) (s1,s2) hb ho⟩
theorem dm.empty (h:dm U w xb mb D G bs (aX es)) (hf:Wf bs es) (hx:Wx bs es) (s:Sl) (hb:aj s.1):
  (∃(k:Nat) (n:Int),s.2=(k:Int)/\bR bs s.1=some n/\(k:Int)<n/\jc bs es s=0/\(aX es s).1.kind=0/\∀w2,Zq w w2->Zk 167 #[Zp xb,.agg #[Zi s.1,Zi (k:Int)]] w2 λe w'=>Zr e (.tuple #[.pointer (some ⟨G s.1,k*10,none⟩),Zi 0])/\Zq w2 w')\/
  (∃er:Int,jc bs es s=er/\er≠0/\∀w2,Zq w w2->Zk 167 #[Zp xb,.agg #[Zi s.1,Zi s.2]] w2 λe w'=>Zr e (.tuple #[.pointer none,Zi er])/\Zq w2 w'):=by
 obtain⟨s1,s2⟩:=s;dsimp only at hb|-;rcases QF bs (s1,s2) with⟨k,n,hk,hn,ah⟩|ho
 ·dsimp only at hk hn;subst hk;have gA:=Ma (es:=es) (s:=(s1,(k:Int))) hn (by simp) ah;rcases Ti es (s1,(k:Int)) with⟨i,hi⟩|⟨hi,cu⟩
  ·right;obtain⟨bM,hE⟩:=AV hi;have oe:(aX es (s1,(k:Int))).1.kind≠0:=λh0=>(F6 hx hf.once _).1 h0 _ (List.getElem_mem bM) hE
   exact⟨10,by unfold jc;rw[gA,hi],Zd,λw2 h2=>VR (h.quiet h2) s1 hb k n hn ah oe⟩
  ·left;have oe:(aX es (s1,(k:Int))).1.kind=0:=(F6 hx hf.once _).2 cu;exact⟨k,n,rfl,hn,ah,by unfold jc;rw[gA,hi];rfl,oe,λw2 h2=>VS (h.quiet h2) s1 hb k n hn ah oe⟩
 ·right;exact⟨9,by unfold jc;rw[S0 ho];rfl,Zd,λw2 h2=>VQ (h.quiet h2) (s1,s2) hb ho⟩
theorem VK (hc:jL U w xb bs es) (s:Sl) (hb:aj s.1):Zk 104 #[Zp xb,.agg #[Zi s.1,Zi s.2]] w λe w'=>Zr e (.tuple #[bO (aH bs es s).1,Zi (aH bs es s).2])/\Zq w w':=by
 obtain⟨mb,D,G,h,hf,hx,hl⟩:=hc;have HO:Hid (∀o p,Zq w ((w.alloc o).alloc p)):=λo p=>((ae.refl _ w).alloc _).alloc _
 rcases h.full hf hx s hb with⟨k,n,i,hk,hn,ah,gA,oe,jI⟩|⟨er,gA,qG,jI⟩
 ·obtain⟨hi,hE,hp⟩:=JB hf gA;have HG:Hid (aH bs es s=((aX es s).1,0)):=by show aH bs es s=_;unfold aH;rw[gA,hp];dsimp only;rw[sD es i hi]
  have HP:Hid (∀w2,Zq w w2->zh w2 (G s.1) k (aX es s)):=λw2 ho=>by
   have:=(h.quiet ho).uH hn k ah;rw[<-hk] at this;exact this
  have HC:=aa jI;obtain⟨s1,s2⟩:=s;dsimp only at hk;subst hk;clear h hf hx hl hn ah gA oe jI hE hp hi hb;dsimp only at HC|-;go_enter func104,ntmps104;go_wp2_with fail;refine(HC.j _ (HO.j _ _)).m ?_;rintro e w2 ⟨rfl,hq⟩;have fI:=(HO.j (.cells #[Zi s1,Zi (k:Int)] 95) (.cells #[Zi 0,Zi 0,Zi 0,Zu 0,Zu 0,Zi 0,Zi 0,Zu 0] 97)).trans hq;have hz:=xT hq;have jm:w.heap.size<=w.heap.size+1:=Zo;have aL:=aa (⟨fI,jm⟩:_/\_);obtain⟨⟨z0,z1,z2,z3,z4,z5,z6,z7⟩,zf⟩:=eL hz;obtain⟨k0,k1,k2,k3,k4,k5,k6,k7,_,_⟩:=HP.j w2 fI;generalize (aX es (s1,(k:Int))).1=cp at k0 k1 k2 k3 k4 k5 k6 k7 HG;obtain⟨d0,d1,d2,d3,d4,d5,d6,d7⟩:=cp;dsimp only at k0 k1 k2 k3 k4 k5 k6 k7;obtain⟨rc,dO⟩:=Ze (w.heap.size+1);rw[<-dO] at z0 z1 z2 z3 z4 z5 z6 z7 zf aL|-;clear hq hz fI HO dO jm HC HP;go_wp2_with fail;refine bodyPost_ret (v:=.tuple #[bO ⟨d0,d1,d2,d3,d4,d5,d6,d7⟩,Zi 0]) ?_ rfl ⟨by rw[HG.j],?_⟩
  ·simp[results,results104,go_sem,bO,z0,z1,z2,z3,z4,z5,z6,z7]
  ·repeat' (first|refine ae.setCell ?_ (Or.inr aL.j.2) _|exact aL.j.1)
 ·have HG:Hid (aH bs es s=(sV,er)):=by show aH bs es s=_;unfold aH;rw[gA]
  have AI:(er==0)=false:=beq_eq_false_iff_ne.2 qG;have Lq:(er !=0)=true:=by simp[bne,AI]
  have HC:=aa jI;obtain⟨s1,s2⟩:=s;clear h hf hx hl gA jI hb qG;dsimp only at HC|-;go_enter func104,ntmps104;go_wp2_with fail;refine(HC.j _ (HO.j _ _)).m ?_;rintro e w2 ⟨rfl,hq⟩;have fI:=(HO.j (.cells #[Zi s1,Zi s2] 95) (.cells #[Zi 0,Zi 0,Zi 0,Zu 0,Zu 0,Zi 0,Zi 0,Zu 0] 97)).trans hq;have hz:=xT hq;have jm:w.heap.size<=w.heap.size+1:=Zo;have aL:=aa (⟨fI,jm⟩:_/\_);obtain⟨⟨z0,z1,z2,z3,z4,z5,z6,z7⟩,zf⟩:=eL hz;obtain⟨rc,dO⟩:=Ze (w.heap.size+1);rw[<-dO] at z0 z1 z2 z3 z4 z5 z6 z7 zf aL|-;clear hq hz fI HO dO jm HC;go_wp2_with fail;refine bodyPost_ret (v:=.tuple #[bO sV,Zi er]) ?_ rfl ⟨by rw[HG.j],?_⟩
  ·simp[results,results104,go_sem,bO,sV,z0,z1,z2,z3,z4,z5,z6,z7]
  ·repeat' (first|refine ae.setCell ?_ (Or.inr aL.j.2) _|exact aL.j.1)
end
section
variable {U:Nat->Prop} {w:World} {xb mb:Nat} {D:DataW Value} {G:Int->Nat} {bs:Lp} {es:List En} {Q:Sl->Pl}
theorem Gp {w:World} {j k:Nat} {c:Array Value} {t:TypeId} {fr:Nat×Nat} {n:Nat} {E:DataW Value} (h:w.heap[j]?=some (.cells c t fr)) (h2:w.ownsMap prog 3 RH k n E):j≠k:=by
 obtain⟨es,clock,hb,_⟩:=h2;rintro rfl;rw[h] at hb;cases hb
theorem dm.sep (h:dm U w xb mb D G bs Q) {b:Int} (hb:(bR bs b).isSome=true):G b≠0/\G b≠xb/\G b≠mb/\∀c,(bR bs c).isSome=true->c≠b->G c≠G b:=by
 obtain⟨n,hn⟩:=Option.isSome_iff_exists.1 hb;obtain⟨cur,hc⟩:=bu (h.bl b n hn) (k:=G b) rfl;exact⟨cE hc h.ns Zd,cE hc h.x Zd,Gp hc h.m,λc bH cu e=>cu (h.gi c b bH hb e)⟩
theorem dm.put {w3:World} (h:dm U w xb mb D G bs Q) {b n:Int} (hn:bR bs b=some n) (k:Nat) (p:Pl) (hw:ai lH w3 0 289 (.slice (some ⟨G b,0,none⟩) n.toNat n.toNat) ((jz Q b n.toNat).set k p)) (ho:ae (λj=>j=G b) w w3):dm U w3 xb mb D G bs (vI Q (b,(k:Int)) p)/\ae (λj=>¬U j) w w3:=by
 have hb:(bR bs b).isSome=true:=by rw[hn];rfl
 obtain⟨g0,g1,g2,g3⟩:=h.sep hb
 have hm:w3.ownsMap prog 3 RH mb bs.length D:=by
  have fV:=h.m.lt;obtain⟨e,clock,hb,F,hs,hD⟩:=h.m;exact⟨e,clock,(ho.block mb fV (λe=>g2 e.symm)).trans hb,F,hs,hD⟩
 refine⟨⟨by rw[ho.block _ (au h.ns) (λe=>g0 e.symm)];exact h.ns,by rw[ho.block xb (au h.x) (λe=>g1 e.symm)];exact h.x,hm,h.hs,h.ha,λc m hm=>?_,h.gi,h.un,h.ux,h.um,h.ug,λj hj=>Nat.lt_of_lt_of_le (h.low j hj) ho.size,h.bn,h.nd,h.ib,h.nb⟩,ho.mono (λj _ hj=>by subst hj;exact h.ug b hb)⟩;by_cases hc:c=b
 ·subst hc;rw[hn] at hm;injection hm with hm
  subst hm;rw[Yt];exact hw
 ·rw[Yw Q b c _ _ p hc];refine(h.bl c m hm).kept ho (λj hj=>?_);have:G c=j:=by simpa[Value.ownBlock] using hj
  rw[<-this];exact g3 c (by rw[hm];rfl) hc
theorem dm.same {Q2:Sl->Pl} (h:dm U w xb mb D G bs Q) (hq:∀s,Q s=Q2 s):dm U w xb mb D G bs Q2:=by
 have:Q=Q2:=funext hq;rw[<-this];exact h
theorem Mt (h:dm U w xb mb D G bs Q) {b n:Int} (hn:bR bs b=some n):∀j,w.frozen? ⟨G b,j,none⟩=false:=λj=>(h.bl b n hn).fz j
theorem Vn (hc:jL U w xb bs es) (s:Sl) (hb:aj s.1) (cp:Cp) (hg:kE cp):Zk 171 #[Zp xb,.agg #[.int .i64 s.1,.int .i64 s.2],.agg #[.int .i64 cp.kind,.int .i64 cp.num,.int .i64 cp.rights,.int .u32 cp.cQ,.int .u32 cp.guard,.int .i64 cp.bS,.int .i64 cp.root,.int .u32 cp.va]] w λe w'=>Zr e (.int .i64 (kS bs es s cp))/\jL U w' xb bs (eY bs es s cp)/\Zn U w w':=by
 obtain⟨mb,D,G,h,hf,hx,hl⟩:=hc;have HO:Hid (∀o p,Zq w ((w.alloc o).alloc p)):=λo p=>((ae.refl _ w).alloc _).alloc _
 have HX:=aa h;rcases h.full hf hx s hb with⟨k,n,i,hk,hn,ah,gA,oe,jI⟩|⟨er,gA,qG,jI⟩
 ·obtain⟨hi,hE,hp⟩:=JB hf gA;have HS:=aa (Z5 hf gA (c:=cp) hg);have HW:=aa (⟨hf.set s cp hg,hx.set s cp⟩:_/\_)
  have rY:Hid ((eY bs es s cp).length=es.length):=by
   show(eY bs es s cp).length=es.length;unfold eY;rw[gA];dsimp only
   split
   ·simp
   ·rfl
  have HL:=aa hl;have HE:Hid (kS bs es s cp=if mW (aX es s).1 cp=true then 0 else 12):=by show kS bs es s cp=_;unfold kS;rw[gA,hp];dsimp only;rw[sD es i hi]
  have E4:Hid (mW (aX es s).1 cp=false->eY bs es s cp=es):=by
   intro h0;unfold eY;rw[gA];dsimp only;rw[hp] at h0;rw[sD es i hi,h0];rfl
  have aw:Hid (mW (aX es s).1 cp=true->∀t,aX (eY bs es s cp) t=vI (aX es) s (cp,(aX es s).2) t):=by
   intro h0 t;refine HS.j ?_ t;rw[sD es i hi];rw[hp] at h0;exact h0
  have HP:Hid (∀w2,Zq w w2->zh w2 (G s.1) k (aX es s)):=λw2 ho=>by
   have:=(h.quiet ho).uH hn k ah;rw[<-hk] at this;exact this
  have dg:=aa (⟨hn,ah⟩:_/\_);have HC:=aa jI;have Ba:=aa (⟨hf,hx⟩:_/\_);obtain⟨s1,s2⟩:=s;dsimp only at hk;subst hk;clear h hf hx hl hn ah gA oe jI hE hp hi hb HS hg;obtain⟨d0,d1,d2,d3,d4,d5,d6,d7⟩:=cp;dsimp only at HC|-;go_enter func171,ntmps171;go_wp2_with fail;refine(HC.j _ (HO.j _ _)).m ?_;rintro e w2 ⟨rfl,hq⟩;have fI:=(HO.j (.cells #[.int .i64 s1,.int .i64 (k:Int)] 95) (.cells #[.int .i64 d0,.int .i64 d1,.int .i64 d2,.int .u32 d3,.int .u32 d4,.int .i64 d5,.int .i64 d6,.int .u32 d7] 97)).trans hq;have hz:=xT hq;have aL:=aa fI;obtain⟨⟨z0,z1,z2,z3,z4,z5,z6,z7⟩,zf⟩:=eL hz;obtain⟨k0,k1,k2,k3,k4,k5,k6,k7,_,_⟩:=HP.j w2 fI;have H2:=aa (HX.j.quiet fI);have HB:=aa (H2.j.bl s1 n dg.j.1);have gf:=Mt H2.j dg.j.1;obtain⟨rc,dO⟩:=Ze (w.heap.size+1);rw[<-dO] at z0 z1 z2 z3 z4 z5 z6 z7 zf hz|-;have HZ:=aa hz;clear hq fI HO dO HC HP HX hz;generalize kI:(aX es (s1,(k:Int))).1=cq at k0 k1 k2 k3 k4 k5 k6 k7 HE E4 aw;obtain⟨f0,f1,f2,f3,f4,f5,f6,f7⟩:=cq;dsimp only at k0 k1 k2 k3 k4 k5 k6 k7;by_cases h0:d0=f0
  ·subst h0;by_cases h1:d1=f1
   ·subst h1;have rR:Hid (mW ⟨d0,d1,f2,f3,f4,f5,f6,f7⟩ ⟨d0,d1,d2,d3,d4,d5,d6,d7⟩=true):=decide_eq_true ⟨rfl,rfl⟩;go_wp2_with fail;go_quiet (fail);go_wp2_with fail;go_ret;have H3:=H2.j.quiet ((ae.refl _ w2).drewN nq);have dE:k<(jz (aX es) s1 n.toNat).length:=by rw[xL];have:=dg.j.2;omega
    obtain⟨hw,ho⟩:=Z4 (H3.bl s1 n dg.j.1) (xL _ _ _).symm k dE ⟨d0,d1,d2,d3,d4,d5,d6,d7⟩;rw[CT] at hw;obtain⟨h4,h5⟩:=H3.put dg.j.1 k _ hw ho;exact⟨by rw[HE.j,rR.j];rfl,⟨mb,D,G,h4.same (λt=>(aw.j rR.j t).symm),HW.j.1,HW.j.2,by rw[rY.j];exact HL.j⟩,(aL.j.f).trans (((ae.refl _ w2).drewN nq).trans h5)⟩
   ·have rR:Hid (mW ⟨d0,f1,f2,f3,f4,f5,f6,f7⟩ ⟨d0,d1,d2,d3,d4,d5,d6,d7⟩=false):=decide_eq_false (λh=>h1 h.2.symm);have h2:(d1==f1)=false:=beq_eq_false_iff_ne.2 h1;go_wp2_with fail;go_quiet (fail);go_wp2_with fail
    all_goals
     go_ret;exact⟨by rw[HE.j,rR.j];rfl,by rw[E4.j rR.j];exact⟨mb,D,G,H2.j.quiet (by repeat' (first|exact ae.refl _ _|refine ae.drewN ?_ _|refine ae.drew ?_)),Ba.j.1,Ba.j.2,HL.j⟩,(aL.j.f).trans (by repeat' (first|exact ae.refl _ _|refine ae.drewN ?_ _|refine ae.drew ?_))⟩
  ·have rR:Hid (mW ⟨f0,f1,f2,f3,f4,f5,f6,f7⟩ ⟨d0,d1,d2,d3,d4,d5,d6,d7⟩=false):=decide_eq_false (λh=>h0 h.1.symm);have h2:(d0==f0)=false:=beq_eq_false_iff_ne.2 h0;go_wp2_with fail;go_quiet (fail);go_wp2_with fail
   all_goals
    go_ret;exact⟨by rw[HE.j,rR.j];rfl,by rw[E4.j rR.j];exact⟨mb,D,G,H2.j.quiet (by repeat' (first|exact ae.refl _ _|refine ae.drewN ?_ _|refine ae.drew ?_)),Ba.j.1,Ba.j.2,HL.j⟩,(aL.j.f).trans (by repeat' (first|exact ae.refl _ _|refine ae.drewN ?_ _|refine ae.drew ?_))⟩
 ·have HE:Hid (kS bs es s cp=er):=by show kS bs es s cp=_;unfold kS;rw[gA]
  have HR:Hid (∀w2,Zq w w2->jL U w2 xb bs (eY bs es s cp)):=λw2 h2=>by
   have:eY bs es s cp=es:=by unfold eY;rw[gA]
   rw[this];exact⟨mb,D,G,h.quiet h2,hf,hx,hl⟩
  have AI:(er==0)=false:=beq_eq_false_iff_ne.2 qG;have Lq:(er !=0)=true:=by simp[bne,AI]
  have HC:=aa jI;obtain⟨s1,s2⟩:=s;clear h hf hx hl gA jI hb qG HX hg;obtain⟨d0,d1,d2,d3,d4,d5,d6,d7⟩:=cp;dsimp only at HC|-;go_enter func171,ntmps171;go_wp2_with fail;refine(HC.j _ (HO.j _ _)).m ?_;rintro e w2 ⟨rfl,hq⟩;have aL:=aa ((HO.j (.cells #[.int .i64 s1,.int .i64 s2] 95) (.cells #[.int .i64 d0,.int .i64 d1,.int .i64 d2,.int .u32 d3,.int .u32 d4,.int .i64 d5,.int .i64 d6,.int .u32 d7] 97)).trans hq);clear hq HO HC;go_wp2_with fail
  all_goals
   go_ret;exact⟨by rw[HE.j];try rfl,HR.j _ aL.j,aL.j.f⟩
end
section
variable {U:Nat->Prop} {w:World} {xb mb:Nat} {D:DataW Value} {G:Int->Nat} {bs:Lp} {es:List En} {Q:Sl->Pl}
theorem JS {w w2:World} {a b c:Obj} (h:Zq (((w.alloc a).alloc b).alloc c) w2):w2.heap[w.heap.size]?=some a/\w2.heap[w.heap.size+1]?=some b/\w2.heap[w.heap.size+1+1]?=some c:=by
 have h3:(((w.alloc a).alloc b).alloc c).heap[w.heap.size+1+1]?=some c:=by
  have:=heap_alloc_last ((w.alloc a).alloc b) c;simpa using this
 have h2:(((w.alloc a).alloc b).alloc c).heap[w.heap.size+1]?=some b:=by
  have h1:=heap_alloc_last (w.alloc a) b;rw[RowKit.Below.heap_alloc _ _ _ (by simp)];simpa using h1
 have h1:(((w.alloc a).alloc b).alloc c).heap[w.heap.size]?=some a:=by
  rw[RowKit.Below.heap_alloc _ _ _ (by simp;omega),RowKit.Below.heap_alloc _ _ _ (by simp)];exact heap_alloc_last w a
 exact⟨(h.block _ (au h1) (λh=>h)).trans h1,(h.block _ (au h2) (λh=>h)).trans h2,(h.block _ (au h3) (λh=>h)).trans h3⟩
theorem ZL {a f:Sl} {c:Cp} (hk:¬(c.kind<1\/10<c.kind)) (he:jc bs es a≠0):cK bs es a c f=jc bs es a:=by unfold cK;rw[if_neg hk,if_neg he]
theorem ZI {a f:Sl} {c:Cp} (hk:¬(c.kind<1\/10<c.kind)) (he:jc bs es a=0) (hf:f.1= -1):cK bs es a c f=0:=by unfold cK;rw[if_neg hk,if_pos he,if_pos hf]
theorem Pd {a f:Sl} {c:Cp} (hk:¬(c.kind<1\/10<c.kind)) (he:jc bs es a=0) (hf:f.1≠ -1):cK bs es a c f=nI (cy bs es f):=by unfold cK;rw[if_neg hk,if_pos he,if_neg hf]
theorem ZK {a f:Sl} {c:Cp} (h:cK bs es a c f≠0):db bs es a c f=es:=by unfold db;rw[if_neg h]
theorem adw (es:List En) (x:En):(mr es x).length=es.length+1:=uO es x _
theorem ZJ (a f:Sl) (c:Cp):(db bs es a c f).length<=es.length+1:=by
 unfold db
 split
 ·rw[adw];exact Nat.le_refl _
 ·omega
theorem Vt (hc:jL U w xb bs es) (a:Sl) (c:Cp) (f:Sl) (ha:aj a.1) (gA:aj f.1) (nB:aj c.num) (hg:kE c) (hlen:es.length<1000000):Zk 106 #[Zp xb,.agg #[Zi a.1,Zi a.2],.agg #[Zi c.kind,Zi c.num,Zi c.rights,Zu c.cQ,Zu c.guard,Zi c.bS,Zi c.root,Zu c.va],.agg #[Zi f.1,Zi f.2]] w λe w'=>Zr e (Zi (cK bs es a c f))/\jL U w' xb bs (db bs es a c f)/\Zn U w w':=by
 obtain⟨mb,D,G,h,hf,hx,hl⟩:=hc;have HO:Hid (∀o p q,Zq w (((w.alloc o).alloc p).alloc q)):=λo p q=>(((ae.refl _ w).alloc _).alloc _).alloc _
 have HX:=aa h
 have HR:Hid (cK bs es a c f≠0->∀w2,Zq w w2->jL U w2 xb bs (db bs es a c f)):=λhp w2 h2=>by
  rw[ZK hp];exact⟨mb,D,G,h.quiet h2,hf,hx,hl⟩
 by_cases hk:c.kind<1\/10<c.kind
 ·have HE:Hid (cK bs es a c f=12):=by show cK bs es a c f=12;unfold cK;rw[if_pos hk]
  clear h hf hx hl HX gA ha nB hg hlen;obtain⟨a1,a2⟩:=a;obtain⟨f1,f2⟩:=f;obtain⟨d0,d1,d2,d3,d4,d5,d6,d7⟩:=c;dsimp only at hk|-;by_cases h1:d0<1
  ·clear hk;go_enter func106,ntmps106;go_wp2_with fail
   all_goals
    go_ret;exact⟨by rw[HE.j];try rfl,HR.j (by rw[HE.j];decide) _ (HO.j _ _ _),(HO.j _ _ _).f⟩
  ·have h2:10<d0:=Zo;clear hk;go_enter func106,ntmps106;go_wp2_with fail
   all_goals
    go_ret;exact⟨by rw[HE.j];try rfl,HR.j (by rw[HE.j];decide) _ (HO.j _ _ _),(HO.j _ _ _).f⟩
 ·rcases h.empty hf hx a ha with⟨k,n,AB,hn,ah,tK,oe,jI⟩|⟨er,tK,qG,jI⟩
  ·have mC:∀f2:Sl,aX es a=zF:=λ_=>xN (Mc tK).2
   have HN:=aa (⟨hn,ah⟩:_/\_);have k1:¬c.kind<1:=Zo;have k2:¬10<c.kind:=Zo
   have eO:Hid (cK bs es a c f=0->∀w3 w4,dm U w3 xb mb D G bs (aX es)->ae (λj=>¬U j) w w3->ai lH w4 0 289 (.slice (some ⟨G a.1,0,none⟩) n.toNat n.toNat) ((jz (aX es) a.1 n.toNat).set k (c,qL f))->ae (λj=>j=G a.1) w3 w4->jL U w4 xb bs (db bs es a c f)/\ae (λj=>¬U j) w w4):=λhp w3 w4 hX hO hw ho=>by
    obtain⟨h4,h5⟩:=hX.put hn k (c,qL f) hw ho;refine⟨⟨mb,D,G,h4.same (λt=>?_),hf.put a c f hg,hx.put a c f nB,Nat.le_trans (ZJ a f c) hlen⟩,hO.trans h5⟩;rw[Z6 hf hx hg hp];unfold vI;have:(a.1,(k:Int))=a:=Prod.ext rfl AB.symm;rw[this]
   by_cases hm:f.1= -1
   ·have HE:Hid (cK bs es a c f=0):=ZI hk tK hm;have qe:Hid (qL f=(-1, -1)):=by show qL f=_;unfold qL;rw[if_pos hm]
    have HC:=aa jI;clear h hf hx hl gA ha nB hg hlen HR tK jI hk mC oe hn ah;obtain⟨a1,a2⟩:=a;obtain⟨f1,f2⟩:=f;dsimp only at hm AB;subst hm;subst AB;obtain⟨d0,d1,d2,d3,d4,d5,d6,d7⟩:=c;dsimp only at k1 k2 HC HN eO|-;go_enter func106,ntmps106;go_wp2_with fail;refine(HC.j _ (HO.j _ _ _)).m ?_;rintro e w2 ⟨rfl,hq⟩;have fI:=(HO.j (.cells #[Zi a1,Zi (k:Int)] 95) (.cells #[Zi d0,Zi d1,Zi d2,Zu d3,Zu d4,Zi d5,Zi d6,Zu d7] 97) (.cells #[Zi (-1),Zi f2] 95)).trans hq;obtain⟨_,hz,hy⟩:=JS hq;have H2:=aa (HX.j.quiet fI);obtain⟨⟨z0,z1,z2,z3,z4,z5,z6,z7⟩,zf⟩:=eL hz;obtain⟨⟨y0,y1⟩,yf⟩:=pI hy;obtain⟨⟨n0,n1⟩,_⟩:=pI H2.j.ns;obtain⟨q0,q1,q2,q3,q4,q5,q6,q7,q8,q9⟩:=H2.j.uH HN.j.1 k HN.j.2;have gf:=Mt H2.j HN.j.1
    have RE:G a1≠w.heap.size+1+1:=by
     have:=HX.j.Ej (k:=a1) (by rw[HN.j.1];rfl);omega
    have KQ:w.heap.size+1≠w.heap.size+1+1:=Zo;have aed:w.heap.size+1+1≠w.heap.size+1:=Zo;obtain⟨rc,dO⟩:=Ze (w.heap.size+1);obtain⟨rf,sq⟩:=Ze (w.heap.size+1+1);have Ue:Hid (w.heap.size<=rf):=by show w.heap.size<=rf;omega
    have aL:=aa fI;rw[<-sq,<-dO] at KQ aed;rw[<-sq] at RE y0 y1 yf hy;rw[<-dO] at z0 z1 z2 z3 z4 z5 z6 z7 zf;rw[<-sq,<-dO];have agW:rf≠G a1:=λe=>RE e.symm
    have aec:0≠rf:=by
     have:=au HX.j.ns;have:=Ue.j;omega
    have agV:rf≠0:=λe=>aec e.symm
    clear hq hz hy fI HO dO sq HC;go_wp2_with fail;have dE:k<(jz (aX es) a1 n.toNat).length:=by rw[xL];have:=HN.j.2;omega
    have aN:Zq w ((w2.setCell ⟨rf,0,none⟩ (Zi (-1))).setCell ⟨rf,1,none⟩ (Zi (-1))):=ae.beyond aL.j (aaC w2 rf _ _) (λj hj=>by subst hj;exact Ue.j);have H3:=HX.j.quiet aN;obtain⟨hw,ho⟩:=Pn (H3.bl a1 n HN.j.1) (xL _ _ _).symm k dE ((⟨d0,d1,d2,d3,d4,d5,d6,d7⟩,(-1, -1)):Pl);rw[qe.j] at eO;go_ret;exact⟨by rw[HE.j];try rfl,eO.j HE.j _ _ H3 (aN.f) hw ho⟩
   ·have qe:Hid (qL f=f):=by show qL f=_;unfold qL;rw[if_neg hm]
    have bE:(f.1== -1)=false:=beq_eq_false_iff_ne.2 hm;have HC:=aa jI;rcases h.full hf hx f gA with⟨kf,nf,i,RS,_,_,iQ,_,B0⟩|⟨er,iQ,qG,B0⟩
    ·have HE:Hid (cK bs es a c f=0):=by show cK bs es a c f=0;rw[Pd hk tK hm,iQ];rfl
     rw[<-RS] at B0;have qW:=aa B0;clear h hf hx hl gA ha nB hg hlen HR tK jI hk mC oe hn ah hm iQ RS B0;obtain⟨a1,a2⟩:=a;obtain⟨f1,f2⟩:=f;dsimp only at AB bE;subst AB;obtain⟨d0,d1,d2,d3,d4,d5,d6,d7⟩:=c;dsimp only at k1 k2 HC qW HN eO|-;go_enter func106,ntmps106;go_wp2_with fail;refine(HC.j _ (HO.j _ _ _)).m ?_;rintro e w2 ⟨rfl,hq⟩;have fI:=(HO.j (.cells #[Zi a1,Zi (k:Int)] 95) (.cells #[Zi d0,Zi d1,Zi d2,Zu d3,Zu d4,Zi d5,Zi d6,Zu d7] 97) (.cells #[Zi f1,Zi f2] 95)).trans hq;obtain⟨_,hz,hy⟩:=JS hq;obtain⟨⟨y0,y1⟩,yf⟩:=pI hy;obtain⟨rc,dO⟩:=Ze (w.heap.size+1);obtain⟨rf,sq⟩:=Ze (w.heap.size+1+1);have aL:=aa fI;rw[<-sq] at y0 y1 yf hy;rw[<-dO] at hz;rw[<-sq,<-dO];have EM:=aa (⟨hz,hy⟩:_/\_);clear hq fI HO dO sq HC hz hy;go_wp2_with fail;refine(qW.j _ aL.j).m ?_;rintro e w3 ⟨rfl,hq⟩;have LB:=aL.j.trans hq;have hz:w3.heap[rc]?=_:=(hq.block rc (au EM.j.1) (λh=>h)).trans EM.j.1;have hy:w3.heap[rf]?=_:=(hq.block rf (au EM.j.2) (λh=>h)).trans EM.j.2;clear y0 y1 yf;obtain⟨⟨z0,z1,z2,z3,z4,z5,z6,z7⟩,zf⟩:=eL hz;obtain⟨⟨y0,y1⟩,yf⟩:=pI hy;have H3:=aa (HX.j.quiet LB);have bD:=aa LB;obtain⟨q0,q1,q2,q3,q4,q5,q6,q7,q8,q9⟩:=H3.j.uH HN.j.1 k HN.j.2;have gf:=Mt H3.j HN.j.1;clear hq LB qW hz hy EM aL;go_wp2_with fail;have dE:k<(jz (aX es) a1 n.toNat).length:=by rw[xL];have:=HN.j.2;omega
     obtain⟨hw,ho⟩:=Pn (H3.j.bl a1 n HN.j.1) (xL _ _ _).symm k dE ((⟨d0,d1,d2,d3,d4,d5,d6,d7⟩,(f1,f2)):Pl);rw[qe.j] at eO;go_ret;exact⟨by rw[HE.j];try rfl,eO.j HE.j _ _ H3.j (bD.j.f) hw ho⟩
    ·have HE:Hid (cK bs es a c f=er):=by show cK bs es a c f=er;rw[Pd hk tK hm,iQ];rfl
     have AI:(er==0)=false:=beq_eq_false_iff_ne.2 qG;have Lq:(er !=0)=true:=by simp[bne,AI]
     have bW:Hid (∀w2,Zq w w2->jL U w2 xb bs (db bs es a c f)):=HR.j (by rw[HE.j];exact qG);have qW:=aa B0;clear h hf hx hl gA ha nB hg hlen HR tK jI hk mC oe hn ah hm iQ B0 qG eO;obtain⟨a1,a2⟩:=a;obtain⟨f1,f2⟩:=f;dsimp only at AB bE;subst AB;obtain⟨d0,d1,d2,d3,d4,d5,d6,d7⟩:=c;dsimp only at k1 k2 HC qW HN|-;go_enter func106,ntmps106;go_wp2_with fail;refine(HC.j _ (HO.j _ _ _)).m ?_;rintro e w2 ⟨rfl,hq⟩;have fI:=(HO.j (.cells #[Zi a1,Zi (k:Int)] 95) (.cells #[Zi d0,Zi d1,Zi d2,Zu d3,Zu d4,Zi d5,Zi d6,Zu d7] 97) (.cells #[Zi f1,Zi f2] 95)).trans hq;obtain⟨_,_,hy⟩:=JS hq;obtain⟨⟨y0,y1⟩,yf⟩:=pI hy;have aL:=aa fI;clear hq fI HO HC hy;go_wp2_with fail;refine(qW.j _ aL.j).m ?_;rintro e w3 ⟨rfl,hq⟩;have bD:=aa (aL.j.trans hq);clear hq qW aL y0 y1 yf;go_wp2_with fail
     all_goals
      go_ret;exact⟨by rw[HE.j];try rfl,bW.j _ bD.j,bD.j.f⟩
  ·have HE:Hid (cK bs es a c f=er):=by show cK bs es a c f=er;rw[ZL hk (by rw[tK];exact qG),tK]
   have AI:(er==0)=false:=beq_eq_false_iff_ne.2 qG;have Lq:(er !=0)=true:=by simp[bne,AI]
   have bW:Hid (∀w2,Zq w w2->jL U w2 xb bs (db bs es a c f)):=HR.j (by rw[HE.j];exact qG);have HC:=aa jI;have k1:¬c.kind<1:=Zo;have k2:¬10<c.kind:=Zo;clear h hf hx hl HX gA ha nB hg hlen HR tK qG jI hk;obtain⟨a1,a2⟩:=a;obtain⟨f1,f2⟩:=f;obtain⟨d0,d1,d2,d3,d4,d5,d6,d7⟩:=c;dsimp only at k1 k2 HC|-;go_enter func106,ntmps106;go_wp2_with fail;refine(HC.j _ (HO.j _ _ _)).m ?_;rintro e w2 ⟨rfl,hq⟩;have aL:=aa ((HO.j (.cells #[Zi a1,Zi a2] 95) (.cells #[Zi d0,Zi d1,Zi d2,Zu d3,Zu d4,Zi d5,Zi d6,Zu d7] 97) (.cells #[Zi f1,Zi f2] 95)).trans hq);clear hq HO HC;go_wp2_with fail
   all_goals
    go_ret;exact⟨by rw[HE.j];try rfl,bW.j _ aL.j,aL.j.f⟩
end
section
variable {U:Nat->Prop} {w:World} {xb mb:Nat} {D:DataW Value} {G:Int->Nat} {bs:Lp} {es:List En} {Q:Sl->Pl}
theorem Jd (hn:(bs.map (·.1)).Nodup) (k m:Int):bR bs k=some m↔(k,m)∈bs:=
 ⟨Jc,λh=>(zV hn h).1⟩
theorem XC {num n:Int} (hn:((bs++[(num,n)]).map (·.1)).Nodup) (k:Int):bR (bs++[(num,n)]) k=if k=num then some n else bR bs k:=by
 have hb:(bs.map (·.1)).Nodup:=List.Nodup.sublist (List.Sublist.map _ (List.sublist_append_left _ _)) hn;by_cases hk:k=num
 ·rw[if_pos hk,hk];exact(Jd hn num n).2 (by simp)
 ·rw[if_neg hk];apply Option.ext;intro m;rw[Jd hn,Jd hb,List.mem_append];constructor
  ·rintro(h|h)
   ·exact h
   ·simp only[List.mem_cons,Prod.mk.injEq,List.not_mem_nil,or_false] at h;exact absurd h.1 hk
  ·exact Or.inl
def nU (n:Nat):List Pl:=jz (λ_=>zF) 0 n
theorem Z3:(prog.info? 289).map (λi=>(i.zero,i.size,i.bytes))=some (some (.agg #[.int .i64 0,.int .i64 0,.int .i64 0,.int .u32 0,.int .u32 0,.int .i64 0,.int .i64 0,.int .u32 0,.int .i64 0,.int .i64 0]),10,72):=Zx
theorem CG (n:Nat):(nU n).length=n:=xL _ _ _
theorem U0 (n k:Nat) (hk:k<(nU n).length):(nU n)[k]=zF:=CT _ _ _ _ hk
theorem abX (n:Nat):madeCells #[.int .i64 0,.int .i64 0,.int .i64 0,.int .u32 0,.int .u32 0,.int .i64 0,.int .i64 0,.int .u32 0,.int .i64 0,.int .i64 0] (n*10)=(fl lH (nU n)).toArray:=by
 obtain⟨Z,hZ⟩:∃Z:Array Value,Z=#[.int .i64 0,.int .i64 0,.int .i64 0,.int .u32 0,.int .u32 0,.int .i64 0,.int .i64 0,.int .u32 0,.int .i64 0,.int .i64 0]:=⟨_,rfl⟩
 rw[<-hZ];have hs:Z.size=10:=by rw[hZ];rfl
 apply Array.ext';apply List.ext_getElem?;intro j;have hl:(fl lH (nU n)).length=n*10:=by rw[j8,CG];rfl
 by_cases hj:j<n*10
 ·have h1:j/10<(nU n).length:=by rw[CG];omega
  have h2:=vh lH (nU n) (j/10) (j % 10) h1 (Nat.mod_lt _ Zd);have e:j/10*lH.sz+j % 10=j:=by show j/10*10+j % 10=j;omega
  rw[e,U0] at h2;rw[List.toList_toArray,h2];simp only[madeCells,Array.toList_map,Array.toList_range,List.getElem?_map,List.getElem?_range hj,Option.map_some,hs];have hm:j % 10=0\/j % 10=1\/j % 10=2\/j % 10=3\/j % 10=4\/j % 10=5\/j % 10=6\/j % 10=7\/j % 10=8\/j % 10=9:=Zo;rcases hm with h|h|h|h|h|h|h|h|h|h<;>rw[h,hZ]<;>rfl
 ·rw[List.getElem?_eq_none (by simp[madeCells];omega),List.toList_toArray,List.getElem?_eq_none Zo]
theorem abS (n:Nat) (h:n<=1000) (w:World):(Instr.makeSlice 287 (.int .i64 (n:Int)) (.int .i64 (n:Int))).run prog w=.ok (Zs w.heap.size n n) (w.alloc (.cells (fl lH (nU n)).toArray 289)):=by
 have hi:=Z3
 cases hq:prog.info? 289 with
 |none=>rw[hq] at hi;simp at hi
 |some i=>
  rw[hq] at hi;simp only[Option.map_some,Option.some.injEq,Prod.mk.injEq] at hi;have:=run_make (P:=prog) w 287 289 i _ underlying287 hq hi.1 .i64 .i64 n n Zo Zo (by rw[hi.2.2];omega) Zo;rw[this,hi.2.1];simp only[Int.toNat_natCast,Value.cells];rw[abX]
theorem afO:∀m:Nat,m<65->1<=m->(bits BinOp.and IntKind.i64 (m:Int) ((m:Int) - 1) !=0)= !fB (m:Int):=Zd
theorem Z7 (hx:Wx bs es) {num:Int} (hn:bR bs num=none) (i:Int):aX es (num,i)=zF:=by
 refine xN λe he hE=>?_
 obtain⟨b,hb,h1,_⟩:=hx.ix e he;have:=(zV hx.nd hb).1;rw[h1,hE] at this;simp only at this;rw[hn] at this;cases this
theorem Ql (k:Int) (hk:aj k):WideAt.IsKeyLit (.int .i64 k):=Di.key (Gx hk)
theorem dm.made {w3 w4:World} (h:dm U w xb mb D G bs Q) {num:Int} {m g:Nat} (mA:aj num) (eH:bR bs num=none) (h1:1<=m) (h2:m<=64) (hQ:∀i,Q (num,i)=zF) (gZ:((bs++[(num,(m:Int))]).map (·.1)).Nodup) (hlen:bs.length<1000000)
  (ho:Zq w w4) (hg:w.heap.size<=g) (hr:ai lH w4 0 289 (Zs g m m) (nU m))
  (hm:w3.ownsMap prog 3 RH mb (bs.length+1) (D.put (.int .i64 num) (.held (Zs g m m)))) (eK:w4.grownBy w3 (some mb)):
  dm U w3 xb mb (D.put (.int .i64 num) (.held (Zs g m m))) (λk=>if k=num then g else G k) (bs++[(num,(m:Int))]) Q/\ae (λj=>¬U j) w w3:=by
 have h4:=h.quiet ho;have aN:ae (λj=>j=mb) w4 w3:=⟨eK.os,eK.tape,eK.output,eK.size,λk hk hn=>eK.block k hk (λe=>hn (by injection e))⟩
 have RJ:Maps.IsMap D:=h.m.isMap;have aR:=XC gZ;have adX:∀k n,bR bs k=some n->G k≠mb:=λk n hk=>(h4.sep (b:=k) (by rw[hk];rfl)).2.2.1
 have yB:g≠mb:=by
  obtain⟨cur,hc⟩:=bu hr (k:=g) rfl;exact Gp hc h4.m
 have RZ:∀k n,bR bs k=some n->G k≠g:=λk n hk e=>by
  have:=h.Ej (k:=k) (by rw[hk];rfl);omega
 have RD:∀k,k≠num->(Lit.int .i64 k)≠(Lit.int .i64 num):=λk hk e=>hk (by injection e)
 refine⟨⟨?_,?_,by rw[List.length_append];exact hm,λk hk=>?_,λk n z hk=>?_,λk n hk=>?_,λj k hj hk e=>?_,h.un,h.ux,h.um,λk hk=>?_,λj hj=>Nat.lt_of_lt_of_le (h.low j hj) (Nat.le_trans ho.size aN.size),λk n hk=>?_,gZ,λb hb=>?_,by rw[List.length_append];exact hlen⟩,?_⟩
 ·rw[aN.block _ (au h4.ns) (λe=>Gp h4.ns h4.m e)];exact h4.ns
 ·rw[aN.block _ (au h4.x) (λe=>Gp h4.x h4.m e)];exact h4.x
 ·rw[aR k];by_cases ic:k=num
  ·rw[if_pos ic,ic];exact Maps.has_put_same RJ (Ql num mA) _
  ·rw[if_neg ic,Maps.has_put_other (RD k ic)];exact h.hs k hk
 ·rw[aR k] at hk;by_cases ic:k=num
  ·rw[if_pos ic] at hk;injection hk with hk
   subst hk;rw[if_pos ic,ic];exact Maps.atKey_put_same RJ (Ql num mA) _ z
  ·rw[if_neg ic] at hk;rw[if_neg ic,Maps.atKey_put_other (RD k ic)];exact h.ha k n z hk
 ·rw[aR k] at hk;by_cases ic:k=num
  ·rw[if_pos ic] at hk;injection hk with hk
   subst hk;rw[if_pos ic,ic]
   have e:jz Q num (m:Int).toNat=nU m:=by
    rw[Int.toNat_natCast];unfold nU jz;simp only[hQ]
   rw[e];refine hr.kept aN (λj hj=>?_);have:g=j:=by simpa[Value.ownBlock] using hj
   rw[<-this];exact yB
  ·rw[if_neg ic] at hk;rw[if_neg ic];refine(h4.bl k n hk).kept aN (λj hj=>?_);have:G k=j:=by simpa[Value.ownBlock] using hj
   rw[<-this];exact adX k n hk
 ·rw[aR] at hj hk
  try dsimp only at e
  by_cases h5:j=num
  ·by_cases h6:k=num
   ·rw[h5,h6]
   ·rw[if_pos h5,if_neg h6] at e;rw[if_neg h6] at hk;obtain⟨n,hn⟩:=Option.isSome_iff_exists.1 hk;exact absurd e.symm (RZ k n hn)
  ·rw[if_neg h5] at hj e;obtain⟨n,hn⟩:=Option.isSome_iff_exists.1 hj;by_cases h6:k=num
   ·rw[if_pos h6] at e;exact absurd e (RZ j n hn)
   ·rw[if_neg h6] at e hk;exact h.gi j k hj hk e
 ·rw[aR] at hk
  try dsimp only
  by_cases h6:k=num
  ·rw[if_pos h6];intro hu;have:=h.low g hu;omega
  ·rw[if_neg h6] at hk|-;exact h.ug k hk
 ·rw[aR] at hk;by_cases h6:k=num
  ·rw[if_pos h6] at hk;injection hk with hk
   omega
  ·rw[if_neg h6] at hk;exact h.bn k n hk
 ·rcases List.mem_append.1 hb with hb|hb
  ·exact h.ib b hb
  ·simp only[List.mem_cons,List.not_mem_nil,or_false] at hb;subst hb;exact mA
 ·exact(ho.f).trans (aN.mono (λj _ hj=>by subst hj;exact h.um))
end
section
variable {U:Nat->Prop} {w:World} {xb mb:Nat} {D:DataW Value} {G:Int->Nat} {bs:Lp} {es:List En} {Q:Sl->Pl}
theorem Gr {num n:Int} (h:num<0\/fB n=false):gX bs num n=1:=if_pos h
theorem abV {num n:Int} (h:gX bs num n≠0):fH bs num n=bs:=by unfold fH;rw[if_neg h]
theorem VE (hc:jL U w xb bs es) (num n:Int) (mA:aj num) (hlen:bs.length<1000000):Zk 161 #[Zp xb,.int .i64 num,.int .i64 n] w λe w'=>Zr e (.int .i64 (gX bs num n))/\jL U w' xb (fH bs num n) es/\Zn U w w':=by
 have HR:Hid (gX bs num n≠0->jL U w xb (fH bs num n) es):=λhp=>by rw[abV hp];exact hc
 by_cases h1:num<0
 ·have HE:Hid (gX bs num n=1):=Gr (Or.inl h1);clear hc;go_enter func161,ntmps161;go_wp2_with fail
  all_goals
   go_ret;exact⟨by rw[HE.j];try rfl,HR.j (by rw[HE.j];decide),ae.refl _ _⟩
 ·by_cases h2:n<1
  ·have HE:Hid (gX bs num n=1):=Gr (Or.inr (decide_eq_false Zo));clear hc;go_enter func161,ntmps161;go_wp2_with fail
   all_goals
    go_ret;exact⟨by rw[HE.j];try rfl,HR.j (by rw[HE.j];decide),ae.refl _ _⟩
  ·by_cases h3:64<n
   ·have HE:Hid (gX bs num n=1):=Gr (Or.inr (decide_eq_false Zo));clear hc;go_enter func161,ntmps161;go_wp2_with fail
    all_goals
     go_ret;exact⟨by rw[HE.j];try rfl,HR.j (by rw[HE.j];decide),ae.refl _ _⟩
   ·obtain⟨m,rfl⟩:∃m:Nat,n=(m:Int):=⟨n.toNat,Zo⟩
    have h4:=afO m Zo Zo;have ag:=Zh ((m:Int) - 1) Zo
    cases ht:fB (m:Int) with
    |false=>
     have HE:Hid (gX bs num m=1):=Gr (Or.inr ht);rw[ht] at h4;have h5:(bits BinOp.and IntKind.i64 (m:Int) ((m:Int) - 1) !=0)=true:=h4;clear hc ht h4;go_enter func161,ntmps161;go_wp2_with fail
     all_goals
      go_ret
      exact⟨by rw[HE.j];try rfl,HR.j (by rw[HE.j];decide),ae.refl _ _⟩
    |true=>
     rw[ht] at h4;have h5:(bits BinOp.and IntKind.i64 (m:Int) ((m:Int) - 1) !=0)=false:=h4;have HC:=aa hc;obtain⟨mb,D,G,h,hf,hx,hl⟩:=hc;have c0:=h.c0;have gh:=(h.look num mA).2;have oV:=abS m Zo
     cases hs:bR bs num with
     |some q=>
      have HE:Hid (gX bs num m=7):=by
       show gX bs num m=7;unfold gX;rw[if_neg (by rw[ht];simp;omega)]
       cases hb:mK bs num with
       |none=>rw[FU hb] at hs;cases hs
       |some i=>rfl
      rw[BF hs,hs] at gh;have kH:(Instr.lookup 250 (.map (some mb)) (.int .i64 num) true).run prog w=.ok (.tuple #[.slice (some ⟨G num,0,none⟩) q.toNat q.toNat,.bool true]) w:=gh;clear ht h4 h hf hx hl gh hs oV;go_enter func161,ntmps161;go_wp2_with fail
      all_goals
       go_ret
       exact⟨by rw[HE.j];try rfl,HR.j (by rw[HE.j];decide),ae.refl _ _⟩
     |none=>
      have Si:mK bs num=none:=by
       cases hb:mK bs num with
       |none=>rfl
       |some i=>
        obtain⟨_,_,h7⟩:=Ev hb;rw[hs] at h7;cases h7
      have HE:Hid (gX bs num m=0):=by
       show gX bs num m=0;unfold gX;rw[if_neg (by rw[ht];simp;omega),Si]
      have HL:Hid (fH bs num m=bs++[(num,(m:Int))]):=by show fH bs num m=_;unfold fH;rw[HE.j];rfl
      have iN:=hx.make num m mA;have rE:=hf.make num m;rw[HL.j] at iN rE;have iz:xb<w.heap.size:=au h.x
      have HF:Hid (∀w3,w3.ownsMap prog 3 RH mb (bs.length+1) (D.put (.int .i64 num) (.held (Zs w.heap.size m m)))->(w.alloc (.cells (fl lH (nU m)).toArray 289)).drew.grownBy w3 (some mb)->jL U w3 xb (bs++[(num,(m:Int))]) es/\ae (λj=>¬U j) w w3):=λw3 hm eK=>by
       have h9:(w.alloc (.cells (fl lH (nU m)).toArray 289)).drew.heap[w.heap.size]?=some (.cells (fl lH (nU m)).toArray 289 (0,0)):=heap_alloc_last w _
       have hr:ai lH ((w.alloc (.cells (fl lH (nU m)).toArray 289)).drew) 0 289 (Zs w.heap.size m m) (nU m):=by
        refine⟨by rw[j8],Or.inr ⟨w.heap.size,m,_,by rw[CG],Nat.zero_le _,h9,Nat.le_of_eq (CG m),by unfold maxLen;omega,?_,?_⟩⟩
        ·simp only[List.size_toArray];rw[j8,CG]
        ·rw[List.toList_toArray,<-j8,List.take_length]
       obtain⟨h6,h7⟩:=h.made mA hs Zo Zo (Z7 hx hs) iN.nd hlen (((ae.refl _ w).alloc _).drew) (Nat.le_refl _) hr hm eK;exact⟨⟨mb,_,_,h6,rE,iN,hl⟩,h7⟩
      have HX:=aa h;have cX:=aa hlen;have HK:=aa mA;rw[J1 hs,hs] at gh;have kH:(Instr.lookup 250 (.map (some mb)) (.int .i64 num) true).run prog w=.ok (.tuple #[.slice none 0 0,.bool false]) w:=gh;clear ht h4 h hf hx hl gh hs iN rE Si hlen mA;go_enter func161,ntmps161;go_wp2_with fail;obtain⟨w3,aM,nD,wL⟩:=(HX.j.quiet (((ae.refl _ w).alloc (.cells (fl lH (nU m)).toArray 289)).drew)).m.update (t:=250) (e:=287) Di underlying250 (by have:=cX.j;unfold maxLen;omega) (Gx HK.j) (val:=Zs w.heap.size m m) (d:=.held (Zs w.heap.size m m)) (ps:=[]) rfl;have II:=aa (HF.j w3 nD wL);clear nD wL
      go_region
      all_goals
       go_wp2_with fail;go_ret;exact⟨by rw[HE.j];try rfl,by rw[HL.j];exact II.j.1,II.j.2⟩
end
section
variable {U:Nat->Prop} {w:World} {xb mb:Nat} {D:DataW Value} {G:Int->Nat} {bs:Lp} {es:List En} {Q:Sl->Pl}
def mL (w:World):Prop:=w.heap[0]?=some (.cells #[.int .i64 (-1),.int .i64 (-1)] 95 (0,0))
theorem mL.quiet {w w2:World} (h:mL w) (ho:Zq w w2):mL w2:=by unfold mL;rw[ho.block _ (au h) (λh=>h)];exact h
theorem CQ (k:Int):bR [] k=none:=rfl
theorem NO:Wf [] []:=⟨by simp,by simp,List.Pairwise.nil,by simp,⟨λ_=>0,by simp⟩,by simp⟩
theorem NL:Wx [] []:=⟨by simp,by simp,by simp,by simp,by simp⟩
theorem VB (h:mL w):Zk 40 #[] w λe w'=>∃xb,Zr e (Zp xb)/\w.heap.size<=xb/\jL (λk=>k<w.heap.size/\k≠0) w' xb [] []/\Zq w w':=by
 have oV:= @run_makeMap prog;have HO:Hid (∀o p,Zq w ((w.alloc o).alloc p)):=λo p=>((ae.refl _ w).alloc _).alloc _
 have HN:=aa h;clear h;go_enter func40,ntmps40;go_wp2_with fail;go_ret;have ho:=HO.j (.map #[] 0) (.cells #[.map (some w.heap.size)] 252)
 have hx:((w.alloc (.map #[] 0)).alloc (.cells #[.map (some w.heap.size)] 252)).heap[w.heap.size+1]?=some (.cells #[.map (some w.heap.size)] 252 (0,0)):=by
  have:=heap_alloc_last (w.alloc (.map #[] 0)) (.cells #[.map (some w.heap.size)] 252);simpa using this
 have hm:=(World.ownsMap_made w prog 3 RH).alloc (.cells #[.map (some w.heap.size)] 252);have gg:=au HN.j;refine⟨w.heap.size+1,rfl,Zo,⟨w.heap.size,.map [],λ_=>0,⟨HN.j.quiet ho,hx,hm,λk hk=>rfl,(λk n z hk=>by rw[CQ] at hk;cases hk),(λk n hk=>by rw[CQ] at hk;cases hk),(λj k hj=>by rw[CQ] at hj;cases hj),(λh=>h.2 rfl),(λh=>Zo),(λh=>Zo),(λk hk=>by rw[CQ] at hk;cases hk),(λk hk=>by simp;omega),(λk n hk=>by rw[CQ] at hk;cases hk),by simp,by simp,by simp⟩,NO,NL,by simp⟩,ho⟩
end
section
variable {U V S:Nat->Prop} {w w2:World} {bs:Lp} {es:List En}
theorem ju.step {rb:Nat} (h:ju U w rb bs es) (ho:ae S w w2) (hS:∀k,k<w.heap.size->S k->U k) (hV:∀k,V k->U k\/(w.heap.size<=k/\k<w2.heap.size)):ju V w2 rb bs es:=by
 obtain⟨vb,ve,h⟩:=h
 have hb:∀k,vb.ownBlock=some k->k<w.heap.size:=λk hk=>by
  obtain⟨_,⟨cur,hc⟩,_⟩:=h.b.eR hk;exact au hc
 have he:∀k,ve.ownBlock=some k->k<w.heap.size:=λk hk=>by
  obtain⟨_,⟨cur,hc⟩,_⟩:=h.e.eR hk;exact au hc
 have hr:=au h.r;have h2:=h.aside ho (λs=>h.ur (hS _ hr s)) (λk hk s=>h.ub k hk (hS _ (hb k hk) s)) (λk hk s=>h.ue k hk (hS _ (he k hk) s));refine⟨vb,ve,h2.r,h2.b,h2.e,λhv=>?_,λk hk hv=>?_,λk hk hv=>?_,λk hv=>?_,h2.nb,h2.ne⟩
 ·rcases hV _ hv with h3|h3
  ·exact h.ur h3
  ·omega
 ·rcases hV _ hv with h3|h3
  ·exact h.ub k hk h3
  ·have:=hb k hk;omega
 ·rcases hV _ hv with h3|h3
  ·exact h.ue k hk h3
  ·have:=he k hk;omega
 ·rcases hV _ hv with h3|h3
  ·exact Nat.lt_of_lt_of_le (h.low k h3) ho.size
  ·exact h3.2
theorem jL.step {xb:Nat} (h:jL U w xb bs es) (ho:ae S w w2) (hS:∀k,k<w.heap.size->S k->U k) (hV:∀k,V k->U k\/(w.heap.size<=k/\k<w2.heap.size)):jL V w2 xb bs es:=by
 obtain⟨mb,D,G,h,h2⟩:=h;have hn:=au h.ns;have hx:=au h.x;have hm:=h.m.lt;refine⟨mb,D,G,h.aside ho (λs=>h.un (hS _ hn s)) (λs=>h.ux (hS _ hx s)) (λs=>h.um (hS _ hm s)) (λk hk s=>h.ug k hk (hS _ (h.Ej hk) s)) (λhv=>?_) (λhv=>?_) (λhv=>?_) (λk hk hv=>?_) (λk hv=>?_),h2⟩
 ·rcases hV _ hv with h3|h3
  ·exact h.un h3
  ·omega
 ·rcases hV _ hv with h3|h3
  ·exact h.ux h3
  ·omega
 ·rcases hV _ hv with h3|h3
  ·exact h.um h3
  ·omega
 ·rcases hV _ hv with h3|h3
  ·exact h.ug k hk h3
  ·have:=h.Ej hk;omega
 ·rcases hV _ hv with h3|h3
  ·exact Nat.lt_of_lt_of_le (h.low k h3) ho.size
  ·exact h3.2
end
end Go.Proofs.YtphkconoooeidaaGreatDoor

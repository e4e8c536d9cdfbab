import Derived.Test.YtphkconoooeidaaGreatDoorCp33
set_option maxRecDepth 100000
set_option maxHeartbeats 8000000
set_option linter.unusedVariables false
set_option linter.unusedSimpArgs false
open Go Go.Vx Go.Proofs.Tryz Go.ChangeShapes Go.WideShapes Go.ChangeAt Go.RowKit
namespace Go.Proofs.YtphkconoooeidaaGreatDoor
section
variable {B:Nat->Prop} {w:World} {bb o:Nat} {T:TypeId} {cs:Array Value} {V:Nat->Value} {L:Nat->List Sh}
theorem bk5:Kind prog mV 47 121:=kG (z:=.slice none 0 0) (b:=24) underlying47 Zx rfl Zd
def iV (c:Int):Tl:=⟨c,0,0,0,0,0,0,0,λ_=>0,0⟩
theorem X7 (a:Int) (w:World):(Instr.build 203 #[(0,Zi a)]).run prog w=.ok (.agg (ba (iV a)).toArray) w:=Zx
theorem V8 {o:Oper} {act:Act} {K:Act->World->Prop} {Q:Exit->Act->World->Prop} (x0:Operand) (dd:Nat) (ho:o.op=.build 203 #[(0,x0)]) (hd:o.dst=some dd) {a:Int} (h0:act.eval x0=Zi a) (hK:K (act.put (some dd) (.agg (ba (iV a)).toArray)) w):Oper.wp prog o act w K Q:=by
 have aM:=X7 a w;generalize (ba (iV a)).toArray=z at aM hK;unfold Oper.wp;simp only[execOp,ho];simp[h0,aM,Result.andThen];rw[Oper.upon_value,hd];exact hK
theorem aan {base:Nat} {l:Value} {ms:List Tl} (hk:gI B w bb o T cs V L) (aR:(L 5).length<=1000000) (hl:ai eu w base 203 l ms) (jb:base<=w.heap.size) (hm:ms.length<=2000000) (kj:∀k,l.ownBlock=some k->¬B k/\k≠bb):
  Zk 28 #[.pointer (some ⟨bb,o,none⟩),l] w λe w'=>Zr e (.tuple #[])/\∃jd v2 s1 s2,gI (λk=>B k\/l.ownBlock=some k\/(w.heap.size<=k/\k<w'.heap.size)) w' bb o T jd (fh V 5 v2) (fh L 5 (L 5++[s1,s2]))/\(∀i,i<o->jd[i]?=cs[i]?)/\ae (λk=>B k\/l.ownBlock=some k\/k=bb) w w':=by
 obtain⟨pl,cl,rfl,_,_,lN⟩:=hl.form;obtain⟨pv,cv,hv,_⟩:=(hk.k 5 Zd).at;have h5:w.cell? ⟨bb,o+5,none⟩=some (V 5):=hk.cell (j:=5) Zd;obtain⟨Ln,hL⟩:=Ze ((L 5).length);obtain⟨N,hN⟩:=Ze (ms.length);have q0:Int.tdiv (Ln:Int) 2=((Ln/2:Nat):Int):=by rw[Int.tdiv_eq_ediv_of_nonneg Zo];omega
 have iX:(Ln:Int)/2=((Ln/2:Nat):Int):=Zo;have q1:=Zh ((Ln/2:Nat):Int) Zo;obtain⟨c,hc⟩:∃c:Int,c= -77 - ((Ln/2:Nat):Int):=⟨_,rfl⟩
 have q2: -77 - ((Ln/2:Nat):Int)=c:=hc.symm;have q3:=Zh c Zo;rw[<-hN] at kj lN|-
 have sR:Hid (∀k,(Value.slice pl N cl).ownBlock=some k->k<w.heap.size):=λk iC=>by
  obtain⟨_,⟨cur,h⟩,_⟩:=hl.eR (k:=k) (by rw[<-hN];exact iC);exact au h
 have kB:=aa kj;have gT:=aa lN;have nR:Hid (c= -77 - (((L 5).length/2:Nat):Int)):=by show c=_;rw[hc,hL]
 have HK:=aa hk;have xx:=aa jb;have jY:=aa aR;have HV:Hid (V 5=.slice pv Ln cv):=by show V 5=_;rw[hv,hL]
 have wP:N<=2000000:=Zo;have Hk:(N:Int)<=2000000:=Zo;rw[hv,<-hL] at h5;obtain⟨mb,fa⟩:=Ze (w.heap.size);have fQ:Hid (w.heap.size<=mb+1/\(mb=w.heap.size)):=⟨Zo,fa⟩
 obtain⟨w1,ag⟩:=Ze (w.alloc (.cells se.toArray 203));have sj:w1.heap[mb]?=some (.cells ([]++se).toArray 203 (0,0)):=by rw[ag,fa];exact heap_alloc_last _ _
 have aB:Zq w w1:=by rw[ag];exact(ae.refl _ _).alloc _
 obtain⟨Dk,Ax⟩:=uD (ba (iV c)) [] se w1 ((eu.len _).trans (eu.len _).symm) sj;simp only[List.length_nil,List.nil_append] at Dk Ax;have cG:=s7 w1 mb 0 (ba (iV c)) (I2 sj ((eu.len _).trans (eu.len _).symm)) (eu.one _);obtain⟨w0,oR⟩:=Ze (w1.setCells mb 0 (ba (iV c)));rw[<-oR] at Dk Ax cG;have rX:Hid (w0.heap[mb]?=some (.cells (ba (iV c)).toArray 203 (0,0))):=Dk;have KJ:Zq w w0:=aB.beyond Ax (λk hk=>Zo);have H0:Hid (pn eu 203 (iV c) w base (.slice pl N cl) N 0 w0):=⟨⟨ms,by rw[hN];exact hl.kept KJ (λ_ _ h=>h),hN.symm,λk hk=>Zo⟩,KJ.f⟩
 have af:Hid (mb<w0.heap.size):=au Dk;clear sj aB Dk Ax oR KJ;clear hc;generalize Ln/2=q at q0 iX q1 q2;clear hk aR hl jb hm kj lN hN hv hL;go_enter func28,ntmps28;go_wp2_with (first|(refine wpList_plain rfl (λ_ hK=>V8 (.tmp 14) 15 rfl rfl rfl (hK _ _ ?_))));generalize v8:w.alloc _=w9;have e9:w9=w1:=by rw[<-v8,ag];rfl
 rw[e9,<-fa];clear v8 e9 ag fa h5;simp only[cG,Result.andThen];clear cG;go_wp2_with fail
 go_loopw [5] (λd wr=>∃i:Nat,d=Zi (i:Int)/\i<=N/\Hid (mb<wr.heap.size)/\Hid (pn eu 203 (iV c) w base (.slice pl N cl) N i wr)/\Hid (wr.heap[mb]?=some (.cells (ba (iV c)).toArray 203 (0,0)))) (λd _=>N - (RowKit.intOf d).toNat)
 case atStart=>exact⟨0,rfl,Zo,af,H0,rX⟩
 case round=>
  clear H0 af;obtain⟨i,rfl,hi,HS,HR,cB⟩:=hrel;by_cases ah:i<N
  ·have d1:(i:Int)<(N:Int):=Zo;have bf:0<=(i:Int)/\(i:Int)<(N:Int):=Zo;have v1:=Zf i Zo;obtain⟨g,rfl,_,_⟩:=gT.j Zo;obtain⟨si,cL,fV,ja⟩:=HR.j.ex;have Lc:i<si.length:=Zo;obtain⟨s1,s2⟩:=Px cL fV.symm (k:=i) Lc (iV c);have cG:=s7 wr g (i*41) (ba (iV c)) (by rw[show(ba (iV c)).length=(ba si[i]).length from(eu.len _).trans (eu.len _).symm];exact Jp (zN cL Lc) (λq=>cL.fz q)) (eu.one _);change ai eu (wr.setCells g (i*41) (ba (iV c))) base 203 (Zs g N cl) (si.set i (iV c)) at s1;change ae (λk=>k=g) wr (wr.setCells g (i*41) (ba (iV c))) at s2;obtain⟨wn,ym⟩:=Ze (wr.setCells g (i*41) (ba (iV c)));rw[<-ym] at s1 s2 cG;clear ym;have aw:Hid (mb<wn.heap.size):=Nat.lt_of_lt_of_le HS.j s2.size
   have bW:Hid (pn eu 203 (iV c) w base (Zs g N cl) N (i+1) wn):=by
    refine⟨⟨si.set i (iV c),s1,by simp[fV],λk hk=>?_⟩,?_⟩
    ·rw[List.getElem?_set];by_cases jn:i=k
     ·rw[if_pos jn,if_pos Zo]
     ·rw[if_neg jn];exact ja k Zo
    ·exact HR.j.on.trans (s2.mono (λk _ hk=>by rw[hk];rfl))
   have p9:Hid (wn.heap[mb]?=some (.cells (ba (iV c)).toArray 203 (0,0))):=(s2.block mb (au cB.j) (λe=>by have:=sR.j g rfl;have:=fQ.j;omega)).trans cB.j;clear s1 s2 Lc;clear cL fV ja ah HR;go_wp2_with (first|(refine wpList_plain rfl (λ_ hK=>IT (.tmp 4) 24 rfl rfl rfl cB.j (hK _ _ ?_))));go_roundw
   case rel=>exact⟨i+1,by go_num,Zo,aw,bW,p9⟩
   case measure=>exact Zm
  ·obtain rfl:i=N:=Zo;have d1:¬(i:Int)<(i:Int):=Zo;have nS:Hid (oC (o8 5) eu 203 (iV c) w mb base (.slice pl i cl) i 0 (.slice pl i cl) wr):=EF Zd HR.j;clear ah hi HR;go_wp2_with fail
   go_loopw [6,7] (λy d wr=>∃j:Nat,d=Zi (j:Int)/\j<=33/\Hid (mb<wr.heap.size)/\Hid (oC (o8 5) eu 203 (iV c) w mb base (.slice pl i cl) i j y wr)/\Hid (wr.heap[mb]?=some (.cells (ba (iV c)).toArray 203 (0,0)))) (λ_ d _=>33 - (RowKit.intOf d).toNat)
   case atStart=>exact⟨0,rfl,Zo,HS,nS,cB⟩
   case round=>
    clear nS HS;obtain⟨j,rfl,hj,HS,HR,cB⟩:=hrel;by_cases fi:j<33
    ·have d2:(j:Int)<33:=Zo;have v1:=Zf j Zo;have jw:Hid ((List.replicate (i+j) (iV c)).length+1<=10000000):=by show _<=_;simp;omega
     have xu:Hid (base<=wr.heap.size):=Nat.le_trans xx.j HR.j.on.size;clear fi;go_wp2_with (first|(refine wpList_plain rfl (λ_ hK=>IT (.tmp 4) 32 rfl rfl rfl cB.j (hK _ _ ?_)))|(refine wpList_plain rfl (λ_ hK=>Jm (.tmp 32) 33 rfl rfl (a:=iV c) rfl (hK _ _ ?_)))|(at_builtin;refine mg I1 _ rfl _ _ rfl base _ _ rfl HR.j.own (iV c) _ _ rfl rfl rfl jw.j xu.j (λx2 w4 h1 h2 h3=>?_);have bW:=aa (HR.j.push Zd h1 h2 h3 fQ.j.1 HS.j);have aw:Hid (mb<w4.heap.size):=Nat.lt_of_lt_of_le HS.j h2.size;have p9:Hid (w4.heap[mb]?=some (.cells (ba (iV c)).toArray 203 (0,0))):=(h2.block mb (au cB.j) (λe=>by rcases HR.j.xw mb e with h9|h9;(have:=sR.j mb h9;have:=fQ.j;omega);omega)).trans cB.j;clear h1 h2 h3));go_roundw
     case rel=>exact⟨j+1,by go_num,Zo,aw,bW,p9⟩
     case measure=>exact Zm
    ·obtain rfl:j=33:=Zo;have eB:Hid (gI B wr bb o T cs V L):=HK.j.only HR.j.on (λk hb hs=>(kB.j k hs).1 hb) (λhs=>(kB.j bb hs).2 rfl);have h5:Zc wr bb (o+5) (V 5):=eB.j.cell (j:=5) Zd;rw[HV.j] at h5;have pA:Hid (ai mV wr 0 121 (.slice pv Ln cv) (L 5)):=by have:=(eB.j.k 5 Zd).own;rw[HV.j] at this;exact this
     obtain⟨px,cx,hx,_⟩:=HR.j.own.form;rw[List.length_replicate] at hx;subst hx;have mS:=aa eB.j.fz;have kC:=aa eB.j.bl
     have xj:Hid (∀k,(Value.slice pv Ln cv).ownBlock=some k->k≠bb):=λk iC e=>by
      have h8:=(eB.j.k 5 Zd).jB k (by rw[HV.j];exact iC);rw[e] at h8;exact eB.j.nb h8
     clear hj fi;go_wp2_with (at_builtin;refine Ex bk5 _ rfl _ _ rfl _ (L 5) rfl pA.j (pl,i,cl) (px,i+33,cx) _ _ rfl rfl rfl rfl jY.j (λv2 w4 h1 h2 h3=>?_);obtain⟨p2,c2,aP,_⟩:=h1.form;subst aP;have mv:=h2.block bb (au kC.j) (λhv=>xj.j bb hv rfl);have lS:=(World.cell?_of_block (a:=⟨bb,o+5,none⟩) mv).trans h5;have Hc:=(World.frozen?_of_block (a:=⟨bb,o+5,none⟩) mv).trans (mS.j (o+5));have H1:=aa h1;have H2:=aa h2;have H3:=aa h3;clear h1 h2 h3 mv)
     all_goals
      go_end0;refine⟨rfl,?_⟩;have rD:∀u:Value,(w4.setCell ⟨bb,o+5,none⟩ u).heap.size=w4.heap.size:=λu=>by simp[World.setCell]
      rw[rD];obtain⟨hb,ay⟩:=HK.j.push (j:=5) Zd (La:=eu) rfl Zd HR.j rfl rfl wP rfl nR.j kB.j fQ.j.1 H1.j (by rw[HV.j];exact H2.j) (by rw[HV.j];exact H3.j);have Az:(L 5++[(pl,i,cl),(px,i+33,cx)]).length=(L 5).length+2:=by simp
      refine⟨_,_,_,_,by simpa using hb,λi hi=>?_,by simpa using ay⟩;rw[Array.getElem?_setIfInBounds_ne Zo]
end
end Go.Proofs.YtphkconoooeidaaGreatDoor

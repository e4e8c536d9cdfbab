import Derived.Test.YtphkconoooeidaaGreatDoorCp33
set_option maxRecDepth 100000
set_option maxHeartbeats 8000000
set_option linter.unusedVariables false
set_option linter.unusedSimpArgs false
open Go Go.Vx Go.Proofs.Tryz Go.ChangeShapes Go.WideShapes Go.ChangeAt Go.RowKit
namespace Go.Proofs.YtphkconoooeidaaGreatDoor
section
variable {w w2:World}
theorem aeM (d:Nat) (w:World) (xs:Array Value) (h:∀i,i<32->∃a:Int,xs[i]?=some (Zu a)):(Op.equalIn (d+3) 106 (.agg xs) (.agg xs)).run prog w=.ok true w:=by
 obtain⟨i,hi⟩:=Option.isSome_iff_exists.1 adF;rw[run_equalIn_array w (d+2) xs xs underlying106 hi,afh];exact Tf (d+1) xs w _ (λi hi=>h i (List.mem_range.1 hi))
def WH (u:Tl):List Value:=[Zi u.num,Zi u.st,Zi u.bT,Zi u.prio,Zi u.at',Zi u.nK,Zi u.mT,Zi u.left,Zu (u.rg 0),Zu (u.rg 1),Zu (u.rg 2),Zu (u.rg 3),Zu (u.rg 4),Zu (u.rg 5),Zu (u.rg 6),Zu (u.rg 7),Zu (u.rg 8),Zu (u.rg 9),Zu (u.rg 10),Zu (u.rg 11),Zu (u.rg 12),Zu (u.rg 13),Zu (u.rg 14),Zu (u.rg 15),Zu (u.rg 16),Zu (u.rg 17),Zu (u.rg 18),Zu (u.rg 19),Zu (u.rg 20),Zu (u.rg 21),Zu (u.rg 22),Zu (u.rg 23),Zu (u.rg 24),Zu (u.rg 25),Zu (u.rg 26),Zu (u.rg 27),Zu (u.rg 28),Zu (u.rg 29),Zu (u.rg 30),Zu (u.rg 31),Zu u.pc]
theorem tlC_F (u:Tl):ba u=WH u:=rfl
theorem YP (u:Tl):∀i,i<32->∃a:Int,(#[Zu (u.rg 0),Zu (u.rg 1),Zu (u.rg 2),Zu (u.rg 3),Zu (u.rg 4),Zu (u.rg 5),Zu (u.rg 6),Zu (u.rg 7),Zu (u.rg 8),Zu (u.rg 9),Zu (u.rg 10),Zu (u.rg 11),Zu (u.rg 12),Zu (u.rg 13),Zu (u.rg 14),Zu (u.rg 15),Zu (u.rg 16),Zu (u.rg 17),Zu (u.rg 18),Zu (u.rg 19),Zu (u.rg 20),Zu (u.rg 21),Zu (u.rg 22),Zu (u.rg 23),Zu (u.rg 24),Zu (u.rg 25),Zu (u.rg 26),Zu (u.rg 27),Zu (u.rg 28),Zu (u.rg 29),Zu (u.rg 30),Zu (u.rg 31)]:Array Value)[i]?=some (Zu a):=λi hi=>by
 rcases(show i=0\/i=1\/i=2\/i=3\/i=4\/i=5\/i=6\/i=7\/i=8\/i=9\/i=10\/i=11\/i=12\/i=13\/i=14\/i=15\/i=16\/i=17\/i=18\/i=19\/i=20\/i=21\/i=22\/i=23\/i=24\/i=25\/i=26\/i=27\/i=28\/i=29\/i=30\/i=31 from Zo) with rfl|rfl|rfl|rfl|rfl|rfl|rfl|rfl|rfl|rfl|rfl|rfl|rfl|rfl|rfl|rfl|rfl|rfl|rfl|rfl|rfl|rfl|rfl|rfl|rfl|rfl|rfl|rfl|rfl|rfl|rfl|rfl
 ·exact⟨u.rg 0,rfl⟩
 ·exact⟨u.rg 1,rfl⟩
 ·exact⟨u.rg 2,rfl⟩
 ·exact⟨u.rg 3,rfl⟩
 ·exact⟨u.rg 4,rfl⟩
 ·exact⟨u.rg 5,rfl⟩
 ·exact⟨u.rg 6,rfl⟩
 ·exact⟨u.rg 7,rfl⟩
 ·exact⟨u.rg 8,rfl⟩
 ·exact⟨u.rg 9,rfl⟩
 ·exact⟨u.rg 10,rfl⟩
 ·exact⟨u.rg 11,rfl⟩
 ·exact⟨u.rg 12,rfl⟩
 ·exact⟨u.rg 13,rfl⟩
 ·exact⟨u.rg 14,rfl⟩
 ·exact⟨u.rg 15,rfl⟩
 ·exact⟨u.rg 16,rfl⟩
 ·exact⟨u.rg 17,rfl⟩
 ·exact⟨u.rg 18,rfl⟩
 ·exact⟨u.rg 19,rfl⟩
 ·exact⟨u.rg 20,rfl⟩
 ·exact⟨u.rg 21,rfl⟩
 ·exact⟨u.rg 22,rfl⟩
 ·exact⟨u.rg 23,rfl⟩
 ·exact⟨u.rg 24,rfl⟩
 ·exact⟨u.rg 25,rfl⟩
 ·exact⟨u.rg 26,rfl⟩
 ·exact⟨u.rg 27,rfl⟩
 ·exact⟨u.rg 28,rfl⟩
 ·exact⟨u.rg 29,rfl⟩
 ·exact⟨u.rg 30,rfl⟩
 ·exact⟨u.rg 31,rfl⟩
theorem Qf {o:Oper} {act:Act} (x:Operand) (ho:o.op=.load 203 x) {g off:Nat} {e:Tl} (hx:act.eval x=.pointer (some ⟨g,off,none⟩)) (h:w.rangeAt g off (ba e)):(execOp act.eval o).run prog w=.ok (.value (.agg (ba e).toArray)) w:=by
 have aM:=run_loadAt_mid (P:=prog) w g off 203 (ba e) _ h underlying203 rfl (by rw[GD];exact congrArg some (eu.len e).symm);generalize (ba e).toArray=c at aM;simp only[execOp,ho,hx];simp[aM,Result.andThen]
theorem abl {o:Oper} {act:Act} (x y:Operand) (t':TypeId) (ho:o.op=.binOp .neq 203 x y t') {u:Tl} (hx:act.eval x=.agg (ba u).toArray) (hy:act.eval y=.agg (ba u).toArray):(execOp act.eval o).run prog w=.ok (.value (.bool false)) w:=by
 have hq:=aeM 9995 w #[Zu (u.rg 0),Zu (u.rg 1),Zu (u.rg 2),Zu (u.rg 3),Zu (u.rg 4),Zu (u.rg 5),Zu (u.rg 6),Zu (u.rg 7),Zu (u.rg 8),Zu (u.rg 9),Zu (u.rg 10),Zu (u.rg 11),Zu (u.rg 12),Zu (u.rg 13),Zu (u.rg 14),Zu (u.rg 15),Zu (u.rg 16),Zu (u.rg 17),Zu (u.rg 18),Zu (u.rg 19),Zu (u.rg 20),Zu (u.rg 21),Zu (u.rg 22),Zu (u.rg 23),Zu (u.rg 24),Zu (u.rg 25),Zu (u.rg 26),Zu (u.rg 27),Zu (u.rg 28),Zu (u.rg 29),Zu (u.rg 30),Zu (u.rg 31)] (YP u);simp only[execOp,ho,hx,hy,tlC_F];simp[go_sem,eqGuard,WH,hq]
theorem Pw {α:Type} {L:Lay α} {B:Nat} {e:TypeId} {v:Value} {xs:List α} (h:ai L w B e v xs):∃p c,v=.slice p xs.length c/\∀(k:Nat) (hk:k<xs.length),∃g,p=some ⟨g,0,none⟩/\w.rangeAt g (k*L.sz) (L.cf xs[k]):=by
 obtain⟨p,c,rfl,_,_,hg⟩:=h.form;refine⟨p,c,rfl,λk hk=>?_⟩;obtain⟨g,rfl,_⟩:=hg Zo;exact⟨g,rfl,zN h hk⟩
theorem OL {g off:Nat} {cs:List Value} {j:Nat} (h:w.rangeAt g off cs):(w.drewN j).drew.rangeAt g off cs:=λq u hq=>h q u hq
theorem XQ {B1 B2:Nat} {v1 v2:Value} {xs:List Tl} (h1:ai eu w B1 203 v1 xs) (h2:ai eu w B2 203 v2 xs) (hn:xs.length<=10000000):Zk 21 #[v1,v2] w λe w'=>Zr e (.bool true)/\Zq w w':=by
 obtain⟨p1,c1,rfl,q1⟩:=Pw h1;obtain⟨p2,c2,rfl,q2⟩:=Pw h2;have HQ:=aa (⟨q1,q2⟩:_/\_);obtain⟨N,hN⟩:=Ze (xs.length);have HN:=aa hN;rw[<-hN] at hn|-;clear q1 q2 hN h1 h2;go_enter func21,ntmps21;go_wp2_with fail
 go_loopw [5] (λd wr=>∃k j:Nat,d=Zi (k:Int)/\k<=N/\wr=w.drewN j) (λd _=>N - (RowKit.intOf d).toNat)
 case atStart=>exact⟨0,0,rfl,Zo,rfl⟩
 case round=>
  obtain⟨k,jj,rfl,hk,rfl⟩:=hrel;by_cases ah:k<N
  ·have dE:k<xs.length:=by have:=HN.j;omega
   have h1:(k:Int)<(N:Int):=Zo;have tI:0<=(k:Int)/\(k:Int)<(N:Int):=Zo;have iY:=Zf k Zo;obtain⟨g1,rfl,ha⟩:=HQ.j.1 k dE;obtain⟨g2,rfl,hb⟩:=HQ.j.2 k dE;generalize xs[k]=z at ha hb;have af:Hid ((w.drewN jj).drew.rangeAt g1 (k*41) (ba z)/\(w.drewN jj).drew.rangeAt g2 (k*41) (ba z)):=⟨OL ha,OL hb⟩
   clear ha hb ah;go_upto_region 6 with fail
   refine wp_region_any Zx (wpAny_of_held (S:=(λwv=>wv.rangeAt g1 (k*41) (ba z)/\wv.rangeAt g2 (k*41) (ba z))) _ _ _ _ ?_);simp only[List.size_toArray,List.length_cons,List.length_nil,Nat.zero_add,Nat.reduceAdd];refine Zt 0 af.j ?_;refine Zt 1 af.j ?_;refine Zt 2 af.j ?_;refine wpAnyH_take (i:=3) (v:=?v6_3_4) Zg Zx Zx Zx (by exact λ_ _ _ h=>h) (Or.inl ⟨by rfl,?hy6_3_4⟩) af.j ?_
   case hy6_3_4=>(intro wq nH;refine(Qf (.tmp 19) rfl rfl nH.1).trans ?_;with_reducible rfl)
   try simp only[Act.put,List.setIfInBounds_toArray,List.set_cons_zero,List.set_cons_succ]
   refine Zt 4 af.j ?_;refine Zt 5 af.j ?_;refine Zt 6 af.j ?_;refine wpAnyH_take (i:=7) (v:=?v6_7_8) Zg Zx Zx Zx (by exact λ_ _ _ h=>h) (Or.inl ⟨by rfl,?hy6_7_8⟩) af.j ?_
   case hy6_7_8=>(intro wq nH;refine(Qf (.tmp 23) rfl rfl nH.2).trans ?_;with_reducible rfl)
   try simp only[Act.put,List.setIfInBounds_toArray,List.set_cons_zero,List.set_cons_succ]
   refine wpAnyH_take (i:=8) (v:=?v6_8_9) Zg Zx Zx Zx (by exact λ_ _ _ h=>h) (Or.inl ⟨by rfl,?hy6_8_9⟩) af.j ?_
   case hy6_8_9=>(intro wq nH;refine(abl (.tmp 20) (.tmp 24) _ rfl rfl rfl).trans ?_;with_reducible rfl)
   try simp only[Act.put,List.setIfInBounds_toArray,List.set_cons_zero,List.set_cons_succ]
   refine wpAnyH_done Zx ?_ _;go_wp2_with fail;go_roundw
   case rel=>exact⟨k+1,jj+1,by go_num,Zo,rfl⟩
   case measure=>exact Zm
  ·obtain rfl:k=N:=Zo;have h1:¬(k:Int)<(k:Int):=Zo;clear ah;go_wp2_with fail
   all_goals
    go_ret;exact⟨rfl,(ae.refl _ _).drewN _⟩
end
end Go.Proofs.YtphkconoooeidaaGreatDoor

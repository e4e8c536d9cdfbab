import Derived.Test.YtphkconoooeidaaGreatDoorCp6
import Derived.Test.YtphkconoooeidaaGreatDoorCp14
import Derived.Test.YtphkconoooeidaaGreatDoorCp16
import Derived.LaidEqlPtr
import Derived.Lib.SliceRun
import Derived.Shelf.SlicesE.Delete
set_option maxRecDepth 100000
set_option maxHeartbeats 8000000
set_option linter.unusedVariables false
set_option linter.unusedSimpArgs false
open Go Go.Vx Go.Proofs.Tryz Go.ChangeShapes Go.WideShapes Go.ChangeAt Go.RowKit
namespace Go.Proofs.YtphkconoooeidaaGreatDoor
section
variable {U V S:Nat->Prop} {w w2:World} {xb mb:Nat} {D:DataW Value} {G:Int->Nat} {vt:Value} {vq:List Value} {ts:Lp} {t:Nat} {lf:Int} {es:List Et} {Q:Nat->List Int} {ck:Nat}
def nn (k:Int):Bool:=decide (0<=k/\k<=7)
theorem GA (k:Int) (w:World):Zk 110 #[Zi k] w λe w'=>Zr e (.bool (nn k))/\w'=w:=by
 by_cases h1:0<=k
 ·by_cases h2:k<8
  ·have HT:Hid (nn k=true):=decide_eq_true ⟨h1,Zo⟩;rw[HT.j];go_enter func110,ntmps110;go_wp2_with fail
   all_goals
    go_ret;exact⟨by first|rfl|simp_all,rfl⟩
  ·have HT:Hid (nn k=false):=decide_eq_false (λh=>h2 Zo);rw[HT.j];go_enter func110,ntmps110;go_wp2_with fail
   all_goals
    go_ret;exact⟨by first|rfl|simp_all,rfl⟩
 ·have HT:Hid (nn k=false):=decide_eq_false (λh=>h1 h.1);rw[HT.j];go_enter func110,ntmps110;go_wp2_with fail
  all_goals
   go_ret;exact⟨by first|rfl|simp_all,rfl⟩
theorem Ka (k:Int) (w:World):Zk 111 #[Zi k] w λe w'=>Zr e (.bool (nn k))/\w'=w:=by
 by_cases h1:0<=k
 ·by_cases h2:k<8
  ·have HT:Hid (nn k=true):=decide_eq_true ⟨h1,Zo⟩;rw[HT.j];go_enter func111,ntmps111;go_wp2_with fail
   all_goals
    go_ret;exact⟨by first|rfl|simp_all,rfl⟩
  ·have HT:Hid (nn k=false):=decide_eq_false (λh=>h2 Zo);rw[HT.j];go_enter func111,ntmps111;go_wp2_with fail
   all_goals
    go_ret;exact⟨by first|rfl|simp_all,rfl⟩
 ·have HT:Hid (nn k=false):=decide_eq_false (λh=>h1 h.1);rw[HT.j];go_enter func111,ntmps111;go_wp2_with fail
  all_goals
   go_ret;exact⟨by first|rfl|simp_all,rfl⟩
def qM (G:Int->Nat) (es:List Et) (n:Int) (b:Bool):Value:=match dB es n with
 |none=>.tuple #[.pointer none,Zi 6]
 |some i=>if decide ((es.getD i .df).bV≠0)=b then .tuple #[.pointer (some ⟨G n,0,none⟩),Zi 0] else .tuple #[.pointer none,Zi 16]
theorem VO (h:dJ U w xb mb D G vt vq ts t lf es Q) (n:Int) (hn:aj n) (b:Bool):Zk 204 #[Zp xb,Zi n,.bool b] w λe w'=>Zr e (qM G es n b)/\w'=w:=by
 have c3:=h.c3;have hk:=h.look n hn
 cases hi:dB es n with
 |none=>
  have hv:re G es n=.pointer none:=by unfold re;rw[hi]
  have HV:Hid (qM G es n b=.tuple #[.pointer none,Zi 6]):=by unfold qM;rw[hi];exact rfl
  rw[HV.j];rw[hv] at hk;clear h hi hv hn;go_enter func204,ntmps204;go_wp2_with fail
  all_goals
   go_ret2
   exact⟨rfl,rfl⟩
 |some i=>
  obtain⟨hl,he,r5,hv⟩:=h.r5 hi;rw[hv] at hk;have b3:=r5.c3;by_cases hb:decide (es[i].bV≠0)=b
  ·have HV:Hid (qM G es n b=.tuple #[.pointer (some ⟨G n,0,none⟩),Zi 0]):=by unfold qM;rw[hi];dsimp only;rw[kK hl,if_pos hb];exact rfl
   rw[HV.j];rw[hb] at b3;have oq:(b !=b)=false:=by simp
   generalize G n=g at b3 hk|-;clear h hi hv hn r5 hb he hl;go_enter func204,ntmps204;go_wp2_with fail
   all_goals
    go_ret2;exact⟨rfl,rfl⟩
  ·have HV:Hid (qM G es n b=.tuple #[.pointer none,Zi 16]):=by unfold qM;rw[hi];dsimp only;rw[kK hl,if_neg hb];exact rfl
   rw[HV.j]
   have cw:decide (es[i].bV≠0)= !b:=by
    cases h1:decide (es[i].bV≠0)<;>cases b<;>simp_all
   rw[cw] at b3;have oq:((!b) !=b)=true:=by cases b<;>rfl
   generalize G n=g at b3 hk|-;clear h hi hv hn r5 hb he hl cw
   cases b with
   |true=>
    go_enter func204,ntmps204;go_wp2_with fail
    all_goals
     go_ret2
     exact⟨rfl,rfl⟩
   |false=>
    go_enter func204,ntmps204;go_wp2_with fail
    all_goals
     go_ret2;exact⟨rfl,rfl⟩
theorem Vk (h:dJ U w xb mb D G vt vq ts t lf es Q):Zk 75 #[Zp xb] w λe w'=>Zr e (.tuple #[Zi (t:Int),Zi lf])/\Zq w w':=by
 have c1:=h.c1;have c2:=h.c2;clear h;go_enter func75,ntmps75;go_wp2_with fail;go_quiet (fail);go_wp2_with fail;refine bodyPost_ret (v:=.tuple #[Zi (t:Int),Zi lf]) ?_ rfl ⟨rfl,(ae.refl _ _).drewN _⟩;simp[results,results75,go_sem]
theorem VF (h:dJ U w xb mb D G vt vq ts t lf es Q) (n:Int) (hn:aj n):Zk 129 #[Zp xb,Zi n] w λe w'=>Zr e (.tuple #[Zi (eU es n).1,Zi (eU es n).2.1,Zi (eU es n).2.2.1,Zi (eU es n).2.2.2])/\Zq w w':=by
 have c3:=h.c3;have hk:=h.look n hn
 cases hi:dB es n with
 |none=>
  have hv:re G es n=.pointer none:=by unfold re;rw[hi]
  have e1:eU es n=(0,0,0,6):=by unfold eU;rw[hi]
  rw[e1];rw[hv] at hk;clear h hi hv hn e1;go_enter func129,ntmps129;go_wp2_with fail;refine bodyPost_ret (v:=.tuple #[Zi 0,Zi 0,Zi 0,Zi 6]) ?_ rfl ⟨rfl,ae.refl _ _⟩
  simp[results,results129,go_sem]
 |some i=>
  obtain⟨hl,he,r5,hv⟩:=h.r5 hi;rw[hv] at hk;have e1:eU es n=(es[i].bT,es[i].prio,es[i].left,0):=by unfold eU;rw[hi];dsimp only;rw[kK hl]
  rw[e1];have b1:=r5.c1;have b2:=r5.c2;have b4:=r5.c4;generalize es[i]=x at b1 b2 b4|-;obtain⟨x0,x1,x2,x3,x4⟩:=x;dsimp only at b1 b2 b4|-;generalize G n=g at b1 b2 b4 hk|-;clear h hi hv hn r5 he hl e1;go_enter func129,ntmps129;go_wp2_with fail;go_quiet (fail);go_wp2_with fail;refine bodyPost_ret (v:=.tuple #[Zi x1,Zi x2,Zi x3,Zi 0]) ?_ rfl ⟨rfl,(ae.refl _ _).drewN _⟩;simp[results,results129,go_sem]
theorem ZB (w:World) (g d p:Nat) (hd:d<8) (hp:p<8) (b1:w.cell? ⟨g,1,none⟩=some (Zi (d:Int))) (b2:w.cell? ⟨g,2,none⟩=some (Zi (p:Int))):Zk 239 #[Zp xb,Zp g] w λe w'=>Zr e (.pointer (some ⟨xb,4+(d*8+p),none⟩))/\Zq w w':=by
 have i1:0<=(d:Int)/\(d:Int)<8:=Zo;have i2:0<=(p:Int)/\(p:Int)<8:=Zo;go_enter func239,ntmps239;go_wp2_with fail;go_quiet (fail);go_wp2_with fail
 all_goals
  go_ret;refine⟨?_,(ae.refl _ _).drewN _⟩
  first|rfl|(simp[Nat.add_assoc])
end
section
variable {U V S:Nat->Prop} {w w2:World} {qb c g:Nat} {v:Value} {gs:List Nat} {cur:Array Value} {T0:TypeId}
theorem ZW:Kind prog qu 240 264:=kG (z:=.pointer none) (b:=8) underlying240 Zx rfl Zd
structure Cn (w:World) (qb c:Nat) (cur:Array Value) (T0:TypeId) (v:Value) (gs:List Nat):Prop where
 b:w.heap[qb]?=some (.cells cur T0 (0,0))
 c':cur[c]?=some v
 o:ai qu w 0 264 v gs
 ne:∀k,v.ownBlock=some k->k≠qb
 n:gs.length<10000000
theorem Cn.c0 (h:Cn w qb c cur T0 v gs):w.cell? ⟨qb,c,none⟩=some v:=(cell_of_row _ _ c _ _ (0,0) h.b).trans h.c'
def MH (w:World) (qb c:Nat) (cur:Array Value) (T0:TypeId) (v:Value) (gs:List Nat) (w':World):Prop:=∃v',ai qu w' 0 264 v' gs/\w'.heap[qb]?=some (.cells (cur.setIfInBounds c v') T0 (0,0))/\ae (λk=>k=qb\/v.ownBlock=some k) w w'/\∀k,v'.ownBlock=some k->v.ownBlock=some k\/w.heap.size<=k
theorem Cn.put {v':Value} {w3:World} {SQ:List Nat} (h:Cn w qb c cur T0 v gs) (ho:ai qu w3 0 264 v' SQ) (ay:ae (λk=>v.ownBlock=some k) w w3) (hl:∀k,v'.ownBlock=some k->v.ownBlock=some k\/w.heap.size<=k):
  (∃x,w3.cell? ⟨qb,c,none⟩=some x)/\w3.frozen? ⟨qb,c,none⟩=false/\MH w qb c cur T0 v SQ (w3.setCell ⟨qb,c,none⟩ v'):=by
 have hb:=ae.keep ay h.b (λe=>h.ne qb e rfl);have aC:ae (λk=>k=qb) w3 (w3.setCell ⟨qb,c,none⟩ v'):=ae.setCell (S:=λk=>k=qb) (ae.refl _ _) (Or.inl rfl) _;refine⟨⟨_,(cell_of_row _ _ c _ _ (0,0) hb).trans h.c'⟩,by simp[World.frozen?,hb],v',?_,?_,?_,hl⟩
 ·refine ai.kept ho aC (λk hk e=>?_);rcases hl k hk with h1|h1
  ·exact h.ne k h1 e
  ·have:=au h.b;omega
 ·exact heap_setCell_same _ _ c _ _ v' hb
 ·exact(ay.mono (λk _ h=>Or.inr h)).trans (aC.mono (λk _ h=>Or.inl h))
theorem ZE (h:Cn w qb c cur T0 v gs) (g:Nat):Zk 240 #[.pointer (some ⟨qb,c,none⟩),Zp g] w λe w'=>(∃x,Zr e x)/\MH w qb c cur T0 v (gs++[g]) w':=by
 have HH:=aa h;obtain⟨q,ca,hv,_⟩:=h.o.form;obtain⟨N,hN⟩:=Ze (gs.length);rw[<-hN] at hv;subst hv;have c0:=h.c0;have oD:Hid (gs.length+1<=10000000):=by show _<=_;have:=h.n;omega
 clear h hN;go_enter func240,ntmps240;go_wp2_with (at_builtin;refine mg ZW _ rfl _ _ rfl 0 (.slice q N ca) _ rfl HH.j.o g _ _ rfl rfl rfl oD.j (Nat.zero_le _) ?_;intro v' w8 bc aP bB;obtain⟨pz,cz,ka,_⟩:=bc.form;generalize (gs++[g]).length=mz at ka;subst ka;obtain⟨⟨qx,q1⟩,q2,q3⟩:=HH.j.put bc aP (uM bB);have HF:=aa q3;clear bc aP bB q3)
 all_goals
  go_end0;exact⟨⟨_,rfl⟩,HF.j⟩
end
section
variable {U V S:Nat->Prop} {w w2:World} {qb c g:Nat} {v:Value} {gs:List Nat} {cur:Array Value} {T0:TypeId}
theorem ZV {N cap:Nat} (h:ai qu w 0 264 (Zs g N cap) gs) (k:Nat) (hk:k<gs.length):w.cell? ⟨g,k,none⟩=some (.pointer (some ⟨gs[k],0,none⟩)):=by
 have:=h.cell k 0 hk Zd;have e:qu.sz=1:=rfl;rw[e,Nat.mul_one,Nat.add_zero] at this;exact this
end
section
variable {U V S:Nat->Prop} {w w2:World} {xb mb:Nat} {D:DataW Value} {G:Int->Nat} {vt:Value} {vq:List Value} {ts:Lp} {t:Nat} {lf:Int} {es:List Et} {Q:Nat->List Int} {ck:Nat}
theorem Kf {α:Type} {p:α->Bool}:∀(l:List α) (i k:Nat) (y:α) (hi:i<l.length),p y=p l[i]->dq p (l.set i y) k=dq p l k
 |[],i,k,y,hi,h=>by cases hi
 |a::l,0,k,y,hi,h=>by
  have h':p y=p a:=h;show dq p (y::l) k=dq p (a::l) k
  simp only[dq,h']
 |a::l,i+1,k,y,hi,h=>by
  have:=Kf l i (k+1) y (by simpa using hi) (by simpa using h);show dq p (a::l.set i y) k=dq p (a::l) k;simp only[dq,this]
theorem Me {i:Nat} (hi:i<es.length) (y:Et) (hy:y.num=es[i].num) (n:Int):dB (es.set i y) n=dB es n:=by
 unfold dB;refine Kf es i 0 y hi ?_;rw[hy]
theorem dJ.queue (h:dJ U w xb mb D G vt vq ts t lf es Q) (j:Nat) (hj:j<64) (hq:(Q j).length<=1000000):Cn w xb (4+j) (vF vt t lf mb vq) 246 (qv vq j) ((Q j).map G):=by
 refine⟨h.x,?_,h.qs j hj,λk hk e=>?_,?_⟩
 ·unfold vF;rw[List.getElem?_toArray,Nat.add_comm];exact O0 vq j (by rw[h.lq];exact hj)
 ·obtain⟨cur,hc⟩:=bu (h.qs j hj) hk;exact cE hc h.x Zd e
 ·rw[List.length_map];omega
theorem Vp (vt:Value) (t:Nat) (lf:Int) (mb:Nat) (vq:List Value) (j:Nat) (v:Value):(vF vt t lf mb vq).setIfInBounds (4+j) v=vF vt t lf mb (vq.set j v):=by
 unfold vF;rw[List.setIfInBounds_toArray,Nat.add_comm];rfl
theorem Jv (vq:List Value) (j i:Nat) (v:Value) (hj:j<vq.length):qv (vq.set j v) i=if i=j then v else qv vq i:=by
 unfold qv;rw[List.getD_eq_getElem?_getD,List.getD_eq_getElem?_getD,List.getElem?_set];by_cases e:i=j
 ·rw[if_pos e,if_pos e.symm,if_pos hj];rfl
 ·rw[if_neg e,if_neg (λh=>e h.symm)]
theorem dJ.vI (h:dJ U w xb mb D G vt vq ts t lf es Q) {j:Nat} (hj:j<64) {l:List Int} (hT:MH w xb (4+j) (vF vt t lf mb vq) 246 (qv vq j) (l.map G) w2):
  (∃NS,dJ U w2 xb mb D G vt NS ts t lf es (λi=>if i=j then l else Q i))/\Zn U w w2:=by
 obtain⟨v',ho,hb,ay,hl⟩:=hT;have KW:j<vq.length:=by rw[h.lq];exact hj
 have aR:=ay.size
 have PN:∀k,(∃c T,w.heap[k]?=some (.cells c T (0,0))/\T≠246/\T≠264)->¬(k=xb\/(qv vq j).ownBlock=some k):=by
  rintro k ⟨c,T,hc,n1,n2⟩ (e|e)
  ·rw[e] at hc;exact cE hc h.x n1 rfl
  ·obtain⟨cur,bH⟩:=bu (h.qs j hj) e;exact cE hc bH n2 rfl
 refine⟨⟨vq.set j v',?_,by rw[List.length_set];exact h.lq,h.t'.kept ay (λk hk=>?_),zU h.m ay ?_,h.hs,h.ha,λe he=>ae.keep ay (h.rn e he) (PN _ ⟨_,_,h.rn e he,Zd,Zd⟩),h.gi,λi hi=>?_,λa b k ha cw h1 h2=>?_,h.ux,h.ut,h.um,h.ur,λi k hi hk=>?_,λk hk=>Nat.lt_of_lt_of_le (h.low k hk) aR,h.nl,h.ix⟩,ay.mono (λk _ hk=>?_)⟩
 ·rw[hb,Vp]
 ·obtain⟨cur,hc⟩:=bu h.t' hk;exact PN k ⟨_,_,hc,Zd,Zd⟩
 ·rintro(e|e)
  ·exact xV h.x h.m e.symm
  ·obtain⟨cur,hc⟩:=bu (h.qs j hj) e;exact xV hc h.m rfl
 ·rw[Jv _ _ _ _ KW];by_cases e:i=j
  ·rw[if_pos e,if_pos e];exact ho
  ·rw[if_neg e,if_neg e];refine(h.qs i hi).kept ay (λk hk s=>?_);rcases s with s|s
   ·obtain⟨cur,hc⟩:=bu (h.qs i hi) hk;exact cE hc h.x Zd s
   ·exact e (h.qd i j k hi hj hk s)
 ·rw[Jv _ _ _ _ KW] at h1 h2;by_cases ea:a=j
  ·by_cases eb:b=j
   ·rw[ea,eb]
   ·rw[if_pos ea] at h1;rw[if_neg eb] at h2;rcases hl k h1 with h3|h3
    ·exact absurd (h.qd b j k cw hj h2 h3) eb
    ·have:=(cH (h.qs b cw) h2).2;omega
  ·by_cases eb:b=j
   ·rw[if_neg ea] at h1;rw[if_pos eb] at h2;rcases hl k h2 with h3|h3
    ·exact absurd (h.qd a j k ha hj h1 h3) ea
    ·have:=(cH (h.qs a ha) h1).2;omega
   ·rw[if_neg ea] at h1;rw[if_neg eb] at h2;exact h.qd a b k ha cw h1 h2
 ·rw[Jv _ _ _ _ KW] at hk;by_cases e:i=j
  ·rw[if_pos e] at hk;rcases hl k hk with h3|h3
   ·exact h.uq j k hj h3
   ·intro hu;have:=h.low k hu;omega
  ·rw[if_neg e] at hk;exact h.uq i k hi hk
 ·rcases hk with hk|hk
  ·rw[hk];exact h.ux
  ·exact h.uq j k hj hk
theorem Gl {i:Nat} {y e:Et} (hi:i<es.length) (hy:y.num=es[i].num) (he:e∈es.set i y):∃f∈es,f.num=e.num:=by
 rcases yc hi he with rfl|⟨h,_⟩
 ·exact⟨es[i],List.getElem_mem hi,hy.symm⟩
 ·exact⟨e,h,rfl⟩
theorem dJ.XJ (h:dJ U w xb mb D G vt vq ts t lf es Q) (gZ:(es.map (·.num)).Nodup) {i:Nat} (hi:i<es.length) (y:Et) (hy:y.num=es[i].num) (ay:ae (λk=>k=G y.num) w w2) (hb:w2.heap[G y.num]?=some (.cells (qm y) 266 (0,0))):
  dJ U w2 xb mb D G vt vq ts t lf (es.set i y) Q/\Zn U w w2:=by
 have hg:=h.rn _ (List.getElem_mem hi);rw[<-hy] at hg;have Kr:¬U (G y.num):=by rw[hy];exact h.ur _ (List.getElem_mem hi)
 refine⟨⟨ae.keep ay h.x (λe=>cE hg h.x Zd e.symm),h.lq,h.t'.kept ay (λk hk e=>?_),?_,λk hk=>?_,λk a z ha=>?_,λe he=>?_,λe he f hf R0=>?_,λj hj=>(h.qs j hj).kept ay (λk hk e=>?_),h.qd,h.ux,h.ut,h.um,λe he=>?_,h.uq,λk hk=>Nat.lt_of_lt_of_le (h.low k hk) ay.size,by rw[List.length_set];exact h.nl,λe he=>by obtain⟨f,hf,e2⟩:=Gl hi hy he;rw[<-e2];exact h.ix f hf⟩,ay.mono (λk _ hk=>by rw[hk];exact Kr)⟩
 ·obtain⟨cur,hc⟩:=bu h.t' hk;exact cE hg hc Zd e.symm
 ·rw[List.length_set];exact zU h.m ay (λe=>xV hg h.m e.symm)
 ·rw[Me hi y hy];exact h.hs k hk
 ·rw[Me hi y hy] at ha;exact h.ha k a z ha
 ·rcases yc hi he with rfl|⟨hm,j,hj,K9,rfl⟩
  ·exact hb
  ·refine ae.keep ay (h.rn _ hm) (λe=>?_);rw[hy] at e;exact aaZ gZ hj hi K9 (h.gi _ hm _ (List.getElem_mem hi) e)
 ·obtain⟨e',Lr,ee⟩:=Gl hi hy he;obtain⟨f',R7,fe⟩:=Gl hi hy hf;rw[<-ee,<-fe] at R0|-;exact h.gi e' Lr f' R7 R0
 ·obtain⟨cur,hc⟩:=bu (h.qs j hj) hk;exact cE hg hc Zd e.symm
 ·obtain⟨e',Lr,ee⟩:=Gl hi hy he;rw[<-ee];exact h.ur e' Lr
end
section
variable {U:Nat->Prop} {w:World} {xb mb:Nat} {D:DataW Value} {G:Int->Nat} {bs:Lp} {es:List En} {Q:Sl->Pl}
theorem acu {n:Nat} (hm:w.ownsMap prog 3 RH mb n D) (hs:∀k,aj k->Maps.has D (.int .i64 k)=(bR bs k).isSome) (gZ:(bs.map (·.1)).Nodup) (Hb:∀b∈bs,aj b.1):(bs.map (·.1)).Perm (intKeys D)/\Maps.size D=bs.length:=by
 obtain⟨l,hD,DB,_⟩:=hm.entries Di;obtain⟨l2,yO,oX⟩:=hm.keysOf;obtain rfl:l=l2:=by rw[hD] at yO;simpa using yO
 have hk:∀p∈l,∃x,p.1=.int .i64 x/\aj x:=λp hp=>by
  obtain⟨v,hv⟩:=oX p hp;obtain⟨x,_,hx,hw⟩:=Maps.keyOf_i64 underlying3 hv;exact⟨x,hx,adT hw⟩
 have hp:(bs.map (·.1)).Perm (intKeys D):=by
  rw[hD] at hs|-;refine perm_intKeys DB (λp hp=>?_) gZ (λx=>?_)
  ·obtain⟨x,hx,_⟩:=hk p hp;exact⟨x,hx⟩
  ·constructor
   ·intro hx;obtain⟨b,hb,rfl⟩:=List.mem_map.1 hx;rw[hs _ (Hb b hb),(zV gZ hb).1];rfl
   ·intro hx;have oQ:=hx;rw[Maps.has_eq,List.any_eq_true] at oQ;obtain⟨p,hp,yw⟩:=oQ;obtain⟨y,hy,yj⟩:=hk p hp;rw[hy] at yw;have Ac:y=x:=by simpa[Lit.sameKey] using yw
    subst Ac;rw[hs y yj] at hx;obtain⟨m,hm⟩:=Option.isSome_iff_exists.1 hx;exact List.mem_map.2 ⟨_,Jc hm,rfl⟩
 refine⟨hp,?_⟩;have h1:=hp.length_eq;rw[hD] at h1|-;rw[Maps.size_eq];simp only[intKeys,List.length_map] at h1;exact h1.symm
theorem dm.keys (h:dm U w xb mb D G bs Q):(bs.map (·.1)).Perm (intKeys D)/\Maps.size D=bs.length:=acu h.m h.hs h.nd h.ib
end
section
variable {U:Nat->Prop} {w:World} {xb mb:Nat} {D:DataW Value} {G:Int->Nat} {bs:Lp} {es:List En} {Q:Sl->Pl}
def QL (Q:Sl->Pl) (a t:Sl) (left:Lit->Bool) (s:Sl):Pl:=if left (.int .i64 s.1)=true then Q s else OU a t (Q s)
def QK (Q:Sl->Pl) (a t:Sl) (left:Lit->Bool) (c:Int) (k:Nat) (s:Sl):Pl:=if s.1=c then (if s.2<(k:Int) then OU a t (Q s) else Q s) else QL Q a t left s
structure RlR (U:Nat->Prop) (w:World) (xb mb r ab tb:Nat) (D:DataW Value) (G:Int->Nat) (bs:Lp) (QQ:Sl->Pl) (a t:Sl) (left:Lit->Bool) (cM:Nat) (wr:World):Prop where
 rg:wr.ranges prog 3 RH mb r bs.length D left cM
 xs:dm U wr xb mb D G bs QQ
 av:wr.heap[ab]?=some (.cells #[.int .i64 a.1,.int .i64 a.2] 95 (0,0))
 tv:wr.heap[tb]?=some (.cells #[.int .i64 t.1,.int .i64 t.2] 95 (0,0))
 nr:¬U r
 on:Zn U w wr
end
theorem Pm {w:World} {b:Nat} {x0 x1 x2 x3 x4 x5 x6 x7 x8 x9:Value} (h:w.heap[b]?=some (.cells #[x0,x1,x2,x3,x4,x5,x6,x7,x8,x9] 289 (0,0))):(w.cell? ⟨b,0,none⟩=some x0/\w.cell? ⟨b,1,none⟩=some x1/\w.cell? ⟨b,2,none⟩=some x2/\w.cell? ⟨b,3,none⟩=some x3/\w.cell? ⟨b,4,none⟩=some x4/\w.cell? ⟨b,5,none⟩=some x5/\w.cell? ⟨b,6,none⟩=some x6/\w.cell? ⟨b,7,none⟩=some x7/\w.cell? ⟨b,8,none⟩=some x8/\w.cell? ⟨b,9,none⟩=some x9)/\∀j,w.frozen? ⟨b,j,none⟩=false:=
 ⟨⟨Zl h,Zl h,Zl h,Zl h,Zl h,Zl h,Zl h,Zl h,Zl h,Zl h⟩,λj=>by simp[World.frozen?,h]⟩
section
variable {U:Nat->Prop} {w:World} {xb mb:Nat} {D:DataW Value} {G:Int->Nat} {bs:Lp} {es:List En} {Q:Sl->Pl}
def ags (p:Option Addr×Nat×Nat):Value:=.slice p.1 p.2.1 p.2.2
end
section
variable {U:Nat->Prop} {w:World} {xb mb:Nat} {D:DataW Value} {G:Int->Nat} {bs:Lp} {es:List En} {Q:Sl->Pl}
end
section
variable {U:Nat->Prop} {w:World} {xb mb:Nat} {D:DataW Value} {G:Int->Nat} {bs:Lp} {es:List En} {Q:Sl->Pl}
end
section
open Go.Sort Go.Shelf
variable {U:Nat->Prop} {w:World} {xb mb:Nat} {D:DataW Value} {G:Int->Nat} {bs:Lp} {es:List En} {Q:Sl->Pl}
theorem acv (mb:Nat) (w:World):Zk 183 #[.map (some mb)] w λe w'=>Zr e (.func (.func 219) #[] #[Zp w.heap.size])/\w'=w.alloc (.cells #[.map (some mb)] 250):=
 (callsIn_wide (n:=5)).1 (AnyZI.keys_in keysA Fence.wide 5 trivial rfl (some mb) w)
theorem On (m:Nat):AnyZI.SortsIn prog sortedA_ren Fence.wide m:=
 ⟨λeR off cap ss W hH hblk aR=>callsIn_wide.2 (slices_Sort_int eR off cap ss W hH hblk aR),
  λp cap W=>callsIn_wide.2 (slices_Sort_int_none p cap W)⟩
def lI (bs:Lp):List Int:=(bs.map (·.1)).mergeSort (λx y=>decide (x<=y))
theorem S8 (l:List Int):fl cO l=l.map encZ:=by
 induction l with
 |nil=>rfl
 |cons a l ih=>rw[ov,ih];rfl
theorem PK (bs:Lp):(lI bs).length=bs.length:=by unfold lI;rw[List.length_mergeSort,List.length_map]
theorem Xr (h:dm U w xb mb D G bs Q):Zk 67 #[.func (.func 219) #[] #[Zp w.heap.size]] (w.alloc (.cells #[.map (some mb)] 250)) λe w'=>∃v,Zr e v/\ai cO w' w.heap.size 3 v (lI bs)/\Zq w w':=by
 obtain⟨KD,tA⟩:=h.keys;have uU:=h.nb;have gn:=h.m.lt
 have Ai:SeqGives Fence.wide 2 prog 219 #[Zp w.heap.size] encZ (λss=>ss.Perm (intKeys D)) (Maps.size D) (w.alloc (.cells #[.map (some mb)] 250)):=
  AnyZI.keys_gives (ρ:=keysA_ren) {keysA with} Fence.wide _ trivial rfl Zo w.heap.size mb bs.length D _ (by simp) (by simp) (h.m.alloc _)
 have cS:=AnyZI.sorted_in sortedA Fence.wide 5 trivial trivial trivial trivial rfl Zo (On _) (enters_of func127 Zx rfl) 219 #[Zp w.heap.size] trivial (enters_of func219 Zx rfl) _ _ (by rw[tA];unfold maxLen;omega) (by rw[tA];omega) _ Ai;change CallsIn _ _ prog 67 _ _ _ at cS;refine((callsIn_wide (n:=5)).1 cS).m ?_;rintro e w' ⟨v,ss,rfl,hp,dM,_,hb⟩;have e1:ss.mergeSort (λx y=>decide (x<=y))=lI bs:=mergeSort_of_perm_i (hp.trans KD.symm);have e2:ss.length=(lI bs).length:=by rw[<-e1,List.length_mergeSort]
 refine⟨v,rfl,?_,?_⟩
 ·have h1:w'.ownsRow (w.alloc (.cells #[.map (some mb)] 250)).heap.size 3 1 v (lI bs).length (fl cO (lI bs)):=by
   rw[e1,e2] at dM;rw[S8];exact dM
  exact s9 (L:=cO) h1 (by simp)
 ·exact((ae.refl _ w).alloc _).trans (ae.PF hb (λk hk cw=>Zo))
end
section
variable {bs:Lp} {es:List En} {Q:Sl->Pl}
def AW (Q:Sl->Pl) (s:Sl):En:=⟨s,(Q s).1,(Q s).2⟩
def jl (Q:Sl->Pl) (num:Int) (k:Nat):List En:=(List.range k).flatMap λ(i:Nat)=>if (Q (num,(i:Int))).1.kind=0 then [] else [AW Q (num,(i:Int))]
def xI (bs:Lp) (num:Int):Nat:=((bR bs num).getD 0).toNat
def iF (Q:Sl->Pl) (bs:Lp) (l:List Int):List En:=l.flatMap λnum=>jl Q num (xI bs num)
theorem FV (Q:Sl->Pl) (num:Int) (k:Nat):jl Q num (k+1)=jl Q num k++(if (Q (num,(k:Int))).1.kind=0 then [] else [AW Q (num,(k:Int))]):=by
 unfold jl;rw[List.range_succ,List.flatMap_append];simp
theorem Mj (Q:Sl->Pl) (bs:Lp) (l:List Int) (j:Nat) (hj:j<l.length):iF Q bs (l.take (j+1))=iF Q bs (l.take j)++jl Q l[j] (xI bs l[j]):=by
 unfold iF;rw[List.take_succ_eq_append_getElem hj,List.flatMap_append];simp
theorem Dc {num:Int} {k:Nat} {e:En}:e∈jl Q num k↔∃i:Nat,i<k/\(Q (num,(i:Int))).1.kind≠0/\e=AW Q (num,(i:Int)):=by
 unfold jl;rw[List.mem_flatMap];constructor
 ·rintro⟨i,hi,he⟩;by_cases h:(Q (num,(i:Int))).1.kind=0
  ·rw[if_pos h] at he;cases he
  ·rw[if_neg h] at he;exact⟨i,List.mem_range.1 hi,h,by simpa using he⟩
 ·rintro⟨i,hi,h,rfl⟩;exact⟨i,List.mem_range.2 hi,by rw[if_neg h];simp⟩
theorem JQ (bs:Lp) (x:Int):x∈lI bs↔∃b∈bs,b.1=x:=by
 unfold lI;rw[List.mem_mergeSort,List.mem_map]
theorem aaX (hn:(bs.map (·.1)).Nodup):(lI bs).Pairwise (λa b=>a<b):=by
 have h1:(lI bs).Pairwise (λa b=>(decide (a<=b))=true):=List.pairwise_mergeSort (λa b c h1 h2=>by simp only[decide_eq_true_eq] at*;omega) (λa b=>by simp only[Bool.or_eq_true,decide_eq_true_eq];omega) _;have h2:(lI bs).Nodup:=(List.Perm.nodup_iff (List.mergeSort_perm _ _)).2 hn;refine(h1.and h2).imp (fun {a b} h=>?_);have h3:=of_decide_eq_true h.1;have h4:a≠b:=h.2;omega
theorem OJ (Q:Sl->Pl) (num:Int):∀k,(jl Q num k).Pairwise (λa b=>je a.at' b.at'=true)
 |0=>by simp[jl]
 |k+1=>by
  rw[FV,List.pairwise_append];refine⟨OJ Q num k,?_,λa ha b hb=>?_⟩
  ·split
   ·exact List.Pairwise.nil
   ·simp
  ·obtain⟨i,hi,_,rfl⟩:=Dc.1 ha
   split at hb
   ·cases hb
   ·simp only[List.mem_cons,List.not_mem_nil,or_false] at hb;subst hb;exact decide_eq_true (Or.inr ⟨rfl,by show(i:Int)<(k:Int);omega⟩)
theorem aeN (hn:(bs.map (·.1)).Nodup):rO (iF Q bs (lI bs)):=by
 unfold rO iF;rw[List.pairwise_flatMap];refine⟨λa _=>OJ Q a _,(aaX hn).imp (fun {a b} ch x hx y hy=>?_)⟩;obtain⟨i,_,_,rfl⟩:=Dc.1 hx;obtain⟨j,_,_,rfl⟩:=Dc.1 hy;exact decide_eq_true (Or.inl ch)
theorem Xl {l m:List En} (h1:rO l) (h2:rO m) (h:∀e,e∈l↔e∈m):l=m:=by
 have n1:l.Nodup:=h1.imp (fun {a b} ch e=>by subst e;rw[Ij] at ch;cases ch);have n2:m.Nodup:=h2.imp (fun {a b} ch e=>by subst e;rw[Ij] at ch;cases ch);refine List.Perm.eq_of_pairwise (le:=λ(a b:En)=>je a.at' b.at'=true) (λa b _ _ h3 h4=>?_) h1 h2 ((List.perm_ext_iff_of_nodup n1 n2).2 h);have:=TR h3 h4;rw[Ij] at this;cases this
theorem Tg (hf:Wf bs es) (hx:Wx bs es):iF (aX es) bs (lI bs)=es:=by
 refine Xl (aeN hx.nd) hf.so (λe=>?_);unfold iF;rw[List.mem_flatMap];constructor
 ·rintro⟨num,mA,he⟩;obtain⟨i,hi,hk,rfl⟩:=Dc.1 he;rcases ME es (num,(i:Int)) with⟨e2,h2,h3⟩|hn
  ·have:=s8 hf.once h2;rw[h3] at this;unfold AW;rw[this];have h4:(⟨(num,(i:Int)),e2.cap,e2.aW⟩:En)=e2:=by rw[<-h3]
   rw[h4];exact h2
  ·rw[xN hn] at hk;exact absurd rfl hk
 ·intro he;obtain⟨b,hb,h1,h2,h3⟩:=hx.ix e he;refine⟨e.at'.1,(JQ bs _).2 ⟨b,hb,h1⟩,Dc.2 ⟨e.at'.2.toNat,?_,?_,?_⟩⟩
  ·unfold xI;rw[<-h1,(zV hx.nd hb).1];simp only[Option.getD_some];omega
  ·have h4:(e.at'.1,((e.at'.2.toNat:Nat):Int))=e.at':=Prod.ext rfl (by simp only;omega);rw[h4,s8 hf.once he];have:=hx.kd e he;simp only;omega
  ·have h4:(e.at'.1,((e.at'.2.toNat:Nat):Int))=e.at':=Prod.ext rfl (by simp only;omega);rw[h4];unfold AW;rw[s8 hf.once he]
end
section
variable {U:Nat->Prop} {w:World} {xb mb:Nat} {D:DataW Value} {G:Int->Nat} {bs:Lp} {es:List En} {Q:Sl->Pl}
theorem YB (Q:Sl->Pl) (num:Int) (k n:Nat) (h:k<=n):(jl Q num k).length<=(jl Q num n).length:=by
 induction n with
 |zero=>
  have:k=0:=Zo
  subst this;exact Nat.le_refl _
 |succ n ih=>
  by_cases hk:k=n+1
  ·subst hk;exact Nat.le_refl _
  ·rw[FV,List.length_append];have:=ih Zo;omega
theorem Pt (Q:Sl->Pl) (bs:Lp) (l:List Int) (j:Nat) (hj:j<l.length) (k:Nat) (hk:k<=xI bs l[j]):(iF Q bs (l.take j)++jl Q l[j] k).length<=(iF Q bs l).length:=by
 have h1:=Mj Q bs l j hj
 have h2:iF Q bs l=iF Q bs (l.take (j+1))++iF Q bs (l.drop (j+1)):=by
  unfold iF;rw[<-List.flatMap_append,List.take_append_drop]
 rw[h2,h1];have:=YB Q l[j] k _ hk;simp only[List.length_append];omega
structure sS (w:World) (nv:Value) (bZ:List Int) (v:Value) (ls:List En) (wr:World):Prop where
 on:Zq w wr
 nu:ai cO wr w.heap.size 3 nv bZ
 ow:ai dP wr w.heap.size 208 v ls
theorem sS.quiet {w:World} {nv:Value} {bZ:List Int} {v:Value} {ls:List En} {wr wx:World} (h:sS w nv bZ v ls wr) (ho:Zq wr wx):sS w nv bZ v ls wx:=
 ⟨h.on.trans ho,h.nu.kept ho (λ_ _ h=>h),h.ow.kept ho (λ_ _ h=>h)⟩
theorem sS.push {w:World} {nv:Value} {bZ:List Int} {v v2:Value} {ls ru:List En} {wr wx:World} (h:sS w nv bZ v ls wr) (ho:ai dP wx w.heap.size 208 v2 ru) (ay:ae (λk=>v.ownBlock=some k) wr wx):sS w nv bZ v2 ru wx:=
 ⟨h.on.beyond ay (λk hk=>(cH h.ow hk).1),h.nu.kept ay (λk hk e=>by
  obtain⟨c1,h1⟩:=bu h.nu hk;obtain⟨c2,h2⟩:=bu h.ow e
  exact cE h1 h2 Zd rfl),ho⟩
theorem NI (h:dm U w xb mb D G bs Q):Zk 133 #[Zp xb] w λe w'=>∃v,Zr e v/\ai cO w' w.heap.size 3 v (lI bs)/\Zq w w':=by
 have c0:=h.c0;have Fb:=aa (acv mb w);have rS:=aa (Xr h);clear h;go_enter func133,ntmps133;go_wp2_with fail;refine Fb.j.m ?_;rintro e w1 ⟨rfl,rfl⟩;go_wp2_with fail;refine rS.j.m ?_;rintro e w2 ⟨nv,rfl,pQ,ay⟩;have HR:=aa (⟨pQ,ay⟩:_/\_);obtain⟨np,nc,tD,_⟩:=pQ.form;generalize (lI bs).length=M at tD;subst tD;clear pQ ay Fb rS c0;go_wp2_with fail
 all_goals
  go_ret;exact⟨_,rfl,HR.j.1,HR.j.2⟩
theorem VP (hc:jL U w xb bs es):Zk 72 #[Zp xb] w λe w'=>∃v,Zr e v/\ai dP w' w.heap.size 208 v es/\Zq w w':=by
 obtain⟨mb,D,G,h,hf,hx,hl⟩:=hc;have Bk:=aa (Tg hf hx);have HX:=aa h;have c0:=h.c0;have rS:=aa (NI h);have qD:=PK bs;have uU:=h.nb;have cX:=aa hl
 have E8:Hid (∀x∈lI bs,aj x/\∃n,bR bs x=some n/\xI bs x=n.toNat/\1<=n/\n<=64):=λx iN=>by
  obtain⟨b,hb,rfl⟩:=(JQ bs x).1 iN;have h1:=(zV hx.nd hb).1;exact⟨hx.ib b hb,b.2,h1,by unfold xI;rw[h1];rfl,h.bn _ _ h1⟩
 obtain⟨bZ,DJ⟩:∃l,l=lI bs:=⟨_,rfl⟩
 rw[<-DJ] at Bk rS qD E8;clear h hf hx hl DJ;go_enter func72,ntmps72;go_wp2_with fail;refine rS.j.m ?_;rintro e w2 ⟨nv,rfl,pQ,ay⟩;obtain⟨np,nc,tD,_,_,qE⟩:=pQ.form;obtain⟨M,hM⟩:=Ze (bZ.length);have HM:=aa hM;rw[<-hM] at tD;have D6:M<=1000000:=Zo;have oE:Hid (sS w nv bZ (.slice none 0 0) (iF (aX es) bs (bZ.take 0)) w2):=⟨ay,pQ,ai.nil _ _ _ _⟩
 subst tD;have Bg:=aa qE;clear pQ ay hM rS c0 uU qD qE;go_wp2_with fail
 go_loopw [3,5,6,7,11] (λv _ _ _ d wr=>∃j:Nat,d=Zi (j:Int)/\j<=M/\Hid (sS w (.slice np M nc) bZ v (iF (aX es) bs (bZ.take j)) wr)) (λ_ _ _ _ d _=>M - (RowKit.intOf d).toNat)
 case atStart=>exact⟨0,rfl,Zo,oE⟩
 case round=>
  clear oE;obtain⟨j,rfl,hj,HR⟩:=hrel;by_cases ah:j<M
  ·have bg:j<bZ.length:=by have:=HM.j;omega
   have h1:(j:Int)<(M:Int):=Zo;have bf:0<=(j:Int)/\(j:Int)<(M:Int):=Zo;have jT:=Zf j Zo;obtain⟨g,rfl,_⟩:=Bg.j Zo
   have oa:wr.cell? ⟨g,j,none⟩=some (Zi bZ[j]):=by
    have:=HR.j.nu.cell j 0 bg Zd;have e:j*cO.sz+0=j:=by show j*1+0=j;omega
    rw[e] at this;exact this
   obtain⟨oU,n,gg,wG,nC,lO⟩:=E8.j _ (List.getElem_mem bg);have gT:=aa (Pt (aX es) bs bZ j bg);have wu:=Mj (aX es) bs bZ j bg;generalize bZ[j]=num at oa oU gg wG gT wu;obtain⟨N,hN⟩:∃N:Nat,n=(N:Int):=⟨n.toNat,Zo⟩
   subst hN;rw[Int.toNat_natCast] at wG;rw[wG] at gT wu;have AO:=HX.j.quiet HR.j.on;have c0:=AO.c0;have gh:=(AO.look num oU).1;rw[BF gg,Int.toNat_natCast] at gh;have Cu:=aa gg;have dG:=aa wu
   have iT:Hid (sS w (Zs g M nc) bZ u3 (iF (aX es) bs (bZ.take j)++jl (aX es) num 0) wr):=by
    have e:jl (aX es) num 0=[]:=by simp[jl]
    rw[e,List.append_nil];exact HR.j
   have aex:N<=64:=Zo;clear gg wu AO HR nC lO wG oU;go_wp2_with fail
   go_loopw [3,6,7,22] (λv _ _ d wx=>∃k:Nat,d=Zi (k:Int)/\k<=N/\Hid (sS w (Zs g M nc) bZ v (iF (aX es) bs (bZ.take j)++jl (aX es) num k) wx)) (λ_ _ _ d _=>N - (RowKit.intOf d).toNat)
   case atStart=>exact⟨0,rfl,Zo,iT⟩
   case round=>
    clear iT c0 gh oa;obtain⟨k,rfl,hk,p7⟩:=hrel;by_cases KV:k<N
    ·have h2:(k:Int)<(N:Int):=Zo;have tI:0<=(k:Int)/\(k:Int)<(N:Int):=Zo;have iY:=Zf k Zo;obtain⟨c0,c1,c2,c3,c4,c5,c6,c7,c8,c9⟩:=(HX.j.quiet p7.j.on).uH Cu.j k h2;have HF:=aa (BG (aX es (num,(k:Int))));have nz:=FV (aX es) num k
     have jw:Hid ((iF (aX es) bs (bZ.take j)++jl (aX es) num k).length+1<=10000000):=by
      have h3:=gT.j k hk;rw[Bk.j] at h3;have h4:=cX.j;show _+1<=10000000;omega
     unfold AW at nz;generalize hp:aX es (num,(k:Int))=p at c0 c1 c2 c3 c4 c5 c6 c7 c8 c9 HF nz;obtain⟨⟨d0,d1,d2,d3,d4,d5,d6,d7⟩,⟨f0,f1⟩⟩:=p;dsimp only at c0 c1 c2 c3 c4 c5 c6 c7 c8 c9 HF nz;have ir:=aa nz;have gH:Hid (∀o,Zq wr (wr.alloc o)):=λo=>(ae.refl _ wr).alloc o
     obtain⟨pv,cv,iA,_⟩:=p7.j.ow.form;obtain⟨m,hm⟩:=Ze ((iF (aX es) bs (bZ.take j)++jl (aX es) num k).length);rw[<-hm] at iA;subst iA;clear hp nz KV hm;by_cases hz:d0=0
     ·subst hz;go_wp2_with fail;refine(HF.j _).m ?_;rintro e w4 ⟨rfl,h4⟩;have H4:=aa ((gH.j (.cells #[Zi 0,Zi d1,Zi d2,Zu d3,Zu d4,Zi d5,Zi d6,Zu d7,Zi f0,Zi f1] 289)).trans h4);clear h4 c0 c1 c2 c3 c4 c5 c6 c7 c8 c9 gH HF;go_wp2_with fail;go_roundw
      case rel=>
       refine⟨k+1,by go_num,Zo,?_⟩;have:=p7.j.quiet H4.j;rw[ir.j]
       first|rw[if_pos rfl,List.append_nil]|rw[if_pos trivial,List.append_nil]
       exact this
      case measure=>exact Zm
     ·have uQ:(d0 !=0)=true:=by simp[hz]
      rw[uQ] at HF;have HZ:=aa hz;go_wp2_with fail;refine(HF.j _).m ?_;rintro e w4 ⟨rfl,h4⟩;have D5:=(gH.j (.cells #[Zi d0,Zi d1,Zi d2,Zu d3,Zu d4,Zi d5,Zi d6,Zu d7,Zi f0,Zi f1] 289)).trans h4
      have uU:w4.heap[wr.heap.size]?=some (.cells #[Zi d0,Zi d1,Zi d2,Zu d3,Zu d4,Zi d5,Zi d6,Zu d7,Zi f0,Zi f1] 289 (0,0)):=by
       have h9:=heap_alloc_last wr (.cells #[Zi d0,Zi d1,Zi d2,Zu d3,Zu d4,Zi d5,Zi d6,Zu d7,Zi f0,Zi f1] 289);rw[h4.block _ (au h9) (λh=>h)];exact h9
      obtain⟨⟨n0,n1,n2,n3,n4,n5,n6,n7,n8,n9⟩,nf⟩:=Pm uU;have dK:=aa (p7.j.quiet D5);have oG:Hid (w.heap.size<=w4.heap.size):=dK.j.on.size;clear h4 c0 c1 c2 c3 c4 c5 c6 c7 c8 c9 gH HF uU D5 nf;obtain⟨nb,DM⟩:=Ze (wr.heap.size);rw[<-DM] at n0 n1 n2 n3 n4 n5 n6 n7 n8 n9|-;clear DM;go_wp2_with (at_builtin;refine mg Mk _ rfl _ _ rfl w.heap.size (.slice pv m cv) _ rfl dK.j.ow ⟨(num,(k:Int)),⟨d0,d1,d2,d3,d4,d5,d6,d7⟩,(f0,f1)⟩ _ _ rfl rfl rfl jw.j oG.j ?_;intro v' w5 bc aP bB;have aG:=aa (dK.j.push bc aP);clear bc aP bB);go_roundw
      case rel=>
       refine⟨k+1,by go_num,Zo,?_⟩;have:=aG.j;rw[ir.j,if_neg HZ.j,<-List.append_assoc];exact this
      case measure=>exact Zm
    ·obtain rfl:k=N:=Zo;have h2:¬(k:Int)<(k:Int):=Zo
     have aG:Hid (sS w (Zs g M nc) bZ u3 (iF (aX es) bs (bZ.take (j+1))) wr):=by
      have:=p7.j;rw[<-dG.j] at this;exact this
     clear p7;go_wp2_with fail;go_roundw
     case rel=>exact⟨j+1,by go_num,Zo,aG⟩
     case measure=>exact Zm
  ·obtain rfl:j=M:=Zo;have h1:¬(j:Int)<(j:Int):=Zo
   have eO:Hid (sS w (.slice np j nc) bZ u3 es wr):=by
    have:=HR.j;rw[HM.j,List.take_length,Bk.j,<-HM.j] at this;exact this
   clear HR;obtain⟨pv,cv,iA,_⟩:=eO.j.ow.form;generalize es.length=L at iA;subst iA;go_wp2_with fail;go_ret;exact⟨_,rfl,eO.j.ow,eO.j.on⟩
end
section
variable {U:Nat->Prop} {w:World} {xb mb:Nat} {D:DataW Value} {G:Int->Nat} {bs:Lp} {es:List En} {Q:Sl->Pl}
structure sI (w:World) (ob:Nat) (o:Sl) (nv:Value) (bZ:List Int) (v:Value) (ls:List Sl) (wr:World):Prop where
 on:Zq w wr
 o0:wr.heap[ob]?=some (.cells #[Zi o.1,Zi o.2] 85 (0,0))
 nu:ai cO wr w.heap.size 3 nv bZ
 ow:ai aJ wr w.heap.size 95 v ls
theorem sI.quiet {w:World} {ob:Nat} {o:Sl} {nv:Value} {bZ:List Int} {v:Value} {ls:List Sl} {wr wx:World} (h:sI w ob o nv bZ v ls wr) (ho:Zq wr wx):sI w ob o nv bZ v ls wx:=
 ⟨h.on.trans ho,by rw[ho.block ob (au h.o0) (λh=>h)];exact h.o0,h.nu.kept ho (λ_ _ h=>h),h.ow.kept ho (λ_ _ h=>h)⟩
theorem sI.push {w:World} {ob:Nat} {o:Sl} {nv:Value} {bZ:List Int} {v v2:Value} {ls ru:List Sl} {wr wx:World} (h:sI w ob o nv bZ v ls wr) (ho:ai aJ wx w.heap.size 95 v2 ru) (ay:ae (λk=>v.ownBlock=some k) wr wx):sI w ob o nv bZ v2 ru wx:=
 ⟨h.on.beyond ay (λk hk=>(cH h.ow hk).1),by
  rw[ay.block ob (au h.o0) (λe=>by
   obtain⟨c2,h2⟩:=bu h.ow e
   exact cE h.o0 h2 Zd rfl)]
  exact h.o0,h.nu.kept ay (λk hk e=>by
  obtain⟨c1,h1⟩:=bu h.nu hk;obtain⟨c2,h2⟩:=bu h.ow e
  exact cE h1 h2 Zd rfl),ho⟩
theorem ae9 (a b:List En) (o:Sl):gd (a++b) o=gd a o++gd b o:=by
 unfold gd;rw[List.filter_append,List.map_append]
theorem VJ (hc:jL U w xb bs es) (o:Sl):Zk 201 #[Zp xb,.agg #[Zi o.1,Zi o.2]] w λe w'=>∃v,Zr e v/\ai aJ w' w.heap.size 95 v (gd es o)/\Zq w w':=by
 obtain⟨o1,o2⟩:=o;obtain⟨w1,ag⟩:=Ze (w.alloc (.cells #[Zi o1,Zi o2] 85));have ay:=Za ag;have az:w1.heap[w.heap.size]?=some (.cells #[Zi o1,Zi o2] 85 (0,0)):=by rw[ag];exact heap_alloc_last w _
 obtain⟨mb,D,G,h,hf,hx,hl⟩:=hc;have Bk:=aa (Tg hf hx);have HX:=aa h;have rS:=aa (NI (h.quiet ay));have qD:=PK bs;have uU:=h.nb;have cX:=aa hl
 have E8:Hid (∀x∈lI bs,aj x/\∃n,bR bs x=some n/\xI bs x=n.toNat/\1<=n/\n<=64):=λx iN=>by
  obtain⟨b,hb,rfl⟩:=(JQ bs x).1 iN;have h1:=(zV hx.nd hb).1;exact⟨hx.ib b hb,b.2,h1,by unfold xI;rw[h1];rfl,h.bn _ _ h1⟩
 have tW:=aa (⟨ay,az⟩:_/\_);have jY:Hid (w.heap.size<=w1.heap.size):=ay.size;obtain⟨bZ,DJ⟩:∃l,l=lI bs:=⟨_,rfl⟩
 rw[<-DJ] at Bk rS qD E8;clear h hf hx hl DJ ay az;dsimp only;go_enter func201,ntmps201;go_upto_region 2 with fail
 rw[<-ag];obtain⟨ob,KK⟩:=Ze (w.heap.size);rw[<-KK] at tW|-;have vA:=aa KK;clear ag KK;go_wp2_with fail;refine rS.j.m ?_;rintro e w2 ⟨nv,rfl,RC,KI⟩;have pQ:=s9 RC jY.j;have oE:Hid (sI w ob (o1,o2) nv bZ (.slice none 0 0) (gd (iF (aX es) bs (bZ.take 0)) (o1,o2)) w2):=⟨tW.j.1.trans KI,by rw[KI.block ob (au tW.j.2) (λh=>h)];exact tW.j.2,pQ,ai.nil _ _ _ _⟩
 obtain⟨np,nc,tD,_,_,qE⟩:=pQ.form;obtain⟨M,hM⟩:=Ze (bZ.length);have HM:=aa hM;rw[<-hM] at tD;have D6:M<=1000000:=Zo;subst tD
 have Bg:Hid (0<M->∃g,np=some ⟨g,0,none⟩):=λh=>by
  obtain⟨g,h1,_⟩:=qE Zo;exact⟨g,h1⟩
 clear pQ RC KI hM rS uU qD qE tW jY vA;go_wp2_with fail
 go_loopw [5,7,8,9,13] (λv _ _ _ d wr=>∃j:Nat,d=Zi (j:Int)/\j<=M/\Hid (sI w ob (o1,o2) (.slice np M nc) bZ v (gd (iF (aX es) bs (bZ.take j)) (o1,o2)) wr)) (λ_ _ _ _ d _=>M - (RowKit.intOf d).toNat)
 case atStart=>exact⟨0,rfl,Zo,oE⟩
 case round=>
  clear oE;obtain⟨j,rfl,hj,HR⟩:=hrel;by_cases ah:j<M
  ·have bg:j<bZ.length:=by have:=HM.j;omega
   have h1:(j:Int)<(M:Int):=Zo;have bf:0<=(j:Int)/\(j:Int)<(M:Int):=Zo;have jT:=Zf j Zo;obtain⟨g,rfl⟩:=Bg.j Zo
   have oa:wr.cell? ⟨g,j,none⟩=some (Zi bZ[j]):=by
    have:=HR.j.nu.cell j 0 bg Zd;have e:j*cO.sz+0=j:=by show j*1+0=j;omega
    rw[e] at this;exact this
   obtain⟨oU,n,gg,wG,nC,lO⟩:=E8.j _ (List.getElem_mem bg);have gT:=aa (Pt (aX es) bs bZ j bg);have wu:=Mj (aX es) bs bZ j bg;generalize bZ[j]=num at oa oU gg wG gT wu;obtain⟨N,hN⟩:∃N:Nat,n=(N:Int):=⟨n.toNat,Zo⟩
   subst hN;rw[Int.toNat_natCast] at wG;rw[wG] at gT wu;have AO:=HX.j.quiet HR.j.on;have c0:=AO.c0;have gh:=(AO.look num oU).1;rw[BF gg,Int.toNat_natCast] at gh;have Cu:=aa gg;have dG:=aa wu
   have iT:Hid (sI w ob (o1,o2) (Zs g M nc) bZ u5 (gd (iF (aX es) bs (bZ.take j)++jl (aX es) num 0) (o1,o2)) wr):=by
    have e:jl (aX es) num 0=[]:=by simp[jl]
    rw[e,List.append_nil];exact HR.j
   have aex:N<=64:=Zo;clear gg wu AO HR nC lO wG oU;go_wp2_with fail
   go_loopw [5,8,9,24] (λv _ _ d wx=>∃k:Nat,d=Zi (k:Int)/\k<=N/\Hid (sI w ob (o1,o2) (Zs g M nc) bZ v (gd (iF (aX es) bs (bZ.take j)++jl (aX es) num k) (o1,o2)) wx)) (λ_ _ _ d _=>N - (RowKit.intOf d).toNat)
   case atStart=>exact⟨0,rfl,Zo,iT⟩
   case round=>
    clear iT c0 gh oa;obtain⟨k,rfl,hk,p7⟩:=hrel;by_cases KV:k<N
    ·have h2:(k:Int)<(N:Int):=Zo;have tI:0<=(k:Int)/\(k:Int)<(N:Int):=Zo;have iY:=Zf k Zo;obtain⟨c0,c1,c2,c3,c4,c5,c6,c7,c8,c9⟩:=(HX.j.quiet p7.j.on).uH Cu.j k h2;have HF:=aa (BG (aX es (num,(k:Int))));have nz:=FV (aX es) num k
     have jw:Hid ((gd (iF (aX es) bs (bZ.take j)++jl (aX es) num k) (o1,o2)).length+1<=10000000):=by
      have h3:=gT.j k hk;rw[Bk.j] at h3;have h4:=cX.j;have h5:=Rr (iF (aX es) bs (bZ.take j)++jl (aX es) num k) (o1,o2);show _+1<=10000000;omega
     unfold AW at nz;generalize hp:aX es (num,(k:Int))=p at c0 c1 c2 c3 c4 c5 c6 c7 c8 c9 HF nz;obtain⟨⟨d0,d1,d2,d3,d4,d5,d6,d7⟩,⟨f0,f1⟩⟩:=p;dsimp only at c0 c1 c2 c3 c4 c5 c6 c7 c8 c9 HF nz;have ir:=aa nz;have gH:Hid (∀o,Zq wr (wr.alloc o)):=λo=>(ae.refl _ wr).alloc o
     obtain⟨pv,cv,iA,_⟩:=p7.j.ow.form;obtain⟨m,hm⟩:=Ze ((gd (iF (aX es) bs (bZ.take j)++jl (aX es) num k) (o1,o2)).length);rw[<-hm] at iA;subst iA;clear hp nz KV hm;by_cases hz:d0=0
     ·subst hz;go_wp2_with fail;refine(HF.j _).m ?_;rintro e w4 ⟨rfl,h4⟩;have H4:=aa ((gH.j (.cells #[Zi 0,Zi d1,Zi d2,Zu d3,Zu d4,Zi d5,Zi d6,Zu d7,Zi f0,Zi f1] 289)).trans h4);clear h4 c0 c1 c2 c3 c4 c5 c6 c7 c8 c9 gH HF;go_wp2_with fail;go_roundw
      case rel=>
       refine⟨k+1,by go_num,Zo,?_⟩;have:=p7.j.quiet H4.j;rw[ir.j]
       first|rw[if_pos rfl,List.append_nil]|rw[if_pos trivial,List.append_nil]
       exact this
      case measure=>exact Zm
     ·have uQ:(d0 !=0)=true:=by simp[hz]
      rw[uQ] at HF;have HZ:=aa hz;go_wp2_with fail;refine(HF.j _).m ?_;rintro e w4 ⟨rfl,h4⟩;have D5:=(gH.j (.cells #[Zi d0,Zi d1,Zi d2,Zu d3,Zu d4,Zi d5,Zi d6,Zu d7,Zi f0,Zi f1] 289)).trans h4
      have uU:w4.heap[wr.heap.size]?=some (.cells #[Zi d0,Zi d1,Zi d2,Zu d3,Zu d4,Zi d5,Zi d6,Zu d7,Zi f0,Zi f1] 289 (0,0)):=by
       have h9:=heap_alloc_last wr (.cells #[Zi d0,Zi d1,Zi d2,Zu d3,Zu d4,Zi d5,Zi d6,Zu d7,Zi f0,Zi f1] 289);rw[h4.block _ (au h9) (λh=>h)];exact h9
      obtain⟨⟨n0,n1,n2,n3,n4,n5,n6,n7,n8,n9⟩,nf⟩:=Pm uU;have dK:=aa (p7.j.quiet D5);have oG:Hid (w.heap.size<=w4.heap.size):=dK.j.on.size;obtain⟨q0,q1⟩:Zc w4 ob 0 (Zi o1)/\Zc w4 ob 1 (Zi o2):=⟨Zl dK.j.o0,Zl dK.j.o0⟩
      clear h4 c0 c1 c2 c3 c4 c5 c6 c7 c8 c9 gH HF uU D5 nf;obtain⟨nb,DM⟩:=Ze (wr.heap.size);rw[<-DM] at n0 n1 n2 n3 n4 n5 n6 n7 n8 n9|-;clear DM;have HH:=aa (ae9 (iF (aX es) bs (bZ.take j)++jl (aX es) num k) [⟨(num,(k:Int)),⟨d0,d1,d2,d3,d4,d5,d6,d7⟩,(f0,f1)⟩] (o1,o2));by_cases e1:d0=o1
      ·subst e1;by_cases e2:d1=o2
       ·subst e2
        have ET:Hid (gd [⟨(num,(k:Int)),⟨d0,d1,d2,d3,d4,d5,d6,d7⟩,(f0,f1)⟩] (d0,d1)=[(num,(k:Int))]):=by
         show(List.map _ (List.filter (Av (d0,d1)) _))=_;rw[List.filter_cons_of_pos (show Av (d0,d1) ⟨(num,(k:Int)),⟨d0,d1,d2,d3,d4,d5,d6,d7⟩,(f0,f1)⟩=true from decide_eq_true ⟨rfl,rfl⟩)];rfl
        go_wp2_with (at_builtin;refine mg XA _ rfl _ _ rfl w.heap.size (.slice pv m cv) _ rfl dK.j.ow (num,(k:Int)) _ _ rfl rfl rfl jw.j oG.j ?_;intro v' w5 bc aP bB;have aG:=aa (dK.j.push bc aP);clear bc aP bB);go_roundw
        case rel=>
         refine⟨k+1,by go_num,Zo,?_⟩;have:=aG.j;rw[ir.j,if_neg HZ.j,<-List.append_assoc,HH.j,ET.j];exact this
        case measure=>exact Zm
       ·have ET:Hid (gd [⟨(num,(k:Int)),⟨d0,d1,d2,d3,d4,d5,d6,d7⟩,(f0,f1)⟩] (d0,o2)=[]):=by
         show(List.map _ (List.filter (Av (d0,o2)) _))=_;rw[List.filter_cons_of_neg (show¬Av (d0,o2) ⟨(num,(k:Int)),⟨d0,d1,d2,d3,d4,d5,d6,d7⟩,(f0,f1)⟩=true from λh=>e2 (of_decide_eq_true h).2)];rfl
        have he:(d1==o2)=false:=beq_eq_false_iff_ne.2 e2;go_wp2_with fail;go_roundw
        case rel=>
         refine⟨k+1,by go_num,Zo,?_⟩;have:=dK.j;rw[ir.j,if_neg HZ.j,<-List.append_assoc,HH.j,ET.j,List.append_nil];exact this
        case measure=>exact Zm
      ·have ET:Hid (gd [⟨(num,(k:Int)),⟨d0,d1,d2,d3,d4,d5,d6,d7⟩,(f0,f1)⟩] (o1,o2)=[]):=by
        show(List.map _ (List.filter (Av (o1,o2)) _))=_;rw[List.filter_cons_of_neg (show¬Av (o1,o2) ⟨(num,(k:Int)),⟨d0,d1,d2,d3,d4,d5,d6,d7⟩,(f0,f1)⟩=true from λh=>e1 (of_decide_eq_true h).1)];rfl
       have he:(d0==o1)=false:=beq_eq_false_iff_ne.2 e1;go_wp2_with fail;go_roundw
       case rel=>
        refine⟨k+1,by go_num,Zo,?_⟩;have:=dK.j;rw[ir.j,if_neg HZ.j,<-List.append_assoc,HH.j,ET.j,List.append_nil];exact this
       case measure=>exact Zm
    ·obtain rfl:k=N:=Zo;have h2:¬(k:Int)<(k:Int):=Zo
     have aG:Hid (sI w ob (o1,o2) (Zs g M nc) bZ u5 (gd (iF (aX es) bs (bZ.take (j+1))) (o1,o2)) wr):=by
      have:=p7.j;rw[<-dG.j] at this;exact this
     clear p7;go_wp2_with fail;go_roundw
     case rel=>exact⟨j+1,by go_num,Zo,aG⟩
     case measure=>exact Zm
  ·obtain rfl:j=M:=Zo;have h1:¬(j:Int)<(j:Int):=Zo
   have eO:Hid (sI w ob (o1,o2) (.slice np j nc) bZ u5 (gd es (o1,o2)) wr):=by
    have:=HR.j;rw[HM.j,List.take_length,Bk.j,<-HM.j] at this;exact this
   clear HR;obtain⟨pv,cv,iA,_⟩:=eO.j.ow.form;generalize (gd es (o1,o2)).length=L at iA;subst iA;go_wp2_with fail;go_ret;exact⟨_,rfl,eO.j.ow,eO.j.on⟩
end
end Go.Proofs.YtphkconoooeidaaGreatDoor

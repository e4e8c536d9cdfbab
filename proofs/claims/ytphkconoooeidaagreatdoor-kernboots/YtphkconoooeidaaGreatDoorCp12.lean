import Derived.Test.YtphkconoooeidaaGreatDoorCp5
set_option maxRecDepth 100000
set_option maxHeartbeats 8000000
set_option linter.unusedVariables false
set_option linter.unusedSimpArgs false
open Go Go.Vx Go.Proofs.Tryz Go.ChangeShapes Go.WideShapes Go.ChangeAt Go.RowKit
namespace Go.Vx
structure Et where
 num:Int
 bT:Int
 prio:Int
 left:Int
 bV:Int
def Et.df:Et:=⟨0,0,0,0,0⟩
def yQ (e:Et):List Value:=[Zi e.num,Zi e.bT,Zi e.prio,Zi e.left,Zi e.bV]
def mH:Lay Et:=⟨yQ,5,λ_=>rfl,λa u hu=>by
 simp only[yQ,List.mem_cons,List.not_mem_nil,or_false] at hu
 rcases hu with rfl|rfl|rfl|rfl|rfl<;>rfl,Zd⟩
def dB (es:List Et) (n:Int):Option Nat:=dq (λe=>decide (e.num=n)) es 0
end Go.Vx
namespace Go.Proofs.YtphkconoooeidaaGreatDoor
section
structure fg (U:Nat->Prop) (w:World) (sb:Nat) (vt vl:Value) (ts:Lp) (t:Nat) (lf:Int) (es:List Et) (ck:Nat):Prop where
 r:w.heap[sb]?=some (.cells #[vt,Zi (t:Int),Zi lf,vl,Zi (ck:Int)] 179 (0,0))
 t':ai aJ w 0 120 vt ts
 l:ai mH w 0 195 vl es
 ur:¬U sb
 ut:∀k,vt.ownBlock=some k->¬U k
 ul:∀k,vl.ownBlock=some k->¬U k
 low:∀k,U k->k<w.heap.size
 nl:es.length<=1000000
variable {U V S:Nat->Prop} {w w2 w3:World} {sb:Nat} {vt vl:Value} {ts:Lp} {t:Nat} {lf:Int} {es:List Et} {ck:Nat}
theorem fg.c1 (h:fg U w sb vt vl ts t lf es ck):w.cell? ⟨sb,1,none⟩=some (Zi (t:Int)):=Zl h.r
theorem fg.c2 (h:fg U w sb vt vl ts t lf es ck):w.cell? ⟨sb,2,none⟩=some (Zi lf):=Zl h.r
theorem fg.c3 (h:fg U w sb vt vl ts t lf es ck):w.cell? ⟨sb,3,none⟩=some vl:=Zl h.r
theorem fg.c4 (h:fg U w sb vt vl ts t lf es ck):w.cell? ⟨sb,4,none⟩=some (Zi (ck:Int)):=Zl h.r
theorem fg.fz (h:fg U w sb vt vl ts t lf es ck) (j:Nat):w.frozen? ⟨sb,j,none⟩=false:=by
 have:=h.r;simp[World.frozen?,this]
theorem fg.step (h:fg U w sb vt vl ts t lf es ck) (ho:ae S w w2) (hS:∀k,k<w.heap.size->S k->U k) (hV:∀k,V k->U k\/(w.heap.size<=k/\k<w2.heap.size)):fg V w2 sb vt vl ts t lf es ck:=by
 have l1:=au h.r
 have hn:∀k,k<w.heap.size->¬U k->¬V k:=λk hk hu hv=>by
  rcases hV k hv with h3|h3
  ·exact hu h3
  ·omega
 refine⟨ae.keep ho h.r (λs=>h.ur (hS _ l1 s)),h.t'.kept ho (λk hk s=>h.ut k hk (hS _ (cH h.t' hk).2 s)),h.l.kept ho (λk hk s=>h.ul k hk (hS _ (cH h.l hk).2 s)),hn _ l1 h.ur,λk hk=>hn _ (cH h.t' hk).2 (h.ut k hk),λk hk=>hn _ (cH h.l hk).2 (h.ul k hk),λk hk=>?_,h.nl⟩;rcases hV k hk with h3|h3
 ·exact Nat.lt_of_lt_of_le (h.low k h3) ho.size
 ·exact h3.2
theorem fg.quiet (h:fg U w sb vt vl ts t lf es ck) (ho:Zq w w2):fg U w2 sb vt vl ts t lf es ck:=h.step ho (λ_ _ h=>h.elim) (λ_ h=>Or.inl h)
structure E5 (w:World) (g k:Nat) (e:Et):Prop where
 c0:w.cell? ⟨g,k*5,none⟩=some (Zi e.num)
 c1:w.cell? ⟨g,k*5+1,none⟩=some (Zi e.bT)
 c2:w.cell? ⟨g,k*5+2,none⟩=some (Zi e.prio)
 c3:w.cell? ⟨g,k*5+3,none⟩=some (Zi e.left)
 c4:w.cell? ⟨g,k*5+4,none⟩=some (Zi e.bV)
theorem PA {base:Nat} {T:TypeId} {v:Value} {xs:List Et} (h:ai mH w base T v xs):∃p c,v=.slice p xs.length c/\∀(k:Nat) (hk:k<xs.length),∃g,p=some ⟨g,0,none⟩/\E5 w g k xs[k]:=by
 obtain⟨p,c,rfl,_,_,hg⟩:=h.form;refine⟨p,c,rfl,λk hk=>?_⟩;obtain⟨g,rfl,_⟩:=hg Zo;exact⟨g,rfl,h.cell k 0 hk Zd,h.cell k 1 hk Zd,h.cell k 2 hk Zd,h.cell k 3 hk Zd,h.cell k 4 hk Zd⟩
theorem Mi (h:fg U w sb vt vl ts t lf es ck) (n:Int):Zk 66 #[Zp sb,Zi n] w λe w'=>Zr e (Zi (ti (dB es n)))/\w'=w:=by
 obtain⟨p,c,rfl,hb⟩:=PA h.l;have c0:=h.c3;have HB:=aa hb;have hn:=h.nl;clear h hb;obtain⟨N,hN⟩:=Ze (es.length);have HN:=aa hN;rw[<-hN] at c0 hn;clear hN;go_enter func66,ntmps66;go_wp2_with fail
 go_loopw [5] (λd wr=>∃k:Nat,d=Zi (k:Int)/\k<=N/\Hid (dq (λb:Et=>decide (b.num=n)) (es.drop k) k=dB es n)/\wr=w) (λd _=>N - (RowKit.intOf d).toNat)
 case atStart=>exact⟨0,rfl,Zo,(show dq _ (es.drop 0) 0=_ from by rw[List.drop_zero];rfl),rfl⟩
 case round=>
  obtain⟨k,rfl,hk,HQ,rfl⟩:=hrel;by_cases ah:k<N
  ·have bq:k<es.length:=by have:=HN.j;omega
   have h1:(k:Int)<(N:Int):=Zo;have bf:0<=(k:Int)/\(k:Int)<(N:Int):=Zo;have iY:=Zf k Zo;obtain⟨g,rfl,hg⟩:=HB.j k bq;have b0:=hg.c0;have hq:=HQ.j;rw[Aa es k bq] at hq;by_cases he:es[k].num=n
   ·rw[if_pos (decide_eq_true he)] at hq;have HE:=aa hq;rw[he] at b0;clear hq ah HQ he hg;go_wp2_with fail
    all_goals
     go_ret;exact⟨by rw[<-HE.j];rfl,rfl⟩
   ·rw[if_neg (by simpa using he)] at hq;have HE:=aa hq;have gm:(es[k].num==n)=false:=by simpa using he
    clear hg;generalize es[k].num=m at b0 he gm;clear hq ah HQ;go_wp2_with fail;go_roundw
    case rel=>exact⟨k+1,by go_num,Zo,HE,trivial⟩
    case measure=>exact Zm
  ·obtain rfl:k=N:=Zo;have hq:=HQ.j;rw[HN.j,Ab] at hq;have HE:=aa hq;have h1:¬(k:Int)<(k:Int):=Zo;clear hq ah HQ;go_wp2_with fail
   all_goals
    go_ret;exact⟨by rw[<-HE.j];rfl,rfl⟩
theorem W8 (h:fg U w sb vt vl ts t lf es ck):Zk 33 #[Zp sb] w λe w'=>Zr e (.tuple #[Zi (t:Int),Zi lf])/\Zq w w':=by
 have c1:=h.c1;have c2:=h.c2;clear h;go_enter func33,ntmps33;go_wp2_with fail;go_quiet (fail);go_wp2_with fail
 all_goals
  go_ret2;exact⟨rfl,(ae.refl _ _).drewN _⟩
end
section
variable {U V S:Nat->Prop} {w w2 w3:World} {sb:Nat} {vt vl:Value} {ts:Lp} {t:Nat} {lf:Int} {es:List Et} {ck:Nat}
theorem BB {base g m c:Nat} {T:TypeId} {xs:List Et} (h:ai mH w base T (Zs g m c) xs) (hm:m=xs.length) (k:Nat) (hk:k<xs.length) (j:Nat) (hj:j<5) (y:Int) (e':Et) (he:yQ e'=(yQ xs[k]).set j (Zi y)):
  ai mH (w.setCell ⟨g,k*5+j,none⟩ (Zi y)) base T (Zs g m c) (xs.set k e')/\ae (λb=>b=g) w (w.setCell ⟨g,k*5+j,none⟩ (Zi y)):=by
 subst hm;have h0:=(World.ownsRow.stored h (k*5+j) (Zi y)).1;refine⟨?_,ae.setCell (S:=λb=>b=g) (ae.refl _ w) (Or.inl rfl) _⟩;have hs:mH.sz=5:=rfl;have hlen:(fl mH xs).length=xs.length*5:=j8 mH xs
 have hz:(fl mH xs).set (k*5+j) (Zi y)=fl mH (xs.set k e'):=by
  refine AT mH xs k e' hk _ (by simp) (λi hi=>?_) (λi hi=>?_)
  ·have tJ:i<5:=hi;have h1:=vh mH xs k i hk hi;have h2:(yQ xs[k]).length=5:=rfl;rw[hs] at h1|-;show _=(yQ e')[i]?;rw[he,List.getElem?_set,List.getElem?_set,h2];by_cases lj:j=i
   ·subst lj;rw[if_pos rfl,if_pos rfl,if_pos (by rw[hlen];omega),if_pos hj]
   ·rw[if_neg Zo,if_neg lj,h1];rfl
  ·rw[hs] at hi;rw[List.getElem?_set,if_neg Zo]
 rw[hz] at h0;show World.ownsRow _ _ _ _ _ (xs.set k e').length _;rw[List.length_set];exact h0
def A6 (U:Nat->Prop) (w:World) (sb:Nat) (ts:Lp) (t:Nat) (lf:Int) (es:List Et) (ck:Nat):Prop:=∃vt vl,fg U w sb vt vl ts t lf es ck
theorem fg.cK {g m c:Nat} (h:fg U w sb vt (Zs g m c) ts t lf es ck) (hm:m=es.length) (k:Nat) (hk:k<es.length) (j:Nat) (hj:j<5) (y:Int) (e':Et) (he:yQ e'=(yQ es[k]).set j (Zi y)):
  fg U (w.setCell ⟨g,k*5+j,none⟩ (Zi y)) sb vt (Zs g m c) ts t lf (es.set k e') ck/\Zn U w (w.setCell ⟨g,k*5+j,none⟩ (Zi y)):=by
 obtain⟨h1,ho⟩:=BB h.l hm k hk j hj y e' he;obtain⟨cur,hc⟩:=bu h.l (k:=g) rfl;have Kr:¬U g:=h.ul g rfl;refine⟨⟨ae.keep ho h.r (λe=>cE hc h.r Zd e.symm),h.t'.kept ho (λj hj e=>?_),h1,h.ur,h.ut,h.ul,λk hu=>Nat.lt_of_lt_of_le (h.low k hu) ho.size,by rw[List.length_set];exact h.nl⟩,ho.mono (λj _ hj=>by subst hj;exact Kr)⟩;obtain⟨lx,bH⟩:=bu h.t' hj;exact cE hc bH Zd e.symm
theorem fg.ZO (h:fg U w sb vt vl ts t lf es ck) (c2:Nat):fg U (w.setCell ⟨sb,4,none⟩ (Zi (c2:Int))) sb vt vl ts t lf es c2/\Zn U w (w.setCell ⟨sb,4,none⟩ (Zi (c2:Int))):=by
 have ho:ae (λb=>b=sb) w (w.setCell ⟨sb,4,none⟩ (Zi (c2:Int))):=ae.setCell (S:=λb=>b=sb) (ae.refl _ w) (Or.inl rfl) _
 have hr:(w.setCell ⟨sb,4,none⟩ (Zi (c2:Int))).heap[sb]?=some (.cells #[vt,Zi (t:Int),Zi lf,vl,Zi (c2:Int)] 179 (0,0)):=by
  rw[heap_setCell_same _ _ 4 _ _ (Zi (c2:Int)) h.r];rfl
 refine⟨⟨hr,h.t'.kept ho (λj hj e=>?_),h.l.kept ho (λj hj e=>?_),h.ur,h.ut,h.ul,λk hu=>Nat.lt_of_lt_of_le (h.low k hu) ho.size,h.nl⟩,ho.mono (λj _ hj=>by subst hj;exact h.ur)⟩
 ·obtain⟨lx,bH⟩:=bu h.t' hj;exact cE h.r bH Zd e.symm
 ·obtain⟨lx,bH⟩:=bu h.l hj;exact cE h.r bH Zd e.symm
def iM (ck:Nat) (e:Et):Et:={e with left:=5,bV:=(ck:Int)+1}
theorem fg.Ht (h:fg U w sb vt vl ts t lf es ck) (hn:0<es.length):∃g c,vl=Zs g es.length c:=by
 obtain⟨p,c,rfl,_,_,hg⟩:=h.l.form;obtain⟨g,rfl,_⟩:=hg hn;exact⟨g,c,rfl⟩
theorem fg.e5 {g m c:Nat} (h:fg U w sb vt (Zs g m c) ts t lf es ck) (k:Nat) (hk:k<es.length):E5 w g k es[k]:=
 ⟨h.l.cell k 0 hk Zd,h.l.cell k 1 hk Zd,h.l.cell k 2 hk Zd,h.l.cell k 3 hk Zd,h.l.cell k 4 hk Zd⟩
theorem Xz (h:fg U w sb vt vl ts t lf es ck) (i:Nat) (hi:i<es.length) (He:ck<1000000000000):Zk 179 #[Zp sb,Zi (i:Int)] w λe w'=>(∃v,Zr e v)/\A6 U w' sb ts t lf (es.set i (iM ck es[i])) (ck+1)/\Zn U w w':=by
 obtain⟨g,c,rfl⟩:=h.Ht Zo;obtain⟨N,hN⟩:=Ze (es.length);rw[<-hN] at h;have bf:0<=(i:Int)/\(i:Int)<(N:Int):=Zo;have jU:=Zf ck Zo;have c4:=h.c4;have f4:=h.fz 4;obtain⟨h1,o1⟩:=h.ZO (ck+1);have e9:((ck+1:Nat):Int)=(ck:Int)+1:=Zo;rw[e9] at h1 o1;obtain⟨w1,ag⟩:=Ze (w.setCell ⟨sb,4,none⟩ (Zi ((ck:Int)+1)));rw[<-ag] at h1 o1;have d3:=h1.c3;have d4:=h1.c4;rw[e9] at d4;obtain⟨x4,q4⟩:∃x,w1.cell? ⟨g,i*5+4,none⟩=some x:=⟨_,(h1.e5 i hi).c4⟩
 have z4:=h1.l.fz (i*5+4);obtain⟨SJ,PJ⟩:=h1.cK hN i hi 4 Zd ((ck:Int)+1) {es[i] with bV:=(ck:Int)+1} rfl;have h2:=SJ.quiet ((ae.refl (λ_=>False) _).drew);have o2:=PJ.trans (((ae.refl (λ_=>False) (w1.setCell ⟨g,i*5+4,none⟩ (Zi ((ck:Int)+1)))).drew).f);have gj:i<(es.set i {es[i] with bV:=(ck:Int)+1}).length:=by rw[List.length_set];exact hi
 have Sv:N=(es.set i {es[i] with bV:=(ck:Int)+1}).length:=by rw[List.length_set];exact hN
 obtain⟨w2,aT⟩:=Ze ((w1.setCell ⟨g,i*5+4,none⟩ (Zi ((ck:Int)+1))).drew);rw[<-aT] at h2 o2;have k3:=h2.c3;obtain⟨x3,q3⟩:∃x,w2.cell? ⟨g,i*5+3,none⟩=some x:=⟨_,(h2.e5 i gj).c3⟩
 have z3:=h2.l.fz (i*5+3);obtain⟨h3,o3⟩:=h2.cK Sv i gj 3 Zd 5 (iM ck es[i]) (by rw[List.getElem_set_self];rfl);rw[List.set_set] at h3;have HF:Hid (A6 U (w2.setCell ⟨g,i*5+3,none⟩ (Zi 5)) sb ts t lf (es.set i (iM ck es[i])) (ck+1)/\Zn U w (w2.setCell ⟨g,i*5+3,none⟩ (Zi 5))):=⟨⟨_,_,h3⟩,(o1.trans o2).trans o3⟩
 clear h h1 h2 SJ h3 o1 o2 PJ o3 e9 gj Sv hN He;go_enter func179,ntmps179;go_upto_region 1 with fail
 rw[<-ag];clear ag c4 f4
 go_region
 all_goals
  rw[<-aT];clear aT;go_wp2_with fail;go_end0;exact⟨⟨_,rfl⟩,HF.j.1,HF.j.2⟩
end
section
variable {U V S:Nat->Prop} {w w2 w3:World} {sb:Nat} {vt vl:Value} {ts:Lp} {t:Nat} {lf:Int} {es:List Et} {ck:Nat}
theorem wX {n:Int} {i:Nat} (h:dB es n=some i):∃hi:i<es.length,es[i].num=n:=by
 obtain⟨hl,hp⟩:=uP h;have e:i - 0=i:=Nat.sub_zero i;simp only[e] at hl hp;exact⟨hl,of_decide_eq_true hp⟩
def fq (es:List Et) (n:Int):Int:=match dB es n with|none=>6|some i=>if 0<(es.getD i .df).bV then 16 else 0
def agj (es:List Et) (n:Int):Int:=match dB es n with|none=>6|some i=>if (es.getD i .df).bV=0 then 16 else 0
def kZ (es:List Et) (ck:Nat) (n:Int):List Et:=match dB es n with|none=>es|some i=>es.set i (iM ck (es.getD i .df))
def ahm (es:List Et) (n:Int):List Et:=match dB es n with|none=>es|some i=>es.set i {es.getD i .df with left:=0,bV:=0}
theorem kK {k:Nat} (hk:k<es.length):es.getD k .df=es[k]:=by simp[List.getD_eq_getElem?_getD,hk]
theorem Xm (h:fg U w sb vt vl ts t lf es ck) (He:ck<1000000000000) (n:Int):Zk 124 #[Zp sb,Zi n] w λe w'=>Zr e (Zi (fq es n))/\A6 U w' sb ts t lf (if fq es n=0 then kZ es ck n else es) (if fq es n=0 then ck+1 else ck)/\Zn U w w':=by
 have pD:=aa (Mi h n);have HH:=aa h
 cases hi:dB es n with
 |none=>
  have e1:fq es n=6:=by unfold fq;rw[hi]
  rw[hi] at pD;rw[e1];clear h hi e1;go_enter func124,ntmps124;go_wp2_with fail;refine pD.j.e1 ?_;go_wp2_with fail
  all_goals
   go_ret
   exact⟨rfl,⟨_,_,HH.j⟩,ae.refl _ _⟩
 |some i=>
  obtain⟨hl,hE⟩:=wX hi;rw[hi] at pD;have bG:=aa (Xz h i hl He);obtain⟨g,c,rfl⟩:=h.Ht Zo;have c3:=h.c3;obtain⟨N,hN⟩:=Ze (es.length);rw[<-hN] at c3;have bf:0<=(i:Int)/\(i:Int)<(N:Int):=Zo;have G0:¬(i:Int)<0:=Zo;have b4:=(h.e5 i hl).c4;have e1:fq es n=if 0<es[i].bV then 16 else 0:=by unfold fq;rw[hi];dsimp only;rw[kK hl]
  have e2:kZ es ck n=es.set i (iM ck es[i]):=by unfold kZ;rw[hi];dsimp only;rw[kK hl]
  rw[e1,e2];generalize es.set i (iM ck es[i])=es9 at bG|-;generalize es[i].bV=c0 at b4|-;have UC:Hid (Zk 66 #[Zp sb,Zi n] w λe w'=>Zr e (Zi (i:Int))/\w'=w):=pD.j;clear h hi e1 e2 hE hl He hN pD;by_cases hc:0<c0
  ·rw[if_pos hc,if_neg Zd,if_neg Zd];go_enter func124,ntmps124;go_wp2_with fail;refine UC.j.e1 ?_;go_wp2_with fail
   all_goals
    go_ret;exact⟨rfl,⟨_,_,HH.j⟩,ae.refl _ _⟩
  ·rw[if_neg hc,if_pos rfl,if_pos rfl];go_enter func124,ntmps124;go_wp2_with fail;refine UC.j.e1 ?_;go_wp2_with fail;refine bG.j.m ?_;rintro e w3 ⟨⟨v,rfl⟩,hx,ho⟩;have HF:=aa (⟨hx,ho⟩:_/\_);clear hx ho b4 c3;go_wp2_with fail
   all_goals
    go_ret;exact⟨rfl,HF.j.1,HF.j.2⟩
end
section
variable {U V S:Nat->Prop} {w w2 w3:World} {sb:Nat} {vt vl:Value} {ts:Lp} {t:Nat} {lf:Int} {es:List Et} {ck:Nat}
theorem Ta (h:fg U w sb vt vl ts t lf es ck) {n:Int} (hi:dB es n=none):Zk 66 #[Zp sb,Zi n] w λe w'=>Zr e (Zi (-1))/\w'=w:=by
 have:=Mi h n;rw[hi] at this;exact this
theorem S9 (h:fg U w sb vt vl ts t lf es ck) {n:Int} {i:Nat} (hi:dB es n=some i):Zk 66 #[Zp sb,Zi n] w λe w'=>Zr e (Zi (i:Int))/\w'=w:=by
 have:=Mi h n;rw[hi] at this;exact this
def agF (es:List Et) (n p:Int):Int:=match dB es n with|none=>6|some _=>if p<0\/7<p then 1 else 0
def agE (es:List Et) (ck:Nat) (n p:Int):List Et:=match dB es n with|none=>es|some i=>es.set i (if 0<(es.getD i .df).bV then iM ck {es.getD i .df with prio:=p} else {es.getD i .df with prio:=p})
def agG (es:List Et) (ck:Nat) (n:Int):Nat:=match dB es n with|none=>ck|some i=>if 0<(es.getD i .df).bV then ck+1 else ck
def eU (es:List Et) (n:Int):Int×Int×Int×Int:=match dB es n with|none=>(0,0,0,6)|some i=>((es.getD i .df).bT,(es.getD i .df).prio,(es.getD i .df).left,0)
theorem Xy (h:fg U w sb vt vl ts t lf es ck) (n:Int):Zk 71 #[Zp sb,Zi n] w λe w'=>Zr e (.tuple #[Zi (eU es n).1,Zi (eU es n).2.1,Zi (eU es n).2.2.1,Zi (eU es n).2.2.2])/\Zq w w':=by
 cases hi:dB es n with
 |none=>
  have pD:=aa (Ta h hi);have e1:eU es n=(0,0,0,6):=by unfold eU;rw[hi]
  rw[e1];clear h hi e1;go_enter func71,ntmps71;go_wp2_with fail;refine pD.j.e1 ?_;go_wp2_with fail;refine bodyPost_ret (v:=.tuple #[Zi 0,Zi 0,Zi 0,Zi 6]) ?_ rfl ⟨rfl,ae.refl _ _⟩
  simp[results,results71,go_sem]
 |some i=>
  obtain⟨hl,hE⟩:=wX hi;have pD:=aa (S9 h hi);have e1:eU es n=(es[i].bT,es[i].prio,es[i].left,0):=by unfold eU;rw[hi];dsimp only;rw[kK hl]
  rw[e1];obtain⟨g,c,rfl⟩:=h.Ht Zo;obtain⟨N,hN⟩:=Ze (es.length);rw[<-hN] at h;have c3:=h.c3;have bf:0<=(i:Int)/\(i:Int)<(N:Int):=Zo;have G0:¬(i:Int)<0:=Zo;have b1:=(h.e5 i hl).c1;have b2:=(h.e5 i hl).c2;have b3:=(h.e5 i hl).c3;generalize es[i]=x at b1 b2 b3|-;obtain⟨x0,x1,x2,x3,x4⟩:=x;dsimp only at b1 b2 b3|-;clear h hi e1 hE hl hN;go_enter func71,ntmps71;go_wp2_with fail;refine pD.j.e1 ?_;go_wp2_with fail;go_quiet (fail);go_wp2_with fail;refine bodyPost_ret (v:=.tuple #[Zi x1,Zi x2,Zi x3,Zi 0]) ?_ rfl ⟨rfl,(ae.refl _ _).drewN _⟩;simp[results,results71,go_sem]
end
section
variable {U V S:Nat->Prop} {w w2 w3:World} {sb:Nat} {vt vl:Value} {ts:Lp} {t:Nat} {lf:Int} {es:List Et} {ck:Nat}
theorem Te:Kind prog mH 177 195:=kG (z:=.agg #[Zi 0,Zi 0,Zi 0,Zi 0,Zi 0]) (b:=40) underlying177 Zx rfl Zd
theorem fg.eY {w3:World} {v':Value} {kP:List Et} (h:fg U w sb vt vl ts t lf es ck) (ho:ai mH w3 0 195 v' kP) (ay:ae (λk=>vl.ownBlock=some k) w w3) (hl:∀k,v'.ownBlock=some k->vl.ownBlock=some k\/w.heap.size<=k) (hn:kP.length<=1000000):
  (∃x,w3.cell? ⟨sb,3,none⟩=some x)/\w3.frozen? ⟨sb,3,none⟩=false/\fg U (w3.setCell ⟨sb,3,none⟩ v') sb vt v' ts t lf kP ck/\Zn U w (w3.setCell ⟨sb,3,none⟩ v'):=by
 have n1:∀k,vl.ownBlock=some k->k≠sb:=λk hk=>by
  obtain⟨cur,hc⟩:=bu h.l hk;exact cE hc h.r Zd
 have n2:∀k j,vl.ownBlock=some k->vt.ownBlock=some j->k≠j:=λk j hk hj=>by
  obtain⟨cur,hc⟩:=bu h.l hk;obtain⟨lx,bH⟩:=bu h.t' hj;exact cE hc bH Zd
 have n3:∀j,vt.ownBlock=some j->j≠sb:=λj hj=>by
  obtain⟨lx,bH⟩:=bu h.t' hj;exact cE bH h.r Zd
 have gP:w3.heap[sb]?=some (.cells #[vt,Zi (t:Int),Zi lf,vl,Zi (ck:Int)] 179 (0,0)):=by rw[ay.block sb (au h.r) (λe=>n1 sb e rfl)];exact h.r
 have tE:∀k,v'.ownBlock=some k->k≠sb:=λk hk=>by
  obtain⟨cur,hc⟩:=bu ho hk;exact cE hc gP Zd
 have hs:ae (λk=>k=sb) w3 (w3.setCell ⟨sb,3,none⟩ v'):=ae.setCell (S:=λk=>k=sb) (ae.refl _ w3) (Or.inl rfl) _;have rK:ai aJ w3 0 120 vt ts:=h.t'.kept ay (λk hk e=>n2 k k e hk rfl);refine⟨⟨vl,Zl gP⟩,by simp[World.frozen?,gP],⟨?_,rK.kept hs (λk hk e=>n3 k hk e),ho.kept hs tE,h.ur,h.ut,?_,λk hk=>Nat.lt_of_lt_of_le (h.low k hk) (Nat.le_trans ay.size hs.size),hn⟩,?_⟩
 ·rw[heap_setCell_same _ _ 3 _ _ v' gP];rfl
 ·intro k hk;rcases hl k hk with hl|hl
  ·exact h.ul k hl
  ·intro hu;have:=h.low k hu;omega
 ·refine(ay.mono (λk _ hk=>h.ul k hk)).trans ?_;exact hs.mono (λk _ hk=>by subst hk;exact h.ur)
def fj (es:List Et) (n d p:Int):Int:=if n<0\/d<0\/7<d\/p<0\/7<p then 1 else if (dB es n).isSome=true then 7 else 0
def bU (es:List Et) (n d p:Int):List Et:=if fj es n d p=0 then es++[⟨n,d,p,0,0⟩] else es
theorem XV (h:fg U w sb vt vl ts t lf es ck) (G3:es.length<1000000) (n d p:Int):Zk 19 #[Zp sb,Zi n,Zi d,Zi p] w λe w'=>Zr e (Zi (fj es n d p))/\A6 U w' sb ts t lf (bU es n d p) ck/\Zn U w w':=by
 have HH:=aa h;by_cases a1:n<0
 ·have e1:fj es n d p=1:=if_pos Zo;have e2:bU es n d p=es:=if_neg (by rw[e1];decide);rw[e1,e2];clear h e1 e2;go_enter func19,ntmps19;go_wp2_with fail
  all_goals
   go_ret;exact⟨rfl,⟨_,_,HH.j⟩,ae.refl _ _⟩
 ·by_cases a2:d<0
  ·have e1:fj es n d p=1:=if_pos Zo;have e2:bU es n d p=es:=if_neg (by rw[e1];decide);rw[e1,e2];clear h e1 e2;go_enter func19,ntmps19;go_wp2_with fail
   all_goals
    go_ret;exact⟨rfl,⟨_,_,HH.j⟩,ae.refl _ _⟩
  ·by_cases a3:7<d
   ·have e1:fj es n d p=1:=if_pos Zo;have e2:bU es n d p=es:=if_neg (by rw[e1];decide);rw[e1,e2];clear h e1 e2;go_enter func19,ntmps19;go_wp2_with fail
    all_goals
     go_ret;exact⟨rfl,⟨_,_,HH.j⟩,ae.refl _ _⟩
   ·by_cases a4:p<0
    ·have e1:fj es n d p=1:=if_pos Zo;have e2:bU es n d p=es:=if_neg (by rw[e1];decide);rw[e1,e2];clear h e1 e2;go_enter func19,ntmps19;go_wp2_with fail
     all_goals
      go_ret;exact⟨rfl,⟨_,_,HH.j⟩,ae.refl _ _⟩
    ·by_cases a5:7<p
     ·have e1:fj es n d p=1:=if_pos Zo;have e2:bU es n d p=es:=if_neg (by rw[e1];decide);rw[e1,e2];clear h e1 e2;go_enter func19,ntmps19;go_wp2_with fail
      all_goals
       go_ret;exact⟨rfl,⟨_,_,HH.j⟩,ae.refl _ _⟩
     ·have hc:¬(n<0\/d<0\/7<d\/p<0\/7<p):=Zo
      cases hi:dB es n with
      |some i=>
       have pD:=aa (S9 h hi);have e1:fj es n d p=7:=by unfold fj;rw[if_neg hc,hi];rfl
       have e2:bU es n d p=es:=if_neg (by rw[e1];decide);have DV:0<=(i:Int):=Zo;rw[e1,e2];clear h e1 e2 hi hc;go_enter func19,ntmps19;go_wp2_with fail;refine pD.j.e1 ?_;go_wp2_with fail
       all_goals
        go_ret
        exact⟨rfl,⟨_,_,HH.j⟩,ae.refl _ _⟩
      |none=>
       have pD:=aa (Ta h hi);have e1:fj es n d p=0:=by unfold fj;rw[if_neg hc,hi];rfl
       have e2:bU es n d p=es++[⟨n,d,p,0,0⟩]:=if_pos e1;rw[e1,e2];obtain⟨q,c,oS,_⟩:=h.l.form;obtain⟨N,hN⟩:=Ze (es.length);rw[<-hN] at oS;subst oS;have c3:=h.c3;have oD:Hid (es.length+1<=10000000):=by show _<=_;omega
       have lD:Hid ((es++[(⟨n,d,p,0,0⟩:Et)]).length<=1000000):=by show _<=_;rw[List.length_append,List.length_singleton];omega
       clear h e1 e2 hi hc hN;go_enter func19,ntmps19;go_wp2_with fail;refine pD.j.e1 ?_;go_wp2_with (at_builtin;refine mg Te _ rfl _ _ rfl 0 (.slice q N c) _ rfl HH.j.l ⟨n,d,p,0,0⟩ _ _ rfl rfl rfl oD.j (Nat.zero_le _) ?_;intro v' w8 bc aP bB;obtain⟨pz,cz,ka,_⟩:=bc.form;generalize (es++[(⟨n,d,p,0,0⟩:Et)]).length=mz at ka;subst ka;obtain⟨⟨qx,q1⟩,q2,q3,q4⟩:=HH.j.eY bc aP (uM bB) lD.j;have HF:=aa (⟨q3,q4⟩:_/\_);clear bc aP bB q3 q4)
       all_goals
        go_ret;exact⟨rfl,⟨_,_,HF.j.1⟩,HF.j.2⟩
end
end Go.Proofs.YtphkconoooeidaaGreatDoor
namespace Go.Vx
def afF (es:List Et) (d:Int) (b:Option Nat) (i:Nat):Option Nat:=
 if (es.getD i .df).bT≠d\/(es.getD i .df).bV=0 then b else match b with
 |none=>some i
 |some j=>if (es.getD j .df).prio<(es.getD i .df).prio\/((es.getD i .df).prio=(es.getD j .df).prio/\(es.getD i .df).bV<(es.getD j .df).bV) then some i else some j
def TI (es:List Et) (d:Int):Nat->Option Nat
 |0=>none
 |k+1=>afF es d (TI es d k) k
def Mw (es:List Et) (d:Int):Option Nat:=TI es d es.length
end Go.Vx
namespace Go.Proofs.YtphkconoooeidaaGreatDoor
section
variable {U V S:Nat->Prop} {w w2 w3:World} {sb:Nat} {vt vl:Value} {ts:Lp} {t:Nat} {lf:Int} {es:List Et} {ck:Nat}
end
end Go.Proofs.YtphkconoooeidaaGreatDoor
namespace Go.Vx
def Wv (ts:Lp) (t:Nat) (lf:Int):Nat:=if lf=0 then (t+1) % ts.length else t
def ago (ts:Lp) (t:Nat) (lf:Int):Int:=(if lf=0 then (ts.getD ((t+1) % ts.length) (0,0)).2 else lf) - 1
def agp (ts:Lp) (t:Nat) (lf:Int):Int:=(ts.getD (Wv ts t lf) (0,0)).1
def Qd (e:Et):Et:={e with left:=e.left - 1}
end Go.Vx
namespace Go.Proofs.YtphkconoooeidaaGreatDoor
section
variable {U V S:Nat->Prop} {w w2 w3:World} {sb:Nat} {vt vl:Value} {ts:Lp} {t:Nat} {lf:Int} {es:List Et} {ck:Nat}
def agL (es:List Et) (ck:Nat) (d:Int):List Et×Nat×Int:=match Mw es d with
 |none=>(es,ck, -1)
 |some i=>if (es.getD i .df).left=0 then match Mw (es.set i (iM ck (es.getD i .df))) d with
   |none=>(es.set i (iM ck (es.getD i .df)),ck+1, -1)
   |some j=>((es.set i (iM ck (es.getD i .df))).set j (Qd ((es.set i (iM ck (es.getD i .df))).getD j .df)),ck+1,((es.set i (iM ck (es.getD i .df))).getD j .df).num)
  else (es.set i (Qd (es.getD i .df)),ck,(es.getD i .df).num)
end
section
variable {U V S:Nat->Prop} {w w2 w3:World} {sb:Nat} {vt vl:Value} {ts:Lp} {t:Nat} {lf:Int} {es:List Et} {ck:Nat}
def agz (es:List Et) (n:Int):Int:=match dB es n with|none=>6|some _=>0
def agy (es:List Et) (n:Int):List Et:=match dB es n with|none=>es|some i=>es.take i++es.drop (i+1)
end
section
variable {es:List Et} {ck:Nat}
def InD (d:Int) (e:Et):Prop:=e.bT=d/\e.bV≠0
def Fst (e f:Et):Prop:=f.prio<e.prio\/(f.prio=e.prio/\e.bV<=f.bV)
structure ku (es:List Et) (ck:Nat):Prop where
 nd:(es.map (·.num)).Nodup
 ok:∀e∈es,0<=e.num/\0<=e.bT/\e.bT<=7/\0<=e.prio/\e.prio<=7/\0<=e.left/\e.left<=5/\0<=e.bV/\e.bV<=(ck:Int)/\(e.bV=0->e.left=0)
 cd:∀e∈es,∀f∈es,e.bV=f.bV->e.bV≠0->e=f
 qf:∀e∈es,∀f∈es,e.bT=f.bT->e.prio=f.prio->e.bV≠0->e.bV<f.bV->f.left=5
theorem ku.nil:ku [] 0:=⟨List.nodup_nil,(λ_ h=>by cases h),(λ_ h=>by cases h),(λ_ h=>by cases h)⟩
theorem yc {k:Nat} {y e:Et} (hk:k<es.length) (h:e∈es.set k y):e=y\/(e∈es/\∃j,∃hj:j<es.length,j≠k/\es[j]=e):=by
 obtain⟨j,hj,rfl⟩:=List.getElem_of_mem h;have wJ:j<es.length:=by simpa using hj
 rw[List.getElem_set];by_cases he:k=j
 ·rw[if_pos he];exact Or.inl rfl
 ·rw[if_neg he];exact Or.inr ⟨List.getElem_mem wJ,j,wJ,λe2=>he e2.symm,rfl⟩
theorem aaZ (hn:(es.map (·.num)).Nodup) {j k:Nat} (hj:j<es.length) (hk:k<es.length) (h:j≠k):es[j].num≠es[k].num:=λhe=>by
 have h1:=List.pairwise_iff_getElem.1 hn;rcases Nat.lt_or_gt_of_ne h with h2|h2
 ·exact h1 j k (by simpa using hj) (by simpa using hk) h2 (by rw[List.getElem_map,List.getElem_map];exact he)
 ·exact h1 k j (by simpa using hk) (by simpa using hj) h2 (by rw[List.getElem_map,List.getElem_map];exact he.symm)
theorem XG {k:Nat} {y:Et} (hk:k<es.length) (h:y.num=es[k].num):(es.set k y).map (·.num)=es.map (·.num):=by
 apply List.ext_getElem
 ·simp
 ·intro j h1 h2;rw[List.getElem_map,List.getElem_map,List.getElem_set]
  split
  ·rename_i e;subst e;exact h
  ·rfl
theorem ku.add (h:ku es ck) (n d p:Int):ku (bU es n d p) ck:=by
 unfold bU;by_cases he:fj es n d p=0
 ·rw[if_pos he];unfold fj at he;by_cases h1:n<0\/d<0\/7<d\/p<0\/7<p
  ·rw[if_pos h1] at he;cases he
  rw[if_neg h1] at he
  have hf:dB es n=none:=by
   cases hi:dB es n with
   |none=>rfl
   |some i=>rw[hi] at he;cases he
  have eH:∀e∈es,e.num≠n:=λe gm h9=>by
   have:=mu hf e gm;simp[h9] at this
  refine⟨?_,λe hm=>?_,λe hm f bE hc hz=>?_,λe hm f bE h3 h4 h5 h6=>?_⟩
  ·rw[List.map_append,List.nodup_append];refine⟨h.nd,by simp,λa ha b hb=>?_⟩;obtain⟨e,rK,rfl⟩:=List.mem_map.1 ha;simp only[List.map_cons,List.map_nil,List.mem_singleton] at hb;rw[hb];exact eH e rK
  ·rcases List.mem_append.1 hm with hm|hm
   ·exact h.ok e hm
   ·rw[List.mem_singleton] at hm;subst hm;exact⟨by show 0<=n;omega,by show 0<=d;omega,by show d<=7;omega,by show 0<=p;omega,by show p<=7;omega,by show(0:Int)<=0;omega,by show(0:Int)<=5;omega,by show(0:Int)<=0;omega,by show(0:Int)<=(ck:Int);omega,λ_=>rfl⟩
  ·rcases List.mem_append.1 hm with hm|hm
   ·rcases List.mem_append.1 bE with bE|bE
    ·exact h.cd e hm f bE hc hz
    ·rw[List.mem_singleton] at bE;subst bE;exact absurd hc hz
   ·rw[List.mem_singleton] at hm;subst hm;exact absurd rfl hz
  ·rcases List.mem_append.1 hm with hm|hm
   ·rcases List.mem_append.1 bE with bE|bE
    ·exact h.qf e hm f bE h3 h4 h5 h6
    ·rw[List.mem_singleton] at bE;subst bE;have:=(h.ok e hm).2.2.2.2.2.2.2.1;simp only at h6;omega
   ·rw[List.mem_singleton] at hm;subst hm;exact absurd rfl h5
 ·rw[if_neg he];exact h
theorem ku.put (h:ku es ck) {k:Nat} (hk:k<es.length) (p:Int) (hp:0<=p/\p<=7):ku (es.set k (iM ck {es[k] with prio:=p})) (ck+1):=by
 have oX:=h.ok _ (List.getElem_mem hk);have ew:((ck+1:Nat):Int)=(ck:Int)+1:=Zo;refine⟨by rw[XG (y:=iM ck {es[k] with prio:=p}) hk rfl];exact h.nd,λe hm=>?_,λe hm f bE hc hz=>?_,λe hm f bE h3 h4 h5 h6=>?_⟩
 ·rcases yc hk hm with rfl|⟨hm,_⟩
  ·unfold iM;simp only;rw[ew];omega
  ·have:=h.ok e hm;rw[ew];omega
 ·rcases yc hk hm with rfl|⟨hm,_⟩
  ·rcases yc hk bE with rfl|⟨bE,_⟩
   ·rfl
   ·have:=h.ok f bE;unfold iM at hc;simp only at hc;omega
  ·rcases yc hk bE with rfl|⟨bE,_⟩
   ·have:=h.ok e hm;unfold iM at hc;simp only at hc;omega
   ·exact h.cd e hm f bE hc hz
 ·rcases yc hk bE with rfl|⟨bE,_⟩
  ·rfl
  ·rcases yc hk hm with rfl|⟨hm,_⟩
   ·have:=h.ok f bE;unfold iM at h6;simp only at h6;omega
   ·exact h.qf e hm f bE h3 h4 h5 h6
end
section
variable {es:List Et} {ck:Nat}
theorem ku.last (h:ku es ck) (n:Int):ku (kZ es ck n) (if (dB es n).isSome then ck+1 else ck):=by
 unfold kZ
 cases hi:dB es n with
 |none=>exact h
 |some i=>
  obtain⟨hl,_⟩:=wX hi;dsimp only;rw[kK hl];have oX:=h.ok _ (List.getElem_mem hl);exact h.put hl es[i].prio ⟨oX.2.2.2.1,oX.2.2.2.2.1⟩
end
section
variable {es xs ys:List Et} {ck:Nat} {d p:Int}
def j9 (d p:Int) (e:Et):Bool:=decide (e.bT=d/\e.prio=p/\e.bV≠0)
def pk (xs:List Et) (k:Nat):Prop:=∀a b,a<b->b<xs.length->b≠k->(xs.getD a .df).bV<=(xs.getD b .df).bV
def A8 (es:List Et) (d p:Int) (xs:List Et):Prop:=xs.Perm (es.filter (j9 d p))/\xs.Pairwise (λa b=>a.bV<=b.bV)
theorem Ho (k a:Nat) (y:Et) (hk:k<xs.length):(xs.set k y).getD a .df=if a=k then y else xs.getD a .df:=by
 rw[List.getD_eq_getElem?_getD,List.getD_eq_getElem?_getD,List.getElem?_set];by_cases h:a=k
 ·rw[if_pos h,if_pos h.symm,if_pos hk];rfl
 ·rw[if_neg h,if_neg (λe=>h e.symm)]
def zJ (xs:List Et) (q:Nat):List Et:=(xs.set (q+1) (xs.getD q .df)).set q (xs.getD (q+1) .df)
theorem Og (q:Nat):(zJ xs q).length=xs.length:=by unfold zJ;rw[List.length_set,List.length_set]
theorem W7 {q:Nat} (hl:q+1<xs.length):(zJ xs q).Perm xs:=by
 unfold zJ;rw[kK hl,kK (show q<xs.length from Zo)];exact List.set_set_perm hl Zo
theorem pk.swap {q:Nat} (h:pk xs (q+1)) (hl:q+1<xs.length) (ah:(xs.getD (q+1) .df).bV<(xs.getD q .df).bV):pk (zJ xs q) q:=by
 intro a b ch hb cu;rw[Og] at hb;unfold zJ;have u4:q<(xs.set (q+1) (xs.getD q .df)).length:=by rw[List.length_set];omega
 rw[Ho _ _ _ u4,Ho _ _ _ u4,Ho _ _ _ hl,Ho _ _ _ hl,if_neg cu];by_cases cY:b=q+1
 ·rw[if_pos cY];by_cases ha:a=q
  ·rw[if_pos ha];omega
  ·rw[if_neg ha,if_neg Zo];exact h a q Zo Zo Zo
 ·rw[if_neg cY];by_cases ha:a=q
  ·rw[if_pos ha];exact h (q+1) b Zo hb cY
  ·rw[if_neg ha];by_cases yJ:a=q+1
   ·rw[if_pos yJ];exact h q b Zo hb cY
   ·rw[if_neg yJ];exact h a b ch hb cY
theorem pk.stop {k:Nat} (h:pk xs k) (hs:k=0\/∃q,k=q+1/\¬(xs.getD (q+1) .df).bV<(xs.getD q .df).bV):pk xs xs.length:=by
 intro a b ch hb cu;by_cases kJ:b=k
 ·rcases hs with hs|⟨q,hq,hs⟩
  ·omega
  ·subst kJ;subst hq;by_cases ha:a=q
   ·rw[ha];omega
   ·have:=h a q Zo Zo Zo;omega
 ·exact h a b ch hb kJ
theorem pk.app (h:pk xs xs.length) (x:Et):pk (xs++[x]) xs.length:=by
 intro a b ch hb cu;rw[List.length_append,List.length_singleton] at hb;have cw:b<xs.length:=Zo;have:=h a b ch cw Zo;simpa[List.getD_eq_getElem?_getD,List.getElem?_append_left cw,List.getElem?_append_left (Nat.lt_trans ch cw)] using this
theorem pk.whole (h:pk xs xs.length):xs.Pairwise (λa b=>a.bV<=b.bV):=by
 rw[List.pairwise_iff_getElem];intro a b ha hb ch;have:=h a b ch hb Zo;rw[kK ha,kK hb] at this;exact this
theorem Tb {k:Nat} (hk:k<es.length):(es.take (k+1)).filter (j9 d p)=(es.take k).filter (j9 d p)++if j9 d p es[k] then [es[k]] else []:=by
 rw[List.take_succ_eq_append_getElem hk,List.filter_append];by_cases h:j9 d p es[k]=true
 ·rw[if_pos h];simp[h]
 ·rw[if_neg h];simp[h]
theorem A8.uniq (h:ku es ck) (h1:A8 es d p xs) (h2:A8 es d p ys):xs=ys:=by
 refine(h1.1.trans h2.1.symm).eq_of_pairwise (λa b ha hb ch Sm=>?_) h1.2 h2.2;have yJ:=List.mem_filter.1 (h1.1.mem_iff.1 ha);have cw:=List.mem_filter.1 (h2.1.mem_iff.1 hb)
 have hz:a.bV≠0:=by
  have:=yJ.2;unfold j9 at this;exact(of_decide_eq_true this).2.2
 exact h.cd a yJ.1 b cw.1 Zo hz
end
section
variable {es xs ys:List Et} {ck:Nat} {d p:Int} {l:List Int}
def NQ (es:List Et) (d p:Int) (l:List Int):Prop:=∃xs,A8 es d p xs/\l=xs.map (·.num)
theorem NQ.uniq (h:ku es ck) {m:List Int} (h1:NQ es d p l) (h2:NQ es d p m):l=m:=by
 obtain⟨xs,a,rfl⟩:=h1;obtain⟨ys,b,rfl⟩:=h2;rw[A8.uniq h a b]
theorem NQ.nil (d p:Int):NQ [] d p []:=⟨[],⟨List.Perm.refl _,List.Pairwise.nil⟩,rfl⟩
theorem NQ.mem (h:NQ es d p l) {n:Int}:n∈l↔∃e∈es,e.num=n/\e.bT=d/\e.prio=p/\e.bV≠0:=by
 obtain⟨xs,hx,rfl⟩:=h;rw[List.mem_map];constructor
 ·rintro⟨e,he,rfl⟩;have h1:=List.mem_filter.1 (hx.1.mem_iff.1 he);have h2:=of_decide_eq_true h1.2;exact⟨e,h1.1,rfl,h2⟩
 ·rintro⟨e,he,rfl,h2⟩;exact⟨e,hx.1.mem_iff.2 (List.mem_filter.2 ⟨he,decide_eq_true h2⟩),rfl⟩
theorem NQ.len (h:NQ es d p l):l.length<=es.length:=by
 obtain⟨xs,hx,rfl⟩:=h;rw[List.length_map,hx.1.length_eq];exact List.length_filter_le _ _
theorem Xp {k:Nat} (hk:k<es.length):es=es.take k++es[k]::es.drop (k+1):=by
 rw[<-List.drop_eq_getElem_cons hk,List.take_append_drop]
theorem Ow {k:Nat} (hk:k<es.length) (y:Et):es.set k y=es.take k++y::es.drop (k+1):=by
 rw[List.set_eq_take_append_cons_drop,if_pos hk]
theorem NQ.join {k:Nat} (hk:k<es.length) (y:Et) (h1:es[k].bV=0) (h2:y.bV≠0) (h3:∀e∈es,e.bV<=y.bV) (h:NQ es d p l):NQ (es.set k y) d p (l++if y.bT=d/\y.prio=p then [y.num] else []):=by
 obtain⟨xs,hx,rfl⟩:=h;have a2:j9 d p es[k]=false:=by unfold j9;simp[h1]
 have g:es.filter (j9 d p)=(es.take k).filter (j9 d p)++(es.drop (k+1)).filter (j9 d p):=by
  conv=>lhs;rw[Xp hk]
  rw[List.filter_append,List.filter_cons,a2];rfl
 by_cases hc:y.bT=d/\y.prio=p
 ·rw[if_pos hc];have a1:j9 d p y=true:=decide_eq_true ⟨hc.1,hc.2,h2⟩;refine⟨xs++[y],⟨?_,?_⟩,by rw[List.map_append];rfl⟩
  ·rw[Ow hk,List.filter_append,List.filter_cons,a1];have h5:=hx.1;rw[g] at h5;refine((h5.append_right [y])).trans ?_;rw[List.append_assoc];refine List.Perm.append_left _ ?_;exact List.perm_append_singleton _ _
  ·rw[List.pairwise_append];refine⟨hx.2,List.pairwise_singleton _ _,λa ha b hb=>?_⟩;rw[List.mem_singleton] at hb;subst hb;exact h3 a (List.mem_filter.1 (hx.1.mem_iff.1 ha)).1
 ·rw[if_neg hc,List.append_nil];have a1:j9 d p y=false:=decide_eq_false (λh=>hc ⟨h.1,h.2.1⟩);refine⟨xs,⟨?_,hx.2⟩,rfl⟩;rw[Ow hk,List.filter_append,List.filter_cons,a1];have h5:=hx.1;rw[g] at h5;exact h5
theorem NQ.add (y:Et) (h2:y.bV=0) (h:NQ es d p l):NQ (es++[y]) d p l:=by
 obtain⟨xs,hx,rfl⟩:=h;refine⟨xs,⟨?_,hx.2⟩,rfl⟩;have a1:j9 d p y=false:=by unfold j9;simp[h2]
 rw[List.filter_append,List.filter_cons,a1];simpa using hx.1
end
section
variable {U V S:Nat->Prop} {w w2 w3:World} {sb:Nat} {vt vl:Value} {ts:Lp} {t:Nat} {lf:Int} {es:List Et} {ck:Nat}
def pj (w:World) (pa:Option Addr) (ts:Lp):Prop:=ts=[]\/∃ab ao,pa=some ⟨ab,ao,none⟩/\∀(j:Nat) (h:j<ts.length),w.cell? ⟨ab,ao+j*2,none⟩=some (Zi ts[j].1)/\w.cell? ⟨ab,ao+j*2+1,none⟩=some (Zi ts[j].2)
theorem pj.quiet {pa:Option Addr} (h:pj w pa ts) (ho:Zq w w2):pj w2 pa ts:=by
 rcases h with h|⟨ab,ao,h1,h2⟩
 ·exact Or.inl h
 ·refine Or.inr ⟨ab,ao,h1,λj hj=>?_⟩;obtain⟨a,b⟩:=h2 j hj;have hb:ab<w.heap.size:=World.block_lt_of_cell? w _ a;have hk:=ho.block ab hb (λh=>h);have hc:∀o,w2.cell? ⟨ab,o,none⟩=w.cell? ⟨ab,o,none⟩:=λo=>by unfold World.cell?;simp only[hk]
  exact⟨by rw[hc];exact a,by rw[hc];exact b⟩
def gJ (x:Int×Int):Bool:=decide (0<=x.1/\x.1<=7/\1<=x.2/\x.2<=1000)
def eP (ts:Lp):Int:=if ts.length<1\/16<ts.length\/ts.all gJ=false then 1 else 0
theorem N0:Kind prog aJ 22 120:=kG (z:=.agg #[Zi 0,Zi 0]) (b:=16) underlying22 Zx rfl Zd
theorem Wz (k:Nat) (hk:k<ts.length) (h:gJ ts[k]=false):eP ts=1:=by
 unfold eP;rw[if_pos];refine Or.inr (Or.inr ?_);rw[List.all_eq_false];exact⟨_,List.getElem_mem hk,by rw[h];decide⟩
theorem WA (h:∀x∈ts,gJ x=true) (h1:1<=ts.length) (h2:ts.length<=16):eP ts=0:=by
 unfold eP;rw[if_neg];rintro(h3|h3|h3)
 ·omega
 ·omega
 ·rw[List.all_eq_false] at h3;obtain⟨x,hx,h4⟩:=h3;exact h4 (h x hx)
def MK (w:World) (ts:Lp) (e:Ending) (w':World):Prop:=((eP ts=1/\Zr e (.tuple #[.pointer none,Zi 1]))\/(eP ts=0/\(∀x∈ts,gJ x=true)/\1<=ts.length/\ts.length<=16/\∃sb,Zr e (.tuple #[Zp sb,Zi 0])/\w.heap.size<=sb/\A6 (λk=>k<w.heap.size) w' sb ts 0 (ts.getD 0 (0,0)).2 [] 0))/\Zq w w'
theorem abg (w:World) (pa:Option Addr) (len cap:Nat) (hlen:len=ts.length) (uZ:len<=cap) (jo:cap<=maxLen) (hp:pj w pa ts):Zk 11 #[.slice pa len cap] w (MK w ts):=by
 have pR:(len:Int)<=9223372036854775807:=by simp[maxLen] at jo;omega
 have fA:Hid (eP ts=1->∀w',Zq w w'->MK w ts (.returned (.tuple #[.pointer none,Zi 1])) w'):=λh w' ho=>⟨Or.inl ⟨h,rfl⟩,ho⟩
 have HP:=aa hp;have HL:=aa hlen;clear hp uZ jo;by_cases n1:len<1
 ·have Gh:(len:Int)<1:=Zo;have HE:Hid (eP ts=1):=if_pos (Or.inl Zo);clear hlen;go_enter func11,ntmps11;go_wp2_with fail
  all_goals
   go_ret2;exact fA.j HE.j _ (ae.refl _ _)
 ·have Gh:¬(len:Int)<1:=Zo;by_cases n2:16<len
  ·have Gg:(16:Int)<(len:Int):=Zo;have HE:Hid (eP ts=1):=if_pos (Or.inr (Or.inl Zo));clear hlen;go_enter func11,ntmps11;go_wp2_with fail
   all_goals
    go_ret2;exact fA.j HE.j _ (ae.refl _ _)
  ·have Gg:¬(16:Int)<(len:Int):=Zo;have cX:Hid (1<=len/\len<=16):=⟨Zo,Zo⟩
   obtain⟨ab,ao,rfl,fM⟩:∃ab ao,pa=some ⟨ab,ao,none⟩/\True:=by
    rcases HP.j with h|⟨ab,ao,h,_⟩
    ·rw[h] at hlen;simp at hlen;omega
    ·exact⟨ab,ao,h,trivial⟩
   have HC:Hid (∀wv,Zq w wv->∀j (h:j<ts.length),wv.cell? ⟨ab,ao+j*2,none⟩=some (Zi ts[j].1)/\Zc wv ab (ao+j*2+1) (Zi ts[j].2)):=λwv ho j hj=>by
    rcases HP.j.quiet ho with h|⟨ab2,ao2,h,h2⟩
    ·rw[h] at hj;simp at hj
    ·injection h with h
     injection h with h3 h4
     subst h3;subst h4;exact h2 j hj
   clear fM hlen n1 n2;go_enter func11,ntmps11;go_wp2_with fail
   go_loopw [4,5] (λd _ wr=>∃k:Nat,d=Zi (k:Int)/\k<=len/\Hid (∀x∈ts.take k,gJ x=true)/\Hid (Zq w wr)) (λd _ _=>len - (RowKit.intOf d).toNat)
   case atStart=>exact⟨0,rfl,Zo,(λx hx=>by rw[List.take_zero] at hx;cases hx),ae.refl _ _⟩
   case round=>
    obtain⟨k,rfl,hk,HA,HW⟩:=hrel;by_cases ah:k<len
    ·have h1:(k:Int)<(len:Int):=Zo;have bf:0<=(k:Int)/\(k:Int)<(len:Int):=Zo;have iY:IntKind.i64.wrap ((k:Int)+1)=(k:Int)+1:=by have:=cX.j;rw[IntKind.wrap_i64];omega
     have dE:k<ts.length:=by have:=HL.j;omega
     obtain⟨b0,b1⟩:=HC.j _ HW.j k dE;obtain⟨w5,dN,eG,lS⟩:∃w5,w5=wr.alloc (.cells #[Zi ts[k].1,Zi ts[k].2] 120)/\Zq wr w5/\(w5.cell? ⟨wr.heap.size,0,none⟩=some (Zi ts[k].1)/\w5.cell? ⟨wr.heap.size,1,none⟩=some (Zi ts[k].2)):=⟨_,rfl,(ae.refl _ wr).alloc _,(cell_of_row _ _ 0 _ _ (0,0) (heap_alloc_last wr _)).trans rfl,(cell_of_row _ _ 1 _ _ (0,0) (heap_alloc_last wr _)).trans rfl⟩
     obtain⟨E,hE⟩:=Ze (wr.heap.size);rw[<-hE] at lS;obtain⟨z0,z1⟩:=lS;have vv:=aa (HW.j.trans eG);have iu:Hid (k+1<=len):=ah;have ui:=aa (Wz k dE)
     have Bj:Hid (gJ ts[k]=true->∀x∈ts.take (k+1),gJ x=true):=λhg x hx=>by
      rw[List.take_succ_eq_append_getElem dE,List.mem_append,List.mem_singleton] at hx;rcases hx with hx|hx
      ·exact HA.j x hx
      ·rw[hx];exact hg
     clear ah eG;go_upto_region 7 with fail
     rw[<-dN,<-hE];clear dN hE b0 b1;have dC:Hid (gJ ts[k]=decide (0<=ts[k].1/\ts[k].1<=7/\1<=ts[k].2/\ts[k].2<=1000)):=rfl;generalize gJ ts[k]=tb at ui Bj dC;generalize ts[k].1=x0 at z0 dC;generalize ts[k].2=x1 at z1 dC;clear dE;by_cases a1:x0<0
     ·have HF:Hid (tb=false):=by show _=_;rw[dC.j];exact decide_eq_false Zo
      go_wp2_with fail
      all_goals
       go_ret2;exact fA.j (ui.j HF.j) _ vv.j
     ·by_cases a2:7<x0
      ·have HF:Hid (tb=false):=by show _=_;rw[dC.j];exact decide_eq_false Zo
       go_wp2_with fail
       all_goals
        go_ret2;exact fA.j (ui.j HF.j) _ vv.j
      ·by_cases a3:x1<1
       ·have HF:Hid (tb=false):=by show _=_;rw[dC.j];exact decide_eq_false Zo
        go_wp2_with fail
        all_goals
         go_ret2;exact fA.j (ui.j HF.j) _ vv.j
       ·by_cases a4:1000<x1
        ·have HF:Hid (tb=false):=by show _=_;rw[dC.j];exact decide_eq_false Zo
         go_wp2_with fail
         all_goals
          go_ret2;exact fA.j (ui.j HF.j) _ vv.j
        ·have HF:Hid (tb=true):=by show _=_;rw[dC.j];exact decide_eq_true Zo
         have agh:=aa (Bj.j HF.j);go_wp2_with fail;go_roundw
         case rel=>exact⟨k+1,by go_num,iu.j,agh,vv⟩
         case measure=>have:=iu.j;simp only[RowKit.intOf];omega
    ·obtain rfl:k=len:=Zo;have h1:¬(k:Int)<(k:Int):=Zo;have vf:=HA.j;rw[HL.j,List.take_length] at vf;have UL:=aa vf;have ie:0<ts.length:=by have:=HL.j;have:=cX.j;omega
     obtain⟨b0,b1⟩:=HC.j _ HW.j 0 ie;have Lf:0<=(0:Int)/\(0:Int)<(k:Int):=by have:=cX.j;omega
     have e0:ao+0*2+1=ao+1:=Zo;rw[e0] at b1;have E9:Hid (ts[0].2=(ts.getD 0 (0,0)).2):=by show _=_;simp[List.getD_eq_getElem?_getD,ie]
     generalize ts[0].2=tk at b1 E9;clear ah vf b0 e0;go_upto_region 10 with fail
     obtain⟨w6,rF⟩:=Ze (wr.alloc (.cells #[.slice none 0 0,Zi 0,Zi tk,.slice none 0 0,Zi 0] 179));have jG:=Za rF;have GF:w6.heap[wr.heap.size]?=some (.cells #[.slice none 0 0,Zi 0,Zi tk,.slice none 0 0,Zi 0] 179 (0,0)):=by rw[rF];exact heap_alloc_last _ _
     obtain⟨sb,iB⟩:=Ze (wr.heap.size);rw[<-iB] at GF;have z0:w6.cell? ⟨sb,0,none⟩=some (.slice none 0 0):=Zl GF;have mQ:Hid (w.heap.size<=sb):=by show _<=_;rw[iB];exact HW.j.size
     have Io:=aa GF;have Is:=aa (HW.j.trans jG)
     have ak:Hid (0<ts.length->∃ad,(some ⟨ab,ao,none⟩:Option Addr)=some ad/\∀j u,(fl aJ ts)[j]?=some u->w6.cell? (ad.add j)=some u):=λ_=>⟨_,rfl,λj u hj=>by
      have ah:j<(fl aJ ts).length:=by
       apply Classical.byContradiction;intro hx;rw[List.getElem?_eq_none Zo] at hj;cases hj
      have kH:(fl aJ ts).length=ts.length*2:=j8 aJ ts;have yE:j/2<ts.length:=Zo;have hg:=vh aJ ts (j/2) (j % 2) yE (Nat.mod_lt _ Zd);have e:j/2*aJ.sz+j % 2=j:=by show j/2*2+j % 2=j;omega
      rw[e,hj] at hg;obtain⟨y0,y1⟩:=HC.j _ Is.j (j/2) yE;rw[pY];rcases(by omega:j % 2=0\/j % 2=1) with hm|hm
      ·rw[hm] at hg;have e2:ao+j=ao+j/2*2:=Zo;rw[e2,y0];exact hg.symm
      ·rw[hm] at hg;have e2:ao+j=ao+j/2*2+1:=Zo;rw[e2,y1]
       exact hg.symm⟩
     have M1:Hid (([]:Lp).length+ts.length<=10000000):=by show _<=_;have:=HL.j;have:=cX.j;simp;omega
     rw[<-rF,<-iB];clear rF jG GF iB b1
     have eO:Hid (∀v' w7,ai aJ w7 0 120 v' ([]++ts)->ae (λk=>(Value.slice none 0 0).ownBlock=some k) w6 w7->(v'.ownBlock=(Value.slice none 0 0).ownBlock\/∃g,v'.ownBlock=some g/\w6.heap.size<=g/\Zq w6 w7)->(∃x,w7.cell? ⟨sb,0,none⟩=some x)/\w7.frozen? ⟨sb,0,none⟩=false/\MK w ts (.returned (.tuple #[Zp sb,Zi 0])) (w7.setCell ⟨sb,0,none⟩ v')):=λv' w7 a1 a2 a3=>by
      have MF:Zq w6 w7:=a2.mono (λk _ h=>by cases h);have GM:=ae.keep MF Io.j (λh=>h);have hs:ae (λk=>k=sb) w7 (w7.setCell ⟨sb,0,none⟩ v'):=ae.setCell (S:=λk=>k=sb) (ae.refl _ w7) (Or.inl rfl) _;rw[List.nil_append] at a1
      have cu:∀k,v'.ownBlock=some k->k≠sb:=λk hk=>by
       obtain⟨cur,hc⟩:=bu a1 hk;exact cE hc GM Zd
      have DV:∀k,v'.ownBlock=some k->w.heap.size<=k:=λk hk=>by
       rcases uM a3 k hk with h9|h9
       ·cases h9
       ·exact Nat.le_trans Is.j.size h9
      refine⟨⟨_,Zl GM⟩,by simp[World.frozen?,GM],Or.inr ⟨WA UL.j (by have:=HL.j;have:=cX.j;omega) (by have:=HL.j;have:=cX.j;omega),UL.j,by have:=HL.j;have:=cX.j;omega,by have:=HL.j;have:=cX.j;omega,sb,rfl,mQ.j,v',.slice none 0 0,?_⟩,ae.JR (Is.j.trans MF) hs mQ.j⟩;refine⟨?_,a1.kept hs cu,ai.nil _ _ _ _,(λh9=>by have:=mQ.j;omega),(λk hk h9=>by have:=DV k hk;omega),(λk hk=>by cases hk),λk hk=>Nat.lt_of_lt_of_le hk (Nat.le_trans (Is.j.trans MF).size hs.size),Nat.zero_le _⟩;rw[heap_setCell_same _ _ 0 _ _ v' GM,<-E9.j];rfl
     go_wp2_with (at_builtin;refine CH N0 _ rfl _ _ rfl 0 (.slice none 0 0) [] rfl (ai.nil _ _ _ _) (some ⟨ab,ao,none⟩) cap k ts rfl HL.j ak.j M1.j (Nat.zero_le _) ?_;intro v' w7 bc aP bB;obtain⟨⟨qx,q1⟩,q2,q3⟩:=eO.j v' w7 bc aP bB;obtain⟨pz,cz,ka,_⟩:=bc.form;generalize (([]:Lp)++ts).length=mz at ka;subst ka;have HF:=aa q3;clear bc aP bB q3)
     all_goals
      go_ret2;exact HF.j
end
end Go.Proofs.YtphkconoooeidaaGreatDoor

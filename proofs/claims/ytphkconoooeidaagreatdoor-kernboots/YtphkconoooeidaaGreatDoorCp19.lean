import Derived.Test.YtphkconoooeidaaGreatDoorCp17
import Derived.Test.YtphkconoooeidaaGreatDoorCp18
import Derived.Deep.MidRow
set_option maxRecDepth 100000
set_option maxHeartbeats 8000000
set_option linter.unusedVariables false
set_option linter.unusedSimpArgs false
open Go Go.Vx Go.Proofs.Tryz Go.ChangeShapes Go.WideShapes Go.ChangeAt Go.RowKit
namespace Go.Proofs.YtphkconoooeidaaGreatDoor
section
def uB (G:Int->Nat) (n:Int):Value:=if n= -1 then .pointer none else .pointer (some ⟨G n,0,none⟩)
def oK (G:Int->Nat) (t:Kt):List Value:=[Zi t.num,Zi t.st]++(jQ .u32 t.rg++[Zu t.pc,uB G t.nK,uB G t.mT,.bool t.gr])
def ZY (x:List UInt8×List UInt8):List Value:=[fG x.1,fG x.2]
def lG (mb sb pb qb bb tb:Nat) (L:List Ln) (ci co:List (List UInt8)) (c:Nat):List Value:=
 [Zp mb,Zp sb,Zp pb,Zp qb,Zp bb,.map (some tb)]++(L.flatMap eE++((ci.zip co).flatMap ZY++[Zu (c:Int)]))
structure pf (kb mb sb pb qb bb tb:Nat) (D:DataW Value) (ks:List Int) (G:Int->Nat) (T:List Kt) (L:List Ln) (ci co:List (List UInt8)) (c:Nat) (U:Nat->Prop) (w:World):Prop where
 k:w.heap[kb]?=some (.cells (lG mb sb pb qb bb tb L ci co c).toArray 163 (0,0))
 m:lB w tb D ks G
 kt:ks.Perm (T.map (·.num))
 th:∀t∈T,w.heap[G t.num]?=some (.cells (oK G t).toArray 261 (0,0))
 gi:∀t∈T,∀s∈T,G t.num=G s.num->t.num=s.num
 uk:¬U kb
 um:¬U tb
 ut:∀t∈T,¬U (G t.num)
 low:∀k,U k->k<w.heap.size
 nt:T.length<=1000
def ph (kb mb sb pb qb bb tb:Nat) (T:List Kt) (L:List Ln) (ci co:List (List UInt8)) (c:Nat):dR:=λU w=>∃D ks G,pf kb mb sb pb qb bb tb D ks G T L ci co c U w
variable {kb mb sb pb qb bb tb:Nat} {T:List Kt} {L:List Ln} {ci co:List (List UInt8)} {c:Nat} {U V S:Nat->Prop} {w w2:World} {K:Kn}
theorem ph.bj:ik (ph kb mb sb pb qb bb tb T L ci co c):=by
 rintro U V S w w2 ⟨D,ks,G,h⟩ ho hS hV
 have hb:∀b,b<w.heap.size->¬U b->¬V b:=λb h1 h3 h4=>by
  rcases hV b h4 with h5|h5
  ·exact h3 h5
  ·omega
 have hs:=ho.size;have hk:=au h.k;have hm:=h.m.own.lt;have ht:∀t∈T,G t.num<w.heap.size:=λt ht=>au (h.th t ht)
 refine⟨D,ks,G,(ho.block _ hk (λs=>h.uk (hS _ hk s))).trans h.k,h.m.keep ho (λs=>h.um (hS _ hm s)),h.kt,λt hh=>(ho.block _ (ht t hh) (λs=>h.ut t hh (hS _ (ht t hh) s))).trans (h.th t hh),h.gi,hb _ hk h.uk,hb _ hm h.um,λt hh=>hb _ (ht t hh) (h.ut t hh),λk hk=>?_,h.nt⟩;rcases hV k hk with h5|h5
 ·have:=h.low k h5;omega
 ·exact h5.2
abbrev kxL (kb mb sb pb qb bb tb:Nat) (K:Kn):List dR:=[me sb K.bs K.es,kz mb K.n K.f,nM pb (K.n:Int) K.os K.rs,jX qb K.ts K.t K.lf K.ss K.ck,qX bb K.b,ph kb mb sb pb qb bb tb K.T K.L K.ci K.co K.c]
def ax (U:Nat->Prop) (w:World) (kb mb sb pb qb bb tb:Nat) (K:Kn):Prop:=aD (kxL kb mb sb pb qb bb tb K) U w
def ahq (U:Nat->Prop) (w:World) (kb:Nat) (K:Kn):Prop:=∃mb sb pb qb bb tb,ax U w kb mb sb pb qb bb tb K
theorem ax.own (h:ax U w kb mb sb pb qb bb tb K):∃(U2:Nat->Prop) (D:_) (ks:_) (G:_),pf kb mb sb pb qb bb tb D ks G K.T K.L K.ci K.co K.c U2 w/\∀k,U k->U2 k:=by
 obtain⟨U2,⟨D,ks,G,h⟩,h2⟩:=aD.at h 5 rfl;exact⟨U2,D,ks,G,h,h2⟩
theorem ax.k (h:ax U w kb mb sb pb qb bb tb K):w.heap[kb]?=some (.cells (lG mb sb pb qb bb tb K.L K.ci K.co K.c).toArray 163 (0,0)):=by
 obtain⟨_,_,_,_,h,_⟩:=h.own;exact h.k
theorem ax.c0 (h:ax U w kb mb sb pb qb bb tb K):w.cell? ⟨kb,0,none⟩=some (Zp mb):=Zl h.k
theorem ax.c1 (h:ax U w kb mb sb pb qb bb tb K):w.cell? ⟨kb,1,none⟩=some (Zp sb):=Zl h.k
theorem ax.c2 (h:ax U w kb mb sb pb qb bb tb K):w.cell? ⟨kb,2,none⟩=some (Zp pb):=Zl h.k
theorem ax.c3 (h:ax U w kb mb sb pb qb bb tb K):w.cell? ⟨kb,3,none⟩=some (Zp qb):=Zl h.k
theorem ax.c4 (h:ax U w kb mb sb pb qb bb tb K):w.cell? ⟨kb,4,none⟩=some (Zp bb):=Zl h.k
theorem ax.c5 (h:ax U w kb mb sb pb qb bb tb K):w.cell? ⟨kb,5,none⟩=some (.map (some tb)):=Zl h.k
theorem ax.quiet (h:ax U w kb mb sb pb qb bb tb K) (ho:Zq w w2):ax U w2 kb mb sb pb qb bb tb K:=aD.quiet h ho
theorem ax.wide (h:ax U w kb mb sb pb qb bb tb K) (ho:Zq w w2):ax (Nu U w.heap.size w2.heap.size) w2 kb mb sb pb qb bb tb K:=aD.wide h ho
theorem ax.thin (h:ax V w kb mb sb pb qb bb tb K) (hU:∀k,U k->V k):ax U w kb mb sb pb qb bb tb K:=aD.thin h hU
theorem ax.o7 (h:ax U w kb mb sb pb qb bb tb K):∃U2:Nat->Prop,jL U2 w sb K.bs K.es:=by
 obtain⟨U2,h,_⟩:=aD.at h 0 rfl;exact⟨U2,h⟩
theorem ax.mem (h:ax U w kb mb sb pb qb bb tb K):∃U2:Nat->Prop,dF U2 w mb K.n K.f:=by
 obtain⟨U2,h,_⟩:=aD.at h 1 rfl;exact⟨U2,h⟩
theorem ax.vL (h:ax U w kb mb sb pb qb bb tb K):∃U2:Nat->Prop,nL U2 w pb (K.n:Int) K.os K.rs:=by
 obtain⟨U2,h,_⟩:=aD.at h 2 rfl;exact⟨U2,h⟩
theorem ax.sched (h:ax U w kb mb sb pb qb bb tb K):∃U2:Nat->Prop,rN U2 w qb K.ts K.t K.lf K.ss K.ck:=by
 obtain⟨U2,h,_⟩:=aD.at h 3 rfl;exact⟨U2,h⟩
theorem ax.tP (h:ax U w kb mb sb pb qb bb tb K):∃U2:Nat->Prop,qO U2 w bb K.b:=by
 obtain⟨U2,h,_⟩:=aD.at h 4 rfl;exact⟨U2,h⟩
end
section
variable {U:Nat->Prop} {w:World} {xb:Nat} {ts:Lp} {t:Nat} {lf:Int} {es ig:List Et} {ck:Nat}
theorem ku.perm (h:ku es ck) (hp:es.Perm ig):ku ig ck:=
 ⟨(hp.map _).nodup_iff.1 h.nd,λe he=>h.ok e (hp.mem_iff.2 he),λe he f hf=>h.cd e (hp.mem_iff.2 he) f (hp.mem_iff.2 hf),λe he f hf=>h.qf e (hp.mem_iff.2 he) f (hp.mem_iff.2 hf)⟩
theorem Hu {n:Int}:(dB es n).isSome=true↔n∈es.map (·.num):=by
 constructor
 ·intro h;obtain⟨i,hi⟩:=Option.isSome_iff_exists.1 h;obtain⟨hl,hn⟩:=wX hi;exact List.mem_map.2 ⟨_,List.getElem_mem hl,hn⟩
 ·intro h;obtain⟨e,he,hn⟩:=List.mem_map.1 h
  cases hf:dB es n with
  |some i=>rfl
  |none=>
   have:=mu (show dq _ es 0=none from hf) e he;simp[hn] at this
theorem Md (hp:es.Perm ig) (n:Int):(dB es n).isSome=(dB ig n).isSome:=by
 rw[Bool.eq_iff_iff,Hu,Hu];exact(hp.map _).mem_iff
theorem rN.perm (h:rN U w xb ts t lf es ck) (hp:es.Perm ig):rN U w xb ts t lf ig ck:=by
 obtain⟨G,hs,gY,mb,D,vt,vq,Q,hq,h⟩:=h;refine⟨G,hs.perm hp,gY,mb,D,vt,vq,Q,λj hj=>?_,?_⟩
 ·obtain⟨xs,⟨h1,h2⟩,h3⟩:=hq j hj;exact⟨xs,⟨h1.trans (hp.filter _),h2⟩,h3⟩
 ·refine⟨h.x,h.lq,h.t',by rw[<-hp.length_eq];exact h.m,λk hk=>(h.hs k hk).trans (Md hp k),λk i z hk=>?_,λe he=>h.rn e (hp.mem_iff.2 he),λe he f hf=>h.gi e (hp.mem_iff.2 he) f (hp.mem_iff.2 hf),h.qs,h.qd,h.ux,h.ut,h.um,λe he=>h.ur e (hp.mem_iff.2 he),h.uq,h.low,by rw[<-hp.length_eq];exact h.nl,λe he=>h.ix e (hp.mem_iff.2 he)⟩;have h1:(dB es k).isSome=true:=by rw[Md hp k,hk];rfl
  obtain⟨i2,gj⟩:=Option.isSome_iff_exists.1 h1;exact h.ha k i2 z gj
theorem ag5 (hp:es.Perm ig) (n d p:Int):(bU es n d p).Perm (bU ig n d p):=by
 have he:fj es n d p=fj ig n d p:=by
  unfold fj;rw[Md hp n]
 unfold bU;rw[he]
 split
 ·exact hp.append_right _
 ·exact hp
theorem ag4 (es:List Et) (m n:Int):(bU (bU es m 0 0) n 0 0).Perm (bU (bU es n 0 0) m 0 0):=by
 by_cases KU:m=n
 ·subst KU;exact List.Perm.refl _
 ·have key:∀(a b:Int),a≠b->∀es:List Et,fj (bU es a 0 0) b 0 0=fj es b 0 0:=λa b ch es=>by
   unfold fj
   have:(dB (bU es a 0 0) b).isSome=(dB es b).isSome:=by
    rw[Bool.eq_iff_iff,Hu,Hu];unfold bU
    split
    ·rw[List.map_append,List.mem_append];constructor
     ·rintro(h|h)
      ·exact h
      ·simp at h;exact absurd h.symm ch
     ·exact Or.inl
    ·exact Iff.rfl
   rw[this]
  have e1:=key m n KU es;have e2:=key n m (λh=>KU h.symm) es;by_cases hn:fj es n 0 0=0
  ·by_cases hm:fj es m 0 0=0
   ·have a1:bU es m 0 0=es++[⟨m,0,0,0,0⟩]:=if_pos hm;have a2:bU es n 0 0=es++[⟨n,0,0,0,0⟩]:=if_pos hn;have b1:bU (bU es m 0 0) n 0 0=bU es m 0 0++[⟨n,0,0,0,0⟩]:=if_pos (e1.trans hn);have b2:bU (bU es n 0 0) m 0 0=bU es n 0 0++[⟨m,0,0,0,0⟩]:=if_pos (e2.trans hm);rw[b1,b2,a1,a2,List.append_assoc,List.append_assoc];exact List.Perm.append_left _ (List.Perm.swap _ _ _)
   ·have a1:bU es m 0 0=es:=if_neg hm;have b2:bU (bU es n 0 0) m 0 0=bU es n 0 0:=if_neg (λh=>hm (e2.symm.trans h));rw[b2,a1]
  ·have a2:bU es n 0 0=es:=if_neg hn;have b1:bU (bU es m 0 0) n 0 0=bU es m 0 0:=if_neg (λh=>hn (e1.symm.trans h));rw[b1,a2]
theorem OS:∀(l:List Int) {es ig:List Et},es.Perm ig->(kU es l).Perm (kU ig l)
 |[],_,_,hp=>hp
 |n::r,_,_,hp=>OS r (ag5 hp n 0 0)
theorem YN {l l2:List Int} (h:l.Perm l2):∀es:List Et,(kU es l).Perm (kU es l2):=by
 induction h with
 |nil=>intro es;exact List.Perm.refl _
 |cons x _ ih=>intro es;exact ih _
 |swap x y l=>intro es;exact OS l (ag4 es y x)
 |trans _ _ ih1 ih2=>intro es;exact(ih1 es).trans (ih2 es)
end
theorem aab (xs:Array Value) (i:Nat) (a:Int) (h:xs[i]?=some (Zu a)) (w:World):(part 23 xs i).run prog w=.ok (Zu a) w:=by
 simp[part,go_sem,h]
theorem Tf (d:Nat) (xs:Array Value) (w:World):∀(is:List Nat),(∀i∈is,∃a:Int,xs[i]?=some (Zu a))->(Op.eqItems (d+1) 23 1 xs xs is).run prog w=.ok true w
 |[],_=>by simp[Op.eqItems]
 |i::is,h=>by
  obtain⟨a,ha⟩:=h i (by simp);have hp:(part 23 xs (i*1)).run prog w=.ok (Zu a) w:=by rw[Nat.mul_one];exact aab xs i a ha w
  have he:(Op.equalIn (d+1) 23 (Zu a) (Zu a)).run prog w=.ok true w:=by
   rw[run_equalIn_int w d 23 .u32 .u32 a a underlying23];simp
  have ih:=Tf d xs w is (λj hj=>h j (by simp[hj]));simp only[Op.eqItems,Sem.run_bind,hp,he,Result.andThen_ok,Bool.not_true,Bool.false_eq_true,if_false];exact ih
theorem adF:(prog.info? 23).isSome=true:=Zx
theorem afh:prog.cellsOf 23=1:=Zx
section
variable {kb mb sb pb qb bb:Nat} {vT:Value} {T:List Kt} {L:List Ln} {ci co:List (List UInt8)} {c:Nat} {U V S:Nat->Prop} {w w2:World} {K:Kn}
theorem FO {base g n c:Nat} {e:TypeId} (h:ai iL w base e (Zs g n c) T) {k:Nat} (hk:k<T.length):w.cell? ⟨g,k*38,none⟩=some (Zi T[k].num):=(h.cell k 0 hk Zd).trans rfl
theorem Oh (h:aI U w kb mb sb pb qb bb vT K) (n:Int):Zk 64 #[Zp kb,Zi n] w λe w'=>Zr e (Zi (ti (kR K.T n)))/\w'=w:=by
 have c0:=h.c5;have ht:=h.t;have hn:=h.nt;clear h;obtain⟨p,c,rfl,_,_,hp⟩:=ht.form;have HB:=aa ht;have HP:=aa hp;clear ht hp;generalize K.T=T at*;obtain⟨N,hN⟩:=Ze (T.length);have HN:=aa hN;rw[<-hN] at c0 hn;clear hN;go_enter func64,ntmps64;go_wp2_with fail
 go_loopw [5] (λd wr=>∃k:Nat,d=Zi (k:Int)/\k<=N/\Hid (dq (λb:Kt=>decide (b.num=n)) (T.drop k) k=kR T n)/\wr=w) (λd _=>N - (RowKit.intOf d).toNat)
 case atStart=>exact⟨0,rfl,Zo,(show dq _ (T.drop 0) 0=_ from by rw[List.drop_zero];rfl),rfl⟩
 case round=>
  obtain⟨k,rfl,hk,HQ,rfl⟩:=hrel;by_cases ah:k<N
  ·have bq:k<T.length:=by have:=HN.j;omega
   have h1:(k:Int)<(N:Int):=Zo;have bf:0<=(k:Int)/\(k:Int)<(N:Int):=Zo;have iY:=Zf k Zo;obtain⟨g,rfl,hg⟩:=HP.j Zo;have b0:=FO HB.j bq;have hq:=HQ.j;rw[Aa T k bq] at hq;by_cases he:T[k].num=n
   ·rw[if_pos (decide_eq_true he)] at hq;have HE:=aa hq;rw[he] at b0;clear hq ah HQ he hg;go_wp2_with fail
    all_goals
     go_ret;exact⟨by rw[<-HE.j];rfl,rfl⟩
   ·rw[if_neg (by simpa using he)] at hq;have HE:=aa hq;have gm:(T[k].num==n)=false:=by simpa using he
    clear hg;generalize T[k].num=m at b0 he gm;clear hq ah HQ;go_wp2_with fail;go_roundw
    case rel=>exact⟨k+1,by go_num,Zo,HE,trivial⟩
    case measure=>exact Zm
  ·obtain rfl:k=N:=Zo;have hq:=HQ.j;rw[HN.j,Ab] at hq;have HE:=aa hq;have h1:¬(k:Int)<(k:Int):=Zo;clear hq ah HQ;go_wp2_with fail
   all_goals
    go_ret;exact⟨by rw[<-HE.j];rfl,rfl⟩
theorem JH {base g n c:Nat} {e:TypeId} {xs:Lp} (h:ai aJ w base e (Zs g n c) xs) {k:Nat} (hk:k<xs.length):w.cell? ⟨g,k*2,none⟩=some (Zi xs[k].1)/\w.cell? ⟨g,k*2+1,none⟩=some (Zi xs[k].2):=⟨(h.cell k 0 hk Zd).trans rfl,(h.cell k 1 hk Zd).trans rfl⟩
theorem afV (h:aI U w kb mb sb pb qb bb vT K) (hp:fk (K.n:Int) K.os K.rs) (o1 o2:Int):Zk 14 #[Zp kb,.agg #[Zi o1,Zi o2]] w λe w'=>Zr e (.bool (dk K.os K.rs (o1,o2)))/\Zq w w':=by
 obtain⟨w1,ag⟩:=Ze (w.alloc (.cells #[Zi o1,Zi o2] 85));have ay:=Za ag;have H1:=aa (h.quiet ay);have fA:Hid (w1.heap[w.heap.size]?=some (.cells #[Zi o1,Zi o2] 85 (0,0))):=by rw[ag];exact heap_alloc_last w _
 obtain⟨ob,az⟩:=Ze (w.heap.size);rw[<-az] at fA;have q0:w1.cell? ⟨ob,0,none⟩=some (Zi o1):=Zl fA.j;have q1:w1.cell? ⟨ob,1,none⟩=some (Zi o2):=Zl fA.j;have tW:=aa ay;clear ay;have c2:=H1.j.c2;obtain⟨U2,vo,vr,jE⟩:=H1.j.vL;have HA:=aa (TN jE (by have:=hp.lo;omega) (by have:=hp.lr;omega))
 have cX:Hid ((fE K.os K.rs).length<=2560):=by
  show(K.os++_).length<=2560;rw[List.length_append,List.length_map];have:=hp.lo;have:=hp.lr;omega
 clear jE hp h;by_cases h9:o1=9\/o1=10
 ·have e1:dk K.os K.rs (o1,o2)=(decide (0<=o2)&&decide (o2<8)):=by
   unfold dk;rw[if_pos h9];simp[Bool.decide_and]
  rw[e1];clear cX HA e1;by_cases h0:0<=o2
  ·by_cases h8:o2<8
   ·rw[decide_eq_true h0,decide_eq_true h8];rcases h9 with rfl|rfl
    all_goals
     go_enter func14,ntmps14;go_upto_region 1 with fail
     rw[<-ag,<-az];clear ag az;go_wp2_with fail
     all_goals
      go_ret;exact⟨rfl,tW.j⟩
   ·rw[decide_eq_true h0,decide_eq_false h8];rcases h9 with rfl|rfl
    all_goals
     go_enter func14,ntmps14;go_upto_region 1 with fail
     rw[<-ag,<-az];clear ag az;go_wp2_with fail
     all_goals
      go_ret;exact⟨rfl,tW.j⟩
  ·rw[decide_eq_false h0];rcases h9 with rfl|rfl
   all_goals
    go_enter func14,ntmps14;go_upto_region 1 with fail
    rw[<-ag,<-az];clear ag az;go_wp2_with fail
    all_goals
     go_ret;exact⟨rfl,tW.j⟩
 ·have n9:(o1==9)=false:=by simp;omega
  have n10:(o1==10)=false:=by simp;omega
  have e1:dk K.os K.rs (o1,o2)=decide ((o1,o2)∈fE K.os K.rs):=by unfold dk;rw[if_neg h9]
  rw[e1];generalize fE K.os K.rs=al at*;clear e1 h9;go_enter func14,ntmps14;go_upto_region 1 with fail
  rw[<-ag,<-az];clear ag az;go_wp2_with fail;refine HA.j.m ?_;rintro e w2 ⟨v,rfl,ls,hl,DF,_,aC⟩;have aL:=aa (tW.j.trans aC);have fZ:=aa (ae.keep aC fA.j (λh=>h));have HL:=aa hl;have Uj:=aa DF;obtain⟨p,c,rfl,_,_,hg⟩:=hl.form;have HG:=aa hg;have hn:ls.length<=2560:=by rw[DF.length_eq];exact cX.j
  obtain⟨N,hN⟩:=Ze (ls.length);have HN:=aa hN;rw[<-hN] at hn;have q0:w2.cell? ⟨ob,0,none⟩=some (Zi o1):=Zl fZ.j;have q1:w2.cell? ⟨ob,1,none⟩=some (Zi o2):=Zl fZ.j;rw[<-hN];clear hl DF hg hN aC tW HA fA c2;go_wp2_with fail
  go_loopw [6] (λd wr=>∃k:Nat,d=Zi (k:Int)/\k<=N/\Hid (∀x∈ls.take k,x≠(o1,o2))/\Hid (Zq w2 wr)) (λd _=>N - (RowKit.intOf d).toNat)
  case atStart=>exact⟨0,rfl,Zo,(λx hx=>by simp at hx),ae.refl _ _⟩
  case round=>
   obtain⟨k,rfl,hk,HQ,tV⟩:=hrel;by_cases ah:k<N
   ·have bq:k<ls.length:=by have:=HN.j;omega
    have h1:(k:Int)<(N:Int):=Zo;have bf:0<=(k:Int)/\(k:Int)<(N:Int):=Zo;have iY:=Zf k Zo;obtain⟨g,rfl,mD,fW,_⟩:=HG.j Zo;obtain⟨b0,b1⟩:=JH HL.j bq;have gn:=au fZ.j;rw[<-tV.j.cell fW (λh=>h)] at b0 b1;rw[<-tV.j.cell (p:=⟨ob,0,none⟩) gn (λh=>h)] at q0;rw[<-tV.j.cell (p:=⟨ob,1,none⟩) gn (λh=>h)] at q1;have HX:Hid (ls[k]∈ls):=List.getElem_mem bq;have HT:Hid (ls.take (k+1)=ls.take k++[ls[k]]):=List.take_succ_eq_append_getElem bq;obtain⟨y,hy⟩:=Ze (ls[k]);rw[<-hy] at b0 b1 HX HT;obtain⟨y1,y2⟩:=y;dsimp only at b0 b1;clear hy mD fW gn ah;by_cases e1:y1=o1
    ·subst e1;by_cases e2:y2=o2
     ·subst e2;go_wp2_with fail;go_quiet (fail);go_wp2_with fail
      all_goals
       go_ret;exact⟨by rw[decide_eq_true (Uj.j.mem_iff.1 HX.j)];rfl,aL.j.trans (tV.j.trans ((ae.refl _ _).drewN _))⟩
     ·have e3:(y2==o2)=false:=by simpa using e2
      have HE:Hid ((y1,y2)≠(y1,o2)):=λh=>e2 (by injection h)
      clear e2;go_wp2_with fail;go_quiet (fail);go_wp2_with fail;go_roundw
      case rel=>exact⟨k+1,by go_num,Zo,(λx hx=>by
       rw[HT.j,List.mem_append,List.mem_singleton] at hx;rcases hx with hx|rfl
       ·exact HQ.j x hx
       ·exact HE.j),tV.j.trans ((ae.refl _ _).drewN _)⟩
      case measure=>exact Zm
    ·have e3:(y1==o1)=false:=by simpa using e1
     have HE:Hid ((y1,y2)≠(o1,o2)):=λh=>e1 (by injection h)
     clear e1;go_wp2_with fail;go_quiet (fail);go_wp2_with fail;go_roundw
     case rel=>exact⟨k+1,by go_num,Zo,(λx hx=>by
      rw[HT.j,List.mem_append,List.mem_singleton] at hx;rcases hx with hx|rfl
      ·exact HQ.j x hx
      ·exact HE.j),tV.j.trans ((ae.refl _ _).drewN _)⟩
     case measure=>exact Zm
   ·obtain rfl:k=N:=Zo;have h1:¬(k:Int)<(k:Int):=Zo
    have HE:Hid (decide ((o1,o2)∈al)=false):=by
     refine decide_eq_false (λhm=>?_);have bE:=Uj.j.mem_iff.2 hm;rw[HN.j,List.take_length] at HQ;exact HQ.j _ bE rfl
    clear ah HQ;go_wp2_with fail
    all_goals
     go_ret;exact⟨by rw[HE.j];rfl,aL.j.trans tV.j⟩
end
section
variable {kb mb sb pb qb bb:Nat} {vT:Value} {U V S:Nat->Prop} {w wv w2:World} {K K2:Kn} {F:List (Nat×Obj)}
def fF (U:Nat->Prop) (w:World) (kb mb sb pb qb bb:Nat) (K:Kn):Prop:=∃vT,aI U w kb mb sb pb qb bb vT K
structure aA (U:Nat->Prop) (w:World) (kb mb sb pb qb bb:Nat) (F:List (Nat×Obj)) (K:Kn) (wv:World):Prop where
 k:∃V:Nat->Prop,(∀k,U k->V k)/\(∀p∈F,V p.1)/\fF V wv kb mb sb pb qb bb K
 f:∀p∈F,wv.heap[p.1]?=some p.2
 o:Zn U w wv
theorem fF.quiet (h:fF U w kb mb sb pb qb bb K) (ho:Zq w w2):fF U w2 kb mb sb pb qb bb K:=by
 obtain⟨vT,h⟩:=h;exact⟨vT,h.quiet ho⟩
theorem aA.start (h:fF U w kb mb sb pb qb bb K):aA U w kb mb sb pb qb bb [] K w:=⟨⟨U,λ_ h=>h,λp hp=>(by cases hp),h⟩,λp hp=>(by cases hp),ae.refl _ _⟩
theorem aA.quiet (h:aA U w kb mb sb pb qb bb F K wv) (ho:Zq wv w2):aA U w kb mb sb pb qb bb F K w2:=by
 obtain⟨⟨V,h1,h2,h3⟩,h4,h5⟩:=h;exact⟨⟨V,h1,h2,h3.quiet ho⟩,λp hp=>ae.keep ho (h4 p hp) (λh=>h),h5.trans (ho.f)⟩
theorem aA.drew (h:aA U w kb mb sb pb qb bb F K wv):aA U w kb mb sb pb qb bb F K wv.drew:=h.quiet ((ae.refl _ _).drew)
theorem aA.alloc (h:aA U w kb mb sb pb qb bb F K wv) (o:Obj):aA U w kb mb sb pb qb bb ((wv.heap.size,o)::F) K (wv.alloc o):=by
 obtain⟨⟨V,h1,h2,vT,h3⟩,h4,h5⟩:=h;have ho:Zq wv (wv.alloc o):=(ae.refl _ wv).alloc o;refine⟨⟨_,λk hk=>Or.inl (h1 k hk),λp hp=>?_,vT,h3.wide ho⟩,λp hp=>?_,h5.trans (ho.f)⟩
 ·rcases List.mem_cons.1 hp with rfl|hp
  ·exact Or.inr ⟨Nat.le_refl _,by simp⟩
  ·exact Or.inl (h2 p hp)
 ·rcases List.mem_cons.1 hp with rfl|hp
  ·exact heap_alloc_last wv o
  ·exact ae.keep ho (h4 p hp) (λh=>h)
theorem aA.at (h:aA U w kb mb sb pb qb bb F K wv) {b:Nat} {o:Obj} (hm:(b,o)∈F):wv.heap[b]?=some o:=h.f _ hm
theorem aA.call (h:aA U w kb mb sb pb qb bb F K wv) {f:FuncId} {args:Array Value} {v:Value} (hc:∀V vT,aI V wv kb mb sb pb qb bb vT K->Zk f args wv λe w'=>Zr e v/\fF V w' kb mb sb pb qb bb K2/\Zn V wv w'):
  Zk f args wv λe w'=>Zr e v/\Hid (aA U w kb mb sb pb qb bb F K2 w'):=by
 obtain⟨⟨V,h1,h2,vT,h3⟩,h4,h5⟩:=h;refine(hc V vT h3).m ?_;rintro e w' ⟨rfl,h6,h7⟩;exact⟨rfl,⟨V,h1,h2,h6⟩,λp hp=>ae.keep h7 (h4 p hp) (λh=>h (h2 p hp)),h5.trans (h7.mono (λk _ h8 h9=>h8 (h1 k h9)))⟩
theorem aA.read (h:aA U w kb mb sb pb qb bb F K wv) {f:FuncId} {args:Array Value} {v:Value} (hc:∀V vT,aI V wv kb mb sb pb qb bb vT K->Zk f args wv λe w'=>Zr e v/\Zq wv w'):
  Zk f args wv λe w'=>Zr e v/\Hid (aA U w kb mb sb pb qb bb F K w'):=by
 have h0:=h;obtain⟨⟨V,h1,h2,vT,h3⟩,h4,h5⟩:=h;refine(hc V vT h3).m ?_;rintro e w' ⟨rfl,ho⟩;exact⟨rfl,h0.quiet ho⟩
theorem aA.fin (h:aA U w kb mb sb pb qb bb F K wv):fF U wv kb mb sb pb qb bb K/\Zn U w wv:=by
 obtain⟨⟨V,h1,h2,vT,h3⟩,h4,h5⟩:=h;exact⟨⟨vT,h3.thin h1⟩,h5⟩
theorem aA.c (h:aA U w kb mb sb pb qb bb F K wv):wv.cell? ⟨kb,0,none⟩=some (Zp mb)/\wv.cell? ⟨kb,1,none⟩=some (Zp sb)/\wv.cell? ⟨kb,2,none⟩=some (Zp pb)/\wv.cell? ⟨kb,3,none⟩=some (Zp qb)/\wv.cell? ⟨kb,4,none⟩=some (Zp bb):=by
 obtain⟨⟨V,h1,h2,vT,h3⟩,h4,h5⟩:=h;exact⟨h3.c0,h3.c1,h3.c2,h3.c3,h3.c4⟩
theorem aA.two (h:aA U w kb mb sb pb qb bb F K wv) {b:Nat} {a0 a1:Value} {T:TypeId} (hm:(b,.cells #[a0,a1] T (0,0))∈F):wv.cell? ⟨b,0,none⟩=some a0/\wv.cell? ⟨b,1,none⟩=some a1:=⟨(cell_of_row _ _ 0 _ _ (0,0) (h.at hm)).trans rfl,(cell_of_row _ _ 1 _ _ (0,0) (h.at hm)).trans rfl⟩
theorem aaN (k:Int) (w:World):Zk 58 #[Zi k] w λe w'=>Zr e (.bool (decide (2<=k/\k<=8)))/\w'=w:=by
 by_cases h2:2<=k
 ·by_cases h8:k<=8
  ·rw[decide_eq_true ⟨h2,h8⟩];have SM:k>=2:=h2;go_enter func58,ntmps58;go_wp2_with fail
   all_goals
    go_ret;exact⟨rfl,rfl⟩
  ·rw[decide_eq_false (λh=>h8 h.2)];have SM:k>=2:=h2;go_enter func58,ntmps58;go_wp2_with fail
   all_goals
    go_ret;exact⟨rfl,rfl⟩
 ·rw[decide_eq_false (λh=>h2 h.1)];have SM:¬k>=2:=h2;go_enter func58,ntmps58;go_wp2_with fail
  all_goals
   go_ret;exact⟨rfl,rfl⟩
end
section
variable {kb mb sb pb qb bb:Nat} {vT:Value} {U V S:Nat->Prop} {w wv w2:World} {K K2:Kn} {F:List (Nat×Obj)}
theorem aA.zero (h:aA U w kb mb sb pb qb bb F K wv) (p:Int):Zk 114 #[Zp mb,Zi p] wv λe w'=>Zr e (Zi ((j5 K.f K.n p).2:Nat))/\Hid (aA U w kb mb sb pb qb bb F {K with f:=(j5 K.f K.n p).1} w'):=
 h.call (λV vT h=>(h.zero p).mono (λ_ _ h=>⟨h.1,⟨vT,h.2.1⟩,h.2.2⟩))
theorem aA.make (h:aA U w kb mb sb pb qb bb F K wv) (num n:Int) (hl:K.bs.length<1000000):Zk 115 #[Zp sb,Zi num,Zi n] wv λe w'=>Zr e (Zi (gX K.bs num n))/\Hid (aA U w kb mb sb pb qb bb F {K with bs:=fH K.bs num n} w'):=
 h.call (λV vT h=>(h.make num n hl).mono (λ_ _ h=>⟨h.1,⟨vT,h.2.1⟩,h.2.2⟩))
theorem aA.zO (h:aA U w kb mb sb pb qb bb F K wv) (n:Int) (b:Bool) (hl:K.b.ps.length<1000000):Zk 116 #[Zp bb,Zi n,.bool b] wv λe w'=>Zr e (Zi (nX K.b n))/\Hid (aA U w kb mb sb pb qb bb F {K with b:=jR K.b n b} w'):=
 h.call (λV vT h=>(h.zO n b hl).mono (λ_ _ h=>⟨h.1,⟨vT,h.2.1⟩,h.2.2⟩))
abbrev MkS (kb mb sb bb ob:Nat) (k n:Int) (wv:World):Prop:=wv.cell? ⟨kb,0,none⟩=some (Zp mb)/\wv.cell? ⟨kb,1,none⟩=some (Zp sb)/\wv.cell? ⟨kb,4,none⟩=some (Zp bb)/\wv.cell? ⟨ob,0,none⟩=some (Zi k)/\wv.cell? ⟨ob,1,none⟩=some (Zi n)
theorem aA.nj {ob:Nat} {k n:Int} (h:aA U w kb mb sb pb qb bb F K wv) (hm:(ob,.cells #[Zi k,Zi n] 85 (0,0))∈F):MkS kb mb sb bb ob k n wv:=⟨h.c.1,h.c.2.1,h.c.2.2.2.2,(h.two hm).1,(h.two hm).2⟩
theorem acs (h:fF U w kb mb sb pb qb bb K) (bq:K.bs.length<1000000) (n size:Int):Zk 59 #[Zp kb,.agg #[Zi 5,Zi n],Zi size] w λe w'=>Zr e (.tuple #[])/\fF U w' kb mb sb pb qb bb (ly K (5,n) size)/\Zn U w w':=by
 rw[show ly K (5,n) size={K with f:=(j5 K.f K.n n).1,bs:=fH K.bs n size} from rfl];obtain⟨oo,iZ⟩:=Ze (Obj.cells #[Zi 5,Zi n] 85 (0,0));have H1:=aa ((aA.start h).alloc oo);obtain⟨w1,ag⟩:=Ze (w.alloc oo);obtain⟨ob,az⟩:=Ze (w.heap.size);rw[<-ag,<-az] at H1;have HM:Hid ((ob,Obj.cells #[Zi 5,Zi n] 85 (0,0))∈[(ob,oo)]):=by rw[iZ];exact List.mem_cons_self
 generalize [(ob,oo)]=F at*;have af:=aa (H1.j.drew.nj HM.j);have ak:=af;have HZ:=aa (H1.j.drew.zero n);clear h;go_enter func59,ntmps59;go_upto_region 1 with fail
 rw[<-iZ,<-ag,<-az];clear ag az iZ;go_region_held3 (λwv=>Zc wv kb 0 (Zp mb)/\Zc wv kb 1 (Zp sb)/\Zc wv kb 4 (Zp bb)/\Zc wv ob 0 (Zi 5)/\Zc wv ob 1 (Zi n)) (with_reducible (first|exact af.j|exact ak.j)) (first|(go_at_call 114;refine HZ.j.m ?_;rintro e w2 ⟨rfl,H2⟩;have ak:=aa (H2.j.nj HM.j)));obtain⟨a0,a1,a4,q0,q1⟩:=ak.j;clear af ak HZ H1;go_upto_region 4 with fail
 clear a0 a1 a4 q0 q1;have af:=aa (H2.j.drew.nj HM.j);have ak:=af;have HZ:=aa (H2.j.drew.make n size bq);go_region_held3 (λwv=>Zc wv kb 0 (Zp mb)/\Zc wv kb 1 (Zp sb)/\Zc wv kb 4 (Zp bb)/\Zc wv ob 0 (Zi 5)/\Zc wv ob 1 (Zi n)) (with_reducible (first|exact af.j|exact ak.j)) (first|(go_at_call 115;refine HZ.j.m ?_;rintro e w3 ⟨rfl,H3⟩;have ak:=aa (H3.j.nj HM.j)));go_wp2_with fail
 all_goals
  go_end0;exact⟨rfl,H3.j.fin⟩
theorem acr (h:fF U w kb mb sb pb qb bb K) (bq:K.b.ps.length<1000000) (k n size:Int) (hk:k=7\/k=8):Zk 59 #[Zp kb,.agg #[Zi k,Zi n],Zi size] w λe w'=>Zr e (.tuple #[])/\fF U w' kb mb sb pb qb bb (ly K (k,n) size)/\Zn U w w':=by
 rw[show ly K (k,n) size={K with f:=(j5 K.f K.n n).1,b:=jR K.b n (decide (k=8))} from by rcases hk with rfl|rfl<;>rfl];rcases hk with rfl|rfl
 ·obtain⟨oo,iZ⟩:=Ze (Obj.cells #[Zi 7,Zi n] 85 (0,0));have H1:=aa ((aA.start h).alloc oo);obtain⟨w1,ag⟩:=Ze (w.alloc oo);obtain⟨ob,az⟩:=Ze (w.heap.size);rw[<-ag,<-az] at H1;have HM:Hid ((ob,Obj.cells #[Zi 7,Zi n] 85 (0,0))∈[(ob,oo)]):=by rw[iZ];exact List.mem_cons_self
  generalize [(ob,oo)]=F at*;have af:=aa (H1.j.drew.nj HM.j);have ak:=af;have HZ:=aa (H1.j.drew.zero n);clear h;go_enter func59,ntmps59;go_upto_region 1 with fail
  rw[<-iZ,<-ag,<-az];clear ag az iZ;go_region_held3 (λwv=>Zc wv kb 0 (Zp mb)/\Zc wv kb 1 (Zp sb)/\Zc wv kb 4 (Zp bb)/\Zc wv ob 0 (Zi 7)/\Zc wv ob 1 (Zi n)) (with_reducible (first|exact af.j|exact ak.j)) (first|(go_at_call 114;refine HZ.j.m ?_;rintro e w2 ⟨rfl,H2⟩;have ak:=aa (H2.j.nj HM.j)));obtain⟨a0,a1,a4,q0,q1⟩:=ak.j;clear af ak HZ H1;go_upto_region 16 with fail
  clear a0 a1 a4 q0 q1;have af:=aa (H2.j.drew.nj HM.j);have ak:=af;have HZ:=aa (H2.j.drew.zO n false bq);go_region_held3 (λwv=>Zc wv kb 0 (Zp mb)/\Zc wv kb 1 (Zp sb)/\Zc wv kb 4 (Zp bb)/\Zc wv ob 0 (Zi 7)/\Zc wv ob 1 (Zi n)) (with_reducible (first|exact af.j|exact ak.j)) (first|(go_at_call 116;refine HZ.j.m ?_;rintro e w3 ⟨rfl,H3⟩;have ak:=aa (H3.j.nj HM.j)));go_wp2_with fail
  all_goals
   go_end0;exact⟨rfl,H3.j.fin⟩
 ·obtain⟨oo,iZ⟩:=Ze (Obj.cells #[Zi 8,Zi n] 85 (0,0));have H1:=aa ((aA.start h).alloc oo);obtain⟨w1,ag⟩:=Ze (w.alloc oo);obtain⟨ob,az⟩:=Ze (w.heap.size);rw[<-ag,<-az] at H1;have HM:Hid ((ob,Obj.cells #[Zi 8,Zi n] 85 (0,0))∈[(ob,oo)]):=by rw[iZ];exact List.mem_cons_self
  generalize [(ob,oo)]=F at*;have af:=aa (H1.j.drew.nj HM.j);have ak:=af;have HZ:=aa (H1.j.drew.zero n);clear h;go_enter func59,ntmps59;go_upto_region 1 with fail
  rw[<-iZ,<-ag,<-az];clear ag az iZ;go_region_held3 (λwv=>Zc wv kb 0 (Zp mb)/\Zc wv kb 1 (Zp sb)/\Zc wv kb 4 (Zp bb)/\Zc wv ob 0 (Zi 8)/\Zc wv ob 1 (Zi n)) (with_reducible (first|exact af.j|exact ak.j)) (first|(go_at_call 114;refine HZ.j.m ?_;rintro e w2 ⟨rfl,H2⟩;have ak:=aa (H2.j.nj HM.j)));obtain⟨a0,a1,a4,q0,q1⟩:=ak.j;clear af ak HZ H1;go_upto_region 16 with fail
  clear a0 a1 a4 q0 q1;have af:=aa (H2.j.drew.nj HM.j);have ak:=af;have HZ:=aa (H2.j.drew.zO n true bq);go_region_held3 (λwv=>Zc wv kb 0 (Zp mb)/\Zc wv kb 1 (Zp sb)/\Zc wv kb 4 (Zp bb)/\Zc wv ob 0 (Zi 8)/\Zc wv ob 1 (Zi n)) (with_reducible (first|exact af.j|exact ak.j)) (first|(go_at_call 116;refine HZ.j.m ?_;rintro e w3 ⟨rfl,H3⟩;have ak:=aa (H3.j.nj HM.j)));go_wp2_with fail
  all_goals
   go_end0;exact⟨rfl,H3.j.fin⟩
theorem acq (h:fF U w kb mb sb pb qb bb K) (k n size:Int) (hk:k≠5/\k≠6/\k≠7/\k≠8):Zk 59 #[Zp kb,.agg #[Zi k,Zi n],Zi size] w λe w'=>Zr e (.tuple #[])/\fF U w' kb mb sb pb qb bb (ly K (k,n) size)/\Zn U w w':=by
 obtain⟨k5,k6,k7,k8⟩:=hk;rw[show ly K (k,n) size={K with f:=(j5 K.f K.n n).1} from by unfold ly;simp only[k5,k6,k7,k8,if_false,or_self]];have b5:(k==5)=false:=by simpa using k5
 have b6:(k==6)=false:=by simpa using k6
 have b7:(k==7)=false:=by simpa using k7
 have b8:(k==8)=false:=by simpa using k8
 clear k5 k6 k7 k8;obtain⟨oo,iZ⟩:=Ze (Obj.cells #[Zi k,Zi n] 85 (0,0));have H1:=aa ((aA.start h).alloc oo);obtain⟨w1,ag⟩:=Ze (w.alloc oo);obtain⟨ob,az⟩:=Ze (w.heap.size);rw[<-ag,<-az] at H1;have HM:Hid ((ob,Obj.cells #[Zi k,Zi n] 85 (0,0))∈[(ob,oo)]):=by rw[iZ];exact List.mem_cons_self
 generalize [(ob,oo)]=F at*;have af:=aa (H1.j.drew.nj HM.j);have ak:=af;have HZ:=aa (H1.j.drew.zero n);clear h;go_enter func59,ntmps59;go_upto_region 1 with fail
 rw[<-iZ,<-ag,<-az];clear ag az iZ;go_region_held3 (λwv=>Zc wv kb 0 (Zp mb)/\Zc wv kb 1 (Zp sb)/\Zc wv kb 4 (Zp bb)/\Zc wv ob 0 (Zi k)/\Zc wv ob 1 (Zi n)) (with_reducible (first|exact af.j|exact ak.j)) (first|(go_at_call 114;refine HZ.j.m ?_;rintro e w2 ⟨rfl,H2⟩;have ak:=aa (H2.j.nj HM.j)));obtain⟨a0,a1,a4,q0,q1⟩:=ak.j;clear af ak HZ H1;go_wp2_with fail
 all_goals
  go_end0;exact⟨rfl,H2.j.fin⟩
end
section
variable {kb mb sb pb qb bb:Nat} {vT:Value} {U V S:Nat->Prop} {w wv w2 w3:World} {K K2:Kn} {F:List (Nat×Obj)}
theorem Xc:Kind prog iL 69 118:=kG (z:=.agg #[Zi 0,Zi 0,Zi 0,Zi 0,.bool false,Zi 0,Zi 0,Zi 0,Zi 0,Zi 0,Zi 0,Zi 0,Zi 0,Zi 0,Zi 0,Zi 0,Zi 0,Zi 0,Zi 0,Zi 0,Zi 0,Zi 0,Zi 0,Zi 0,Zi 0,Zi 0,Zi 0,Zi 0,Zi 0,Zi 0,Zi 0,Zi 0,Zi 0,Zi 0,Zi 0,Zi 0,Zi 0,Zi 0]) (b:=304) underlying69 Zx rfl Zd
theorem Qx:(prog.info? 118).map (·.size)=some 38:=Zx
theorem aI.XI (h:aI U w kb mb sb pb qb bb vT K) {v':Value} {T':List Kt} (ho:ai iL w3 0 118 v' T') (ay:ae (λk=>vT.ownBlock=some k) w w3) (hl:∀k,v'.ownBlock=some k->vT.ownBlock=some k\/w.heap.size<=k) (hn:T'.length<=1000):
  aI U (w3.setCell ⟨kb,5,none⟩ v') kb mb sb pb qb bb v' {K with T:=T'}/\Zn U w (w3.setCell ⟨kb,5,none⟩ v'):=by
 obtain⟨U2,a,_,Ah,b⟩:=aD.open h 5 rfl
 have jV:∀k,vT.ownBlock=some k->kb≠k:=λk hk=>by
  obtain⟨cur,hc⟩:=bu a.t hk;exact cE a.k hc Zd
 have pS:=ae.keep ay a.k (λhk=>jV kb hk rfl)
 have aei:∀k,v'.ownBlock=some k->kb≠k:=λk hk=>by
  obtain⟨cur,hc⟩:=bu ho hk;exact cE pS hc Zd
 have bL:ae (λk=>k=kb) w3 (w3.setCell ⟨kb,5,none⟩ v'):=ae.setCell (S:=λk=>k=kb) (ae.refl _ w3) (Or.inl rfl) v';have hs:=ay.size;have Kw:=bL.size;refine b (p3 kb mb sb pb qb bb v' T' K.L K.ci K.co K.c) _ p3.bj ⟨?_,ho.kept bL (λk hk he=>aei k hk he.symm),a.uk,λk hk hu=>?_,λk hk=>by have:=Ah k hk;omega,hn⟩ ?_
 ·rw[heap_setCell_same _ _ 5 _ _ _ pS];rfl
 ·rcases hl k hk with h1|h1
  ·exact a.ut k h1 hu
  ·have:=Ah k hu;omega
 ·exact(ay.mono (λk _ hk hu=>a.ut k hk hu)).trans (bL.mono (λk _ hk hu=>by subst hk;exact a.uk hu))
theorem aI.OI (h:aI U w kb mb sb pb qb bb vT K) {T':List Kt} (ho:ai iL w3 0 118 vT T') (ay:ae (λk=>vT.ownBlock=some k) w w3) (hn:T'.length<=1000):
  aI U w3 kb mb sb pb qb bb vT {K with T:=T'}/\Zn U w w3:=by
 obtain⟨U2,a,_,Ah,b⟩:=aD.open h 5 rfl
 have jV:∀k,vT.ownBlock=some k->kb≠k:=λk hk=>by
  obtain⟨cur,hc⟩:=bu a.t hk;exact cE a.k hc Zd
 have pS:=ae.keep ay a.k (λhk=>jV kb hk rfl);have hs:=ay.size;exact b (p3 kb mb sb pb qb bb vT T' K.L K.ci K.co K.c) _ p3.bj ⟨pS,ho,a.uk,a.ut,λk hk=>by have:=Ah k hk;omega,hn⟩ (ay.mono (λk _ hk hu=>a.ut k hk hu))
theorem AT {α:Type} (L:Lay α):∀(xs:List α) (k:Nat) (y:α),k<xs.length->(fl L xs).take (k*L.sz)++L.cf y++(fl L xs).drop (k*L.sz+L.sz)=fl L (xs.set k y)
 |[],k,y,h=>by cases h
 |x::r,0,y,_=>by
  rw[ov,List.set_cons_zero,ov,Nat.zero_mul,Nat.zero_add,List.take_zero,List.nil_append];congr 1
  rw[<-L.len x,List.drop_left]
 |x::r,k+1,y,h=>by
  have ih:=AT L r k y (by simpa using h);rw[ov,List.set_cons_succ,ov,<-ih];have e:(k+1)*L.sz=(L.cf x).length+k*L.sz:=by rw[L.len,Nat.add_mul];omega
  rw[e,List.take_length_add_append,Nat.add_assoc,List.drop_length_add_append];simp
theorem Px {α:Type} {L:Lay α} {base g n c:Nat} {e:TypeId} {xs:List α} (h:ai L w base e (Zs g n c) xs) (hn:n=xs.length) {k:Nat} (hk:k<xs.length) (y:α):ai L (w.setCells g (k*L.sz) (L.cf y)) base e (Zs g n c) (xs.set k y)/\ae (λk=>k=g) w (w.setCells g (k*L.sz) (L.cf y)):=by
 subst hn;obtain⟨h1,h2⟩:=JK (L.cf y) (fl L xs) (k*L.sz) w h;refine⟨?_,h2⟩;have hl:(fl L xs).length=xs.length*L.sz:=h.1
 have hle:k*L.sz+L.sz<=xs.length*L.sz:=by
  have h9:(k+1)*L.sz<=xs.length*L.sz:=Nat.mul_le_mul_right L.sz hk;rw[Nat.add_mul] at h9;omega
 rw[Je _ _ _ (by rw[L.len,hl];exact hle),L.len,AT L xs k y hk] at h1;show World.ownsRow _ _ _ _ _ _ _;rw[List.length_set];exact h1
theorem zN {α:Type} {L:Lay α} {base g n c:Nat} {e:TypeId} {xs:List α} (h:ai L w base e (Zs g n c) xs) {k:Nat} (hk:k<xs.length):w.rangeAt g (k*L.sz) (L.cf xs[k]):=λj u hj=>by
 have bg:j<L.sz:=by have:=(List.getElem?_eq_some_iff.1 hj).1;rw[L.len] at this;exact this
 rw[h.cell k j hk bg];exact hj
theorem Jp {g o:Nat} {cs:List Value} (h:w.rangeAt g o cs) (hf:∀j,w.frozen? ⟨g,j,none⟩=false):w.there g o cs.length:=λj hj=>by
 refine⟨?_,hf _⟩;rw[h j _ (List.getElem?_eq_getElem hj)];rfl
theorem Yb (n:Int) (w:World):(Instr.build 118 #[(0,Zi n),(2,Zi (-1)),(3,Zi (-1))]).run prog w=.ok (.agg (aZ (ni n)).toArray) w:=Zx
theorem X2 (a:Kt) (w:World):(Instr.buildSlice 69 1 #[(0,.agg (aZ a).toArray)]).run prog w=.ok (Zs w.heap.size 1 1) (w.alloc (.cells (aZ a).toArray 118)):=Zx
theorem afJ {o:Oper} {act:Act} (x0 x2 x3:Operand) (ho:o.op=.build 118 #[(0,x0),(2,x2),(3,x3)]) {n:Int} (h0:act.eval x0=Zi n) (h2:act.eval x2=Zi (-1)) (h3:act.eval x3=Zi (-1)):(execOp act.eval o).run prog w=.ok (.value (.agg (aZ (ni n)).toArray)) w:=by
 have aM:=Yb n w;generalize (aZ (ni n)).toArray=e at aM;simp only[execOp,ho];simp[h0,h2,h3,aM,Result.andThen]
theorem Yn {o:Oper} {act:Act} {K:Act->World->Prop} {Q:Exit->Act->World->Prop} (x:Operand) (d:Nat) (ho:o.op=.buildSlice 69 1 #[(0,x)]) (hd:o.dst=some d) {a:Kt} (hx:act.eval x=.agg (aZ a).toArray) (h:K (act.put (some d) (Zs w.heap.size 1 1)) (w.alloc (.cells (aZ a).toArray 118))):Oper.wp prog o act w K Q:=by
 have aM:=X2 a w;generalize (aZ a).toArray=c at aM hx h;unfold Oper.wp;simp only[execOp,ho];simp[hx,aM,Result.andThen];rw[Oper.upon_value,hd];exact h
theorem J6 {o:Oper} {act:Act} (x:Operand) (ho:o.op=.load 118 x) {g off:Nat} {e:Kt} (hx:act.eval x=.pointer (some ⟨g,off,none⟩)) (h:w.rangeAt g off (aZ e)):(execOp act.eval o).run prog w=.ok (.value (.agg (aZ e).toArray)) w:=by
 have aM:=run_loadAt_mid (P:=prog) w g off 118 (aZ e) _ h underlying118 rfl (by rw[Qx];exact congrArg some (iL.len e).symm);generalize (aZ e).toArray=c at aM;simp only[execOp,ho,hx];simp[aM,Result.andThen]
theorem jA {b:Nat} {cs:Array Value} {t:TypeId} (h:w.heap[b]?=some (.cells cs t (0,0))) (j:Nat):w.frozen? ⟨b,j,none⟩=false:=by simp[World.frozen?,h]
end
section
variable {kb mb sb pb qb bb:Nat} {vT:Value} {U V S:Nat->Prop} {w wv w2 w3:World} {K K2:Kn} {F:List (Nat×Obj)}
def MM (U:Nat->Prop) (w:World) (kb mb sb pb qb bb:Nat) (F:List (Nat×Obj)) (K:Kn) (x:Kt) (T:List Kt) (i:Nat) (wr:World):Prop:=∃Y,nN x T i Y/\aA U w kb mb sb pb qb bb F {K with T:=Y} wr
theorem aA.dh (h:aA U w kb mb sb pb qb bb F K wv):∃V:Nat->Prop,(∀k,U k->V k)/\(∀p∈F,V p.1)/\∃vT,aI V wv kb mb sb pb qb bb vT K:=h.k
theorem aA.put (h:aA U w kb mb sb pb qb bb F K wv) (hV:∀k,U k->V k) (hF:∀p∈F,V p.1) (hk:aI V w2 kb mb sb pb qb bb vT K2) (ho:Zn V wv w2):aA U w kb mb sb pb qb bb F K2 w2:=
 ⟨⟨V,hV,hF,vT,hk⟩,λp hp=>ae.keep ho (h.f p hp) (λh9=>h9 (hF p hp)),h.o.trans (ho.mono (λk _ h8 h9=>h8 (hV k h9)))⟩
theorem aA.low (h:aA U w kb mb sb pb qb bb F K wv):∀k,U k->k<wv.heap.size:=by
 obtain⟨⟨V,h1,h2,vT,h3⟩,_,_⟩:=h;exact λk hk=>aD.ul h3 k (h1 k hk)
theorem aA.tail {p:Nat×Obj} (h:aA U w kb mb sb pb qb bb (p::F) K wv):aA U w kb mb sb pb qb bb F K wv:=by
 obtain⟨⟨V,h1,h2,h3⟩,h4,h5⟩:=h;exact⟨⟨V,h1,λq hq=>h2 q (List.mem_cons_of_mem _ hq),h3⟩,λq hq=>h4 q (List.mem_cons_of_mem _ hq),h5⟩
theorem aA.fh {b:Nat} {o o2:Obj} (h:aA U w kb mb sb pb qb bb ((b,o)::F) K wv) (ho:ae (λk=>k=b) wv w2) (hb:w2.heap[b]?=some o2) (hU:¬U b) (hF:∀p∈F,p.1≠b):aA U w kb mb sb pb qb bb ((b,o2)::F) K w2:=by
 obtain⟨⟨V,h1,h2,vT,h3⟩,h4,h5⟩:=h;refine⟨⟨V,h1,λq hq=>?_,vT,ik.j (aD.bj _) h3 ho (λk _ hk=>by subst hk;exact h2 _ List.mem_cons_self)⟩,λq hq=>?_,h5.trans (ho.mono (λk _ hk=>by subst hk;exact hU))⟩
 ·rcases List.mem_cons.1 hq with rfl|hq
  ·exact h2 (b,o) List.mem_cons_self
  ·exact h2 q (List.mem_cons_of_mem _ hq)
 ·rcases List.mem_cons.1 hq with rfl|hq
  ·exact hb
  ·exact ae.keep ho (h4 q (List.mem_cons_of_mem _ hq)) (hF q hq)
theorem aI.zK {g m c:Nat} (h:aI V wv kb mb sb pb qb bb (Zs g m c) K) (hm:m=K.T.length) {k:Nat} (hk:k<K.T.length) (y:Kt):aI V (wv.setCells g (k*38) (aZ y)) kb mb sb pb qb bb (Zs g m c) {K with T:=K.T.set k y}/\Zn V wv (wv.setCells g (k*38) (aZ y)):=by
 obtain⟨h1,h2⟩:=Px h.t hm hk y;exact h.OI h1 (h2.mono (λk _ hk=>by subst hk;rfl)) (by rw[List.length_set];exact h.nt)
theorem uD {g:Nat} {t:TypeId}:∀(vs pre xH:List Value) (w:World),xH.length=vs.length->w.heap[g]?=some (.cells (pre++xH).toArray t (0,0))->(w.setCells g pre.length vs).heap[g]?=some (.cells (pre++vs).toArray t (0,0))/\ae (λk=>k=g) w (w.setCells g pre.length vs)
 |[],pre,xH,w,hl,h=>by
  have:xH=[]:=List.length_eq_zero_iff.1 hl;subst this
  exact⟨h,ae.refl _ w⟩
 |v::r,pre,[],w,hl,h=>by cases hl
 |v::r,pre,s::xH,w,hl,h=>by
  have h1:=heap_setCell_same w g pre.length _ _ v h
  have e1:(pre++s::xH).toArray.setIfInBounds pre.length v=((pre++[v])++xH).toArray:=by
   simp
  rw[e1] at h1;obtain⟨h2,h3⟩:=uD r (pre++[v]) xH _ (by simpa using hl) h1;have e2:(pre++[v]).length=pre.length+1:=by simp
  rw[e2] at h2 h3;refine⟨?_,(ae.setCell (S:=λk=>k=g) (ae.refl _ w) (p:=⟨g,pre.length,none⟩) (Or.inl rfl) v).trans h3⟩;rw[List.append_assoc] at h2;exact h2
theorem s7 (w:World) (b o:Nat) (cs:List Value) (ht:w.there b o cs.length) (h1:∀v∈cs,v.oneCell'=true):(storeCells ⟨b,o,none⟩ cs).run prog w=.ok () (w.setCells b o cs):=by
 have:=run_storeCells_cells (P:=prog) b o cs 0 w (λj hj=>by simpa using(ht j hj).1) (λj hj=>by simpa using(ht j hj).2) h1;simpa only[Nat.add_zero] using this
def IQ:List Value:=[Zi 0,Zi 0,Zi 0,Zi 0,.bool false,Zi 0,Zi 0,Zi 0,Zi 0,Zi 0,Zi 0,Zi 0,Zi 0,Zi 0,Zi 0,Zi 0,Zi 0,Zi 0,Zi 0,Zi 0,Zi 0,Zi 0,Zi 0,Zi 0,Zi 0,Zi 0,Zi 0,Zi 0,Zi 0,Zi 0,Zi 0,Zi 0,Zi 0,Zi 0,Zi 0,Zi 0,Zi 0,Zi 0]
theorem aco (h:fF U w kb mb sb pb qb bb K) (bq:K.bs.length<1000000) (ah:K.T.length<1000) (sm:(K.T.map (·.num)).Pairwise (·<·)) (n size:Int):Zk 59 #[Zp kb,.agg #[Zi 6,Zi n],Zi size] w λe w'=>Zr e (.tuple #[])/\fF U w' kb mb sb pb qb bb (ly K (6,n) size)/\Zn U w w':=by
 obtain⟨T,hT⟩:=Ze (K.T);obtain⟨K1,pV⟩:∃K1:Kn,K1={K with f:=(j5 K.f K.n n).1,bs:=fH K.bs n 4}:=⟨_,rfl⟩
 rw[show ly K (6,n) size={K1 with T:=iy (ni n) T} from by rw[pV,hT];rfl];have ID:Hid (K1.T=T):=by show K1.T=T;rw[pV,hT]
 have iu:=aa pV;have rR:Hid ((T.map (·.num)).Pairwise (·<·)):=by show(T.map (·.num)).Pairwise (·<·);rw[hT];exact sm
 rw[<-hT] at ah;clear hT pV sm;obtain⟨oo,iZ⟩:=Ze (Obj.cells #[Zi 6,Zi n] 85 (0,0));have H1:=aa ((aA.start h).alloc oo);obtain⟨w1,ag⟩:=Ze (w.alloc oo);obtain⟨ob,az⟩:=Ze (w.heap.size);rw[<-ag,<-az] at H1;have HM:Hid ((ob,Obj.cells #[Zi 6,Zi n] 85 (0,0))∈[(ob,oo)]):=by rw[iZ];exact List.mem_cons_self
 generalize [(ob,oo)]=F at*;have af:=aa (H1.j.drew.nj HM.j);have ak:=af;have HZ:=aa (H1.j.drew.zero n);clear h;go_enter func59,ntmps59;go_upto_region 1 with fail
 rw[<-iZ,<-ag,<-az];clear ag az iZ;go_region_held3 (λwv=>Zc wv kb 0 (Zp mb)/\Zc wv kb 1 (Zp sb)/\Zc wv kb 4 (Zp bb)/\Zc wv ob 0 (Zi 6)/\Zc wv ob 1 (Zi n)) (with_reducible (first|exact af.j|exact ak.j)) (first|(go_at_call 114;refine HZ.j.m ?_;rintro e w2 ⟨rfl,H2⟩;have ak:=aa (H2.j.nj HM.j)));obtain⟨a0,a1,a4,q0,q1⟩:=ak.j;clear af ak HZ H1;go_upto_region 6 with fail
 clear a0 a1 a4 q0 q1;have af:=aa (H2.j.drew.nj HM.j);have ak:=af;have HZ:=aa (H2.j.drew.make n 4 bq);go_region_held3 (λwv=>wv.cell? ⟨kb,0,none⟩=some (Zp mb)/\wv.cell? ⟨kb,1,none⟩=some (Zp sb)/\wv.cell? ⟨kb,4,none⟩=some (Zp bb)/\wv.cell? ⟨ob,0,none⟩=some (Zi 6)/\wv.cell? ⟨ob,1,none⟩=some (Zi n)) (with_reducible (first|exact af.j|exact ak.j)) (first|(go_at_call 115;refine HZ.j.m ?_;rintro e w3 ⟨rfl,H3⟩;have ak:=aa (H3.j.nj HM.j)));clear af ak HZ H2 bq;have H3:Hid (aA U w kb mb sb pb qb bb F K1 w3):=by rw[iu.j];exact H3.j
 clear iu;obtain⟨V,AP,SC,vT,hA⟩:=H3.j.dh;have T1:=aa (⟨AP,SC⟩:_/\_);clear AP SC;have sl:=hA.t;rw[ID.j] at sl;obtain⟨pt,ct,pO,_⟩:=sl.form;obtain⟨nt,GZ⟩:=Ze (T.length);rw[<-GZ] at pO;have xr:=aa GZ;clear GZ;subst pO;have HA:=aa hA;have zq:=aa sl;clear sl hA;obtain⟨tv,Ks⟩:∃tv:Kt,tv=ni n:=⟨_,rfl⟩
 obtain⟨wA,cJ⟩:=Ze (w3.drew.alloc (.cells (aZ tv).toArray 118));obtain⟨nA,KS⟩:=Ze (w3.drew.heap.size);have wE:Zq w3 wA:=by rw[cJ];exact((ae.refl _ _).drew).alloc _
 have Bl:=aa (HA.j.quiet wE);have Iu:=aa (zq.j.kept wE (λ_ _ h=>h))
 have xi:Hid (∀j u,(aZ tv)[j]?=some u->wA.cell? ⟨nA,j,none⟩=some u):=λj u hj=>by
  have hl:wA.heap[nA]?=some (.cells (aZ tv).toArray 118 (0,0)):=by rw[cJ,KS];exact heap_alloc_last _ _
  rw[cell_of_row _ _ j _ _ (0,0) hl,List.getElem?_toArray];exact hj
 have cX:Hid (T.length+1<=10000000):=by show _<=_;omega
 have Iz:=aa wE;have af:Hid (Zc w3.drew kb 5 (.slice pt nt ct)/\Zc w3.drew ob 1 (Zi n)):=⟨(HA.j.quiet ((ae.refl _ _).drew)).c5,(H3.j.drew.two HM.j).2⟩
 have eT:Hid (Zc wA kb 5 (.slice pt nt ct)/\Zc wA ob 1 (Zi n)):=⟨Bl.j.c5,((H3.j.quiet wE).two HM.j).2⟩
 clear wE;go_upto_region 7 with fail
 refine zH (S:=(λwv=>wv.cell? ⟨kb,5,none⟩=some (.slice pt nt ct)/\wv.cell? ⟨ob,1,none⟩=some (Zi n))) 12 Zx Zg Zx ?_;simp only[mh,tc,List.setIfInBounds_toArray,List.set_cons_zero,List.set_cons_succ,List.size_toArray,List.length_cons,List.length_nil,Nat.zero_add,Nat.reduceAdd];refine Zt 0 af.j ?_;refine Zt 1 af.j ?_;refine Zt 2 af.j ?_;refine Zt 3 af.j ?_;refine Zt 4 af.j ?_;refine Zt 5 af.j ?_;refine Zt 6 af.j ?_;refine wpAnyH_take (i:=7) (v:=?v7_7) Zg Zx Zx Zx (by exact λ_ _ _ h=>h) (Or.inl ⟨by rfl,?hy7_7⟩) af.j ?_
 case hy7_7=>(intro wq nH;refine(afJ (.tmp 42) _ _ rfl (n:=n) (by simp[Act.eval]) rfl rfl).trans ?_;with_reducible rfl)
 try simp only[Act.put,List.setIfInBounds_toArray,List.set_cons_zero,List.set_cons_succ]
 refine Zy 8 (λK hK=>?_);refine Yn (a:=tv) (.tmp 43) 44 rfl rfl (by rw[Ks];simp[Act.eval]) ?_;rw[<-cJ,<-KS];refine Zb hK eT.j ?_;refine Zy 9 (λK hK=>?_);refine FP Xc rfl (.tmp 40) (.tmp 44) rfl 0 (.slice pt nt ct) T (by simp[Act.eval]) Iu.j tv nA 1 1 (by simp[Act.eval]) xi.j cX.j (Nat.zero_le _) ?_;intro v6 w6 bc aP bB;have HV:=aa (⟨bc,aP,uM bB⟩:_/\_/\_);obtain⟨pz,cz,ka,_⟩:=bc.form;obtain⟨mz,BU⟩:=Ze ((T++[tv]).length);rw[<-BU] at ka;have HMZ:=aa BU;subst ka;clear BU;have dG:=aa (Bl.j.XI HV.j.1 HV.j.2.1 HV.j.2.2 (by rw[List.length_append,List.length_singleton];omega));have G6:=ae.keep HV.j.2.1 Bl.j.k (λhk=>by obtain⟨cur,hc⟩:=bu Iu.j hk;exact cE Bl.j.k hc Zd rfl);have jG:=ae.keep HV.j.2.1 ((H3.j.quiet Iz.j).at HM.j) (λhk=>by obtain⟨cur,hc⟩:=bu Iu.j hk;exact cE ((H3.j.quiet Iz.j).at HM.j) hc Zd rfl);have IE:=aa G6;have Ty:Zc w6 kb 5 (.slice pt nt ct):=Zl G6;have f56:=jA G6 5;have rT:Hid (Zc w6 kb 5 (.slice pt nt ct)/\Zc w6 ob 1 (Zi n)):=⟨Ty,Zl jG⟩
 clear bc aP bB G6 jG;refine Zb hK rT.j ?_;refine Zt 10 rT.j ?_;refine Zt 11 rT.j ?_;refine wpAnyH_take (i:=12) (v:=undef) Zg Zx Zx Zx (by exact λ_ _ _ h=>h) (Or.inr ⟨by rfl,rfl⟩) rT.j ?_;refine wpAnyH_done Zx ?_ _;simp only[vH];have No:=aa ((H3.j.quiet Iz.j).put T1.j.1 T1.j.2 dG.j.1 dG.j.2);have Tx:=dG.j.1.c5;obtain⟨w7,qA⟩:=Ze (w6.setCell ⟨kb,5,none⟩ (.slice pz mz cz));go_upto_region 8 with fail
 rw[<-qA] at No Tx|-;clear qA dG rT af eT Ty f56 IE xi Bl Iu zq HA Iz H3 HV cJ KS;have BU:mz=nt+1:=by rw[HMZ.j,xr.j,List.length_append,List.length_singleton]
 have qD:nt<1000:=by rw[xr.j];exact ah
 have rE:IntKind.i64.wrap ((mz:Int) - 1)=(nt:Int):=by rw[IntKind.wrap_i64,BU];omega
 have T3:=aa Ks;clear Ks;have pB:Hid (MM U w kb mb sb pb qb bb F K1 tv T nt w7):=⟨T++[tv],by rw[xr.j];exact nN.start tv T,No.j⟩
 clear No BU;go_wp2_with fail;clear Tx rE
 go_loopw [6] (λd wr=>∃i:Nat,d=Zi (i:Int)/\i<=nt/\Hid (MM U w kb mb sb pb qb bb F K1 tv T i wr)) (λd _=>(RowKit.intOf d).toNat)
 case atStart=>exact⟨nt,rfl,Nat.le_refl _,pB⟩
 case round=>
  clear pB;obtain⟨i,rfl,hi,HR⟩:=hrel;obtain⟨Y,hY,LK⟩:=HR.j;have MQ:=aa (⟨hY,LK⟩:_/\_);obtain⟨V2,St,SB,vT2,vg⟩:=LK.dh;have T2:=aa (⟨St,SB⟩:_/\_);have c5:=vg.c5;have sl:=vg.t;have Ad:Y.length=nt+1:=by rw[hY.len,xr.j]
  dsimp only at sl;obtain⟨p2,m2,aP,_,_,lP⟩:=sl.form;obtain⟨M,hM⟩:=Ze (Y.length);rw[<-hM] at aP Ad;obtain⟨g,rfl,_⟩:=lP Zo;subst aP;have xy:=aa vg;have HT2:=aa sl;have Bh:=aa hM;clear vg LK St SB lP HR
  cases i with
  |zero=>
   have h1:¬((0:Nat):Int)>0:=Zo;have HF:=aa (show Y=iy tv T from hY.done rR.j (Or.inl rfl));clear hY sl hM;go_wp2_with fail;go_quiet (fail);go_wp2_with fail
   all_goals
    go_end0
    exact⟨rfl,by rw[<-T3.j,<-HF.j];exact(MQ.j.2.quiet ((ae.refl _ _).drewN _)).fin⟩
  |succ j=>
   have RV:j<T.length:=by rw[<-xr.j];omega
   obtain⟨y,hy⟩:∃y,T[j]?=some y:=⟨_,List.getElem?_eq_getElem RV⟩
   have Kh:=hY.at;have tj:=hY.ahead;rw[hy] at tj;obtain⟨I,hI⟩:=Ze (j+1);rw[<-hI] at Kh hY|-;obtain⟨wR,yM⟩:=List.getElem?_eq_some_iff.1 Kh;obtain⟨bg,AD⟩:=List.getElem?_eq_some_iff.1 tj;have b0:=FO sl wR;have b1:=FO sl bg;rw[yM] at b0;rw[AD] at b1;have Nl:=aa (⟨wR,yM,bg,AD⟩:∃(wR:I<Y.length) (yM:Y[I]=tv) (bg:j<Y.length),Y[j]=y);have h1:0<(I:Int):=Zo;have B8:0<I:=Zo;have ah1:0<=(I:Int)/\(I:Int)<(M:Int):=Zo;have ah0:0<=(j:Int)/\(j:Int)<(M:Int):=Zo;have rE:IntKind.i64.wrap ((I:Int) - 1)=(j:Int):=by rw[IntKind.wrap_i64];omega
   have Nk:=aa hI;obtain⟨xn,vY⟩:=Ze (tv.num);obtain⟨yn,Dl⟩:=Ze (y.num);rw[<-vY] at b0;rw[<-Dl] at b1;clear sl hM wR yM bg AD Kh tj RV hI Ad;by_cases RL:xn<yn
   ·have HDN:=aa (hY.af0 Nk.j hy (by rw[<-vY,<-Dl];exact RL));clear hY vY Dl hy;go_wp2_with fail;go_quiet (fail);obtain⟨wq,tq⟩:=Ze (wr.drewN nq);have GU:Zq wr wq:=by rw[tq];exact(ae.refl _ _).drewN _
    have UK:=aa (xy.j.quiet GU);have Uy:=aa (MQ.j.2.quiet GU);have MY:=aa (HT2.j.kept GU (λ_ _ h=>h));have c5q:=UK.j.c5
    have HRq:Hid (wq.rangeAt g (I*38) (aZ tv)):=by
     obtain⟨wR,yM,bg,AD⟩:=Nl.j;have h9:=zN MY.j wR;rw[yM] at h9;exact h9
    have T8:Hid (wq.rangeAt g (j*38) (aZ y)):=by
     obtain⟨wR,yM,bg,AD⟩:=Nl.j;have h9:=zN MY.j bg;rw[AD] at h9;exact h9
    have HLQ:=aa Uy.j.low;obtain⟨xb,bQ⟩:=Ze (wq.heap.size);obtain⟨w8,dt⟩:=Ze (wq.alloc (.cells #[Zi 0,Zi 0,Zi 0,Zi 0,.bool false,Zi 0,Zi 0,Zi 0,Zi 0,Zi 0,Zi 0,Zi 0,Zi 0,Zi 0,Zi 0,Zi 0,Zi 0,Zi 0,Zi 0,Zi 0,Zi 0,Zi 0,Zi 0,Zi 0,Zi 0,Zi 0,Zi 0,Zi 0,Zi 0,Zi 0,Zi 0,Zi 0,Zi 0,Zi 0,Zi 0,Zi 0,Zi 0,Zi 0] 118));have Hh:w8.heap[xb]?=some (.cells ([]++IQ).toArray 118 (0,0)):=by rw[dt,bQ];exact heap_alloc_last wq _
    have hs8:w8.heap.size=wq.heap.size+1:=by rw[dt];simp
    obtain⟨h9,aO⟩:=uD (aZ tv) [] IQ w8 (iL.len tv).symm Hh
    have Rc:w8.there xb 0 (aZ tv).length:=by
     have e8:(aZ tv).length=38:=iL.len tv;rw[e8];intro q hq;refine⟨?_,jA Hh _⟩;rw[Nat.zero_add,cell_of_row _ _ q _ _ (0,0) Hh,List.nil_append,List.getElem?_toArray,List.getElem?_eq_getElem (show q<IQ.length from hq)];rfl
    have cG:=s7 w8 xb 0 (aZ tv) Rc (iL.one tv);obtain⟨w9,v8⟩:=Ze (w8.setCells xb 0 (aZ tv));rw[<-v8] at cG;simp only[List.length_nil,List.nil_append] at h9 aO;rw[<-v8] at h9 aO;have GX:Zq wq w8:=by rw[dt];exact(ae.refl _ _).alloc _
    obtain⟨V3,B7⟩:∃V3:Nat->Prop,V3=Nu V2 wq.heap.size w8.heap.size:=⟨_,rfl⟩
    have BJ:V3 xb:=by rw[B7,bQ];exact Or.inr ⟨Nat.le_refl _,Zo⟩
    have LP:aI V3 w9 kb mb sb pb qb bb (Zs g M m2) {K1 with T:=Y}:=by
     rw[B7];refine ik.j (aD.bj _) (UK.j.wide GX) aO (λk _ hk=>?_);subst hk;rw[<-B7];exact BJ
    have fW:g<wq.heap.size:=(cH MY.j rfl).2
    have lM:w9.rangeAt g (j*38) (aZ y):=λq u hq=>by
     rw[aO.cell (p:=⟨g,j*38+q,none⟩) (by show g<_;omega) (by show¬g=xb;omega),GX.cell (p:=⟨g,j*38+q,none⟩) fW (λh=>h)];exact T8.j q u hq
    have G3:Zn V3 wq w9:=((GX.f).trans (aO.mono (T:=λk=>¬V3 k\/k=xb) (λk _ hk=>Or.inr hk))).mono (λk hk h=>by
     rcases h with h|h
     ·exact h
     ·omega)
    have Be:Hid (M=Y.length/\I<Y.length/\j<Y.length):=by
     obtain⟨wR,yM,bg,AD⟩:=Nl.j;exact⟨Bh.j,wR,bg⟩
    have MT:=aa (⟨LP,h9,BJ,G3,λk hk=>by rw[B7];exact Or.inl (T2.j.1 k hk),λp hp=>by rw[B7];exact Or.inl (T2.j.2 p hp)⟩:aI V3 w9 kb mb sb pb qb bb (Zs g M m2) {K1 with T:=Y}/\_/\V3 xb/\_/\(∀k,U k->V3 k)/\∀p∈F,V3 p.1)
    -- N6 store at I
    have Ed:=LP.quiet ((ae.refl _ w9).drew);obtain⟨LR,GY⟩:=Ed.zK Be.j.1 Be.j.2.1 y;have R6:∀q,w9.drew.frozen? ⟨g,q,none⟩=false:=λq=>Ed.t.fz q
    have Rf:=s7 w9.drew g (I*38) (aZ y) (by rw[show(aZ y).length=(aZ (Y[I]'Be.j.2.1)).length from(iL.len y).trans (iL.len _).symm];exact Jp (zN Ed.t Be.j.2.1) R6) (iL.one y);obtain⟨ji,BL⟩:=Ze (w9.drew.setCells g (I*38) (aZ y));rw[<-BL] at Rf LR GY;have p5:Hid (Zc w9.drew kb 5 (Zs g M m2)/\w9.drew.rangeAt g (j*38) (aZ y)):=⟨Ed.c5,lM⟩
    -- N6 store at j
    have Ef:=LR.quiet ((ae.refl _ ji).drew);obtain⟨LQ,KN⟩:=Ef.zK (k:=j) (by rw[List.length_set];exact Be.j.1) (by rw[List.length_set];exact Be.j.2.2) tv;have RR:j<(Y.set I y).length:=by rw[List.length_set];exact Be.j.2.2
    have adY:=s7 ji.drew g (j*38) (aZ tv) (by rw[show(aZ tv).length=(aZ (Y.set I y)[j]).length from(iL.len tv).trans (iL.len _).symm];exact Jp (zN Ef.t RR) (λq=>Ef.t.fz q)) (iL.one tv);obtain⟨FJ,BK⟩:=Ze (ji.drew.setCells g (j*38) (aZ tv));rw[<-BK] at adY LQ KN;have QU:ji.drew.heap[xb]?=some (.cells (aZ tv).toArray 118 (0,0)):=ae.keep GY h9 (λh=>h BJ);have vx:Hid (Zc ji.drew kb 5 (Zs g M m2)/\ji.drew.rangeAt xb 0 (aZ tv)):=⟨Ef.c5,λq u hq=>by rw[Nat.zero_add,cell_of_row _ _ q _ _ (0,0) QU,List.getElem?_toArray];exact hq⟩
    have agi:Hid (MM U w kb mb sb pb qb bb F K1 tv T j FJ):=⟨_,HDN.j,Uy.j.put MT.j.2.2.2.2.1 MT.j.2.2.2.2.2 LQ ((G3.drew.trans GY).drew.trans KN)⟩
    rw[<-tq];rw[dt,bQ] at cG;rw[bQ] at vx;clear tq GU c5 b0 b1 Hh Rc h9 aO v8 LP lM G3 Ed LR GY R6 BL Ef LQ KN RR BK QU dt hs8 GX B7 BJ bQ MT T8 HLQ;go_upto_region 11 with fail
    go_wp2_with (refine wpList_load_mid rfl 118 (.tmp 83) rfl g (I*38) rfl (aZ tv) _ HRq.j underlying118 rfl (by rw[Qx];exact congrArg some (iL.len tv).symm) ?_);go_upto_region 12 with fail
    refine zH (S:=(λwv=>wv.cell? ⟨kb,5,none⟩=some (Zs g M m2)/\wv.rangeAt g (j*38) (aZ y))) 14 Zx Zg Zx ?_;simp only[mh,tc,List.setIfInBounds_toArray,List.set_cons_zero,List.set_cons_succ,List.size_toArray,List.length_cons,List.length_nil,Nat.zero_add,Nat.reduceAdd];refine Zt 0 p5.j ?_;refine Zt 1 p5.j ?_;refine Zt 2 p5.j ?_;refine Zt 3 p5.j ?_;refine Zt 4 p5.j ?_;refine Zt 5 p5.j ?_;refine Zt 6 p5.j ?_;refine Zt 7 p5.j ?_;refine Zt 8 p5.j ?_;refine Zt 9 p5.j ?_;refine Zt 10 p5.j ?_;refine Zt 11 p5.j ?_;refine wpAnyH_take (i:=12) (v:=?v12_12) Zg Zx Zx Zx (by exact λ_ _ _ h=>h) (Or.inl ⟨by rfl,?hy12_12⟩) p5.j ?_
    case hy12_12=>(intro wz nH;refine(J6 (.tmp 96) rfl rfl nH.2).trans ?_;with_reducible rfl)
    try simp only[Act.put,List.setIfInBounds_toArray,List.set_cons_zero,List.set_cons_succ]
    refine Zt 13 p5.j ?_;refine wpAnyH_take (i:=14) (v:=undef) Zg Zx Zx Zx (by exact λ_ _ _ h=>h) (Or.inr ⟨by rfl,rfl⟩) p5.j ?_;refine wpAnyH_done Zx ?_ _;simp only[vH];go_upto_region 13 with fail
    refine zH (S:=(λwv=>wv.cell? ⟨kb,5,none⟩=some (Zs g M m2)/\wv.rangeAt wq.heap.size 0 (aZ tv))) 8 Zx Zg Zx ?_;simp only[mh,tc,List.setIfInBounds_toArray,List.set_cons_zero,List.set_cons_succ,List.size_toArray,List.length_cons,List.length_nil,Nat.zero_add,Nat.reduceAdd];refine Zt 0 vx.j ?_;refine Zt 1 vx.j ?_;refine Zt 2 vx.j ?_;refine Zt 3 vx.j ?_;refine Zt 4 vx.j ?_;refine Zt 5 vx.j ?_;refine wpAnyH_take (i:=6) (v:=?v13_6) Zg Zx Zx Zx (by exact λ_ _ _ h=>h) (Or.inl ⟨by rfl,?hy13_6⟩) vx.j ?_
    case hy13_6=>(intro wz nH;refine(J6 (.tmp 7) rfl rfl nH.2).trans ?_;with_reducible rfl)
    try simp only[Act.put,List.setIfInBounds_toArray,List.set_cons_zero,List.set_cons_succ]
    refine Zt 7 vx.j ?_;refine wpAnyH_take (i:=8) (v:=undef) Zg Zx Zx Zx (by exact λ_ _ _ h=>h) (Or.inr ⟨by rfl,rfl⟩) vx.j ?_;refine wpAnyH_done Zx ?_ _;simp only[vH];go_wp2_with fail;go_roundw
    case rel=>exact⟨j,by go_num,Zo,agi⟩
    case measure=>
     have h8:=Nk.j;simp only[RowKit.intOf];omega
   ·have HF:=aa (show Y=iy tv T from hY.done rR.j (Or.inr ⟨j,y,Nk.j,hy,by rw[<-vY,<-Dl];exact RL⟩));clear hY vY Dl hy;go_wp2_with fail;go_quiet (fail);go_wp2_with fail
    all_goals
     go_end0;exact⟨rfl,by rw[<-T3.j,<-HF.j];exact(MQ.j.2.quiet ((ae.refl _ _).drewN _)).fin⟩
end
end Go.Proofs.YtphkconoooeidaaGreatDoor

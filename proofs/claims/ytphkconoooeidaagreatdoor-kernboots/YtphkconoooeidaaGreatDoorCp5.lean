import Derived.Test.YtphkconoooeidaaGreatDoorCp1
import Derived.BigRegion
import Derived.Deep.CutRange
import Derived.Deep.RegionLaw
set_option maxRecDepth 100000
set_option maxHeartbeats 8000000
set_option linter.unusedVariables false
set_option linter.unusedSimpArgs false
open Go Go.Vx Go.Proofs.Tryz Go.ChangeShapes Go.WideShapes Go.ChangeAt Go.RowKit
namespace Go.Proofs.YtphkconoooeidaaGreatDoor
structure dQ (U:Nat->Prop) (w:World) (rb:Nat) (vb ve:Value) (bs:Lp) (es:List En):Prop where
 r:w.heap[rb]?=some (.cells #[vb,ve] 60 (0,0))
 b:ai Ib w 0 298 vb bs
 e:ai dP w 0 208 ve es
 ur:¬U rb
 ub:∀k,vb.ownBlock=some k->¬U k
 ue:∀k,ve.ownBlock=some k->¬U k
 low:∀k,U k->k<w.heap.size
 nb:bs.length<=1000000
 ne:es.length<=1000000
theorem dQ.c0 {U:Nat->Prop} {w:World} {rb:Nat} {vb ve:Value} {bs:Lp} {es:List En} (h:dQ U w rb vb ve bs es):w.cell? ⟨rb,0,none⟩=some vb:=Zl h.r
theorem dQ.c1 {U:Nat->Prop} {w:World} {rb:Nat} {vb ve:Value} {bs:Lp} {es:List En} (h:dQ U w rb vb ve bs es):w.cell? ⟨rb,1,none⟩=some ve:=Zl h.r
theorem dQ.only {U S:Nat->Prop} {w w':World} {rb:Nat} {vb ve:Value} {bs:Lp} {es:List En} (h:dQ U w rb vb ve bs es) (ho:ae S w w') (hS:∀k,S k->U k):dQ U w' rb vb ve bs es:=
 ⟨by rw[ho.block rb (au h.r) (λh1=>h.ur (hS _ h1))];exact h.r,h.b.kept ho (λk hk h1=>h.ub k hk (hS _ h1)),h.e.kept ho (λk hk h1=>h.ue k hk (hS _ h1)),h.ur,h.ub,h.ue,λk hk=>Nat.lt_of_lt_of_le (h.low k hk) ho.size,h.nb,h.ne⟩
theorem dQ.quiet {U:Nat->Prop} {w w':World} {rb:Nat} {vb ve:Value} {bs:Lp} {es:List En} (h:dQ U w rb vb ve bs es) (ho:Zq w w'):dQ U w' rb vb ve bs es:=h.only ho (λ_ h=>h.elim)
theorem dQ.bx {U:Nat->Prop} {w:World} {rb:Nat} {vb ve:Value} {bs:Lp} {es:List En} (h:dQ U w rb vb ve bs es):∃p c,vb=.slice p bs.length c/\∀(k:Nat) (hk:k<bs.length),∃g,p=some ⟨g,0,none⟩/\w.cell? ⟨g,k*2,none⟩=some (Zi bs[k].1)/\w.cell? ⟨g,k*2+1,none⟩=some (Zi bs[k].2):=by
 obtain⟨p,c,rfl,_,_,hg⟩:=h.b.form;refine⟨p,c,rfl,λk hk=>?_⟩;obtain⟨g,rfl,_⟩:=hg Zo;have h0:=h.b.cell k 0 hk Zd;have h1:=h.b.cell k 1 hk Zd;exact⟨g,rfl,h0,h1⟩
theorem dQ.en {U:Nat->Prop} {w:World} {rb:Nat} {vb ve:Value} {bs:Lp} {es:List En} (h:dQ U w rb vb ve bs es):∃p c,ve=.slice p es.length c/\∀(k:Nat) (hk:k<es.length),∃g,p=some ⟨g,0,none⟩/\∀j,j<12->w.cell? ⟨g,k*12+j,none⟩=(vk es[k])[j]?:=by
 obtain⟨p,c,rfl,_,_,hg⟩:=h.e.form;refine⟨p,c,rfl,λk hk=>?_⟩;obtain⟨g,rfl,_⟩:=hg Zo;exact⟨g,rfl,λj hj=>h.e.cell k j hk hj⟩
theorem NY (n:Int) (w:World):Zk 56 #[Zi n] w λe w'=>Zr e (.bool (fB n))/\w'=w:=by
 go_enter func56,ntmps56;go_wp2_with fail
 go_loopw [3] (λd wr=>∃p:Int,d=Zi p/\(p=1\/p=2\/p=4\/p=8\/p=16\/p=32\/p=64\/p=128)/\Hid (∀q:Int,(q=1\/q=2\/q=4\/q=8\/q=16\/q=32\/q=64)->q<p->n≠q)/\wr=w) (λd _=>128 - (RowKit.intOf d).toNat)
 case atStart=>exact⟨1,rfl,Zo,λq h1 h2=>Zo,rfl⟩
 case round=>
  obtain⟨p,rfl,hp,HN,rfl⟩:=hrel;rcases hp with rfl|rfl|rfl|rfl|rfl|rfl|rfl|rfl
  ·by_cases he:n=1
   ·have HT:Hid (fB n=true):=decide_eq_true Zo;clear HN;subst he;go_wp2_with fail
    all_goals
     go_ret;exact⟨by rw[HT.j];rfl,rfl⟩
   ·have gm:(n==1)=false:=beq_eq_false_iff_ne.2 he
    have HM:Hid (∀q:Int,(q=1\/q=2\/q=4\/q=8\/q=16\/q=32\/q=64)->q<2->n≠q):=λq h1 h2 h3=>by
     by_cases hq:q<1
     ·exact HN.j q h1 hq h3
     ·omega
    clear HN;go_wp2_with fail;go_roundw
    case rel=>exact⟨2,rfl,Zo,HM,trivial⟩
    case measure=>decide
  ·by_cases he:n=2
   ·have HT:Hid (fB n=true):=decide_eq_true Zo;clear HN;subst he;go_wp2_with fail
    all_goals
     go_ret;exact⟨by rw[HT.j];rfl,rfl⟩
   ·have gm:(n==2)=false:=beq_eq_false_iff_ne.2 he
    have HM:Hid (∀q:Int,(q=1\/q=2\/q=4\/q=8\/q=16\/q=32\/q=64)->q<4->n≠q):=λq h1 h2 h3=>by
     by_cases hq:q<2
     ·exact HN.j q h1 hq h3
     ·omega
    clear HN;go_wp2_with fail;go_roundw
    case rel=>exact⟨4,rfl,Zo,HM,trivial⟩
    case measure=>decide
  ·by_cases he:n=4
   ·have HT:Hid (fB n=true):=decide_eq_true Zo;clear HN;subst he;go_wp2_with fail
    all_goals
     go_ret;exact⟨by rw[HT.j];rfl,rfl⟩
   ·have gm:(n==4)=false:=beq_eq_false_iff_ne.2 he
    have HM:Hid (∀q:Int,(q=1\/q=2\/q=4\/q=8\/q=16\/q=32\/q=64)->q<8->n≠q):=λq h1 h2 h3=>by
     by_cases hq:q<4
     ·exact HN.j q h1 hq h3
     ·omega
    clear HN;go_wp2_with fail;go_roundw
    case rel=>exact⟨8,rfl,Zo,HM,trivial⟩
    case measure=>decide
  ·by_cases he:n=8
   ·have HT:Hid (fB n=true):=decide_eq_true Zo;clear HN;subst he;go_wp2_with fail
    all_goals
     go_ret;exact⟨by rw[HT.j];rfl,rfl⟩
   ·have gm:(n==8)=false:=beq_eq_false_iff_ne.2 he
    have HM:Hid (∀q:Int,(q=1\/q=2\/q=4\/q=8\/q=16\/q=32\/q=64)->q<16->n≠q):=λq h1 h2 h3=>by
     by_cases hq:q<8
     ·exact HN.j q h1 hq h3
     ·omega
    clear HN;go_wp2_with fail;go_roundw
    case rel=>exact⟨16,rfl,Zo,HM,trivial⟩
    case measure=>decide
  ·by_cases he:n=16
   ·have HT:Hid (fB n=true):=decide_eq_true Zo;clear HN;subst he;go_wp2_with fail
    all_goals
     go_ret;exact⟨by rw[HT.j];rfl,rfl⟩
   ·have gm:(n==16)=false:=beq_eq_false_iff_ne.2 he
    have HM:Hid (∀q:Int,(q=1\/q=2\/q=4\/q=8\/q=16\/q=32\/q=64)->q<32->n≠q):=λq h1 h2 h3=>by
     by_cases hq:q<16
     ·exact HN.j q h1 hq h3
     ·omega
    clear HN;go_wp2_with fail;go_roundw
    case rel=>exact⟨32,rfl,Zo,HM,trivial⟩
    case measure=>decide
  ·by_cases he:n=32
   ·have HT:Hid (fB n=true):=decide_eq_true Zo;clear HN;subst he;go_wp2_with fail
    all_goals
     go_ret;exact⟨by rw[HT.j];rfl,rfl⟩
   ·have gm:(n==32)=false:=beq_eq_false_iff_ne.2 he
    have HM:Hid (∀q:Int,(q=1\/q=2\/q=4\/q=8\/q=16\/q=32\/q=64)->q<64->n≠q):=λq h1 h2 h3=>by
     by_cases hq:q<32
     ·exact HN.j q h1 hq h3
     ·omega
    clear HN;go_wp2_with fail;go_roundw
    case rel=>exact⟨64,rfl,Zo,HM,trivial⟩
    case measure=>decide
  ·by_cases he:n=64
   ·have HT:Hid (fB n=true):=decide_eq_true Zo;clear HN;subst he;go_wp2_with fail
    all_goals
     go_ret;exact⟨by rw[HT.j];rfl,rfl⟩
   ·have gm:(n==64)=false:=beq_eq_false_iff_ne.2 he
    have HM:Hid (∀q:Int,(q=1\/q=2\/q=4\/q=8\/q=16\/q=32\/q=64)->q<128->n≠q):=λq h1 h2 h3=>by
     by_cases hq:q<64
     ·exact HN.j q h1 hq h3
     ·omega
    clear HN;go_wp2_with fail;go_roundw
    case rel=>exact⟨128,rfl,Zo,HM,trivial⟩
    case measure=>decide
  ·have HF:Hid (fB n=false):=by
    have h:=HN.j;refine decide_eq_false ?_;rintro(e|e|e|e|e|e|e)<;>exact h _ Zo Zo e
   clear HN;go_wp2_with fail
   all_goals
    go_ret;exact⟨by rw[HF.j];rfl,rfl⟩
theorem TG {U:Nat->Prop} {w:World} {rb:Nat} {vb ve:Value} {bs:Lp} {es:List En} (h:dQ U w rb vb ve bs es) (n:Int):Zk 150 #[Zp rb,Zi n] w λe w'=>Zr e (Zi (ti (mK bs n)))/\w'=w:=by
 obtain⟨p,c,rfl,hb⟩:=h.bx;have c0:=h.c0;have HB:=aa hb;have hn:=h.nb;clear h hb;obtain⟨N,hN⟩:=Ze (bs.length);have HN:=aa hN;rw[<-hN] at c0 hn;clear hN;go_enter func150,ntmps150;go_wp2_with fail
 go_loopw [5] (λd wr=>∃k:Nat,d=Zi (k:Int)/\k<=N/\Hid (dq (λb=>decide (b.1=n)) (bs.drop k) k=mK bs n)/\wr=w) (λd _=>N - (RowKit.intOf d).toNat)
 case atStart=>exact⟨0,rfl,Zo,(show dq _ (bs.drop 0) 0=_ from by rw[List.drop_zero];rfl),rfl⟩
 case round=>
  obtain⟨k,rfl,hk,HQ,rfl⟩:=hrel;by_cases ah:k<N
  ·have bq:k<bs.length:=by have:=HN.j;omega
   have h1:(k:Int)<(N:Int):=Zo;have bf:0<=(k:Int)/\(k:Int)<(N:Int):=Zo;have iY:=Zf k Zo;obtain⟨g,rfl,b0,_⟩:=HB.j k bq;have hq:=HQ.j;rw[Aa bs k bq] at hq;by_cases he:bs[k].1=n
   ·rw[if_pos (decide_eq_true he)] at hq;have HE:=aa hq;rw[he] at b0;clear hq ah HQ he;go_wp2_with fail
    all_goals
     go_ret;exact⟨by rw[<-HE.j];rfl,rfl⟩
   ·rw[if_neg (by simpa using he)] at hq;have HE:=aa hq;have gm:(bs[k].1==n)=false:=by simpa using he
    generalize bs[k].1=m at b0 he gm;clear hq ah HQ;go_wp2_with fail;go_roundw
    case rel=>exact⟨k+1,by go_num,Zo,HE,trivial⟩
    case measure=>exact Zm
  ·obtain rfl:k=N:=Zo;have hq:=HQ.j;rw[HN.j,Ab] at hq;have HE:=aa hq;have h1:¬(k:Int)<(k:Int):=Zo;clear hq ah HQ;go_wp2_with fail
   all_goals
    go_ret;exact⟨by rw[<-HE.j];rfl,rfl⟩
theorem afZ (a b:Sl) (w:World):Zk 175 #[.agg #[Zi a.1,Zi a.2],.agg #[Zi b.1,Zi b.2]] w λe w'=>Zr e (.bool (je a b))/\Zq w w':=by
 obtain⟨a1,a2⟩:=a;obtain⟨b1,b2⟩:=b;have HO:Hid (∀o1 o2,Zq w ((w.alloc o1).alloc o2)):=λo1 o2=>((ae.refl _ w).alloc _).alloc _
 by_cases h1:a1<b1
 ·have HT:Hid (je (a1,a2) (b1,b2)=true):=decide_eq_true (Or.inl h1);dsimp only;go_enter func175,ntmps175;go_wp2_with fail
  all_goals
   go_ret;exact⟨by rw[HT.j];rfl,HO.j _ _⟩
 ·by_cases h2:a1=b1
  ·subst h2;by_cases h3:a2<b2
   ·have HT:Hid (je (a1,a2) (a1,b2)=true):=decide_eq_true (Or.inr ⟨rfl,h3⟩);dsimp only;go_enter func175,ntmps175;go_wp2_with fail
    all_goals
     go_ret;exact⟨by rw[HT.j];rfl,HO.j _ _⟩
   ·have HT:Hid (je (a1,a2) (a1,b2)=false):=decide_eq_false (by rintro(h|⟨_,h⟩);exact h1 h;exact h3 h);dsimp only;go_enter func175,ntmps175;go_wp2_with fail
    all_goals
     go_ret;exact⟨by rw[HT.j];rfl,HO.j _ _⟩
  ·have HT:Hid (je (a1,a2) (b1,b2)=false):=decide_eq_false (by rintro(h|⟨h,_⟩);exact h1 h;exact h2 h);have h4:(a1==b1)=false:=beq_eq_false_iff_ne.2 h2;dsimp only;go_enter func175,ntmps175;go_wp2_with fail
   all_goals
    go_ret;exact⟨by rw[HT.j];rfl,HO.j _ _⟩
theorem ab6 (w:World):Zk 119 #[] w λe w'=>Zr e (.agg #[Zi (-1),Zi (-1)])/\Zq w w':=by
 have HO:Hid (∀o1,Zq w (w.alloc o1)):=λo1=>(ae.refl _ w).alloc _
 go_enter func119,ntmps119;go_wp2_with fail;refine bodyPost_ret (v:=.agg #[Zi (-1),Zi (-1)]) ?_ rfl ⟨rfl,HO.j _⟩;simp[results,results119,go_sem]
theorem aeO {U:Nat->Prop} {w:World} {rb:Nat} {vb ve:Value} {bs:Lp} {es:List En} (h:dQ U w rb vb ve bs es) (s:Sl):Zk 174 #[Zp rb,.agg #[Zi s.1,Zi s.2]] w λe w'=>Zr e (Zi (ti (kq es s)))/\Zq w w':=by
 obtain⟨s1,s2⟩:=s;obtain⟨w1,ag⟩:=Ze (w.alloc (.cells #[Zi s1,Zi s2] 95));have ho:=Za ag;have h1:=h.quiet ho;obtain⟨p,c,rfl,hb⟩:=h1.en;have c1:=h1.c1;have HB:=aa hb;have HO:=aa ho;have hn:=h.ne;have lL:w1.heap[w.heap.size]?=some (.cells #[Zi s1,Zi s2] 95 (0,0)):=by rw[ag];exact heap_alloc_last _ _
 have k0:w1.cell? ⟨w.heap.size,0,none⟩=some (Zi s1):=Zl lL;have k1:w1.cell? ⟨w.heap.size,1,none⟩=some (Zi s2):=Zl lL;clear h hb h1 ho lL;obtain⟨N,hN⟩:=Ze (es.length);have HN:=aa hN;rw[<-hN] at c1 hn;clear hN;dsimp only;go_enter func174,ntmps174;go_wp2_with fail;rw[<-ag];obtain⟨sb,iB⟩:=Ze (w.heap.size);rw[<-iB] at k0 k1|-;clear ag iB
 go_loopw [5] (λd wr=>∃k:Nat,d=Zi (k:Int)/\k<=N/\Hid (dq (λe=>decide (e.at'=(s1,s2))) (es.drop k) k=kq es (s1,s2))/\∃j,wr=w1.drewN j) (λd _=>N - (RowKit.intOf d).toNat)
 case atStart=>exact⟨0,rfl,Zo,(show dq _ (es.drop 0) 0=_ from by rw[List.drop_zero];rfl),0,rfl⟩
 case round=>
  obtain⟨k,rfl,hk,HQ,j,rfl⟩:=hrel;by_cases ah:k<N
  ·have bq:k<es.length:=by have:=HN.j;omega
   have h1:(k:Int)<(N:Int):=Zo;have bf:0<=(k:Int)/\(k:Int)<(N:Int):=Zo;have iY:=Zf k Zo;obtain⟨g,rfl,b⟩:=HB.j k bq;have b0:=b 0 Zd;have b1:=b 1 Zd;rw[Ml] at b0 b1;simp only[List.getElem?_cons_zero,List.getElem?_cons_succ,Nat.add_zero] at b0 b1;have hq:=HQ.j;rw[Aa es k bq] at hq;generalize hz:es[k].at'=z at b0 b1 hq;obtain⟨z1,z2⟩:=z;clear b hz;by_cases e1:z1=s1
   ·subst e1;by_cases e2:z2=s2
    ·subst e2;rw[if_pos (decide_eq_true rfl)] at hq;have HE:=aa hq;clear hq ah HQ;go_wp2_with fail;go_quiet (fail);go_wp2_with fail
     all_goals
      go_ret;exact⟨by rw[<-HE.j];rfl,HO.j.trans (by repeat' (first|exact ae.refl _ _|refine ae.drewN ?_ _|refine ae.drew ?_))⟩
    ·rw[if_neg (by simp;exact e2)] at hq;have HE:=aa hq;have e3:(z2==s2)=false:=beq_eq_false_iff_ne.2 e2;clear hq ah HQ;go_wp2_with fail;go_quiet (fail);go_wp2_with fail;go_roundw
     case rel=>exact⟨k+1,by go_num,Zo,HE,_,rfl⟩
     case measure=>exact Zm
   ·rw[if_neg (by simp;exact λh=>absurd h e1)] at hq;have HE:=aa hq;have e3:(z1==s1)=false:=beq_eq_false_iff_ne.2 e1;clear hq ah HQ;go_wp2_with fail;go_quiet (fail);go_wp2_with fail;go_roundw
    case rel=>exact⟨k+1,by go_num,Zo,HE,_,rfl⟩
    case measure=>exact Zm
  ·obtain rfl:k=N:=Zo;have hq:=HQ.j;rw[HN.j,Ab] at hq;have HE:=aa hq;have h1:¬(k:Int)<(k:Int):=Zo;clear hq ah HQ;go_wp2_with fail
   all_goals
    go_ret;exact⟨by rw[<-HE.j];rfl,HO.j.trans ((ae.refl _ _).drewN _)⟩
theorem Ev {bs:Lp} {n:Int} {i:Nat} (h:mK bs n=some i):∃hi:i<bs.length,bs[i].1=n/\bR bs n=some bs[i].2:=by
 obtain⟨hi,hp⟩:=uP h;rw[Nat.sub_zero] at hi;refine⟨hi,by simpa using hp,?_⟩;unfold bR;rw[h];simp[hi]
theorem FU {bs:Lp} {n:Int} (h:mK bs n=none):bR bs n=none:=by unfold bR;rw[h];rfl
def jk (bs:Lp) (n:Int):Int×Int:=match bR bs n with|some k=>(k,0)|none=>(0,6)
theorem Oq {U:Nat->Prop} {w:World} {rb:Nat} {vb ve:Value} {bs:Lp} {es:List En} (h:dQ U w rb vb ve bs es) (n:Int):Zk 89 #[Zp rb,Zi n] w λe w'=>Zr e (.tuple #[Zi (jk bs n).1,Zi (jk bs n).2])/\w'=w:=by
 have gF:=aa (TG h n);have hn:=h.nb;obtain⟨p,c,rfl,hb⟩:=h.bx;have c0:=h.c0
 cases hx:mK bs n with
 |none=>
  have HS:Hid (jk bs n=(0,6)):=by show jk bs n=_;unfold jk;rw[FU hx]
  rw[hx] at gF;have fZ:Hid (Zk 150 #[Zp rb,Zi n] w λe w'=>Zr e (Zi (-1))/\w'=w):=gF;clear h hb hx c0 gF;go_enter func89,ntmps89;go_wp2_with fail;refine fZ.j.e1 ?_;go_wp2_with fail
  all_goals
   go_ret2
   exact⟨by rw[HS.j];rfl,rfl⟩
 |some i=>
  obtain⟨hi,_,aR⟩:=Ev hx;obtain⟨g,rfl,_,b1⟩:=hb i hi;have HS:Hid (jk bs n=(bs[i].2,0)):=by show jk bs n=_;unfold jk;rw[aR]
  rw[hx] at gF;have fZ:Hid (Zk 150 #[Zp rb,Zi n] w λe w'=>Zr e (Zi (i:Int))/\w'=w):=gF;generalize bs[i].2=m at b1 HS aR;obtain⟨N,hN⟩:=Ze (bs.length);rw[<-hN] at c0 hn hi;have h1:¬(i:Int)<0:=Zo;have bf:0<=(i:Int)/\(i:Int)<(N:Int):=Zo;clear h hb hx gF hN aR hi;go_enter func89,ntmps89;go_wp2_with fail;refine fZ.j.e1 ?_;go_wp2_with fail
  all_goals
   go_ret2;exact⟨by rw[HS.j];rfl,rfl⟩
theorem Hr {U:Nat->Prop} {w:World} {rb:Nat} {vb ve:Value} {bs:Lp} {es:List En} (h:dQ U w rb vb ve bs es) (s:Sl):Zk 117 #[Zp rb,.agg #[Zi s.1,Zi s.2]] w λe w'=>Zr e (.tuple #[Zi (pW (cy bs es s)),Zi (nI (cy bs es s))])/\Zq w w':=by
 obtain⟨s1,s2⟩:=s;have jY:Hid (∀wv,Zq w wv->Zk 89 #[Zp rb,Zi s1] wv λe w'=>Zr e (.tuple #[Zi (jk bs s1).1,Zi (jk bs s1).2])/\w'=wv):=λwv hv=>Oq (h.quiet hv) s1
 have iI:Hid (∀wv,Zq w wv->Zk 174 #[Zp rb,.agg #[Zi s1,Zi s2]] wv λe w'=>Zr e (Zi (ti (kq es (s1,s2))))/\Zq wv w'):=λwv hv=>aeO (h.quiet hv) (s1,s2)
 have HO:Hid (∀o,Zq w (w.alloc o)):=λo=>(ae.refl _ w).alloc _
 clear h;dsimp only
 cases hx:bR bs s1 with
 |none=>
  have HF:Hid (cy bs es (s1,s2)=.error 9):=by show cy bs es (s1,s2)=_;unfold cy;rw[show bR bs ((s1,s2):Sl).1=none from hx]
  have hz:jk bs s1=(0,6):=by unfold jk;rw[hx]
  rw[hz] at jY;clear hz hx iI;go_enter func117,ntmps117;go_wp2_with fail;refine(jY.j _ (HO.j _)).e1 ?_;go_wp2_with fail
  all_goals
   go_ret2
   exact⟨by rw[HF.j];rfl,HO.j _⟩
 |some m=>
  have hz:jk bs s1=(m,0):=by unfold jk;rw[hx]
  rw[hz] at jY;by_cases h0:s2<0
  ·have HF:Hid (cy bs es (s1,s2)=.error 9):=by show cy bs es (s1,s2)=_;unfold cy;rw[show bR bs ((s1,s2):Sl).1=some m from hx];exact if_pos (Or.inl h0)
   clear hz hx iI;go_enter func117,ntmps117;go_wp2_with fail;refine(jY.j _ (HO.j _)).e1 ?_;go_wp2_with fail
   all_goals
    go_ret2;exact⟨by rw[HF.j];rfl,HO.j _⟩
  ·by_cases h1:m<=s2
   ·have HF:Hid (cy bs es (s1,s2)=.error 9):=by show cy bs es (s1,s2)=_;unfold cy;rw[show bR bs ((s1,s2):Sl).1=some m from hx];exact if_pos (Or.inr h1)
    clear hz hx iI;go_enter func117,ntmps117;go_wp2_with fail;refine(jY.j _ (HO.j _)).e1 ?_;go_wp2_with fail
    all_goals
     go_ret2;exact⟨by rw[HF.j];rfl,HO.j _⟩
   ·have AH:cy bs es (s1,s2)=(match kq es (s1,s2) with|none=>.error 11|some i=>.ok i):=by unfold cy;rw[show bR bs ((s1,s2):Sl).1=some m from hx];exact if_neg (by rintro(h|h);exact h0 h;exact h1 h)
    cases hy:kq es (s1,s2) with
    |none=>
     have HF:Hid (cy bs es (s1,s2)=.error 11):=by show cy bs es (s1,s2)=_;rw[AH,hy]
     rw[hy] at iI;have gy:Hid (∀wv,Zq w wv->Zk 174 #[Zp rb,.agg #[Zi s1,Zi s2]] wv λe w'=>Zr e (Zi (-1))/\Zq wv w'):=iI;clear hz hx AH hy iI;go_enter func117,ntmps117;go_wp2_with fail;refine(jY.j _ (HO.j _)).e1 ?_;go_wp2_with fail;refine(gy.j _ (HO.j _)).m ?_;rintro e w2 ⟨rfl,hq⟩;have HQ:=aa hq;clear hq;go_wp2_with fail
     all_goals
      go_ret2
      exact⟨by rw[HF.j];rfl,(HO.j _).trans HQ.j⟩
    |some i=>
     have HF:Hid (cy bs es (s1,s2)=.ok i):=by show cy bs es (s1,s2)=_;rw[AH,hy]
     rw[hy] at iI;have gy:Hid (∀wv,Zq w wv->Zk 174 #[Zp rb,.agg #[Zi s1,Zi s2]] wv λe w'=>Zr e (Zi (i:Int))/\Zq wv w'):=iI;have oU:¬(i:Int)<0:=Zo;clear hz hx AH hy iI;go_enter func117,ntmps117;go_wp2_with fail;refine(jY.j _ (HO.j _)).e1 ?_;go_wp2_with fail;refine(gy.j _ (HO.j _)).m ?_;rintro e w2 ⟨rfl,hq⟩;have HQ:=aa hq;clear hq;go_wp2_with fail
     all_goals
      go_ret2;exact⟨by rw[HF.j];rfl,(HO.j _).trans HQ.j⟩
theorem wW (bs:Lp) (es:List En) (s:Sl):(∃i,cy bs es s=.ok i/\kq es s=some i)\/cy bs es s=.error 9\/cy bs es s=.error 11:=by
 unfold cy
 cases bR bs s.1 with
 |none=>exact Or.inr (Or.inl rfl)
 |some n=>
  dsimp only;by_cases h:s.2<0\/n<=s.2
  ·rw[if_pos h];exact Or.inr (Or.inl rfl)
  ·rw[if_neg h]
   cases kq es s with
   |none=>exact Or.inr (Or.inr rfl)
   |some i=>exact Or.inl ⟨i,rfl,rfl⟩
theorem AV {es:List En} {s:Sl} {i:Nat} (h:kq es s=some i):∃hi:i<es.length,es[i].at'=s:=by
 obtain⟨hi,hp⟩:=uP h;rw[Nat.sub_zero] at hi;exact⟨hi,by simpa using hp⟩
theorem aeF {U:Nat->Prop} {w:World} {rb:Nat} {vb ve:Value} {bs:Lp} {es:List En} (h:dQ U w rb vb ve bs es) (s:Sl):Zk 118 #[Zp rb,.agg #[Zi s.1,Zi s.2]] w λe w'=>Zr e (Zi (jc bs es s))/\Zq w w':=by
 obtain⟨s1,s2⟩:=s;have eW:Hid (∀wv,Zq w wv->Zk 117 #[Zp rb,.agg #[Zi s1,Zi s2]] wv λe w'=>Zr e (.tuple #[Zi (pW (cy bs es (s1,s2))),Zi (nI (cy bs es (s1,s2)))])/\Zq wv w'):=λwv hv=>Hr (h.quiet hv) (s1,s2)
 have HO:Hid (∀o,Zq w (w.alloc o)):=λo=>(ae.refl _ w).alloc _
 clear h;dsimp only;rcases wW bs es (s1,s2) with⟨i,hf,_⟩|hf|hf
 all_goals
  have HF:=aa (congrArg (λr=>match r with|Except.ok _=>(10:Int)|.error e=>if e=11 then 0 else e) hf);rw[hf] at eW;clear hf;simp only[pW,nI] at eW;go_enter func118,ntmps118;go_wp2_with fail;refine(eW.j _ (HO.j _)).m ?_;rintro e w2 ⟨rfl,hq⟩;have HQ:=aa hq;clear hq eW;go_wp2_with fail
  all_goals
   go_ret;exact⟨congrArg (λz=>Ending.returned (Zi z)) HF.j.symm,(HO.j _).trans HQ.j⟩
structure UU (w:World) (g k:Nat) (e:En):Prop where
 c0:w.cell? ⟨g,k*12,none⟩=some (Zi e.at'.1)
 c1:w.cell? ⟨g,k*12+1,none⟩=some (Zi e.at'.2)
 c2:w.cell? ⟨g,k*12+2,none⟩=some (Zi e.cap.kind)
 c3:w.cell? ⟨g,k*12+3,none⟩=some (Zi e.cap.num)
 c4:w.cell? ⟨g,k*12+4,none⟩=some (Zi e.cap.rights)
 c5:w.cell? ⟨g,k*12+5,none⟩=some (Zu e.cap.cQ)
 c6:w.cell? ⟨g,k*12+6,none⟩=some (Zu e.cap.guard)
 c7:w.cell? ⟨g,k*12+7,none⟩=some (Zi e.cap.bS)
 c8:w.cell? ⟨g,k*12+8,none⟩=some (Zi e.cap.root)
 c9:w.cell? ⟨g,k*12+9,none⟩=some (Zu e.cap.va)
 Tz:w.cell? ⟨g,k*12+10,none⟩=some (Zi e.aW.1)
 c11:w.cell? ⟨g,k*12+11,none⟩=some (Zi e.aW.2)
theorem xQ {w:World} {base g n c:Nat} {T:TypeId} {xs:List En} (h:ai dP w base T (Zs g n c) xs) (k:Nat) (hk:k<xs.length):UU w g k xs[k]:=
 ⟨h.cell k 0 hk Zd,h.cell k 1 hk Zd,h.cell k 2 hk Zd,h.cell k 3 hk Zd,h.cell k 4 hk Zd,h.cell k 5 hk Zd,h.cell k 6 hk Zd,h.cell k 7 hk Zd,h.cell k 8 hk Zd,h.cell k 9 hk Zd,h.cell k 10 hk Zd,h.cell k 11 hk Zd⟩
theorem dQ.Tm {U:Nat->Prop} {w:World} {rb:Nat} {vb ve:Value} {bs:Lp} {es:List En} (h:dQ U w rb vb ve bs es) (k:Nat) (hk:k<es.length):∃g c,ve=Zs g es.length c/\UU w g k es[k]:=by
 obtain⟨p,c,rfl,_,_,hg⟩:=h.e.form;obtain⟨g,rfl,_⟩:=hg Zo;exact⟨g,c,rfl,xQ h.e k hk⟩
def sV:Cp:=⟨0,0,0,0,0,0,0,0⟩
def aH (bs:Lp) (es:List En) (s:Sl):Cp×Int:=match cy bs es s with|.ok i=>((es.getD i .df).cap,0)|.error e=>(sV,e)
def aha (bs:Lp) (es:List En) (s:Sl):Sl×Int:=match cy bs es s with|.ok i=>((es.getD i .df).aW,0)|.error e=>((-1, -1),e)
def bO (c:Cp):Value:=.agg #[Zi c.kind,Zi c.num,Zi c.rights,Zu c.cQ,Zu c.guard,Zi c.bS,Zi c.root,Zu c.va]
def slV (s:Sl):Value:=.agg #[Zi s.1,Zi s.2]
theorem xT {w w2:World} {a b:Obj} (h:Zq ((w.alloc a).alloc b) w2):w2.heap[w.heap.size+1]?=some b:=by
 have e:(w.alloc a).heap.size=w.heap.size+1:=by simp
 have h1:=heap_alloc_last (w.alloc a) b;rw[e] at h1;rw[h.block _ (au h1) (λh=>h)];exact h1
theorem eL {w:World} {rc:Nat} {a0 a1 a2 a3 a4 a5 a6 a7:Value} (h:w.heap[rc]?=some (.cells #[a0,a1,a2,a3,a4,a5,a6,a7] 97 (0,0))):
  (w.cell? ⟨rc,0,none⟩=some a0/\w.cell? ⟨rc,1,none⟩=some a1/\w.cell? ⟨rc,2,none⟩=some a2/\w.cell? ⟨rc,3,none⟩=some a3/\w.cell? ⟨rc,4,none⟩=some a4/\w.cell? ⟨rc,5,none⟩=some a5/\w.cell? ⟨rc,6,none⟩=some a6/\w.cell? ⟨rc,7,none⟩=some a7)/\∀j,w.frozen? ⟨rc,j,none⟩=false:=
 ⟨⟨Zl h,Zl h,Zl h,Zl h,Zl h,Zl h,Zl h,Zl h⟩,λj=>by simp[World.frozen?,h]⟩
theorem aeD {U:Nat->Prop} {w:World} {rb:Nat} {vb ve:Value} {bs:Lp} {es:List En} (h:dQ U w rb vb ve bs es) (s:Sl):Zk 61 #[Zp rb,.agg #[Zi s.1,Zi s.2]] w λe w'=>Zr e (.tuple #[bO (aH bs es s).1,Zi (aH bs es s).2])/\Zq w w':=by
 obtain⟨s1,s2⟩:=s;have eW:Hid (∀wv,Zq w wv->Zk 117 #[Zp rb,.agg #[Zi s1,Zi s2]] wv λe w'=>Zr e (.tuple #[Zi (pW (cy bs es (s1,s2))),Zi (nI (cy bs es (s1,s2)))])/\Zq wv w'):=λwv hv=>Hr (h.quiet hv) (s1,s2)
 have HO:Hid (∀o p,Zq w ((w.alloc o).alloc p)):=λo p=>((ae.refl _ w).alloc _).alloc _
 have HH:=aa h;clear h;dsimp only;rcases wW bs es (s1,s2) with⟨i,hf,hi⟩|hf|hf
 ·obtain⟨bM,_⟩:=AV hi;have HG:Hid (aH bs es (s1,s2)=(es[i].cap,0)):=by show aH bs es (s1,s2)=_;unfold aH;rw[hf];simp[bM]
  rw[hf] at eW;simp only[pW,nI] at eW;clear hf hi;go_enter func61,ntmps61;go_wp2_with fail;refine(eW.j _ (HO.j _ _)).m ?_;rintro e w2 ⟨rfl,hq⟩;have fI:=(HO.j (.cells #[Zi s1,Zi s2] 95) (.cells #[Zi 0,Zi 0,Zi 0,Zu 0,Zu 0,Zi 0,Zi 0,Zu 0] 97)).trans hq;have hz:=xT hq;have jm:w.heap.size<=w.heap.size+1:=Zo;have aL:=aa (⟨fI,jm⟩:_/\_);obtain⟨g,c,Dp,hE⟩:=(HH.j.quiet fI).Tm i bM;have c1:=(HH.j.quiet fI).c1;rw[Dp] at c1;obtain⟨⟨z0,z1,z2,z3,z4,z5,z6,z7⟩,zf⟩:=eL hz;obtain⟨_,_,k0,k1,k2,k3,k4,k5,k6,k7,_,_⟩:=hE;obtain⟨N,hN⟩:=Ze (es.length);rw[<-hN] at c1 bM;generalize es[i].cap=cp at k0 k1 k2 k3 k4 k5 k6 k7 HG;obtain⟨d0,d1,d2,d3,d4,d5,d6,d7⟩:=cp;dsimp only at k0 k1 k2 k3 k4 k5 k6 k7;have bf:0<=(i:Int)/\(i:Int)<(N:Int):=Zo;obtain⟨rc,dO⟩:=Ze (w.heap.size+1);rw[<-dO] at z0 z1 z2 z3 z4 z5 z6 z7 zf aL|-;clear hq hz Dp hN bM eW HH fI HO dO jm;go_wp2_with fail;refine bodyPost_ret (v:=.tuple #[bO ⟨d0,d1,d2,d3,d4,d5,d6,d7⟩,Zi 0]) ?_ rfl ⟨by rw[HG.j],?_⟩
  ·simp[results,results61,go_sem,bO,z0,z1,z2,z3,z4,z5,z6,z7]
  ·repeat' (first|refine ae.setCell ?_ (Or.inr aL.j.2) _|exact aL.j.1)
 ·have HG:Hid (aH bs es (s1,s2)=(sV,9)):=by show aH bs es (s1,s2)=_;unfold aH;rw[hf]
  rw[hf] at eW;simp only[pW,nI] at eW;clear hf HH;go_enter func61,ntmps61;go_wp2_with fail;refine(eW.j _ (HO.j _ _)).m ?_;rintro e w2 ⟨rfl,hq⟩;have fI:=(HO.j (.cells #[Zi s1,Zi s2] 95) (.cells #[Zi 0,Zi 0,Zi 0,Zu 0,Zu 0,Zi 0,Zi 0,Zu 0] 97)).trans hq;have hz:=xT hq;have jm:w.heap.size<=w.heap.size+1:=Zo;have aL:=aa (⟨fI,jm⟩:_/\_);obtain⟨⟨z0,z1,z2,z3,z4,z5,z6,z7⟩,zf⟩:=eL hz;obtain⟨rc,dO⟩:=Ze (w.heap.size+1);rw[<-dO] at z0 z1 z2 z3 z4 z5 z6 z7 zf aL|-;clear hq hz eW fI HO dO jm;go_wp2_with fail;refine bodyPost_ret (v:=.tuple #[bO sV,Zi 9]) ?_ rfl ⟨by rw[HG.j],?_⟩
  ·simp[results,results61,go_sem,bO,sV,z0,z1,z2,z3,z4,z5,z6,z7]
  ·repeat' (first|refine ae.setCell ?_ (Or.inr aL.j.2) _|exact aL.j.1)
 ·have HG:Hid (aH bs es (s1,s2)=(sV,11)):=by show aH bs es (s1,s2)=_;unfold aH;rw[hf]
  rw[hf] at eW;simp only[pW,nI] at eW;clear hf HH;go_enter func61,ntmps61;go_wp2_with fail;refine(eW.j _ (HO.j _ _)).m ?_;rintro e w2 ⟨rfl,hq⟩;have fI:=(HO.j (.cells #[Zi s1,Zi s2] 95) (.cells #[Zi 0,Zi 0,Zi 0,Zu 0,Zu 0,Zi 0,Zi 0,Zu 0] 97)).trans hq;have hz:=xT hq;have jm:w.heap.size<=w.heap.size+1:=Zo;have aL:=aa (⟨fI,jm⟩:_/\_);obtain⟨⟨z0,z1,z2,z3,z4,z5,z6,z7⟩,zf⟩:=eL hz;obtain⟨rc,dO⟩:=Ze (w.heap.size+1);rw[<-dO] at z0 z1 z2 z3 z4 z5 z6 z7 zf aL|-;clear hq hz eW fI HO dO jm;go_wp2_with fail;refine bodyPost_ret (v:=.tuple #[bO sV,Zi 11]) ?_ rfl ⟨by rw[HG.j],?_⟩
  ·simp[results,results61,go_sem,bO,sV,z0,z1,z2,z3,z4,z5,z6,z7]
  ·repeat' (first|refine ae.setCell ?_ (Or.inr aL.j.2) _|exact aL.j.1)
theorem pI {w:World} {rc:Nat} {a0 a1:Value} (h:w.heap[rc]?=some (.cells #[a0,a1] 95 (0,0))):(w.cell? ⟨rc,0,none⟩=some a0/\w.cell? ⟨rc,1,none⟩=some a1)/\∀j,w.frozen? ⟨rc,j,none⟩=false:=
 ⟨⟨Zl h,Zl h⟩,λj=>by simp[World.frozen?,h]⟩
theorem bxK:Kind prog Ib 57 298:=kG (z:=.agg #[Zi 0,Zi 0]) (b:=16) underlying57 Zx rfl Zd
theorem XA:Kind prog aJ 230 95:=kG (z:=.agg #[Zi 0,Zi 0]) (b:=16) underlying230 Zx rfl Zd
theorem Mk:Kind prog dP 58 208:=kG (z:=.agg #[Zi 0,Zi 0,Zi 0,Zi 0,Zi 0,Zu 0,Zu 0,Zi 0,Zi 0,Zu 0,Zi 0,Zi 0]) (b:=88) underlying58 Zx rfl Zd
def ju (U:Nat->Prop) (w:World) (rb:Nat) (bs:Lp) (es:List En):Prop:=∃vb ve,dQ U w rb vb ve bs es
theorem dQ.fz {U:Nat->Prop} {w:World} {rb:Nat} {vb ve:Value} {bs:Lp} {es:List En} (h:dQ U w rb vb ve bs es) (j:Nat):w.frozen? ⟨rb,j,none⟩=false:=by
 have:=h.r;simp[World.frozen?,this]
theorem dQ.XN {U:Nat->Prop} {w w3:World} {rb:Nat} {vb ve v':Value} {bs Mq:Lp} {es:List En} (h:dQ U w rb vb ve bs es) (ho:ai Ib w3 0 298 v' Mq) (ay:ae (λk=>vb.ownBlock=some k) w w3) (hl:∀k,v'.ownBlock=some k->vb.ownBlock=some k\/w.heap.size<=k) (hn:Mq.length<=1000000):
  (∃x,w3.cell? ⟨rb,0,none⟩=some x)/\w3.frozen? ⟨rb,0,none⟩=false/\dQ U (w3.setCell ⟨rb,0,none⟩ v') rb v' ve Mq es/\Zn U w (w3.setCell ⟨rb,0,none⟩ v'):=by
 have n1:∀k,vb.ownBlock=some k->k≠rb:=λk hk=>by
  obtain⟨cur,hc⟩:=bu h.b hk;exact cE hc h.r Zd
 have n2:∀k j,vb.ownBlock=some k->ve.ownBlock=some j->k≠j:=λk j hk hj=>by
  obtain⟨cur,hc⟩:=bu h.b hk;obtain⟨lx,bH⟩:=bu h.e hj;exact cE hc bH Zd
 have n3:∀j,ve.ownBlock=some j->j≠rb:=λj hj=>by
  obtain⟨lx,bH⟩:=bu h.e hj;exact cE bH h.r Zd
 have gP:w3.heap[rb]?=some (.cells #[vb,ve] 60 (0,0)):=by rw[ay.block rb (au h.r) (λe=>n1 rb e rfl)];exact h.r
 have tE:∀k,v'.ownBlock=some k->k≠rb:=λk hk=>by
  obtain⟨cur,hc⟩:=bu ho hk;exact cE hc gP Zd
 have hs:ae (λk=>k=rb) w3 (w3.setCell ⟨rb,0,none⟩ v'):=ae.setCell (S:=λk=>k=rb) (ae.refl _ w3) (Or.inl rfl) _;have rK:ai dP w3 0 208 ve es:=h.e.kept ay (λk hk e=>n2 k k e hk rfl);refine⟨⟨vb,Zl gP⟩,by simp[World.frozen?,gP],⟨?_,ho.kept hs tE,rK.kept hs (λk hk e=>n3 k hk e),h.ur,λk hk=>?_,h.ue,λk hk=>?_,hn,h.ne⟩,?_⟩
 ·rw[heap_setCell_same _ _ 0 _ _ v' gP];rfl
 ·rcases hl k hk with hl|hl
  ·exact h.ub k hl
  ·intro hu;have:=h.low k hu;omega
 ·exact Nat.lt_of_lt_of_le (h.low k hk) (Nat.le_trans ay.size hs.size)
 ·refine(ay.mono (λk _ hk=>h.ub k hk)).trans ?_;exact hs.mono (λk _ hk=>by subst hk;exact h.ur)
theorem dQ.kS {U:Nat->Prop} {w w3:World} {rb:Nat} {vb ve v':Value} {bs:Lp} {es AU:List En} (h:dQ U w rb vb ve bs es) (ho:ai dP w3 0 208 v' AU) (ay:ae (λk=>ve.ownBlock=some k) w w3) (hl:∀k,v'.ownBlock=some k->ve.ownBlock=some k\/w.heap.size<=k) (hn:AU.length<=1000000):
  (∃x,w3.cell? ⟨rb,1,none⟩=some x)/\w3.frozen? ⟨rb,1,none⟩=false/\dQ U (w3.setCell ⟨rb,1,none⟩ v') rb vb v' bs AU/\Zn U w (w3.setCell ⟨rb,1,none⟩ v'):=by
 have n1:∀k,ve.ownBlock=some k->k≠rb:=λk hk=>by
  obtain⟨cur,hc⟩:=bu h.e hk;exact cE hc h.r Zd
 have n2:∀k j,ve.ownBlock=some k->vb.ownBlock=some j->k≠j:=λk j hk hj=>by
  obtain⟨cur,hc⟩:=bu h.e hk;obtain⟨lx,bH⟩:=bu h.b hj;exact cE hc bH Zd
 have n3:∀j,vb.ownBlock=some j->j≠rb:=λj hj=>by
  obtain⟨lx,bH⟩:=bu h.b hj;exact cE bH h.r Zd
 have gP:w3.heap[rb]?=some (.cells #[vb,ve] 60 (0,0)):=by rw[ay.block rb (au h.r) (λe=>n1 rb e rfl)];exact h.r
 have tE:∀k,v'.ownBlock=some k->k≠rb:=λk hk=>by
  obtain⟨cur,hc⟩:=bu ho hk;exact cE hc gP Zd
 have hs:ae (λk=>k=rb) w3 (w3.setCell ⟨rb,1,none⟩ v'):=ae.setCell (S:=λk=>k=rb) (ae.refl _ w3) (Or.inl rfl) _;have rK:ai Ib w3 0 298 vb bs:=h.b.kept ay (λk hk e=>n2 k k e hk rfl);refine⟨⟨ve,Zl gP⟩,by simp[World.frozen?,gP],⟨?_,rK.kept hs (λk hk e=>n3 k hk e),ho.kept hs tE,h.ur,h.ub,λk hk=>?_,λk hk=>?_,h.nb,hn⟩,?_⟩
 ·rw[heap_setCell_same _ _ 1 _ _ v' gP];rfl
 ·rcases hl k hk with hl|hl
  ·exact h.ue k hl
  ·intro hu;have:=h.low k hu;omega
 ·exact Nat.lt_of_lt_of_le (h.low k hk) (Nat.le_trans ay.size hs.size)
 ·refine(ay.mono (λk _ hk=>h.ue k hk)).trans ?_;exact hs.mono (λk _ hk=>by subst hk;exact h.ur)
theorem dQ.aside {U S:Nat->Prop} {w w':World} {rb:Nat} {vb ve:Value} {bs:Lp} {es:List En} (h:dQ U w rb vb ve bs es) (ho:ae S w w') (h1:¬S rb) (h2:∀k,vb.ownBlock=some k->¬S k) (h3:∀k,ve.ownBlock=some k->¬S k):dQ U w' rb vb ve bs es:=
 ⟨by rw[ho.block rb (au h.r) h1];exact h.r,h.b.kept ho h2,h.e.kept ho h3,h.ur,h.ub,h.ue,λk hk=>Nat.lt_of_lt_of_le (h.low k hk) ho.size,h.nb,h.ne⟩
def gX (bs:Lp) (num n:Int):Int:=if num<0\/fB n=false then 1 else match mK bs num with|some _=>7|none=>0
def fH (bs:Lp) (num n:Int):Lp:=if gX bs num n=0 then bs++[(num,n)] else bs
theorem abT {U:Nat->Prop} {w:World} {rb:Nat} {bs:Lp} {es:List En} (hc:ju U w rb bs es) (num n:Int) (hlen:bs.length<1000000):Zk 115 #[Zp rb,Zi num,Zi n] w λe w'=>Zr e (Zi (gX bs num n))/\ju U w' rb (fH bs num n) es/\Zn U w w':=by
 obtain⟨vb,ve,h⟩:=hc;have jv:=aa (NY n w);have gF:=aa (TG h num);have HH:=aa h;have c0:=h.c0;have f0:=h.fz 0;clear h;by_cases hb:num<0\/fB n=false
 ·have HE:Hid (gX bs num n=1):=if_pos hb;have HR:Hid (ju U w rb (fH bs num n) es):=⟨vb,ve,by unfold fH;rw[HE.j];exact HH.j⟩
  clear gF;by_cases h1:num<0
  ·go_enter func115,ntmps115;go_wp2_with fail;refine jv.j.e1 ?_;go_wp2_with fail
   all_goals
    go_ret;exact⟨by rw[HE.j];rfl,HR.j,ae.refl _ _⟩
  ·have h3:fB n=false:=by rcases hb with hb|hb;exact absurd hb h1;exact hb
   rw[h3] at jv;clear hb;go_enter func115,ntmps115;go_wp2_with fail;refine jv.j.e1 ?_;go_wp2_with fail
   all_goals
    go_ret;exact⟨by rw[HE.j];rfl,HR.j,ae.refl _ _⟩
 ·have h1:¬num<0:=λh=>hb (Or.inl h)
  have h3:fB n=true:=by cases h:fB n;exact absurd (Or.inr h) hb;rfl
  rw[h3] at jv
  cases hx:mK bs num with
  |some i=>
   have HE:Hid (gX bs num n=7):=by show gX bs num n=7;unfold gX;rw[if_neg hb,hx]
   have HR:Hid (ju U w rb (fH bs num n) es):=⟨vb,ve,by unfold fH;rw[HE.j];exact HH.j⟩
   rw[hx] at gF;have fZ:Hid (Zk 150 #[Zp rb,Zi num] w λe w'=>Zr e (Zi (i:Int))/\w'=w):=gF;have h4:0<=(i:Int):=Zo;clear hb hx gF h3;go_enter func115,ntmps115;go_wp2_with fail;refine jv.j.e1 ?_;go_wp2_with fail;refine fZ.j.e1 ?_;go_wp2_with fail
   all_goals
    go_ret
    exact⟨by rw[HE.j];rfl,HR.j,ae.refl _ _⟩
  |none=>
   have HE:Hid (gX bs num n=0):=by show gX bs num n=0;unfold gX;rw[if_neg hb,hx]
   have HL:Hid (fH bs num n=bs++[(num,n)]):=by show fH bs num n=_;unfold fH;rw[HE.j];rfl
   rw[hx] at gF;have fZ:Hid (Zk 150 #[Zp rb,Zi num] w λe w'=>Zr e (Zi (-1))/\w'=w):=gF;have cX:=aa hlen;have oD:Hid (bs.length+1<=10000000):=Nat.le_trans hlen Zd;have lD:Hid ((bs++[(num,n)]).length<=1000000):=by show(bs++[(num,n)]).length<=1000000;rw[List.length_append];exact hlen
   clear hb hx gF h3 hlen;go_enter func115,ntmps115;go_wp2_with fail;refine jv.j.e1 ?_;go_wp2_with fail;refine fZ.j.e1 ?_;go_wp2_with (at_builtin;refine mg bxK _ rfl _ _ rfl 0 vb bs rfl HH.j.b (num,n) _ _ rfl rfl rfl oD.j (Nat.zero_le _) ?_;intro v' w3 bc aP bB;obtain⟨p',c',wg,_⟩:=bc.form;subst wg;obtain⟨⟨x0,Kl⟩,hf0,hR,hO⟩:=HH.j.XN bc aP (uM bB) lD.j;have HR:=aa hR;have HO:=aa hO;clear bc aP bB hR hO)
   all_goals
    go_ret;have h1:=HO.j;have h2:=HR.j;simp only[List.length_append,List.length_cons,List.length_nil,Nat.zero_add] at h1 h2;exact⟨by rw[HE.j];rfl,by rw[HL.j];exact⟨_,_,h2⟩,h1⟩
def QG (es:List En) (n:Int):Option Nat:=dq (λe=>decide (e.at'.1=n)) es 0
def ahd (bs:Lp) (es:List En) (n:Int):Int:=match mK bs n with|none=>6|some _=>match QG es n with|some _=>10|none=>0
def ahc (bs:Lp) (es:List En) (n:Int):Lp:=match mK bs n with|none=>bs|some i=>match QG es n with|some _=>bs|none=>bs.take i++bs.drop (i+1)
section
def CS:List Value->Nat->List Value->List Value
 |xs,_,[]=>xs
 |xs,o,v::r=>CS (xs.set o v) (o+1) r
theorem Je:∀(vs xs:List Value) (o:Nat),o+vs.length<=xs.length->CS xs o vs=xs.take o++vs++xs.drop (o+vs.length)
 |[],xs,o,h=>by simp[CS]
 |v::r,xs,o,h=>by
  have h2:o+1+r.length<=(xs.set o v).length:=by rw[List.length_set];simp only[List.length_cons] at h;omega
  have ho:o<xs.length:=by simp only[List.length_cons] at h;omega
  show CS (xs.set o v) (o+1) r=_;rw[Je r _ _ h2]
  have e1:(xs.set o v).take (o+1)=xs.take o++[v]:=by
   rw[List.take_set,List.take_succ_eq_append_getElem ho,List.set_append_right _ _ (by rw[List.length_take];omega)];have:o - (xs.take o).length=0:=by rw[List.length_take];omega
   rw[this];rfl
  have e2:(xs.set o v).drop (o+1+r.length)=xs.drop (o+(v::r).length):=by
   rw[List.drop_set_of_lt Zo,List.length_cons];congr 1;omega
  rw[e1,e2];simp
theorem JK {base g n cap size:Nat} {e:TypeId}:∀(vs xs:List Value) (o:Nat) (w:World),w.ownsRow base e size (Zs g n cap) n xs->(w.setCells g o vs).ownsRow base e size (Zs g n cap) n (CS xs o vs)/\ae (λk=>k=g) w (w.setCells g o vs)
 |[],xs,o,w,h=>⟨h,ae.refl _ _⟩
 |v::r,xs,o,w,h=>by
  have h1:=(World.ownsRow.stored h o v).1;obtain⟨h2,h3⟩:=JK r (xs.set o v) (o+1) _ h1;exact⟨h2,(ae.setCell (S:=λk=>k=g) (ae.refl _ w) (Or.inl rfl) v).trans h3⟩
variable {w:World} {α:Type} {L:Lay α} {base g n c:Nat} {e:TypeId} {xs:List α}
theorem Mf (L:Lay α):∀(xs:List α) (k:Nat) (y:α),k<xs.length->(fl L xs).take (k*L.sz)++L.cf y++(fl L xs).drop (k*L.sz+L.sz)=fl L (xs.set k y)
 |[],k,y,h=>by cases h
 |x::r,0,y,_=>by
  rw[ov,List.set_cons_zero,ov,Nat.zero_mul,Nat.zero_add,List.take_zero,List.nil_append];congr 1
  rw[<-L.len x,List.drop_left]
 |x::r,k+1,y,h=>by
  have ih:=Mf L r k y (by simpa using h);rw[ov,List.set_cons_succ,ov,<-ih];have e:(k+1)*L.sz=(L.cf x).length+k*L.sz:=by rw[L.len,Nat.add_mul];omega
  rw[e,List.take_length_add_append,Nat.add_assoc,List.drop_length_add_append];simp
theorem Gb (h:ai L w base e (Zs g n c) xs) (hn:n=xs.length) {k:Nat} (hk:k<xs.length) (j:Nat) (vs:List Value) (y:α) (hj:j+vs.length<=L.sz) (hy:(L.cf xs[k]).take j++vs++(L.cf xs[k]).drop (j+vs.length)=L.cf y):
  ai L (w.setCells g (k*L.sz+j) vs) base e (Zs g n c) (xs.set k y)/\ae (λk=>k=g) w (w.setCells g (k*L.sz+j) vs):=by
 subst hn;obtain⟨h1,h2⟩:=JK vs (fl L xs) (k*L.sz+j) w h;refine⟨?_,h2⟩;have hl:(fl L xs).length=xs.length*L.sz:=h.1
 have hle:k*L.sz+L.sz<=xs.length*L.sz:=by
  have h9:(k+1)*L.sz<=xs.length*L.sz:=Nat.mul_le_mul_right L.sz hk;rw[Nat.add_mul] at h9;omega
 have hs:=Mf L xs k xs[k] hk;rw[List.set_getElem_self] at hs;have ha:((fl L xs).take (k*L.sz)).length=k*L.sz:=by rw[List.length_take,hl];omega
 have hb:=L.len xs[k];rw[Je _ _ _ (by rw[hl];omega)] at h1;show World.ownsRow _ _ _ _ _ _ _;rw[List.length_set,<-Mf L xs k y hk,<-hy];generalize (fl L xs).take (k*L.sz)=A at*;generalize (fl L xs).drop (k*L.sz+L.sz)=C at*;rw[<-hs,<-ha,List.append_assoc A,List.take_length_add_append,Nat.add_assoc,List.drop_length_add_append,List.take_append_of_le_length Zo,List.drop_append_of_le_length Zo] at h1;simp only[List.append_assoc] at h1|-;rw[ha] at h1;exact h1
end
theorem aam {w:World} {base g c m:Nat} {T:TypeId} {xs:List En} (h:ai dP w base T (Zs g m c) xs) (hm:m=xs.length) (k:Nat) (hk:k<xs.length) (cp:Cp):
  let W:=((((((((w.setCell ⟨g,k*12+2,none⟩ (Zi cp.kind)).setCell ⟨g,k*12+3,none⟩ (Zi cp.num)).setCell ⟨g,k*12+4,none⟩ (Zi cp.rights)).setCell ⟨g,k*12+5,none⟩ (Zu cp.cQ)).setCell ⟨g,k*12+6,none⟩ (Zu cp.guard)).setCell ⟨g,k*12+7,none⟩ (Zi cp.bS)).setCell ⟨g,k*12+8,none⟩ (Zi cp.root)).setCell ⟨g,k*12+9,none⟩ (Zu cp.va));ai dP W base T (Zs g m c) (xs.set k ⟨xs[k].at',cp,xs[k].aW⟩)/\ae (λb=>b=g) w W:=Gb h hm hk 2 (de cp) ⟨xs[k].at',cp,xs[k].aW⟩ (Nat.le_of_ble_eq_true rfl) rfl
theorem Gc {w:World} {base g c m:Nat} {T:TypeId} {xs:List En} (h:ai dP w base T (Zs g m c) xs) (hm:m=xs.length) (k:Nat) (hk:k<xs.length) (y:En):
  let W:=((((((((((((w.setCell ⟨g,k*12,none⟩ (Zi y.at'.1)).setCell ⟨g,k*12+1,none⟩ (Zi y.at'.2)).setCell ⟨g,k*12+2,none⟩ (Zi y.cap.kind)).setCell ⟨g,k*12+3,none⟩ (Zi y.cap.num)).setCell ⟨g,k*12+4,none⟩ (Zi y.cap.rights)).setCell ⟨g,k*12+5,none⟩ (Zu y.cap.cQ)).setCell ⟨g,k*12+6,none⟩ (Zu y.cap.guard)).setCell ⟨g,k*12+7,none⟩ (Zi y.cap.bS)).setCell ⟨g,k*12+8,none⟩ (Zi y.cap.root)).setCell ⟨g,k*12+9,none⟩ (Zu y.cap.va)).setCell ⟨g,k*12+10,none⟩ (Zi y.aW.1)).setCell ⟨g,k*12+11,none⟩ (Zi y.aW.2));ai dP W base T (Zs g m c) (xs.set k y)/\ae (λb=>b=g) w W:=Gb h hm hk 0 (vk y) y (Nat.le_of_ble_eq_true rfl) rfl
theorem JI {w:World} {base g c m:Nat} {T:TypeId} {xs:List En} (h:ai dP w base T (Zs g m c) xs):∀j,w.frozen? ⟨g,j,none⟩=false:=λj=>h.fz j
theorem dQ.Ke {U:Nat->Prop} {w w3:World} {rb:Nat} {vb:Value} {g c m:Nat} {bs:Lp} {es AU:List En} (h:dQ U w rb vb (Zs g m c) bs es) (ho:ai dP w3 0 208 (Zs g m c) AU) (ay:ae (λb=>b=g) w w3) (hn:AU.length=es.length):
  dQ U w3 rb vb (Zs g m c) bs AU/\Zn U w w3:=by
 have hg:(Value.slice (some ⟨g,0,none⟩) m c).ownBlock=some g:=rfl;obtain⟨cur,hc⟩:=bu h.e hg;have n1:rb≠g:=(cE hc h.r Zd).symm
 have n2:∀k,vb.ownBlock=some k->k≠g:=λk hk=>by
  obtain⟨lx,bH⟩:=bu h.b hk;exact cE bH hc Zd
 exact⟨⟨by rw[ay.block rb (au h.r) n1];exact h.r,h.b.kept ay n2,ho,h.ur,h.ub,h.ue,λk hk=>Nat.lt_of_lt_of_le (h.low k hk) ay.size,h.nb,by rw[hn];exact h.ne⟩,ay.mono (λk _ hk=>by rw[hk];exact h.ue g hg)⟩
def mW (a b:Cp):Bool:=decide (a.kind=b.kind/\a.num=b.num)
def kS (bs:Lp) (es:List En) (s:Sl) (c:Cp):Int:=match cy bs es s with|.error e=>e|.ok i=>if mW (es.getD i .df).cap c then 0 else 12
def eY (bs:Lp) (es:List En) (s:Sl) (c:Cp):List En:=match cy bs es s with|.error _=>es|.ok i=>if mW (es.getD i .df).cap c then es.set i ⟨(es.getD i .df).at',c,(es.getD i .df).aW⟩ else es
theorem XF {U:Nat->Prop} {w:World} {rb:Nat} {bs:Lp} {es:List En} (hc:ju U w rb bs es) (s:Sl) (cp:Cp):Zk 123 #[Zp rb,.agg #[Zi s.1,Zi s.2],.agg #[Zi cp.kind,Zi cp.num,Zi cp.rights,Zu cp.cQ,Zu cp.guard,Zi cp.bS,Zi cp.root,Zu cp.va]] w λe w'=>Zr e (Zi (kS bs es s cp))/\ju U w' rb bs (eY bs es s cp)/\Zn U w w':=by
 obtain⟨vb,ve,h⟩:=hc;obtain⟨s1,s2⟩:=s;have eW:Hid (∀wv,Zq w wv->Zk 117 #[Zp rb,.agg #[Zi s1,Zi s2]] wv λe w'=>Zr e (.tuple #[Zi (pW (cy bs es (s1,s2))),Zi (nI (cy bs es (s1,s2)))])/\Zq wv w'):=λwv hv=>Hr (h.quiet hv) (s1,s2)
 have HO:Hid (∀o p,Zq w ((w.alloc o).alloc p)):=λo p=>((ae.refl _ w).alloc _).alloc _
 have HH:=aa h;clear h;obtain⟨d0,d1,d2,d3,d4,d5,d6,d7⟩:=cp;dsimp only;rcases wW bs es (s1,s2) with⟨i,hf,hi⟩|hf|hf
 ·obtain⟨bM,_⟩:=AV hi;have fu:es.getD i .df=es[i]:=by simp[bM]
  have oE:Hid (∀c,kS bs es (s1,s2) c=if mW es[i].cap c then 0 else 12):=λc=>by unfold kS;rw[hf];dsimp only;rw[fu]
  have pB:Hid (∀c,eY bs es (s1,s2) c=if mW es[i].cap c then es.set i ⟨es[i].at',c,es[i].aW⟩ else es):=λc=>by unfold eY;rw[hf];dsimp only;rw[fu]
  rw[hf] at eW;simp only[pW,nI] at eW;clear hf hi fu;go_enter func123,ntmps123;go_wp2_with fail;refine(eW.j _ (HO.j _ _)).m ?_;rintro e w2 ⟨rfl,hq⟩;have fI:=(HO.j (.cells #[Zi s1,Zi s2] 95) (.cells #[Zi d0,Zi d1,Zi d2,Zu d3,Zu d4,Zi d5,Zi d6,Zu d7] 97)).trans hq;have hz:=xT hq;have H2:=aa (HH.j.quiet fI);obtain⟨g,c,Dp,hE⟩:=H2.j.Tm i bM;have c1:=H2.j.c1;rw[Dp] at c1 H2;obtain⟨⟨z0,z1,z2,z3,z4,z5,z6,z7⟩,zf⟩:=eL hz;obtain⟨a0,a1,k0,k1,k2,k3,k4,k5,k6,k7,a2,a3⟩:=hE;have aL:=aa fI;obtain⟨N,hN⟩:=Ze (es.length);have HN:=aa hN;rw[<-hN] at c1;have bf:0<=(i:Int)/\(i:Int)<(N:Int):=Zo;obtain⟨rc,dO⟩:=Ze (w.heap.size+1);rw[<-dO] at z0 z1 z2 z3 z4 z5 z6 z7 zf hz|-;have HZ:=aa hz;have kN:=aa bM;clear a0 a1 a2 a3 k2 k3 k4 k5 k6 k7 z2 z3 z4 z5 z6 z7 zf hq Dp hz fI eW HH HO hN dO;generalize kI:es[i].cap=cq at k0 k1 oE pB;obtain⟨f0,f1,f2,f3,f4,f5,f6,f7⟩:=cq;dsimp only at k0 k1;by_cases h0:f0=d0
  ·subst h0;by_cases h1:f1=d1
   ·subst h1;have HS:Hid (mW ⟨f0,f1,f2,f3,f4,f5,f6,f7⟩ ⟨f0,f1,d2,d3,d4,d5,d6,d7⟩=true):=decide_eq_true ⟨rfl,rfl⟩;go_wp2_with fail;go_quiet (fail);go_wp2_with fail;obtain⟨w3,dz⟩:=Ze (w2.drewN nq);rw[<-dz];have ay:Zq w2 w3:=by rw[dz];exact(ae.refl _ w2).drewN _
    have H3:=aa (H2.j.quiet ay);have c1':=H3.j.c1;obtain⟨⟨y0,y1,y2,y3,y4,y5,y6,y7⟩,yf⟩:=eL ((ay.block rc (au HZ.j) (λh=>h)).trans HZ.j);obtain⟨_,_,m0,m1,m2,m3,m4,m5,m6,m7,_,_⟩:=xQ H3.j.e i kN.j;have mf:=JI H3.j.e;have Uq:=aa (aam H3.j.e rfl i kN.j ⟨f0,f1,d2,d3,d4,d5,d6,d7⟩);rw[<-HN.j] at c1';have bD:=aa (aL.j.trans ay);clear dz ay c1 k0 k1 z0 z1
    go_region
    all_goals
     go_wp2_with fail;go_ret;obtain⟨r1,r2⟩:=H3.j.Ke Uq.j.1 Uq.j.2 (by rw[List.length_set]);exact⟨by rw[oE.j,HS.j];rfl,by rw[pB.j,HS.j];exact⟨_,_,r1.quiet ((ae.refl _ _).drew)⟩,((bD.j.f).trans r2).drew⟩
   ·have HS:Hid (mW ⟨f0,f1,f2,f3,f4,f5,f6,f7⟩ ⟨f0,d1,d2,d3,d4,d5,d6,d7⟩=false):=decide_eq_false (λh=>h1 h.2);have he:(f1==d1)=false:=beq_eq_false_iff_ne.2 h1;go_wp2_with fail;go_quiet (fail);go_wp2_with fail
    all_goals
     go_ret;exact⟨by rw[oE.j,HS.j];rfl,by rw[pB.j,HS.j];exact⟨_,_,H2.j.quiet ((ae.refl _ _).drewN _)⟩,(aL.j.f).drewN _⟩
  ·have HS:Hid (mW ⟨f0,f1,f2,f3,f4,f5,f6,f7⟩ ⟨d0,d1,d2,d3,d4,d5,d6,d7⟩=false):=decide_eq_false (λh=>h0 h.1);have he:(f0==d0)=false:=beq_eq_false_iff_ne.2 h0;go_wp2_with fail;go_quiet (fail);go_wp2_with fail
   all_goals
    go_ret;exact⟨by rw[oE.j,HS.j];rfl,by rw[pB.j,HS.j];exact⟨_,_,H2.j.quiet ((ae.refl _ _).drewN _)⟩,(aL.j.f).drewN _⟩
 ·have HE:Hid (∀c,kS bs es (s1,s2) c=9):=λc=>by unfold kS;rw[hf]
  have HL:Hid (∀c,eY bs es (s1,s2) c=es):=λc=>by unfold eY;rw[hf]
  rw[hf] at eW;simp only[pW,nI] at eW;clear hf;go_enter func123,ntmps123;go_wp2_with fail;refine(eW.j _ (HO.j _ _)).m ?_;rintro e w2 ⟨rfl,hq⟩;have HQ:=aa ((HO.j _ _).trans hq);clear hq eW HO;go_wp2_with fail
  all_goals
   go_ret;exact⟨by rw[HE.j];rfl,by rw[HL.j];exact⟨_,_,HH.j.quiet HQ.j⟩,HQ.j.f⟩
 ·have HE:Hid (∀c,kS bs es (s1,s2) c=11):=λc=>by unfold kS;rw[hf]
  have HL:Hid (∀c,eY bs es (s1,s2) c=es):=λc=>by unfold eY;rw[hf]
  rw[hf] at eW;simp only[pW,nI] at eW;clear hf;go_enter func123,ntmps123;go_wp2_with fail;refine(eW.j _ (HO.j _ _)).m ?_;rintro e w2 ⟨rfl,hq⟩;have HQ:=aa ((HO.j _ _).trans hq);clear hq eW HO;go_wp2_with fail
  all_goals
   go_ret;exact⟨by rw[HE.j];rfl,by rw[HL.j];exact⟨_,_,HH.j.quiet HQ.j⟩,HQ.j.f⟩
def Tp (a tt:Sl) (y:En):En:=if y.aW=a then ⟨y.at',y.cap,tt⟩ else y
def Tq (es:List En) (i:Nat) (tt:Sl):List En:=(es.eraseIdx i).map (Tp (es.getD i .df).at' tt)
def ahe (es:List En) (i:Nat) (a tt:Sl) (k:Nat):List En:=((es.take k).eraseIdx i).map (Tp a tt)
def Vb:Array Value:=#[Zi 0,Zi 0,Zi 0,Zi 0,Zi 0,Zu 0,Zu 0,Zi 0,Zi 0,Zu 0,Zi 0,Zi 0]
structure CuR (U:Nat->Prop) (w:World) (rb:Nat) (vb ve:Value) (bs:Lp) (es:List En) (B tb zb xb:Nat) (x:En) (tt:Sl) (v:Value) (ls:List En) (wr:World):Prop where
 r0:dQ U w rb vb ve bs es
 on:Zq w wr
 t:wr.heap[tb]?=some (.cells #[Zi tt.1,Zi tt.2] 95 (0,0))
 z:wr.heap[zb]?=some (.cells Vb 208 (0,0))
 x:wr.heap[xb]?=some (.cells (vk x).toArray 208 (0,0))
 own:ai dP wr B 208 v ls
 lt:tb<B/\zb<B/\xb<B/\w.heap.size<=tb/\w.heap.size<=zb/\w.heap.size<=xb/\B<=wr.heap.size/\w.heap.size<=B
end Go.Proofs.YtphkconoooeidaaGreatDoor
namespace Go.Vx
section
variable {α:Type}
theorem FP {P:Program} {L:Lay α} {t e:TypeId} (hk:Kind P L t e) {w:World} {ops:Array Oper} {o:Oper} {a:Act} {K:Act->World->Prop} {Q:Exit->Act->World->Prop} {E:Prop} (fu:o.guard=none) (s x:Operand)
  (ho:o.op=.call {callee:=.builtin .append,args:=#[s,x],argTypes:=#[t,t]}) (base:Nat) (v:Value) (xs:List α) (hs:a.eval s=v) (jF:ai L w base e v xs) (y:α) (b n c:Nat) (hx:a.eval x=Zs b 1 c) (hy:∀j u,(L.cf y)[j]?=some u->w.cell? ⟨b,j,none⟩=some u) (hlen:xs.length+1<=10000000) (jb:base<=w.heap.size)
  (h:∀v' w',ai L w' base e v' (xs++[y])->ae (λk=>v.ownBlock=some k) w w'->(v'.ownBlock=v.ownBlock\/∃g,v'.ownBlock=some g/\w.heap.size<=g/\Zq w w')->K (a.put o.dst v') w'):if Region.wanted o (yielded ops a.tmps)=true then Oper.wp P o a w K Q else E:=by
 have hw:Region.wanted o (yielded ops a.tmps)=true:=by simp[Region.wanted,fu]
 rw[if_pos hw];obtain⟨v',w',hr,h2,h3,h4⟩:=Jk hk w o.type base v xs jF (some ⟨b,0,none⟩) c [y] (λ_=>⟨_,rfl,λj u hj=>by rw[pY,Nat.zero_add];exact hy j u (by rw[S7] at hj;exact hj)⟩) hlen jb;have hr':(Builtin.append_ #[t,t] o.type #[v,Zs b 1 c]).run P w=.ok v' w':=hr;unfold Oper.wp execOp;simp only[ho,resolve,invoke,builtin,Sem.run_bind,Sem.run_pure,Result.andThen_ok,List.map_toArray,List.map_cons,List.map_nil,hs,hx,hr'];exact h v' w' h2 h3 h4
theorem jy {P:Program} {ops:Array Oper} {o:Oper} {a:Act} {w:World} {K:Act->World->Prop} {Q:Exit->Act->World->Prop} {E:Prop} {R:Ending->World->Prop}
  (hg:o.guard=none) (f:FuncId) (args:Array Operand) (MD:Array TypeId) (Au:o.op=Op.call {callee:=Callee.value (.func f),args:=args,argTypes:=MD}) (vG:Array Value) (hv:args.map a.eval=vG)
  (Lw:(callFunc f vG).run P w=.ok (.enter f vG) w) (hC:Calls P f vG w R) (hR:∀e w',R e w'->∃v,Zr e v/\K (a.put o.dst v) w'):
  if Region.wanted o (yielded ops a.tmps)=true then Oper.wp P o a w K Q else E:=by
 have hw:Region.wanted o (yielded ops a.tmps)=true:=by simp[Region.wanted,hg]
 rw[if_pos hw];unfold Oper.wp;simp[execOp,Au,resolve,invoke,hv,Lw,Act.eval,Deferred.ofValue];refine hC.m ?_;intro e w' h;obtain⟨v,rfl,hk⟩:=hR e w' h;exact hk
end
end Go.Vx
namespace Go.Proofs.YtphkconoooeidaaGreatDoor
def lK (es:List En) (x:En):Nat->Nat
 |0=>0
 |k+1=>if je x.at' (es.getD k .df).at' then lK es x k else k+1
def gN (es:List En) (x:En) (k:Nat):List En:=es.take k++x::es.drop k
def mr (es:List En) (x:En):List En:=gN es x (lK es x es.length)
theorem uO (es:List En) (x:En) (k:Nat):(gN es x k).length=es.length+1:=by
 unfold gN;rw[List.length_append,List.length_cons,List.length_take,List.length_drop];omega
theorem Qu (es:List En) (x:En) (k:Nat) (hk:k<=es.length):(gN es x k)[k]?=some x:=by
 unfold gN;rw[List.getElem?_append_right (by rw[List.length_take];omega),List.length_take,Nat.min_eq_left hk,Nat.sub_self];rfl
theorem adC (es:List En) (x:En) (k:Nat) (hk:k<es.length):(gN es x (k+1))[k]?=some es[k]:=by
 unfold gN;rw[List.getElem?_append_left (by rw[List.length_take];omega),List.getElem?_take,if_pos Zo,List.getElem?_eq_getElem hk]
theorem adz (es:List En) (x:En) (k:Nat) (hk:k<es.length):((gN es x (k+1)).set (k+1) es[k]).set k x=gN es x k:=by
 apply List.ext_getElem?;intro j;rw[List.getElem?_set,List.getElem?_set];simp only[List.length_set,uO];by_cases h1:k=j
 ·subst h1;rw[if_pos rfl,if_pos Zo,Qu es x k Zo]
 ·rw[if_neg h1];by_cases h2:k+1=j
  ·subst h2;rw[if_pos rfl,if_pos Zo];unfold gN;rw[List.getElem?_append_right (by rw[List.length_take];omega),List.length_take,Nat.min_eq_left Zo,show k+1 - k=1 from Zo,List.getElem?_cons_succ,List.getElem?_drop,Nat.add_zero,List.getElem?_eq_getElem hk]
  ·rw[if_neg h2];unfold gN;by_cases h3:j<k
   ·rw[List.getElem?_append_left (by rw[List.length_take];omega),List.getElem?_append_left (by rw[List.length_take];omega),List.getElem?_take,List.getElem?_take,if_pos Zo,if_pos h3]
   ·rw[List.getElem?_append_right (by rw[List.length_take];omega),List.getElem?_append_right (by rw[List.length_take];omega),List.length_take,List.length_take,Nat.min_eq_left Zo,Nat.min_eq_left Zo];obtain⟨d,rfl⟩:∃d,j=k+1+1+d:=⟨j - (k+2),Zo⟩
    rw[show k+1+1+d - (k+1)=d+1 from Zo,show k+1+1+d - k=d+1+1 from Zo,List.getElem?_cons_succ,List.getElem?_cons_succ,List.getElem?_drop,List.getElem?_drop];congr 1;omega
theorem sD (es:List En) (k:Nat) (hk:k<es.length):es.getD k .df=es[k]:=by rw[List.getD_eq_getElem?_getD,List.getElem?_eq_getElem hk];rfl
theorem adB (es:List En) (x:En) (k:Nat) (hk:k<es.length):(gN es x (k+1))[k]?=some (es.getD k .df):=by rw[sD es k hk];exact adC es x k hk
theorem ady (es:List En) (x:En) (k:Nat) (hk:k<es.length):((gN es x (k+1)).set (k+1) (es.getD k .df)).set k x=gN es x k:=by rw[sD es k hk];exact adz es x k hk
theorem adA (es:List En) (x:En):gN es x es.length=es++[x]:=by
 unfold gN;rw[List.take_length,List.drop_length]
def Ep (x:En):Array Value:=#[Zi x.at'.1,Zi x.at'.2,Zi x.cap.kind,Zi x.cap.num,Zi x.cap.rights,Zu x.cap.cQ,Zu x.cap.guard,Zi x.cap.bS,Zi x.cap.root,Zu x.cap.va,Zi x.aW.1,Zi x.aW.2]
theorem adu {U:Nat->Prop} {w:World} {rb:Nat} {bs:Lp} {es:List En} (hc:ju U w rb bs es) (x:En) (hlen:es.length<1000000):Zk 120 #[Zp rb,.agg (Ep x)] w λe w'=>Zr e (.tuple #[])/\ju U w' rb bs (mr es x)/\Zn U w w':=by
 obtain⟨vb,ve,h⟩:=hc;obtain⟨w1,ag⟩:=Ze (w.alloc (.cells (Ep x) 208));have ay:=Za ag;have h1:=h.quiet ay;have hX:w1.heap[w.heap.size]?=some (.cells (Ep x) 208 (0,0)):=by rw[ag];exact heap_alloc_last w _
 obtain⟨xb,bQ⟩:=Ze (w.heap.size);rw[<-bQ] at hX;have c1:=h1.c1;have f1:=h1.fz 1;obtain⟨⟨dy,dx⟩,⟨ek,ej,eh,ef,dZ,dY,dX,dW⟩,⟨dV,dU⟩⟩:=x;unfold Ep at ag hX|-;dsimp only at ag hX|-;have x0:w1.cell? ⟨xb,0,none⟩=some (Zi dy):=Zl hX;have x1:w1.cell? ⟨xb,1,none⟩=some (Zi dx):=Zl hX;have x2:w1.cell? ⟨xb,2,none⟩=some (Zi ek):=Zl hX;have x3:w1.cell? ⟨xb,3,none⟩=some (Zi ej):=Zl hX;have x4:w1.cell? ⟨xb,4,none⟩=some (Zi eh):=Zl hX;have x5:w1.cell? ⟨xb,5,none⟩=some (Zu ef):=Zl hX;have x6:w1.cell? ⟨xb,6,none⟩=some (Zu dZ):=Zl hX;have x7:w1.cell? ⟨xb,7,none⟩=some (Zi dY):=Zl hX;have x8:w1.cell? ⟨xb,8,none⟩=some (Zi dX):=Zl hX;have x9:w1.cell? ⟨xb,9,none⟩=some (Zu dW):=Zl hX;have VU:w1.cell? ⟨xb,10,none⟩=some (Zi dV):=Zl hX;have VT:w1.cell? ⟨xb,11,none⟩=some (Zi dU):=Zl hX;have HH:=aa h;have H1:=aa h1;clear h h1 hX;go_enter func120,ntmps120;go_wp2_with fail;rw[<-ag,<-bQ];have MS:=aa (⟨bQ,ay⟩:_/\_);clear ag bQ ay;obtain⟨wd,ny⟩:=Ze ((w1.alloc (.cells #[Zi dy,Zi dx,Zi ek,Zi ej,Zi eh,Zu ef,Zu dZ,Zi dY,Zi dX,Zu dW,Zi dV,Zi dU] 208)).drew);have rJ:Zq w1 wd:=by rw[ny];exact((ae.refl _ w1).alloc _).drew
 have QN:∀j u,(dP.cf ⟨(dy,dx),⟨ek,ej,eh,ef,dZ,dY,dX,dW⟩,(dV,dU)⟩)[j]?=some u->wd.cell? ⟨w1.heap.size,j,none⟩=some u:=λj u hj=>by
  have hl:wd.heap[w1.heap.size]?=some (.cells #[Zi dy,Zi dx,Zi ek,Zi ej,Zi eh,Zu ef,Zu dZ,Zi dY,Zi dX,Zu dW,Zi dV,Zi dU] 208 (0,0)):=by rw[ny];exact heap_alloc_last w1 _
  rw[cell_of_row _ _ j _ _ (0,0) hl];have fi:(vk ⟨(dy,dx),⟨ek,ej,eh,ef,dZ,dY,dX,dW⟩,(dV,dU)⟩)[j]?=some u:=hj;rw[Ml] at fi;simpa using fi
 have zx:=aa (H1.j.quiet rJ).e;have xi:=aa QN;have pA:=aa (MS.j.2.trans rJ);have jw:Hid (es.length+1<=10000000):=Nat.le_trans hlen Zd;have E9:Hid ((es++[(⟨(dy,dx),⟨ek,ej,eh,ef,dZ,dY,dX,dW⟩,(dV,dU)⟩:En)]).length<=1000000):=by show(es++[(⟨(dy,dx),⟨ek,ej,eh,ef,dZ,dY,dX,dW⟩,(dV,dU)⟩:En)]).length<=1000000;rw[List.length_append];exact hlen
 have dG:Hid (∀v' w3,ai dP w3 0 208 v' (es++[(⟨(dy,dx),⟨ek,ej,eh,ef,dZ,dY,dX,dW⟩,(dV,dU)⟩:En)])->ae (λk=>ve.ownBlock=some k) wd w3->(v'.ownBlock=ve.ownBlock\/∃g,v'.ownBlock=some g/\wd.heap.size<=g/\Zq wd w3)->(∃p m c,v'=.slice p m c)/\(∃x,w3.cell? ⟨rb,1,none⟩=some x)/\w3.frozen? ⟨rb,1,none⟩=false/\Hid (dQ U (w3.setCell ⟨rb,1,none⟩ v') rb vb v' bs (es++[(⟨(dy,dx),⟨ek,ej,eh,ef,dZ,dY,dX,dW⟩,(dV,dU)⟩:En)])/\Zn U w (w3.setCell ⟨rb,1,none⟩ v'))):=λv' w3 a1 a2 a3=>by
  obtain⟨q1,q2,q3,q4⟩:=HH.j.kS a1 ((pA.j.f).trans a2) (λk hk=>(uM a3 k hk).imp (λh=>h) (λh=>Nat.le_trans pA.j.size h)) E9.j;obtain⟨p,c,hv,_⟩:=a1.form;exact⟨⟨p,_,c,hv⟩,q1,q2,q3,q4⟩
 have jm:rb<w1.heap.size:=au H1.j.r;have iz:xb<w1.heap.size:=World.block_lt_of_cell? w1 ⟨xb,0,none⟩ x0;clear rJ QN hlen;go_cut [14] from 7 to 16 (λ_ wx=>∃v,Hid (dQ U wx rb vb v bs (es++[(⟨(dy,dx),⟨ek,ej,eh,ef,dZ,dY,dX,dW⟩,(dV,dU)⟩:En)]))/\Hid (Zn U w wx))
 case first=>
  go_region_law (refine FP Mk rfl (.tmp 11) (.tmp 13) rfl 0 ve es (by simp[Act.eval]) (by rw[<-ny];exact zx.j) ⟨(dy,dx),⟨ek,ej,eh,ef,dZ,dY,dX,dW⟩,(dV,dU)⟩ w1.heap.size 1 1 (by simp[Act.eval]) (by rw[<-ny];exact xi.j) jw.j (Nat.zero_le _) ?_;intro v' w3 bc aP bB;rw[<-ny] at aP bB;obtain⟨⟨pq,mq,cq,rfl⟩,⟨qx,DA⟩,Dz,iH⟩:=dG.j v' w3 bc aP bB;clear bc aP bB)
  all_goals
   go_wp2_with fail;go_meet;exact⟨_,iH.j.1,iH.j.2⟩
 case rest=>
  clear x0 x1 x2 x3 x4 x5 x6 x7 x8 x9 VU VT dG xi zx E9 jw pA HH H1 c1 f1 ny jm iz;obtain⟨v0,iT,Us⟩:=hcut;have Kl:gN es ⟨(dy,dx),⟨ek,ej,eh,ef,dZ,dY,dX,dW⟩,(dV,dU)⟩ es.length=es++[(⟨(dy,dx),⟨ek,ej,eh,ef,dZ,dY,dX,dW⟩,(dV,dU)⟩:En)]:=adA es _;rw[<-Kl] at iT;clear Kl;obtain⟨N,hN⟩:=Ze (es.length);have HN:=aa hN;have hNl:N<=1000000:=by have h3:=iT.j.ne;rw[uO] at h3;omega
  obtain⟨p0,c0,Ag,_⟩:=iT.j.e.form;rw[uO,<-hN] at Ag;subst Ag;have c1:=iT.j.c1;have oR:=Zh (N:Int) Zo;have Cs:Hid (ju U wc rb bs (gN es ⟨(dy,dx),⟨ek,ej,eh,ef,dZ,dY,dX,dW⟩,(dV,dU)⟩ N)):=⟨_,_,by rw[hN];exact iT.j⟩
  have zv:Hid (lK es ⟨(dy,dx),⟨ek,ej,eh,ef,dZ,dY,dX,dW⟩,(dV,dU)⟩ N=lK es ⟨(dy,dx),⟨ek,ej,eh,ef,dZ,dY,dX,dW⟩,(dV,dU)⟩ es.length):=by show lK es _ N=_;rw[hN]
  clear iT hN;go_wp2_with fail
  go_loopw [4] (λd wx=>∃j:Nat,d=Zi (j:Int)/\j<=N/\Hid (lK es ⟨(dy,dx),⟨ek,ej,eh,ef,dZ,dY,dX,dW⟩,(dV,dU)⟩ j=lK es ⟨(dy,dx),⟨ek,ej,eh,ef,dZ,dY,dX,dW⟩,(dV,dU)⟩ es.length)/\Hid (ju U wx rb bs (gN es ⟨(dy,dx),⟨ek,ej,eh,ef,dZ,dY,dX,dW⟩,(dV,dU)⟩ j))/\Hid (Zn U w wx)) (λd _=>(RowKit.intOf d).toNat)
  case atStart=>exact⟨N,by first|rfl|(simp),Nat.le_refl _,zv,Cs,Us⟩
  case round=>
   clear Cs zv Us c1 oR;obtain⟨j,rfl,hj,HP,Cs,HO⟩:=hrel;by_cases qF:j=0
   ·subst qF;have HF:Hid (mr es ⟨(dy,dx),⟨ek,ej,eh,ef,dZ,dY,dX,dW⟩,(dV,dU)⟩=gN es ⟨(dy,dx),⟨ek,ej,eh,ef,dZ,dY,dX,dW⟩,(dV,dU)⟩ 0):=by show mr es _=_;unfold mr;rw[<-HP.j];rfl
    go_wp2_with fail
    all_goals
     go_end0;exact⟨rfl,by rw[HF.j];exact Cs.j,HO.j⟩
   ·obtain⟨i,hi⟩:∃i,j=i+1:=⟨j - 1,Zo⟩
    have HI:=aa hi;have bM:i<es.length:=by have:=HN.j;omega
    have kN:=aa bM;obtain⟨vb',ve',nz⟩:=Cs.j;obtain⟨p,c,hv,_,_,hg⟩:=nz.e.form;obtain⟨g,rfl,_⟩:=hg (by rw[uO];omega);rw[uO,<-HN.j] at hv;subst hv;have c1:=nz.c1;have hJ:j<(gN es ⟨(dy,dx),⟨ek,ej,eh,ef,dZ,dY,dX,dW⟩,(dV,dU)⟩ j).length:=by rw[uO];have:=HN.j;omega
    have hI:i<(gN es ⟨(dy,dx),⟨ek,ej,eh,ef,dZ,dY,dX,dW⟩,(dV,dU)⟩ j).length:=by rw[uO];have:=HN.j;omega
    have eJ:(gN es ⟨(dy,dx),⟨ek,ej,eh,ef,dZ,dY,dX,dW⟩,(dV,dU)⟩ j)[j]=⟨(dy,dx),⟨ek,ej,eh,ef,dZ,dY,dX,dW⟩,(dV,dU)⟩:=by have h3:=Qu es ⟨(dy,dx),⟨ek,ej,eh,ef,dZ,dY,dX,dW⟩,(dV,dU)⟩ j (by have:=HN.j;omega);rw[List.getElem?_eq_getElem hJ] at h3;injection h3
    have eI:(gN es ⟨(dy,dx),⟨ek,ej,eh,ef,dZ,dY,dX,dW⟩,(dV,dU)⟩ j)[i]=es.getD i .df:=by
     have h3:=adB es ⟨(dy,dx),⟨ek,ej,eh,ef,dZ,dY,dX,dW⟩,(dV,dU)⟩ i bM;rw[<-hi,List.getElem?_eq_getElem hI] at h3;injection h3
    have qJ:=xQ nz.e j hJ;have qI:=xQ nz.e i hI;rw[eJ] at qJ;rw[eI] at qI;obtain⟨a0,a1,a2,a3,a4,a5,a6,a7,a8,a9,Ez,Ey⟩:=qJ;obtain⟨b0,b1,b2,b3,b4,b5,b6,b7,b8,b9,Ch,Cg⟩:=qI;have ir:=aa nz;have Ns:=aa (λwv=>afZ ((dy,dx):Sl) (es.getD i .df).at' wv);have G7:(0:Int)<(j:Int):=Zo;have Sc:0<=(j:Int)/\(j:Int)<((N+1:Nat):Int):=Zo;have Sb:0<=(j:Int)/\(j:Int)<(N:Int)+1:=Zo;have Sd:0<=(i:Int)/\(i:Int)<((N+1:Nat):Int):=Zo;have ah4:0<=(i:Int)/\(i:Int)<(N:Int)+1:=Zo;have jT:IntKind.i64.wrap ((j:Int) - 1)=(i:Int):=by rw[IntKind.wrap_i64];omega
    generalize QJ:es.getD i .df=ze at b0 b1 b2 b3 b4 b5 b6 b7 b8 b9 Ch Cg Ns eI;obtain⟨⟨xB,xA⟩,⟨FB,FA,uy,Fz,Fy,Fx,Fw,Fv⟩,⟨Fu,Ft⟩⟩:=ze;dsimp only at b0 b1 b2 b3 b4 b5 b6 b7 b8 b9 Ch Cg a0 a1 a2 a3 a4 a5 a6 a7 a8 a9 Ez Ey Ns;have TU:=aa QJ;have HEI:=aa eI;have UE:=aa eJ;clear hi bM nz hg eJ eI qF QJ Cs;go_upto_region 5 with fail
    go_cut [5] from 23 to 75 (λv wx=>v=.bool (je (dy,dx) (xB,xA))/\Hid (Zq wr wx))
    case first=>
     go_region_law (refine jy rfl 175 #[.tmp 34,.tmp 43] #[95,95] rfl #[.agg #[Zi dy,Zi dx],.agg #[Zi xB,Zi xA]] (by simp[Act.eval]) (by simp[go_sem]) (Ns.j _) ?_;rintro e w5 ⟨rfl,h5⟩;have H5:=aa h5;clear h5;refine⟨_,rfl,?_⟩)
     all_goals
      go_wp2_with fail;go_meet;exact⟨rfl,((ae.refl _ wr).drew).trans H5.j⟩
    case rest=>
     obtain⟨rfl,vv⟩:=hcut
     have cG:lK es ⟨(dy,dx),⟨ek,ej,eh,ef,dZ,dY,dX,dW⟩,(dV,dU)⟩ (i+1)=if je (dy,dx) (xB,xA) then lK es ⟨(dy,dx),⟨ek,ej,eh,ef,dZ,dY,dX,dW⟩,(dV,dU)⟩ i else i+1:=by
      show(if je (dy,dx) (es.getD i .df).at' then lK es ⟨(dy,dx),⟨ek,ej,eh,ef,dZ,dY,dX,dW⟩,(dV,dU)⟩ i else i+1)=_;rw[TU.j]
     cases ch:je (dy,dx) (xB,xA)
     ·rw[ch] at cG
      have HF:Hid (mr es ⟨(dy,dx),⟨ek,ej,eh,ef,dZ,dY,dX,dW⟩,(dV,dU)⟩=gN es ⟨(dy,dx),⟨ek,ej,eh,ef,dZ,dY,dX,dW⟩,(dV,dU)⟩ j):=by
       show mr es _=_;unfold mr;rw[<-HP.j,HI.j,cG];rfl
      have im:=aa (ir.j.quiet vv.j);clear cG ch;go_wp2_with fail
      all_goals
       go_end0;exact⟨rfl,by rw[HF.j];exact⟨_,_,im.j⟩,HO.j.trans (vv.j.f)⟩
     ·rw[ch] at cG
      have rV:Hid (lK es ⟨(dy,dx),⟨ek,ej,eh,ef,dZ,dY,dX,dW⟩,(dV,dU)⟩ i=lK es ⟨(dy,dx),⟨ek,ej,eh,ef,dZ,dY,dX,dW⟩,(dV,dU)⟩ es.length):=by
       show lK es _ i=_;rw[<-HP.j,HI.j,cG];rfl
      have im:=aa (ir.j.quiet vv.j);have c1w:=im.j.c1;have jm:rb<wc.heap.size:=au im.j.r;have qJ:=xQ im.j.e j hJ;rw[UE.j] at qJ;obtain⟨d0,d1,d2,d3,d4,d5,d6,d7,d8,d9,d10,d11⟩:=qJ;dsimp only at d0 d1 d2 d3 d4 d5 d6 d7 d8 d9 d10 d11;clear cG ch c1 a0 a1 a2 a3 a4 a5 a6 a7 a8 a9 Ez Ey b0 b1 b2 b3 b4 b5 b6 b7 b8 b9 Ch Cg;go_upto_region 8 with fail
      obtain⟨w7,qA⟩:=Ze (wc.alloc (.cells #[Zi dy,Zi dx,Zi ek,Zi ej,Zi eh,Zu ef,Zu dZ,Zi dY,Zi dX,Zu dW,Zi dV,Zi dU] 208));obtain⟨yb,yl⟩:=Ze (wc.heap.size);rw[<-qA,<-yl];have KH:=Za qA;have Bd:=aa (im.j.quiet KH);have QO:w7.heap[yb]?=some (.cells #[Zi dy,Zi dx,Zi ek,Zi ej,Zi eh,Zu ef,Zu dZ,Zi dY,Zi dX,Zu dW,Zi dV,Zi dU] 208 (0,0)):=by rw[qA,yl];exact heap_alloc_last wc _
      have hgy:¬g=yb:=by rw[yl];have:=(cH im.j.e (k:=g) rfl).2;omega
      have c17:=Bd.j.c1;have mf:=JI Bd.j.e;have O4:=xQ Bd.j.e j hJ;have O6:=xQ Bd.j.e i hI;rw[UE.j] at O4;rw[HEI.j] at O6;obtain⟨e0,e1,e2,e3,e4,e5,e6,e7,e8,e9,Hx,Hw⟩:=O4;obtain⟨f0,f1,f2,f3,f4,f5,f6,f7,f8,f9,f10,f11⟩:=O6;dsimp only at e0 e1 e2 e3 e4 e5 e6 e7 e8 e9 Hx Hw f0 f1 f2 f3 f4 f5 f6 f7 f8 f9 f10 f11;have Iy:=aa (Gc Bd.j.e (by rw[uO,<-HN.j]) j hJ ⟨(xB,xA),⟨FB,FA,uy,Fz,Fy,Fx,Fw,Fv⟩,(Fu,Ft)⟩);have Cr:=aa (⟨QO,hgy,KH⟩:_/\_/\_);clear qA yl KH QO c1w jm d0 d1 d2 d3 d4 d5 d6 d7 d8 d9 d10 d11
      go_region
      obtain⟨X8,Ss⟩:=Ze (((((((((((((w7.setCell ⟨g,j*12,none⟩ (Zi xB)).setCell ⟨g,j*12+1,none⟩ (Zi xA)).setCell ⟨g,j*12+2,none⟩ (Zi FB)).setCell ⟨g,j*12+3,none⟩ (Zi FA)).setCell ⟨g,j*12+4,none⟩ (Zi uy)).setCell ⟨g,j*12+5,none⟩ (Zu Fz)).setCell ⟨g,j*12+6,none⟩ (Zu Fy)).setCell ⟨g,j*12+7,none⟩ (Zi Fx)).setCell ⟨g,j*12+8,none⟩ (Zi Fw)).setCell ⟨g,j*12+9,none⟩ (Zu Fv)).setCell ⟨g,j*12+10,none⟩ (Zi Fu)).setCell ⟨g,j*12+11,none⟩ (Zi Ft)));obtain⟨r1,r2⟩:=Bd.j.Ke Iy.j.1 Iy.j.2 (by rw[List.length_set]);have r3:=Iy.j.2;rw[<-Ss] at r1 r2 r3|-;obtain⟨w8,dt⟩:=Ze (X8.drew);have GV:Zq X8 w8:=by rw[dt];exact(ae.refl _ X8).drew
      rw[<-dt];have rB:=(GV.block yb (by have h3:=r3.size;have h4:=au Cr.j.1;omega) (λh=>h)).trans ((r3.block yb (au Cr.j.1) (λh=>Cr.j.2.1 h.symm)).trans Cr.j.1);have EX:=aa (r1.quiet GV);have HO8:=aa (((HO.j.trans (vv.j.f)).trans (Cr.j.2.2.f)).trans (r2.trans (GV.f)));have c18:=EX.j.c1;have mf8:=JI EX.j.e;have lT:i<((gN es ⟨(dy,dx),⟨ek,ej,eh,ef,dZ,dY,dX,dW⟩,(dV,dU)⟩ j).set j ⟨(xB,xA),⟨FB,FA,uy,Fz,Fy,Fx,Fw,Fv⟩,(Fu,Ft)⟩).length:=by rw[List.length_set];exact hI
      obtain⟨h0,h1,h2,h3,h4,h5,h6,h7,h8,h9,LX,SO⟩:=xQ EX.j.e i lT;have y0:w8.cell? ⟨yb,0,none⟩=some (Zi dy):=Zl rB;have y1:w8.cell? ⟨yb,1,none⟩=some (Zi dx):=Zl rB;have y2:w8.cell? ⟨yb,2,none⟩=some (Zi ek):=Zl rB;have y3:w8.cell? ⟨yb,3,none⟩=some (Zi ej):=Zl rB;have y4:w8.cell? ⟨yb,4,none⟩=some (Zi eh):=Zl rB;have y5:w8.cell? ⟨yb,5,none⟩=some (Zu ef):=Zl rB;have y6:w8.cell? ⟨yb,6,none⟩=some (Zu dZ):=Zl rB;have y7:w8.cell? ⟨yb,7,none⟩=some (Zi dY):=Zl rB;have y8:w8.cell? ⟨yb,8,none⟩=some (Zi dX):=Zl rB;have y9:w8.cell? ⟨yb,9,none⟩=some (Zu dW):=Zl rB;have Vh:w8.cell? ⟨yb,10,none⟩=some (Zi dV):=Zl rB;have Vg:w8.cell? ⟨yb,11,none⟩=some (Zi dU):=Zl rB;have Uo:=aa (Gc EX.j.e (by rw[List.length_set,uO,<-HN.j]) i lT ⟨(dy,dx),⟨ek,ej,eh,ef,dZ,dY,dX,dW⟩,(dV,dU)⟩)
      have mP:Hid (((gN es ⟨(dy,dx),⟨ek,ej,eh,ef,dZ,dY,dX,dW⟩,(dV,dU)⟩ j).set j ⟨(xB,xA),⟨FB,FA,uy,Fz,Fy,Fx,Fw,Fv⟩,(Fu,Ft)⟩).set i ⟨(dy,dx),⟨ek,ej,eh,ef,dZ,dY,dX,dW⟩,(dV,dU)⟩=gN es ⟨(dy,dx),⟨ek,ej,eh,ef,dZ,dY,dX,dW⟩,(dV,dU)⟩ i):=by
       have h3:=ady es ⟨(dy,dx),⟨ek,ej,eh,ef,dZ,dY,dX,dW⟩,(dV,dU)⟩ i kN.j;rw[<-HI.j,TU.j] at h3;exact h3
      clear Ss dt GV rB r1 r2 r3 Iy Bd Cr c17 mf e0 e1 e2 e3 e4 e5 e6 e7 e8 e9 Hx Hw f0 f1 f2 f3 f4 f5 f6 f7 f8 f9 f10 f11;go_upto_region 9 with fail
      go_region
      all_goals
       go_wp2_with fail;go_roundw
       case rel=>
        obtain⟨r1,r2⟩:=EX.j.Ke Uo.j.1 Uo.j.2 (by rw[List.length_set]);rw[mP.j] at r1;exact⟨i,rfl,by have h3:=HI.j;omega,rV,⟨_,_,r1.quiet ((ae.refl _ _).drew)⟩,(HO8.j.trans r2).drew⟩
       case measure=>simp only[RowKit.intOf];have h3:=HI.j;omega
theorem dQ.more {U:Nat->Prop} {w w2:World} {rb:Nat} {vb ve:Value} {bs:Lp} {es:List En} (h:dQ U w rb vb ve bs es) (ho:Zq w w2):dQ (λk=>U k\/(w.heap.size<=k/\k<w2.heap.size)) w2 rb vb ve bs es:=by
 have h2:=h.quiet ho;refine⟨h2.r,h2.b,h2.e,?_,λk hk=>?_,λk hk=>?_,λk hk=>?_,h2.nb,h2.ne⟩
 ·rintro(hu|hu)
  ·exact h.ur hu
  ·have:=au h.r;omega
 ·rintro(hu|hu)
  ·exact h.ub k hk hu
  ·have:=(cH h.b hk).2;omega
 ·rintro(hu|hu)
  ·exact h.ue k hk hu
  ·have:=(cH h.e hk).2;omega
 ·rcases hk with hk|hk
  ·exact h2.low k hk
  ·exact hk.2
theorem ju.less {U V:Nat->Prop} {w:World} {rb:Nat} {bs:Lp} {es:List En} (h:ju V w rb bs es) (hu:∀k,U k->V k):ju U w rb bs es:=by
 obtain⟨vb,ve,h⟩:=h;exact⟨vb,ve,h.r,h.b,h.e,λhk=>h.ur (hu _ hk),λk hk dA=>h.ub k hk (hu _ dA),λk hk dA=>h.ue k hk (hu _ dA),λk hk=>h.low k (hu _ hk),h.nb,h.ne⟩
theorem adv {U:Nat->Prop} {w w2:World} {rb:Nat} {vb ve:Value} {bs:Lp} {es:List En} (h:dQ U w rb vb ve bs es) (ho:Zq w w2) (x:En) (hlen:es.length<1000000):Zk 120 #[Zp rb,.agg (Ep x)] w2 λe w'=>Zr e (.tuple #[])/\RowKit.Hid (ju U w' rb bs (mr es x)/\Zn U w w'/\∀k,w.heap.size<=k->k<w2.heap.size->w'.heap[k]?=w2.heap[k]?):=by
 refine(adu ⟨_,_,h.more ho⟩ x hlen).m ?_;rintro e w' ⟨rfl,h1,h2⟩;refine⟨rfl,h1.less (λk hk=>Or.inl hk),(ho.f).trans (h2.mono (λk _ hk hu=>hk (Or.inl hu))),λk hk dA=>h2.block k dA (λhn=>hn (Or.inr ⟨hk,dA⟩))⟩
def qL (f:Sl):Sl:=if f.1= -1 then (-1, -1) else f
def cK (bs:Lp) (es:List En) (a:Sl) (c:Cp) (f:Sl):Int:=if c.kind<1\/10<c.kind then 12 else if jc bs es a=0 then (if f.1= -1 then 0 else nI (cy bs es f)) else jc bs es a
def db (bs:Lp) (es:List En) (a:Sl) (c:Cp) (f:Sl):List En:=if cK bs es a c f=0 then mr es ⟨a,c,qL f⟩ else es
theorem ZH {U:Nat->Prop} {w:World} {rb:Nat} {bs:Lp} {es:List En} (hc:ju U w rb bs es) (a:Sl) (c:Cp) (f:Sl) (hlen:es.length<1000000):Zk 62 #[Zp rb,.agg #[Zi a.1,Zi a.2],.agg #[Zi c.kind,Zi c.num,Zi c.rights,Zu c.cQ,Zu c.guard,Zi c.bS,Zi c.root,Zu c.va],.agg #[Zi f.1,Zi f.2]] w λe w'=>Zr e (Zi (cK bs es a c f))/\ju U w' rb bs (db bs es a c f)/\Zn U w w':=by
 obtain⟨vb,ve,h⟩:=hc;obtain⟨a1,a2⟩:=a;obtain⟨d0,d1,d2,d3,d4,d5,d6,d7⟩:=c;obtain⟨f1,f2⟩:=f;have qe:Hid (∀wv,Zq w wv->Zk 118 #[Zp rb,.agg #[Zi a1,Zi a2]] wv λe w'=>Zr e (Zi (jc bs es (a1,a2)))/\Zq wv w'):=λwv hv=>aeF (h.quiet hv) (a1,a2)
 have eW:Hid (∀wv,Zq w wv->Zk 117 #[Zp rb,.agg #[Zi f1,Zi f2]] wv λe w'=>Zr e (.tuple #[Zi (pW (cy bs es (f1,f2))),Zi (nI (cy bs es (f1,f2)))])/\Zq wv w'):=λwv hv=>Hr (h.quiet hv) (f1,f2)
 have jZ:=aa (λw2 (ho:Zq w w2) x=>adv h ho x hlen);obtain⟨w1,ag⟩:=Ze (((w.alloc (.cells #[Zi a1,Zi a2] 95)).alloc (.cells #[Zi d0,Zi d1,Zi d2,Zu d3,Zu d4,Zi d5,Zi d6,Zu d7] 97)).alloc (.cells #[Zi f1,Zi f2] 95));have bX:Hid (Zq w w1):=by rw[ag];exact(((ae.refl _ w).alloc _).alloc _).alloc _
 have HH:=aa h;have Aj:w1.heap.size=w.heap.size+3:=by rw[ag];simp
 have bA:w1.heap[w.heap.size]?=some (.cells #[Zi a1,Zi a2] 95 (0,0)):=by
  rw[ag,Below.heap_alloc _ _ _ (by simp;omega),Below.heap_alloc _ _ _ (by simp)];exact heap_alloc_last w _
 have bC:w1.heap[w.heap.size+1]?=some (.cells #[Zi d0,Zi d1,Zi d2,Zu d3,Zu d4,Zi d5,Zi d6,Zu d7] 97 (0,0)):=by
  rw[ag];exact xT ((ae.refl _ _).alloc _)
 have bF:w1.heap[w.heap.size+2]?=some (.cells #[Zi f1,Zi f2] 95 (0,0)):=by
  have h3:=heap_alloc_last ((w.alloc (.cells #[Zi a1,Zi a2] 95)).alloc (.cells #[Zi d0,Zi d1,Zi d2,Zu d3,Zu d4,Zi d5,Zi d6,Zu d7] 97)) (.cells #[Zi f1,Zi f2] 95);rw[<-ag] at h3;simpa using h3
 obtain⟨ab,ch⟩:=Ze (w.heap.size);obtain⟨cb,jr⟩:=Ze (w.heap.size+1);obtain⟨fb,oY⟩:=Ze (w.heap.size+1+1);rw[<-jr] at bC;rw[<-ch] at bA;rw[show w.heap.size+2=fb from oY.symm] at bF;have HB:=aa (⟨bA,bC,bF,ch,jr,oY⟩:_/\_/\_/\_/\_/\_);obtain⟨⟨A0,A1⟩,_⟩:=pI bA;obtain⟨⟨C0,C1,C2,C3,C4,C5,C6,C7⟩,_⟩:=eL bC;obtain⟨⟨F0,F1⟩,FZ⟩:=pI bF;clear h bA bC bF Aj hlen;dsimp only;by_cases hk:d0<1\/10<d0
 ·have HE:Hid (cK bs es (a1,a2) ⟨d0,d1,d2,d3,d4,d5,d6,d7⟩ (f1,f2)=12):=if_pos hk;have HR:Hid (ju U w1 rb bs (db bs es (a1,a2) ⟨d0,d1,d2,d3,d4,d5,d6,d7⟩ (f1,f2))):=⟨_,_,by unfold db;rw[HE.j];exact HH.j.quiet bX.j⟩
  by_cases og:d0<1
  ·go_enter func62,ntmps62;go_upto_region 1 with fail
   rw[<-ag,<-oY,<-jr,<-ch];clear ag oY jr ch;go_wp2_with fail
   all_goals
    go_ret;exact⟨by rw[HE.j];rfl,HR.j,bX.j.f⟩
  ·have dA:10<d0:=Zo;clear hk;go_enter func62,ntmps62;go_upto_region 1 with fail
   rw[<-ag,<-oY,<-jr,<-ch];clear ag oY jr ch;go_wp2_with fail
   all_goals
    go_ret;exact⟨by rw[HE.j];rfl,HR.j,bX.j.f⟩
 ·have og:¬d0<1:=λh=>hk (Or.inl h)
  have dA:¬10<d0:=λh=>hk (Or.inr h)
  have sN:Hid (cK bs es (a1,a2) ⟨d0,d1,d2,d3,d4,d5,d6,d7⟩ (f1,f2)=if jc bs es (a1,a2)=0 then (if f1= -1 then 0 else nI (cy bs es (f1,f2))) else jc bs es (a1,a2)):=if_neg hk;clear hk;by_cases hf:jc bs es (a1,a2)=0
  ·rw[hf] at qe;by_cases hm:f1= -1
   ·subst hm;have HE:Hid (cK bs es (a1,a2) ⟨d0,d1,d2,d3,d4,d5,d6,d7⟩ (-1,f2)=0):=by show cK _ _ _ _ _=_;rw[sN.j,if_pos hf];rfl
    have HL:Hid (db bs es (a1,a2) ⟨d0,d1,d2,d3,d4,d5,d6,d7⟩ (-1,f2)=mr es ⟨(a1,a2),⟨d0,d1,d2,d3,d4,d5,d6,d7⟩,(-1, -1)⟩):=by show db _ _ _ _ _=_;unfold db;rw[HE.j];rfl
    clear sN hf eW;go_enter func62,ntmps62;go_upto_region 1 with fail
    rw[<-ag,<-oY,<-jr,<-ch];clear ag oY jr ch;go_wp2_with fail;refine(qe.j _ bX.j).m ?_;rintro e w2 ⟨rfl,h2⟩;have H2:=aa (bX.j.trans h2);have oH:=aa h2;obtain⟨⟨Fo,Fm⟩,Fl⟩:=pI ((h2.block fb (au HB.j.2.2.1) (λh=>h)).trans HB.j.2.2.1);clear h2 qe;go_wp2_with fail;refine(ab6 _).m ?_;rintro e w3 ⟨rfl,h3⟩;have wT:=oH.j.trans h3;have H3:=aa (H2.j.trans h3);obtain⟨⟨A03,A13⟩,_⟩:=pI ((wT.block ab (au HB.j.1) (λh=>h)).trans HB.j.1);obtain⟨⟨C03,C13,C23,C33,C43,C53,C63,C73⟩,_⟩:=eL ((wT.block cb (au HB.j.2.1) (λh=>h)).trans HB.j.2.1);obtain⟨⟨F03,F13⟩,FZ3⟩:=pI ((wT.block fb (au HB.j.2.2.1) (λh=>h)).trans HB.j.2.2.1);have n1:¬ab=fb:=by have:=HB.j.2.2.2;omega
    have n2:¬fb=ab:=λh=>n1 h.symm
    have n3:¬cb=fb:=by have:=HB.j.2.2.2;omega
    have n4:¬fb=cb:=λh=>n3 h.symm
    have n5:w.heap.size<=fb:=by have:=HB.j.2.2.2;omega
    have tX:Hid (∀x y,Zq w ((w3.setCell ⟨fb,0,none⟩ x).setCell ⟨fb,1,none⟩ y)):=λx y=>ae.setCell (ae.setCell H3.j (Or.inr n5) _) (Or.inr n5) _
    clear h3 wT Fo Fm Fl;go_wp2_with fail;refine(jZ.j _ (tX.j _ _) ⟨(a1,a2),⟨d0,d1,d2,d3,d4,d5,d6,d7⟩,(-1, -1)⟩).m ?_;rintro e w6 ⟨rfl,H6⟩;go_wp2_with fail
    all_goals
     go_ret;exact⟨by rw[HE.j];rfl,by rw[HL.j];exact H6.j.1,H6.j.2.1⟩
   ·have fa:(f1== -1)=false:=beq_eq_false_iff_ne.2 hm;rcases wW bs es (f1,f2) with⟨i,om,_⟩|om|om
    ·have HE:Hid (cK bs es (a1,a2) ⟨d0,d1,d2,d3,d4,d5,d6,d7⟩ (f1,f2)=0):=by show cK _ _ _ _ _=_;rw[sN.j,if_pos hf,if_neg hm,om];rfl
     have HL:Hid (db bs es (a1,a2) ⟨d0,d1,d2,d3,d4,d5,d6,d7⟩ (f1,f2)=mr es ⟨(a1,a2),⟨d0,d1,d2,d3,d4,d5,d6,d7⟩,(f1,f2)⟩):=by
      show db _ _ _ _ _=_;unfold db;rw[HE.j];have:qL (f1,f2)=(f1,f2):=if_neg hm;rw[this];rfl
     rw[om] at eW;simp only[pW,nI] at eW;clear sN hf om;go_enter func62,ntmps62;go_upto_region 1 with fail
     rw[<-ag,<-oY,<-jr,<-ch];clear ag oY jr ch;go_wp2_with fail;refine(qe.j _ bX.j).m ?_;rintro e w2 ⟨rfl,h2⟩;have H2:=aa (bX.j.trans h2);have oH:=aa h2;obtain⟨⟨Fo,Fm⟩,Fl⟩:=pI ((h2.block fb (au HB.j.2.2.1) (λh=>h)).trans HB.j.2.2.1);clear h2 qe;go_wp2_with fail;refine(eW.j _ H2.j).m ?_;rintro e w3 ⟨rfl,h3⟩;have wT:=oH.j.trans h3;have H3:=aa (H2.j.trans h3);obtain⟨⟨A03,A13⟩,_⟩:=pI ((wT.block ab (au HB.j.1) (λh=>h)).trans HB.j.1);obtain⟨⟨C03,C13,C23,C33,C43,C53,C63,C73⟩,_⟩:=eL ((wT.block cb (au HB.j.2.1) (λh=>h)).trans HB.j.2.1);obtain⟨⟨F03,F13⟩,FZ3⟩:=pI ((wT.block fb (au HB.j.2.2.1) (λh=>h)).trans HB.j.2.2.1);have n1:¬ab=fb:=by have:=HB.j.2.2.2;omega
     have n2:¬fb=ab:=λh=>n1 h.symm
     have n3:¬cb=fb:=by have:=HB.j.2.2.2;omega
     have n4:¬fb=cb:=λh=>n3 h.symm
     have n5:w.heap.size<=fb:=by have:=HB.j.2.2.2;omega
     clear h3 wT Fo Fm Fl;go_wp2_with fail;refine(jZ.j _ H3.j ⟨(a1,a2),⟨d0,d1,d2,d3,d4,d5,d6,d7⟩,(f1,f2)⟩).m ?_;rintro e w6 ⟨rfl,H6⟩;go_wp2_with fail
     all_goals
      go_ret;exact⟨by rw[HE.j];rfl,by rw[HL.j];exact H6.j.1,H6.j.2.1⟩
    ·have HE:Hid (cK bs es (a1,a2) ⟨d0,d1,d2,d3,d4,d5,d6,d7⟩ (f1,f2)=9):=by show cK _ _ _ _ _=_;rw[sN.j,if_pos hf,if_neg hm,om];rfl
     have HR:Hid (∀wx,Zq w wx->ju U wx rb bs (db bs es (a1,a2) ⟨d0,d1,d2,d3,d4,d5,d6,d7⟩ (f1,f2))):=λwx hx=>⟨_,_,by unfold db;rw[HE.j];exact HH.j.quiet hx⟩
     rw[om] at eW;simp only[pW,nI] at eW;clear sN hf om;go_enter func62,ntmps62;go_upto_region 1 with fail
     rw[<-ag,<-oY,<-jr,<-ch];clear ag oY jr ch;go_wp2_with fail;refine(qe.j _ bX.j).m ?_;rintro e w2 ⟨rfl,h2⟩;have H2:=aa (bX.j.trans h2);have oH:=aa h2;obtain⟨⟨Fo,Fm⟩,Fl⟩:=pI ((h2.block fb (au HB.j.2.2.1) (λh=>h)).trans HB.j.2.2.1);clear h2 qe;go_wp2_with fail;refine(eW.j _ H2.j).m ?_;rintro e w3 ⟨rfl,h3⟩;have H3:=aa (H2.j.trans h3);clear h3;go_wp2_with fail
     all_goals
      go_ret;exact⟨by rw[HE.j];rfl,HR.j _ H3.j,H3.j.f⟩
    ·have HE:Hid (cK bs es (a1,a2) ⟨d0,d1,d2,d3,d4,d5,d6,d7⟩ (f1,f2)=11):=by show cK _ _ _ _ _=_;rw[sN.j,if_pos hf,if_neg hm,om];rfl
     have HR:Hid (∀wx,Zq w wx->ju U wx rb bs (db bs es (a1,a2) ⟨d0,d1,d2,d3,d4,d5,d6,d7⟩ (f1,f2))):=λwx hx=>⟨_,_,by unfold db;rw[HE.j];exact HH.j.quiet hx⟩
     rw[om] at eW;simp only[pW,nI] at eW;clear sN hf om;go_enter func62,ntmps62;go_upto_region 1 with fail
     rw[<-ag,<-oY,<-jr,<-ch];clear ag oY jr ch;go_wp2_with fail;refine(qe.j _ bX.j).m ?_;rintro e w2 ⟨rfl,h2⟩;have H2:=aa (bX.j.trans h2);have oH:=aa h2;obtain⟨⟨Fo,Fm⟩,Fl⟩:=pI ((h2.block fb (au HB.j.2.2.1) (λh=>h)).trans HB.j.2.2.1);clear h2 qe;go_wp2_with fail;refine(eW.j _ H2.j).m ?_;rintro e w3 ⟨rfl,h3⟩;have H3:=aa (H2.j.trans h3);clear h3;go_wp2_with fail
     all_goals
      go_ret;exact⟨by rw[HE.j];rfl,HR.j _ H3.j,H3.j.f⟩
  ·have HE:Hid (cK bs es (a1,a2) ⟨d0,d1,d2,d3,d4,d5,d6,d7⟩ (f1,f2)=jc bs es (a1,a2)):=by show cK _ _ _ _ _=_;rw[sN.j,if_neg hf]
   have HR:Hid (∀wx,Zq w1 wx->ju U wx rb bs (db bs es (a1,a2) ⟨d0,d1,d2,d3,d4,d5,d6,d7⟩ (f1,f2))):=λwx hx=>⟨_,_,by unfold db;rw[HE.j,if_neg hf];exact(HH.j.quiet bX.j).quiet hx⟩
   generalize jc bs es (a1,a2)=fv at qe hf HE;have AH:(fv==0)=false:=beq_eq_false_iff_ne.2 hf;clear sN;go_enter func62,ntmps62;go_upto_region 1 with fail
   rw[<-ag,<-oY,<-jr,<-ch];clear ag oY jr ch;go_wp2_with fail;refine(qe.j _ bX.j).m ?_;rintro e w2 ⟨rfl,h2⟩;have H2:=aa h2;clear h2;go_wp2_with fail
   all_goals
    go_ret;exact⟨by rw[HE.j];rfl,HR.j _ H2.j,(bX.j.trans H2.j).f⟩
def agq (bs:Lp) (es:List En) (s:Sl):Cp×Int:=aH bs es s
def agr (bs:Lp) (es:List En) (s:Sl):List En:=match cy bs es s with|.ok i=>Tq es i (es.getD i .df).aW|.error _=>es
def agO (bs:Lp) (es:List En) (s t:Sl):Int:=match cy bs es s with|.error e=>e|.ok _=>jc bs es t
def agN (bs:Lp) (es:List En) (s t:Sl):List En:=match cy bs es s with|.error _=>es|.ok i=>if jc bs es t=0 then mr (Tq es i t) ⟨t,(es.getD i .df).cap,(es.getD i .df).aW⟩ else es
structure LsR (U:Nat->Prop) (w:World) (rb:Nat) (vb ve:Value) (bs:Lp) (es:List En) (B ob:Nat) (oc:Array Value) (oT:TypeId) (v:Value) (ls:List Sl) (wr:World):Prop where
 r0:dQ U w rb vb ve bs es
 on:Zq w wr
 o:wr.heap[ob]?=some (.cells oc oT (0,0))
 own:ai aJ wr B 95 v ls
 lt:ob<B/\B<=wr.heap.size/\w.heap.size<=ob
theorem s9 {α:Type} {L:Lay α} {w:World} {base b2:Nat} {e:TypeId} {v:Value} {xs:List α} (h:ai L w base e v xs) (hb:b2<=base):ai L w b2 e v xs:=
 ⟨h.1,h.2.imp (λh=>h) (λ⟨g,cap,cur,a,b,c⟩=>⟨g,cap,cur,a,Nat.le_trans hb b,c⟩)⟩
def Av (o:Sl) (e:En):Bool:=decide (e.cap.kind=o.1/\e.cap.num=o.2)
def gd (es:List En) (o:Sl):List Sl:=(es.filter (Av o)).map (·.at')
theorem Rr (es:List En) (o:Sl):(gd es o).length<=es.length:=by
 unfold gd;rw[List.length_map];exact List.length_filter_le _ _
def My (es:List En):Nat->Sl->List Sl
 |0,_=>[]
 |d+1,s=>es.flatMap λe=>if e.aW=s then e.at'::My es d e.at' else []
def ahn (es:List En) (d:Nat) (s:Sl) (k:Nat):List Sl:=(es.take k).flatMap λe=>if e.aW=s then e.at'::My es d e.at' else []
def ahu (bs:Lp) (es:List En) (D:Nat) (s:Sl):List Sl:=match cy bs es s with|.ok _=>My es (D+1) s|.error _=>[]
end Go.Proofs.YtphkconoooeidaaGreatDoor
namespace Go.Vx
def Co (es:List En):Prop:=∀e∈es,∀e2∈es,e.at'=e2.at'->e=e2
end Go.Vx
namespace Go.Proofs.YtphkconoooeidaaGreatDoor

def Mn (a left n:Nat):Nat:=a/2^(left - n) % 2^n
def Bw (n:Int):Nat:=if n=1 then 0 else if n=2 then 1 else if n=4 then 2 else if n=8 then 3 else if n=16 then 4 else if n=32 then 5 else 6
def Qb (bs:Lp) (es:List En) (a:Nat):Nat->Cp->Nat->Sl×Int
 |0,_,_=>((-1, -1),0)
 |f+1,c,l=>
  match bR bs c.num with
  |none=>((-1, -1),12)
  |some n=>
   if c.kind=5 then
    if c.bS<0\/32<c.bS\/c.bS+(Bw n:Int)=0\/(l:Int)<c.bS+(Bw n:Int) then ((-1, -1),9)
    else if ((Mn a l c.bS.toNat:Nat):Int)=c.guard then
     if l - c.bS.toNat - Bw n=0 then ((c.num,((Mn a (l - c.bS.toNat) (Bw n):Nat):Int)),0)
     else match kq es (c.num,((Mn a (l - c.bS.toNat) (Bw n):Nat):Int)) with
      |none=>((-1, -1),11)
      |some k=>Qb bs es a f (es.getD k .df).cap (l - c.bS.toNat - Bw n)
    else ((-1, -1),9)
   else ((-1, -1),12)
def agP (bs:Lp) (es:List En) (a:Nat) (c:Cp) (l:Int):Sl×Int:=if l<1\/32<l then ((-1, -1),1) else Qb bs es a 33 c l.toNat
def kE (c:Cp):Prop:=0<=c.guard/\c.guard<4294967296
structure LkR (U:Nat->Prop) (w:World) (rb:Nat) (vb ve:Value) (bs:Lp) (es:List En) (cb rc:Nat) (c:Cp) (wr:World):Prop where
 r0:dQ U w rb vb ve bs es
 on:Zq w wr
 c:wr.heap[cb]?=some (.cells #[Zi c.kind,Zi c.num,Zi c.rights,Zu c.cQ,Zu c.guard,Zi c.bS,Zi c.root,Zu c.va] 97 (0,0))
 r:wr.heap[rc]?=some (.cells #[Zi 0,Zi 0] 95 (0,0))
 ge:w.heap.size<=cb/\w.heap.size<=rc
theorem aaC (w:World) (g:Nat) (a0 a1:Value):ae (λk=>k=g) w ((w.setCell ⟨g,0,none⟩ a0).setCell ⟨g,1,none⟩ a1):=
 ((ae.refl (λk=>k=g) w).setCell (p:=⟨g,0,none⟩) (Or.inl rfl) a0).setCell (p:=⟨g,1,none⟩) (Or.inl rfl) a1
def rO (es:List En):Prop:=es.Pairwise λa b=>je a.at' b.at'=true
theorem Ij (a:Sl):je a a=false:=decide_eq_false Zo
theorem TR {a b c:Sl} (h1:je a b=true) (h2:je b c=true):je a c=true:=by
 have h3:=of_decide_eq_true h1;have h4:=of_decide_eq_true h2;exact decide_eq_true Zo
theorem afY {a b:Sl} (h:a≠b):je a b=true\/je b a=true:=by
 obtain⟨a1,a2⟩:=a;obtain⟨b1,b2⟩:=b;by_cases h1:a1<b1
 ·exact Or.inl (decide_eq_true (Or.inl h1))
 ·by_cases h2:b1<a1
  ·exact Or.inr (decide_eq_true (Or.inl h2))
  ·have e:a1=b1:=Zo;subst e;have h3:a2≠b2:=λe=>h (by rw[e])
   by_cases h4:a2<b2
   ·exact Or.inl (decide_eq_true (Or.inr ⟨rfl,h4⟩))
   ·exact Or.inr (decide_eq_true (Or.inr ⟨rfl,by show b2<a2;omega⟩))
theorem rO.nodup {es:List En} (h:rO es):(es.map (·.at')).Nodup:=by
 refine List.pairwise_map.2 (h.imp (fun {a b} ch he=>?_));rw[he,Ij] at ch;cases ch
theorem aaQ {es:List En} (h:(es.map (·.at')).Nodup):Co es:=by
 intro e he e2 gm hE;have hp:es.Pairwise (λa b=>a.at'≠b.at'):=List.pairwise_map.1 h;obtain⟨i,hi,rfl⟩:=List.getElem_of_mem he;obtain⟨j,hj,rfl⟩:=List.getElem_of_mem gm;by_cases lj:i=j
 ·subst lj;rfl
 ·exfalso;by_cases h1:i<j
  ·exact List.pairwise_iff_getElem.1 hp i j hi hj h1 hE
  ·exact List.pairwise_iff_getElem.1 hp j i hj hi Zo hE.symm
theorem abq {es:List En} {x e:En} {k:Nat}:e∈gN es x k↔e=x\/e∈es:=by
 unfold gN;rw[List.mem_append,List.mem_cons];constructor
 ·rintro(h|h|h)
  ·exact Or.inr (List.mem_of_mem_take h)
  ·exact Or.inl h
  ·exact Or.inr (List.mem_of_mem_drop h)
 ·rintro(h|h)
  ·exact Or.inr (Or.inl h)
  ·rw[<-List.take_append_drop k es,List.mem_append] at h;rcases h with h|h
   ·exact Or.inl h
   ·exact Or.inr (Or.inr h)
theorem rj {es:List En} {x e:En}:e∈mr es x↔e=x\/e∈es:=abq
theorem Qt (es:List En) (x:En):∀k,lK es x k<=k
 |0=>Nat.le_refl _
 |k+1=>by
  unfold lK
  split
  ·exact Nat.le_trans (Qt es x k) Zo
  ·exact Nat.le_refl _
theorem Qr (es:List En) (x:En):∀k,k<=es.length->(∀j (hj:j<es.length),lK es x k<=j->j<k->je x.at' es[j].at'=true)/\(∀i (hi:i<es.length),lK es x k=i+1->je x.at' es[i].at'=false)
 |0,_=>⟨λj hj h1 h2=>Zo,λi hi h=>by simp[lK] at h⟩
 |k+1,hk=>by
  have ih:=Qr es x k Zo;have hg:=sD es k Zo;unfold lK;by_cases h:je x.at' (es.getD k .df).at'=true
  ·rw[if_pos h];refine⟨λj hj h1 h2=>?_,ih.2⟩;by_cases K8:j<k
   ·exact ih.1 j hj h1 K8
   ·have e:j=k:=Zo;subst e;rw[hg] at h;exact h
  ·rw[if_neg h];refine⟨λj hj h1 h2=>Zo,λi hi hE=>?_⟩;have e:k=i:=Zo;subst e;rw[hg] at h;simpa using h
theorem adD {es:List En} (h:rO es) (x:En) (hx:∀e∈es,e.at'≠x.at'):rO (mr es x):=by
 have hp:=Qt es x es.length;obtain⟨h1,h2⟩:=Qr es x es.length (Nat.le_refl _);unfold mr gN;generalize lK es x es.length=p at hp h1 h2;have Kv:rO (es.take p++es.drop p):=by rw[List.take_append_drop];exact h
 unfold rO at Kv|-;rw[List.pairwise_append] at Kv|-;obtain⟨q1,q2,q3⟩:=Kv
 have aes:∀y∈es.drop p,je x.at' y.at'=true:=λy hy=>by
  obtain⟨j,hj,rfl⟩:=List.getElem_of_mem hy;rw[List.length_drop] at hj;rw[List.getElem_drop];exact h1 (p+j) Zo Zo Zo
 have Ds:∀y∈es.take p,je y.at' x.at'=true:=λy hy=>by
  obtain⟨j,hj,rfl⟩:=List.getElem_of_mem hy;rw[List.length_take] at hj;rw[List.getElem_take];have sr:p=(p - 1)+1:=Zo;have h3:=h2 (p - 1) Zo sr
  have RO:je (es[p - 1]'Zo).at' x.at'=true:=by
   rcases afY (hx _ (List.getElem_mem (show p - 1<es.length from Zo))) with h4|h4
   ·exact h4
   ·rw[h4] at h3;cases h3
  by_cases G7:j=p - 1
  ·subst G7;exact RO
  ·exact TR (List.pairwise_iff_getElem.1 h j (p - 1) Zo Zo Zo) RO
 exact⟨q1,List.pairwise_cons.2 ⟨aes,q2⟩,λa ha b hb=>by
  rcases List.mem_cons.1 hb with rfl|hb
  ·exact Ds a ha
  ·exact q3 a ha b hb⟩
structure Wf (bs:Lp) (es:List En):Prop where
 bn:∀b∈bs,fB b.2=true/\0<=b.1
 pl:∀e∈es,∃b∈bs,b.1=e.at'.1
 so:rO es
 fr:∀e∈es,e.aW=(-1, -1)\/∃e2∈es,e2.at'=e.aW
 rk:∃r:Sl->Nat,∀e∈es,r e.aW<r e.at'
 gu:∀e∈es,kE e.cap
theorem Mc {bs:Lp} {es:List En} {s:Sl} (h:jc bs es s=0):(∃b∈bs,b.1=s.1)/\∀e∈es,e.at'≠s:=by
 have hf:cy bs es s=.error 11:=by
  unfold jc at h;rcases wW bs es s with⟨i,hi,_⟩|hi|hi
  ·rw[hi] at h;cases h
  ·rw[hi] at h;cases h
  ·exact hi
 unfold cy at hf
 cases hs:bR bs s.1 with
 |none=>rw[hs] at hf;cases hf
 |some n=>
  rw[hs] at hf;dsimp only at hf;by_cases h2:s.2<0\/n<=s.2
  ·rw[if_pos h2] at hf;cases hf
  ·rw[if_neg h2] at hf;refine⟨?_,?_⟩
   ·cases hx:mK bs s.1 with
    |none=>rw[FU hx] at hs;cases hs
    |some i=>
     obtain⟨hi,h3,_⟩:=Ev hx;exact⟨_,List.getElem_mem hi,h3⟩
   ·cases he:kq es s with
    |some i=>rw[he] at hf;cases hf
    |none=>
     intro e hm hE;have h3:=mu he e hm;rw[hE] at h3;simp at h3
theorem Wf.ins {bs:Lp} {es:List En} (h:Wf bs es) (x:En) (hb:∃b∈bs,b.1=x.at'.1) (hx:∀e∈es,e.at'≠x.at') (hf:x.aW=(-1, -1)\/∃e2∈es,e2.at'=x.aW) (hg:kE x.cap):Wf bs (mr es x):=by
 have RB:x.at'≠(-1, -1):=λe=>by
  obtain⟨b,hb,hE⟩:=hb;have h1:=(h.bn b hb).2;rw[e] at hE;simp only at hE;omega
 have DX:x.aW≠x.at':=λe=>by
  rcases hf with h1|⟨e2,h2,h3⟩
  ·exact RB (by rw[<-e,h1])
  ·exact hx e2 h2 (by rw[h3,e])
 have AH:∀e∈es,e.aW≠x.at':=λe he hE=>by
  rcases h.fr e he with h1|⟨e2,h2,h3⟩
  ·exact RB (by rw[<-hE,h1])
  ·exact hx e2 h2 (by rw[h3,hE])
 refine⟨h.bn,λe he=>?_,adD h.so x hx,λe he=>?_,?_,λe he=>?_⟩
 ·rcases rj.1 he with rfl|he
  ·exact hb
  ·exact h.pl e he
 ·rcases rj.1 he with rfl|he
  ·exact hf.imp (λh=>h) (λ⟨e2,h2,h3⟩=>⟨e2,rj.2 (Or.inr h2),h3⟩)
  ·exact(h.fr e he).imp (λh=>h) (λ⟨e2,h2,h3⟩=>⟨e2,rj.2 (Or.inr h2),h3⟩)
 ·obtain⟨r,hr⟩:=h.rk;refine⟨λs=>if s=x.at' then r x.aW+1 else r s,λe he=>?_⟩;dsimp only;rcases rj.1 he with rfl|he
  ·rw[if_neg DX,if_pos rfl];omega
  ·rw[if_neg (AH e he),if_neg (hx e he)];exact hr e he
 ·rcases rj.1 he with rfl|he
  ·exact hg
  ·exact h.gu e he
theorem El {bs:Lp} {es:List En} {s:Sl} {i:Nat} (h:cy bs es s=.ok i):∃hi:i<es.length,es[i].at'=s:=by
 rcases wW bs es s with⟨j,hj,he⟩|hj|hj
 ·rw[h] at hj;injection hj with hj
  subst hj;exact AV he
 ·rw[h] at hj;cases hj
 ·rw[h] at hj;cases hj
theorem Wf.put {bs:Lp} {es:List En} (h:Wf bs es) (a:Sl) (c:Cp) (f:Sl) (hg:kE c):Wf bs (db bs es a c f):=by
 unfold db;by_cases he:cK bs es a c f=0
 ·rw[if_pos he];unfold cK at he;by_cases hk:c.kind<1\/10<c.kind
  ·rw[if_pos hk] at he;cases he
  ·rw[if_neg hk] at he;by_cases hf:jc bs es a=0
   ·rw[if_pos hf] at he;obtain⟨h1,h2⟩:=Mc hf;refine h.ins ⟨a,c,qL f⟩ h1 h2 ?_ hg;show qL f=(-1, -1)\/_;unfold qL;by_cases hm:f.1= -1
    ·rw[if_pos hm];exact Or.inl rfl
    ·rw[if_neg hm] at he|-;right;rcases wW bs es f with⟨i,hi,_⟩|hi|hi
     ·obtain⟨hl,hE⟩:=El hi;exact⟨_,List.getElem_mem hl,hE⟩
     ·rw[hi] at he;cases he
     ·rw[hi] at he;cases he
   ·rw[if_neg hf] at he;exact absurd he hf
 ·rw[if_neg he];exact h
theorem vS {es:List En} {i:Nat} (hi:i<es.length) {c:Cp} {y:En} (hy:y∈es.set i ⟨es[i].at',c,es[i].aW⟩):∃e∈es,y.at'=e.at'/\y.aW=e.aW/\(y.cap=c\/y.cap=e.cap):=by
 rcases List.mem_or_eq_of_mem_set hy with h|h
 ·exact⟨y,h,rfl,rfl,Or.inr rfl⟩
 ·subst h;exact⟨es[i],List.getElem_mem hi,rfl,rfl,Or.inl rfl⟩
theorem P1 {es:List En} {i:Nat} (hi:i<es.length) (c:Cp):(es.set i ⟨es[i].at',c,es[i].aW⟩).map (·.at')=es.map (·.at'):=by
 apply List.ext_getElem?;intro j;rw[List.getElem?_map,List.getElem?_map,List.getElem?_set];by_cases h:i=j
 ·subst h;rw[if_pos rfl,if_pos hi,List.getElem?_eq_getElem hi];rfl
 ·rw[if_neg h]
theorem Jb {es:List En}:rO es↔(es.map (·.at')).Pairwise (λa b=>je a b=true):=by
 unfold rO;rw[List.pairwise_map]
theorem Wf.set {bs:Lp} {es:List En} (h:Wf bs es) (s:Sl) (c:Cp) (hg:kE c):Wf bs (eY bs es s c):=by
 unfold eY;rcases wW bs es s with⟨i,hf,_⟩|hf|hf
 ·obtain⟨hi,_⟩:=El hf;rw[hf];dsimp only;rw[sD es i hi];by_cases hs:mW es[i].cap c=true
  ·rw[if_pos hs]
   have nF:∀e∈es,∃y∈es.set i ⟨es[i].at',c,es[i].aW⟩,y.at'=e.at':=λe he=>by
    have h1:e.at'∈es.map (·.at'):=List.mem_map.2 ⟨e,he,rfl⟩;rw[<-P1 hi c] at h1;obtain⟨y,hy,hE⟩:=List.mem_map.1 h1;exact⟨y,hy,hE⟩
   refine⟨h.bn,λy hy=>?_,?_,λy hy=>?_,?_,λy hy=>?_⟩
   ·obtain⟨e,he,h1,_⟩:=vS hi hy;rw[h1];exact h.pl e he
   ·rw[Jb,P1 hi c,<-Jb];exact h.so
   ·obtain⟨e,he,_,h2,_⟩:=vS hi hy;rw[h2];refine(h.fr e he).imp (λh=>h) (λ⟨e2,h3,h4⟩=>?_);obtain⟨y2,Ae,h5⟩:=nF e2 h3;exact⟨y2,Ae,by rw[h5,h4]⟩
   ·obtain⟨r,hr⟩:=h.rk;refine⟨r,λy hy=>?_⟩;obtain⟨e,he,h1,h2,_⟩:=vS hi hy;rw[h1,h2];exact hr e he
   ·obtain⟨e,he,_,_,h3⟩:=vS hi hy;rcases h3 with h3|h3
    ·rw[h3];exact hg
    ·rw[h3];exact h.gu e he
  ·rw[if_neg hs];exact h
 ·rw[hf];exact h
 ·rw[hf];exact h
theorem Wf.make {bs:Lp} {es:List En} (h:Wf bs es) (num n:Int):Wf (fH bs num n) es:=by
 unfold fH;by_cases he:gX bs num n=0
 ·rw[if_pos he];unfold gX at he;by_cases hk:num<0\/fB n=false
  ·rw[if_pos hk] at he;cases he
  ·refine⟨λb hb=>?_,λe gm=>?_,h.so,h.fr,h.rk,h.gu⟩
   ·rcases List.mem_append.1 hb with hb|hb
    ·exact h.bn b hb
    ·rw[List.mem_singleton] at hb;subst hb;refine⟨?_,by show 0<=num;omega⟩;show fB n=true;cases ht:fB n
     ·exact absurd (Or.inr ht) hk
     ·rfl
   ·obtain⟨b,hb,hE⟩:=h.pl e gm;exact⟨b,List.mem_append.2 (Or.inl hb),hE⟩
 ·rw[if_neg he];exact h
def aa2 (n:Int) (m:Nat):Nat:=(if n<0 then (-(n+1)).toNat else n.toNat) % m
def aj (n:Int):Prop:= -9223372036854775808<=n/\n<=9223372036854775807
def agM (c:Int) (n:Nat):Int:=if c.tmod 31=30 then c else (aa2 c (n+2):Nat) - 1
end Go.Proofs.YtphkconoooeidaaGreatDoor

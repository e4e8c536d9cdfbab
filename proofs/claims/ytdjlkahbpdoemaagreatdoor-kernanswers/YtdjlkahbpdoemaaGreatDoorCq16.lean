import Derived.Test.YtdjlkahbpdoemaaGreatDoorCq13
set_option maxRecDepth 100000
set_option maxHeartbeats 8000000
set_option linter.unusedVariables false
set_option linter.unusedSimpArgs false
open Go Go.Vx Go.Proofs.Tryz Go.ChangeShapes Go.WideShapes Go.ChangeAt Go.RowKit
namespace Go.Proofs.YtdjlkahbpdoemaaGreatDoor
variable {b:Bool}{D:DataW Value}{y:Et}{l lf tk:Int}{G:Int->Nat}{es:List Et}{vq:List Value}{ts:Lp}{ab ao bm ck d i mb n o t xb:Nat}{Q:Nat->List Int}{pa:Option Addr}{w w2 w3 wv:Z0}{U:Z1}{v vt:Z3}
section
variable {S:Z1}
theorem bZ.Wz(h:bZ U w xb mb D G vt vq ts t lf es Q)(a:(es.map (·.num)).Nodup)(hi:i<es.length)(y:Et)(hy:y.num=es[i].num)(c:y.cy=es[i].cy)(hp:y.prio=es[i].prio)(hb:decide (y.came≠0)=b)(d:y.left=l):
  bZ U ((w.setCell ⟨G es[i].num,3,none⟩ (.bool b)).setCell ⟨G es[i].num,4,none⟩ (O l)) xb mb D G vt vq ts t lf (es.set i y) Q/\Zn U w ((w.setCell ⟨G es[i].num,3,none⟩ (.bool b)).setCell ⟨G es[i].num,4,none⟩ (O l)):=by
 refine h.jv a hi y hy ?_ ?_
 ·rw[hy];exact H.setCell (S:=λk=>k=G es[i].num) (H.setCell (S:=λk=>k=G es[i].num) (H.refl _ w) (Or.inl rfl) _) (Or.inl rfl) _
 rw[hy,heap_setCell_same _ _ 4 _ _ (O l) (heap_setCell_same _ _ 3 _ _ (.bool b) (h.rn _ (List.getElem_mem hi)))];subst hb;subst d;have e:sI y=((sI es[i]).setIfInBounds 3 (.bool (decide (y.came≠0)))).setIfInBounds 4 (O y.left):=by
  unfold sI;rw[hy,c,hp];rfl
 rw[e]
end
theorem Xb(h:cU es ck)(hi:i<es.length):∃d p:Nat,es[i].cy=(d:Int)/\es[i].prio=(p:Int)/\d<8/\p<8:=by
 have:=h.ok _ (List.getElem_mem hi);exact⟨es[i].cy.toNat,es[i].prio.toNat,Z,Z,Z,Z⟩
theorem eD.Qi(a:CJ es Q)(h:bZ U w xb mb D G vt vq ts t lf es Q)(j)(b:j<64):(Q j).length<=1000000:=by
 have:=(a j b).len;have:=h.nl;omega
theorem jq(d p j:Nat)(a:d<8)(hp:p<8):(((d:Int)=((j/8:Nat):Int))/\((p:Int)=((j % 8:Nat):Int)))↔j=d*8+p:=by
 constructor
 ·rintro⟨h1,b⟩;omega
 rintro rfl;omega
theorem CJ.join(f:CJ es Q)(hw:cU es ck){p:Nat}(hi:i<es.length)(y)(g:es[i].came=0)(a:y.cy=(d:Int))(hp:y.prio=(p:Int))(b:d<8)(c:p<8)(l:y.came=(ck:Int)+1):CJ (es.set i y) (λj=>if j=d*8+p then Q (d*8+p)++[y.num] else Q j):=by
 intro j k;have h1:=NQ.join hi y g Z (λe he=>by have:=hw.ok e he;omega) (f j k);by_cases e:j=d*8+p
 ·have:=(jq d p j b c).2 e;rw[a,hp,if_pos this] at h1;show NQ _ _ _ (if j=d*8+p then _ else _);rwa[if_pos e,<-e]
 have:¬_:=λh=>e ((jq d p j b c).1 h);rw[a,hp,if_neg this,List.append_nil] at h1;show NQ _ _ _ (if j=d*8+p then _ else _);rwa[if_neg e]
theorem CJ.leave(c:CJ es Q)(hw:cU es ck){p:Nat}(hi:i<es.length)(y)(h:es[i].cy=(d:Int))(hp:es[i].prio=(p:Int))(l:d<8)(m:p<8)(o:y.came=0):CJ (es.set i y) (λj=>if j=d*8+p then (Q (d*8+p)).filter (λn=>decide (n≠es[i].num)) else Q j):=by
 intro j g;have h1:=NQ.off hw.nd hi y o (c j g);show NQ _ _ _ (if j=d*8+p then _ else _);by_cases e:j=d*8+p
 ·rwa[if_pos e,<-e]
 rw[if_neg e];have q:(Q j).filter (λn=>decide (n≠es[i].num))=Q j:=by
  rw[List.filter_eq_self];intro a ha;refine decide_eq_true (λr=>?_);have⟨f,hf,f1,f2,f3,_⟩:=(c j g).mem.1 ha;obtain⟨k,hk,rfl⟩:=List.getElem_of_mem hf;have b:k=i:=by
   by_cases b:k=i
   ·exact b
   exact absurd (f1.trans r) (wU hw.nd hk hi b)
  subst b;rw[h] at f2;rw[hp] at f3;exact e ((jq d p j l m).1 ⟨f2,f3⟩)
 rwa[q] at h1
def mK(e:Et):Et:={e with left:=0,came:=0}
theorem UL(h:eD U w xb G ts t lf es ck){n:Int}(hi:du es n=some i)(m:(es.getD i .df).came=0):Zk 97 #[M xb,.pointer (some ⟨G n,0,none⟩)] w λe w'=>(∃x,Zr e x)/\eD U w' xb G ts t lf (es.set i (dK ck (es.getD i .df))) (ck+1)/\Zn U w w':=by
 have⟨hw,B,mb,D,vt,vq,Q,o,f⟩:=h;have⟨a,hn,r5,_⟩:=f.r5 hi;rw[gJ a] at m|-;obtain⟨d,p,q,r,C,F⟩:=Xb hw a;have s:=hw.ok _ (List.getElem_mem a);have u:d*8+p<64:=Z;obtain⟨h1,c⟩:=f.Wz hw.nd a (dK ck es[i]) rfl rfl rfl (b:=true) (decide_eq_true (by show(ck:Int)+1≠0;omega)) (l:=5) rfl;rw[hn] at h1 c;have a3:=r5.c3;have a4:=r5.c4;have f3:=r5.fz 3;have f4:=r5.fz 4;obtain⟨g,hg⟩:=Ze (G n);rw[<-hg] at h1 c a3 a4 f3 f4|-;obtain⟨w1,v⟩:=Ze ((w.setCell (E g 3) (.bool true)).setCell (E g 4) (O 5));rw[<-v] at h1 c;have X:i<(es.set i (dK ck es[i])).length:=by rw[List.length_set];exact a
 have K:du (es.set i (dK ck es[i])) n=some i:=by rw[JT a (dK ck es[i]) rfl];exact hi
 have⟨_,_,y,_⟩:=h1.r5 K;have z:=y.c1;have A:=y.c2;rw[List.getElem_set_self] at z A;have N:w1.cell? (E g 1)=some (O (d:Int)):=by rw[hg,<-q];exact z
 have P:w1.cell? (E g 2)=some (O (p:Int)):=by rw[hg,<-r];exact A
 have HQ:=Y (Wr (xb:=xb) w1 g d p C F N P);have R:=eD.Qi o f _ u;have S:=hw.put a es[i].prio ⟨s.2.2.2.1,s.2.2.2.2.1⟩;have T:=Y (o.join hw a (dK ck es[i]) m q r C F rfl);have HK:Hid (∀j,Zq w1 j->Zk 140 #[.pointer (some ⟨xb,4+(d*8+p),none⟩),M g] j λe w'=>(∃x,Zr e x)/\eD U w' xb G ts t lf (es.set i (dK ck es[i])) (ck+1)/\Zn U w w'):=by
  intro j k;have V:=h1.quiet k;refine(agL (V.queue _ u R) g).m ?_;rintro e w' ⟨he,W⟩;have e9:(Q (d*8+p)).map G++[g]=(Q (d*8+p)++[(dK ck es[i]).num]).map G:=by
   rw[List.map_append,hg];show _=_++[G es[i].num];rw[hn]
  rw[e9] at W;have⟨⟨Pb,h3⟩,o3⟩:=V.yw u W;exact⟨he,⟨S,B,_,_,_,_,_,T.j,h3⟩,(c.trans (k.f)).trans o3⟩
 clear f h1 c r5 y z A N P hi K X hn hg hw B o s S T R m q r;go_enter func97,ntmps97;go_upto_region 1 with fail
 rw[<-v];clear v;go_wp2_with fail;refine HQ.j.m ?_;rintro e j ⟨rfl,k⟩;go_wp2_with fail;refine(HK.j _ k).m ?_;rintro e w' ⟨⟨x,rfl⟩,hr⟩;go_wp2_with fail
 all_goals
  go_end0;exact⟨⟨_,rfl⟩,hr⟩
theorem UK(h:eD U w xb G ts t lf es ck){n:Int}(hi:du es n=some i):Zk 96 #[M xb,.pointer (some ⟨G n,0,none⟩)] w λe w'=>(∃x,Zr e x)/\eD U w' xb G ts t lf (es.set i (mK (es.getD i .df))) ck/\Zn U w w':=by
 have⟨hw,gR,mb,D,vt,vq,Q,s,q⟩:=h;have⟨j,hn,r5,_⟩:=q.r5 hi;rw[gJ j];have⟨d,p,C,F,xD,xp⟩:=Xb hw j;have K:=hw.ok _ (List.getElem_mem j);have u:d*8+p<64:=Z;have⟨h1,v⟩:=q.Wz hw.nd j (mK es[i]) rfl rfl rfl (b:=false) rfl (l:=0) rfl;rw[hn] at h1 v;have a3:=r5.c3;have a4:=r5.c4;have f3:=r5.fz 3;have f4:=r5.fz 4;have⟨g,hg⟩:=Ze (G n);rw[<-hg] at h1 v a3 a4 f3 f4|-;obtain⟨w1,N⟩:=Ze ((w.setCell (E g 3) (.bool false)).setCell (E g 4) (O 0));rw[<-N] at h1 v;have ku:i<(es.set i (mK es[i])).length:=by rw[List.length_set];exact j
 have jD:du (es.set i (mK es[i])) n=some i:=by rw[JT j (mK es[i]) rfl];exact hi
 have⟨_,_,P,_⟩:=h1.r5 jD;have R:=P.c1;have S:=P.c2;rw[List.getElem_set_self] at R S;have GF:w1.cell? (E g 1)=some (O (d:Int)):=by rw[hg,<-C];exact R
 have J6:w1.cell? (E g 2)=some (O (p:Int)):=by rw[hg,<-F];exact S
 have HQ:=Y (Wr (xb:=xb) w1 g d p xD xp GF J6);have rE:=eD.Qi s q _ u;have yN:=hw.off j (mK es[i]) rfl rfl ⟨K.2.2.2.1,K.2.2.2.2.1⟩ rfl rfl;have zw:=Y (s.leave hw j (mK es[i]) C F xD xp rfl);have HK:Hid (∀m,Zq w1 m->Zk 139 #[.pointer (some ⟨xb,4+(d*8+p),none⟩),M g] m λe w'=>(∃x,Zr e x)/\eD U w' xb G ts t lf (es.set i (mK es[i])) ck/\Zn U w w'):=by
  intro m A;have T:=h1.quiet A;have B:∀x∈Q (d*8+p),∃e∈es,e.num=x:=λx o=>by
   have⟨e,he,c,_⟩:=(s _ u).mem.1 o;exact⟨e,he,c⟩
  have Jq:∀x∈Q (d*8+p),∀y∈Q (d*8+p),G x=G y->x=y:=λx o y V c=>by
   obtain⟨e,he,rfl⟩:=B x o;obtain⟨f,hf,rfl⟩:=B y V;exact q.gi e he f hf c
  have W:∀x∈Q (d*8+p),G x=g->x=n:=λx o c=>by
   obtain⟨e,he,rfl⟩:=B x o;rw[<-hn];exact q.gi e he _ (List.getElem_mem j) (by rw[c,hg,hn])
  have dz:((Q (d*8+p)).map G).Nodup:=by
   have r:=(s _ u).nodup hw.nd;rw[List.Nodup,List.pairwise_map];exact List.Pairwise.imp_of_mem (fun {a b} ha hb gx c=>gx (Jq a ha b hb c)) r
  have z:∀e∈es,Lv m (G e.num):=λe he=>by
   obtain⟨k,hk,rfl⟩:=List.getElem_of_mem he;have iV:k<(es.set i (mK es[i])).length:=by rw[List.length_set];exact hk
   have r:=T.rn _ (List.getElem_mem iV);have c:(es.set i (mK es[i]))[k].num=es[k].num:=by
    rw[List.getElem_set];split
    ·rename_i X;subst X;rfl
    rfl
   rw[c] at r;exact⟨_,_,r⟩
  have jA:∀x∈(Q (d*8+p)).map G,Lv m x:=λx o=>by
   obtain⟨y,hy,rfl⟩:=List.mem_map.1 o;obtain⟨e,he,rfl⟩:=B y hy;exact z e he
  have rK:Lv m g:=by
   have:=z _ (List.getElem_mem j);rwa[hn,<-hg] at this
  refine(agK (T.queue _ u rE) dz jA rK).m ?_;rintro e w' ⟨he,hT⟩;have X:((Q (d*8+p)).map G).filter (λx=>decide (x≠g))=((Q (d*8+p)).filter (λx=>decide (x≠es[i].num))).map G:=by
   rw[List.filter_map];congr 1;apply List.filter_congr;intro a ha;show decide (G a≠g)=decide (a≠es[i].num);rw[hn];by_cases c:a=n
   ·rw[c,<-hg];simp
   have:¬G a=g:=λr=>c (W a ha r);simp[c,this]
  rw[X] at hT;have⟨⟨Pb,h3⟩,o3⟩:=T.yw u hT;exact⟨he,⟨yN,gR,_,_,_,_,_,zw.j,h3⟩,(v.trans (A.f)).trans o3⟩
 clear q h1 v r5 P R S GF J6 hi jD ku hn hg hw gR s K yN zw rE C F;go_enter func96,ntmps96;go_upto_region 1 with fail
 rw[<-N];clear N;go_wp2_with fail;refine HQ.j.m ?_;rintro e m ⟨rfl,A⟩;go_wp2_with fail;refine(HK.j _ A).m ?_;rintro e w' ⟨⟨x,rfl⟩,hr⟩;go_wp2_with fail
 all_goals
  go_end0;exact⟨⟨_,rfl⟩,hr⟩
theorem acu(h:eD U w xb G ts t lf es ck){n:Int}(hi:du es n=some i):Zk 54 #[M xb,.pointer (some ⟨G n,0,none⟩)] w λe w'=>(∃x,Zr e x)/\eD U w' xb G ts t lf (es.set i (dK ck (es.getD i .df))) (ck+1)/\Zn U w w':=by
 have⟨b,p⟩:=uK hi;have H1:=Y (UK h hi);have f:i<(es.set i (mK (es.getD i .df))).length:=by rw[List.length_set];exact b
 have j:du (es.set i (mK (es.getD i .df))) n=some i:=by
  rwa[gJ b,JT b (mK es[i]) rfl]
 have e1:(es.set i (mK (es.getD i .df))).getD i .df=mK (es.getD i .df):=by
  rw[gJ f,List.getElem_set_self]
 have k:(es.set i (mK (es.getD i .df))).set i (dK ck (mK (es.getD i .df)))=es.set i (dK ck (es.getD i .df)):=by
  rw[List.set_set];rfl
 have d:Hid (∀a,eD U a xb G ts t lf (es.set i (mK (es.getD i .df))) ck->Zk 97 #[M xb,.pointer (some ⟨G n,0,none⟩)] a λe w'=>(∃x,Zr e x)/\eD U w' xb G ts t lf (es.set i (dK ck (es.getD i .df))) (ck+1)/\Zn U a w'):=by
  intro a c;have l:=UL c j (by rw[e1];rfl);rwa[e1,k] at l
 generalize G n=g at H1 d|-;go_enter func54,ntmps54;go_wp2_with fail;refine H1.j.m ?_;rintro e a ⟨⟨x,rfl⟩,c,m⟩;go_wp2_with fail;refine(d.j _ c).m ?_;rintro e w' ⟨⟨x,rfl⟩,hr,o⟩;go_wp2_with fail
 all_goals
  go_end0;exact⟨⟨_,rfl⟩,hr,m.trans o⟩
theorem bZ.aaL(h:bZ U w xb mb D G vt vq ts t lf es Q)(hn:0<ts.length):∃g c,vt=Zs g ts.length c:=by
 obtain⟨p,c,rfl,_,_,hg⟩:=h.t'.form;obtain⟨g,rfl,_⟩:=hg hn;exact⟨g,c,rfl⟩
theorem bZ.turn{g m c:Nat}(h:bZ U w xb mb D G (Zs g m c) vq ts t lf es Q)(k)(hk:k<ts.length):w.cell? (E g (k*2))=some (O (ts.getD k (0,0)).1)/\w.cell? (E g (k*2+1))=some (O (ts.getD k (0,0)).2):=by
 have e:ts.getD k (0,0)=ts[k]:=by simp[List.getD_eq_getElem?_getD,hk]
 rw[e];exact⟨h.t'.cell k 0 hk I,h.t'.cell k 1 hk I⟩
def xJ(G:Int->Nat)(es:List Et)(d:Int):Value:=match pT es d with|some i=>.pointer (some ⟨G (es.getD i .df).num,0,none⟩)|none=>.pointer none
theorem LJ(h:eD U w xb G ts t lf es ck):Zk 53 #[M xb] w λe w'=>Zr e (xJ G es (ts.getD t (0,0)).1)/\Zq w w':=by
 have⟨hw,b,mb,D,vt,vq,Q,C,a⟩:=h;obtain⟨g,c,rfl⟩:=a.aaL b.n1;have⟨T,F⟩:=Ze (ts.length);rw[<-F] at a;have z:=Y a;have c0:=a.c0;have c1:=a.c1;have⟨K,_⟩:=a.turn t b.tl;have hm:ts.getD t (0,0)∈ts:=by simp[List.getD_eq_getElem?_getD,b.tl]
 have N:0<=(ts.getD t (0,0)).1/\(ts.getD t (0,0)).1<=7:=by
  have:=of_decide_eq_true (b.ok _ hm);omega
 have⟨d,P⟩:∃d:Nat,(ts.getD t (0,0)).1=(d:Int):=⟨(ts.getD t (0,0)).1.toNat,Z⟩;rw[P] at K N|-;have xD:d<8:=Z;have gF:0<=(t:Int)/\(t:Int)<(T:Int):=by have:=b.tl;omega
 have R:0<=(d:Int)/\(d:Int)<8:=Z;have A:=Y hw;have o:=Y C;go_enter func53,ntmps53;go_wp2_with fail;go_quiet (fail);go_wp2;go_loopw [4,5,6,26] (λs _ _ _ wr=>∃k:Nat,s=O ((k:Int) - 1)/\k<=8/\Hid (∀q:Nat,k<=q->q<8->Q (d*8+q)=[])/\Hid (Zq w wr)) (λs _ _ _ _=>((RowKit.intOf s)+1).toNat)
 case atStart=>exact⟨8,rfl,Z,(λq h1 f=>absurd f Z),(H.refl _ _).drewN _⟩
 case round=>
  obtain⟨k,rfl,hk,u,r⟩:=hrel;by_cases S:k=0
  ·subst S;have hb:=ap3 A.j (λq h1 f=>by
    have:=o.j (d*8+q.toNat) Z;rw[u.j q.toNat Z Z] at this;have e1:((((d*8+q.toNat)/8:Nat)):Int)=(d:Int):=Z;have j:((((d*8+q.toNat) % 8:Nat)):Int)=q:=Z;rw[e1,j] at this;exact this)
   have v:Hid (xJ G es (d:Int)=.pointer none):=by unfold xJ;rw[hb];exact rfl
   have h1:¬(0:Int)<=((0:Nat):Int) - 1:=I;go_wp2_with fail;all_goals
    go_ret;exact⟨by rw[v.j];rfl,r.j⟩
  obtain⟨p,rfl⟩:∃p,k=p+1:=⟨k - 1,Z⟩;have V:(((p+1:Nat)):Int) - 1=(p:Int):=Z;rw[V];have xp:p<8:=Z;have qI:(0:Int)<=(p:Int):=Z;have Jp:0<=(p:Int)/\(p:Int)<8:=Z;have W:=Zh ((p:Int) - 1) Z;have m:=(z.j.quiet r.j).queue (d*8+p) Z (eD.Qi o.j z.j (d*8+p) Z);have X:4+(d*8+p)=4+d*8+p:=Z;rw[X] at m;cases x:Q (d*8+p) with
  |nil=>
   rw[x] at m;have y:=Y (agN m);have sr:Hid (∀q:Nat,p<=q->q<8->Q (d*8+q)=[]):=λq h1 f=>by
    by_cases e:q=p
    ·rwa[e]
    exact u.j q Z f
   go_wp2_with fail;refine y.j.e1 ?_;go_wp2;go_roundw
   case rel=>exact⟨p,rfl,Z,sr,r⟩
   case measure=>exact Zm
  |cons n l=>
   rw[x] at m;have y:=Y (agO m);have B:=o.j (d*8+p) Z;have e1:((((d*8+p)/8:Nat)):Int)=(d:Int):=Z;have j:((((d*8+p) % 8:Nat)):Int)=(p:Int):=Z;rw[x,e1,j] at B;have⟨i,hi,hb⟩:=ap2 A.j B (λq h1 f=>by
    have:=o.j (d*8+q.toNat) Z;rw[u.j q.toNat Z Z] at this;have e1:((((d*8+q.toNat)/8:Nat)):Int)=(d:Int):=Z;have j:((((d*8+q.toNat) % 8:Nat)):Int)=q:=Z;rw[e1,j] at this;exact this)
   have⟨dt,fu⟩:=uK hi;have v:Hid (xJ G es (d:Int)=.pointer (some ⟨G n,0,none⟩)):=by unfold xJ;rw[hb];dsimp only;rw[gJ dt,fu];exact rfl
   go_wp2_with fail;refine y.j.e1 ?_;go_wp2_with fail;all_goals
    go_ret;exact⟨by rw[v.j];rfl,r.j⟩
theorem EB.next(h:EB ts t lf):EB ts (kH ts t lf) (ov ts t lf):=by
 have c:(t+1) % ts.length<ts.length:=Nat.mod_lt _ (by have:=h.n1;omega);have hm:ts.getD ((t+1) % ts.length) (0,0)∈ts:=by simp[List.getD_eq_getElem?_getD,c]
 have h1:=of_decide_eq_true (h.ok _ hm);have a:=h.l0;have b:=h.l1;refine⟨h.n1,h.n2,h.ok,?_,?_,?_⟩
 ·unfold kH;split
  ·exact c
  exact h.tl
 ·unfold ov;split<;>omega
 unfold ov;split<;>omega
theorem acm(h:eD U w xb G ts t lf es ck):Zk 52 #[M xb] w λe w'=>(∃x,Zr e x)/\eD U w' xb G ts (kH ts t lf) (ov ts t lf) es ck/\Zn U w w':=by
 have⟨hw,a,mb,D,vt,vq,Q,q,h⟩:=h;have d:=a.next;have⟨t1,i⟩:=Ze (kH ts t lf);have⟨l1,j⟩:=Ze (ov ts t lf);rw[<-i,<-j] at d|-;obtain⟨g,c,rfl⟩:=h.aaL a.n1;obtain⟨T,k⟩:=Ze (ts.length);rw[<-k] at h;have v:=a.n1;have y:=a.n2;have z:=a.tl;have A:=a.l0;have l:=a.l1;have B:=d.l0;have C:=d.l1;have c2:=h.c2;have f2:=h.fz 2;by_cases r:lf=0
 ·subst r;have e1:t1=(t+1) % T:=by rw[i,k];exact if_pos rfl
  have X:t1<T:=by rw[e1];exact Nat.mod_lt _ Z
  have f:l1=(ts.getD t1 (0,0)).2 - 1:=by rw[j,e1,k];unfold ov;rw[if_pos rfl]
  have F0:=Zf t Z;have Rv:((t:Int)+1).tmod (T:Int)=(t1:Int):=by rw[Int.tmod_eq_emod_of_nonneg Z,e1,Int.natCast_emod];rfl
  have aa:=Zh (t1:Int) Z;have ab:((T:Int)==0)=false:=ZF;have ad:¬(T:Int)=0:=Z;have ag:((T:Int)== -1)=false:=ZF;have c0:=h.c0;have c1:=h.c1;have f1:=h.fz 1;have gF:0<=(t1:Int)/\(t1:Int)<(T:Int):=Z;have⟨F,K⟩:=h.yE t1;have b:=F.quiet ((H.refl (λ_=>False) _).drew);have⟨w1,s⟩:=Ze ((w.setCell (E xb 1) (O (t1:Int))).drew);have N:Zn U w w1:=by rw[s];exact K.trans (((H.refl (λ_=>False) _).drew).f)
  rw[<-s] at b;have p0:=b.c0;have p1:=b.c1;have p2:=b.c2;have pf:=b.fz 2;have⟨P,u1⟩:=b.turn t1 Z;have⟨tk,R⟩:=Ze ((ts.getD t1 (0,0)).2);rw[<-R] at u1 f;have⟨S,V⟩:=b.cQ tk;have m:=S.quiet ((H.refl (λ_=>False) _).drew);have⟨w2,u⟩:=Ze ((w1.setCell (E xb 2) (O tk)).drew);have W:Zn U w1 w2:=by rw[u];exact V.trans (((H.refl (λ_=>False) _).drew).f)
  rw[<-u] at m;have r2:=m.c2;have rf:=m.fz 2;have⟨n,o⟩:=m.cQ (tk - 1);have DT:=Zh (tk - 1) Z;have p:Hid (eD U (w2.setCell (E xb 2) (O (tk - 1))) xb G ts t1 l1 es ck/\Zn U w (w2.setCell (E xb 2) (O (tk - 1)))):=⟨⟨hw,d,_,_,_,_,_,q,by rw[f];exact n⟩,(N.trans W).trans o⟩;generalize (ts.getD t1 (0,0)).1=tdm at P;clear h e1 f F b S m n K N V W o i j k a d q hw R v y z A l B C;go_enter func52,ntmps52;go_wp2_with fail;go_region;all_goals
   rw[<-s];clear s c0 c1 c2 f1 f2;go_wp2_with fail
   go_region
   all_goals
    rw[<-u];clear u p0 p1 p2 pf P u1
    go_wp2
    go_end0;exact⟨⟨_,rfl⟩,p.j.1,p.j.2⟩
 have e1:t1=t:=by rw[i];exact if_neg r
 have f:l1=lf - 1:=by rw[j];unfold ov;rw[if_neg r]
 have jy:(lf==0)=false:=beq_eq_false_iff_ne.2 r;obtain⟨n,o⟩:=h.cQ (lf - 1);have DT:=Zh (lf - 1) Z;have p:Hid (eD U (w.setCell (E xb 2) (O (lf - 1))) xb G ts t1 l1 es ck/\Zn U w (w.setCell (E xb 2) (O (lf - 1)))):=⟨⟨hw,d,_,_,_,_,_,q,by rw[f,e1];exact n⟩,o⟩
 clear h e1 f n o i j k a d q hw v y z A l B C;go_enter func52,ntmps52;go_wp2_with fail
 all_goals
  go_end0;exact⟨⟨_,rfl⟩,p.j.1,p.j.2⟩
theorem eD.less(h:eD U w xb G ts t lf es ck){d:Int}{j:Nat}(hb:pT es d=some j)(g:(es.getD j .df).left≠0):∃x,x=(es.getD j .df).left/\IntKind.i64.wrap (x - 1)=x - 1/\w.cell? ⟨G (es.getD j .df).num,4,none⟩=some (O x)/\w.frozen? ⟨G (es.getD j .df).num,4,none⟩=false/\
  eD U (w.setCell ⟨G (es.getD j .df).num,4,none⟩ (O (x - 1))) xb G ts t lf (es.set j (uo (es.getD j .df))) ck/\Zn U w (w.setCell ⟨G (es.getD j .df).num,4,none⟩ (O (x - 1)))/\(w.setCell ⟨G (es.getD j .df).num,4,none⟩ (O (x - 1))).cell? ⟨G (es.getD j .df).num,0,none⟩=some (O (es.getD j .df).num):=by
 have⟨a,h1,i⟩:=zm hb;rw[gJ a] at g|-;obtain⟨hw,l,mb,D,vt,vq,Q,m,h⟩:=h;have p:=hw.ok _ (List.getElem_mem a);have r5:=Ml (h.rn _ (List.getElem_mem a));obtain⟨b,n⟩:=h.ah5 hw.nd a (uo es[j]) rfl 4 (O (es[j].left - 1)) rfl;have o:j<(es.set j (uo es[j])).length:=by rw[List.length_set];exact a
 have c:=Ml (b.rn _ (List.getElem_mem o));rw[List.getElem_set_self] at c;refine⟨_,rfl,by rw[IntKind.wrap_i64];omega,r5.c4,r5.fz 4,⟨hw.less a h1.2 Z (λe he f=>i e he ⟨f.1.trans h1.1,f.2⟩),l,_,_,_,_,_,λk hk=>?_,b⟩,n,c.c0⟩;exact NQ.same hw.nd a (uo es[j]) rfl rfl rfl rfl (m k hk)
theorem acD(h:eD U w xb G ts t lf es ck):Zk 18 #[M xb] w λe w'=>Zr e (O (mf es ck (tY ts t lf)).2.2)/\eD U w' xb G ts (kH ts t lf) (ov ts t lf) (mf es ck (tY ts t lf)).1 (mf es ck (tY ts t lf)).2.1/\Zn U w w':=by
 have hw:=h.1;have H1:=Y (acm h);unfold tY;have⟨t1,W⟩:=Ze (kH ts t lf);have⟨l1,X⟩:=Ze (ov ts t lf);rw[<-W,<-X] at H1|-;clear W X;obtain⟨d,K⟩:=Ze ((ts.getD t1 (0,0)).1);rw[<-K];have A:=Y K;clear K
 cases hb:pT es d with
 |none=>
  have e1:mf es ck d=(es,ck, -1):=by unfold mf;rw[hb]
  have n:Hid (xJ G es d=.pointer none):=by unfold xJ;rw[hb];exact rfl
  rw[e1];go_enter func18,ntmps18;go_wp2_with fail;refine H1.j.m ?_;rintro e o ⟨⟨x,rfl⟩,a,p⟩;have b:=Y (LJ a);have l:=Y a;have m:=Y p;rw[<-A.j,n.j] at b;go_wp2_with fail;refine b.j.m ?_;rintro e N ⟨rfl,c⟩;go_wp2_with fail;all_goals
   go_ret;exact⟨rfl,l.j.quiet c,m.j.trans (c.f)⟩
 |some i=>
  have⟨hi,h1,h2⟩:=zm hb;have B:du es (es.getD i .df).num=some i:=gJ hi▸aaM hw.nd hi
  have n:Hid (xJ G es d=.pointer (some ⟨G (es.getD i .df).num,0,none⟩)):=by unfold xJ;rw[hb];exact rfl
  by_cases f:(es.getD i .df).left=0
  ·have⟨_,j,C,hj,Jl⟩:=TE hw hb;rw[gJ hi] at B n f;have e1:mf es ck d=((es.set i (dK ck es[i])).set j (uo ((es.set i (dK ck es[i])).getD j .df)),ck+1,((es.set i (dK ck es[i])).getD j .df).num):=by
    unfold mf;rw[hb];dsimp only;rw[gJ hi,if_pos f,C]
   rw[e1];have r:Hid (xJ G (es.set i (dK ck es[i])) d=.pointer (some ⟨G ((es.set i (dK ck es[i])).getD j .df).num,0,none⟩)):=by unfold xJ;rw[C];exact rfl
   have vu:=Y C;have OO:Hid (((es.set i (dK ck es[i])).getD j .df).left≠0):=by
    show _≠_;have e5:=gJ hj;rw[e5,Jl];decide
   have HN:=Y B;have HG:=Y (gJ hi);have vh:=Y f;have HI:Hid (∃k:i<es.length,True):=⟨hi,trivial⟩;have HR:Hid (∀o,eD U o xb G ts t1 l1 es ck->Zc o (G es[i].num) 4 (O 0)):=by
    intro o a;have⟨_,_,mb,D,vt,vq,Q,hq,a⟩:=a;have:=(Ml (a.rn _ (List.getElem_mem hi))).c4;rwa[f] at this
   generalize hE:es[i]=Z4 at n r vu OO HN HG vh HR|-;clear hE e1 hb C Jl hj f B h1 h2 hw hi HI;go_enter func18,ntmps18;go_wp2_with fail;refine H1.j.m ?_;rintro e o ⟨⟨x,rfl⟩,a,p⟩;have b:=Y (LJ a);have l:=Y a;have m:=Y p;clear a p;rw[<-A.j,n.j] at b;go_wp2_with fail;refine b.j.m ?_;rintro e N ⟨rfl,c⟩;have q:=l.j.quiet c;have P:=Y (m.j.trans (c.f));have s:=HR.j N q;have HJ:=Y (acu q HN.j);rw[HG.j] at HJ;clear q l m b c;go_wp2_with fail;refine HJ.j.m ?_;rintro e wz ⟨⟨x2,rfl⟩,R,aA⟩;have S:=Y (LJ R);rw[<-A.j,r.j] at S;have zq:=Y R;have kZ:=Y (P.j.trans aA);clear R aA s;go_wp2_with fail;refine S.j.m ?_;rintro e wu ⟨rfl,T⟩;have BJ:=zq.j.quiet T;have xY:=Y (kZ.j.trans (T.f));obtain⟨x4,F,MT,s,f4,u,v,V⟩:=BJ.less vu.j OO.j;have y:=Y u;have z:=Y v;generalize G ((es.set i (dK ck Z4)).getD j .df).num=g at s f4 V y z|-;clear BJ T u v zq kZ S F;go_wp2_with fail
   all_goals
    go_ret;exact⟨rfl,y.j,xY.j.trans z.j⟩
  have e1:mf es ck d=(es.set i (uo (es.getD i .df)),ck,(es.getD i .df).num):=by
   unfold mf;rw[hb];dsimp only;rw[if_neg f]
  rw[e1];have HB:=Y hb;have HL:=Y f;clear e1 hb f B h1 h2 hw hi;go_enter func18,ntmps18;go_wp2_with fail;refine H1.j.m ?_;rintro e o ⟨⟨x,rfl⟩,a,p⟩;have b:=Y (LJ a);have l:=Y a;have m:=Y p;rw[<-A.j,n.j] at b;go_wp2_with fail;refine b.j.m ?_;rintro e N ⟨rfl,c⟩;have q:=l.j.quiet c;have P:=Y (m.j.trans (c.f));have⟨x4,F,MT,s,f4,u,v,V⟩:=q.less HB.j HL.j;have aH:¬x4=0:=F▸HL.j
  have Jg:=beq_eq_false_iff_ne.2 aH;have y:=Y u;have z:=Y v;generalize G (es.getD i .df).num=g at s f4 V y z|-;clear q c u v l m b F;go_wp2_with fail
  all_goals
   go_ret;exact⟨rfl,y.j,P.j.trans z.j⟩
theorem JS{k:Int}:(du es k).isSome=true↔k∈es.map (·.num):=by
 constructor
 ·intro h;have⟨i,hi⟩:=Option.isSome_iff_exists.1 h;have⟨a,b⟩:=uK hi;exact List.mem_map.2 ⟨_,List.getElem_mem a,b⟩
 intro h;obtain⟨e,he,rfl⟩:=List.mem_map.1 h;cases hi:du es e.num with
 |some i=>rfl
 |none=>have:=jQ hi e he;simp at this
theorem bZ.hk(h:bZ U w xb mb D G vt vq ts t lf es Q)(k)(hk:af k):Maps.has D (.int .i64 k)=true↔k∈es.map (·.num):=by
 rw[h.hs k hk];exact JS
theorem bZ.hv(h:bZ U w xb mb D G vt vq ts t lf es Q)(e)(he:e∈es)(z):D.atKey (.int .i64 e.num) z=.held (.pointer (some ⟨G e.num,0,none⟩)):=by
 have⟨i,hi⟩:=Option.isSome_iff_exists.1 (JS.2 (List.mem_map.2 ⟨e,he,rfl⟩));exact h.ha _ i z hi
section
variable {D2:DataW Value}{iY:List Et}
theorem bZ.Qb(h:bZ U w xb mb D G vt vq ts t lf es Q)(p:(iY.map (·.num)).Nodup)(o:∀e∈iY,af e.num)(hm:w3.ownsMap prog 3 RP mb n D2)(q:w.grownBy w3 (some mb))(hk:∀k,af k->(Maps.has D2 (.int .i64 k)=true↔k∈iY.map (·.num)))(hv:∀e∈iY,∀z,D2.atKey (.int .i64 e.num) z=.held (.pointer (some ⟨G e.num,0,none⟩)))(hr:∀e∈iY,w.heap[G e.num]?=some (.cells (sI e) 158 (0,0)))(s:∀e∈iY,∀f∈iY,G e.num=G f.num->e.num=f.num)(g:∀e∈iY,¬U (G e.num))(u:iY.length<=1000000):bZ U w3 xb mb D2 G vt vq ts t lf iY Q/\H (λj=>¬U j) w w3:=by
 have a:=QL q;have v:=Mx (ks:=iY.map (·.num)) hm (λk b l=>(hk k b).1 l) (λk c=>by
  obtain⟨r,hr,rfl⟩:=List.mem_map.1 c;exact(hk _ (o r hr)).2 c) p
 have c:w3.ownsMap prog 3 RP mb iY.length D2:=by
  have:=QK hm;rwa[v.2,List.length_map] at this
 refine⟨⟨H.keep a h.x (λe=>zU h.x h.m e),h.lq,h.t'.kept a (λk hk e=>?_),c,λk b=>?_,λk i z hi=>?_,λe he=>H.keep a (hr e he) (λx=>zU (hr e he) h.m x),s,λj d=>(h.qs j d).kept a (λk hk e=>?_),h.qd,h.ux,h.ut,h.um,g,h.uq,λk hu=>Nat.lt_of_lt_of_le (h.low k hu) a.size,u,o⟩,a.mono (λj _ d=>by subst d;exact h.um)⟩
 ·have⟨cur,m⟩:=cW h.t' hk;exact zU m h.m e
 ·cases hs:du iY k with
  |some i=>exact(hk k b).2 (JS.1 (by rw[hs];rfl))
  |none=>
   cases l:Maps.has D2 (.int .i64 k) with
   |false=>rfl
   |true=>
    have:=JS.2 ((hk k b).1 l);rw[hs] at this;cases this
 ·have⟨y,A⟩:=uK hi;rw[<-A];exact hv _ (List.getElem_mem y) z
 have⟨cur,m⟩:=cW (h.qs j d) hk;exact zU m h.m e
end
theorem bZ.added(h:bZ U w xb mb D G vt vq ts t lf es Q)(B:(es.map (·.num)).Nodup)(o:∀j,j<64->∀x∈Q j,x∈es.map (·.num))(p:af y.num)(q:y.num∉es.map (·.num)){g:Nat}(hg:w.heap[g]?=some (.cells (sI y) 158 (0,0)))(s:∀e∈es,G e.num≠g)(P:¬U g){m:Nat}(hm:w3.ownsMap prog 3 RP mb m (D.put (.int .i64 y.num) (.held (M g))))(C:w.grownBy w3 (some mb))(F:es.length+1<=1000000):
  bZ U w3 xb mb (D.put (.int .i64 y.num) (.held (M g))) (kK G y.num g) vt vq ts t lf (es++[y]) Q/\H (λj=>¬U j) w w3:=by
 have u:∀e∈es,e.num≠y.num:=λe he d=>q (List.mem_map.2 ⟨e,he,d⟩);have c:∀e∈es,kK G y.num g e.num=G e.num:=λe he=>yH G g (u e he);have hN:=Bt G y.num g;have n:bZ U w xb mb D (kK G y.num g) vt vq ts t lf es Q:=by
  refine⟨h.x,h.lq,h.t',h.m,h.hs,λk i z hi=>?_,λe he=>c e he▸h.rn e he,λe he f hf=>c e he▸c f hf▸h.gi e he f hf,λj v=>?_,h.qd,h.ux,h.ut,h.um,λe he=>c e he▸h.ur e he,h.uq,h.low,h.nl,h.ix⟩
  ·have⟨K,A⟩:=uK hi;rw[<-A,c _ (List.getElem_mem K),A];exact h.ha k i z hi
  have:(Q j).map (kK G y.num g)=(Q j).map G:=List.map_congr_left (λx N=>by
   obtain⟨e,he,rfl⟩:=List.mem_map.1 (o j v x N);exact c e he)
  rw[this];exact h.qs j v
 refine n.Qb ?_ ?_ hm C (λk hk=>?_) (λe he z=>?_) (λe he=>?_) (λe he f hf d=>?_) (λe he=>?_) (List.length_append▸List.length_singleton▸F)
 ·rw[List.map_append,List.nodup_append];refine⟨B,by simp,λa ha b hb=>?_⟩;simp only[List.map_cons,List.map_nil,List.mem_singleton] at hb;rw[hb];exact λe=>q (e▸ha)
 ·intro r hr;rcases List.mem_append.1 hr with hr|hr
  ·exact h.ix r hr
  rw[List.mem_singleton] at hr;rwa[hr]
 ·rw[List.map_append,List.mem_append];by_cases he:k=y.num
  ·subst he;rw[Maps.has_put_same h.m.isMap (My p)];simp
  rw[Maps.has_put_other (FM he),h.hk k hk];simp[he]
 ·rcases List.mem_append.1 he with he|he
  ·rw[Maps.atKey_put_other (FM (u e he))];exact n.hv e he z
  rw[List.mem_singleton] at he;subst he;rw[hN];exact Maps.atKey_put_same h.m.isMap (My p) _ z
 ·rcases List.mem_append.1 he with he|he
  ·exact n.rn e he
  rw[List.mem_singleton] at he;subst he;rwa[hN]
 ·rcases List.mem_append.1 he with l|l
  ·rcases List.mem_append.1 hf with a2|a2
   ·exact n.gi e l f a2 d
   rw[List.mem_singleton] at a2;rw[a2,hN,c e l] at d;exact absurd d (s e l)
  rw[List.mem_singleton] at l;rcases List.mem_append.1 hf with a2|a2
  ·rw[l,hN,c f a2] at d;exact absurd d.symm (s f a2)
  rw[List.mem_singleton] at a2;rw[l,a2]
 rcases List.mem_append.1 he with he|he
 ·exact n.ur e he
 rw[List.mem_singleton] at he;subst he;rwa[hN]
theorem eD.find(h:eD U w xb G ts t lf es ck)(n)(hn:af n)(b):Zk 181 #[M xb,O n,.bool b] w λe w'=>Zr e (mU G es n b)/\w'=w:=by
 have⟨hw,c,mb,D,vt,vq,Q,d,a⟩:=h;exact acQ a n hn b
theorem acv(h:eD U w xb G ts t lf es ck)(n)(hn:af n):Zk 102 #[M xb,O n] w λe w'=>Zr e (O (jw es n))/\eD U w' xb G ts t lf (if jw es n=0 then nJ es ck n else es) (if jw es n=0 then ck+1 else ck)/\Zn U w w':=by
 have a:=Y (h.find n hn false);have d:=Y h;cases hi:du es n with
 |none=>
  have e1:jw es n=6:=by unfold jw;rw[hi]
  have c:mU G es n false=.tuple #[.pointer none,O 6]:=by unfold mU;rw[hi]
  rw[c] at a;simp only[e1,if_neg (show¬(6:Int)=0 from I)];go_enter func102,ntmps102;go_wp2_with fail;refine a.j.e1 ?_;go_wp2_with fail;all_goals
   go_ret;exact⟨rfl,d.j,H.refl _ _⟩
 |some i=>
  have⟨b,m⟩:=uK hi;have o:=h.1.ok _ (List.getElem_mem b);by_cases j:es[i].came≠0
  ·have e1:jw es n=16:=by unfold jw;rw[hi];dsimp only;rw[gJ b];exact if_pos Z
   have c:mU G es n false=.tuple #[.pointer none,O 16]:=by unfold mU;rw[hi];dsimp only;rw[gJ b];exact if_neg (by simp[j])
   rw[c] at a;simp only[e1,if_neg (show¬(16:Int)=0 from I)];go_enter func102,ntmps102;go_wp2_with fail;refine a.j.e1 ?_;go_wp2_with fail;all_goals
    go_ret;exact⟨rfl,d.j,H.refl _ _⟩
  have e1:jw es n=0:=by unfold jw;rw[hi];dsimp only;rw[gJ b];exact if_neg Z
  have c:mU G es n false=.tuple #[.pointer (some ⟨G n,0,none⟩),O 0]:=by unfold mU;rw[hi];dsimp only;rw[gJ b];exact if_pos (by simp;omega)
  have k:nJ es ck n=es.set i (dK ck (es.getD i .df)):=by unfold nJ;rw[hi]
  rw[c] at a;simp only[e1,if_true,k];have f:=Y (UL h hi (by rw[gJ b];omega));generalize G n=g at a f|-;go_enter func102,ntmps102;go_wp2_with fail;refine a.j.e1 ?_;go_wp2_with fail;refine f.j.m ?_;rintro e w3 ⟨⟨x,rfl⟩,hr,l⟩;go_wp2_with fail
  all_goals
   go_ret;exact⟨rfl,hr,l⟩
theorem acU(h:eD U w xb G ts t lf es ck)(n)(hn:af n):Zk 103 #[M xb,O n] w λe w'=>Zr e (O (su es n))/\eD U w' xb G ts t lf (if su es n=0 then zk es n else es) ck/\Zn U w w':=by
 have a:=Y (h.find n hn true);have f:=Y h;cases hi:du es n with
 |none=>
  have e1:su es n=6:=by unfold su;rw[hi]
  have b:mU G es n true=.tuple #[.pointer none,O 6]:=by unfold mU;rw[hi]
  rw[b] at a;simp only[e1,if_neg (show¬(6:Int)=0 from I)];go_enter func103,ntmps103;go_wp2_with fail;refine a.j.e1 ?_;go_wp2_with fail;all_goals
   go_ret;exact⟨rfl,f.j,H.refl _ _⟩
 |some i=>
  have⟨c,m⟩:=uK hi;have o:=h.1.ok _ (List.getElem_mem c);by_cases d:es[i].came=0
  ·have e1:su es n=16:=by unfold su;rw[hi];dsimp only;rw[gJ c];exact if_pos d
   have b:mU G es n true=.tuple #[.pointer none,O 16]:=by unfold mU;rw[hi];dsimp only;rw[gJ c];exact if_neg (by simp[d])
   rw[b] at a;simp only[e1,if_neg (show¬(16:Int)=0 from I)];go_enter func103,ntmps103;go_wp2_with fail;refine a.j.e1 ?_;go_wp2_with fail;all_goals
    go_ret;exact⟨rfl,f.j,H.refl _ _⟩
  have e1:su es n=0:=by unfold su;rw[hi];dsimp only;rw[gJ c];exact if_neg d
  have b:mU G es n true=.tuple #[.pointer (some ⟨G n,0,none⟩),O 0]:=by unfold mU;rw[hi];dsimp only;rw[gJ c];exact if_pos (by simp;exact d)
  have k:zk es n=es.set i (mK (es.getD i .df)):=by unfold zk;rw[hi];rfl
  rw[b] at a;simp only[e1,if_true,k];have j:=Y (UK h hi);generalize G n=g at a j|-;go_enter func103,ntmps103;go_wp2_with fail;refine a.j.e1 ?_;go_wp2_with fail;refine j.j.m ?_;rintro e w3 ⟨⟨x,rfl⟩,hr,l⟩;go_wp2_with fail
  all_goals
   go_ret;exact⟨rfl,hr,l⟩
theorem eD.look(h:eD U w xb G ts t lf es ck)(n)(hn:af n):∃mb,w.cell? (E xb 3)=some (.map (some mb))/\(Instr.lookup 201 (.map (some mb)) (O n) false).run prog w=.ok (ud G es n) w:=by
 have⟨hw,b,mb,D,vt,vq,Q,c,a⟩:=h;exact⟨mb,a.c3,a.look n hn⟩
theorem eD.r5(h:eD U w xb G ts t lf es ck){n:Int}(hi:du es n=some i):∃b:i<es.length,es[i].num=n/\R5 w (G n) es[i]/\ud G es n=.pointer (some ⟨G n,0,none⟩):=by
 have⟨hw,c,mb,D,vt,vq,Q,d,a⟩:=h;exact a.r5 hi
def Bu(n d p:Int):Et:=⟨n,d,p,0,0⟩
theorem UN(h:eD U w xb G ts t lf es ck)(jB:es.length<1000000)(n d p)(hn:af n):Zk 51 #[M xb,.int .i64 n,.int .i64 d,.int .i64 p] w λe w'=>Zr e (.int .i64 (jn es n d p))/\uU U w' xb ts t lf (de es n d p) ck/\Zn U w w':=by
 have m:=Y h;have k:=Y (Yh d);have o:=Y (alm p);have r:Hid (∀b c:Bool,sX d=b->sX p=c->(n<0\/b=false\/c=false)->jn es n d p=1/\de es n d p=es):=by
  intro b c hb f l;have e1:jn es n d p=1:=by
   refine if_pos ?_;rcases l with l|l|l
   ·omega
   ·rw[l] at hb;have:=of_decide_eq_false hb;omega
   rw[l] at f;have:=of_decide_eq_false f;omega
  exact⟨e1,if_neg (by rw[e1];decide)⟩
 by_cases a1:n<0
 ·have⟨e1,a⟩:=r.j _ _ rfl rfl (Or.inl a1);rw[e1,a];go_enter func51,ntmps51;go_wp2_with fail;all_goals
   go_ret;exact⟨rfl,⟨_,m.j⟩,H.refl _ _⟩
 cases hb:sX d with
 |false=>
  have⟨e1,a⟩:=r.j _ _ hb rfl (Or.inr (Or.inl rfl));rw[e1,a];rw[hb] at k;go_enter func51,ntmps51;go_wp2_with fail;refine(k.j _).e1 ?_;go_wp2_with fail;all_goals
   go_ret;exact⟨rfl,⟨_,m.j⟩,H.refl _ _⟩
 |true=>
  cases f:sX p with
  |false=>
   have⟨e1,a⟩:=r.j _ _ hb f (Or.inr (Or.inr rfl));rw[e1,a];rw[hb] at k;rw[f] at o;go_enter func51,ntmps51;go_wp2_with fail;refine(k.j _).e1 ?_;go_wp2_with fail;refine(o.j _).e1 ?_;go_wp2_with fail;all_goals
    go_ret;exact⟨rfl,⟨_,m.j⟩,H.refl _ _⟩
  |true=>
   have z:=of_decide_eq_true hb;have ZM:=of_decide_eq_true f;have B:¬(n<0\/d<0\/7<d\/p<0\/7<p):=Z;rw[hb] at k;rw[f] at o;have⟨mb,c3,hk⟩:=h.look n hn;cases hi:du es n with
   |some i=>
    have⟨hl,hE,r5,hv⟩:=h.r5 hi;rw[hv] at hk;have e1:jn es n d p=7:=by unfold jn;rw[if_neg B,hi];rfl
    have a:de es n d p=es:=if_neg (by rw[e1];decide);rw[e1,a];generalize G n=g at hk;go_enter func51,ntmps51;go_wp2_with fail;refine(k.j _).e1 ?_;go_wp2_with fail;refine(o.j _).e1 ?_;go_wp2_with fail;all_goals
     go_ret;exact⟨rfl,⟨_,m.j⟩,H.refl _ _⟩
   |none=>
    have hv:ud G es n=.pointer none:=by unfold ud;rw[hi]
    rw[hv] at hk;have e1:jn es n d p=0:=by unfold jn;rw[if_neg B,hi];rfl
    have a:de es n d p=es++[Bu n d p]:=if_pos e1;have C:=Y (h.1.add n d p);rw[a] at C;rw[e1,a];have P:Hid (∀q,Zc w xb 3 (.map (some q))->∃w1 w3,w1=w.alloc (.cells (sI (Bu n d p)) 158)/\Zc w1 xb 3 (.map (some q))/\(Instr.mapUpdate 201 (.map (some q)) (.int .i64 n) (M w.heap.size)).run prog w1=.ok () w3/\uU U w3 xb ts t lf (es++[Bu n d p]) ck/\Zn U w w3):=by
     intro q ji;have⟨hw,gR,mb,D,vt,vq,Q,R,s⟩:=m.j;have pI:q=mb:=by
      have:=s.c3;rw[ji] at this;simpa using this
     subst pI;have S:Zq w (w.alloc (.cells (sI (Bu n d p)) 158)):=(H.refl _ w).alloc _;have F:=s.quiet S;have fv:(w.alloc (.cells (sI (Bu n d p)) 158)).heap[w.heap.size]?=some (.cells (sI (Bu n d p)) 158 (0,0)):=heap_alloc_last w _;obtain⟨w3,u,eH,xA⟩:=F.m.update (t:=201) (e:=155) ry underlying201 (by unfold maxLen;omega) (zW hn) (val:=M w.heap.size) (d:=.held (M w.heap.size)) (ps:=[]) rfl
     obtain⟨k1,o1⟩:=F.added hw.nd (λj K x s7=>by
       obtain⟨e,he,v,_⟩:=(R j K).mem.1 s7
       exact List.mem_map.2 ⟨e,he,v⟩) (y:=Bu n d p) hn (λv=>by have:=JS.2 v;rw[show(Bu n d p).num=n from rfl,hi] at this;cases this) fv (λe he v=>by have:=aB (s.rn e he);omega) (λhu=>by have:=s.low _ hu;omega) eH xA Z
     exact⟨_,w3,rfl,F.c3,u,⟨_,C.j,gR,_,_,_,_,_,λj K=>NQ.add _ rfl (R j K),k1⟩,(S.f).trans o1⟩
    obtain⟨w1,w3,T,c31,u,hr,V⟩:=P.j mb c3;have W:=Y (⟨hr,V⟩:_/\_);have X:w1=w.alloc (.cells #[.int .i64 n,.int .i64 d,.int .i64 p,.bool false,.int .i64 0] 158):=T;obtain⟨A,N⟩:=Ze (w.heap.size);rw[<-N] at u;clear h e1 a r hn jB hb f z ZM B hi hv C P hr V T;go_enter func51,ntmps51;go_wp2_with fail;refine(k.j _).e1 ?_;go_wp2_with fail;refine(o.j _).e1 ?_;rw[N,X] at u;clear X N;go_wp2_with fail
    all_goals
     go_ret;exact⟨rfl,W.j.1,W.j.2⟩
theorem ajy{f:Nat->UInt8}(h:cP U w bm n f)(root)(va:Nat)(fr r)(hb:¬((hasB n root&&hasB n fr)=true/\va % 4096=0)):
  Zk 224 #[M bm,O root,J (va:Int),O fr,O r] w λe w'=>Zr e (O ((j8 f n root va fr r).2:Nat))/\cP U w' bm n (j8 f n root va fr r).1/\Zn U w w':=by
 have b:=Y (Pw h root fr);have g:=Y h;have c:Hid (j8 f n root va fr r=(f,1)):=if_neg hb;have i:(va:Int) % 4096=((va % 4096:Nat):Int):=Z;have j:Int.tmod (va:Int) 4096=((va % 4096:Nat):Int):=by rw[Int.tmod_eq_emod_of_nonneg Z];omega
 have hw:IntKind.u32.wrap ((va % 4096:Nat):Int)=((va % 4096:Nat):Int):=by rw[IntKind.wrap_u32];omega
 generalize j8 f n root va fr r=R at c;cases d:(hasB n root&&hasB n fr) with
 |true=>
  have c1:¬((va % 4096:Nat):Int)=0:=by
   intro k;exact hb ⟨d,Z⟩
  have c2:(((va % 4096:Nat):Int) !=0)=true:=by simpa using c1
  rw[d] at b;generalize va % 4096=m at i j c1 c2 hw;go_enter func224,ntmps224;go_wp2_with fail;refine b.j.m ?_;rintro e w1 ⟨rfl,h1⟩;have a:Hid (Zq w w1):=by show H _ _ _;rw[h1];exact(H.refl _ w).alloc _
  clear h1;go_wp2_with fail;all_goals
   go_ret;rw[c.j];exact⟨rfl,g.j.quiet a.j,a.j.f⟩
 |false=>
  rw[d] at b;go_enter func224,ntmps224;go_wp2_with fail;refine b.j.m ?_;rintro e w1 ⟨rfl,h1⟩;have a:Hid (Zq w w1):=by show H _ _ _;rw[h1];exact(H.refl _ w).alloc _
  clear h1;go_wp2_with fail;all_goals
   go_ret;rw[c.j];exact⟨rfl,g.j.quiet a.j,a.j.f⟩
theorem ajB{f:Nat->UInt8}(h:cP U w bm n f)(root)(va:Nat)(hv:va<4294967296)(fr r):
  Zk 224 #[M bm,O root,J (va:Int),O fr,O r] w λe w'=>Zr e (O ((j8 f n root va fr r).2:Nat))/\cP U w' bm n (j8 f n root va fr r).1/\Zn U w w':=by
 by_cases hb:(hasB n root&&hasB n fr)=true/\va % 4096=0
 case neg=>exact ajy h root va fr r hb
 have o:=Y (Pw h root fr);have j:=Y h;have a:Hid (j8 f n root va fr r=if yL r=true then (match vy f n root.toNat va with|some t=>xK f (uJ t va) (1024*fr.toNat+AH r)|none=>(f,15)) else (f,13)):=if_pos hb;have⟨hb,S⟩:=hb;have T:(va:Int) % 4096=0:=Z;have V:Int.tmod (va:Int) 4096=0:=by rw[Int.tmod_eq_emod_of_nonneg Z];omega
 rw[hb] at o;rw[Bool.and_eq_true] at hb;obtain⟨x,rfl,hr⟩:=JE hb.1;obtain⟨p,rfl,hp⟩:=JE hb.2;rw[Int.toNat_natCast,Int.toNat_natCast] at a;have hn:=h.top;have k:=Y (λwv=>ajp r wv);have s:=Y (λwv (hm:cP U wv bm n f)=>aeI hm x va hr hv);have y:=Y (λt (ht:t<n) wv=>anf t va Z hv wv);have z:=Y (λb (hb:b<1024) wv=>ab0 p b Z hb wv);have A:=Y (λt (ht:t<n) wv (hm:cP U wv bm n f)=>aaW hm (uJ t va) (1024*p+AH r) (anb _ _) (ana ht) (by have:=abo r;omega));have q:=Y (λt (h:vy f n x va=some t)=>aeM h);generalize j8 f n x va p r=R at a;generalize vy f n x va=N at s a q;cases d:yL r with
 |false=>
  have g:Hid (R=(f,13)):=by show _=_;rw[a.j,d,if_neg (by simp)]
  rw[d] at k;clear a d;go_enter func224,ntmps224;go_wp2_with fail;refine o.j.m ?_;rintro e w1 ⟨rfl,h1⟩;have c:Hid (Zq w w1):=by show H _ _ _;rw[h1];exact(H.refl _ w).alloc _
  clear h1;go_wp2_with fail;refine(k.j _).e1 ?_;go_wp2_with fail
  all_goals
   go_ret;rw[g.j]
   exact⟨rfl,j.j.quiet c.j,c.j.f⟩
 |true=>
  rw[d] at k a;rw[if_pos rfl] at a
  cases N with
  |none=>
   clear d;go_enter func224,ntmps224;go_wp2_with fail;refine o.j.m ?_;rintro e w1 ⟨rfl,h1⟩;have c:Hid (Zq w w1):=by show H _ _ _;rw[h1];exact(H.refl _ w).alloc _
   clear h1;go_wp2_with fail;refine(k.j _).e1 ?_;go_wp2_with fail;refine(s.j _ (j.j.quiet c.j)).m ?_;rintro e w2 ⟨rfl,l⟩;have m:=Y (c.j.trans l);clear l c;simp only[Option.getD_none,Option.isSome_none];go_wp2_with fail
   all_goals
    go_ret;rw[a.j]
    exact⟨rfl,j.j.quiet m.j,m.j.f⟩
  |some t=>
   have C:=Y (y.j t (q.j t rfl));have u:=Y (A.j t (q.j t rfl));have g:Hid (R=xK f (uJ t va) (1024*p+AH r)):=a.j;generalize uJ t va=P at C u g;clear a y A q;have v:=Y (z.j (AH r) (abo r));generalize 1024*p+AH r=X at v u g;obtain⟨B,i⟩:=Ze (AH r);rw[<-i] at v;clear z;rcases ajq d with rfl|rfl|rfl|rfl|rfl
   all_goals
    first|(obtain rfl:B=83:=i)|(obtain rfl:B=215:=i)|(obtain rfl:B=89:=i)|(obtain rfl:B=91:=i)|(obtain rfl:B=223:=i)
    clear d;go_enter func224,ntmps224;go_wp2_with fail;refine o.j.m ?_;rintro e w1 ⟨rfl,h1⟩;have c:Hid (Zq w w1):=by show H _ _ _;rw[h1];exact(H.refl _ w).alloc _
    clear h1;go_wp2_with fail;refine(k.j _).e1 ?_;go_wp2_with fail;refine(s.j _ (j.j.quiet c.j)).m ?_;rintro e w2 ⟨rfl,l⟩;have m:=Y (c.j.trans l);clear l c;simp only[Option.getD_some,Option.isSome_some];go_wp2_with fail;refine(C.j _).e1 ?_;go_wp2_with fail;refine(v.j _).e1 ?_;go_wp2_with fail;refine(u.j _ (j.j.quiet m.j)).m ?_;rintro e w3 ⟨rfl,D,F⟩;have Q:Hid (cP U w3 bm n R.1/\Zn U w w3):=by rw[g.j];exact⟨D,(m.j.f).trans F⟩
    clear D F;rw[<-g.j];obtain⟨G,K⟩:∃G,Hid (R.2=G):=⟨_,rfl⟩
    rw[K.j];go_wp2_with fail
    all_goals
     go_ret;rw[K.j];exact⟨rfl,Q.j⟩
theorem alj(a b w):Zk 81 #[.agg #[O a,O b]] w λe w'=>Zr e (.bool (!lZ (a,b)))/\Zq w w':=by
 have f:=Y (Yh a);have⟨w1,d,j,i⟩:∃w1,w1=w.alloc (.cells #[O a,O b] 52)/\Zq w w1/\w1.heap[w.heap.size]?=some (.cells #[O a,O b] 52 (0,0)):=⟨_,rfl,(H.refl _ w).alloc _,heap_alloc_last w _⟩;have⟨A,c⟩:=Ze (w.heap.size);rw[<-c] at i;have z0:w1.cell? (E A 0)=some (O a):=Zl i;have l:w1.cell? (E A 1)=some (O b):=Zl i;have h:=Y j;have k:Hid (lZ (a,b)=(sX a&&decide (1<=b/\b<=1000))):=by
  show decide (0<=a/\a<=7/\1<=b/\b<=1000)=(decide (0<=a/\a<=7)&&decide (1<=b/\b<=1000));rw[<-Bool.decide_and];congr 1;simp[and_assoc]
 rw[k.j];cases hb:sX a with
 |false=>
  rw[hb] at f;go_enter func81,ntmps81;go_upto_region 1 with fail
  rw[<-d,<-c];clear d c;go_wp2_with fail;refine(f.j _).e1 ?_;go_wp2_with fail
  all_goals
   go_ret
   exact⟨by first|rfl|simp_all,h.j⟩
 |true=>
  rw[hb] at f;clear hb;by_cases m:b<1
  ·have g:Hid (decide (1<=b/\b<=1000)=false):=decide_eq_false Z;rw[g.j];go_enter func81,ntmps81;go_upto_region 1 with fail
   rw[<-d,<-c];clear d c;go_wp2_with fail;refine(f.j _).e1 ?_;go_wp2_with fail
   all_goals
    go_ret;exact⟨by first|rfl|simp_all,h.j⟩
  by_cases n:1000<b
  ·have g:Hid (decide (1<=b/\b<=1000)=false):=decide_eq_false Z;rw[g.j];go_enter func81,ntmps81;go_upto_region 1 with fail
   rw[<-d,<-c];clear d c;go_wp2_with fail;refine(f.j _).e1 ?_;go_wp2_with fail
   all_goals
    go_ret;exact⟨by first|rfl|simp_all,h.j⟩
  have g:Hid (decide (1<=b/\b<=1000)=true):=decide_eq_true Z;rw[g.j];go_enter func81,ntmps81;go_upto_region 1 with fail
  rw[<-d,<-c];clear d c;go_wp2_with fail;refine(f.j _).e1 ?_;go_wp2_with fail
  all_goals
   go_ret;exact⟨by first|rfl|simp_all,h.j⟩
theorem Va(hp:tM w pa ts)(hn:0<ts.length):∃ab ao,pa=some (E ab ao)/\∀wv,Zq w wv->∀j (h:j<ts.length),wv.cell? (E ab (ao+j*2))=some (O ts[j].1)/\wv.cell? (E ab (ao+j*2+1))=some (O ts[j].2):=by
 rcases hp with h|⟨ab,ao,rfl,h⟩
 ·rw[h] at hn;cases hn
 refine⟨ab,ao,rfl,λwv c j a=>?_⟩;rcases (tM.quiet (Or.inr ⟨ab,ao,rfl,h⟩) c) with b|⟨a2,f,e,b⟩
 ·rw[b] at a;cases a
 injection e with e
 injection e with e1 d
 subst e1;subst d;exact b j a
def xO(ts:Lp):Bool:= !ts.all lZ
theorem ae0(hp:tM w pa ts)(m c)(hm:m=ts.length)(y:m<=16):Zk 118 #[.slice pa m c,.func (.func 81) #[] #[]] w λe w'=>∃r:Int,Zr e (O r)/\(0<=r↔xO ts=true)/\Zq w w':=by
 have s:=Y hp;have p:=Y hm;clear hp hm;go_enter func118,ntmps118;go_wp2;go_loopw [5,8] (λ_ d wr=>∃k:Nat,d=O (k:Int)/\k<=m/\Hid (∀j (h:j<ts.length),j<k->lZ ts[j]=true)/\Hid (Zq w wr)) (λ_ d _=>m - (RowKit.intOf d).toNat)
 case atStart=>exact⟨0,rfl,Z,λj _ b=>absurd b (Nat.not_lt_zero _),H.refl _ _⟩
 case round=>
  obtain⟨k,rfl,hk,i,l⟩:=hrel;by_cases z:k<m
  ·have h1:(k:Int)<(m:Int):=Z;have A:0<=(k:Int)/\(k:Int)<(m:Int):=Z;have B:=Zf k Z;have n:k<ts.length:=by have:=p.j;omega
   obtain⟨ab,ao,rfl,q⟩:=Va s.j Z;obtain⟨c0,c1⟩:=q _ l.j k n;have a:=Y (λwv=>alj ts[k].1 ts[k].2 wv);clear q
   cases hb:lZ ts[k] with
   |true=>
    have t:Hid (∀j (h:j<ts.length),j<k+1->lZ ts[j]=true):=λj b C=>by
     by_cases e:j=k
     ·subst e;exact hb
     exact i.j j b Z
    have f:(!lZ (ts[k].1,ts[k].2))=false:=by rw[show(ts[k].1,ts[k].2)=ts[k] from rfl,hb];rfl
    rw[f] at a;generalize ts[k].1=d0 at c0 a;generalize ts[k].2=d1 at c1 a;clear hb f n i;go_wp2_with fail;refine(a.j _).m ?_;rintro e w3 ⟨rfl,g⟩;have o:=Y (l.j.trans g);clear g c0 c1
    go_wp2
    go_roundw
    case rel=>exact⟨k+1,by go_num,Z,t,o⟩
    case measure=>exact Zm
   |false=>
    have u:Hid (xO ts=true):=by
     show(!ts.all lZ)=true;rw[Bool.not_eq_true',List.all_eq_false];exact⟨ts[k],List.getElem_mem n,by rw[hb];decide⟩
    have f:(!lZ (ts[k].1,ts[k].2))=true:=by rw[show(ts[k].1,ts[k].2)=ts[k] from rfl,hb];rfl
    rw[f] at a;generalize ts[k].1=d0 at c0 a;generalize ts[k].2=d1 at c1 a;clear hb f n i;go_wp2_with fail;refine(a.j _).m ?_;rintro e w3 ⟨rfl,g⟩;have o:=Y (l.j.trans g);clear g c0 c1
    go_wp2
    go_ret;exact⟨(k:Int),rfl,⟨λ_=>u.j,λ_=>Z⟩,o.j⟩
  obtain rfl:k=m:=Z;have h1:¬(k:Int)<(k:Int):=Z
  go_wp2
  go_ret;refine⟨-1,rfl,⟨λh=>Z,λh=>?_⟩,l.j⟩;exfalso;unfold xO at h;rw[Bool.not_eq_true',List.all_eq_false] at h;obtain⟨x,v,hn⟩:=h;obtain⟨j,b,rfl⟩:=List.getElem_of_mem v;exact hn (i.j j b (by have:=p.j;omega))
theorem Vl(hp:tM w pa ts)(m c)(hm:m=ts.length)(b:m<=16):Zk 80 #[.slice pa m c,.func (.func 81) #[] #[]] w λe w'=>Zr e (.bool (xO ts))/\Zq w w':=by
 have g:=Y (ae0 hp m c hm b);clear hp hm b;go_enter func80,ntmps80;go_wp2_with fail;refine g.j.m ?_;rintro e w2 ⟨r,rfl,h1,d⟩;have H1:=Y h1;have f:=Y d;clear h1 d;by_cases hr:0<=r
 ·have a:Hid (xO ts=true):=H1.j.1 hr
  go_wp2
  go_ret;exact⟨by rw[a.j];first|rfl|simp[hr],f.j⟩
 have a:Hid (xO ts=false):=by
  show _=_
  cases hb:xO ts with
  |false=>rfl
  |true=>exact absurd (H1.j.2 hb) hr
 go_wp2
 go_ret;exact⟨by rw[a.j];first|rfl|simp[hr],f.j⟩
theorem adG(f:∀j (h:j<ts.length),w.cell? (E ab (ao+j*2))=some (O ts[j].1)/\w.cell? (E ab (ao+j*2+1))=some (O ts[j].2)):0<ts.length->∃c,(some (E ab ao):Option Addr)=some c/\∀j u,(fl dG ts)[j]?=some u->w.cell? (c.add j)=some u:=λ_=>⟨_,rfl,λj u a=>by
 have k:j<(fl dG ts).length:=by
  apply Classical.byContradiction;intro l;rw[List.getElem?_eq_none Z] at a;cases a
 have m:(fl dG ts).length=ts.length*2:=uv dG ts;have d:j/2<ts.length:=Z;have hg:=Gs dG ts (j/2) (j % 2) d (Nat.mod_lt _ I);have e:j/2*dG.sz+j % 2=j:=by show j/2*2+j % 2=j;omega
 rw[e,a] at hg;obtain⟨g,i⟩:=f (j/2) d;rw[addr_add];rcases(by omega:j % 2=0\/j % 2=1) with hm|hm
 ·rw[hm] at hg;have b:ao+j=ao+j/2*2:=Z;rw[b,g];exact hg.symm
 rw[hm] at hg;have b:ao+j=ao+j/2*2+1:=Z;rw[b,i]
 exact hg.symm⟩
theorem anE(w a n c):(binOp .eql 26 (.slice a n c) (.slice none 0 0)).run prog w=.ok (.bool a.isNone) w:=Lib.run_eql_slice_nil w _ _ a n c 0 0 underlying26
theorem aew{m c:Nat}(l:∀wv,Zq w wv->∀j (h:j<ts.length),wv.cell? (E ab (ao+j*2))=some (O ts[j].1)/\wv.cell? (E ab (ao+j*2+1))=some (O ts[j].2))(hm:m=ts.length)(u:m<=16):Zk 82 #[.slice (some (E ab ao)) m c] w λe w'=>∃v,Zr e v/\ax dG w' w.heap.size 52 v ts/\Zq w w':=by
 have⟨w1,n,b,f⟩:∃w1,w1=w.alloc (.cells #[] 52)/\Zq w w1/\w1.heap[w.heap.size]?=some (.cells #[] 52 (0,0)):=⟨_,rfl,(H.refl _ w).alloc _,heap_alloc_last w _⟩;have⟨A,d⟩:=Ze (w.heap.size);rw[<-d] at f;have o:Hid (ax dG w1 w.heap.size 52 (Zs A 0 0) []):=⟨rfl,Or.inr ⟨A,0,#[],rfl,Z,f,Nat.le_refl _,Nat.zero_le _,rfl,rfl⟩⟩;have p:Hid (([]:Lp).length+ts.length<=10000000):=by show _<=_;simp;omega
 have x:=anE;go_enter func82,ntmps82;go_wp2_with (at_builtin;rw[<-n,<-d];refine UR tuK _ rfl _ _ rfl _ (Zs A 0 0) [] rfl o.j (some (E ab ao)) c m ts rfl (Y hm).j (Y (adG (w:=w1) (ab:=ab) (ao:=ao) (ts:=ts) (λj q=>l w1 b j q))).j p.j (Y b.size).j ?_;intro y z a g r;rw[List.nil_append] at a;obtain⟨B,C,i,_⟩:=a.form;generalize ts.length=mz at i;subst i;have s:=Y a;have t:=Y g;clear a g r);all_goals
  go_ret;refine⟨_,rfl,s.j,(Y b).j.beyond t.j (λk hk=>?_)⟩;have:A=k:=by simpa[Value.ownBlock] using hk
  have:=(Y d).j;omega
def EG(w:Z0)(ts:Lp)(e:Ending)(w':Z0):Prop:=((jN ts=1/\Zr e (.tuple #[.pointer none,.int .i64 1]))\/(jN ts=0/\∃xb,Zr e (.tuple #[M xb,.int .i64 0])/\w.heap.size<=xb/\uU (λk=>k<w.heap.size) w' xb ts 0 (ts.getD 0 (0,0)).2 [] 0))/\Zq w w'
def vE:List Value:=List.replicate 64 (.slice none 0 0)
theorem UI{W:Z0}(h:jN ts=0)(b:Zq w W)(g:W.heap[xb]?=some (.cells (wF vt 0 (ts.getD 0 (0,0)).2 mb vE) 208 (0,0)))(hv:ax dG W w.heap.size 52 vt ts)(hm:W.ownsMap prog 3 RP mb 0 (.map []))(n:w.heap.size<=mb)(l:w.heap.size<=xb):
  EG w ts (.returned (.tuple #[M xb,.int .i64 0])) W:=by
 have hn:1<=ts.length/\ts.length<=16/\ts.all lZ=true:=by
  unfold jN at h;by_cases c:ts.length<1\/16<ts.length\/ts.all lZ=false
  ·rw[if_pos c] at h;cases h
  refine⟨Z,Z,?_⟩;cases hb:ts.all lZ with
  |true=>rfl
  |false=>exact absurd (Or.inr (Or.inr hb)) c
 have d:=List.all_eq_true.1 hn.2.2;have f:0<ts.length:=Z;have m:ts.getD 0 (0,0)∈ts:=by simp[List.getD_eq_getElem?_getD,f]
 have o:=of_decide_eq_true (d _ m);have a:∀j,qv vE j=.slice none 0 0:=λj=>by
  unfold qv vE;rw[List.getD_eq_getElem?_getD,List.getElem?_replicate];split<;>rfl
 refine⟨Or.inr ⟨h,xb,rfl,l,λ_=>0,cU.nil,⟨hn.1,hn.2.1,d,f,Z,Z⟩,mb,.map [],vt,vE,λ_=>[],λj _=>NQ.nil _ _,?_⟩,b⟩;refine⟨g,List.length_replicate,ahZ hv,hm,λk _=>rfl,(λk i z hk=>by cases hk),(λe he=>by cases he),(λe he=>by cases he),λj p=>?_,λi j k _ _ h1 _=>?_,?_,λk hk=>?_,?_,(λe he=>by cases he),λj k _ h1=>?_,λk hk=>Nat.lt_of_lt_of_le hk b.size,Nat.zero_le _,(λe he=>by cases he)⟩
 ·rw[a];exact ax.nil _ _ _ _
 ·rw[a] at h1;cases h1
 ·omega
 ·have:=(iu hv hk).1;omega
 ·omega
 rw[a] at h1;cases h1
theorem acG(w pa len cap)(hlen:len=ts.length)(l:(len:Int)<=9223372036854775807)(hp:tM w pa ts)(h:jN ts=1):Zk 34 #[.slice pa len cap] w (EG w ts):=by
 have d:Hid (∀b,Zq w b->EG w ts (.returned (.tuple #[.pointer none,.int .i64 1])) b):=λb c=>⟨Or.inl ⟨h,rfl⟩,c⟩;by_cases n1:len<1
 ·have i:(len:Int)<1:=Z;go_enter func34,ntmps34;go_wp2_with fail;all_goals
   go_ret2;exact d.j _ (H.refl _ _)
 have i:¬(len:Int)<1:=Z;by_cases n2:16<len
 ·have j:(16:Int)<(len:Int):=Z;go_enter func34,ntmps34;go_wp2_with fail;all_goals
   go_ret2;exact d.j _ (H.refl _ _)
 have j:¬(16:Int)<(len:Int):=Z;have f:xO ts=true:=by
  unfold jN at h;by_cases a:ts.length<1\/16<ts.length\/ts.all lZ=false
  ·rcases a with a|a|a
   ·omega
   ·omega
   unfold xO;rw[a];rfl
  rw[if_neg a] at h;cases h
 have g:=Y (Vl hp len cap hlen Z);rw[f] at g;clear hp h hlen f;go_enter func34,ntmps34;go_wp2_with fail;refine g.j.m ?_;rintro e b ⟨rfl,c⟩;have k:=Y c;clear c;go_wp2_with fail
 all_goals
  go_ret2;exact d.j _ k.j
theorem abc{b:Nat}{u:Z3}(h:w.cell? (E b o)=some u):b<w.heap.size:=by
 apply Classical.byContradiction;intro c;have:w.cell? (E b o)=none:=by
  have a:w.heap[b]?=none:=Array.getElem?_eq_none Z;simp[World.cell?,a]
 rw[this] at h;cases h
theorem acr(w):(zeroValue 208).run prog w=.ok (.agg (.slice none 0 0::.int .i64 0::.int .i64 0::.map none::vE).toArray) w:=Zx
theorem aiU(h:jN ts=0)(k:(ts.getD 0 (0,0)).2=tk)(d:Zq w wv)(hv:ax dG w3 wv.heap.size 52 v ts)(f:Zq wv w3):
  EG w ts (.returned (.tuple #[.pointer (some ⟨w3.heap.size+1,0,none⟩),.int .i64 0])) ((w3.alloc (.map #[] 0)).alloc (.cells (v::.int .i64 0::.int .i64 tk::.map (some w3.heap.size)::vE).toArray 208)):=by
 have s1:=d.size;have s2:=f.size;have e1:(w3.alloc (.map #[] 0)).heap.size=w3.heap.size+1:=by simp
 have i:Zq w3 (w3.alloc (.map #[] 0)):=(H.refl _ w3).alloc _;have⟨W,a⟩:=Ze ((w3.alloc (.map #[] 0)).alloc (.cells (v::.int .i64 0::.int .i64 tk::.map (some w3.heap.size)::vE).toArray 208));have b:Zq (w3.alloc (.map #[] 0)) W:=by rw[a];exact(H.refl _ _).alloc _
 rw[<-a];subst k;refine UI h (((d.trans f).trans i).trans b) (a▸e1▸heap_alloc_last _ _) ?_ (Bw (World.ownsMap_made w3 prog 3 RP) b id) Z Z;have j:=ax.kept hv (i.trans b) (λ_ _ h=>h);refine⟨j.1,?_⟩;rcases j.2 with l|⟨g,c,cur,e,hb,r⟩
 ·exact Or.inl l
 exact Or.inr ⟨g,c,cur,e,Z,r⟩
theorem aiT(h:jN ts=0)(j:(ts.getD 0 (0,0)).2=tk)(f:Zq w wv)(hv:ax dG w3 (wv.alloc (.map #[] 0)).heap.size 52 v ts)(a:Zq (wv.alloc (.map #[] 0)) w3):
  EG w ts (.returned (.tuple #[M w3.heap.size,.int .i64 0])) (w3.alloc (.cells (v::.int .i64 0::.int .i64 tk::.map (some wv.heap.size)::vE).toArray 208)):=by
 have s1:=f.size;have s2:=a.size;have e1:(wv.alloc (.map #[] 0)).heap.size=wv.heap.size+1:=by simp
 have k:Zq wv (wv.alloc (.map #[] 0)):=(H.refl _ wv).alloc _;have⟨W,b⟩:=Ze (w3.alloc (.cells (v::.int .i64 0::.int .i64 tk::.map (some wv.heap.size)::vE).toArray 208));have d:Zq w3 W:=by rw[b];exact(H.refl _ _).alloc _
 rw[<-b];subst j;refine UI h (((f.trans k).trans a).trans d) (b▸heap_alloc_last _ _) ?_ (Bw (Bw (World.ownsMap_made wv prog 3 RP) a id) d id) Z Z;have i:=ax.kept hv d (λ_ _ h=>h);refine⟨i.1,?_⟩;rcases i.2 with l|⟨g,c,cur,e,hb,r⟩
 ·exact Or.inl l
 exact Or.inr ⟨g,c,cur,e,Z,r⟩
theorem acF(w pa len cap)(hlen:len=ts.length)(hp:tM w pa ts)(h:jN ts=0):Zk 34 #[.slice pa len cap] w (EG w ts):=by
 have hn:1<=ts.length/\ts.length<=16/\xO ts=false:=by
  unfold jN at h;by_cases m:ts.length<1\/16<ts.length\/ts.all lZ=false
  ·rw[if_pos m] at h;cases h
  refine⟨Z,Z,?_⟩;unfold xO;cases hb:ts.all lZ with
  |true=>rfl
  |false=>exact absurd (Or.inr (Or.inr hb)) m
 have C:¬(len:Int)<1:=Z;have D:¬(16:Int)<(len:Int):=Z;have n:=Y (Vl hp len cap hlen Z);rw[hn.2.2] at n;obtain⟨ab,ao,rfl,f⟩:=Va hp Z;have s:Hid (∀wv,Zq w wv->Zk 82 #[.slice (some (E ab ao)) len cap] wv λe c=>∃v,Zr e v/\ax dG c wv.heap.size 52 v ts/\Zq wv c):=λwv a=>aew (λt u=>f t (a.trans u)) hlen Z;have g:Hid (∀wv,Zq w wv->wv.cell? (E ab (ao+1))=some (.int .i64 (ts.getD 0 (0,0)).2)):=λwv a=>by
  have o:0<ts.length:=Z;have:=(f wv a 0 o).2;have e:ts.getD 0 (0,0)=ts[0]:=by simp[List.getD_eq_getElem?_getD,o]
  rw[e];simpa using this
 have x:= @run_makeMap prog;have i:=acr;have j:vE.length=64:=rfl;have F:0<=(0:Int)/\(0:Int)<(len:Int):=Z;have G:(0:Int)<(len:Int):=Z;have⟨tk,d⟩:∃tk,(ts.getD 0 (0,0)).2=tk:=⟨_,rfl⟩;rw[d] at g;have y:=Y (λ(wv w3:Z0) (v:Z3)=>aiU (w:=w) (wv:=wv) (w3:=w3) (v:=v) h d);have k:=Y (λ(wv w3:Z0) (v:Z3)=>aiT (w:=w) (wv:=wv) (w3:=w3) (v:=v) h d);clear f hp h hn hlen d;go_enter func34,ntmps34;go_wp2_with fail;refine n.j.m ?_;rintro e c ⟨rfl,a⟩;have b:=Y a;have z:=g.j _ a;have K:ab<c.heap.size:=abc z;clear a;go_wp2_with fail
 go_region_with (go_at_call 82;refine(s.j _ (by first|exact b.j.drew|exact(b.j.drew).alloc _)).m ?_;rintro e w3 ⟨v,rfl,hv,l⟩;have A:=g.j _ (H.trans (by first|exact b.j.drew|exact(b.j.drew).alloc _) l);have B:=abc A;have p:=Y hv;have q:=Y l;obtain⟨N,P,r,_⟩:=hv.form;generalize ts.length=mz at r;subst r;clear hv l)
 all_goals
  clear x i j
  go_wp2
  go_ret2
  first
  |exact y.j (World.drew _) _ _ b.j.drew p.j q.j
  |exact k.j (World.drew _) _ _ b.j.drew p.j q.j
theorem acj(w pa len cap)(hlen:len=ts.length)(e:len<=cap)(c:cap<=maxLen)(hp:tM w pa ts):Zk 34 #[.slice pa len cap] w (EG w ts):=by
 have d:(len:Int)<=9223372036854775807:=by simp[maxLen] at c;omega
 by_cases a:jN ts=0
 ·exact acF w pa len cap hlen hp a
 refine acG w pa len cap hlen d hp ?_;unfold jN at a|-;by_cases b:ts.length<1\/16<ts.length\/ts.all lZ=false
 ·rw[if_pos b]
 rw[if_neg b] at a;exact absurd rfl a
end Go.Proofs.YtdjlkahbpdoemaaGreatDoor

import Derived.Test.YtphkconoooeidaaGreatDoorCp23
import Derived.Test.YtphkconoooeidaaGreatDoorCp24
set_option maxRecDepth 100000
set_option maxHeartbeats 8000000
set_option linter.unusedVariables false
set_option linter.unusedSimpArgs false
open Go Go.Vx Go.Proofs.Tryz Go.ChangeShapes Go.WideShapes Go.ChangeAt Go.RowKit
namespace Go.Proofs.YtphkconoooeidaaGreatDoor
section
variable {kb mb sb pb qb bb tb:Nat} {U V S:Nat->Prop} {w wv w1 w2:World} {K K2:Kn} {F:List (Nat×Obj)}
theorem aE.still (h:aE K):Still K.T:=λt ht=>⟨(h.tr t ht).2.2.2.2.1,(h.tr t ht).2.2.2.2.2.1⟩
theorem aE.abk (h:aE K) {n:Int} (he:aV K.n K.os K.rs (6,n)=0):n∉K.T.map (·.num):=by
 have hp:=h.p.add (6,n);have ho:fX (K.n:Int) K.os K.rs (6,n)=K.os++[(6,n)]:=if_pos ⟨he,show(6:Int)≠1 from Zd⟩;have gZ:=hp.on;rw[ho,List.map_append,List.nodup_append] at gZ;have eH:n∉K.os.map (·.2):=λhn=>gZ.2.2 n hn n (by simp) rfl
 exact λhn=>eH (List.mem_map.2 ⟨_,(h.tn n).1 hn,rfl⟩)
theorem ag8 (h:ax U w kb mb sb pb qb bb tb K) (hw:aE K) (k n size:Int) (hk:aj k) (hn:aj n):
  Zk 44 #[Zp kb,.agg #[Zi k,Zi n,Zi size]] w λe w'=>Zr e (Zi (cj K (k,n,size)).2)/\ax U w' kb mb sb pb qb bb tb (cj K (k,n,size)).1/\Zn U w w':=by
 obtain⟨w1,ag⟩:=Ze (w.alloc (.cells #[Zi k,Zi n,Zi size] 87));obtain⟨ob,az⟩:=Ze (w.heap.size);have H2:Hid (aq U w kb mb sb pb qb bb tb [(ob,.cells #[Zi k,Zi n,Zi size] 87 (0,0))] K w1):=by rw[ag,az];exact(aq.start h).alloc _
 obtain⟨q0,q1,q2⟩:=H2.j.three List.mem_cons_self;have jv:=aa (λw=>ads size w);by_cases h5:k=5/\fB size=false
 ·rw[show cj K (k,n,size)=(K,1) from by unfold cj;rw[if_pos h5]];obtain⟨rfl,ht⟩:=h5;rw[ht] at jv;clear h hw hn hk;go_enter func44,ntmps44;go_upto_region 1 with fail
  rw[<-ag,<-az];clear ag az;go_wp2_with fail;refine(jv.j _).m ?_;rintro e w2 ⟨rfl,h9⟩;have h8:=h9.symm;clear h9;subst h8;go_wp2_with fail
  all_goals
   go_ret;exact⟨rfl,H2.j.fin⟩
 ·have iJ:Hid (∀F wv,aq U w kb mb sb pb qb bb tb F K wv->Zk 99 #[Zp pb,.agg #[Zi k,Zi n]] wv λe w'=>Zr e (Zi (aV K.n K.os K.rs (k,n)))/\Hid (aq U w kb mb sb pb qb bb tb F {K with os:=fX K.n K.os K.rs (k,n),rs:=ij K.n K.os K.rs (k,n)} w')):=λF wv h=>h.call (λV h=>h.add k n hk hn)
  have ar:Hid (∀F K' wv,aq U w kb mb sb pb qb bb tb ((ob,.cells #[Zi k,Zi n,Zi size] 87 (0,0))::F) K' wv->Zc wv kb 2 (Zp pb)/\Zc wv ob 0 (Zi k)/\Zc wv ob 1 (Zi n)/\Zc wv ob 2 (Zi size)):=λF K' wv h=>⟨h.c.2.2.1,h.three List.mem_cons_self⟩
  have vA:=aa (JO (K:=K) (x:=(k,n,size)) h5);have p8:Hid (aV K.n K.os K.rs (k,n)=0->k=6->n∉K.T.map (·.num)):=λh1 h2=>by subst h2;exact hw.abk h1
  have ui:Hid (K.bs.length<1000000/\K.b.ps.length<1000000/\K.T.length<1000/\Still K.T):=⟨by have:=hw.nb;omega,by have:=hw.np;omega,by have:=hw.nt;omega,hw.still⟩
  have dS:Hid (aV K.n K.os K.rs (k,n)≠0->cj K (k,n,size)=(K,aV K.n K.os K.rs (k,n))):=λh0=>by unfold cj;rw[if_neg h5,if_neg h0]
  have Bf:Hid (aV K.n K.os K.rs (k,n)≠0->{K with os:=fX K.n K.os K.rs (k,n),rs:=ij K.n K.os K.rs (k,n)}=K):=λh0=>by
   have e1:fX (K.n:Int) K.os K.rs (k,n)=K.os:=if_neg (λe=>h0 e.1);have e2:ij (K.n:Int) K.os K.rs (k,n)=K.rs:=if_neg (λe=>h0 e.1);rw[e1,e2]
  have HN:=aa hn;obtain⟨KA,LL⟩:=Ze ({K with os:=fX K.n K.os K.rs (k,n),rs:=ij K.n K.os K.rs (k,n)});have sd:Hid (KA.bs.length<1000000/\KA.b.ps.length<1000000/\KA.T.length<1000/\Still KA.T/\KA.T=K.T):=by rw[LL];exact⟨ui.j.1,ui.j.2.1,ui.j.2.2.1,ui.j.2.2.2,rfl⟩
  rw[<-LL] at iJ vA Bf;obtain⟨ea,wM⟩:=Ze (aV K.n K.os K.rs (k,n));dsimp only at vA;rw[<-wM] at iJ vA p8 dS Bf;obtain⟨KE,aS⟩:=Ze (cj K (k,n,size));rw[<-aS] at vA dS|-;have af:=aa (ar.j _ _ _ H2.j.drew);have ak:=af;have eC:=aa (iJ.j _ _ H2.j.drew)
  have lS:((k==5)&& !(fB size))=false:=by
   cases iO:fB size with
   |true=>simp
   |false=>
    have:¬k=5:=λe=>h5 ⟨e,iO⟩
    simp[this]
  have r9:=aa h5;clear h hw hn hk h5 ui LL wM aS iJ;have HZ:Hid (ea≠0->KA=K):=Bf.j;by_cases k5:k=5
  ·have ht:fB size=true:=by
    cases iO:fB size with
    |true=>rfl
    |false=>exact absurd ⟨k5,iO⟩ r9.j
   rw[ht] at jv;subst k5;clear lS r9 ht;go_enter func44,ntmps44;go_upto_region 1 with fail
   rw[<-ag,<-az];clear ag az;go_wp2_with fail;refine(jv.j _).m ?_;rintro e w2 ⟨rfl,h9⟩;have h8:=h9.symm;clear h9;subst h8;go_upto_region 3 with fail
   clear q0 q1 q2;go_region_held3 (λwv=>Zc wv kb 2 (Zp pb)/\Zc wv ob 0 (Zi 5)/\Zc wv ob 1 (Zi n)/\Zc wv ob 2 (Zi size)) (with_reducible (first|exact af.j|exact ak.j)) (first|(go_at_call 99;refine eC.j.m ?_;rintro e w2 ⟨rfl,H3⟩;have ak:=aa (ar.j _ _ _ H3.j)));obtain⟨c2,q0,q1,q2⟩:=ak.j;clear af eC;by_cases e0:ea=0
   ·subst e0;have fL:=aa (H3.j.call (λV h=>Ts h sd.j.1 sd.j.2.1 sd.j.2.2.1 sd.j.2.2.2.1 5 n size HN.j (λh6=>by rw[sd.j.2.2.2.2];first|exact p8.j rfl h6|exact p8.j trivial h6)));go_wp2_with fail;refine fL.j.m ?_;rintro e w3 ⟨rfl,H4⟩;clear fL c2 q0 q1 q2 ak;go_wp2_with fail
    all_goals
     go_ret;have hE:=(by first|exact vA.j rfl|exact vA.j trivial:KE=(if (5:Int)=1 then KA else ly KA (5,n) size,0))
     exact⟨congrArg (λz:Kn×Int=>Ending.returned (Value.int .i64 z.2)) hE.symm,by rw[hE];exact H4.j.fin⟩
   ·have e1:(ea !=0)=true:=by simpa using e0
    have HE:=aa (dS.j e0);have Nh:=aa (HZ.j e0);clear e0;go_wp2_with fail
    all_goals
     go_ret;exact⟨Zz HE.j,by rw[HE.j];have:=H3.j.fin;rw[Nh.j] at this;exact this⟩
  ·have n5:(k==5)=false:=by simpa using k5
   clear lS r9 k5 jv;go_enter func44,ntmps44;go_upto_region 1 with fail
   rw[<-ag,<-az];clear ag az;go_upto_region 3 with fail
   clear q0 q1 q2;go_region_held3 (λwv=>Zc wv kb 2 (Zp pb)/\Zc wv ob 0 (Zi k)/\Zc wv ob 1 (Zi n)/\Zc wv ob 2 (Zi size)) (with_reducible (first|exact af.j|exact ak.j)) (first|(go_at_call 99;refine eC.j.m ?_;rintro e w2 ⟨rfl,H3⟩;have ak:=aa (ar.j _ _ _ H3.j)));obtain⟨c2,q0,q1,q2⟩:=ak.j;clear af eC;by_cases e0:ea=0
   ·subst e0;have fL:=aa (H3.j.call (λV h=>Ts h sd.j.1 sd.j.2.1 sd.j.2.2.1 sd.j.2.2.2.1 k n size HN.j (λh6=>by rw[sd.j.2.2.2.2];first|exact p8.j rfl h6|exact p8.j trivial h6)));go_wp2_with fail;refine fL.j.m ?_;rintro e w3 ⟨rfl,H4⟩;clear fL c2 q0 q1 q2 ak;go_wp2_with fail
    all_goals
     go_ret;have hE:=(by first|exact vA.j rfl|exact vA.j trivial:KE=(if k=1 then KA else ly KA (k,n) size,0))
     exact⟨congrArg (λz:Kn×Int=>Ending.returned (Value.int .i64 z.2)) hE.symm,by rw[hE];exact H4.j.fin⟩
   ·have e1:(ea !=0)=true:=by simpa using e0
    have HE:=aa (dS.j e0);have Nh:=aa (HZ.j e0);clear e0;go_wp2_with fail
    all_goals
     go_ret;exact⟨Zz HE.j,by rw[HE.j];have:=H3.j.fin;rw[Nh.j] at this;exact this⟩
end
section
variable {K:Kn}
theorem aeH {P:Int} {os rs:Lp} (hp:fk P os rs) {n:Int} (h:dk os rs (2,n)=true):0<=n/\n<P:=by
 unfold dk at h;rw[if_neg (show¬((2:Int)=9\/(2:Int)=10) from Zd)] at h;have h1:=of_decide_eq_true h;unfold fE at h1;rcases List.mem_append.1 h1 with h1|h1
 ·have:=hp.ok _ h1;have:=hp.p;simp only at*;omega
 ·obtain⟨r,hr,he⟩:=List.mem_map.1 h1;simp only[Prod.mk.injEq] at he;exact absurd he.1 Zd
theorem TA (hp:fk (K.n:Int) K.os K.rs) {a:Int} {d:List UInt8} (h0:0<=a) (h1:dk K.os K.rs (2,a/4096)=true) (h2:¬4096<a % 4096+(d.length:Int)):oJ K.f K.n a d=(cU K.f a.toNat d,0):=by
 have h3:=aeH hp h1;refine if_pos ?_;unfold eQ;simp only[Bool.and_eq_true,decide_eq_true_eq];omega
theorem Mo {a:Int} {d:List UInt8} (h:a<0):cV K (a,d)=(K,6):=by
 have e:Es K (a,d)=6:=if_pos (Or.inl h);unfold cV;rw[if_neg (by rw[e];decide)]
theorem TD {a:Int} {d:List UInt8} (h:dk K.os K.rs (2,a/4096)=false):cV K (a,d)=(K,6):=by
 have e:Es K (a,d)=6:=if_pos (Or.inr (Or.inl h));unfold cV;rw[if_neg (by rw[e];decide)]
theorem TC {a:Int} {d:List UInt8} (h:4096<a % 4096+(d.length:Int)):cV K (a,d)=(K,6):=by
 have e:Es K (a,d)=6:=if_pos (Or.inr (Or.inr h));unfold cV;rw[if_neg (by rw[e];decide)]
theorem TB (hp:fk (K.n:Int) K.os K.rs) {a:Int} {d:List UInt8} (h0:0<=a) (h1:dk K.os K.rs (2,a/4096)=true) (h2:¬4096<a % 4096+(d.length:Int)):cV K (a,d)=({K with f:=(oJ K.f K.n a d).1},0)/\(oJ K.f K.n a d).2=0:=by
 have e:Es K (a,d)=0:=if_neg (by rw[h1];simp;omega);refine⟨?_,by rw[TA hp h0 h1 h2]⟩;unfold cV;rw[if_pos e,TA hp h0 h1 h2]
theorem Bx {a:Int} (h:0<=a):Int.tdiv a 4096=a/4096:=Int.tdiv_eq_ediv_of_nonneg h
theorem OT {a:Int} (h:0<=a):Int.tmod a 4096=a % 4096:=Int.tmod_eq_emod_of_nonneg h
end
section
variable {kb mb sb pb qb bb tb:Nat} {U V S:Nat->Prop} {w wv w1 w2:World} {K K2:Kn} {F:List (Nat×Obj)}
theorem aq.drewN (h:aq U w kb mb sb pb qb bb tb F K wv) (m:Nat):aq U w kb mb sb pb qb bb tb F K (wv.drewN m):=h.quiet ((ae.refl _ _).drewN m)
theorem agc (h:ax U w kb mb sb pb qb bb tb K) (a:Int) (d:List UInt8) (ha:aj a) (hd:d.length<=140737488355328):
  Zk 46 #[Zp kb,.agg #[Zi a,fG d]] w λe w'=>Zr e (Zi (cV K (a,d)).2)/\ax U w' kb mb sb pb qb bb tb (cV K (a,d)).1/\Zn U w w':=by
 obtain⟨w1,ag⟩:=Ze (w.alloc (.cells #[Zi a,fG d] 89));obtain⟨ob,az⟩:=Ze (w.heap.size);have H2:Hid (aq U w kb mb sb pb qb bb tb [(ob,.cells #[Zi a,fG d] 89 (0,0))] K w1):=by rw[ag,az];exact(aq.start h).alloc _
 have hp:=h.NN;obtain⟨pg,rH⟩:=Ze (Int.tdiv a 4096);obtain⟨of,Aw⟩:=Ze (Int.tmod a 4096)
 have yx:aj pg/\(0<=a->pg=a/4096)/\(0<=a->of=a % 4096):=by
  unfold aj at*;refine⟨?_,λh=>rH.trans (Bx h),λh=>Aw.trans (OT h)⟩;have:=Int.natAbs_tdiv a 4096;have h2:a.natAbs/Int.natAbs 4096<=a.natAbs:=Nat.div_le_self _ _;rw[rH];by_cases h0:0<=a
  ·rw[Bx h0];omega
  ·have e:Int.tdiv a 4096= - Int.tdiv (-a) 4096:=by rw[Int.neg_tdiv];omega
   rw[e,Bx (show 0<= -a from Zo)];omega
 have QW:IntKind.i64.wrap pg=pg:=by rw[IntKind.wrap_i64];have:=yx.1;unfold aj at this;omega
 have rV:=aa yx;have pC:Hid (∀wv,aq U w kb mb sb pb qb bb tb [(ob,.cells #[Zi a,fG d] 89 (0,0))] K wv->Zk 101 #[Zp kb,.agg #[Zi 2,Zi pg]] wv λe w'=>Zr e (.bool (dk K.os K.rs (2,pg)))/\Hid (aq U w kb mb sb pb qb bb tb [(ob,.cells #[Zi a,fG d] 89 (0,0))] K w')):=λwv h=>h.read (λV h=>Gz h 2 pg yx.1)
 have ar:Hid (∀F K' wv,aq U w kb mb sb pb qb bb tb ((ob,.cells #[Zi a,fG d] 89 (0,0))::F) K' wv->Zc wv kb 0 (Zp mb)/\Zc wv ob 0 (Zi a)/\Zc wv ob 1 (.string ⟨d.toArray⟩)):=λF K' wv h=>⟨h.c.1,h.two List.mem_cons_self⟩
 have q0:=(ar.j _ _ _ H2.j).2.1;obtain⟨KE,aS⟩:=Ze (cV K (a,d));rw[<-aS];have gD:=aa aS;have HP:=aa hp;have ae5:=rH.symm;have aea:=Aw.symm;clear h ha yx rH Aw aS hp;by_cases a0:a<0
 ·have HE:=aa (gD.j.trans (Mo a0));go_enter func46,ntmps46;go_upto_region 1 with fail
  rw[<-ag,<-az];clear ag az;go_wp2_with fail;go_quiet (fail);go_wp2_with fail
  all_goals
   go_ret;exact⟨Zz HE.j,by rw[HE.j];exact(H2.j.drewN _).fin⟩
 ·have sr:pg=a/4096:=rV.j.2.1 Zo;have Ax:of=a % 4096:=rV.j.2.2 Zo;have gC:=aa (⟨sr,Ax⟩:_/\_);have aeb:0<=of/\of<4096:=Zo;have rD:=Zh (4096 - of) Zo;have eC:Hid (0<=a):=by show 0<=a;omega
  clear sr Ax aeb hd;obtain⟨B,hB⟩:=Ze (dk K.os K.rs (2,pg));rw[<-hB] at pC;have HB:=aa hB;clear hB;go_enter func46,ntmps46;go_upto_region 1 with fail
  rw[<-ag,<-az];clear ag az;go_wp2_with fail;go_quiet (fail);go_wp2_with fail;refine(pC.j _ (H2.j.drewN _)).m ?_;rintro e w2 ⟨rfl,H3⟩;obtain⟨_,q0,q1⟩:=ar.j _ _ _ H3.j
  cases B with
  |false=>
   have HE:=aa (gD.j.trans (TD (by rw[<-gC.j.1];exact HB.j.symm)));go_wp2_with fail
   all_goals
    go_ret
    exact⟨Zz HE.j,by rw[HE.j];exact H3.j.fin⟩
  |true=>
   by_cases l1:4096 - of<(d.length:Int)
   ·have HE:=aa (gD.j.trans (TC (d:=d) (by rw[<-gC.j.2];omega)));go_wp2_with fail
    all_goals
     go_ret;exact⟨Zz HE.j,by rw[HE.j];exact H3.j.fin⟩
   ·have hg:=TB HP.j (d:=d) eC.j (by rw[<-gC.j.1];exact HB.j.symm) (by rw[<-gC.j.2];omega);have HE:=aa (gD.j.trans hg.1)
    have It:Hid (Zk 102 #[Zp mb,Zi a,.string ⟨d.toArray⟩] w2.drew λe w'=>Zr e (Zi 0)/\Hid (aq U w kb mb sb pb qb bb tb [(ob,.cells #[Zi a,fG d] 89 (0,0))] {K with f:=(oJ K.f K.n a d).1} w')):=by
     have:=H3.j.drew.call (λV h=>h.write a d);rw[hg.2] at this;exact this
    clear hg;have af:=aa (ar.j _ _ _ H3.j.drew);have ak:=af;go_upto_region 4 with fail
    clear q0 q1;go_region_held3 (λwv=>Zc wv kb 0 (Zp mb)/\Zc wv ob 0 (Zi a)/\Zc wv ob 1 (.string ⟨d.toArray⟩)) (with_reducible (first|exact af.j|exact ak.j)) (first|(go_at_call 102;refine It.j.m ?_;rintro e w3 ⟨rfl,H4⟩;have ak:=aa (ar.j _ _ _ H4.j)));go_wp2_with fail
    all_goals
     go_ret;exact⟨Zz HE.j,by rw[HE.j];exact H4.j.fin⟩
end
section
variable {kb mb sb pb qb bb tb:Nat} {U V S:Nat->Prop} {w wv w1 w2:World} {K K2:Kn} {F:List (Nat×Obj)}
theorem afe {x:En} (h:dk K.os K.rs (x.cap.kind,x.cap.num)=false):bY K x=(K,6):=by
 have e:jK K x=6:=if_pos h;unfold bY;rw[if_neg (by rw[e];decide),e]
theorem afd {x:En} (h:dk K.os K.rs (x.cap.kind,x.cap.num)=true) (h2:kQ x.cap=false):bY K x=(K,4):=by
 have e:jK K x=4:=by
  unfold jK;rw[if_neg (by rw[h];decide),if_pos h2]
 unfold bY;rw[if_neg (by rw[e];decide),e]
theorem aff {x:En} (h:dk K.os K.rs (x.cap.kind,x.cap.num)=true) (h2:kQ x.cap=true) (h3:(aH K.bs K.es x.aW).2=0/\mI x.cap (aH K.bs K.es x.aW).1=false):bY K x=(K,4):=by
 have e:jK K x=4:=by
  unfold jK;rw[if_neg (by rw[h];decide),if_neg (by rw[h2];decide),if_pos h3]
 unfold bY;rw[if_neg (by rw[e];decide),e]
theorem afc {x:En} (h:dk K.os K.rs (x.cap.kind,x.cap.num)=true) (h2:kQ x.cap=true) (h3:¬((aH K.bs K.es x.aW).2=0/\mI x.cap (aH K.bs K.es x.aW).1=false)):bY K x=({K with es:=db K.bs K.es x.at' x.cap x.aW},cK K.bs K.es x.at' x.cap x.aW):=by
 have e:jK K x=cK K.bs K.es x.at' x.cap x.aW:=by
  unfold jK;rw[if_neg (by rw[h];decide),if_neg (by rw[h2];decide),if_neg h3]
 unfold bY;by_cases h0:cK K.bs K.es x.at' x.cap x.aW=0
 ·rw[if_pos (by rw[e];exact h0),h0]
 ·rw[if_neg (by rw[e];exact h0),e,show db K.bs K.es x.at' x.cap x.aW=K.es from if_neg h0]
theorem agb (h:ax U w kb mb sb pb qb bb tb K) (hw:aE K) (x:En) (hg:kE x.cap) (hn:aj x.cap.num) (ha:aj x.at'.1) (hf:aj x.aW.1):
  Zk 48 #[Zp kb,.agg (vk x).toArray] w λe w'=>Zr e (Zi (bY K x).2)/\ax U w' kb mb sb pb qb bb tb (bY K x).1/\Zn U w w':=by
 obtain⟨KE,aS⟩:=Ze (bY K x);rw[<-aS];have IK:Hid (dk K.os K.rs (x.cap.kind,x.cap.num)=false->KE=(K,6)):=λh=>aS.trans (afe h)
 have xt:Hid (dk K.os K.rs (x.cap.kind,x.cap.num)=true->kQ x.cap=false->KE=(K,4)):=λh h2=>aS.trans (afd h h2)
 have uf:Hid (dk K.os K.rs (x.cap.kind,x.cap.num)=true->kQ x.cap=true->((aH K.bs K.es x.aW).2=0/\mI x.cap (aH K.bs K.es x.aW).1=false)->KE=(K,4)):=λh h2 h3=>aS.trans (aff h h2 h3)
 have rU:Hid (dk K.os K.rs (x.cap.kind,x.cap.num)=true->kQ x.cap=true->¬((aH K.bs K.es x.aW).2=0/\mI x.cap (aH K.bs K.es x.aW).1=false)->KE=({K with es:=db K.bs K.es x.at' x.cap x.aW},cK K.bs K.es x.at' x.cap x.aW)):=λh h2 h3=>aS.trans (afc h h2 h3)
 have mN:=aa (λw=>adq x.cap hg w);have pC:Hid (∀F wv,aq U w kb mb sb pb qb bb tb F K wv->Zk 101 #[Zp kb,.agg #[Zi x.cap.kind,Zi x.cap.num]] wv λe w'=>Zr e (.bool (dk K.os K.rs (x.cap.kind,x.cap.num)))/\Hid (aq U w kb mb sb pb qb bb tb F K w')):=λF wv h=>h.read (λV h=>Gz h _ _ hn)
 have fS:Hid (∀F wv,aq U w kb mb sb pb qb bb tb F K wv->Zk 104 #[Zp sb,.agg #[Zi x.aW.1,Zi x.aW.2]] wv λe w'=>Zr e (.tuple #[bO (aH K.bs K.es x.aW).1,Zi (aH K.bs K.es x.aW).2])/\Hid (aq U w kb mb sb pb qb bb tb F K w')):=λF wv h=>h.read (λV h=>h.get x.aW hf)
 have lC:Hid (∀F wv,aq U w kb mb sb pb qb bb tb F K wv->Zk 106 #[Zp sb,.agg #[Zi x.at'.1,Zi x.at'.2],bO x.cap,.agg #[Zi x.aW.1,Zi x.aW.2]] wv λe w'=>Zr e (Zi (cK K.bs K.es x.at' x.cap x.aW))/\Hid (aq U w kb mb sb pb qb bb tb F {K with es:=db K.bs K.es x.at' x.cap x.aW} w')):=λF wv h=>h.call (λV h=>h.put _ _ _ ha hf hn hg (by have:=hw.ne;omega))
 have vB:Hid (kQ x.cap=true->(aH K.bs K.es x.aW).2=0->∀w,Zk 105 #[bO x.cap,bO (aH K.bs K.es x.aW).1] w λe w'=>Zr e (.bool (mI x.cap (aH K.bs K.es x.aW).1))/\Zq w w'):=λh1 h2 w=>aby _ _ ⟨(CJ h1).1,(CJ h1).2.1⟩ (by
  obtain⟨i,_,hi,_,hc⟩:=B9 h2;rw[hc];have:=hw.rt _ (List.getElem_mem hi)
  exact⟨this.1,this.2.1⟩) w
 obtain⟨⟨a1,a2⟩,⟨k,n,ri,bd,gu,gb,ro,va⟩,⟨f1,f2⟩⟩:=x;dsimp only[vk,bO] at*;show Zk 48 #[Zp kb,.agg #[Zi a1,Zi a2,Zi k,Zi n,Zi ri,Zu bd,Zu gu,Zi gb,Zi ro,Zu va,Zi f1,Zi f2]] w _;obtain⟨C,hC⟩:∃C:Cp,C=⟨k,n,ri,bd,gu,gb,ro,va⟩:=⟨_,rfl⟩
 have HC:=aa hC;rw[<-hC] at xt uf rU mN vB lC;obtain⟨u,hu⟩:=Ze ((aH K.bs K.es (f1,f2)).1);obtain⟨eg,gk⟩:=Ze ((aH K.bs K.es (f1,f2)).2);rw[<-hu,<-gk] at fS uf rU vB;obtain⟨B1,tN⟩:=Ze (dk K.os K.rs (k,n));obtain⟨B2,lp⟩:=Ze (kQ C);rw[<-tN] at IK xt uf rU pC;rw[<-lp] at xt uf rU mN vB;obtain⟨KP,Sz⟩:=Ze ({K with es:=db K.bs K.es (a1,a2) C (f1,f2)});obtain⟨ep,R9⟩:=Ze (cK K.bs K.es (a1,a2) C (f1,f2));rw[<-Sz,<-R9] at rU lC;obtain⟨w1,ag⟩:=Ze (w.alloc (.cells #[Zi a1,Zi a2,Zi k,Zi n,Zi ri,Zu bd,Zu gu,Zi gb,Zi ro,Zu va,Zi f1,Zi f2] 99));obtain⟨ob,az⟩:=Ze (w.heap.size);obtain⟨F,hF⟩:∃F:List (Nat×Obj),F=[(ob,.cells #[Zi a1,Zi a2,Zi k,Zi n,Zi ri,Zu bd,Zu gu,Zi gb,Zi ro,Zu va,Zi f1,Zi f2] 99 (0,0))]:=⟨_,rfl⟩
 have H1:Hid (aq U w kb mb sb pb qb bb tb F K w1):=by rw[ag,hF,az];exact(aq.start h).alloc _
 have HM:Hid ((ob,.cells #[Zi a1,Zi a2,Zi k,Zi n,Zi ri,Zu bd,Zu gu,Zi gb,Zi ro,Zu va,Zi f1,Zi f2] 99 (0,0))∈F):=by rw[hF];exact List.mem_cons_self
 have ar:Hid (∀G K' wv,aq U w kb mb sb pb qb bb tb (G++F) K' wv->Zc wv kb 1 (Zp sb)/\Zc wv ob 0 (Zi a1)/\Zc wv ob 1 (Zi a2)/\Zc wv ob 2 (Zi k)/\Zc wv ob 3 (Zi n)/\Zc wv ob 4 (Zi ri)/\Zc wv ob 5 (Zu bd)/\Zc wv ob 6 (Zu gu)/\Zc wv ob 7 (Zi gb)/\Zc wv ob 8 (Zi ro)/\Zc wv ob 9 (Zu va)/\Zc wv ob 10 (Zi f1)/\Zc wv ob 11 (Zi f2)):=λG K' wv h=>⟨h.c.2.1,(cell_of_row _ _ 0 _ _ (0,0) (h.at (List.mem_append_right _ HM.j))).trans rfl,(cell_of_row _ _ 1 _ _ (0,0) (h.at (List.mem_append_right _ HM.j))).trans rfl,(cell_of_row _ _ 2 _ _ (0,0) (h.at (List.mem_append_right _ HM.j))).trans rfl,(cell_of_row _ _ 3 _ _ (0,0) (h.at (List.mem_append_right _ HM.j))).trans rfl,(cell_of_row _ _ 4 _ _ (0,0) (h.at (List.mem_append_right _ HM.j))).trans rfl,(cell_of_row _ _ 5 _ _ (0,0) (h.at (List.mem_append_right _ HM.j))).trans rfl,(cell_of_row _ _ 6 _ _ (0,0) (h.at (List.mem_append_right _ HM.j))).trans rfl,(cell_of_row _ _ 7 _ _ (0,0) (h.at (List.mem_append_right _ HM.j))).trans rfl,(cell_of_row _ _ 8 _ _ (0,0) (h.at (List.mem_append_right _ HM.j))).trans rfl,(cell_of_row _ _ 9 _ _ (0,0) (h.at (List.mem_append_right _ HM.j))).trans rfl,(cell_of_row _ _ 10 _ _ (0,0) (h.at (List.mem_append_right _ HM.j))).trans rfl,(cell_of_row _ _ 11 _ _ (0,0) (h.at (List.mem_append_right _ HM.j))).trans rfl⟩
 have aK:Hid (∀G wv,aq U w kb mb sb pb qb bb tb (G++F) K wv->Zc wv kb 1 (Zp sb)/\Zc wv ob 10 (Zi f1)/\Zc wv ob 11 (Zi f2)):=λG wv h=>⟨h.c.2.1,(cell_of_row _ _ 10 _ _ (0,0) (h.at (List.mem_append_right _ HM.j))).trans rfl,(cell_of_row _ _ 11 _ _ (0,0) (h.at (List.mem_append_right _ HM.j))).trans rfl⟩
 obtain⟨_,q0,q1,q2,q3,q4,q5,q6,q7,q8,q9,Bz,By⟩:=ar.j [] _ _ H1.j;clear h hw hg hn ha hf aS hC hu gk tN lp Sz R9 hF;go_enter func48,ntmps48;go_upto_region 1 with fail
 rw[<-ag,<-az];clear ag az;go_wp2_with fail;refine(pC.j _ _ H1.j).m ?_;rintro e w3 ⟨rfl,H2⟩;clear q0 q1 q2 q3 q4 q5 q6 q7 q8 q9 Bz By H1;obtain⟨_,q0,q1,q2,q3,q4,q5,q6,q7,q8,q9,Bz,By⟩:=ar.j [] _ _ H2.j
 cases B1 with
 |false=>
  have HE:=aa (by first|exact IK.j rfl|exact IK.j trivial:KE=(K,6));go_wp2_with fail
  all_goals
   go_ret
   exact⟨Zz HE.j,by rw[HE.j];exact H2.j.fin⟩
 |true=>
  replace xt:Hid (B2=false->KE=(K,4)):=by first|exact xt.j rfl|exact xt.j trivial
  replace uf:Hid (B2=true->(eg=0/\mI C u=false)->KE=(K,4)):=by first|exact uf.j rfl|exact uf.j trivial
  replace rU:Hid (B2=true->¬(eg=0/\mI C u=false)->KE=(KP,ep)):=by first|exact rU.j rfl|exact rU.j trivial
  clear IK pC;have Ba:=mN;go_wp2_with fail;refine(Ba.j _).m ?_;rintro e w2 ⟨rfl,ho⟩;have UR:=aa (H2.j.quiet ho);clear ho H2 Ba mN q0 q1 q2 q3 q4 q5 q6 q7 q8 q9 Bz By;have H2:=UR;clear UR
  cases B2 with
  |false=>
   have HE:=aa (by first|exact xt.j rfl|exact xt.j trivial:KE=(K,4));go_wp2_with fail
   all_goals
    go_ret
    exact⟨Zz HE.j,by rw[HE.j];exact H2.j.fin⟩
  |true=>
   replace uf:Hid ((eg=0/\mI C u=false)->KE=(K,4)):=by first|exact uf.j rfl|exact uf.j trivial
   replace rU:Hid (¬(eg=0/\mI C u=false)->KE=(KP,ep)):=by first|exact rU.j rfl|exact rU.j trivial
   replace vB:Hid (eg=0->∀w,Zk 105 #[.agg #[Zi k,Zi n,Zi ri,Zu bd,Zu gu,Zi gb,Zi ro,Zu va],.agg #[Zi u.kind,Zi u.num,Zi u.rights,Zu u.cQ,Zu u.guard,Zi u.bS,Zi u.root,Zu u.va]] w λe w'=>Zr e (.bool (mI C u))/\Zq w w'):=by first|exact vB.j rfl|exact vB.j trivial
   clear xt;go_upto_region 5 with fail
   go_cut [5,6] from 17 to 26 (λc7 c8 wx=>∃ub,c7=Zp ub/\c8=Zi eg/\Hid (aq U w kb mb sb pb qb bb tb ((ub,.cells (de u).toArray 97 (0,0))::F) K wx)/\Hid (¬U ub/\∀p∈F,p.1≠ub))
   case first=>
    have cN:=aa H2.j.drew;have af:=aa (aK.j [] _ cN.j);obtain⟨wA,cJ⟩:=Ze ((w2.alloc (.cells #[Zi 0,Zi 0,Zi 0,Zu 0,Zu 0,Zi 0,Zi 0,Zu 0] 97)).drew);obtain⟨ub,bh⟩:=Ze (w2.heap.size);have gU:Hid (aq U w kb mb sb pb qb bb tb ((ub,.cells qY.toArray 97 (0,0))::F) K wA):=by rw[cJ,bh];exact(H2.j.alloc _).drew
    have eT:=aa (aK.j [_] _ gU.j);have bG:Hid (¬U ub/\∀p∈F,p.1≠ub):=⟨λhu=>by have:=H2.j.low ub hu;omega,λp hp he=>by have:=au (H2.j.f p hp);omega⟩
    refine qg (S:=(λwv=>wv.cell? ⟨kb,1,none⟩=some (Zp sb)/\wv.cell? ⟨ob,10,none⟩=some (Zi f1)/\wv.cell? ⟨ob,11,none⟩=some (Zi f2))) Zx ?_;simp only[List.size_toArray,List.length_cons,List.length_nil,Nat.zero_add,Nat.reduceAdd];refine Zt 0 af.j ?_;refine Zt 1 af.j ?_;refine Zt 2 af.j ?_;refine Zt 3 af.j ?_;refine Zt 4 af.j ?_;refine Zt 5 af.j ?_;refine wpAnyH_ready (rs:=[6,10]) Zx (by simp) ?_;refine(AllReadyH.cons Zg (λK hK=>?_) (AllReadyH.cons Zg (λK hK=>?_) AllReadyH.nil))
    ·as_aux_lemma=>
      refine jy rfl 104 #[Operand.tmp 21,Operand.tmp 23] #[151,95] rfl #[Zp sb,.agg #[Zi f1,Zi f2]] (by first|rfl|simp[Act.eval,go_sem]) (by simp[go_sem]) (fS.j _ _ cN.j) ?_;rintro e w3 ⟨rfl,H3⟩;have aw:=aa (aK.j [] _ H3.j);clear bh cJ gU eT bG;obtain⟨ub,bh⟩:=Ze (w3.heap.size);obtain⟨wB,fU⟩:=Ze (w3.alloc (.cells #[Zi 0,Zi 0,Zi 0,Zu 0,Zu 0,Zi 0,Zi 0,Zu 0] 97));have fp:=aa (H3.j.alloc (.cells #[Zi 0,Zi 0,Zi 0,Zu 0,Zu 0,Zi 0,Zi 0,Zu 0] 97 (0,0)));rw[<-fU,<-bh] at fp;have mQ:=aa (aK.j [_] _ fp.j);have bG:Hid (¬U ub/\∀p∈F,p.1≠ub):=⟨λhu=>by have:=H3.j.low ub hu;omega,λp hp he=>by have:=au (H3.j.f p hp);omega⟩
      have bJ:=aa (aq.Bq fp.j u bG.j.1 bG.j.2);have dw:=aa (aK.j [_] _ bJ.j);have gq:=aa (fp.j.at List.mem_cons_self);refine⟨_,rfl,?_⟩;refine Zb hK aw.j ?_;refine Zt 7 aw.j ?_;refine Zt 8 aw.j ?_;refine Zt 9 aw.j ?_;refine Zy 10 (λK hK=>?_);go_simp;rw[<-fU,<-bh];clear fU bh;refine Zb hK mQ.j ?_;refine Zy 11 (λK hK=>?_);refine qk (.tmp 5) (.tmp 25) rfl rfl (u:=u) (ub:=ub) (by simp[Act.eval]) (by simp[Act.eval,bO,de]) gq.j ?_;refine Zb hK dw.j ?_;refine Zt 12 dw.j ?_;refine wpAnyH_done Zx ?_ _;go_wp2_with fail;go_meet;exact⟨_,rfl,rfl,bJ.j,bG.j⟩
    ·as_aux_lemma=>
      go_simp;rw[<-cJ,<-bh];clear cJ bh;refine Zb hK eT.j ?_;refine Zy 6 (λK hK=>?_);refine jy rfl 104 #[Operand.tmp 21,Operand.tmp 23] #[151,95] rfl #[Zp sb,.agg #[Zi f1,Zi f2]] (by first|rfl|simp[Act.eval,go_sem]) (by simp[go_sem]) (fS.j _ _ gU.j) ?_;rintro e w3 ⟨rfl,H3⟩;have aw:=aa (aK.j [_] _ H3.j);have bJ:=aa (aq.Bq H3.j u bG.j.1 bG.j.2);have dw:=aa (aK.j [_] _ bJ.j);have gq:=aa (H3.j.at List.mem_cons_self);refine⟨_,rfl,?_⟩;refine Zb hK aw.j ?_;refine Zt 7 aw.j ?_;refine Zt 8 aw.j ?_;refine Zt 9 aw.j ?_;refine Zy 11 (λK hK=>?_);refine qk (.tmp 5) (.tmp 25) rfl rfl (u:=u) (ub:=ub) (by simp[Act.eval]) (by simp[Act.eval,bO,de]) gq.j ?_;refine Zb hK dw.j ?_;refine Zt 12 dw.j ?_;refine wpAnyH_done Zx ?_ _;go_wp2_with fail;go_meet;exact⟨_,rfl,rfl,bJ.j,bG.j⟩
   case rest=>
    obtain⟨ub,rfl,rfl,H4,ua⟩:=hcut;obtain⟨⟨d0,d1,d2,d3,d4,d5,d6,d7⟩,_⟩:=eL (show wc.heap[ub]?=some (.cells #[Zi u.kind,Zi u.num,Zi u.rights,Zu u.cQ,Zu u.guard,Zi u.bS,Zi u.root,Zu u.va] 97 (0,0)) from H4.j.at List.mem_cons_self);obtain⟨_,q0,q1,q2,q3,q4,q5,q6,q7,q8,q9,Bz,By⟩:=ar.j [_] _ _ H4.j;clear H2 fS aK;by_cases g0:eg=0
    ·subst g0;obtain⟨B3,qK⟩:=Ze (mI C u);have zy:Hid (∀w,Zk 105 #[.agg #[Zi k,Zi n,Zi ri,Zu bd,Zu gu,Zi gb,Zi ro,Zu va],.agg #[Zi u.kind,Zi u.num,Zi u.rights,Zu u.cQ,Zu u.guard,Zi u.bS,Zi u.root,Zu u.va]] w λe w'=>Zr e (.bool B3)/\Zq w w'):=by rw[qK];first|exact vB.j rfl|exact vB.j trivial
     have bJ:=aa qK;clear qK vB;generalize u.kind=v0 at*;generalize u.num=v1 at*;generalize u.rights=v2 at*;generalize u.cQ=v3 at*;generalize u.guard=v4 at*;generalize u.bS=v5 at*;generalize u.root=v6 at*;generalize u.va=v7 at*;go_wp2_with fail;refine(zy.j _).m ?_;rintro e w4 ⟨rfl,bL⟩;have H5:=aa (H4.j.quiet bL);clear bL zy d0 d1 d2 d3 d4 d5 d6 d7 q0 q1 q2 q3 q4 q5 q6 q7 q8 q9 Bz By
     cases B3 with
     |false=>
      have HE:=aa (uf.j ⟨by first|rfl|trivial,bJ.j.symm⟩);go_wp2_with fail
      all_goals
       go_ret
       exact⟨Zz HE.j,by rw[HE.j];exact H5.j.fin⟩
     |true=>
      have HE:=aa (rU.j (λh=>by rw[<-bJ.j] at h;cases h.2));have M9:=aa (lC.j _ _ H5.j.drew);have af:=aa (ar.j [_] _ _ H5.j.drew);have ak:=af;go_upto_region 8 with fail
      go_region_held3 (λwv=>Zc wv kb 1 (Zp sb)/\Zc wv ob 0 (Zi a1)/\Zc wv ob 1 (Zi a2)/\Zc wv ob 2 (Zi k)/\Zc wv ob 3 (Zi n)/\Zc wv ob 4 (Zi ri)/\Zc wv ob 5 (Zu bd)/\Zc wv ob 6 (Zu gu)/\Zc wv ob 7 (Zi gb)/\Zc wv ob 8 (Zi ro)/\Zc wv ob 9 (Zu va)/\Zc wv ob 10 (Zi f1)/\Zc wv ob 11 (Zi f2)) (with_reducible (first|exact af.j|exact ak.j)) (first|(go_at_call 106;refine M9.j.m ?_;rintro e w5 ⟨rfl,H6⟩;have ak:=aa (ar.j [_] _ _ H6.j)));go_wp2_with fail
      all_goals
       go_ret;exact⟨Zz HE.j,by rw[HE.j];exact H6.j.fin⟩
    ·have g1:(eg==0)=false:=by simpa using g0
     have HE:=aa (rU.j (λh=>g0 h.1));have H5:=H4;clear g0 vB d0 d1 d2 d3 d4 d5 d6 d7 q0 q1 q2 q3 q4 q5 q6 q7 q8 q9 Bz By;have M9:=aa (lC.j _ _ H5.j.drew);have af:=aa (ar.j [_] _ _ H5.j.drew);have ak:=af;go_upto_region 8 with fail
     go_region_held3 (λwv=>Zc wv kb 1 (Zp sb)/\Zc wv ob 0 (Zi a1)/\Zc wv ob 1 (Zi a2)/\Zc wv ob 2 (Zi k)/\Zc wv ob 3 (Zi n)/\Zc wv ob 4 (Zi ri)/\Zc wv ob 5 (Zu bd)/\Zc wv ob 6 (Zu gu)/\Zc wv ob 7 (Zi gb)/\Zc wv ob 8 (Zi ro)/\Zc wv ob 9 (Zu va)/\Zc wv ob 10 (Zi f1)/\Zc wv ob 11 (Zi f2)) (with_reducible (first|exact af.j|exact ak.j)) (first|(go_at_call 106;refine M9.j.m ?_;rintro e w5 ⟨rfl,H6⟩;have ak:=aa (ar.j [_] _ _ H6.j)));go_wp2_with fail
     all_goals
      go_ret;exact⟨Zz HE.j,by rw[HE.j];exact H6.j.fin⟩
end
section
variable {kb mb sb pb qb bb tb:Nat} {U V S:Nat->Prop} {w wv w1 w2:World} {K K2:Kn} {F:List (Nat×Obj)}
theorem get_mem {bs:Lp} {es:List En} (hf:Wf bs es) (hx:Wx bs es) {e:En} (he:e∈es):aH bs es e.at'=(e.cap,0):=by
 obtain⟨b,hb,h1,h2,h3⟩:=hx.ix e he;have hs:=(zV hx.nd hb).1;rw[h1] at hs
 have aem:∃i,cy bs es e.at'=.ok i:=by
  rw[Ma hs h2 h3]
  cases hE:kq es e.at' with
  |none=>have:=mu hE e he;simp at this
  |some i=>exact⟨i,rfl⟩
 obtain⟨i,hi⟩:=aem;obtain⟨hl,hE⟩:=El hi;unfold aH;rw[hi];dsimp only;rw[sD es i hl,hf.once _ (List.getElem_mem hl) e he hE]
theorem SX {bs:Lp} {es:List En} {s:Sl} (h:(aH bs es s).2=0):∃e∈es,e.at'=s/\e.cap=(aH bs es s).1:=by
 obtain⟨i,_,hi,h1,h2⟩:=B9 h;exact⟨es[i],List.getElem_mem hi,h1,h2.symm⟩
theorem abJ {bs:Lp} {es:List En} {s:Sl} (h:(aH bs es s).2=0) (h0:0<(aH bs es s).1.root):qy es s (aH bs es s).1=true:=by
 obtain⟨e,he,h1,h2⟩:=SX h;unfold qy;rw[List.any_eq_true];exact⟨e,he,by rw[h2,decide_eq_true h0,decide_eq_true h1];rfl⟩
theorem abL {bs:Lp} {es:List En} (hf:Wf bs es) (hx:Wx bs es) {s:Sl} (h:(aH bs es s).2=0) (h0:¬0<(aH bs es s).1.root) (h3:(aH bs es s).1.kind≠3):qy es s (aH bs es s).1=false:=by
 unfold qy;rw[List.any_eq_false];intro x oQ h9;rw[decide_eq_false h3,Bool.false_and,Bool.or_false,Bool.and_eq_true,decide_eq_true_eq,decide_eq_true_eq] at h9;have:=get_mem hf hx oQ;rw[h9.2] at this;rw[this] at h0;exact h0 h9.1
theorem abH {bs:Lp} {es:List En} (hf:Wf bs es) (hx:Wx bs es) {s:Sl} (h:(aH bs es s).2=0) (h0:¬0<(aH bs es s).1.root) (h3:(aH bs es s).1.kind=3):qy es s (aH bs es s).1=(gd es ((aH bs es s).1.kind,(aH bs es s).1.num)).any λa=>decide (0<(aH bs es a).1.root):=by
 rw[Bool.eq_iff_iff,List.any_eq_true];unfold qy gd;rw[List.any_eq_true];constructor
 ·rintro⟨x,hm,h9⟩;rw[Bool.and_eq_true,Bool.or_eq_true,decide_eq_true_eq,decide_eq_true_eq,decide_eq_true h3,Bool.true_and,decide_eq_true_eq] at h9;have hg:=get_mem hf hx hm;rcases h9.2 with h8|h8
  ·rw[h8] at hg;rw[hg] at h0;exact absurd h9.1 h0
  ·exact⟨x.at',List.mem_map.2 ⟨x,List.mem_filter.2 ⟨hm,decide_eq_true h8⟩,rfl⟩,by rw[hg];exact decide_eq_true h9.1⟩
 ·rintro⟨a,ha,h9⟩;obtain⟨x,hm,rfl⟩:=List.mem_map.1 ha;obtain⟨hm,h8⟩:=List.mem_filter.1 hm;rw[get_mem hf hx hm] at h9;exact⟨x,hm,by rw[h9,decide_eq_true h3,decide_eq_true (of_decide_eq_true h8)];simp⟩
theorem ae8 {bs:Lp} {es:List En} (hf:Wf bs es) (hx:Wx bs es) {o a:Sl} (h:a∈gd es o):(aH bs es a).2=0/\aj a.1:=by
 obtain⟨x,hm,rfl⟩:=List.mem_map.1 h;have hm:=(List.mem_filter.1 hm).1;obtain⟨b,hb,h1,_⟩:=hx.ix x hm;exact⟨by rw[get_mem hf hx hm],by rw[<-h1];exact hx.ib b hb⟩
theorem afx (va:Nat) (hv:va<4294967296):IntKind.u32.wrap ((va:Int) - ((va % 4194304:Nat):Int))=((va/4194304*4194304:Nat):Int):=by
 rw[IntKind.wrap_u32];omega
theorem W0 (va:Nat) (hv:va<4294967296) (w:World):Zk 168 #[Zu (va:Int)] w λe w'=>Zr e (Zu ((va/4194304*4194304:Nat):Int))/\w'=w:=by
 have h1:Int.tmod (va:Int) 4194304=((va % 4194304:Nat):Int):=by rw[Int.tmod_eq_emod_of_nonneg Zo];omega
 have h2:=afx va hv;generalize ((va/4194304*4194304:Nat):Int)=r at*;generalize ((va % 4194304:Nat):Int)=m at*;generalize (va:Int)=v at*;clear hv;go_enter func168,ntmps168;go_wp2_with fail
 all_goals
  go_ret;exact⟨rfl,rfl⟩
theorem aq.hold (h:aq U w kb mb sb pb qb bb tb F K wv) (o:Sl):Zk 201 #[Zp sb,.agg #[Zi o.1,Zi o.2]] wv λe w'=>∃v F1,Zr e v/\Hid (aq U w kb mb sb pb qb bb tb F1 K w'/\ai aJ w' wv.heap.size 95 v (gd K.es o)/\(∀q∈F,q∈F1)/\∀g,v.ownBlock=some g->∃ob,(g,ob)∈F1):=by
 have h0:=h;obtain⟨⟨V,h1,h2,h3⟩,h4,h5⟩:=h;refine(h3.ae7 o).m ?_;rintro e w' ⟨v,rfl,h6,h7⟩
 cases hv:v.ownBlock with
 |none=>exact⟨v,F,rfl,h0.quiet h7,h6,λq hq=>hq,λg hg=>by rw[hv] at hg;cases hg⟩
 |some g=>
  have hg:=cH h6 hv;exact⟨v,(g,w'.heap[g]'hg.2)::F,rfl,h0.more h7 (Array.getElem?_eq_getElem hg.2) hg.1,h6,λq hq=>List.mem_cons_of_mem _ hq,λg2 lP=>by rw[hv] at lP;injection lP with lP;subst lP;exact⟨_,List.mem_cons_self⟩⟩
theorem aq.Ji (h:aq U w kb mb sb pb qb bb tb F K wv) (h2:aq U w kb mb sb pb qb bb tb F K2 w2) {g:Nat} {o:Obj} (hm:(g,o)∈F) (j:Nat):w2.cell? ⟨g,j,none⟩=wv.cell? ⟨g,j,none⟩:=by
 have e:w2.heap[g]?=wv.heap[g]?:=(h2.at hm).trans (h.at hm).symm;unfold World.cell?;rw[e]
theorem abN (h:ax U w kb mb sb pb qb bb tb K) (hw:aE K) (o1 o2 root:Int) (va:Nat) (jC:va<4294967296):
  Zk 169 #[Zp kb,.agg #[Zi o1,Zi o2],Zi root,Zu (va:Int)] w λe w'=>∃K2 ev,Zr e (Zi ev)/\ax U w' kb mb sb pb qb bb tb K2/\Zn U w w'/\(K2,ev)=(if ((gd K.es (o1,o2)).any λa=>decide (0<(aH K.bs K.es a).1.root))=true then (K,16) else ({K with f:=(iK K.f K.n root va o2).1},((iK K.f K.n root va o2).2:Int))):=by
 obtain⟨w1,ag⟩:=Ze (w.alloc (.cells #[Zi o1,Zi o2] 85));obtain⟨ob,az⟩:=Ze (w.heap.size);obtain⟨F,hF⟩:∃F:List (Nat×Obj),F=[(ob,.cells #[Zi o1,Zi o2] 85 (0,0))]:=⟨_,rfl⟩
 have H1:Hid (aq U w kb mb sb pb qb bb tb F K w1):=by rw[ag,hF,az];exact(aq.start h).alloc _
 have HM:Hid ((ob,.cells #[Zi o1,Zi o2] 85 (0,0))∈F):=by rw[hF];exact List.mem_cons_self
 have ar:Hid (∀G K' wv,aq U w kb mb sb pb qb bb tb (G++F) K' wv->Zc wv kb 0 (Zp mb)/\Zc wv kb 1 (Zp sb)/\Zc wv ob 0 (Zi o1)/\Zc wv ob 1 (Zi o2)):=λG K' wv h=>⟨h.c.1,h.c.2.1,h.two (List.mem_append_right _ HM.j)⟩
 obtain⟨KT,tM⟩:=Ze ({K with f:=(iK K.f K.n root va o2).1});obtain⟨et,het⟩:∃et:Int,et=((iK K.f K.n root va o2).2:Nat):=⟨_,rfl⟩
 have dC:Hid (∀F wv,aq U w kb mb sb pb qb bb tb F K wv->Zk 202 #[Zp mb,Zi root,Zu (va:Int),Zi o2] wv λe w'=>Zr e (Zi et)/\Hid (aq U w kb mb sb pb qb bb tb F KT w')):=λF wv h=>by rw[tM,het];exact h.call (λV h=>h.table root va jC o2)
 have CA:Hid (∀wv,aq U w kb mb sb pb qb bb tb F K wv->Zk 201 #[Zp sb,.agg #[Zi o1,Zi o2]] wv λe w'=>∃v F1,Zr e v/\Hid (aq U w kb mb sb pb qb bb tb F1 K w'/\ai aJ w' wv.heap.size 95 v (gd K.es (o1,o2))/\(∀q∈F,q∈F1)/\∀g,v.ownBlock=some g->∃ob,(g,ob)∈F1)):=λwv h=>h.hold (o1,o2)
 have HGT:Hid (∀a:Sl,aj a.1->∀F wv,aq U w kb mb sb pb qb bb tb F K wv->Zk 104 #[Zp sb,.agg #[Zi a.1,Zi a.2]] wv λe w'=>Zr e (.tuple #[bO (aH K.bs K.es a).1,Zi (aH K.bs K.es a).2])/\Hid (aq U w kb mb sb pb qb bb tb F K w')):=λa ha F wv h=>h.read (λV h=>h.get a ha)
 have nP:Hid ((gd K.es (o1,o2)).length<=16384/\∀a∈gd K.es (o1,o2),aj a.1):=⟨Nat.le_trans (Rr _ _) hw.ne,λa ha=>(ae8 hw.c hw.x ha).2⟩
 obtain⟨ls,RM⟩:=Ze (gd K.es (o1,o2));rw[<-RM] at CA nP|-;obtain⟨Kx,yL⟩:∃Kx:Kn×Int,Kx=(if (ls.any λa=>decide (0<(aH K.bs K.es a).1.root))=true then (K,16) else ({K with f:=(iK K.f K.n root va o2).1},((iK K.f K.n root va o2).2:Int))):=⟨_,rfl⟩
 rw[<-yL];rw[<-tM,<-het] at yL;have qa:=aa yL;have af:Hid (Zc w1.drew kb 1 (Zp sb)/\Zc w1.drew ob 0 (Zi o1)/\Zc w1.drew ob 1 (Zi o2)):=(ar.j [] _ _ H1.j.drew).2;have ak:=af;have UA:=aa (CA.j _ H1.j.drew);generalize (va:Int)=vi at*;clear h hw jC hF tM het CA RM yL;go_enter func169,ntmps169;go_upto_region 1 with fail
 rw[<-ag,<-az];clear ag az;go_region_held3 (λwv=>Zc wv kb 1 (Zp sb)/\Zc wv ob 0 (Zi o1)/\Zc wv ob 1 (Zi o2)) (with_reducible (first|exact af.j|exact ak.j)) (first|(go_at_call 201;refine UA.j.m ?_;rintro e w2 ⟨v,F1,rfl,HD⟩;obtain⟨p,c,rfl,GQ⟩:=HD.j.2.1.form;have Iw:=aa GQ;clear GQ;have ak:Hid (Zc w2 kb 1 (Zp sb)/\Zc w2 ob 0 (Zi o1)/\Zc w2 ob 1 (Zi o2)):=⟨HD.j.1.c.2.1,HD.j.1.two (HD.j.2.2.1 _ HM.j)⟩));clear af ak UA H1 ar;obtain⟨M,hM⟩:=Ze (ls.length);have sO:=aa hM;have D6:M<=16384:=by have:=nP.j.1;omega
 rw[<-hM]
 have HG:Hid (0<M->∃g o,p=some ⟨g,0,none⟩/\(g,o)∈F1):=λh0=>by
  obtain⟨g,hp,_,_,hv⟩:=Iw.j.2.2 (by have:=sO.j;omega);obtain⟨o,ho⟩:=HD.j.2.2.2 g hv;exact⟨g,o,hp,ho⟩
 have Bi:Hid ((ob,.cells #[Zi o1,Zi o2] 85 (0,0))∈F1):=HD.j.2.2.1 _ HM.j;have cN:=aa HD.j.1;have ar:Hid (∀G K' wv,aq U w kb mb sb pb qb bb tb (G++F1) K' wv->Zc wv kb 0 (Zp mb)/\Zc wv ob 1 (Zi o2)):=λG K' wv h=>⟨h.c.1,(h.two (List.mem_append_right _ Bi.j)).2⟩
 clear hM Iw HM;go_wp2_with fail
 go_loopw [10,11,12,20] (λ_ _ _ d wr=>∃j:Nat,d=Zi (j:Int)/\j<=M/\Hid (∀a∈ls.take j,¬0<(aH K.bs K.es a).1.root)/\Hid (aq U w kb mb sb pb qb bb tb F1 K wr)) (λ_ _ _ d _=>M - (RowKit.intOf d).toNat)
 case atStart=>exact⟨0,rfl,Zo,(λa ha=>by simp at ha),cN⟩
 case round=>
  obtain⟨j,rfl,hj,HQ,HI⟩:=hrel;by_cases ah:j<M
  ·have bg:j<ls.length:=by have:=sO.j;omega
   have h1:(j:Int)<(M:Int):=Zo;have bf:0<=(j:Int)/\(j:Int)<(M:Int):=Zo;have jT:=Zf j Zo;obtain⟨g,o,rfl,RY⟩:=HG.j Zo;obtain⟨b0,b1⟩:=JH HD.j.2.1 bg;rw[<-cN.j.Ji HI.j RY] at b0 b1;have HT:Hid (ls.take (j+1)=ls.take j++[ls[j]]):=List.take_succ_eq_append_getElem bg;have gQ:ls[j]∈ls:=List.getElem_mem bg;have fS:=aa (HGT.j ls[j] (nP.j.2 _ gQ));generalize ls[j]=y at b0 b1 HT gQ fS;have sP:=aa gQ;obtain⟨y1,y2⟩:=y;dsimp only at b0 b1 fS;obtain⟨u,hu⟩:=Ze ((aH K.bs K.es (y1,y2)).1);obtain⟨eg,gk⟩:=Ze ((aH K.bs K.es (y1,y2)).2);rw[<-hu,<-gk] at fS;have HU:=aa hu;obtain⟨w3,dz⟩:=Ze (wr.alloc (.cells #[Zi y1,Zi y2] 95));obtain⟨yb,yl⟩:=Ze (wr.heap.size);obtain⟨F2,yN⟩:∃F2:List (Nat×Obj),F2=(yb,.cells #[Zi y1,Zi y2] 95 (0,0))::F1:=⟨_,rfl⟩
   have H2:Hid (aq U w kb mb sb pb qb bb tb F2 K w3):=by rw[dz,yN,yl];exact HI.j.alloc _
   have nQ:=aa yN;have aK:Hid (∀G wv,aq U w kb mb sb pb qb bb tb (G++F2) K wv->Zc wv kb 1 (Zp sb)/\Zc wv yb 0 (Zi y1)/\Zc wv yb 1 (Zi y2)):=λG wv h=>⟨h.c.2.1,h.two (List.mem_append_right _ (by rw[yN];exact List.mem_cons_self))⟩
   clear hu gk gQ yN RY ah;go_upto_region 4 with fail
   rw[<-dz,<-yl];clear dz yl b0 b1;go_upto_region 4 with fail
   go_cut [11,12] from 24 to 32 (λc7 c8 wx=>∃ub,c7=Zp ub/\c8=Zi eg/\Hid (aq U w kb mb sb pb qb bb tb ((ub,.cells (de u).toArray 97 (0,0))::F2) K wx)/\Hid (¬U ub/\∀p∈F2,p.1≠ub))
   case first=>
    have cN:=aa H2.j.drew;have af:=aa (aK.j [] _ cN.j);obtain⟨wA,cJ⟩:=Ze ((w3.alloc (.cells #[Zi 0,Zi 0,Zi 0,Zu 0,Zu 0,Zi 0,Zi 0,Zu 0] 97)).drew);obtain⟨ub,bh⟩:=Ze (w3.heap.size);have gU:Hid (aq U w kb mb sb pb qb bb tb ((ub,.cells qY.toArray 97 (0,0))::F2) K wA):=by rw[cJ,bh];exact(H2.j.alloc _).drew
    have eT:=aa (aK.j [_] _ gU.j);have bG:Hid (¬U ub/\∀p∈F2,p.1≠ub):=⟨λhu=>by have:=H2.j.low ub hu;omega,λp hp he=>by have:=au (H2.j.f p hp);omega⟩
    refine qg (S:=(λwv=>wv.cell? ⟨kb,1,none⟩=some (Zp sb)/\wv.cell? ⟨yb,0,none⟩=some (Zi y1)/\wv.cell? ⟨yb,1,none⟩=some (Zi y2))) Zx ?_;simp only[List.size_toArray,List.length_cons,List.length_nil,Nat.zero_add,Nat.reduceAdd];refine Zt 0 af.j ?_;refine Zt 1 af.j ?_;refine Zt 2 af.j ?_;refine Zt 3 af.j ?_;refine Zt 4 af.j ?_;refine wpAnyH_ready (rs:=[5,9]) Zx (by simp) ?_;refine(AllReadyH.cons Zg (λK hK=>?_) (AllReadyH.cons Zg (λK hK=>?_) AllReadyH.nil))
    ·as_aux_lemma=>
      refine jy rfl 104 #[Operand.tmp 28,Operand.tmp 29] #[151,95] rfl #[Zp sb,.agg #[Zi y1,Zi y2]] (by first|rfl|simp[Act.eval,go_sem]) (by simp[go_sem]) (fS.j _ _ cN.j) ?_;rintro e w4 ⟨rfl,H3⟩;have aw:=aa (aK.j [] _ H3.j);clear bh cJ gU eT bG;obtain⟨ub,bh⟩:=Ze (w4.heap.size);obtain⟨wB,fU⟩:=Ze (w4.alloc (.cells #[Zi 0,Zi 0,Zi 0,Zu 0,Zu 0,Zi 0,Zi 0,Zu 0] 97));have fp:=aa (H3.j.alloc (.cells #[Zi 0,Zi 0,Zi 0,Zu 0,Zu 0,Zi 0,Zi 0,Zu 0] 97 (0,0)));rw[<-fU,<-bh] at fp;have mQ:=aa (aK.j [_] _ fp.j);have bG:Hid (¬U ub/\∀p∈F2,p.1≠ub):=⟨λhu=>by have:=H3.j.low ub hu;omega,λp hp he=>by have:=au (H3.j.f p hp);omega⟩
      have bJ:=aa (aq.Bq fp.j u bG.j.1 bG.j.2);have dw:=aa (aK.j [_] _ bJ.j);have gq:=aa (fp.j.at List.mem_cons_self);refine⟨_,rfl,?_⟩;refine Zb hK aw.j ?_;refine Zt 6 aw.j ?_;refine Zt 7 aw.j ?_;refine Zt 8 aw.j ?_;refine Zy 9 (λK hK=>?_);go_simp;rw[<-fU,<-bh];clear fU bh;refine Zb hK mQ.j ?_;refine Zy 10 (λK hK=>?_);refine qk (.tmp 11) (.tmp 31) rfl rfl (u:=u) (ub:=ub) (by simp[Act.eval]) (by simp[Act.eval,bO,de]) gq.j ?_;refine Zb hK dw.j ?_;refine Zt 11 dw.j ?_;refine wpAnyH_done Zx ?_ _;go_wp2_with fail;go_meet;exact⟨_,rfl,rfl,bJ.j,bG.j⟩
    ·as_aux_lemma=>
      go_simp;rw[<-cJ,<-bh];clear cJ bh;refine Zb hK eT.j ?_;refine Zy 5 (λK hK=>?_);refine jy rfl 104 #[Operand.tmp 28,Operand.tmp 29] #[151,95] rfl #[Zp sb,.agg #[Zi y1,Zi y2]] (by first|rfl|simp[Act.eval,go_sem]) (by simp[go_sem]) (fS.j _ _ gU.j) ?_;rintro e w4 ⟨rfl,H3⟩;have aw:=aa (aK.j [_] _ H3.j);have bJ:=aa (aq.Bq H3.j u bG.j.1 bG.j.2);have dw:=aa (aK.j [_] _ bJ.j);have gq:=aa (H3.j.at List.mem_cons_self);refine⟨_,rfl,?_⟩;refine Zb hK aw.j ?_;refine Zt 6 aw.j ?_;refine Zt 7 aw.j ?_;refine Zt 8 aw.j ?_;refine Zy 10 (λK hK=>?_);refine qk (.tmp 11) (.tmp 31) rfl rfl (u:=u) (ub:=ub) (by simp[Act.eval]) (by simp[Act.eval,bO,de]) gq.j ?_;refine Zb hK dw.j ?_;refine Zt 11 dw.j ?_;refine wpAnyH_done Zx ?_ _;go_wp2_with fail;go_meet;exact⟨_,rfl,rfl,bJ.j,bG.j⟩
   case rest=>
    obtain⟨ub,rfl,rfl,H4,ua⟩:=hcut
    have vC:Hid (aq U w kb mb sb pb qb bb tb F1 K wc):=by
     have:=H4.j.tail;rw[nQ.j] at this;exact this.tail
    obtain⟨⟨d0,d1,d2,d3,d4,d5,d6,d7⟩,_⟩:=eL (show wc.heap[ub]?=some (.cells #[Zi u.kind,Zi u.num,Zi u.rights,Zu u.cQ,Zu u.guard,Zi u.bS,Zi u.root,Zu u.va] 97 (0,0)) from H4.j.at List.mem_cons_self);clear d0 d1 d2 d3 d4 d5 d7 H4 H2;by_cases r0:0<u.root
    ·have HE:Hid (Kx=(K,16)):=by
      show Kx=(K,16)
      rw[qa.j,if_pos (List.any_eq_true.2 ⟨(y1,y2),sP.j,by rw[<-HU.j];exact decide_eq_true r0⟩)]
     go_wp2_with fail
     all_goals
      go_ret;exact⟨K,16,rfl,vC.j.fin.1,vC.j.fin.2,HE.j.symm⟩
    ·have HR:Hid (¬0<(aH K.bs K.es (y1,y2)).1.root):=by rw[<-HU.j];exact r0
     generalize u.root=ur at d6 r0;go_wp2_with fail;go_roundw
     case rel=>exact⟨j+1,by go_num,Zo,(λa ha=>by
      rw[HT.j,List.mem_append,List.mem_singleton] at ha;rcases ha with ha|rfl
      ·exact HQ.j a ha
      ·exact HR.j),vC⟩
     case measure=>exact Zm
  ·obtain rfl:j=M:=Zo;have h1:¬(j:Int)<(j:Int):=Zo
   have HE:Hid (Kx=(KT,et)):=by
    show Kx=(KT,et)
    rw[qa.j,if_neg (by
     rw[List.any_eq_true];rintro⟨a,ha,h9⟩;rw[sO.j,List.take_length] at HQ
     exact HQ.j a ha (of_decide_eq_true h9))]
   have ES:=aa (dC.j _ _ HI.j.drew);have af:=aa (ar.j [] _ _ HI.j.drew);have ak:=af;clear ah HQ;go_upto_region 8 with fail
   go_region_held3 (λwv=>Zc wv kb 0 (Zp mb)/\Zc wv ob 1 (Zi o2)) (with_reducible (first|exact af.j|exact ak.j)) (first|(go_at_call 202;refine ES.j.m ?_;rintro e w5 ⟨rfl,H6⟩;have ak:=aa (ar.j [] _ _ H6.j)));go_wp2_with fail
   all_goals
    go_ret;exact⟨KT,et,rfl,H6.j.fin.1,H6.j.fin.2,HE.j.symm⟩
end
section
variable {kb mb sb pb qb bb tb:Nat} {U V S:Nat->Prop} {w wv w1 w2:World} {K K2:Kn} {F:List (Nat×Obj)}
theorem aq.eight (h:aq U w kb mb sb pb qb bb tb F K wv) {b:Nat} {c:Cp} {T:TypeId} (hm:(b,.cells (de c).toArray T (0,0))∈F):wv.cell? ⟨b,0,none⟩=some (Zi c.kind)/\wv.cell? ⟨b,1,none⟩=some (Zi c.num)/\wv.cell? ⟨b,2,none⟩=some (Zi c.rights)/\wv.cell? ⟨b,3,none⟩=some (Zu c.cQ)/\wv.cell? ⟨b,4,none⟩=some (Zu c.guard)/\wv.cell? ⟨b,5,none⟩=some (Zi c.bS)/\wv.cell? ⟨b,6,none⟩=some (Zi c.root)/\wv.cell? ⟨b,7,none⟩=some (Zu c.va):=
 ⟨(cell_of_row _ _ 0 _ _ (0,0) (h.at hm)).trans rfl,(cell_of_row _ _ 1 _ _ (0,0) (h.at hm)).trans rfl,(cell_of_row _ _ 2 _ _ (0,0) (h.at hm)).trans rfl,(cell_of_row _ _ 3 _ _ (0,0) (h.at hm)).trans rfl,(cell_of_row _ _ 4 _ _ (0,0) (h.at hm)).trans rfl,(cell_of_row _ _ 5 _ _ (0,0) (h.at hm)).trans rfl,(cell_of_row _ _ 6 _ _ (0,0) (h.at hm)).trans rfl,(cell_of_row _ _ 7 _ _ (0,0) (h.at hm)).trans rfl⟩
theorem aq.Xk {cb:Nat} {c:Cp} (h:aq U w kb mb sb pb qb bb tb ((cb,.cells (de c).toArray 97 (0,0))::F) K wv) (r v:Int) (hU:¬U cb) (hF:∀p∈F,p.1≠cb):aq U w kb mb sb pb qb bb tb ((cb,.cells (de {c with root:=r,va:=v}).toArray 97 (0,0))::F) K ((wv.setCell ⟨cb,6,none⟩ (Zi r)).setCell ⟨cb,7,none⟩ (Zu v)):=by
 have h1:=heap_setCell_same wv cb 6 _ _ (Zi r) (h.at List.mem_cons_self);have h2:=heap_setCell_same _ cb 7 _ _ (Zu v) h1;exact h.fh (((ae.refl (λk=>k=cb) wv).setCell (p:=⟨cb,6,none⟩) (Or.inl rfl) _).setCell (p:=⟨cb,7,none⟩) (Or.inl rfl) _) h2 hU hF
theorem XE {bs:Lp} {es:List En} {s:Sl} {c c2:Cp} (hg:aH bs es s=(c,0)) (h1:c2.kind=c.kind) (h2:c2.num=c.num):kS bs es s c2=0:=by
 unfold aH at hg;unfold kS
 cases hf:cy bs es s with
 |error e=>rw[hf] at hg;exact absurd hf (by injection hg with _ h9;subst h9;exact SZ bs es s)
 |ok i=>
  rw[hf] at hg;injection hg with h9 _
  dsimp only;rw[if_pos (by rw[h9];unfold mW;simp[h1,h2])]
theorem abP (h:ax U w kb mb sb pb qb bb tb K) (c:Cp) (hc:0<=c.rights/\c.rights<=7) (root:Int) (va:Nat) (jC:va<4294967296) (rights:Int) (nY:aj rights):
  Zk 170 #[Zp kb,bO c,Zi root,Zu (va:Int),Zi rights] w λe w'=>∃K2 ev,Zr e (Zi ev)/\ax U w' kb mb sb pb qb bb tb K2/\Zn U w w'/\(K2,ev)=(if rights<0\/7<rights\/j6 rights c.rights=false then (K,13) else ({K with f:=(fT K.f K.n root va c.num rights).1},((fT K.f K.n root va c.num rights).2:Int))):=by
 obtain⟨Kx,yL⟩:∃Kx:Kn×Int,Kx=(if rights<0\/7<rights\/j6 rights c.rights=false then (K,13) else ({K with f:=(fT K.f K.n root va c.num rights).1},((fT K.f K.n root va c.num rights).2:Int))):=⟨_,rfl⟩
 rw[<-yL];have Np:=aa (λw=>Sp c hc rights nY w);obtain⟨B,hB⟩:=Ze (yI c rights);rw[<-hB] at Np;obtain⟨KT,tM⟩:=Ze ({K with f:=(fT K.f K.n root va c.num rights).1});obtain⟨et,het⟩:∃et:Int,et=((fT K.f K.n root va c.num rights).2:Nat):=⟨_,rfl⟩
 have dC:Hid (∀F wv,aq U w kb mb sb pb qb bb tb F K wv->Zk 203 #[Zp mb,Zi root,Zu (va:Int),Zi c.num,Zi rights] wv λe w'=>Zr e (Zi et)/\Hid (aq U w kb mb sb pb qb bb tb F KT w')):=λF wv h=>by rw[tM,het];exact h.call (λV h=>h.map root va jC c.num rights)
 have qa:Hid ((B=false->Kx=(K,13))/\(B=true->Kx=(KT,et))):=by
  rw[tM,het,yL];unfold yI at hB;constructor
  ·intro h9;rw[h9] at hB;rw[if_pos (of_decide_eq_true (by rw[<-Bool.not_not (decide _),<-hB];rfl))]
  ·intro h9;rw[h9] at hB;rw[if_neg (of_decide_eq_false (by rw[<-Bool.not_not (decide _),<-hB];rfl))]
 obtain⟨k,n,ri,bd,gu,gb,ro,cv⟩:=c;dsimp only[bO] at*;obtain⟨w1,ag⟩:=Ze (w.alloc (.cells #[Zi k,Zi n,Zi ri,Zu bd,Zu gu,Zi gb,Zi ro,Zu cv] 97));obtain⟨ob,az⟩:=Ze (w.heap.size);obtain⟨F,hF⟩:∃F:List (Nat×Obj),F=[(ob,.cells (de ⟨k,n,ri,bd,gu,gb,ro,cv⟩).toArray 97 (0,0))]:=⟨_,rfl⟩
 have H1:Hid (aq U w kb mb sb pb qb bb tb F K w1):=by rw[ag,hF,az];exact(aq.start h).alloc _
 have HM:Hid ((ob,.cells (de ⟨k,n,ri,bd,gu,gb,ro,cv⟩).toArray 97 (0,0))∈F):=by rw[hF];exact List.mem_cons_self
 have ar:Hid (∀K' wv,aq U w kb mb sb pb qb bb tb F K' wv->Zc wv kb 0 (Zp mb)/\Zc wv ob 1 (Zi n)):=λK' wv h=>⟨h.c.1,(h.eight HM.j).2.1⟩
 obtain⟨q0,q1,q2,q3,q4,q5,q6,q7⟩:=H1.j.eight HM.j;dsimp only at q0 q1 q2 q3 q4 q5 q6 q7;generalize (va:Int)=vi at*;clear h hc jC nY hF tM het hB yL;go_enter func170,ntmps170;go_upto_region 1 with fail
 rw[<-ag,<-az];clear ag az;go_wp2_with fail;refine(Np.j _).m ?_;rintro e w2 ⟨rfl,ho⟩;have H2:=aa (H1.j.quiet ho);clear ho q0 q1 q2 q3 q4 q5 q6 q7 Np H1
 cases B with
 |false=>
  have HE:=aa (by first|exact qa.j.1 rfl|exact qa.j.1 trivial|exact qa.j:Kx=(K,13));go_wp2_with fail
  all_goals
   go_ret
   exact⟨K,13,rfl,H2.j.fin.1,H2.j.fin.2,HE.j.symm⟩
 |true=>
  have HE:=aa (by first|exact qa.j.2 rfl|exact qa.j.2 trivial|exact qa.j:Kx=(KT,et));have ES:=aa (dC.j _ _ H2.j.drew);have af:=aa (ar.j _ _ H2.j.drew);have ak:=af;go_upto_region 3 with fail
  go_region_held3 (λwv=>Zc wv kb 0 (Zp mb)/\Zc wv ob 1 (Zi n)) (with_reducible (first|exact af.j|exact ak.j)) (first|(go_at_call 203;refine ES.j.m ?_;rintro e w5 ⟨rfl,H6⟩;have ak:=aa (ar.j _ _ H6.j)));go_wp2_with fail
  all_goals
   go_ret;exact⟨KT,et,rfl,H6.j.fin.1,H6.j.fin.2,HE.j.symm⟩
theorem aq.Tw (h:aq U w kb mb sb pb qb bb tb F K wv) {f:FuncId} {args:Array Value} {P:Kn->Int->Prop} (hc:∀V,ax V wv kb mb sb pb qb bb tb K->Zk f args wv λe w'=>∃K2 ev,Zr e (Zi ev)/\ax V w' kb mb sb pb qb bb tb K2/\Zn V wv w'/\P K2 ev):
  Zk f args wv λe w'=>∃K2 ev,Zr e (Zi ev)/\Hid (aq U w kb mb sb pb qb bb tb F K2 w')/\P K2 ev:=by
 obtain⟨⟨V,h1,h2,h3⟩,h4,h5⟩:=h;refine(hc V h3).m ?_;rintro e w' ⟨K2,ev,rfl,h6,h7,h8⟩;exact⟨K2,ev,rfl,⟨⟨V,h1,h2,h6⟩,λp hp=>ae.keep h7 (h4 p hp) (λh=>h (h2 p hp)),h5.trans (h7.mono (λk _ h8 h9=>h8 (h1 k h9)))⟩,h8⟩
theorem P4 {s:Sl} {c:Cp} {root:Int} {va:Nat} {rights:Int} {Kq:Kn} {ev:Int} (h:(Kq,ev)=({K with f:=(lJ K s c root va rights).1},(lJ K s c root va rights).2)):(ev≠0->gM K s c root va rights=(Kq,ev))/\(ev=0->gM K s c root va rights=({Kq with es:=eY Kq.bs Kq.es s {c with root:=root+1,va:=(td c va:Int)}},0)):=by
 injection h with h1 h2
 unfold gM;constructor
 ·intro h0;rw[if_neg (by rw[<-h2];exact h0),h1,h2]
 ·intro h0;rw[if_pos (by rw[<-h2];exact h0),h1]
theorem abI {s:Sl} {c:Cp} {root:Int} {va:Nat} {rights:Int} (h:qy K.es s c=true):gM K s c root va rights=(K,16):=by
 have e:lJ K s c root va rights=(K.f,16):=if_pos h;unfold gM;rw[e];rfl
theorem abQ (h:ax U w kb mb sb pb qb bb tb K) (hw:aE K) (s1 s2:Int) (hs:aj s1) (c:Cp) (hg:aH K.bs K.es (s1,s2)=(c,0)) (root:Int) (hr:0<=root/\root<256) (va:Nat) (jC:va<4294967296) (rights:Int) (nY:aj rights):
  Zk 107 #[Zp kb,.agg #[Zi s1,Zi s2],bO c,Zi root,Zu (va:Int),Zi rights] w λe w'=>Zr e (Zi (gM K (s1,s2) c root va rights).2)/\ax U w' kb mb sb pb qb bb tb (gM K (s1,s2) c root va rights).1/\Zn U w w':=by
 have lQ:(aH K.bs K.es (s1,s2)).1=c:=by rw[hg]
 have lP:(aH K.bs K.es (s1,s2)).2=0:=by rw[hg]
 obtain⟨e0,BX,nF,Hf⟩:=SX lP;rw[lQ] at Hf;have dO:=hw.rt e0 BX;rw[Hf] at dO;have pU:=hw.c.gu e0 BX;rw[Hf] at pU;have M3:Hid (0<c.root->gM K (s1,s2) c root va rights=(K,16)):=λh0=>abI (by have:=abJ lP (by rw[lQ];exact h0);rw[lQ] at this;exact this)
 have dC:Hid (¬0<c.root->c.kind=3->qy K.es (s1,s2) c=(gd K.es (c.kind,c.num)).any λa=>decide (0<(aH K.bs K.es a).1.root)):=λh0 h3=>by
  have:=abH hw.c hw.x lP (by rw[lQ];exact h0) (by rw[lQ];exact h3);rw[lQ] at this;exact this
 have Ix:Hid (¬0<c.root->c.kind≠3->qy K.es (s1,s2) c=false):=λh0 h3=>by
  have:=abL hw.c hw.x lP (by rw[lQ];exact h0) (by rw[lQ];exact h3);rw[lQ] at this;exact this
 have jY:Hid (∀r v,kS K.bs K.es (s1,s2) {c with root:=r,va:=v}=0):=λr v=>XE hg rfl rfl
 have Iv:Hid (IntKind.i64.wrap (root+1)=root+1):=by show IntKind.i64.wrap (root+1)=root+1;rw[IntKind.wrap_i64];omega
 obtain⟨KE,aS⟩:=Ze (gM K (s1,s2) c root va rights);rw[<-aS] at M3|-;have gD:=aa aS;have HG:Hid (kE c/\aj s1/\aE K/\va<4294967296/\aj rights/\(0<=c.rights/\c.rights<=7)):=⟨pU,hs,hw,jC,nY,dO.1,dO.2.1⟩
 clear hg lQ lP BX nF Hf dO pU aS hw hr nY;obtain⟨C,hC⟩:=Ze (c);have HC:=aa hC;obtain⟨k,n,ri,bd,gu,gb,ro,cv⟩:=c;rw[<-hC] at dC Ix jY HG gD;have fL:Hid (C.root=ro/\C.kind=k/\C.num=n):=by rw[hC];exact⟨rfl,rfl,rfl⟩
 dsimp only[bO] at*;obtain⟨w1,ag⟩:=Ze ((w.alloc (.cells #[Zi s1,Zi s2] 95)).alloc (.cells #[Zi k,Zi n,Zi ri,Zu bd,Zu gu,Zi gb,Zi ro,Zu cv] 97));obtain⟨ab,ch⟩:=Ze (w.heap.size);obtain⟨cb,jr⟩:=Ze (w.heap.size+1);obtain⟨F,hF⟩:∃F:List (Nat×Obj),F=[(ab,.cells #[Zi s1,Zi s2] 95 (0,0))]:=⟨_,rfl⟩
 have H1:Hid (aq U w kb mb sb pb qb bb tb ((cb,.cells (de C).toArray 97 (0,0))::F) K w1):=by
  have:=((aq.start h).alloc (.cells #[Zi s1,Zi s2] 95 (0,0))).alloc (.cells (de ⟨k,n,ri,bd,gu,gb,ro,cv⟩).toArray 97 (0,0));rw[show(w.alloc (.cells #[Zi s1,Zi s2] 95)).heap.size=w.heap.size+1 by simp] at this;rw[ag,hF,ch,jr,hC];exact this
 have HM:Hid ((ab,.cells #[Zi s1,Zi s2] 95 (0,0))∈F/\(∀p∈F,p.1≠cb)/\¬U cb):=⟨by rw[hF];exact List.mem_cons_self,λp hp=>by rw[hF] at hp;rw[List.mem_singleton] at hp;rw[hp];show ab≠cb;omega,λhu=>by have:=aD.ul h cb hu;omega⟩
 have ar:Hid (∀c K' wv,aq U w kb mb sb pb qb bb tb ((cb,.cells (de c).toArray 97 (0,0))::F) K' wv->Zc wv kb 1 (Zp sb)/\Zc wv ab 0 (Zi s1)/\Zc wv ab 1 (Zi s2)/\Zc wv cb 0 (Zi c.kind)/\Zc wv cb 1 (Zi c.num)/\Zc wv cb 2 (Zi c.rights)/\Zc wv cb 3 (Zu c.cQ)/\Zc wv cb 4 (Zu c.guard)/\Zc wv cb 5 (Zi c.bS)/\Zc wv cb 6 (Zi c.root)/\Zc wv cb 7 (Zu c.va)):=λc K' wv h=>⟨h.c.2.1,(h.two (List.mem_cons_of_mem _ HM.j.1)).1,(h.two (List.mem_cons_of_mem _ HM.j.1)).2,h.eight List.mem_cons_self⟩
 have dG:Hid (∀K' wv r v,aq U w kb mb sb pb qb bb tb ((cb,.cells (de C).toArray 97 (0,0))::F) K' wv->aq U w kb mb sb pb qb bb tb ((cb,.cells (de {C with root:=r,va:=v}).toArray 97 (0,0))::F) K' ((wv.setCell ⟨cb,6,none⟩ (Zi r)).setCell ⟨cb,7,none⟩ (Zu v))):=λK' wv r v h=>h.Xk r v HM.j.2.2 HM.j.2.1
 have mS:Hid (∀K' wv,aq U w kb mb sb pb qb bb tb ((cb,.cells (de C).toArray 97 (0,0))::F) K' wv->∀j,wv.frozen? ⟨cb,j,none⟩=false):=λK' wv h j=>jA (h.at List.mem_cons_self) j
 have yG:=ar.j _ _ _ H1.j;rw[hC] at yG;obtain⟨_,_,_,q0,q1,q2,q3,q4,q5,q6,q7⟩:=yG;dsimp only at q0 q1 q2 q3 q4 q5 q6 q7;clear h hs hF hC;by_cases r0:0<ro
 ·have HE:=aa (M3.j r0);generalize (va:Int)=vi at*;go_enter func107,ntmps107;go_upto_region 1 with fail
  rw[<-ag,<-jr,<-ch];clear ag ch jr;go_wp2_with fail
  all_goals
   go_ret;exact⟨Zz HE.j,by rw[HE.j];exact H1.j.fin⟩
 ·clear M3;by_cases k3:k=3
  ·have Cv:Hid (td C va=va/4194304*4194304):=if_pos (by rw[fL.j.2.1];exact k3);have MZ:=aa (λw=>W0 va HG.j.2.2.2.1 w);have iU:=aa (H1.j.Tw (λV h=>abN h HG.j.2.2.1 k n root (va/4194304*4194304) (by have:=HG.j.2.2.2.1;omega)))
   have HQ:Hid (∀Kq ev,(Kq,ev)=(if ((gd K.es (k,n)).any λa=>decide (0<(aH K.bs K.es a).1.root))=true then (K,16) else ({K with f:=(iK K.f K.n root (va/4194304*4194304) n).1},((iK K.f K.n root (va/4194304*4194304) n).2:Int)))->((ev≠0->KE=(Kq,ev))/\(ev=0->KE=({Kq with es:=eY Kq.bs Kq.es (s1,s2) {C with root:=root+1,va:=((va/4194304*4194304:Nat):Int)}},0)))/\Kq.bs=K.bs/\Kq.es=K.es):=λKq ev hq=>by
    have ht:=dC.j (by rw[fL.j.1];exact r0) (by rw[fL.j.2.1];exact k3);rw[fL.j.2.1,fL.j.2.2] at ht
    have uW:=P4 (K:=K) (s:=(s1,s2)) (c:=C) (root:=root) (va:=va) (rights:=rights) (Kq:=Kq) (ev:=ev) (by
     unfold lJ;rw[ht,Cv.j,fL.j.2.1,fL.j.2.2,hq];by_cases h9:((gd K.es (k,n)).any λa=>decide (0<(aH K.bs K.es a).1.root))=true
     ·rw[if_pos h9,if_pos h9]
     ·rw[if_neg h9,if_neg h9,if_pos k3])
    rw[<-gD.j,Cv.j] at uW;refine⟨uW,?_⟩;by_cases h9:((gd K.es (k,n)).any λa=>decide (0<(aH K.bs K.es a).1.root))=true
    ·rw[if_pos h9] at hq;injection hq with hq _
     rw[hq];exact⟨rfl,rfl⟩
    ·rw[if_neg h9] at hq;injection hq with hq _
     rw[hq];exact⟨rfl,rfl⟩
   clear dC Ix Cv;obtain⟨vt,pO⟩:∃vt:Int,vt=((va/4194304*4194304:Nat):Int):=⟨_,rfl⟩
   rw[<-pO] at MZ iU HQ;generalize (va:Int)=vi at*;subst k3;clear pO;go_enter func107,ntmps107;go_upto_region 1 with fail
   rw[<-ag,<-jr,<-ch];clear ag ch jr;go_wp2_with fail;refine(MZ.j _).e1 ?_;go_wp2_with fail;refine iU.j.m ?_;rintro e w3 ⟨Kq,ev,rfl,H3,hq⟩;have dL:=aa (HQ.j Kq ev hq);clear hq q0 q1 q2 q3 q4 q5 q6 q7 MZ iU HQ H1;by_cases e0:ev=0
   ·have HE:=aa (dL.j.1.2 e0);have qV:=aa (dG.j _ _ (root+1) vt H3.j);have Ll:=mS.j _ _ H3.j 6;have Lk:=mS.j _ _ H3.j 7;have qC:=Iv.j;obtain⟨w5,dN⟩:=Ze ((w3.setCell ⟨cb,6,none⟩ (Zi (root+1))).setCell ⟨cb,7,none⟩ (Zu vt));have Kk:=(ar.j _ _ _ H3.j).2.2.2.2.2.2.2.2.2.1;have Kj:=(ar.j _ _ _ H3.j).2.2.2.2.2.2.2.2.2.2;rw[<-dN] at qV
    have lY:Hid (Zk 171 #[Zp sb,.agg #[Zi s1,Zi s2],bO {C with root:=root+1,va:=vt}] w5.drew λe w'=>Zr e (Zi 0)/\Hid (aq U w kb mb sb pb qb bb tb ((cb,.cells (de {C with root:=root+1,va:=vt}).toArray 97 (0,0))::F) {Kq with es:=eY Kq.bs Kq.es (s1,s2) {C with root:=root+1,va:=vt}} w')):=by
     have:=qV.j.drew.call (λV h=>h.set (s1,s2) HG.j.2.1 {C with root:=root+1,va:=vt} HG.j.1);rw[dL.j.2.1,dL.j.2.2,jY.j] at this;rw[dL.j.2.1,dL.j.2.2];exact this
    obtain⟨C2,Ea⟩:∃C2:Cp,C2={C with root:=root+1,va:=vt}:=⟨_,rfl⟩
    rw[<-Ea] at lY qV HE;have af:=aa (ar.j _ _ _ qV.j.drew);have ak:=af;clear Ea dL;subst e0;dsimp only[bO] at lY;go_upto_region 11 with fail
    rw[<-dN];clear dN Ll Lk qC Kk Kj;go_region_held3 (λwv=>Zc wv kb 1 (Zp sb)/\Zc wv ab 0 (Zi s1)/\Zc wv ab 1 (Zi s2)/\Zc wv cb 0 (Zi C2.kind)/\Zc wv cb 1 (Zi C2.num)/\Zc wv cb 2 (Zi C2.rights)/\Zc wv cb 3 (Zu C2.cQ)/\Zc wv cb 4 (Zu C2.guard)/\Zc wv cb 5 (Zi C2.bS)/\Zc wv cb 6 (Zi C2.root)/\Zc wv cb 7 (Zu C2.va)) (with_reducible (first|exact af.j|exact ak.j)) (first|(go_at_call 171;refine lY.j.m ?_;rintro e w6 ⟨rfl,H6⟩;have ak:=aa (ar.j _ _ _ H6.j)));go_wp2_with fail
    all_goals
     go_ret;exact⟨Zz HE.j,by rw[HE.j];exact H6.j.fin⟩
   ·have e1:(ev !=0)=true:=by simpa using e0
    have HE:=aa (dL.j.1.1 e0);clear e0;go_wp2_with fail
    all_goals
     go_ret;exact⟨Zz HE.j,by rw[HE.j];exact H3.j.fin⟩
  ·have n3:(k==3)=false:=by simpa using k3
   have Cv:Hid (td C va=va):=if_neg (by rw[fL.j.2.1];exact k3);have iU:=aa (H1.j.Tw (λV h=>abP h ⟨k,n,ri,bd,gu,gb,ro,cv⟩ (by have:=HG.j.2.2.2.2.2;rw[HC.j] at this;exact this) root va HG.j.2.2.2.1 rights HG.j.2.2.2.2.1))
   have HQ:Hid (∀Kq ev,(Kq,ev)=(if rights<0\/7<rights\/j6 rights ri=false then (K,13) else ({K with f:=(fT K.f K.n root va n rights).1},((fT K.f K.n root va n rights).2:Int)))->((ev≠0->KE=(Kq,ev))/\(ev=0->KE=({Kq with es:=eY Kq.bs Kq.es (s1,s2) {C with root:=root+1,va:=(va:Int)}},0)))/\Kq.bs=K.bs/\Kq.es=K.es):=λKq ev hq=>by
    have ht:=Ix.j (by rw[fL.j.1];exact r0) (by rw[fL.j.2.1];exact k3)
    have uW:=P4 (K:=K) (s:=(s1,s2)) (c:=C) (root:=root) (va:=va) (rights:=rights) (Kq:=Kq) (ev:=ev) (by
     unfold lJ;rw[ht,hq,if_neg (show¬(false=true) from Zd),fL.j.2.1,if_neg k3,fL.j.2.2,HC.j];dsimp only;by_cases h9:rights<0\/7<rights\/j6 rights ri=false
     ·rw[if_pos h9,if_pos h9]
     ·rw[if_neg h9,if_neg h9])
    rw[<-gD.j,Cv.j] at uW;refine⟨uW,?_⟩;by_cases h9:rights<0\/7<rights\/j6 rights ri=false
    ·rw[if_pos h9] at hq;injection hq with hq _
     rw[hq];exact⟨rfl,rfl⟩
    ·rw[if_neg h9] at hq;injection hq with hq _
     rw[hq];exact⟨rfl,rfl⟩
   clear dC Ix Cv k3;obtain⟨vt,pO⟩:∃vt:Int,vt=(va:Int):=⟨_,rfl⟩
   rw[<-pO] at HQ;dsimp only[bO] at iU;rw[<-pO] at iU|-;clear pO;go_enter func107,ntmps107;go_upto_region 1 with fail
   rw[<-ag,<-jr,<-ch];clear ag ch jr;go_wp2_with fail;refine iU.j.m ?_;rintro e w3 ⟨Kq,ev,rfl,H3,hq⟩;have dL:=aa (HQ.j Kq ev hq);clear hq q0 q1 q2 q3 q4 q5 q6 q7 iU HQ H1;by_cases e0:ev=0
   ·have HE:=aa (dL.j.1.2 e0);have qV:=aa (dG.j _ _ (root+1) vt H3.j);have Ll:=mS.j _ _ H3.j 6;have Lk:=mS.j _ _ H3.j 7;have qC:=Iv.j;obtain⟨w5,dN⟩:=Ze ((w3.setCell ⟨cb,6,none⟩ (Zi (root+1))).setCell ⟨cb,7,none⟩ (Zu vt));have Kk:=(ar.j _ _ _ H3.j).2.2.2.2.2.2.2.2.2.1;have Kj:=(ar.j _ _ _ H3.j).2.2.2.2.2.2.2.2.2.2;rw[<-dN] at qV
    have lY:Hid (Zk 171 #[Zp sb,.agg #[Zi s1,Zi s2],bO {C with root:=root+1,va:=vt}] w5.drew λe w'=>Zr e (Zi 0)/\Hid (aq U w kb mb sb pb qb bb tb ((cb,.cells (de {C with root:=root+1,va:=vt}).toArray 97 (0,0))::F) {Kq with es:=eY Kq.bs Kq.es (s1,s2) {C with root:=root+1,va:=vt}} w')):=by
     have:=qV.j.drew.call (λV h=>h.set (s1,s2) HG.j.2.1 {C with root:=root+1,va:=vt} HG.j.1);rw[dL.j.2.1,dL.j.2.2,jY.j] at this;rw[dL.j.2.1,dL.j.2.2];exact this
    obtain⟨C2,Ea⟩:∃C2:Cp,C2={C with root:=root+1,va:=vt}:=⟨_,rfl⟩
    rw[<-Ea] at lY qV HE;have af:=aa (ar.j _ _ _ qV.j.drew);have ak:=af;clear Ea dL;subst e0;dsimp only[bO] at lY;go_upto_region 11 with fail
    rw[<-dN];clear dN Ll Lk qC Kk Kj;go_region_held3 (λwv=>Zc wv kb 1 (Zp sb)/\Zc wv ab 0 (Zi s1)/\Zc wv ab 1 (Zi s2)/\Zc wv cb 0 (Zi C2.kind)/\Zc wv cb 1 (Zi C2.num)/\Zc wv cb 2 (Zi C2.rights)/\Zc wv cb 3 (Zu C2.cQ)/\Zc wv cb 4 (Zu C2.guard)/\Zc wv cb 5 (Zi C2.bS)/\Zc wv cb 6 (Zi C2.root)/\Zc wv cb 7 (Zu C2.va)) (with_reducible (first|exact af.j|exact ak.j)) (first|(go_at_call 171;refine lY.j.m ?_;rintro e w6 ⟨rfl,H6⟩;have ak:=aa (ar.j _ _ _ H6.j)));go_wp2_with fail
    all_goals
     go_ret;exact⟨Zz HE.j,by rw[HE.j];exact H6.j.fin⟩
   ·have e1:(ev !=0)=true:=by simpa using e0
    have HE:=aa (dL.j.1.1 e0);clear e0;go_wp2_with fail
    all_goals
     go_ret;exact⟨Zz HE.j,by rw[HE.j];exact H3.j.fin⟩
end
section
variable {kb mb sb pb qb bb tb:Nat} {U V S:Nat->Prop} {w wv w1 w2:World} {K K2:Kn} {F:List (Nat×Obj)}
theorem ag9 (h:ax U w kb mb sb pb qb bb tb K) (hw:aE K) (s1 s2 root:Int) (va:Nat) (rights:Int) (hs:aj s1) (qB:aj root) (jC:va<4294967296) (nY:aj rights):
  Zk 50 #[Zp kb,.agg #[Zi s1,Zi s2,Zi root,Zu (va:Int),Zi rights]] w λe w'=>Zr e (Zi (bK K ⟨(s1,s2),root,va,rights⟩).2)/\ax U w' kb mb sb pb qb bb tb (bK K ⟨(s1,s2),root,va,rights⟩).1/\Zn U w w':=by
 obtain⟨KE,aS⟩:=Ze (bK K ⟨(s1,s2),root,va,rights⟩);rw[<-aS];have fS:Hid (∀F wv,aq U w kb mb sb pb qb bb tb F K wv->Zk 104 #[Zp sb,.agg #[Zi s1,Zi s2]] wv λe w'=>Zr e (.tuple #[bO (aH K.bs K.es (s1,s2)).1,Zi (aH K.bs K.es (s1,s2)).2])/\Hid (aq U w kb mb sb pb qb bb tb F K w')):=λF wv h=>h.read (λV h=>h.get (s1,s2) hs)
 have pC:Hid (∀F wv,aq U w kb mb sb pb qb bb tb F K wv->Zk 101 #[Zp kb,.agg #[Zi 4,Zi root]] wv λe w'=>Zr e (.bool (dk K.os K.rs (4,root)))/\Hid (aq U w kb mb sb pb qb bb tb F K w')):=λF wv h=>h.read (λV h=>Gz h _ _ qB)
 obtain⟨u,hu⟩:=Ze ((aH K.bs K.es (s1,s2)).1);obtain⟨eg,gk⟩:=Ze ((aH K.bs K.es (s1,s2)).2);obtain⟨B,hB⟩:=Ze (dk K.os K.rs (4,root));have sQ:Hid (eg=0->B=true->∀F wv,aq U w kb mb sb pb qb bb tb F K wv->Zk 107 #[Zp kb,.agg #[Zi s1,Zi s2],bO u,Zi root,Zu (va:Int),Zi rights] wv λe w'=>Zr e (Zi (gM K (s1,s2) u root va rights).2)/\Hid (aq U w kb mb sb pb qb bb tb F (gM K (s1,s2) u root va rights).1 w')):=λh1 h2 F wv h=>h.call (λV h=>abQ h hw s1 s2 hs u (Prod.ext hu.symm (by rw[<-gk];exact h1)) root (Jn hw.p (by rw[<-hB];exact h2)) va jC rights nY)
 have UF:Hid (eg≠0->KE=(K,eg)):=λh0=>by
  rw[aS,gk];unfold bK;rw[if_neg (by rw[<-gk];exact h0)]
 have IJ:Hid (eg=0->u.kind≠2->u.kind≠3->KE=(K,12)):=λh0 h1 h2=>by
  rw[aS];unfold bK;rw[if_pos (by rw[<-gk];exact h0),if_pos (by rw[<-hu];exact⟨h1,h2⟩)]
 have iI:Hid (eg=0->(u.kind=2\/u.kind=3)->B=false->KE=(K,6)):=λh0 h1 h2=>by
  rw[aS];unfold bK;rw[if_pos (by rw[<-gk];exact h0),if_neg (by rw[<-hu];rcases h1 with h|h<;>rw[h]<;>decide),if_pos (by rw[<-hB];exact h2)]
 have zD:Hid (eg=0->(u.kind=2\/u.kind=3)->B=true->KE=gM K (s1,s2) u root va rights):=λh0 h1 h2=>by
  rw[aS];unfold bK;rw[if_pos (by rw[<-gk];exact h0),if_neg (by rw[<-hu];rcases h1 with h|h<;>rw[h]<;>decide),if_neg (by show¬dk K.os K.rs (4,root)=false;rw[<-hB,h2];decide),<-hu]
 rw[<-hu,<-gk] at fS;rw[<-hB] at pC;obtain⟨KM,SA⟩:=Ze (gM K (s1,s2) u root va rights);rw[<-SA] at sQ zD;obtain⟨vi,Q0⟩:∃vi:Int,vi=(va:Int):=⟨_,rfl⟩
 rw[<-Q0] at sQ|-;obtain⟨w2,aT⟩:=Ze (w.alloc (.cells #[Zi s1,Zi s2,Zi root,Zu vi,Zi rights] 103));obtain⟨ob,az⟩:=Ze (w.heap.size);obtain⟨F,hF⟩:∃F:List (Nat×Obj),F=[(ob,.cells #[Zi s1,Zi s2,Zi root,Zu vi,Zi rights] 103 (0,0))]:=⟨_,rfl⟩
 have H2:Hid (aq U w kb mb sb pb qb bb tb F K w2):=by rw[aT,hF,az];exact(aq.start h).alloc _
 have HM:Hid ((ob,.cells #[Zi s1,Zi s2,Zi root,Zu vi,Zi rights] 103 (0,0))∈F):=by rw[hF];exact List.mem_cons_self
 have ar:Hid (∀G K' wv,aq U w kb mb sb pb qb bb tb (G++F) K' wv->Zc wv ob 0 (Zi s1)/\Zc wv ob 1 (Zi s2)/\Zc wv ob 2 (Zi root)/\Zc wv ob 3 (Zu vi)/\Zc wv ob 4 (Zi rights)):=λG K' wv h=>⟨(cell_of_row _ _ 0 _ _ (0,0) (h.at (List.mem_append_right _ HM.j))).trans rfl,(cell_of_row _ _ 1 _ _ (0,0) (h.at (List.mem_append_right _ HM.j))).trans rfl,(cell_of_row _ _ 2 _ _ (0,0) (h.at (List.mem_append_right _ HM.j))).trans rfl,(cell_of_row _ _ 3 _ _ (0,0) (h.at (List.mem_append_right _ HM.j))).trans rfl,(cell_of_row _ _ 4 _ _ (0,0) (h.at (List.mem_append_right _ HM.j))).trans rfl⟩
 have aK:Hid (∀G wv,aq U w kb mb sb pb qb bb tb (G++F) K wv->Zc wv kb 1 (Zp sb)/\Zc wv ob 0 (Zi s1)/\Zc wv ob 1 (Zi s2)):=λG wv h=>⟨h.c.2.1,(ar.j G K wv h).1,(ar.j G K wv h).2.1⟩
 clear h hw hs qB jC nY aS hu gk hB SA Q0 hF;go_enter func50,ntmps50;go_upto_region 1 with fail
 rw[<-aT,<-az];clear aT az;go_upto_region 1 with fail
 go_cut [5,6] from 7 to 16 (λc7 c8 wx=>∃ub,c7=Zp ub/\c8=Zi eg/\Hid (aq U w kb mb sb pb qb bb tb ((ub,.cells (de u).toArray 97 (0,0))::F) K wx)/\Hid (¬U ub/\∀p∈F,p.1≠ub))
 case first=>
  have cN:=aa H2.j.drew;have af:=aa (aK.j [] _ cN.j);obtain⟨wA,cJ⟩:=Ze ((w2.alloc (.cells #[Zi 0,Zi 0,Zi 0,Zu 0,Zu 0,Zi 0,Zi 0,Zu 0] 97)).drew);obtain⟨ub,bh⟩:=Ze (w2.heap.size);have gU:Hid (aq U w kb mb sb pb qb bb tb ((ub,.cells qY.toArray 97 (0,0))::F) K wA):=by rw[cJ,bh];exact(H2.j.alloc _).drew
  have eT:=aa (aK.j [_] _ gU.j);have bG:Hid (¬U ub/\∀p∈F,p.1≠ub):=⟨λhu=>by have:=H2.j.low ub hu;omega,λp hp he=>by have:=au (H2.j.f p hp);omega⟩
  refine qg (S:=(λwv=>wv.cell? ⟨kb,1,none⟩=some (Zp sb)/\wv.cell? ⟨ob,0,none⟩=some (Zi s1)/\wv.cell? ⟨ob,1,none⟩=some (Zi s2))) Zx ?_;simp only[List.size_toArray,List.length_cons,List.length_nil,Nat.zero_add,Nat.reduceAdd];refine Zt 0 af.j ?_;refine Zt 1 af.j ?_;refine Zt 2 af.j ?_;refine Zt 3 af.j ?_;refine Zt 4 af.j ?_;refine Zt 5 af.j ?_;refine wpAnyH_ready (rs:=[6,10]) Zx (by simp) ?_;refine(AllReadyH.cons Zg (λK hK=>?_) (AllReadyH.cons Zg (λK hK=>?_) AllReadyH.nil))
  ·as_aux_lemma=>
    refine jy rfl 104 #[Operand.tmp 11,Operand.tmp 13] #[151,95] rfl #[Zp sb,.agg #[Zi s1,Zi s2]] (by first|rfl|simp[Act.eval,go_sem]) (by simp[go_sem]) (fS.j _ _ cN.j) ?_;rintro e w3 ⟨rfl,H3⟩;have aw:=aa (aK.j [] _ H3.j);clear bh cJ gU eT bG;obtain⟨ub,bh⟩:=Ze (w3.heap.size);obtain⟨wB,fU⟩:=Ze (w3.alloc (.cells #[Zi 0,Zi 0,Zi 0,Zu 0,Zu 0,Zi 0,Zi 0,Zu 0] 97));have fp:=aa (H3.j.alloc (.cells #[Zi 0,Zi 0,Zi 0,Zu 0,Zu 0,Zi 0,Zi 0,Zu 0] 97 (0,0)));rw[<-fU,<-bh] at fp;have mQ:=aa (aK.j [_] _ fp.j);have bG:Hid (¬U ub/\∀p∈F,p.1≠ub):=⟨λhu=>by have:=H3.j.low ub hu;omega,λp hp he=>by have:=au (H3.j.f p hp);omega⟩
    have bJ:=aa (aq.Bq fp.j u bG.j.1 bG.j.2);have dw:=aa (aK.j [_] _ bJ.j);have gq:=aa (fp.j.at List.mem_cons_self);refine⟨_,rfl,?_⟩;refine Zb hK aw.j ?_;refine Zt 7 aw.j ?_;refine Zt 8 aw.j ?_;refine Zt 9 aw.j ?_;refine Zy 10 (λK hK=>?_);go_simp;rw[<-fU,<-bh];clear fU bh;refine Zb hK mQ.j ?_;refine Zy 11 (λK hK=>?_);refine qk (.tmp 5) (.tmp 15) rfl rfl (u:=u) (ub:=ub) (by simp[Act.eval]) (by simp[Act.eval,bO,de]) gq.j ?_;refine Zb hK dw.j ?_;refine Zt 12 dw.j ?_;refine wpAnyH_done Zx ?_ _;go_wp2_with fail;go_meet;exact⟨_,rfl,rfl,bJ.j,bG.j⟩
  ·as_aux_lemma=>
    go_simp;rw[<-cJ,<-bh];clear cJ bh;refine Zb hK eT.j ?_;refine Zy 6 (λK hK=>?_);refine jy rfl 104 #[Operand.tmp 11,Operand.tmp 13] #[151,95] rfl #[Zp sb,.agg #[Zi s1,Zi s2]] (by first|rfl|simp[Act.eval,go_sem]) (by simp[go_sem]) (fS.j _ _ gU.j) ?_;rintro e w3 ⟨rfl,H3⟩;have aw:=aa (aK.j [_] _ H3.j);have bJ:=aa (aq.Bq H3.j u bG.j.1 bG.j.2);have dw:=aa (aK.j [_] _ bJ.j);have gq:=aa (H3.j.at List.mem_cons_self);refine⟨_,rfl,?_⟩;refine Zb hK aw.j ?_;refine Zt 7 aw.j ?_;refine Zt 8 aw.j ?_;refine Zt 9 aw.j ?_;refine Zy 11 (λK hK=>?_);refine qk (.tmp 5) (.tmp 15) rfl rfl (u:=u) (ub:=ub) (by simp[Act.eval]) (by simp[Act.eval,bO,de]) gq.j ?_;refine Zb hK dw.j ?_;refine Zt 12 dw.j ?_;refine wpAnyH_done Zx ?_ _;go_wp2_with fail;go_meet;exact⟨_,rfl,rfl,bJ.j,bG.j⟩
 case rest=>
  obtain⟨ub,rfl,rfl,H4,ua⟩:=hcut;clear H2 fS aK;by_cases g0:eg=0
  ·subst g0;replace IJ:Hid (u.kind≠2->u.kind≠3->KE=(K,12)):=by first|exact IJ.j rfl|exact IJ.j trivial
   replace iI:Hid ((u.kind=2\/u.kind=3)->B=false->KE=(K,6)):=by first|exact iI.j rfl|exact iI.j trivial
   replace zD:Hid ((u.kind=2\/u.kind=3)->B=true->KE=KM):=by first|exact zD.j rfl|exact zD.j trivial
   replace sQ:Hid (B=true->∀F wv,aq U w kb mb sb pb qb bb tb F K wv->Zk 107 #[Zp kb,.agg #[Zi s1,Zi s2],bO u,Zi root,Zu vi,Zi rights] wv λe w'=>Zr e (Zi KM.2)/\Hid (aq U w kb mb sb pb qb bb tb F KM.1 w')):=by first|exact sQ.j rfl|exact sQ.j trivial
   clear UF;obtain⟨d0,d1,d2,d3,d4,d5,d6,d7⟩:=H4.j.eight (c:=u) List.mem_cons_self;obtain⟨q0,q1,q2,q3,q4⟩:=ar.j [_] _ _ H4.j;by_cases k2:u.kind=2
   ·have HK:Hid (u.kind=2\/u.kind=3):=Or.inl k2;have Fi:Hid (bO u=.agg #[Zi 2,Zi u.num,Zi u.rights,Zu u.cQ,Zu u.guard,Zi u.bS,Zi u.root,Zu u.va]):=by unfold bO;rw[k2];exact rfl
    rw[k2] at d0;clear k2;go_wp2_with fail;refine(pC.j _ _ H4.j).m ?_;rintro e w4 ⟨rfl,H5⟩;clear d0 d1 d2 d3 d4 d5 d6 d7 q0 q1 q2 q3 q4 pC H4;obtain⟨d0,d1,d2,d3,d4,d5,d6,d7⟩:=H5.j.eight (c:=u) List.mem_cons_self;obtain⟨q0,q1,q2,q3,q4⟩:=ar.j [_] _ _ H5.j
    cases B with
    |false=>
     have HE:=aa (by first|exact iI.j HK.j rfl|exact iI.j HK.j trivial:KE=(K,6));go_wp2_with fail
     all_goals
      go_ret
      exact⟨Zz HE.j,by rw[HE.j];exact H5.j.fin⟩
    |true=>
     have HE:=aa (by first|exact zD.j HK.j rfl|exact zD.j HK.j trivial:KE=KM);have zy:=aa ((by first|exact sQ.j rfl|exact sQ.j trivial:∀F wv,aq U w kb mb sb pb qb bb tb F K wv->Zk 107 #[Zp kb,.agg #[Zi s1,Zi s2],bO u,Zi root,Zu vi,Zi rights] wv λe w'=>Zr e (Zi KM.2)/\Hid (aq U w kb mb sb pb qb bb tb F KM.1 w')) _ _ H5.j);rw[Fi.j] at zy;have ie:u.kind=2:=by have:=Fi.j;unfold bO at this;injection this with this;injection this with this;injection this with this _;injection this
     rw[ie] at d0;clear ie;go_wp2_with fail;refine zy.j.m ?_;rintro e w5 ⟨rfl,H6⟩;clear d0 d1 d2 d3 d4 d5 d6 d7 q0 q1 q2 q3 q4;go_wp2_with fail
     all_goals
      go_ret;exact⟨Zz HE.j,by rw[HE.j];exact H6.j.fin⟩
   ·by_cases k3:u.kind=3
    ·have HK:Hid (u.kind=2\/u.kind=3):=Or.inr k3;have Fi:Hid (bO u=.agg #[Zi 3,Zi u.num,Zi u.rights,Zu u.cQ,Zu u.guard,Zi u.bS,Zi u.root,Zu u.va]):=by unfold bO;rw[k3];exact rfl
     rw[k3] at d0;clear k2 k3;go_wp2_with fail;refine(pC.j _ _ H4.j).m ?_;rintro e w4 ⟨rfl,H5⟩;clear d0 d1 d2 d3 d4 d5 d6 d7 q0 q1 q2 q3 q4 pC H4;obtain⟨d0,d1,d2,d3,d4,d5,d6,d7⟩:=H5.j.eight (c:=u) List.mem_cons_self;obtain⟨q0,q1,q2,q3,q4⟩:=ar.j [_] _ _ H5.j
     cases B with
     |false=>
      have HE:=aa (by first|exact iI.j HK.j rfl|exact iI.j HK.j trivial:KE=(K,6));go_wp2_with fail
      all_goals
       go_ret
       exact⟨Zz HE.j,by rw[HE.j];exact H5.j.fin⟩
     |true=>
      have HE:=aa (by first|exact zD.j HK.j rfl|exact zD.j HK.j trivial:KE=KM);have zy:=aa ((by first|exact sQ.j rfl|exact sQ.j trivial:∀F wv,aq U w kb mb sb pb qb bb tb F K wv->Zk 107 #[Zp kb,.agg #[Zi s1,Zi s2],bO u,Zi root,Zu vi,Zi rights] wv λe w'=>Zr e (Zi KM.2)/\Hid (aq U w kb mb sb pb qb bb tb F KM.1 w')) _ _ H5.j);rw[Fi.j] at zy;have ie:u.kind=3:=by have:=Fi.j;unfold bO at this;injection this with this;injection this with this;injection this with this _;injection this
      rw[ie] at d0;clear ie;go_wp2_with fail;refine zy.j.m ?_;rintro e w5 ⟨rfl,H6⟩;clear d0 d1 d2 d3 d4 d5 d6 d7 q0 q1 q2 q3 q4;go_wp2_with fail
      all_goals
       go_ret;exact⟨Zz HE.j,by rw[HE.j];exact H6.j.fin⟩
    ·have n2:(u.kind !=2)=true:=by simpa using k2
     have n3:(u.kind !=3)=true:=by simpa using k3
     have HE:=aa (IJ.j k2 k3);generalize u.kind=uk at d0 n2 n3;clear k2 k3;go_wp2_with fail
     all_goals
      go_ret;exact⟨Zz HE.j,by rw[HE.j];exact H4.j.fin⟩
  ·have g1:(eg !=0)=true:=by simpa using g0
   have HE:=aa (UF.j g0);clear g0;go_wp2_with fail
   all_goals
    go_ret;exact⟨Zz HE.j,by rw[HE.j];exact H4.j.fin⟩
end
section
variable {kb mb sb pb qb bb tb:Nat} {U V S:Nat->Prop} {w wv w1 w2:World} {K K2:Kn} {F:List (Nat×Obj)}
variable {D:DataW Value} {ks:List Int} {G:Int->Nat} {T:List Kt} {L:List Ln} {ci co:List (List UInt8)} {c:Nat}
theorem pf.bj:ik (pf kb mb sb pb qb bb tb D ks G T L ci co c):=by
 rintro U V S w w2 h ho hS hV
 have hb:∀b,b<w.heap.size->¬U b->¬V b:=λb h1 h3 h4=>by
  rcases hV b h4 with h5|h5
  ·exact h3 h5
  ·omega
 have hs:=ho.size;have hk:=au h.k;have hm:=h.m.own.lt;have ht:∀t∈T,G t.num<w.heap.size:=λt ht=>au (h.th t ht)
 refine⟨(ho.block _ hk (λs=>h.uk (hS _ hk s))).trans h.k,h.m.keep ho (λs=>h.um (hS _ hm s)),h.kt,λt hh=>(ho.block _ (ht t hh) (λs=>h.ut t hh (hS _ (ht t hh) s))).trans (h.th t hh),h.gi,hb _ hk h.uk,hb _ hm h.um,λt hh=>hb _ (ht t hh) (h.ut t hh),λk hk=>?_,h.nt⟩;rcases hV k hk with h5|h5
 ·have:=h.low k h5;omega
 ·exact h5.2
abbrev kgL (kb mb sb pb qb bb tb:Nat) (D:DataW Value) (ks:List Int) (G:Int->Nat) (K:Kn):List dR:=[me sb K.bs K.es,kz mb K.n K.f,nM pb (K.n:Int) K.os K.rs,jX qb K.ts K.t K.lf K.ss K.ck,qX bb K.b,pf kb mb sb pb qb bb tb D ks G K.T K.L K.ci K.co K.c]
def ey (U:Nat->Prop) (w:World) (kb mb sb pb qb bb tb:Nat) (D:DataW Value) (ks:List Int) (G:Int->Nat) (K:Kn):Prop:=aD (kgL kb mb sb pb qb bb tb D ks G K) U w
theorem ax.g (h:ax U w kb mb sb pb qb bb tb K):∃D ks G,ey U w kb mb sb pb qb bb tb D ks G K:=by
 obtain⟨U2,⟨D,ks,G,hx⟩,_,_,kh⟩:=aD.open h 5 rfl;exact⟨D,ks,G,(kh (pf kb mb sb pb qb bb tb D ks G K.T K.L K.ci K.co K.c) w pf.bj hx (ae.refl _ _)).1⟩
theorem ey.x (h:ey U w kb mb sb pb qb bb tb D ks G K):ax U w kb mb sb pb qb bb tb K:=by
 obtain⟨U2,hx,_,_,kh⟩:=aD.open h 5 rfl;exact(kh (ph kb mb sb pb qb bb tb K.T K.L K.ci K.co K.c) w ph.bj ⟨D,ks,G,hx⟩ (ae.refl _ _)).1
theorem ey.quiet (h:ey U w kb mb sb pb qb bb tb D ks G K) (ho:Zq w w2):ey U w2 kb mb sb pb qb bb tb D ks G K:=aD.quiet h ho
theorem ey.wide (h:ey U w kb mb sb pb qb bb tb D ks G K) (ho:Zq w w2):ey (Nu U w.heap.size w2.heap.size) w2 kb mb sb pb qb bb tb D ks G K:=aD.wide h ho
theorem ey.own (h:ey U w kb mb sb pb qb bb tb D ks G K):∃U2:Nat->Prop,pf kb mb sb pb qb bb tb D ks G K.T K.L K.ci K.co K.c U2 w:=by
 obtain⟨U2,hx,_⟩:=aD.at h 5 rfl;exact⟨U2,hx⟩
theorem pf.zK (h:pf kb mb sb pb qb bb tb D ks G T L ci co c U w) {i:Nat} (hi:i<T.length) {y:Kt} (hy:y.num=T[i].num) (ho:ae (λk=>k=G T[i].num) w w2) (hb:w2.heap[G T[i].num]?=some (.cells (oK G y).toArray 261 (0,0))):pf kb mb sb pb qb bb tb D ks G (T.set i y) L ci co c U w2:=by
 have hm:∀t∈T.set i y,t=y\/∃t2∈T,t2=t/\t.num≠T[i].num\/(t∈T/\t.num=T[i].num):=λt ht=>by
  rcases List.mem_or_eq_of_mem_set ht with h1|h1
  ·by_cases h2:t.num=T[i].num
   ·exact Or.inr ⟨t,h1,Or.inr ⟨h1,h2⟩⟩
   ·exact Or.inr ⟨t,h1,Or.inl ⟨rfl,h2⟩⟩
  ·exact Or.inl h1
 have Rb:w.heap[G T[i].num]?=some (.cells (oK G T[i]).toArray 261 (0,0)):=h.th _ (List.getElem_mem hi);have mA:(T.set i y).map (·.num)=T.map (·.num):=Oy hi hy
 have gQ:∀t∈T.set i y,∃t2∈T,t2.num=t.num:=λt ht=>by
  rcases List.mem_or_eq_of_mem_set ht with h1|h1
  ·exact⟨t,h1,rfl⟩
  ·exact⟨T[i],List.getElem_mem hi,by rw[h1,hy]⟩
 refine⟨ae.keep ho h.k (λe=>cE h.k Rb Zd e),h.m.keep ho (λe=>h.m.ne Rb e.symm),by rw[mA];exact h.kt,λt ht=>?_,λt ht s hs e=>?_,h.uk,h.um,λt ht=>?_,λk hk=>Nat.lt_of_lt_of_le (h.low k hk) ho.size,by rw[List.length_set];exact h.nt⟩
 ·by_cases h2:t=y
  ·rw[h2,hy];exact hb
  ·have h1:t∈T:=(List.mem_or_eq_of_mem_set ht).resolve_right h2;by_cases h3:t.num=T[i].num
   ·
    exfalso;obtain⟨j,hj,sx⟩:=List.getElem_of_mem ht;rw[List.length_set] at hj;have gZ:(T.map (·.num)).Nodup:=h.kt.nodup_iff.1 h.m.nd;by_cases lj:i=j
    ·subst lj;rw[List.getElem_set_self] at sx;exact h2 sx.symm
    ·rw[List.getElem_set_ne lj] at sx;have:=(List.getElem_inj (i:=i) (j:=j) (h₀:=by rw[List.length_map];exact hi) (h₁:=by rw[List.length_map];exact hj) gZ).1 (by rw[List.getElem_map,List.getElem_map,sx,h3]);exact lj this
   ·exact ae.keep ho (h.th t h1) (λe=>h3 (h.gi t h1 _ (List.getElem_mem hi) e))
 ·obtain⟨t2,h2,e2⟩:=gQ t ht;obtain⟨s2,h3,e3⟩:=gQ s hs;rw[<-e2,<-e3] at e|-;exact h.gi t2 h2 s2 h3 e
 ·obtain⟨t2,h2,e2⟩:=gQ t ht;rw[<-e2];exact h.ut t2 h2
theorem ey.zK (h:ey U w kb mb sb pb qb bb tb D ks G K) {i:Nat} (hi:i<K.T.length) {y:Kt} (hy:y.num=K.T[i].num) (ho:ae (λk=>k=G K.T[i].num) w w2) (hb:w2.heap[G K.T[i].num]?=some (.cells (oK G y).toArray 261 (0,0))):ey U w2 kb mb sb pb qb bb tb D ks G {K with T:=K.T.set i y}/\Zn U w w2:=by
 obtain⟨U2,hx,_,_,kh⟩:=aD.open h 5 rfl;exact kh (pf kb mb sb pb qb bb tb D ks G (K.T.set i y) K.L K.ci K.co K.c) w2 pf.bj (hx.zK hi hy ho hb) (ho.mono (λk _ hk=>by subst hk;exact hx.ut _ (List.getElem_mem hi)))
theorem ey.th (h:ey U w kb mb sb pb qb bb tb D ks G K) {i:Nat} (hi:i<K.T.length):w.heap[G K.T[i].num]?=some (.cells (oK G K.T[i]).toArray 261 (0,0)):=by
 obtain⟨U2,hx⟩:=h.own;exact hx.th _ (List.getElem_mem hi)
theorem ey.ready (h:ey U w kb mb sb pb qb bb tb D ks G K) (n:Int) (hn:aj n):Zk 172 #[Zp qb,Zi n] w λe w'=>Zr e (Zi (fq K.ss n))/\ey U w' kb mb sb pb qb bb tb D ks G {K with ss:=(if fq K.ss n=0 then kZ K.ss K.ck n else K.ss),ck:=(if fq K.ss n=0 then K.ck+1 else K.ck)}/\Zn U w w':=
 aD.call h 3 rfl (jX.bj qb K.ts K.t K.lf (if fq K.ss n=0 then kZ K.ss K.ck n else K.ss) (if fq K.ss n=0 then K.ck+1 else K.ck)) (λU2 a=>by
  obtain⟨G,a⟩:=a;refine(Vq a n hn).m ?_;rintro e w' ⟨h1,h2,h3⟩
  exact⟨h1,⟨G,h2⟩,h3⟩)
theorem ey.xK (h:ey U w kb mb sb pb qb bb tb D ks G K) (hl:K.ss.length<1000000) (n d p:Int) (hn:aj n):Zk 55 #[Zp qb,Zi n,Zi d,Zi p] w λe w'=>Zr e (Zi (fj K.ss n d p))/\ey U w' kb mb sb pb qb bb tb D ks G {K with ss:=bU K.ss n d p}/\Zn U w w':=
 aD.call h 3 rfl (jX.bj qb K.ts K.t K.lf (bU K.ss n d p) K.ck) (λU2 a=>by
  obtain⟨G,a⟩:=a
  exact NK a hl n d p hn)
theorem WQ (G:Int->Nat) (t:Kt):(oK G t).toArray.setIfInBounds 1 (Zi 1)=(oK G {t with st:=1}).toArray:=by
 simp[oK,uB]
theorem Vm (h:ey U w kb mb sb pb qb bb tb D ks G K) {n:Int} (hn:aj n) {i:Nat} (hi:kR K.T n=some i):Zk 108 #[Zp kb,.pointer (some ⟨G n,0,none⟩),Zi 1] w λe w'=>Zr e (.tuple #[])/\ey U w' kb mb sb pb qb bb tb D ks G (nW K i n)/\Zn U w w':=by
 obtain⟨bM,dI⟩:=xG hi;have fu:K.T.getD i .df=K.T[i]:=by simp[List.getD,bM]
 have ke:=h.th bM;have h1:=heap_setCell_same w (G K.T[i].num) 1 _ _ (Zi 1) ke;rw[WQ] at h1;obtain⟨og,aB⟩:=h.zK bM (y:={K.T[i] with st:=1}) rfl ((ae.refl (λk=>k=G K.T[i].num) w).setCell (p:=⟨G K.T[i].num,1,none⟩) (Or.inl rfl) _) h1;have qH:w.cell? ⟨G K.T[i].num,0,none⟩=some (Zi K.T[i].num):=Zl ke;have ew:w.cell? ⟨G K.T[i].num,1,none⟩=some (Zi K.T[i].st):=Zl ke;have kk:=jA ke 1;have yF:(w.setCell ⟨G K.T[i].num,1,none⟩ (Zi 1)).cell? ⟨G K.T[i].num,0,none⟩=some (Zi K.T[i].num):=Zl h1;have DY:(w.setCell ⟨G K.T[i].num,1,none⟩ (Zi 1)).cell? ⟨kb,3,none⟩=some (Zp qb):=og.x.c3;rw[dI] at og aB qH ew kk yF DY;obtain⟨w1,ag⟩:=Ze (w.setCell ⟨G n,1,none⟩ (Zi 1));rw[<-ag] at og aB yF DY;have iu:=aa (⟨og,aB⟩:_/\_);obtain⟨KE,aS⟩:=Ze (nW K i n);rw[<-aS];unfold nW at aS;rw[fu] at aS;obtain⟨g,hg⟩:=Ze (G n);rw[<-hg] at qH ew kk yF ag|-;by_cases s1:K.T[i].st=1
 ·rw[if_pos s1] at aS;have HE:=aa aS;rw[s1] at ew;clear h hn hi dI fu ke h1 og aB aS s1 hg;go_enter func108,ntmps108;go_upto_region 2 with fail
  rw[<-ag];clear ag;go_wp2_with fail
  all_goals
   go_end0;exact⟨rfl,by rw[HE.j];exact iu.j⟩
 ·rw[if_neg s1] at aS;have HE:=aa aS;have n1:(K.T[i].st !=1)=true:=by simpa using s1
  have EW:Hid (Zk 172 #[Zp qb,Zi n] w1.drew λe w'=>Zr e (Zi (fq K.ss n))/\Hid (ey U w' kb mb sb pb qb bb tb D ks G KE/\Zn U w w')/\Hid (w'.cell? ⟨kb,3,none⟩=some (Zp qb)/\w'.cell? ⟨g,0,none⟩=some (Zi n))):=by
   refine((og.quiet ((ae.refl _ w1).drew)).ready n hn).m ?_;rintro e w' ⟨rfl,h8,h9⟩;have SI:ey U w' kb mb sb pb qb bb tb D ks G KE:=by rw[aS];exact h8
   refine⟨rfl,⟨SI,aB.trans (((ae.refl _ w1).drew).trans h9)⟩,h8.x.c3,?_⟩;have yA:i<(K.T.set i {K.T[i] with st:=1}).length:=by rw[List.length_set];exact bM
   have:=h8.th (i:=i) yA;have e2:(K.T.set i {K.T[i] with st:=1})[i]={K.T[i] with st:=1}:=List.getElem_set_self _;simp only[e2] at this;rw[show({K.T[i] with st:=1}:Kt).num=n from dI,<-hg] at this;exact Zl this
  have af:Hid (Zc w1.drew kb 3 (Zp qb)/\Zc w1.drew g 0 (Zi n)):=⟨DY,yF⟩
  have ak:=af;generalize K.T[i].st=sv at ew n1;clear h hn hi dI fu ke h1 og aB aS s1 hg;go_enter func108,ntmps108;go_upto_region 2 with fail
  rw[<-ag];clear ag;go_upto_region 3 with fail
  clear qH ew kk yF DY;go_region_held3 (λwv=>Zc wv kb 3 (Zp qb)/\Zc wv g 0 (Zi n)) (with_reducible (first|exact af.j|exact ak.j)) (first|(go_at_call 172;refine EW.j.m ?_;rintro e w5 ⟨rfl,H6,ak⟩));go_wp2_with fail
  all_goals
   go_end0;exact⟨rfl,H6.j⟩
end
section
variable {kb mb sb pb qb bb tb:Nat} {U V S:Nat->Prop} {w wv w1 w2:World} {K K2:Kn} {F:List (Nat×Obj)}
variable {D:DataW Value} {ks:List Int} {G:Int->Nat}
structure fO (U:Nat->Prop) (w:World) (kb mb sb pb qb bb tb:Nat) (D:DataW Value) (ks:List Int) (G:Int->Nat) (F:List (Nat×Obj)) (K:Kn) (wv:World):Prop where
 k:∃V:Nat->Prop,(∀k,U k->V k)/\(∀p∈F,V p.1)/\ey V wv kb mb sb pb qb bb tb D ks G K
 f:∀p∈F,wv.heap[p.1]?=some p.2
 o:Zn U w wv
theorem fO.start (h:ey U w kb mb sb pb qb bb tb D ks G K):fO U w kb mb sb pb qb bb tb D ks G [] K w:=⟨⟨U,λ_ h=>h,λp hp=>(by cases hp),h⟩,λp hp=>(by cases hp),ae.refl _ _⟩
theorem fO.quiet (h:fO U w kb mb sb pb qb bb tb D ks G F K wv) (ho:Zq wv w2):fO U w kb mb sb pb qb bb tb D ks G F K w2:=by
 obtain⟨⟨V,h1,h2,h3⟩,h4,h5⟩:=h;exact⟨⟨V,h1,h2,h3.quiet ho⟩,λp hp=>ae.keep ho (h4 p hp) (λh=>h),h5.trans (ho.f)⟩
theorem fO.drew (h:fO U w kb mb sb pb qb bb tb D ks G F K wv):fO U w kb mb sb pb qb bb tb D ks G F K wv.drew:=h.quiet ((ae.refl _ _).drew)
theorem fO.alloc (h:fO U w kb mb sb pb qb bb tb D ks G F K wv) (o:Obj):fO U w kb mb sb pb qb bb tb D ks G ((wv.heap.size,o)::F) K (wv.alloc o):=by
 obtain⟨⟨V,h1,h2,h3⟩,h4,h5⟩:=h;have ho:Zq wv (wv.alloc o):=(ae.refl _ wv).alloc o;refine⟨⟨_,λk hk=>Or.inl (h1 k hk),λp hp=>?_,h3.wide ho⟩,λp hp=>?_,h5.trans (ho.f)⟩
 ·rcases List.mem_cons.1 hp with rfl|hp
  ·exact Or.inr ⟨Nat.le_refl _,by simp⟩
  ·exact Or.inl (h2 p hp)
 ·rcases List.mem_cons.1 hp with rfl|hp
  ·exact heap_alloc_last wv o
  ·exact ae.keep ho (h4 p hp) (λh=>h)
theorem fO.at (h:fO U w kb mb sb pb qb bb tb D ks G F K wv) {b:Nat} {o:Obj} (hm:(b,o)∈F):wv.heap[b]?=some o:=h.f _ hm
theorem fO.call (h:fO U w kb mb sb pb qb bb tb D ks G F K wv) {f:FuncId} {args:Array Value} {v:Value} (hc:∀V,ey V wv kb mb sb pb qb bb tb D ks G K->Zk f args wv λe w'=>Zr e v/\ey V w' kb mb sb pb qb bb tb D ks G K2/\Zn V wv w'):
  Zk f args wv λe w'=>Zr e v/\Hid (fO U w kb mb sb pb qb bb tb D ks G F K2 w'):=by
 obtain⟨⟨V,h1,h2,h3⟩,h4,h5⟩:=h;refine(hc V h3).m ?_;rintro e w' ⟨rfl,h6,h7⟩;exact⟨rfl,⟨V,h1,h2,h6⟩,λp hp=>ae.keep h7 (h4 p hp) (λh=>h (h2 p hp)),h5.trans (h7.mono (λk _ h8 h9=>h8 (h1 k h9)))⟩
theorem fO.c (h:fO U w kb mb sb pb qb bb tb D ks G F K wv):wv.cell? ⟨kb,0,none⟩=some (Zp mb)/\wv.cell? ⟨kb,1,none⟩=some (Zp sb)/\wv.cell? ⟨kb,2,none⟩=some (Zp pb)/\wv.cell? ⟨kb,3,none⟩=some (Zp qb)/\wv.cell? ⟨kb,4,none⟩=some (Zp bb)/\wv.cell? ⟨kb,5,none⟩=some (.map (some tb)):=by
 obtain⟨⟨V,h1,h2,h3⟩,h4,h5⟩:=h;exact⟨h3.x.c0,h3.x.c1,h3.x.c2,h3.x.c3,h3.x.c4,h3.x.c5⟩
theorem fO.AZ (h:fO U w kb mb sb pb qb bb tb D ks G F K wv) {b:Nat} {cs:List Value} {T:TypeId} (hm:(b,.cells cs.toArray T (0,0))∈F) (j:Nat):wv.cell? ⟨b,j,none⟩=cs[j]?:=(cell_of_row _ _ j _ _ (0,0) (h.at hm)).trans (by simp)
theorem fO.x (h:fO U w kb mb sb pb qb bb tb D ks G F K wv):aq U w kb mb sb pb qb bb tb F K wv:=by
 obtain⟨⟨V,h1,h2,h3⟩,h4,h5⟩:=h;exact⟨⟨V,h1,h2,h3.x⟩,h4,h5⟩
def pX (x:Tc):List Value:=jQ .u32 x.rg++[Zu x.pc]
theorem Hy (x:Tc):(pX x).length=33:=by simp[pX,rh]
theorem af1 (x:Tc):∀u∈pX x,u.oneCell'=true:=λu hu=>by
 rcases List.mem_append.1 hu with hu|hu
 ·exact FY _ _ u hu
 ·rw[List.mem_singleton] at hu;rw[hu];rfl
theorem QB:(prog.info? 108).map (·.size)=some 33:=Zx
theorem WU (x:Tc):jx x=[Zi x.num,Zi x.bT,Zi x.prio,.bool x.qp]++pX x:=rfl
theorem I5 (G:Int->Nat) (t:Kt):oK G t=[Zi t.num,Zi t.st]++((jQ .u32 t.rg++[Zu t.pc])++[uB G t.nK,uB G t.mT,.bool t.gr]):=by
 unfold oK;rw[List.append_assoc];rfl
theorem Ov {g:Nat} {t:TypeId} {post:List Value}:∀(vs pre xY:List Value) (w:World),xY.length=vs.length->w.heap[g]?=some (.cells (pre++(xY++post)).toArray t (0,0))->(w.setCells g pre.length vs).heap[g]?=some (.cells (pre++(vs++post)).toArray t (0,0))/\ae (λk=>k=g) w (w.setCells g pre.length vs)
 |[],pre,xY,w,hl,h=>by
  have:xY=[]:=List.length_eq_zero_iff.1 hl;subst this
  exact⟨h,ae.refl _ w⟩
 |v::r,pre,[],w,hl,h=>by cases hl
 |v::r,pre,s::xY,w,hl,h=>by
  have h1:=heap_setCell_same w g pre.length _ _ v h
  have e1:(pre++(s::xY++post)).toArray.setIfInBounds pre.length v=((pre++[v])++(xY++post)).toArray:=by
   simp
  rw[e1] at h1;obtain⟨h2,h3⟩:=Ov r (pre++[v]) xY _ (by simpa using hl) h1;have e2:(pre++[v]).length=pre.length+1:=by simp
  rw[e2] at h2 h3;refine⟨?_,(ae.setCell (S:=λk=>k=g) (ae.refl _ w) (p:=⟨g,pre.length,none⟩) (Or.inl rfl) v).trans h3⟩;rw[List.append_assoc] at h2;exact h2
theorem ey.ctx (h:ey U w kb mb sb pb qb bb tb D ks G K) {i:Nat} (hi:i<K.T.length) (x:Tc):(∃w2,(storeCells ⟨G K.T[i].num,2,none⟩ (pX x)).run prog w=.ok () w2/\w2.frozen? ⟨G K.T[i].num,2,none⟩=false/\(∃v,w2.cell? ⟨G K.T[i].num,2,none⟩=some v)/\ae (λk=>k=G K.T[i].num) w w2/\ey U (w2.setCell ⟨G K.T[i].num,2,none⟩ (Zu 0)) kb mb sb pb qb bb tb D ks G {K with T:=K.T.set i {K.T[i] with rg:=pJ x.rg,pc:=x.pc}}/\Zn U w (w2.setCell ⟨G K.T[i].num,2,none⟩ (Zu 0))):=by
 have ke:=h.th hi;rw[I5] at ke;have hl:(jQ .u32 K.T[i].rg++[Value.int .u32 K.T[i].pc]).length=(pX x).length:=by rw[Hy];simp[rh]
 obtain⟨h2,h3⟩:=Ov (pX x) [Zi K.T[i].num,Zi K.T[i].st] (jQ .u32 K.T[i].rg++[Zu K.T[i].pc]) w hl ke
 have adW:w.there (G K.T[i].num) 2 (pX x).length:=λj hj=>by
  refine⟨?_,jA ke _⟩;rw[cell_of_row _ _ (2+j) _ _ (0,0) ke,List.getElem?_toArray,List.getElem?_append_right (by simp),List.getElem?_append_left (by rw[Hy] at hj;simp[rh];omega),List.getElem?_eq_getElem (by rw[Hy] at hj;simp[rh];omega)];exact rfl
 have aM:=s7 w (G K.T[i].num) 2 (pX x) adW (af1 x);have h4:=heap_setCell_same _ (G K.T[i].num) 2 _ _ (Zu 0) h2
 have e5:([Value.int .i64 K.T[i].num,Zi K.T[i].st]++(pX x++[uB G K.T[i].nK,uB G K.T[i].mT,.bool K.T[i].gr])).toArray.setIfInBounds 2 (Zu 0)=(oK G {K.T[i] with rg:=pJ x.rg,pc:=x.pc}).toArray:=by
  rw[I5,List.setIfInBounds_toArray];congr 1
 rw[e5] at h4;have ho:ae (λk=>k=G K.T[i].num) w ((w.setCells (G K.T[i].num) 2 (pX x)).setCell ⟨G K.T[i].num,2,none⟩ (Zu 0)):=h3.setCell (p:=⟨G K.T[i].num,2,none⟩) (Or.inl rfl) _;obtain⟨h7,h8⟩:=h.zK hi (y:={K.T[i] with rg:=pJ x.rg,pc:=x.pc}) rfl ho h4;exact⟨_,aM,jA h2 _,⟨Zu (x.rg 0),Zl h2⟩,h3,h7,h8⟩
end
section
variable {kb mb sb pb qb bb tb:Nat} {U V S:Nat->Prop} {w wv w1 w2:World} {K K2:Kn} {F:List (Nat×Obj)}
variable {D:DataW Value} {ks:List Int} {G:Int->Nat}
theorem U1 (w:World):(zeroValue 201).run prog w=.ok (.pointer none) w:=Zx
theorem ey.look (h:ey U w kb mb sb pb qb bb tb D ks G K) (n:Int) (hn:aj n):(Instr.lookup 155 (.map (some tb)) (Zi n) false).run prog w=.ok (match kR K.T n with|some _=>.pointer (some ⟨G n,0,none⟩)|none=>.pointer none) w:=by
 obtain⟨U2,hx⟩:=h.own;rw[hx.m.look (t:=155) (e:=201) underlying155 U1 n hn];unfold xW
 cases hf:kR K.T n with
 |some i=>
  obtain⟨hi,he⟩:=xG hf
  rw[if_pos (hx.kt.mem_iff.2 (List.mem_map.2 ⟨_,List.getElem_mem hi,he⟩))]
 |none=>
  rw[if_neg (λh9=>by
   obtain⟨t,ht,he⟩:=List.mem_map.1 (hx.kt.mem_iff.1 h9);have:=mu hf t ht
   simp[he] at this)]
theorem ag3 (h:ax U w kb mb sb pb qb bb tb K) (hw:aE K) (x:Tc) (hn:aj x.num):
  Zk 52 #[Zp kb,.agg (jx x).toArray] w λe w'=>Zr e (Zi (bP K x).2)/\ax U w' kb mb sb pb qb bb tb (bP K x).1/\Zn U w w':=by
 obtain⟨KE,aS⟩:=Ze (bP K x);rw[<-aS];obtain⟨D,ks,G,hg⟩:=h.g;obtain⟨w1,ag⟩:=Ze (w.alloc (.cells (jx x).toArray 110));obtain⟨ob,az⟩:=Ze (w.heap.size);have H1:Hid (fO U w kb mb sb pb qb bb tb D ks G [(ob,.cells (jx x).toArray 110 (0,0))] K w1):=by rw[ag,az];exact(fO.start hg).alloc _
 have ar:Hid (∀K' wv,fO U w kb mb sb pb qb bb tb D ks G [(ob,.cells (jx x).toArray 110 (0,0))] K' wv->wv.cell? ⟨kb,3,none⟩=some (Zp qb)/\wv.cell? ⟨kb,5,none⟩=some (.map (some tb))/\wv.cell? ⟨ob,0,none⟩=some (Zi x.num)/\wv.cell? ⟨ob,1,none⟩=some (Zi x.bT)/\wv.cell? ⟨ob,2,none⟩=some (Zi x.prio)/\wv.cell? ⟨ob,3,none⟩=some (.bool x.qp)/\wv.rangeAt ob 4 (pX x)):=λK' wv h=>⟨h.c.2.2.2.1,h.c.2.2.2.2.2,(h.AZ List.mem_cons_self 0).trans rfl,(h.AZ List.mem_cons_self 1).trans rfl,(h.AZ List.mem_cons_self 2).trans rfl,(h.AZ List.mem_cons_self 3).trans rfl,λq u hq=>by
  rw[h.AZ List.mem_cons_self (4+q),WU,List.getElem?_append_right (by simp)];rw[show 4+q - [Value.int .i64 x.num,Zi x.bT,Zi x.prio,.bool x.qp].length=q from by simp]
  exact hq⟩
 have rZ:Hid (∀wv,fO U w kb mb sb pb qb bb tb D ks G [(ob,.cells (jx x).toArray 110 (0,0))] K wv->(Instr.lookup 155 (.map (some tb)) (Zi x.num) false).run prog wv=.ok (match kR K.T x.num with|some _=>.pointer (some ⟨G x.num,0,none⟩)|none=>.pointer none) wv):=λwv h=>by
  obtain⟨⟨V,h1,h2,h3⟩,h4,h5⟩:=h;exact h3.look x.num hn
 have eT:Hid (∀F wv,fO U w kb mb sb pb qb bb tb D ks G F K wv->Zk 55 #[Zp qb,Zi x.num,Zi x.bT,Zi x.prio] wv λe w'=>Zr e (Zi (fj K.ss x.num x.bT x.prio))/\Hid (fO U w kb mb sb pb qb bb tb D ks G F {K with ss:=bU K.ss x.num x.bT x.prio} w')):=λF wv h=>h.call (λV h=>h.xK (by have:=hw.ns;omega) _ _ _ hn)
 have HN:=aa hn
 cases hf:kR K.T x.num with
 |none=>
  have HE:Hid (KE=(K,6)):=by show KE=(K,6);rw[aS];unfold bP;rw[hf]
  rw[hf] at rZ;have af:Hid (Zc w1.drew kb 5 (.map (some tb))/\Zc w1.drew ob 0 (Zi x.num)/\(Instr.lookup 155 (.map (some tb)) (Zi x.num) false).run prog w1.drew=.ok (.pointer none) w1.drew):=⟨(ar.j _ _ H1.j.drew).2.1,(ar.j _ _ H1.j.drew).2.2.1,rZ.j _ H1.j.drew⟩
  obtain⟨n,wF⟩:=Ze (x.num);rw[<-wF] at af;clear h hw hn aS hg hf ar rZ eT wF;go_enter func52,ntmps52;go_upto_region 1 with fail
  rw[<-ag,<-az];clear ag az;refine qg (S:=(λwv=>wv.cell? ⟨kb,5,none⟩=some (.map (some tb))/\wv.cell? ⟨ob,0,none⟩=some (Zi n)/\(Instr.lookup 155 (.map (some tb)) (Zi n) false).run prog wv=.ok (.pointer none) wv)) Zx ?_;simp only[List.size_toArray,List.length_cons,List.length_nil,Nat.zero_add,Nat.reduceAdd];refine Zt 0 af.j ?_;refine Zt 1 af.j ?_;refine Zt 2 af.j ?_;refine Zt 3 af.j ?_;refine Zt 4 af.j ?_;refine Zt 5 af.j ?_;refine Zt 6 af.j ?_;refine Zt 7 af.j ?_;refine wpAnyH_done Zx ?_ _;go_wp2_with fail
  all_goals
   go_ret
   exact⟨Zz HE.j,by rw[HE.j];exact H1.j.drew.x.fin⟩
 |some i=>
  obtain⟨bM,dI⟩:=xG hf;have fu:K.T.getD i .df=K.T[i]:=by simp[List.getD,bM]
  rw[hf] at rZ;have af:Hid (Zc w1.drew kb 5 (.map (some tb))/\Zc w1.drew ob 0 (Zi x.num)/\(Instr.lookup 155 (.map (some tb)) (Zi x.num) false).run prog w1.drew=.ok (.pointer (some ⟨G x.num,0,none⟩)) w1.drew):=⟨(ar.j _ _ H1.j.drew).2.1,(ar.j _ _ H1.j.drew).2.2.1,rZ.j _ H1.j.drew⟩
  obtain⟨ea,wM⟩:=Ze (fj K.ss x.num x.bT x.prio);obtain⟨K1,pV⟩:=Ze ({K with ss:=bU K.ss x.num x.bT x.prio});rw[<-wM,<-pV] at eT
  have HER:Hid (ea≠0->KE=(K,ea)/\K1=K):=λh0=>by
   refine⟨?_,by rw[pV,show bU K.ss x.num x.bT x.prio=K.ss from if_neg (by rw[<-wM];exact h0)]⟩;rw[aS];unfold bP;rw[hf];dsimp only;rw[if_neg (by rw[<-wM];exact h0),wM]
  have nO:Hid (K1.T=K.T):=by rw[pV];exact rfl
  have Ha:i<K1.T.length:=by rw[nO.j];exact bM
  have Ld:K1.T[i].num=x.num:=by have e:=nO.j;revert Ha;rw[e];intro _;exact dI
  obtain⟨y,hy⟩:∃y:Kt,y={K1.T[i] with rg:=pJ x.rg,pc:=x.pc}:=⟨_,rfl⟩
  obtain⟨K2,wQ⟩:=Ze ({K1 with T:=K1.T.set i y})
  have pE:Hid (ea=0->KE=(if x.qp=true then nW K2 i x.num else K2,0)):=λh0=>by
   have Ae:y={K.T.getD i .df with rg:=pJ x.rg,pc:=x.pc}:=by
    rw[hy,fu];have e:=nO.j
    revert Ha
    rw[e];intro _ _ _;rfl
   rw[aS,N3 hf (by rw[<-wM];exact h0) Ae,wQ,nO.j,pV]
  have nQ:Hid (kR K2.T x.num=some i):=by
   rw[wQ];show kR (K1.T.set i y) x.num=some i;rw[nO.j];exact N7 hf (by rw[hy];exact Ld)
  have Nq:Hid (∀wv,fO U w kb mb sb pb qb bb tb D ks G [(ob,.cells (jx x).toArray 110 (0,0))] K1 wv->∃w2,(storeCells ⟨G x.num,2,none⟩ (pX x)).run prog wv=.ok () w2/\w2.frozen? ⟨G x.num,2,none⟩=false/\(∃v,w2.cell? ⟨G x.num,2,none⟩=some v)/\fO U w kb mb sb pb qb bb tb D ks G [(ob,.cells (jx x).toArray 110 (0,0))] K2 (w2.setCell ⟨G x.num,2,none⟩ (Zu 0))):=λwv h=>by
   obtain⟨⟨V,h1,h2,h3⟩,h4,h5⟩:=h;obtain⟨w2,a1,a2,a3,_,a4,a5⟩:=h3.ctx Ha x;rw[Ld] at a1 a2 a3 a4 a5;refine⟨w2,a1,a2,a3,⟨V,h1,h2,by rw[wQ,hy];exact a4⟩,λp hp=>ae.keep a5 (h4 p hp) (λh=>h (h2 p hp)),h5.trans (a5.mono (λk _ h8 h9=>h8 (h1 k h9)))⟩
  obtain⟨n,wF⟩:=Ze (x.num);obtain⟨g,yC⟩:=Ze (G x.num);have dG:Hid (∀wv,fO U w kb mb sb pb qb bb tb D ks G [(ob,.cells (jx x).toArray 110 (0,0))] K2 wv->Zk 108 #[Zp kb,.pointer (some ⟨G x.num,0,none⟩),Zi 1] wv λe w'=>Zr e (.tuple #[])/\Hid (fO U w kb mb sb pb qb bb tb D ks G [(ob,.cells (jx x).toArray 110 (0,0))] (nW K2 i x.num) w')):=λwv h=>h.call (λV h=>Vm h hn nQ.j)
  rw[<-yC] at dG Nq af;rw[<-wF] at af eT pE;obtain⟨KR,LJ⟩:=Ze (nW K2 i x.num);rw[<-LJ] at dG;rw[wF,<-LJ] at pE;replace ar:Hid (∀K' wv,fO U w kb mb sb pb qb bb tb D ks G [(ob,.cells (jx x).toArray 110 (0,0))] K' wv->Zc wv kb 3 (Zp qb)/\Zc wv ob 0 (Zi n)/\Zc wv ob 1 (Zi x.bT)/\Zc wv ob 2 (Zi x.prio)/\Zc wv ob 3 (.bool x.qp)/\wv.rangeAt ob 4 (pX x)):=λK' wv h=>by rw[wF];exact⟨(ar.j K' wv h).1,(ar.j K' wv h).2.2⟩
  obtain⟨d,hd⟩:=Ze (x.bT);obtain⟨p,hp⟩:=Ze (x.prio);obtain⟨r,hr⟩:=Ze (x.qp);obtain⟨cx,BY⟩:=Ze (pX x);have mc:Hid (some 33=some cx.toArray.size):=by rw[BY];exact congrArg some (Hy x).symm
  rw[<-hd,<-hp] at eT;rw[<-hd,<-hp,<-hr,<-BY] at ar;rw[<-hr] at pE;rw[<-BY] at Nq;clear h hw hn aS hg hf rZ wM pV bM dI fu Ha Ld hy wQ wF yC LJ hd hp hr BY nO nQ;go_enter func52,ntmps52;go_upto_region 1 with fail
  rw[<-ag,<-az];clear ag az;refine qg (S:=(λwv=>wv.cell? ⟨kb,5,none⟩=some (.map (some tb))/\wv.cell? ⟨ob,0,none⟩=some (Zi n)/\(Instr.lookup 155 (.map (some tb)) (Zi n) false).run prog wv=.ok (Zp g) wv)) Zx ?_;simp only[List.size_toArray,List.length_cons,List.length_nil,Nat.zero_add,Nat.reduceAdd];refine Zt 0 af.j ?_;refine Zt 1 af.j ?_;refine Zt 2 af.j ?_;refine Zt 3 af.j ?_;refine Zt 4 af.j ?_;refine Zt 5 af.j ?_;refine Zt 6 af.j ?_;refine Zt 7 af.j ?_;refine wpAnyH_done Zx ?_ _;have H2:=aa H1.j.drew;clear af H1;obtain⟨w2,aT⟩:=Ze (w1.drew);rw[<-aT] at H2|-;clear aT;go_upto_region 4 with fail
  have eC:=aa (eT.j _ _ H2.j.drew);have af:Hid (Zc w2.drew kb 3 (Zp qb)/\Zc w2.drew ob 0 (Zi n)/\Zc w2.drew ob 1 (Zi d)/\Zc w2.drew ob 2 (Zi p)):=⟨(ar.j _ _ H2.j.drew).1,(ar.j _ _ H2.j.drew).2.1,(ar.j _ _ H2.j.drew).2.2.1,(ar.j _ _ H2.j.drew).2.2.2.1⟩
  have ak:=af;go_region_held3 (λwv=>Zc wv kb 3 (Zp qb)/\Zc wv ob 0 (Zi n)/\Zc wv ob 1 (Zi d)/\Zc wv ob 2 (Zi p)) (with_reducible (first|exact af.j|exact ak.j)) (first|(go_at_call 55;refine eC.j.m ?_;rintro e w3 ⟨rfl,H3⟩;have ak:Hid (Zc w3 kb 3 (Zp qb)/\Zc w3 ob 0 (Zi n)/\Zc w3 ob 1 (Zi d)/\Zc w3 ob 2 (Zi p)):=⟨(ar.j _ _ H3.j).1,(ar.j _ _ H3.j).2.1,(ar.j _ _ H3.j).2.2.1,(ar.j _ _ H3.j).2.2.2.1⟩));clear af ak eC H2;by_cases e0:ea=0
  ·have HE:=aa (pE.j e0);subst e0;obtain⟨w4,cG,kk,⟨v4,GK⟩,H5⟩:=Nq.j _ H3.j;have H5:=aa H5;have dp:=aa (ar.j _ _ H3.j).2.2.2.2.2;obtain⟨w5,dN⟩:=Ze (w4.setCell ⟨g,2,none⟩ (Zu 0));rw[<-dN] at H5;have q3:=(ar.j _ _ H5.j).2.2.2.2.1;have mF:cx.length=33:=by have:=mc.j;injection this with this;simpa using this.symm
   go_upto_region 7 with fail
   go_upto_region 9 with(refine wpList_load_mid rfl 108 (.tmp 31) rfl ob 4 rfl cx _ dp.j underlying108 rfl (by rw[QB];exact mc.j) ?_)
   rw[<-dN];clear dN cG kk GK dp mF
   cases r with
   |true=>
    have ES:=aa (dG.j _ H5.j);go_wp2_with fail;refine ES.j.m ?_;rintro e w6 ⟨rfl,H6⟩;go_wp2_with fail
    all_goals
     go_ret
     exact⟨Zz HE.j,by rw[HE.j];exact H6.j.x.fin⟩
   |false=>
    go_wp2_with fail
    all_goals
     go_ret;exact⟨Zz HE.j,by rw[HE.j];exact H5.j.x.fin⟩
  ·have e1:(ea !=0)=true:=by simpa using e0
   have HE:=aa (HER.j e0);clear e0;go_wp2_with fail
   all_goals
    go_ret;exact⟨congrArg (λz:Kn×Int=>Ending.returned (Value.int .i64 z.2)) HE.j.1.symm,by rw[HE.j.1];have:=H3.j.x.fin;rw[HE.j.2] at this;exact this⟩
end
section
variable {kb mb sb pb qb bb tb:Nat} {U V S:Nat->Prop} {w wv w1 w2:World} {K K2:Kn} {F:List (Nat×Obj)}
def vU:Lay Ln:=⟨eE,4,λ_=>rfl,λt u hu=>by
 simp only[eE,List.mem_cons,List.not_mem_nil,or_false] at hu
 rcases hu with rfl|rfl|rfl|rfl<;>rfl,Zd⟩
theorem Mg {α:Type} (L:Lay α):∀(xs:List α) (k:Nat) (hk:k<xs.length) (j:Nat),j<L.sz->(fl L xs)[k*L.sz+j]?=(L.cf xs[k])[j]?
 |[],k,hk,j,hj=>by simp at hk
 |a::r,0,hk,j,hj=>by
  rw[ov,Nat.zero_mul,Nat.zero_add,List.getElem?_append_left (by rw[L.len];exact hj)]
  rfl
 |a::r,k+1,hk,j,hj=>by
  rw[ov,List.getElem?_append_right (by rw[L.len,Nat.add_mul];omega),L.len,show(k+1)*L.sz+j - L.sz=k*L.sz+j by rw[Nat.add_mul];omega];exact Mg L r k (by simpa using hk) j hj
theorem xD {mb sb pb qb bb tb:Nat} {L:List Ln} {ci co:List (List UInt8)} {c i:Nat} (hi:i<L.length) {j:Nat} (hj:j<4):(lG mb sb pb qb bb tb L ci co c)[6+i*4+j]?=(eE L[i])[j]?:=by
 unfold lG;rw[List.getElem?_append_right (by simp;omega)];rw[show 6+i*4+j - [Value.pointer (some ⟨mb,0,none⟩),Zp sb,Zp pb,Zp qb,Zp bb,.map (some tb)].length=i*4+j from by simp;omega];have h1:=Mg vU L i hi j hj;rw[show vU.sz=4 from rfl] at h1;rw[List.getElem?_append_left ?_]
 ·exact h1
 ·have:(L.flatMap eE).length=L.length*4:=by
   clear h1 hi
   induction L with
   |nil=>rfl
   |cons a r ih=>rw[List.flatMap_cons,List.length_append,ih];show 4+_=_;simp;omega
  rw[this];omega
theorem zG {mb sb pb qb bb tb:Nat} {L:List Ln} {ci co:List (List UInt8)} {c i:Nat} (hi:i<L.length) {j:Nat} (hj:j<4) {v:Value} {y:Ln} (he:(eE L[i]).set j v=eE y):(lG mb sb pb qb bb tb L ci co c).toArray.setIfInBounds (6+i*4+j) v=(lG mb sb pb qb bb tb (L.set i y) ci co c).toArray:=by
 have hl:(L.flatMap eE).length=L.length*4:=by
  clear hi he
  induction L with
  |nil=>rfl
  |cons a r ih=>rw[List.flatMap_cons,List.length_append,ih];show 4+_=_;simp;omega
 rw[List.setIfInBounds_toArray];congr 1;unfold lG;rw[List.set_append,if_neg (by simp;omega)];congr 1;rw[show 6+i*4+j - [Value.pointer (some ⟨mb,0,none⟩),Zp sb,Zp pb,Zp qb,Zp bb,.map (some tb)].length=i*4+j from by simp;omega];rw[List.set_append,if_pos (by rw[hl];omega)];congr 1;exact Hv vU y j v L i hi hj he
theorem pf.db {D:DataW Value} {ks:List Int} {G:Int->Nat} {T:List Kt} {L L2:List Ln} {ci co:List (List UInt8)} {c:Nat} (h:pf kb mb sb pb qb bb tb D ks G T L ci co c U w) (ho:ae (λk=>k=kb) w w2) (hb:w2.heap[kb]?=some (.cells (lG mb sb pb qb bb tb L2 ci co c).toArray 163 (0,0))):pf kb mb sb pb qb bb tb D ks G T L2 ci co c U w2:=
 ⟨hb,h.m.keep ho (λe=>h.m.ne h.k e.symm),h.kt,λt ht=>ae.keep ho (h.th t ht) (λe=>cE (h.th t ht) h.k Zd e),h.gi,h.uk,h.um,h.ut,λk hk=>Nat.lt_of_lt_of_le (h.low k hk) ho.size,h.nt⟩
theorem ax.db {L2:List Ln} (h:ax U w kb mb sb pb qb bb tb K) (ho:ae (λk=>k=kb) w w2) (hb:w2.heap[kb]?=some (.cells (lG mb sb pb qb bb tb L2 K.ci K.co K.c).toArray 163 (0,0))):ax U w2 kb mb sb pb qb bb tb {K with L:=L2}/\Zn U w w2:=by
 obtain⟨U2,⟨D,ks,G,hx⟩,_,_,kh⟩:=aD.open h 5 rfl;exact kh (ph kb mb sb pb qb bb tb K.T L2 K.ci K.co K.c) w2 ph.bj ⟨D,ks,G,hx.db ho hb⟩ (ho.mono (λk _ hk=>by subst hk;exact hx.uk))
theorem aq.bind (h:aq U w kb mb sb pb qb bb tb F K wv) (hl:K.L.length=8) {i:Nat} (hi:i<8) (b g:Int) (hm:(K.L.getD i .df).pL=false) (hp:(K.L.getD i .df).pd=false):aq U w kb mb sb pb qb bb tb F {K with L:=K.L.set i ⟨b,g,false,false⟩} ((wv.setCell ⟨kb,6+i*4,none⟩ (Zi b)).setCell ⟨kb,6+i*4+1,none⟩ (Zu g)):=by
 obtain⟨⟨V,h1,h2,h3⟩,h4,h5⟩:=h;have bM:i<K.L.length:=Zo;have fu:K.L.getD i .df=K.L[i]:=by simp[List.getD,bM]
 rw[fu] at hm hp;have hk:=h3.k;have e1:=heap_setCell_same wv kb (6+i*4) _ _ (Zi b) hk;have s1:=zG (mb:=mb) (sb:=sb) (pb:=pb) (qb:=qb) (bb:=bb) (tb:=tb) (ci:=K.ci) (co:=K.co) (c:=K.c) bM (j:=0) Zd (v:=Zi b) (y:={K.L[i] with dj:=b}) rfl;rw[Nat.add_zero] at s1;rw[s1] at e1;have e2:=heap_setCell_same _ kb (6+i*4+1) _ _ (Zu g) e1
 have s2:=zG (mb:=mb) (sb:=sb) (pb:=pb) (qb:=qb) (bb:=bb) (tb:=tb) (ci:=K.ci) (co:=K.co) (c:=K.c) (L:=K.L.set i {K.L[i] with dj:=b}) (i:=i) (by rw[List.length_set];exact bM) (j:=1) Zd (v:=Zu g) (y:=⟨b,g,false,false⟩) (by
  rw[List.getElem_set_self];show[Value.int .i64 b,Zu g,.bool K.L[i].pL,.bool K.L[i].pd]=_;rw[hm,hp]
  rfl)
 rw[s2,List.set_set] at e2;obtain⟨h6,h7⟩:=h3.db (((ae.refl (λk=>k=kb) wv).setCell (p:=⟨kb,6+i*4,none⟩) (Or.inl rfl) _).setCell (p:=⟨kb,6+i*4+1,none⟩) (Or.inl rfl) _) e2;exact⟨⟨V,h1,h2,h6⟩,λp hp=>ae.keep h7 (h4 p hp) (λh=>h (h2 p hp)),h5.trans (h7.mono (λk _ h8 h9=>h8 (h1 k h9)))⟩
theorem aq.line (h:aq U w kb mb sb pb qb bb tb F K wv) (hl:K.L.length=8) {i:Nat} (hi:i<8):wv.cell? ⟨kb,6+i*4,none⟩=some (Zi (K.L.getD i .df).dj)/\(∃v,wv.cell? ⟨kb,6+i*4+1,none⟩=some v)/\∀j,wv.frozen? ⟨kb,j,none⟩=false:=by
 obtain⟨⟨V,h1,h2,h3⟩,h4,h5⟩:=h;have bM:i<K.L.length:=Zo;have fu:K.L.getD i .df=K.L[i]:=by simp[List.getD,bM]
 have hk:=h3.k;have e0:=xD (mb:=mb) (sb:=sb) (pb:=pb) (qb:=qb) (bb:=bb) (tb:=tb) (ci:=K.ci) (co:=K.co) (c:=K.c) bM (j:=0) Zd;have e1:=xD (mb:=mb) (sb:=sb) (pb:=pb) (qb:=qb) (bb:=bb) (tb:=tb) (ci:=K.ci) (co:=K.co) (c:=K.c) bM (j:=1) Zd;rw[Nat.add_zero] at e0;rw[fu];refine⟨(cell_of_row _ _ _ _ _ (0,0) hk).trans (by rw[List.getElem?_toArray,e0];rfl),⟨Zu K.L[i].jW,(cell_of_row _ _ _ _ _ (0,0) hk).trans (by rw[List.getElem?_toArray,e1];rfl)⟩,λj=>jA hk j⟩
theorem aq.half (h:aq U w kb mb sb pb qb bb tb F K wv) (hl:K.L.length=8) {i:Nat} (hi:i<8) (b:Int):(∃v,(wv.setCell ⟨kb,6+i*4,none⟩ (Zi b)).cell? ⟨kb,6+i*4+1,none⟩=some v)/\(wv.setCell ⟨kb,6+i*4,none⟩ (Zi b)).frozen? ⟨kb,6+i*4+1,none⟩=false:=by
 obtain⟨⟨V,h1,h2,h3⟩,h4,h5⟩:=h;have bM:i<K.L.length:=Zo;have e1:=heap_setCell_same wv kb (6+i*4) _ _ (Zi b) h3.k;have s1:=zG (mb:=mb) (sb:=sb) (pb:=pb) (qb:=qb) (bb:=bb) (tb:=tb) (ci:=K.ci) (co:=K.co) (c:=K.c) bM (j:=0) Zd (v:=Zi b) (y:={K.L[i] with dj:=b}) rfl;rw[Nat.add_zero] at s1;rw[s1] at e1;have e2:=xD (mb:=mb) (sb:=sb) (pb:=pb) (qb:=qb) (bb:=bb) (tb:=tb) (ci:=K.ci) (co:=K.co) (c:=K.c) (L:=K.L.set i {K.L[i] with dj:=b}) (i:=i) (by rw[List.length_set];exact bM) (j:=1) Zd;refine⟨⟨Zu K.L[i].jW,(cell_of_row _ _ _ _ _ (0,0) e1).trans ?_⟩,jA e1 _⟩;rw[List.getElem?_toArray,e2,List.getElem_set_self];rfl
theorem aga (h:ax U w kb mb sb pb qb bb tb K) (hl:K.L.length=8) (hz:∀l∈K.L,l.pL=false/\l.pd=false) (x1 x2 x3:Int) (h2:aj x2):
  Zk 54 #[Zp kb,.agg #[Zi x1,Zi x2,Zu x3]] w λe w'=>Zr e (Zi (cF K (x1,x2,x3)).2)/\ax U w' kb mb sb pb qb bb tb (cF K (x1,x2,x3)).1/\Zn U w w':=by
 obtain⟨KE,aS⟩:=Ze (cF K (x1,x2,x3));rw[<-aS];unfold cF at aS;dsimp only at aS;have r8:=aa (λw=>Kb x1 w);obtain⟨w1,ag⟩:=Ze (w.alloc (.cells #[Zi x1,Zi x2,Zu x3] 112));obtain⟨ob,az⟩:=Ze (w.heap.size);obtain⟨F,hF⟩:∃F:List (Nat×Obj),F=[(ob,.cells #[Zi x1,Zi x2,Zu x3] 112 (0,0))]:=⟨_,rfl⟩
 have H1:Hid (aq U w kb mb sb pb qb bb tb F K w1):=by rw[ag,hF,az];exact(aq.start h).alloc _
 have HM:Hid ((ob,.cells #[Zi x1,Zi x2,Zu x3] 112 (0,0))∈F):=by rw[hF];exact List.mem_cons_self
 have ar:Hid (∀K' wv,aq U w kb mb sb pb qb bb tb F K' wv->Zc wv ob 0 (Zi x1)/\Zc wv ob 1 (Zi x2)/\Zc wv ob 2 (Zu x3)):=λK' wv h=>h.three HM.j
 have pC:Hid (∀wv,aq U w kb mb sb pb qb bb tb F K wv->Zk 101 #[Zp kb,.agg #[Zi 8,Zi x2]] wv λe w'=>Zr e (.bool (dk K.os K.rs (8,x2)))/\Hid (aq U w kb mb sb pb qb bb tb F K w')):=λwv h=>h.read (λV h=>Gz h _ _ h2)
 obtain⟨B,hB⟩:=Ze (dk K.os K.rs (8,x2));rw[<-hB] at pC aS;have IC:=aa hl;have HZ:=aa hz;obtain⟨q0,q1,q2⟩:=ar.j _ _ H1.j;clear h h2 hF hB hl hz;by_cases b0:x1<0\/7<x1
 ·rw[if_pos b0] at aS;have HE:=aa aS;rw[decide_eq_false (show¬(0<=x1/\x1<8) from Zo)] at r8;clear aS b0;go_enter func54,ntmps54;go_upto_region 1 with fail
  rw[<-ag,<-az];clear ag az;go_wp2_with fail;refine(r8.j _).e1 ?_;go_wp2_with fail
  all_goals
   go_ret;exact⟨Zz HE.j,by rw[HE.j];exact H1.j.fin⟩
 ·rw[if_neg b0] at aS;rw[decide_eq_true (show 0<=x1/\x1<8 from Zo)] at r8;obtain⟨li,KX⟩:∃li:Nat,x1=(li:Int):=⟨x1.toNat,Zo⟩
  subst KX;have ah:li<8:=Zo;have eM:=aa ah;have bf:0<=(li:Int)/\(li:Int)<8:=Zo;rw[Int.toNat_natCast] at aS;have gD:=aa aS;clear b0 aS;go_enter func54,ntmps54;go_upto_region 1 with fail
  rw[<-ag,<-az];clear ag az;go_wp2_with fail;refine(r8.j _).e1 ?_;go_wp2_with fail;refine(pC.j _ H1.j).m ?_;rintro e w2 ⟨rfl,H2⟩;clear q0 q1 q2 H1 r8 pC;obtain⟨q0,q1,q2⟩:=ar.j _ _ H2.j
  cases B with
  |false=>
   have HE:Hid (KE=(K,6)):=by show KE=(K,6);rw[gD.j];first|rw[if_pos rfl]|rw[if_pos trivial]
   go_wp2_with fail
   all_goals
    go_ret
    exact⟨Zz HE.j,by rw[HE.j];exact H2.j.fin⟩
  |true=>
   replace gD:Hid (KE=(if (K.L.getD li .df).dj≠ -1 then (K,7) else ({K with L:=K.L.set li ⟨x2,x3,false,false⟩},0))):=by
    have h9:=gD.j;rw[if_neg Zd] at h9;exact h9
   go_upto_region 5 with fail
   go_quiet (fail);go_upto_region 6 with fail
   obtain⟨w3,dz⟩:=Ze (w2.drewN nq);have H3:Hid (aq U w kb mb sb pb qb bb tb F K w3):=by rw[dz];exact H2.j.quiet ((ae.refl _ w2).drewN nq)
   rw[<-dz];clear dz q0 q1 q2 H2;obtain⟨gn,⟨v1,bc⟩,kk⟩:=H3.j.line IC.j eM.j;obtain⟨bl,cw⟩:=Ze ((K.L.getD li .df).dj);rw[<-cw] at gn gD;clear cw;by_cases n1:bl= -1
   ·subst n1;have HE:Hid (KE=({K with L:=K.L.set li ⟨x2,x3,false,false⟩},0)):=by show KE=_;rw[gD.j,if_neg Zd]
    have oV:(K.L.getD li .df).pL=false/\(K.L.getD li .df).pd=false:=by
     have AA:li<K.L.length:=by have:=IC.j;have:=eM.j;omega
     have:K.L.getD li .df=K.L[li]:=by simp[List.getD,AA]
     rw[this];exact HZ.j _ (List.getElem_mem AA)
    have H6:=aa (H3.j.drew.bind IC.j eM.j x2 x3 oV.1 oV.2);obtain⟨w4,eF⟩:=Ze ((w3.setCell ⟨kb,6+li*4,none⟩ (Zi x2)).drew);replace H6:Hid (aq U w kb mb sb pb qb bb tb F {K with L:=K.L.set li ⟨x2,x3,false,false⟩} (w4.setCell ⟨kb,6+li*4+1,none⟩ (Zu x3))):=by rw[eF];exact H6
    obtain⟨⟨v4,GK⟩,R3⟩:=H3.j.half IC.j eM.j x2;replace GK:w4.cell? ⟨kb,6+li*4+1,none⟩=some v4:=by rw[eF];exact GK
    replace R3:w4.frozen? ⟨kb,6+li*4+1,none⟩=false:=by rw[eF];exact R3
    have af:Hid (Zc w3.drew ob 1 (Zi x2)/\Zc w3.drew ob 2 (Zu x3)):=(ar.j _ _ H3.j.drew).2
    have dw:Hid (w4.cell? ⟨ob,1,none⟩=some (Zi x2)/\w4.cell? ⟨ob,2,none⟩=some (Zu x3)):=by
     have cu:ob≠kb:=by
      intro e;have h1:=H3.j.at HM.j;obtain⟨⟨V,a1,a2,a3⟩,a4,a5⟩:=H3.j;rw[e,a3.k] at h1;injection h1 with h1
      injection h1 with _ h1
      exact absurd h1 Zd
     have BS:ae (λk=>k=kb) w3.drew w4:=by rw[eF];exact((ae.refl (λk=>k=kb) w3.drew).setCell (p:=⟨kb,6+li*4,none⟩) (Or.inl rfl) (Zi x2))
     have Rs:ob<w3.drew.heap.size:=au (H3.j.drew.at HM.j);exact⟨(BS.cell (p:=⟨ob,1,none⟩) Rs cu).trans af.j.1,(BS.cell (p:=⟨ob,2,none⟩) Rs cu).trans af.j.2⟩
    obtain⟨w5,dN⟩:=Ze (w4.setCell ⟨kb,6+li*4+1,none⟩ (Zu x3));rw[<-dN] at H6;have Bc:Hid (Zc w5 ob 1 (Zi x2)/\Zc w5 ob 2 (Zu x3)):=(ar.j _ _ H6.j).2;clear oV bc;go_upto_region 8 with fail
    refine qg (S:=(λwv=>wv.cell? ⟨ob,1,none⟩=some (Zi x2)/\wv.cell? ⟨ob,2,none⟩=some (Zu x3))) Zx ?_;simp only[List.size_toArray,List.length_cons,List.length_nil,Nat.zero_add,Nat.reduceAdd];refine Zt 0 af.j ?_;refine Zt 1 af.j ?_;refine Zt 2 af.j ?_;refine Zt 3 af.j ?_;refine Zt 4 af.j ?_;refine Zt 5 af.j ?_;refine Zt 6 af.j ?_;refine Zt 7 af.j ?_;refine Zy 8 (λK hK=>?_);go_simp;rw[<-eF];clear eF;refine Zb hK dw.j ?_;refine Zt 9 dw.j ?_;refine Zt 10 dw.j ?_;refine Zy 11 (λK hK=>?_);go_simp;rw[<-dN];clear dN;refine Zb hK Bc.j ?_;refine wpAnyH_done Zx ?_ _;go_wp2_with fail
    all_goals
     go_ret;exact⟨Zz HE.j,by rw[HE.j];exact H6.j.fin⟩
   ·have n2:(bl != -1)=true:=by simpa using n1
    have HE:Hid (KE=(K,7)):=by show KE=(K,7);rw[gD.j,if_pos n1]
    clear n1;go_wp2_with fail
    all_goals
     go_ret;exact⟨Zz HE.j,by rw[HE.j];exact H3.j.fin⟩
end
section
variable {kb mb sb pb qb bb tb:Nat} {U V S:Nat->Prop} {w wv w1 w2:World} {K K2:Kn} {F:List (Nat×Obj)}
def bI (K:Kn):Prop:=aE K/\∀l∈K.L,l.pL=false/\l.pd=false
theorem aaU (K:Kn) (x:Int×Int×Int):(cj K x).1.L=K.L:=by
 unfold cj ly;dsimp only
 repeat (first|rfl|split)
theorem afm (K:Kn) (x:Int×List UInt8):(cV K x).1.L=K.L:=by
 unfold cV
 repeat (first|rfl|split)
theorem afg (K:Kn) (x:En):(bY K x).1.L=K.L:=by
 unfold bY
 repeat (first|rfl|split)
theorem abO (K:Kn) (x:Mp):(bK K x).1.L=K.L:=by
 unfold bK gM
 repeat (first|rfl|split)
theorem WK (K:Kn) (x:Tc):(bP K x).1.L=K.L:=by
 unfold bP
 cases kR K.T x.num with
 |none=>rfl
 |some i=>
  dsimp only
  repeat (first|rfl|split)
theorem bI.obj (h:bI K) (x:Int×Int×Int) (hi:aj x.2.1):bI (cj K x).1:=⟨h.1.obj x hi,by rw[aaU];exact h.2⟩
theorem bI.Eu (h:bI K) (x:Int×List UInt8):bI (cV K x).1:=⟨h.1.Eu x,by rw[afm];exact h.2⟩
theorem bI.cap (h:bI K) (x:En) (hg:kE x.cap) (hn:aj x.cap.num):bI (bY K x).1:=⟨h.1.cap x hg hn,by rw[afg];exact h.2⟩
theorem bI.map (h:bI K) (x:Mp):bI (bK K x).1:=⟨h.1.map x,by rw[abO];exact h.2⟩
theorem bI.dh (h:bI K) (x:Tc) (hx:xe x):bI (bP K x).1:=⟨h.1.dh x hx,by rw[WK];exact h.2⟩
theorem bI.irq (h:bI K) (x:Int×Int×Int):bI (cF K x).1:=by
 refine⟨h.1.irq x,?_⟩;unfold cF
 split
 ·exact h.2
 ·split
  ·exact h.2
  ·split
   ·exact h.2
   ·intro l hl;rcases List.mem_or_eq_of_mem_set hl with hl|hl
    ·exact h.2 l hl
    ·rw[hl];exact⟨rfl,rfl⟩
structure jM {α:Type} (L:Lay α) (U:Nat->Prop) (w:World) (p:Option Addr) (xs:List α):Prop where
 r:0<xs.length->∃g o,p=some ⟨g,o,none⟩/\U g/\kv L w g o xs
 n:xs.length<=9223372036854775807
theorem jM.keep {α:Type} {L:Lay α} {p:Option Addr} {xs:List α} (h:jM L U w p xs) (ho:Zn U w w2):jM L U w2 p xs:=⟨λh0=>by
 obtain⟨g,o,h1,h2,h3⟩:=h.r h0
 exact⟨g,o,h1,h2,h3.keep ho (λh=>h h2)⟩,h.n⟩
theorem kv.Bv {α:Type} {L:Lay α} {g o:Nat} {xs:List α} (h:kv L w g o xs) {k:Nat} (hk:k<xs.length):w.rangeAt g (o+k*L.sz) (L.cf xs[k]):=λq u hq=>by
 have yu:q<L.sz:=by rw[<-L.len xs[k]];exact(List.getElem?_eq_some_iff.1 hq).1
 rw[h.c k hk q yu];exact hq
theorem aq.fill {xb:Nat} {T:TypeId} {zs cs:List Value} (h:aq U w kb mb sb pb qb bb tb ((xb,.cells zs.toArray T (0,0))::F) K wv) (hl:zs.length=cs.length) (h1:∀v∈cs,v.oneCell'=true) (hU:¬U xb) (hF:∀p∈F,p.1≠xb):∃w2,(storeCells ⟨xb,0,none⟩ cs).run prog wv=.ok () w2/\aq U w kb mb sb pb qb bb tb ((xb,.cells cs.toArray T (0,0))::F) K w2:=by
 have hb:=h.at List.mem_cons_self;obtain⟨h2,h3⟩:=uD cs [] zs wv hl hb;refine⟨_,s7 wv xb 0 cs (λq hq=>⟨?_,jA hb _⟩) h1,h.fh h3 h2 hU hF⟩;rw[Nat.zero_add,cell_of_row _ _ q _ _ (0,0) hb,List.getElem?_toArray,List.getElem?_eq_getElem Zo];rfl
theorem aq.Bu {xb:Nat} {T:TypeId} {cs:List Value} (h:aq U w kb mb sb pb qb bb tb F K wv) (hm:(xb,.cells cs.toArray T (0,0))∈F):wv.rangeAt xb 0 cs:=λq u hq=>by
 rw[Nat.zero_add,h.AZ hm q];exact hq
end
end Go.Proofs.YtphkconoooeidaaGreatDoor

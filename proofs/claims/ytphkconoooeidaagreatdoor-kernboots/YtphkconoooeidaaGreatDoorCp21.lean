import Derived.Test.YtphkconoooeidaaGreatDoorCp19
import Derived.Test.YtphkconoooeidaaGreatDoorCp20
set_option maxRecDepth 100000
set_option maxHeartbeats 8000000
set_option linter.unusedVariables false
set_option linter.unusedSimpArgs false
open Go Go.Vx Go.Proofs.Tryz Go.ChangeShapes Go.WideShapes Go.ChangeAt Go.RowKit
namespace Go.Proofs.YtphkconoooeidaaGreatDoor
section
variable {kb mb sb pb qb bb:Nat} {vT:Value} {U V S:Nat->Prop} {w wv w2:World} {K K2:Kn} {F:List (Nat×Obj)}
theorem acp (h:fF U w kb mb sb pb qb bb K) (bq:K.bs.length<1000000) (Ay:K.b.ps.length<1000000) (ah:K.T.length<1000) (sm:(K.T.map (·.num)).Pairwise (·<·)) (k n size:Int):Zk 59 #[Zp kb,.agg #[Zi k,Zi n],Zi size] w λe w'=>Zr e (.tuple #[])/\fF U w' kb mb sb pb qb bb (ly K (k,n) size)/\Zn U w w':=by
 by_cases h5:k=5
 ·subst h5;exact acs h bq n size
 ·by_cases h6:k=6
  ·subst h6;exact aco h bq ah sm n size
  ·by_cases h7:k=7\/k=8
   ·exact acr h Ay k n size h7
   ·exact acq h k n size ⟨h5,h6,λh=>h7 (Or.inl h),λh=>h7 (Or.inr h)⟩
theorem aI.add (h:aI U w kb mb sb pb qb bb vT K) (hp:fk (K.n:Int) K.os K.rs) (k n:Int) (hn:aj n):Zk 57 #[Zp pb,.agg #[Zi k,Zi n]] w λe w'=>Zr e (Zi (aV K.n K.os K.rs (k,n)))/\aI U w' kb mb sb pb qb bb vT {K with os:=fX K.n K.os K.rs (k,n),rs:=ij K.n K.os K.rs (k,n)}/\Zn U w w':=
 aD.call h 2 rfl (Cm.bj pb (K.n:Int) (fX K.n K.os K.rs (k,n)) (ij K.n K.os K.rs (k,n))) (λU2 a=>ag1 a hp.pg hp.p k n hn (by have:=hp.lo;omega) (by have:=hp.lr;omega))
theorem aA.add (h:aA U w kb mb sb pb qb bb F K wv) (hp:fk (K.n:Int) K.os K.rs) (k n:Int) (hn:aj n):Zk 57 #[Zp pb,.agg #[Zi k,Zi n]] wv λe w'=>Zr e (Zi (aV K.n K.os K.rs (k,n)))/\Hid (aA U w kb mb sb pb qb bb F {K with os:=fX K.n K.os K.rs (k,n),rs:=ij K.n K.os K.rs (k,n)} w'):=
 h.call (λV vT h=>(h.add hp k n hn).mono (λ_ _ h=>⟨h.1,⟨vT,h.2.1⟩,h.2.2⟩))
theorem aA.PV (h:aA U w kb mb sb pb qb bb F K wv) (bq:K.bs.length<1000000) (Ay:K.b.ps.length<1000000) (ah:K.T.length<1000) (sm:(K.T.map (·.num)).Pairwise (·<·)) (k n size:Int):Zk 59 #[Zp kb,.agg #[Zi k,Zi n],Zi size] wv λe w'=>Zr e (.tuple #[])/\Hid (aA U w kb mb sb pb qb bb F (ly K (k,n) size) w'):=
 h.call (λV vT h=>acp ⟨vT,h⟩ bq Ay ah sm k n size)
theorem aA.j (h:aA U w kb mb sb pb qb bb F K wv) {g o:Nat} {v:Value} (hg:U g) (hc:w.cell? ⟨g,o,none⟩=some v) (hl:g<w.heap.size):wv.cell? ⟨g,o,none⟩=some v:=(h.o.cell (p:=⟨g,o,none⟩) hl (λh=>h hg)).trans hc
theorem JO {x:Int×Int×Int} (h5:¬(x.1=5/\fB x.2.2=false)) (h0:aV K.n K.os K.rs (x.1,x.2.1)=0):cj K x=(if x.1=1 then {K with os:=fX K.n K.os K.rs (x.1,x.2.1),rs:=ij K.n K.os K.rs (x.1,x.2.1)} else ly {K with os:=fX K.n K.os K.rs (x.1,x.2.1),rs:=ij K.n K.os K.rs (x.1,x.2.1)} (x.1,x.2.1) x.2.2,0):=by unfold cj;rw[if_neg h5,if_pos h0]
theorem aft (h:fF U w kb mb sb pb qb bb K) (hw:aE K) (k n size:Int) (hn:aj n) {g o:Nat} (hg:U g) (fW:g<w.heap.size) (q0:w.cell? ⟨g,o,none⟩=some (Zi k)) (q1:w.cell? ⟨g,o+1,none⟩=some (Zi n)) (q2:w.cell? ⟨g,o+2,none⟩=some (Zi size)):
  Zk 13 #[Zp kb,.pointer (some ⟨g,o,none⟩)] w λe w'=>Zr e (Zi (cj K (k,n,size)).2)/\fF U w' kb mb sb pb qb bb (cj K (k,n,size)).1/\Zn U w w':=by
 have H0:=aa (aA.start h);have jv:=aa (λw=>NY size w);by_cases h5:k=5/\fB size=false
 ·rw[show cj K (k,n,size)=(K,1) from by unfold cj;rw[if_pos h5]];obtain⟨rfl,ht⟩:=h5;rw[ht] at jv;clear h hw hn;go_enter func13,ntmps13;go_wp2_with fail;refine(jv.j _).m ?_;rintro e w1 ⟨rfl,h9⟩;have h8:=h9.symm;clear h9;subst h8;go_wp2_with fail
  all_goals
   go_ret;exact⟨rfl,H0.j.fin⟩
 ·have HQ:=aa (⟨hg,q0,q1,q2,fW⟩:U g/\_/\_/\_/\_);have HW:=aa hw;have zw:=aa (λw=>aaN k w);have iJ:=aa (H0.j.drew.add hw.p k n hn);obtain⟨c0,c1,c2,c3,c4⟩:=H0.j.drew.c;have af:Hid (Zc w.drew kb 2 (Zp pb)/\Zc w.drew g o (Zi k)/\Zc w.drew g (o+1) (Zi n)/\Zc w.drew g (o+2) (Zi size)):=⟨c2,q0,q1,q2⟩
  have ak:=af;have ar:Hid (∀F K2 wv,aA U w kb mb sb pb qb bb F K2 wv->Zc wv kb 2 (Zp pb)/\Zc wv g o (Zi k)/\Zc wv g (o+1) (Zi n)/\Zc wv g (o+2) (Zi size)):=λF K2 wv h=>⟨h.c.2.2.1,h.j hg q0 fW,h.j hg q1 fW,h.j hg q2 fW⟩
  clear c0 c1 c2 c3 c4 h hw hn;obtain⟨tb,iO⟩:=Ze (fB size);rw[<-iO] at jv h5;have dC:=aa iO
  have lS:((k==5)&& !tb)=false:=by
   cases tb with
   |true=>simp
   |false=>
    have:¬k=5:=λe=>h5 ⟨e,rfl⟩
    simp[this]
  have r9:=aa h5;clear h5 iO;by_cases he:aV K.n K.os K.rs (k,n)=0
  ·by_cases k1:k=1
   ·subst k1
    rw[show cj K (1,n,size)=({K with os:=fX K.n K.os K.rs (1,n),rs:=ij K.n K.os K.rs (1,n)},0) from by
     have e1:=JO (K:=K) (x:=(1,n,size)) (λh=>absurd (show(1:Int)=5 from h.1) Zd) he
     rw[e1];rfl]
    rw[he] at iJ;rw[show decide ((2:Int)<=1/\(1:Int)<=8)=false from Zd] at zw;clear lS dC r9;go_enter func13,ntmps13;go_wp2_with fail;refine(jv.j _).m ?_;rintro e w1 ⟨rfl,h9⟩;have h8:=h9.symm;clear h9;subst h8;go_upto_region 4 with fail
    clear q0 q1 q2;go_region_held3 (λwv=>Zc wv kb 2 (Zp pb)/\Zc wv g o (Zi 1)/\Zc wv g (o+1) (Zi n)/\Zc wv g (o+2) (Zi size)) (with_reducible (first|exact af.j|exact ak.j)) (first|(go_at_call 57;refine iJ.j.m ?_;rintro e w2 ⟨rfl,H2⟩;have ak:=aa (ar.j _ _ _ H2.j)));obtain⟨c2,q0,q1,q2⟩:=ak.j;clear af iJ jv;go_wp2_with fail;refine(zw.j _).m ?_;rintro e w3 ⟨rfl,h9⟩;have h8:=h9.symm;clear h9;subst h8;go_wp2_with fail
    all_goals
     go_ret;exact⟨rfl,H2.j.fin⟩
   ·have hk:=add_zero he;have hd:decide (2<=k/\k<=8)=true:=decide_eq_true (by simp only at hk;omega);rw[hd] at zw
    have HF:Hid (cj K (k,n,size)=(ly {K with os:=fX K.n K.os K.rs (k,n),rs:=ij K.n K.os K.rs (k,n)} (k,n) size,0)):=by
     show cj K (k,n,size)=_;rw[JO (λh=>r9.j ⟨h.1,by rw[dC.j];exact h.2⟩) he];show((if k=1 then _ else _,(0:Int)):Kn×Int)=_;rw[if_neg k1]
    rw[HF.j];rw[he] at iJ;clear hk hd HF k1 he;by_cases k5:k=5
    ·have J9:tb=true:=by
      cases tb with
      |true=>rfl
      |false=>exact absurd ⟨k5,rfl⟩ r9.j
     subst J9;subst k5;clear lS dC r9;go_enter func13,ntmps13;go_wp2_with fail;refine(jv.j _).m ?_;rintro e w1 ⟨rfl,h9⟩;have h8:=h9.symm;clear h9;subst h8;go_upto_region 4 with fail
     clear q0 q1 q2;go_region_held3 (λwv=>Zc wv kb 2 (Zp pb)/\Zc wv g o (Zi 5)/\Zc wv g (o+1) (Zi n)/\Zc wv g (o+2) (Zi size)) (with_reducible (first|exact af.j|exact ak.j)) (first|(go_at_call 57;refine iJ.j.m ?_;rintro e w2 ⟨rfl,H2⟩;have ak:=aa (ar.j _ _ _ H2.j)));obtain⟨c2,q0,q1,q2⟩:=ak.j;clear af iJ jv;go_wp2_with fail;refine(zw.j _).m ?_;rintro e w3 ⟨rfl,h9⟩;have h8:=h9.symm;clear h9;subst h8;go_upto_region 7 with fail
     clear c2 q0 q1 q2 ak;have aw:=aa (ar.j _ _ _ H2.j.drew);have iG:=aw;have l9:=aa (H2.j.drew.PV (by have:=HW.j.nb;show K.bs.length<_;omega) (by have:=HW.j.np;show K.b.ps.length<_;omega) (by have:=HW.j.nt;show K.T.length<_;omega) HW.j.th 5 n size);go_region_held3 (λwv=>wv.cell? ⟨kb,2,none⟩=some (Zp pb)/\wv.cell? ⟨g,o,none⟩=some (Zi 5)/\wv.cell? ⟨g,o+1,none⟩=some (Zi n)/\wv.cell? ⟨g,o+2,none⟩=some (Zi size)) (with_reducible (first|exact aw.j|exact iG.j)) (first|(go_at_call 59;refine l9.j.m ?_;rintro e w4 ⟨rfl,H4⟩;have iG:=aa (ar.j _ _ _ H4.j)));go_wp2_with fail
     all_goals
      go_ret;exact⟨rfl,H4.j.fin⟩
    ·have b5:(k==5)=false:=by simpa using k5
     clear k5 lS dC r9;go_enter func13,ntmps13;go_wp2_with fail;refine(jv.j _).m ?_;rintro e w1 ⟨rfl,h9⟩;have h8:=h9.symm;clear h9;subst h8;go_upto_region 4 with fail
     clear q0 q1 q2;go_region_held3 (λwv=>Zc wv kb 2 (Zp pb)/\Zc wv g o (Zi k)/\Zc wv g (o+1) (Zi n)/\Zc wv g (o+2) (Zi size)) (with_reducible (first|exact af.j|exact ak.j)) (first|(go_at_call 57;refine iJ.j.m ?_;rintro e w2 ⟨rfl,H2⟩;have ak:=aa (ar.j _ _ _ H2.j)));obtain⟨c2,q0,q1,q2⟩:=ak.j;clear af iJ jv;go_wp2_with fail;refine(zw.j _).m ?_;rintro e w3 ⟨rfl,h9⟩;have h8:=h9.symm;clear h9;subst h8;go_upto_region 7 with fail
     clear c2 q0 q1 q2 ak;have aw:=aa (ar.j _ _ _ H2.j.drew);have iG:=aw;have l9:=aa (H2.j.drew.PV (by have:=HW.j.nb;show K.bs.length<_;omega) (by have:=HW.j.np;show K.b.ps.length<_;omega) (by have:=HW.j.nt;show K.T.length<_;omega) HW.j.th k n size);go_region_held3 (λwv=>wv.cell? ⟨kb,2,none⟩=some (Zp pb)/\wv.cell? ⟨g,o,none⟩=some (Zi k)/\wv.cell? ⟨g,o+1,none⟩=some (Zi n)/\wv.cell? ⟨g,o+2,none⟩=some (Zi size)) (with_reducible (first|exact aw.j|exact iG.j)) (first|(go_at_call 59;refine l9.j.m ?_;rintro e w4 ⟨rfl,H4⟩;have iG:=aa (ar.j _ _ _ H4.j)));go_wp2_with fail
     all_goals
      go_ret;exact⟨rfl,H4.j.fin⟩
  ·have Sr:=yX (k,n) he
   rw[show cj K (k,n,size)=(K,aV K.n K.os K.rs (k,n)) from by
    unfold cj
    rw[if_neg (λh=>r9.j ⟨h.1,by rw[dC.j];exact h.2⟩),if_neg he]]
   obtain⟨ev,jH⟩:=Ze (aV K.n K.os K.rs (k,n));rw[<-jH] at he iJ|-;have heb:(ev==0)=false:=by simpa using he
   have CF:=aa Sr;clear Sr he jH;obtain⟨od,Rv⟩:=Ze (decide (2<=k/\k<=8));rw[<-Rv] at zw;clear Rv;by_cases k5:k=5
   ·have J9:tb=true:=by
     cases tb with
     |true=>rfl
     |false=>exact absurd ⟨k5,rfl⟩ r9.j
    subst J9;subst k5;clear lS dC r9;go_enter func13,ntmps13;go_wp2_with fail;refine(jv.j _).m ?_;rintro e w1 ⟨rfl,h9⟩;have h8:=h9.symm;clear h9;subst h8;go_upto_region 4 with fail
    clear q0 q1 q2;go_region_held3 (λwv=>Zc wv kb 2 (Zp pb)/\Zc wv g o (Zi 5)/\Zc wv g (o+1) (Zi n)/\Zc wv g (o+2) (Zi size)) (with_reducible (first|exact af.j|exact ak.j)) (first|(go_at_call 57;refine iJ.j.m ?_;rintro e w2 ⟨rfl,H2⟩;have ak:=aa (ar.j _ _ _ H2.j)));obtain⟨c2,q0,q1,q2⟩:=ak.j;clear af iJ jv;go_wp2_with fail;refine(zw.j _).m ?_;rintro e w3 ⟨rfl,h9⟩;have h8:=h9.symm;clear h9;subst h8;go_wp2_with fail
    all_goals
     go_ret;have h9:=H2.j.fin;rw[CF.j.1,CF.j.2] at h9;exact⟨rfl,h9⟩
   ·have b5:(k==5)=false:=by simpa using k5
    clear k5 lS dC r9;go_enter func13,ntmps13;go_wp2_with fail;refine(jv.j _).m ?_;rintro e w1 ⟨rfl,h9⟩;have h8:=h9.symm;clear h9;subst h8;go_upto_region 4 with fail
    clear q0 q1 q2;go_region_held3 (λwv=>Zc wv kb 2 (Zp pb)/\Zc wv g o (Zi k)/\Zc wv g (o+1) (Zi n)/\Zc wv g (o+2) (Zi size)) (with_reducible (first|exact af.j|exact ak.j)) (first|(go_at_call 57;refine iJ.j.m ?_;rintro e w2 ⟨rfl,H2⟩;have ak:=aa (ar.j _ _ _ H2.j)));obtain⟨c2,q0,q1,q2⟩:=ak.j;clear af iJ jv;go_wp2_with fail;refine(zw.j _).m ?_;rintro e w3 ⟨rfl,h9⟩;have h8:=h9.symm;clear h9;subst h8;go_wp2_with fail
    all_goals
     go_ret;have h9:=H2.j.fin;rw[CF.j.1,CF.j.2] at h9;exact⟨rfl,h9⟩
end
section
variable {kb mb sb pb qb bb:Nat} {vT:Value} {U V S:Nat->Prop} {w wv w2:World} {K K2:Kn} {F:List (Nat×Obj)}
theorem Hv {α:Type} (L:Lay α) (y:α) (j:Nat) (v:Value):∀(xs:List α) (k:Nat) (hk:k<xs.length),j<L.sz->(L.cf xs[k]).set j v=L.cf y->(fl L xs).set (k*L.sz+j) v=fl L (xs.set k y)
 |[],k,h,_,_=>by cases h
 |x::r,0,_,hj,he=>by
  rw[ov,List.set_cons_zero,ov,Nat.zero_mul,Nat.zero_add,List.set_append_left _ _ (by rw[L.len];exact hj)];rw[List.getElem_cons_zero] at he
  rw[he]
 |x::r,k+1,h,hj,he=>by
  rw[ov,List.set_cons_succ,ov];have e:(k+1)*L.sz+j=(L.cf x).length+(k*L.sz+j):=by rw[L.len,Nat.add_mul];omega
  rw[e,List.set_append_right _ _ Zo,Nat.add_sub_cancel_left,Hv L y j v r k (by simpa using h) hj (by simpa using he)]
theorem aai {α:Type} {L:Lay α} {base g n c:Nat} {e:TypeId} {xs:List α} (h:ai L w base e (Zs g n c) xs) (hn:n=xs.length) {k:Nat} (hk:k<xs.length) {j:Nat} (hj:j<L.sz) {v:Value} {y:α} (he:(L.cf xs[k]).set j v=L.cf y):ai L (w.setCell ⟨g,k*L.sz+j,none⟩ v) base e (Zs g n c) (xs.set k y)/\ae (λk=>k=g) w (w.setCell ⟨g,k*L.sz+j,none⟩ v):=by
 subst hn;have h1:=(World.ownsRow.stored h (k*L.sz+j) v).1;rw[Hv L y j v xs k hk hj he] at h1;refine⟨?_,ae.setCell (S:=λk=>k=g) (ae.refl _ w) (Or.inl rfl) v⟩;show World.ownsRow _ _ _ _ _ _ _;rw[List.length_set];exact h1
theorem aI.F5 {g m c:Nat} (h:aI V wv kb mb sb pb qb bb (Zs g m c) K) (hm:m=K.T.length) {k:Nat} (hk:k<K.T.length) {j:Nat} (hj:j<38) {v:Value} {y:Kt} (he:(aZ K.T[k]).set j v=aZ y):aI V (wv.setCell ⟨g,k*38+j,none⟩ v) kb mb sb pb qb bb (Zs g m c) {K with T:=K.T.set k y}/\Zn V wv (wv.setCell ⟨g,k*38+j,none⟩ v):=by
 obtain⟨h1,h2⟩:=aai h.t hm hk hj he;exact h.OI h1 (h2.mono (λk _ hk=>by subst hk;rfl)) (by rw[List.length_set];exact h.nt)
theorem aI.ready (h:aI U w kb mb sb pb qb bb vT K) (hc:K.ck<1000000000000) (n:Int):Zk 124 #[Zp qb,Zi n] w λe w'=>Zr e (Zi (fq K.ss n))/\aI U w' kb mb sb pb qb bb vT {K with ss:=(if fq K.ss n=0 then kZ K.ss K.ck n else K.ss),ck:=(if fq K.ss n=0 then K.ck+1 else K.ck)}/\Zn U w w':=
 aD.call h 3 rfl (za.bj qb K.ts K.t K.lf _ _) (λU2 a=>by
  obtain⟨vt,vl,a⟩:=a
  exact Xm a hc n)
def nW (K:Kn) (i:Nat) (n:Int):Kn:=if (K.T.getD i .df).st=1 then {K with T:=K.T.set i {K.T.getD i .df with st:=1}} else {K with T:=K.T.set i {K.T.getD i .df with st:=1},ss:=(if fq K.ss n=0 then kZ K.ss K.ck n else K.ss),ck:=(if fq K.ss n=0 then K.ck+1 else K.ck)}
theorem Oj (t:Kt):(aZ t).set 1 (Zi 1)=aZ {t with st:=1}:=rfl
theorem PD (w:World) (m:Nat):Zn U w (w.drewN m):=(ae.refl _ w).drewN m
theorem acn (h:aI U w kb mb sb pb qb bb vT K) (hc:K.ck<1000000000000) (n:Int) {i:Nat} (hi:kR K.T n=some i):Zk 65 #[Zp kb,Zi n,Zi 1] w λe w'=>Zr e (.tuple #[])/\fF U w' kb mb sb pb qb bb (nW K i n)/\Zn U w w':=by
 obtain⟨bM,dI⟩:=xG hi;have hg:K.T.getD i .df=K.T[i]:=by simp[List.getD_eq_getElem?_getD,bM]
 have T4:Hid (∀m,Zk 64 #[Zp kb,Zi n] (w.drewN m) λe w'=>Zr e (Zi (i:Int))/\w'=w.drewN m):=λm=>by
  have h1:=Oh (h.quiet ((ae.refl _ w).drewN m)) n;rw[hi] at h1;exact h1
 have c5:=h.c5;have ht:=h.t;obtain⟨p,c,rfl,_,_,hp⟩:=ht.form;obtain⟨g,rfl,_⟩:=hp Zo;obtain⟨M,hM⟩:=Ze (K.T.length);rw[<-hM] at c5 h;have bf:0<=(i:Int)/\(i:Int)<(M:Int):=Zo;have cG:w.cell? ⟨g,i*38+1,none⟩=some (Zi K.T[i].st):=(ht.cell i 1 bM Zd).trans rfl;have HH:=aa h;have HI:=aa (⟨bM,hM⟩:_/\_);clear hp hM;by_cases h1:K.T[i].st=1
 ·have HE:Hid (nW K i n={K with T:=K.T.set i {K.T[i] with st:=1}}):=by
   show nW K i n=_;unfold nW;rw[hg,if_pos h1]
  rw[HE.j];rw[h1] at cG;have HF:Hid (∀m,aI U ((w.drewN m).setCell ⟨g,i*38+1,none⟩ (Zi 1)) kb mb sb pb qb bb (Zs g M c) {K with T:=K.T.set i {K.T[i] with st:=1}}/\Zn U (w.drewN m) ((w.drewN m).setCell ⟨g,i*38+1,none⟩ (Zi 1))):=λm=>(h.quiet ((ae.refl _ w).drewN m)).F5 HI.j.2 bM Zd (Oj _)
  have kk:w.frozen? ⟨g,i*38+1,none⟩=false:=ht.fz _;clear ht HE hi dI hg h1 h;go_enter func65,ntmps65;go_wp2_with fail;go_quiet ((go_at_call 64;exact Calls.quiet_of_same (T4.j _)));go_wp2_with fail
  all_goals
   go_end0;exact⟨rfl,⟨_,(HF.j _).1⟩,(PD w _).trans (HF.j _).2⟩
 ·have HE:Hid (nW K i n={K with T:=K.T.set i {K.T[i] with st:=1},ss:=(if fq K.ss n=0 then kZ K.ss K.ck n else K.ss),ck:=(if fq K.ss n=0 then K.ck+1 else K.ck)}):=by
   show nW K i n=_;unfold nW;rw[hg,if_neg h1]
  rw[HE.j];have cu:(K.T[i].st !=1)=true:=by simpa using h1
  have KQ:(K.T[i].st==1)=false:=by simpa using h1
  obtain⟨sv,Ku⟩:=Ze (K.T[i].st);rw[<-Ku] at cG cu KQ;have c3:=h.c3;have EW:Hid (∀m,Zk 124 #[Zp qb,Zi n] (w.drewN m) λe w'=>Zr e (Zi (fq K.ss n))/\aI U w' kb mb sb pb qb bb (Zs g M c) {K with ss:=(if fq K.ss n=0 then kZ K.ss K.ck n else K.ss),ck:=(if fq K.ss n=0 then K.ck+1 else K.ck)}/\Zn U (w.drewN m) w'):=λm=>(h.quiet ((ae.refl _ w).drewN m)).ready hc n
  have HSV:=aa Ku;clear ht HE hi dI hg h1 h Ku hc;generalize (if fq K.ss n=0 then kZ K.ss K.ck n else K.ss)=s2 at*;generalize (if fq K.ss n=0 then K.ck+1 else K.ck)=k2 at*;go_enter func65,ntmps65;go_wp2_with fail;go_quiet ((go_at_call 64;exact Calls.quiet_of_same (T4.j _)));go_wp2_with fail;refine(EW.j _).m ?_;rintro e w2 ⟨rfl,h2,aC⟩;have wo:=h2.t;have yA:i<K.T.length:=HI.j.1;have Rf:w2.cell? ⟨g,i*38+1,none⟩=some (Zi sv):=by rw[HSV.j];exact(wo.cell i 1 yA Zd).trans rfl
  have kk:w2.frozen? ⟨g,i*38+1,none⟩=false:=wo.fz _;have HF:=aa (h2.F5 HI.j.2 yA (j:=1) Zd (Oj _));have aL:=aa aC;clear wo h2 aC cG;go_wp2_with fail
  all_goals
   go_end0;exact⟨rfl,⟨_,HF.j.1⟩,((PD w _).trans aL.j).trans HF.j.2⟩
end
section
variable {kb mb sb pb qb bb:Nat} {vT:Value} {U V S:Nat->Prop} {w wv w2:World} {K K2:Kn} {F:List (Nat×Obj)}
theorem OP (k:IntKind) (rg:Nat->Int) {r:Nat} (hr:r<32) (v:Int):(jQ k rg).set r (.int k v)=jQ k (λj=>if j=r then v else rg j):=by
 apply List.ext_getElem (by simp[jQ]);intro i h1 h2;rw[List.getElem_set];simp only[jQ,List.getElem_map,List.getElem_range];by_cases he:r=i
 ·subst he;simp
 ·rw[if_neg he,if_neg (λh=>he h.symm)]
theorem Xd (t:Kt) {r:Nat} (hr:r<32) (v:Int):(aZ t).set (5+r) (Zi v)=aZ {t with rg:=λj=>if j=r then v else t.rg j}:=by
 unfold aZ;rw[List.set_append_right _ _ (by simp),show 5+r - [Value.int .i64 t.num,Zi t.st,Zi t.nK,Zi t.mT,.bool t.gr].length=r by simp,List.set_append_left _ _ (by rw[rh];exact hr),OP _ _ hr]
theorem Xe (t:Kt) (v:Int):(aZ t).set 37 (Zi v)=aZ {t with pc:=v}:=rfl
theorem OQ {k:IntKind} {a b:Nat->Int} (h:∀j,j<32->a j=b j):jQ k a=jQ k b:=by
 unfold jQ;apply List.map_congr_left;intro j hj;rw[h j (List.mem_range.1 hj)]
theorem aI.XR {T:List Kt} {i:Nat} {y z:Kt} (h:aI U w kb mb sb pb qb bb vT {K with T:=T.set i y}) (he:aZ y=aZ z):aI U w kb mb sb pb qb bb vT {K with T:=T.set i z}:=by
 obtain⟨U2,a,_,Ah,b⟩:=aD.open h 5 rfl
 have om:∀T:List Kt,fl iL (T.set i y)=fl iL (T.set i z):=λT=>by
  unfold fl;rw[List.flatMap_def,List.flatMap_def,List.map_set,List.map_set];show((List.map aZ T).set i (aZ y)).flatten=((List.map aZ T).set i (aZ z)).flatten;rw[he]
 have ht:ai iL w 0 118 vT (T.set i z):=by
  have h1:=a.t;show World.ownsRow _ _ _ _ _ _ _;have h2:World.ownsRow w 0 118 iL.sz vT (T.set i y).length (fl iL (T.set i y)):=h1;rw[List.length_set] at h2|-;rw[<-om];exact h2
 exact(b (p3 kb mb sb pb qb bb vT (T.set i z) K.L K.ci K.co K.c) w p3.bj ⟨a.k,ht,a.uk,a.ut,a.low,by have:=a.nt;simp only[List.length_set] at this|-;exact this⟩ (ae.refl _ _)).1
theorem aI.xK (h:aI U w kb mb sb pb qb bb vT K) (hl:K.ss.length<1000000) (n d p:Int):Zk 19 #[Zp qb,Zi n,Zi d,Zi p] w λe w'=>Zr e (Zi (fj K.ss n d p))/\aI U w' kb mb sb pb qb bb vT {K with ss:=bU K.ss n d p}/\Zn U w w':=
 aD.call h 3 rfl (za.bj qb K.ts K.t K.lf (bU K.ss n d p) K.ck) (λU2 a=>by
  obtain⟨vt,vl,a⟩:=a
  exact XV a hl n d p)
structure EA (w:World) (g o:Nat) (x:Tc):Prop where
 n:w.cell? ⟨g,o,none⟩=some (Zi x.num)
 d:w.cell? ⟨g,o+1,none⟩=some (Zi x.bT)
 p:w.cell? ⟨g,o+2,none⟩=some (Zi x.prio)
 y:w.cell? ⟨g,o+3,none⟩=some (.bool x.qp)
 r:∀r,r<32->w.cell? ⟨g,o+4+r,none⟩=some (Zu (x.rg r))
 c:w.cell? ⟨g,o+36,none⟩=some (Zu x.pc)
theorem EA.keep {S:Nat->Prop} {g o:Nat} {x:Tc} (h:EA w g o x) (ho:ae S w w2) (hg:g<w.heap.size) (hS:¬S g):EA w2 g o x:=
 ⟨(ho.cell (p:=⟨g,o,none⟩) hg hS).trans h.n,(ho.cell (p:=⟨g,o+1,none⟩) hg hS).trans h.d,(ho.cell (p:=⟨g,o+2,none⟩) hg hS).trans h.p,(ho.cell (p:=⟨g,o+3,none⟩) hg hS).trans h.y,λr hr=>(ho.cell (p:=⟨g,o+4+r,none⟩) hg hS).trans (h.r r hr),(ho.cell (p:=⟨g,o+36,none⟩) hg hS).trans h.c⟩
def oI (y:Kt) (x:Tc) (r:Nat):Kt:={y with pc:=x.pc,rg:=λj=>if 1<=j/\j<r then x.rg j else y.rg j}
theorem Vc (y:Kt) (x:Tc):oI y x 1={y with pc:=x.pc}:=by
 unfold oI;congr 1
 funext j
 rw[if_neg Zo]
theorem Vd (y:Kt) (x:Tc) {r:Nat} (h1:1<=r):oI y x (r+1)={oI y x r with rg:=λj=>if j=r then x.rg r else (oI y x r).rg j}:=by
 unfold oI;congr 1
 funext j
 by_cases he:j=r
 ·subst he;rw[if_pos Zo,if_pos rfl]
 ·rw[if_neg he];dsimp only;by_cases h2:1<=j/\j<r
  ·rw[if_pos Zo,if_pos h2]
  ·rw[if_neg Zo,if_neg h2]
theorem Ve (y:Kt) (x:Tc) (h0:y.rg 0=0):aZ (oI y x 32)=aZ {y with rg:=pJ x.rg,pc:=x.pc}:=by
 unfold aZ oI;dsimp only
 rw[OQ (a:=λj=>if 1<=j/\j<32 then x.rg j else y.rg j) (b:=pJ x.rg) (λj hj=>by
  show(if 1<=j/\j<32 then x.rg j else y.rg j)=(if j=0 then 0 else x.rg j)
  by_cases he:j=0
  ·subst he;rw[if_neg Zo,if_pos rfl,h0]
  ·rw[if_pos Zo,if_neg he])]
theorem N7 {T:List Kt} {i:Nat} {n:Int} (h:kR T n=some i) {y:Kt} (hy:y.num=n):kR (T.set i y) n=some i:=by
 obtain⟨hl,hn⟩:=xG h;unfold kR at h|-;rw[<-h];exact Kf T i 0 y hl (by rw[hy,hn])
theorem N3 {K:Kn} {x:Tc} {i:Nat} (hi:kR K.T x.num=some i) (h0:fj K.ss x.num x.bT x.prio=0) {y:Kt} (hy:y={K.T.getD i .df with rg:=pJ x.rg,pc:=x.pc}):bP K x=(if x.qp=true then nW {K with T:=K.T.set i y,ss:=bU K.ss x.num x.bT x.prio} i x.num else {K with T:=K.T.set i y,ss:=bU K.ss x.num x.bT x.prio},0):=by
 obtain⟨hl,hn⟩:=xG hi;have yB:(K.T.set i y).getD i .df=y:=by simp[List.getD_eq_getElem?_getD,hl]
 unfold bP;rw[hi];simp only[h0,if_true];congr 1;have cG:(K.T.getD i .df).st=y.st:=by rw[hy]
 rw[<-hy,cG];by_cases hr:x.qp=true
 ·rw[if_pos hr];unfold nW;simp only[yB,List.set_set];by_cases h1:y.st=1
  ·rw[if_neg (λh=>h.2 h1),if_pos h1];have:y={y with st:=1}:=by cases y;simp only at h1;subst h1;rfl
   rw[<-this]
  ·rw[if_pos ⟨hr,h1⟩,if_neg h1];subst hy;rfl
 ·rw[if_neg hr,if_neg (λh=>hr h.1)]
theorem PC (w:World):Zn U w w.drew:=(ae.refl _ w).drew
theorem afr (h:fF U w kb mb sb pb qb bb K) (hw:aE K) (x:Tc) (hx:xe x) {g o:Nat} (hg:U g) (fW:g<w.heap.size) (hq:EA w g o x):
  Zk 18 #[Zp kb,.pointer (some ⟨g,o,none⟩)] w λe w'=>Zr e (Zi (bP K x).2)/\fF U w' kb mb sb pb qb bb (bP K x).1/\Zn U w w':=by
 obtain⟨vT,h⟩:=h;have q0:=hq.n;have dG:=aa (Oh h x.num)
 cases hi:kR K.T x.num with
 |none=>
  rw[show bP K x=(K,6) from by unfold bP;rw[hi]];rw[hi] at dG;have HH:=aa h;generalize x.num=xn at*;clear hi h hw hx hq;go_enter func18,ntmps18;go_wp2_with fail;refine dG.j.m ?_;rintro e w1 ⟨rfl,h9⟩;have h8:=h9.symm;clear h9;subst h8;dsimp only[ti];go_wp2_with fail
  all_goals
   go_ret
   exact⟨rfl,⟨_,HH.j⟩,ae.refl _ _⟩
 |some i=>
  rw[hi] at dG;obtain⟨bM,dI⟩:=xG hi;have yB:K.T.getD i .df=K.T[i]:=by simp[List.getD_eq_getElem?_getD,bM]
  have iJ:=aa ((h.quiet ((ae.refl _ w).drew)).xK (by have:=hw.ns;omega) x.num x.bT x.prio);have af:Hid (Zc w.drew kb 3 (Zp qb)/\Zc w.drew g o (Zi x.num)/\Zc w.drew g (o+1) (Zi x.bT)/\Zc w.drew g (o+2) (Zi x.prio)):=⟨(h.quiet ((ae.refl _ w).drew)).c3,hq.n,hq.d,hq.p⟩
  have ak:=af
  have ar:Hid (∀wv vT K2,aI U wv kb mb sb pb qb bb vT K2->Zn U w wv->wv.cell? ⟨kb,3,none⟩=some (Zp qb)/\wv.cell? ⟨g,o,none⟩=some (Zi x.num)/\wv.cell? ⟨g,o+1,none⟩=some (Zi x.bT)/\wv.cell? ⟨g,o+2,none⟩=some (Zi x.prio)):=λwv vT K2 h ho=>by
   have h2:=hq.keep ho fW (λh=>h hg);exact⟨h.c3,h2.n,h2.d,h2.p⟩
  have HW:=aa hw;have HX:=aa hx;have HQ:=aa (⟨hq,hg,fW⟩:_/\_/\_);have HI:=aa hi;have HL:=aa (⟨bM,dI,yB⟩:∃(bM:i<K.T.length),K.T[i].num=x.num/\K.T.getD i .df=K.T[i]);have h0i:¬(i:Int)<0:=Zo;obtain⟨ev,jH⟩:=Ze (fj K.ss x.num x.bT x.prio);rw[<-jH] at iJ;have MR:Hid (∃xn xd xp,xn=x.num/\xd=x.bT/\xp=x.prio):=⟨_,_,_,rfl,rfl,rfl⟩
  clear h hw hx hq hi bM dI yB;by_cases he:ev=0
  ·rw[N3 HI.j (by rw[<-jH];exact he) rfl];dsimp only;rw[he] at iJ;obtain⟨K2,wQ⟩:∃K2:Kn,K2={K with ss:=bU K.ss x.num x.bT x.prio}:=⟨_,rfl⟩
   obtain⟨yf,Ki⟩:∃yf:Kt,yf={K.T.getD i .df with rg:=pJ x.rg,pc:=x.pc}:=⟨_,rfl⟩
   have e1:({K with T:=K.T.set i {K.T.getD i .df with rg:=pJ x.rg,pc:=x.pc},ss:=bU K.ss x.num x.bT x.prio}:Kn)={K2 with T:=K.T.set i yf}:=by rw[wQ,Ki]
   rw[e1];rw[<-wQ] at iJ
   have lE:Hid (K2.T=K.T/\K2.ck=K.ck):=by
    show K2.T=K.T/\K2.ck=K.ck;rw[wQ];exact⟨rfl,rfl⟩
   have HYF:=aa Ki;clear e1 Ki wQ jH he;obtain⟨xn,vY⟩:=Ze (x.num);obtain⟨xd,vZ⟩:=Ze (x.bT);obtain⟨xp,QS⟩:=Ze (x.prio);rw[<-vY] at dG iJ af ak ar q0 HI|-;rw[<-vZ] at iJ af ak ar;rw[<-QS] at iJ af ak ar;have MR:=aa vY;clear vY vZ QS;obtain⟨KF,kn⟩:∃KF:Kn,KF=(if x.qp=true then nW {K2 with T:=K.T.set i yf} i xn else {K2 with T:=K.T.set i yf}):=⟨_,rfl⟩
   rw[<-kn];have mR:=aa kn;clear kn;go_enter func18,ntmps18;go_wp2_with fail;refine dG.j.m ?_;rintro e w1 ⟨rfl,h9⟩;have h8:=h9.symm;clear h9;subst h8;dsimp only[ti];go_upto_region 4 with fail
   clear q0;go_region_held3 (λwv=>Zc wv kb 3 (Zp qb)/\Zc wv g o (Zi xn)/\Zc wv g (o+1) (Zi xd)/\Zc wv g (o+2) (Zi xp)) (with_reducible (first|exact af.j|exact ak.j)) (first|(go_at_call 19;refine iJ.j.m ?_;rintro e w2 ⟨rfl,h2,aC⟩;have H2:=aa h2;have aL:=aa ((PC w).trans aC);have ak:=aa (ar.j _ _ _ H2.j aL.j);clear h2 aC));clear af ak iJ
   -- N6 row of threads
   obtain⟨bM,dI,yB⟩:=HL.j;obtain⟨hq,BV,Li⟩:=HQ.j;have wo:=H2.j.t;rw[lE.j.1] at wo;obtain⟨pt,ct,pO,_,_,DU⟩:=wo.form;obtain⟨g2,rfl,_⟩:=DU Zo;obtain⟨M,hM⟩:=Ze (K.T.length);rw[<-hM] at pO;subst pO;have bf:0<=(i:Int)/\(i:Int)<(M:Int):=Zo;have sO:Hid (M=K.T.length/\i<K.T.length):=⟨hM,bM⟩
   obtain⟨y,hy⟩:=Ze (K.T[i])
   have HY:Hid (y=K.T[i]/\yf={y with rg:=pJ x.rg,pc:=x.pc}/\y.rg 0=0/\y.num=xn):=by
    refine⟨hy,?_,?_,?_⟩
    ·rw[HYF.j,yB,hy]
    ·rw[hy];exact(HW.j.tr _ (List.getElem_mem bM)).1
    ·rw[hy,dI,MR.j]
   have aT:=hq.keep aL.j Li (λh=>h BV);obtain⟨xP,GO⟩:=Ze (x.pc);have GQ:0<=xP/\xP<4294967296:=by rw[GO];exact HX.j.2
   have Km:=Zh xP Zo;have Ee:=H2.j.quiet ((ae.refl _ w2).drew);have pw:Hid (Zc w2.drew kb 5 (Zs g2 M ct)/\Zc w2.drew g (o+36) (Zu xP)):=⟨Ee.c5,by rw[GO];exact aT.c⟩
   have yA:i<K2.T.length:=by rw[lE.j.1];exact bM
   have Ae:K2.T[i]=y:=by rw[hy];simp only[lE.j.1]
   have Sf:w2.drew.cell? ⟨g2,i*38+37,none⟩=some (Zi y.pc):=by
    rw[<-Ae];exact(Ee.t.cell i 37 yA Zd).trans rfl
   have aep:w2.drew.frozen? ⟨g2,i*38+37,none⟩=false:=Ee.t.fz _;obtain⟨mG,aN⟩:=Ee.F5 (by rw[lE.j.1];exact hM) yA (j:=37) (v:=Zi xP) (y:=oI y x 1) Zd (by rw[Ae,Vc,GO];exact Xe y _);obtain⟨w3,dz⟩:=Ze ((w2.setCell ⟨g2,i*38+5+32,none⟩ (Zi xP)).drew);have QY:w2.drew.setCell ⟨g2,i*38+37,none⟩ (Zi xP)=w3:=by rw[dz];rfl
   rw[QY] at mG aN;clear QY;rw[lE.j.1] at mG;have Cx:Hid (aI U w3 kb mb sb pb qb bb (Zs g2 M ct) {K2 with T:=K.T.set i (oI y x 1)}/\Zn U w w3):=⟨mG,(aL.j.drew).trans aN⟩
   generalize y.pc=ypc at Sf;clear mG aN Ee wo DU GO GQ aT hy yA Ae hM;go_upto_region 7 with fail
   refine zH (S:=(λwv=>wv.cell? ⟨kb,5,none⟩=some (Zs g2 M ct)/\wv.cell? ⟨g,o+36,none⟩=some (Zu xP))) 14 Zx Zg Zx ?_;simp only[mh,tc,List.setIfInBounds_toArray,List.set_cons_zero,List.set_cons_succ,List.size_toArray,List.length_cons,List.length_nil,Nat.zero_add,Nat.reduceAdd];refine Zt 0 pw.j ?_;refine Zt 1 pw.j ?_;refine Zt 2 pw.j ?_;refine Zt 3 pw.j ?_;refine Zt 4 pw.j ?_;refine Zt 5 pw.j ?_;refine Zt 6 pw.j ?_;refine Zt 7 pw.j ?_;refine Zt 8 pw.j ?_;refine Zt 9 pw.j ?_;refine Zt 10 pw.j ?_;refine Zt 11 pw.j ?_;refine Zt 12 pw.j ?_;refine Zt 13 pw.j ?_;refine wpAnyH_take (i:=14) (v:=undef) Zg Zx Zx Zx (by exact λ_ _ _ h=>h) (Or.inr ⟨by rfl,rfl⟩) pw.j ?_;refine wpAnyH_done Zx ?_ _;simp only[vH];go_upto_region 8 with fail
   rw[<-dz];clear dz Sf aep pw Km;go_wp2_with fail
   go_loopw [7] (λd wr=>∃r:Nat,d=Zi (r:Int)/\1<=r/\r<=32/\Hid (aI U wr kb mb sb pb qb bb (Zs g2 M ct) {K2 with T:=K.T.set i (oI y x r)}/\Zn U w wr)) (λd _=>32 - (RowKit.intOf d).toNat)
   case atStart=>exact⟨1,rfl,Zo,Zo,Cx⟩
   case round=>
    clear Cx;obtain⟨r,rfl,Dw,rG,HR⟩:=hrel;by_cases hr:r<32
    ·have h1:(r:Int)<32:=Zo;have ael:0<=(r:Int)/\(r:Int)<32:=Zo;have hwr:=Zf r Zo;have Ec:=HR.j.1.quiet ((ae.refl _ wr).drew);have BR:=hq.keep HR.j.2 Li (λh=>h BV);obtain⟨v,hv⟩:=Ze (x.rg r);have Kp:0<=v/\v<4294967296:=by rw[hv];exact HX.j.1 r
     have GH:=Zh v Zo;have mB:i<(K.T.set i (oI y x r)).length:=by rw[List.length_set];exact bM
     have Q9:(K.T.set i (oI y x r))[i]=oI y x r:=by simp
     have lZ:Hid (Zc wr.drew kb 5 (Zs g2 M ct)/\wr.drew.cell? ⟨g,o+4+r,none⟩=some (Zu v)):=⟨Ec.c5,by rw[hv];exact BR.r r hr⟩
     obtain⟨q,AK⟩:∃q,wr.drew.cell? ⟨g2,i*38+5+r,none⟩=some q:=by
      rw[Nat.add_assoc];have h8:=Ec.t.cell i (5+r) mB (by show 5+r<38;omega);exact⟨_,h8.trans (List.getElem?_eq_getElem (by rw[iL.len];show 5+r<38;omega))⟩
     have hfq:wr.drew.frozen? ⟨g2,i*38+5+r,none⟩=false:=Ec.t.fz _;obtain⟨mG,aN⟩:=Ec.F5 (by rw[List.length_set];exact sO.j.1) mB (j:=5+r) (v:=Zi v) (y:=oI y x (r+1)) Zo (by rw[Q9,Vd y x Dw,hv];exact Xd _ hr _);simp only[List.set_set] at mG;obtain⟨w4,eF⟩:=Ze ((wr.setCell ⟨g2,i*38+5+r,none⟩ (Zi v)).drew);have QX:wr.drew.setCell ⟨g2,i*38+(5+r),none⟩ (Zi v)=w4:=by rw[eF,Nat.add_assoc];rfl
     rw[QX] at mG aN;have HN:Hid (aI U w4 kb mb sb pb qb bb (Zs g2 M ct) {K2 with T:=K.T.set i (oI y x (r+1))}/\Zn U w w4):=⟨mG,(HR.j.2.drew).trans aN⟩
     clear mG aN QX Ec BR mB Q9 Kp hv hr HR hq;go_upto_region 11 with fail
     refine zH (S:=(λwv=>wv.cell? ⟨kb,5,none⟩=some (Zs g2 M ct)/\wv.cell? ⟨g,o+4+r,none⟩=some (Zu v))) 18 Zx Zg Zx ?_;simp only[mh,tc,List.setIfInBounds_toArray,List.set_cons_zero,List.set_cons_succ,List.size_toArray,List.length_cons,List.length_nil,Nat.zero_add,Nat.reduceAdd];refine Zt 0 lZ.j ?_;refine Zt 1 lZ.j ?_;refine Zt 2 lZ.j ?_;refine Zt 3 lZ.j ?_;refine Zt 4 lZ.j ?_;refine Zt 5 lZ.j ?_;refine Zt 6 lZ.j ?_;refine Zt 7 lZ.j ?_;refine Zt 8 lZ.j ?_;refine Zt 9 lZ.j ?_;refine Zt 10 lZ.j ?_;refine Zt 11 lZ.j ?_;refine Zt 12 lZ.j ?_;refine Zt 13 lZ.j ?_;refine Zt 14 lZ.j ?_;refine Zt 15 lZ.j ?_;refine Zt 16 lZ.j ?_;refine Zt 17 lZ.j ?_;refine wpAnyH_take (i:=18) (v:=undef) Zg Zx Zx Zx (by exact λ_ _ _ h=>h) (Or.inr ⟨by rfl,rfl⟩) lZ.j ?_;refine wpAnyH_done Zx ?_ _;simp only[vH];go_upto_region 10 with fail
     rw[<-eF];clear eF AK hfq lZ GH;go_wp2_with fail;go_roundw
     case rel=>exact⟨r+1,by go_num,Zo,Zo,HN⟩
     case measure=>exact Zm
    ·obtain rfl:r=32:=Zo;have h1:¬(32:Int)<32:=Zo;have LO:=HR.j.1.XR (by rw[Ve y x HY.j.2.2.1,<-HY.j.2.1]) (z:=yf);have Nv:=aa (⟨LO,HR.j.2⟩:_/\_);have KB:=hq.keep HR.j.2 Li (λh=>h BV);have q3:=KB.y;have q0:=KB.n;rw[<-MR.j] at q0;have mO:Hid (kR (K.T.set i yf) xn=some i):=N7 HI.j (by rw[HY.j.2.1];exact HY.j.2.2.2);have lY:=aa (acn LO (by show K2.ck<_;rw[lE.j.2];have:=HW.j.kl;have:=HW.j.ns;omega) xn mO.j);clear LO KB hq HR
     cases BQ:x.qp with
     |true=>
      rw[BQ] at q3;have gD:Hid (KF=nW {K2 with T:=K.T.set i yf} i xn):=mR.j.trans (if_pos BQ);clear BQ mR;go_wp2_with fail;refine lY.j.m ?_;rintro e w5 ⟨rfl,h5,eG⟩;have tX:=aa (⟨h5,Nv.j.2.trans eG⟩:_/\_);clear h5 eG;go_wp2_with fail
      all_goals
       go_ret
       exact⟨rfl,by rw[gD.j];exact tX.j.1,tX.j.2⟩
     |false=>
      rw[BQ] at q3;have gD:Hid (KF={K2 with T:=K.T.set i yf}):=mR.j.trans (if_neg (by rw[BQ];decide));clear BQ mR lY;go_wp2_with fail
      all_goals
       go_ret;exact⟨rfl,by rw[gD.j];exact⟨_,Nv.j.1⟩,Nv.j.2⟩
  ·rw[show bP K x=(K,ev) from by
    unfold bP;rw[HI.j];dsimp only
    rw[<-jH,if_neg he]]
   have cu:(ev !=0)=true:=by simpa using he
   have CF:Hid (bU K.ss x.num x.bT x.prio=K.ss):=if_neg (by rw[<-jH];exact he);generalize x.num=xn at*;generalize x.bT=xd at*;generalize x.prio=xp at*;clear he jH;go_enter func18,ntmps18;go_wp2_with fail;refine dG.j.m ?_;rintro e w1 ⟨rfl,h9⟩;have h8:=h9.symm;clear h9;subst h8;dsimp only[ti];go_upto_region 4 with fail
   clear q0;go_region_held3 (λwv=>Zc wv kb 3 (Zp qb)/\Zc wv g o (Zi xn)/\Zc wv g (o+1) (Zi xd)/\Zc wv g (o+2) (Zi xp)) (with_reducible (first|exact af.j|exact ak.j)) (first|(go_at_call 19;refine iJ.j.m ?_;rintro e w2 ⟨rfl,h2,aC⟩;have H2:=aa h2;have aL:=aa ((PC w).trans aC);have ak:=aa (ar.j _ _ _ H2.j aL.j);clear h2 aC));clear af ak iJ;go_wp2_with fail
   all_goals
    go_ret
    exact⟨rfl,⟨vT,by
     have h9:=H2.j;rw[CF.j] at h9
     exact h9⟩,aL.j⟩
end
section
variable {kb mb sb pb qb bb:Nat} {vT:Value} {U V S:Nat->Prop} {w wv w2:World} {K K2:Kn} {F:List (Nat×Obj)}
theorem aI.get (h:aI U w kb mb sb pb qb bb vT K) (s:Sl):Zk 61 #[Zp sb,.agg #[Zi s.1,Zi s.2]] w λe w'=>Zr e (.tuple #[bO (aH K.bs K.es s).1,Zi (aH K.bs K.es s).2])/\Zq w w':=by
 obtain⟨U2,vb,ve,h⟩:=h.o7;exact aeD h s
theorem aA.get (h:aA U w kb mb sb pb qb bb F K wv) (s:Sl):Zk 61 #[Zp sb,.agg #[Zi s.1,Zi s.2]] wv λe w'=>Zr e (.tuple #[bO (aH K.bs K.es s).1,Zi (aH K.bs K.es s).2])/\Hid (aA U w kb mb sb pb qb bb F K w'):=h.read (λV vT h=>h.get s)
theorem aA.alive (h:aA U w kb mb sb pb qb bb F K wv) (hp:fk (K.n:Int) K.os K.rs) (o1 o2:Int):Zk 14 #[Zp kb,.agg #[Zi o1,Zi o2]] wv λe w'=>Zr e (.bool (dk K.os K.rs (o1,o2)))/\Hid (aA U w kb mb sb pb qb bb F K w'):=h.read (λV vT h=>afV h hp o1 o2)
theorem aA.Pa (h:aA U w kb mb sb pb qb bb F K wv) (a:Sl) (c:Cp) (f:Sl) (hl:K.es.length<1000000):Zk 62 #[Zp sb,.agg #[Zi a.1,Zi a.2],.agg #[Zi c.kind,Zi c.num,Zi c.rights,Zu c.cQ,Zu c.guard,Zi c.bS,Zi c.root,Zu c.va],.agg #[Zi f.1,Zi f.2]] wv λe w'=>Zr e (Zi (cK K.bs K.es a c f))/\Hid (aA U w kb mb sb pb qb bb F {K with es:=db K.bs K.es a c f} w'):=
 h.call (λV vT h=>(aD.call h 1 rfl (p4.bj sb K.bs (db K.bs K.es a c f)) (λU2 b=>ZH b a c f hl)).mono (λ_ _ h=>⟨h.1,⟨vT,h.2.1⟩,h.2.2⟩))
def Fp (w:World) (g o:Nat) (x:En):Prop:=∀j,j<12->w.cell? ⟨g,o+j,none⟩=(vk x)[j]?
theorem Fp.keep {S:Nat->Prop} {g o:Nat} {x:En} (h:Fp w g o x) (ho:ae S w w2) (hg:g<w.heap.size) (hS:¬S g):Fp w2 g o x:=λj hj=>(ho.cell (p:=⟨g,o+j,none⟩) hg hS).trans (h j hj)
def A4 (c:Cp):Bool:=decide (c.rights<0) || decide (7<c.rights) || (c.root !=0) || (c.va !=0)
def yV (c:Cp):Bool:=if c.kind=5 then (decide (c.bS<0) || decide (32<c.bS) || (c.guard/((2^c.bS.toNat:Nat):Int) !=0)) else (c.guard !=0) || (c.bS !=0)
def wZ (c:Cp):Bool:=(c.cQ !=0)&&(c.kind !=7)&&(c.kind !=8)
theorem FI (c:Cp):kQ c=(!A4 c&& !yV c&& !wZ c):=by
 unfold kQ A4 yV wZ;rw[Bool.eq_iff_iff];by_cases h5:c.kind=5
 ·simp only[h5,if_true,Bool.and_eq_true,Bool.not_eq_true',Bool.or_eq_false_iff,decide_eq_true_eq,decide_eq_false_iff_not,bne_eq_false_iff_eq,Bool.and_eq_false_iff];constructor
  ·rintro⟨⟨⟨a1,a2,a3,a4⟩,b⟩,c1,c2,c3⟩;refine⟨⟨⟨⟨⟨Zo,Zo⟩,a3⟩,a4⟩,⟨⟨Zo,Zo⟩,c3⟩⟩,?_⟩;rcases b with b|b|b
   ·exact Or.inl (Or.inl b)
   ·omega
   ·omega
  ·rintro⟨⟨⟨⟨⟨a1,a2⟩,a3⟩,a4⟩,⟨⟨c1,c2⟩,c3⟩⟩,b⟩;refine⟨⟨⟨Zo,Zo,a3,a4⟩,?_⟩,Zo,Zo,c3⟩;rcases b with(b|b)|b
   ·exact Or.inl b
   ·omega
   ·omega
 ·simp only[h5,if_false,Bool.and_eq_true,Bool.not_eq_true',Bool.or_eq_false_iff,decide_eq_true_eq,decide_eq_false_iff_not,bne_eq_false_iff_eq,Bool.and_eq_false_iff];constructor
  ·rintro⟨⟨⟨a1,a2,a3,a4⟩,b⟩,c1,c2⟩;refine⟨⟨⟨⟨⟨Zo,Zo⟩,a3⟩,a4⟩,⟨c1,c2⟩⟩,?_⟩;rcases b with b|b|b
   ·exact Or.inl (Or.inl b)
   ·exact Or.inl (Or.inr b)
   ·exact Or.inr b
  ·rintro⟨⟨⟨⟨⟨a1,a2⟩,a3⟩,a4⟩,⟨c1,c2⟩⟩,b⟩;refine⟨⟨⟨Zo,Zo,a3,a4⟩,?_⟩,c1,c2⟩;rcases b with(b|b)|b
   ·exact Or.inl b
   ·exact Or.inr (Or.inl b)
   ·exact Or.inr (Or.inr b)
def qY:List Value:=[Zi 0,Zi 0,Zi 0,Zu 0,Zu 0,Zi 0,Zi 0,Zu 0]
theorem adK:(prog.info? 97).map (·.size)=some 8:=Zx
theorem yT {ub:Nat} (h:aA U w kb mb sb pb qb bb ((ub,.cells qY.toArray 97 (0,0))::F) K wv) (u:Cp) (hU:¬U ub) (hF:∀p∈F,p.1≠ub):aA U w kb mb sb pb qb bb ((ub,.cells (de u).toArray 97 (0,0))::F) K (wv.setCells ub 0 (de u)):=by
 obtain⟨h1,h2⟩:=uD (de u) [] qY wv rfl (h.at List.mem_cons_self);exact h.fh h2 h1 hU hF
theorem qk {o:Oper} {act:Act} {K:Act->World->Prop} {Q:Exit->Act->World->Prop} (x y:Operand) (ho:o.op=.store 97 x y) (hd:o.dst=none) {u:Cp} {ub:Nat} (hx:act.eval x=Zp ub) (hy:act.eval y=.agg (de u).toArray) (h0:w.heap[ub]?=some (.cells qY.toArray 97 (0,0))) (h:K act (w.setCells ub 0 (de u))):Oper.wp prog o act w K Q:=by
 have ht:w.there ub 0 (de u).toArray.size:=λj hj=>by
  refine⟨?_,jA h0 _⟩;rw[Nat.zero_add,cell_of_row _ _ j _ _ (0,0) h0,List.getElem?_toArray,List.getElem?_eq_getElem (show j<qY.length from hj)];rfl
 refine wp_store_mid 97 x y ho ub 0 _ hx hy ht (by rw[adK];rfl) (all_oneCell_toArray (λv hv=>by
  unfold de at hv;simp only[List.mem_cons,List.not_mem_nil,or_false] at hv
  rcases hv with rfl|rfl|rfl|rfl|rfl|rfl|rfl|rfl<;>rfl)) ?_
 rw[hd];exact h
theorem afA:∀a b:Fin 8,bits BinOp.and IntKind.i64 (a.val:Int) (b.val:Int)=((a.val&&&b.val:Nat):Int):=Zd
theorem Mv {a b:Int} (ha:0<=a/\a<=7) (hb:0<=b/\b<=7):(bits BinOp.and IntKind.i64 a b==a)=j6 a b:=by
 have h1:=afA ⟨a.toNat,Zo⟩ ⟨b.toNat,Zo⟩;dsimp only at h1;rw[Int.toNat_of_nonneg ha.1,Int.toNat_of_nonneg hb.1] at h1;rw[h1];unfold j6;rw[Bool.eq_iff_iff];simp only[beq_iff_eq,decide_eq_true_eq];omega
end
section
variable {kb mb sb pb qb bb:Nat} {vT:Value} {U V S:Nat->Prop} {w wv w2:World} {K K2:Kn} {F:List (Nat×Obj)}
theorem afv (h:fF U w kb mb sb pb qb bb K) (hw:aE K) (x:En) (hx:kE x.cap) {g o:Nat} (hg:U g) (fW:g<w.heap.size) (hq:Fp w g o x):
  Zk 16 #[Zp kb,.pointer (some ⟨g,o,none⟩)] w λe w'=>Zr e (Zi (bY K x).2)/\fF U w' kb mb sb pb qb bb (bY K x).1/\Zn U w w':=by
 obtain⟨ev,jH⟩:=Ze ((bY K x).2);obtain⟨KF,kn⟩:=Ze ((bY K x).1);rw[<-jH,<-kn]
 have da:Hid (ev=jK K x/\KF=(if jK K x=0 then {K with es:=db K.bs K.es x.at' x.cap x.aW} else K)):=by
  unfold bY at jH kn;by_cases h0:jK K x=0
  ·rw[if_pos h0] at jH kn;exact⟨by rw[jH,h0],by rw[if_pos h0];exact kn⟩
  ·rw[if_neg h0] at jH kn;exact⟨jH,by rw[if_neg h0];exact kn⟩
 have HQ:=aa (⟨hq,hg,fW⟩:_/\_/\_);obtain⟨⟨a1,a2⟩,⟨k,n,ri,bd,gu,gb,ro,va⟩,⟨f1,f2⟩⟩:=x;have q2:w.cell? ⟨g,o+2,none⟩=some (Zi k):=hq 2 Zd;have q3:w.cell? ⟨g,o+3,none⟩=some (Zi n):=hq 3 Zd;have q4:w.cell? ⟨g,o+4,none⟩=some (Zi ri):=hq 4 Zd;have q5:w.cell? ⟨g,o+5,none⟩=some (Zu bd):=hq 5 Zd;have q6:w.cell? ⟨g,o+6,none⟩=some (Zu gu):=hq 6 Zd;have q7:w.cell? ⟨g,o+7,none⟩=some (Zi gb):=hq 7 Zd;have q8:w.cell? ⟨g,o+8,none⟩=some (Zi ro):=hq 8 Zd;have q9:w.cell? ⟨g,o+9,none⟩=some (Zu va):=hq 9 Zd;obtain⟨oo,iZ⟩:=Ze (Obj.cells #[Zi k,Zi n,Zi ri,Zu bd,Zu gu,Zi gb,Zi ro,Zu va] 97 (0,0));have H1:=aa ((aA.start h).alloc oo);obtain⟨w1,ag⟩:=Ze (w.alloc oo);obtain⟨ob,az⟩:=Ze (w.heap.size);rw[<-ag,<-az] at H1;have gH:=aa (H1.j.alive hw.p k n);have HW:=aa hw;clear h hw hq jH kn;go_enter func16,ntmps16;go_upto_region 2 with fail
 rw[<-iZ,<-ag,<-az];clear ag az;have HM:Hid ((ob,Obj.cells #[Zi k,Zi n,Zi ri,Zu bd,Zu gu,Zi gb,Zi ro,Zu va] 97 (0,0))∈[(ob,oo)]):=by rw[iZ];exact List.mem_cons_self
 generalize [(ob,oo)]=F at*;obtain⟨⟨c0,c1,c2,c3,c4,c5,c6,c7⟩,_⟩:=eL (H1.j.at HM.j);clear iZ q2 q3 q4 q5 q6 q7 q8 q9;go_wp2_with fail;refine gH.j.m ?_;rintro e w2 ⟨rfl,H2⟩;clear c0 c1 c2 c3 c4 c5 c6 c7 H1 gH;obtain⟨⟨c0,c1,c2,c3,c4,c5,c6,c7⟩,_⟩:=eL (H2.j.at HM.j);obtain⟨C,hC⟩:∃C:Cp,C=⟨k,n,ri,bd,gu,gb,ro,va⟩:=⟨_,rfl⟩
 have HC:=aa hC;clear hC
 cases nG:dk K.os K.rs (k,n) with
 |false=>
  have HE:Hid (ev=6/\KF=K):=by
   have e1:jK K ⟨(a1,a2),⟨k,n,ri,bd,gu,gb,ro,va⟩,(f1,f2)⟩=6:=by unfold jK;rw[if_pos nG]
   rw[e1] at da;exact⟨da.j.1,by have:=da.j.2;rw[if_neg Zd] at this;exact this⟩
  clear nG da;go_wp2_with fail
  all_goals
   go_ret
   exact⟨by rw[HE.j.1];rfl,by rw[HE.j.2];exact H2.j.fin⟩
 |true=>
  have gH:=aa nG;clear nG;obtain⟨B1,tN⟩:=Ze (A4 C);have fA:=aa tN;clear tN;go_upto_region 5 with fail
  go_cut [36] from 19 to 36 (λc wx=>c=.bool B1/\wx=w2)
  case first=>
   have hb:=fA.j;rw[HC.j] at hb;unfold A4 at hb;dsimp only at hb;by_cases r1:ri<0
   ·obtain rfl:B1=true:=by rw[hb];simp[r1]
    clear hb;go_wp2_with fail;go_meet;exact⟨rfl,rfl⟩
   ·by_cases r2:7<ri
    ·obtain rfl:B1=true:=by rw[hb];simp[r2]
     clear hb;go_wp2_with fail;go_meet;exact⟨rfl,rfl⟩
    ·by_cases r3:ro=0
     ·subst r3;by_cases r4:va=0
      ·subst r4;obtain rfl:B1=false:=by rw[hb];simp[r1,r2]
       clear hb;go_wp2_with fail;go_meet;exact⟨rfl,rfl⟩
      ·have r5:(va !=0)=true:=by simpa using r4
       obtain rfl:B1=true:=by rw[hb];simp[r5]
       clear hb;go_wp2_with fail;go_meet;exact⟨rfl,rfl⟩
     ·have r5:(ro !=0)=true:=by simpa using r3
      obtain rfl:B1=true:=by rw[hb];simp[r5]
      clear hb;go_wp2_with fail;go_meet;exact⟨rfl,rfl⟩
  case rest=>
   obtain⟨rfl,jU⟩:=hcut;have jU:=jU.symm;subst jU
   have kO:Hid (A4 C=true\/yV C=true\/wZ C=true->ev=4/\KF=K):=λhb=>by
    have hwf:kQ C=false:=by
     rw[FI];rcases hb with hb|hb|hb<;>simp[hb]
    have e1:jK K ⟨(a1,a2),⟨k,n,ri,bd,gu,gb,ro,va⟩,(f1,f2)⟩=4:=by
     unfold jK;rw[if_neg (by rw[gH.j];decide),<-HC.j,if_pos hwf]
    rw[e1] at da;exact⟨da.j.1,by have:=da.j.2;rw[if_neg Zd] at this;exact this⟩
   cases B1 with
   |true=>
    have HE:=aa (kO.j (Or.inl fA.j.symm));clear kO da;go_wp2_with fail
    all_goals
     go_ret
     exact⟨by rw[HE.j.1];rfl,by rw[HE.j.2];exact H2.j.fin⟩
   |false=>
    obtain⟨B2,lp⟩:=Ze (yV C);have fZ:=aa lp;clear lp;have pU:=hx;unfold kE at pU;dsimp only at pU;have agQ:=Zh gu Zo;by_cases k5:k=5
    ·have b5:(k==5)=true:=by simpa using k5
     have Cy:=aa k5;clear k5;go_upto_region 8 with fail
     go_cut [58] from 41 to 58 (λc wx=>c=.bool B2/\wx=w2)
     case first=>
      have hb:=fZ.j;rw[HC.j] at hb;unfold yV at hb;dsimp only at hb;rw[if_pos Cy.j] at hb;by_cases r1:gb<0
      ·obtain rfl:B2=true:=by rw[hb];simp[r1]
       clear hb;go_wp2_with fail;go_meet;exact⟨rfl,rfl⟩
      ·by_cases r2:32<gb
       ·obtain rfl:B2=true:=by rw[hb];simp[r2]
        clear hb;go_wp2_with fail;go_meet;exact⟨rfl,rfl⟩
       ·have agR:IntKind.u64.wrap gb=gb:=by rw[IntKind.wrap_u64];omega
        have kC:=aa hb;clear hb;go_wp2_with fail;go_meet;exact⟨by rw[kC.j,decide_eq_false (show¬gb<0 from Zo),decide_eq_false (show¬32<gb from Zo)];simp,rfl⟩
     case rest=>
      obtain⟨rfl,jU⟩:=hcut;have jU:=jU.symm;subst jU
      cases B2 with
      |true=>
       have HE:=aa (kO.j (Or.inr (Or.inl fZ.j.symm)));clear kO da;go_wp2_with fail
       all_goals
        go_ret
        exact⟨by rw[HE.j.1];rfl,by rw[HE.j.2];exact H2.j.fin⟩
      |false=>
       obtain⟨B3,qK⟩:=Ze (wZ C);have bJ:=aa qK;clear qK;go_upto_region 12 with fail
       go_cut [81] from 67 to 81 (λc wx=>c=.bool B3/\wx=w2)
       case first=>
        have hb:=bJ.j;rw[HC.j] at hb;unfold wZ at hb;dsimp only at hb;by_cases r1:bd=0
        ·have r5:(bd !=0)=false:=by simpa using r1
         obtain rfl:B3=false:=by rw[hb];simp[r1]
         clear r1;clear hb;go_wp2_with fail;go_meet;exact⟨rfl,rfl⟩
        ·have r5:(bd !=0)=true:=by simpa using r1
         clear r1;by_cases r2:k=7
         ·have r6:(k !=7)=false:=by simpa using r2
          obtain rfl:B3=false:=by rw[hb];simp[r2]
          clear r2;clear hb;go_wp2_with fail;go_meet;exact⟨rfl,rfl⟩
         ·have r6:(k !=7)=true:=by simpa using r2
          clear r2;by_cases r3:k=8
          ·have r7:(k !=8)=false:=by simpa using r3
           obtain rfl:B3=false:=by rw[hb];simp[r3]
           clear r3;clear hb;go_wp2_with fail;go_meet;exact⟨rfl,rfl⟩
          ·have r7:(k !=8)=true:=by simpa using r3
           obtain rfl:B3=true:=by rw[hb,r5,r6,r7];rfl
           clear r3;clear hb;go_wp2_with fail;go_meet;exact⟨rfl,rfl⟩
       case rest=>
        obtain⟨rfl,jU⟩:=hcut;have jU:=jU.symm;subst jU
        cases B3 with
        |true=>
         have HE:=aa (kO.j (Or.inr (Or.inr bJ.j.symm)));clear kO da;go_wp2_with fail
         all_goals
          go_ret
          exact⟨by rw[HE.j.1];rfl,by rw[HE.j.2];exact H2.j.fin⟩
        |false=>
         have mN:Hid (kQ C=true):=by
          show kQ C=true;rw[FI,<-fA.j,<-fZ.j,<-bJ.j];rfl
         obtain⟨u,hu⟩:=Ze ((aH K.bs K.es (f1,f2)).1);obtain⟨eg,gk⟩:=Ze ((aH K.bs K.es (f1,f2)).2);have iS:=aa (⟨hu,gk⟩:_/\_)
         have fS:Hid (∀F wv,aA U w kb mb sb pb qb bb F K wv->Zk 61 #[Zp sb,.agg #[Zi f1,Zi f2]] wv λe w'=>Zr e (.tuple #[bO u,Zi eg])/\Hid (aA U w kb mb sb pb qb bb F K w')):=λF wv h=>by
          rw[hu,gk];exact h.get (f1,f2)
         have aK:Hid (∀F wv,aA U w kb mb sb pb qb bb F K wv->wv.cell? ⟨kb,1,none⟩=some (Zp sb)/\wv.cell? ⟨g,o+10,none⟩=some (Zi f1)/\wv.cell? ⟨g,o+11,none⟩=some (Zi f2)):=λF wv h=>by
          have hq:=HQ.j.1.keep h.o HQ.j.2.2 (λh9=>h9 HQ.j.2.1);exact⟨h.c.2.1,hq 10 Zd,hq 11 Zd⟩
         clear hu gk kO;go_upto_region 14 with fail
         go_cut [7,8] from 82 to 93 (λc7 c8 wx=>∃ub,c7=Zp ub/\c8=Zi eg/\Hid (aA U w kb mb sb pb qb bb ((ub,.cells (de u).toArray 97 (0,0))::F) K wx)/\Hid (¬U ub/\∀p∈F,p.1≠ub))
         case first=>
          have cN:=aa H2.j.drew;have af:=aa (aK.j _ _ cN.j);obtain⟨wA,cJ⟩:=Ze ((w2.alloc (.cells #[Zi 0,Zi 0,Zi 0,Zu 0,Zu 0,Zi 0,Zi 0,Zu 0] 97)).drew);obtain⟨ub,bh⟩:=Ze (w2.heap.size);have gU:Hid (aA U w kb mb sb pb qb bb ((ub,.cells qY.toArray 97 (0,0))::F) K wA):=by rw[cJ,bh];exact(H2.j.alloc _).drew
          have eT:=aa (aK.j _ _ gU.j);have bG:Hid (¬U ub/\∀p∈F,p.1≠ub):=⟨λhu=>by have:=H2.j.low ub hu;omega,λp hp he=>by have:=au (H2.j.f p hp);omega⟩
          refine qg (S:=(λwv=>wv.cell? ⟨kb,1,none⟩=some (Zp sb)/\wv.cell? ⟨g,o+10,none⟩=some (Zi f1)/\wv.cell? ⟨g,o+11,none⟩=some (Zi f2))) Zx ?_;simp only[List.size_toArray,List.length_cons,List.length_nil,Nat.zero_add,Nat.reduceAdd];refine Zt 0 af.j ?_;refine Zt 1 af.j ?_;refine Zt 2 af.j ?_;refine Zt 3 af.j ?_;refine Zt 4 af.j ?_;refine Zt 5 af.j ?_;refine Zt 6 af.j ?_;refine Zt 7 af.j ?_;refine wpAnyH_ready (rs:=[8,12]) Zx (by simp) ?_;refine(AllReadyH.cons Zg (λK hK=>?_) (AllReadyH.cons Zg (λK hK=>?_) AllReadyH.nil))
          ·as_aux_lemma=>
            refine jy rfl 61 #[Operand.tmp 86,Operand.tmp 90] #[56,95] rfl #[Zp sb,.agg #[Zi f1,Zi f2]] (by first|rfl|simp[Act.eval,go_sem]) (by simp[go_sem]) (fS.j _ _ cN.j) ?_;rintro e w3 ⟨rfl,H3⟩;have aw:=aa (aK.j _ _ H3.j);clear bh cJ gU eT bG;obtain⟨ub,bh⟩:=Ze (w3.heap.size);obtain⟨wB,fU⟩:=Ze (w3.alloc (.cells #[Zi 0,Zi 0,Zi 0,Zu 0,Zu 0,Zi 0,Zi 0,Zu 0] 97));have fp:=aa (H3.j.alloc (.cells #[Zi 0,Zi 0,Zi 0,Zu 0,Zu 0,Zi 0,Zi 0,Zu 0] 97 (0,0)));rw[<-fU,<-bh] at fp;have mQ:=aa (aK.j _ _ fp.j);have bG:Hid (¬U ub/\∀p∈F,p.1≠ub):=⟨λhu=>by have:=H3.j.low ub hu;omega,λp hp he=>by have:=au (H3.j.f p hp);omega⟩
            have bJ:=aa (yT fp.j u bG.j.1 bG.j.2);have dw:=aa (aK.j _ _ bJ.j);have gq:=aa (fp.j.at List.mem_cons_self);refine⟨_,rfl,?_⟩;refine Zb hK aw.j ?_;refine Zt 9 aw.j ?_;refine Zt 10 aw.j ?_;refine Zt 11 aw.j ?_;refine Zy 12 (λK hK=>?_);go_simp;rw[<-fU,<-bh];clear fU bh;refine Zb hK mQ.j ?_;refine Zy 13 (λK hK=>?_);refine qk (.tmp 7) (.tmp 92) rfl rfl (u:=u) (ub:=ub) (by simp[Act.eval]) (by simp[Act.eval,bO,de]) gq.j ?_;refine Zb hK dw.j ?_;refine Zt 14 dw.j ?_;refine wpAnyH_done Zx ?_ _;go_wp2_with fail;go_meet;exact⟨_,rfl,rfl,bJ.j,bG.j⟩
          ·as_aux_lemma=>
            go_simp;rw[<-cJ,<-bh];clear cJ bh;refine Zb hK eT.j ?_;refine Zy 8 (λK hK=>?_);refine jy rfl 61 #[Operand.tmp 86,Operand.tmp 90] #[56,95] rfl #[Zp sb,.agg #[Zi f1,Zi f2]] (by first|rfl|simp[Act.eval,go_sem]) (by simp[go_sem]) (fS.j _ _ gU.j) ?_;rintro e w3 ⟨rfl,H3⟩;have aw:=aa (aK.j _ _ H3.j);have bJ:=aa (yT H3.j u bG.j.1 bG.j.2);have dw:=aa (aK.j _ _ bJ.j);have gq:=aa (H3.j.at List.mem_cons_self);refine⟨_,rfl,?_⟩;refine Zb hK aw.j ?_;refine Zt 9 aw.j ?_;refine Zt 10 aw.j ?_;refine Zt 11 aw.j ?_;refine Zy 13 (λK hK=>?_);refine qk (.tmp 7) (.tmp 92) rfl rfl (u:=u) (ub:=ub) (by simp[Act.eval]) (by simp[Act.eval,bO,de]) gq.j ?_;refine Zb hK dw.j ?_;refine Zt 14 dw.j ?_;refine wpAnyH_done Zx ?_ _;go_wp2_with fail;go_meet;exact⟨_,rfl,rfl,bJ.j,bG.j⟩
         case rest=>
          obtain⟨ub,rfl,rfl,H4,ua⟩:=hcut;clear H2 fS aK
          have HU:Hid (eg=0->0<=u.rights/\u.rights<=7):=λh0=>by
           obtain⟨i,_,hi,_,hc⟩:=B9 (show(aH K.bs K.es (f1,f2)).2=0 by rw[<-iS.j.2];exact h0);rw[iS.j.1,hc];have:=HW.j.rt _ (List.getElem_mem hi);exact⟨this.1,this.2.1⟩
          obtain⟨⟨d0,d1,d2,d3,d4,d5,d6,d7⟩,_⟩:=eL (show wc.heap[ub]?=some (.cells #[Zi u.kind,Zi u.num,Zi u.rights,Zu u.cQ,Zu u.guard,Zi u.bS,Zi u.root,Zu u.va] 97 (0,0)) from H4.j.at List.mem_cons_self);obtain⟨⟨c0,c1,c2,c3,c4,c5,c6,c7⟩,_⟩:=eL (H4.j.at (List.mem_cons_of_mem _ HM.j));obtain⟨B5,AS⟩:=Ze (((eg==0)&& !mI C u));have kD:=aa AS;clear AS;go_upto_region 15 with fail
          go_cut [124] from 94 to 124 (λc wx=>c=.bool B5/\wx=wc)
          case first=>
           have hb:=kD.j;rw[HC.j] at hb;by_cases g1:eg=0
           ·have wj:=HU.j g1;subst g1;obtain⟨uk,un,ur,sY,ug,Wr,Wo,Wn⟩:=u;dsimp only at d0 d1 d2 d3 d4 d5 d6 d7 wj
            have qC:0<=ri/\ri<=7:=by
             have h9:=CJ mN.j;rw[HC.j] at h9;exact⟨h9.1,h9.2.1⟩
            have nE:=Mv qC wj;unfold mI at hb;dsimp only at hb;clear HU qC wj;by_cases g2:uk=k
            ·by_cases g3:un=n
             ·have HG:=aa (⟨g2,g3⟩:_/\_);rw[g2] at d0;rw[g3] at d1;rw[decide_eq_true ⟨g2,g3⟩] at hb;clear g2 g3
              cases iB:j6 ri ur with
              |false=>
               rw[iB] at hb nE;obtain rfl:B5=true:=by rw[hb];rfl
               clear hb;have D1:(bits BinOp.and IntKind.i64 ri ur !=ri)=true:=by simpa using nE
               go_wp2_with fail;go_meet
               exact⟨rfl,rfl⟩
              |true=>
               rw[iB] at hb nE;have D1:bits BinOp.and IntKind.i64 ri ur=ri:=by simpa using nE
               by_cases g4:sY=0
               ·obtain rfl:B5=false:=by rw[hb,decide_eq_true (Or.inl g4)];rfl
                clear hb;subst g4;go_wp2_with fail;go_meet;exact⟨rfl,rfl⟩
               ·have g5:(sY !=0)=true:=by simpa using g4
                by_cases g6:sY=bd
                ·have g7:(sY !=bd)=false:=by simpa using g6
                 obtain rfl:B5=false:=by rw[hb,decide_eq_true (Or.inr g6)];rfl
                 clear hb g4 g6;go_wp2_with fail;go_meet;exact⟨rfl,rfl⟩
                ·have g7:(sY !=bd)=true:=by simpa using g6
                 obtain rfl:B5=true:=by rw[hb,decide_eq_false (λh=>h.elim g4 g6)];rfl
                 clear hb g4 g6;go_wp2_with fail;go_meet;exact⟨rfl,rfl⟩
             ·have g4:(un==n)=false:=by simpa using g3
              rw[g2] at d0;obtain rfl:B5=true:=by rw[hb,decide_eq_false (λh=>g3 h.2)];rfl
              clear hb g3 g2 nE;go_wp2_with fail;go_meet;exact⟨rfl,rfl⟩
            ·have g4:(uk==k)=false:=by simpa using g2
             obtain rfl:B5=true:=by rw[hb,decide_eq_false (λh=>g2 h.1)];rfl
             clear hb g2 nE;go_wp2_with fail;go_meet;exact⟨rfl,rfl⟩
           ·have L9:(eg==0)=false:=by simpa using g1
            obtain rfl:B5=false:=by rw[hb,L9];rfl
            clear hb g1;go_wp2_with fail;go_meet;exact⟨rfl,rfl⟩
          case rest=>
           obtain⟨rfl,tw⟩:=hcut;have tw:=tw.symm;subst tw
           cases B5 with
           |true=>
            have HE:Hid (ev=4/\KF=K):=by
             have hB:=kD.j.symm;rw[Bool.and_eq_true,Bool.not_eq_true',beq_iff_eq,iS.j.2,iS.j.1,HC.j] at hB
             have e1:jK K ⟨(a1,a2),⟨k,n,ri,bd,gu,gb,ro,va⟩,(f1,f2)⟩=4:=by
              unfold jK;rw[if_neg (by rw[gH.j];decide),if_neg (by have:=mN.j;rw[HC.j] at this;rw[this];decide),if_pos hB]
             rw[e1] at da;exact⟨da.j.1,by have:=da.j.2;rw[if_neg Zd] at this;exact this⟩
            clear da kD;go_wp2_with fail
            all_goals
             go_ret
             exact⟨by rw[HE.j.1];rfl,by rw[HE.j.2];exact H4.j.fin⟩
           |false=>
            have HE:Hid (ev=cK K.bs K.es (a1,a2) ⟨k,n,ri,bd,gu,gb,ro,va⟩ (f1,f2)/\KF={K with es:=db K.bs K.es (a1,a2) ⟨k,n,ri,bd,gu,gb,ro,va⟩ (f1,f2)}):=by
             have hB:=kD.j.symm;rw[Bool.and_eq_false_iff,Bool.not_eq_false',iS.j.2,iS.j.1,HC.j] at hB
             have e1:jK K ⟨(a1,a2),⟨k,n,ri,bd,gu,gb,ro,va⟩,(f1,f2)⟩=cK K.bs K.es (a1,a2) ⟨k,n,ri,bd,gu,gb,ro,va⟩ (f1,f2):=by
              unfold jK
              rw[if_neg (by rw[gH.j];decide),if_neg (by have:=mN.j;rw[HC.j] at this;rw[this];decide),if_neg (λh=>by
               rcases hB with hB|hB
               ·rw[h.1] at hB;exact absurd hB Zd
               ·rw[h.2] at hB;cases hB)]
             rw[e1] at da;refine⟨da.j.1,?_⟩;have h9:=da.j.2;by_cases sr:cK K.bs K.es (a1,a2) ⟨k,n,ri,bd,gu,gb,ro,va⟩ (f1,f2)=0
             ·rw[if_pos sr] at h9;exact h9
             ·rw[if_neg sr] at h9;rw[h9,show db K.bs K.es (a1,a2) ⟨k,n,ri,bd,gu,gb,ro,va⟩ (f1,f2)=K.es from if_neg sr]
            obtain⟨pe,DG⟩:=Ze (cK K.bs K.es (a1,a2) ⟨k,n,ri,bd,gu,gb,ro,va⟩ (f1,f2));have vz:=aa (H4.j.drew.Pa (a1,a2) ⟨k,n,ri,bd,gu,gb,ro,va⟩ (f1,f2) (by have:=HW.j.ne;omega));rw[<-DG] at HE vz;clear DG da kD
            have ar:Hid (∀K2 wv,aA U w kb mb sb pb qb bb ((ub,.cells (de u).toArray 97 (0,0))::F) K2 wv->wv.cell? ⟨kb,1,none⟩=some (Zp sb)/\wv.cell? ⟨g,o,none⟩=some (Zi a1)/\wv.cell? ⟨g,o+1,none⟩=some (Zi a2)/\wv.cell? ⟨g,o+10,none⟩=some (Zi f1)/\wv.cell? ⟨g,o+11,none⟩=some (Zi f2)/\wv.cell? ⟨ob,0,none⟩=some (Zi k)/\wv.cell? ⟨ob,1,none⟩=some (Zi n)/\wv.cell? ⟨ob,2,none⟩=some (Zi ri)/\wv.cell? ⟨ob,3,none⟩=some (Zu bd)/\wv.cell? ⟨ob,4,none⟩=some (Zu gu)/\wv.cell? ⟨ob,5,none⟩=some (Zi gb)/\wv.cell? ⟨ob,6,none⟩=some (Zi ro)/\wv.cell? ⟨ob,7,none⟩=some (Zu va)):=λK2 wv h=>by
             have hq:=HQ.j.1.keep h.o HQ.j.2.2 (λh9=>h9 HQ.j.2.1);obtain⟨⟨e0,e1,e2,e3,e4,e5,e6,e7⟩,_⟩:=eL (h.at (List.mem_cons_of_mem _ HM.j));exact⟨h.c.2.1,hq 0 Zd,hq 1 Zd,hq 10 Zd,hq 11 Zd,e0,e1,e2,e3,e4,e5,e6,e7⟩
            have af:=aa (ar.j _ _ H4.j.drew);have ak:=af;clear c0 c1 c2 c3 c4 c5 c6 c7 d0 d1 d2 d3 d4 d5 d6 d7;go_upto_region 17 with fail
            go_region_held3 (λwv=>Zc wv kb 1 (Zp sb)/\Zc wv g o (Zi a1)/\Zc wv g (o+1) (Zi a2)/\Zc wv g (o+10) (Zi f1)/\Zc wv g (o+11) (Zi f2)/\Zc wv ob 0 (Zi k)/\Zc wv ob 1 (Zi n)/\Zc wv ob 2 (Zi ri)/\Zc wv ob 3 (Zu bd)/\Zc wv ob 4 (Zu gu)/\Zc wv ob 5 (Zi gb)/\Zc wv ob 6 (Zi ro)/\Zc wv ob 7 (Zu va)) (with_reducible (first|exact af.j|exact ak.j)) (first|(go_at_call 62;refine vz.j.m ?_;rintro e w5 ⟨rfl,H5⟩;have ak:=aa (ar.j _ _ H5.j)));go_wp2_with fail
            all_goals
             go_ret;exact⟨by rw[HE.j.1];rfl,by rw[HE.j.2];exact H5.j.fin⟩
    ·have b5:(k==5)=false:=by simpa using k5
     have Cy:=aa k5;clear k5;go_upto_region 10 with fail
     go_cut [66] from 59 to 66 (λc wx=>c=.bool B2/\wx=w2)
     case first=>
      have hb:=fZ.j;rw[HC.j] at hb;unfold yV at hb;dsimp only at hb;rw[if_neg Cy.j] at hb;by_cases r1:gu=0
      ·have r3:(gu !=0)=false:=by simpa using r1
       have oq:=hb;rw[r3] at oq;clear r1 hb;by_cases r2:gb=0
       ·have r4:(gb !=0)=false:=by simpa using r2
        obtain rfl:B2=false:=by rw[oq,r4];rfl
        clear r2 oq;go_wp2_with fail;go_meet;exact⟨rfl,rfl⟩
       ·have r4:(gb !=0)=true:=by simpa using r2
        obtain rfl:B2=true:=by rw[oq,r4];rfl
        clear r2 oq;go_wp2_with fail;go_meet;exact⟨rfl,rfl⟩
      ·have r3:(gu !=0)=true:=by simpa using r1
       obtain rfl:B2=true:=by rw[hb,r3];rfl
       clear r1;clear hb;go_wp2_with fail;go_meet;exact⟨rfl,rfl⟩
     case rest=>
      obtain⟨rfl,jU⟩:=hcut;have jU:=jU.symm;subst jU
      cases B2 with
      |true=>
       have HE:=aa (kO.j (Or.inr (Or.inl fZ.j.symm)));clear kO da;go_wp2_with fail
       all_goals
        go_ret
        exact⟨by rw[HE.j.1];rfl,by rw[HE.j.2];exact H2.j.fin⟩
      |false=>
       obtain⟨B3,qK⟩:=Ze (wZ C);have bJ:=aa qK;clear qK;go_upto_region 12 with fail
       go_cut [81] from 67 to 81 (λc wx=>c=.bool B3/\wx=w2)
       case first=>
        have hb:=bJ.j;rw[HC.j] at hb;unfold wZ at hb;dsimp only at hb;by_cases r1:bd=0
        ·have r5:(bd !=0)=false:=by simpa using r1
         obtain rfl:B3=false:=by rw[hb];simp[r1]
         clear r1;clear hb;go_wp2_with fail;go_meet;exact⟨rfl,rfl⟩
        ·have r5:(bd !=0)=true:=by simpa using r1
         clear r1;by_cases r2:k=7
         ·have r6:(k !=7)=false:=by simpa using r2
          obtain rfl:B3=false:=by rw[hb];simp[r2]
          clear r2;clear hb;go_wp2_with fail;go_meet;exact⟨rfl,rfl⟩
         ·have r6:(k !=7)=true:=by simpa using r2
          clear r2;by_cases r3:k=8
          ·have r7:(k !=8)=false:=by simpa using r3
           obtain rfl:B3=false:=by rw[hb];simp[r3]
           clear r3;clear hb;go_wp2_with fail;go_meet;exact⟨rfl,rfl⟩
          ·have r7:(k !=8)=true:=by simpa using r3
           obtain rfl:B3=true:=by rw[hb,r5,r6,r7];rfl
           clear r3;clear hb;go_wp2_with fail;go_meet;exact⟨rfl,rfl⟩
       case rest=>
        obtain⟨rfl,jU⟩:=hcut;have jU:=jU.symm;subst jU
        cases B3 with
        |true=>
         have HE:=aa (kO.j (Or.inr (Or.inr bJ.j.symm)));clear kO da;go_wp2_with fail
         all_goals
          go_ret
          exact⟨by rw[HE.j.1];rfl,by rw[HE.j.2];exact H2.j.fin⟩
        |false=>
         have mN:Hid (kQ C=true):=by
          show kQ C=true;rw[FI,<-fA.j,<-fZ.j,<-bJ.j];rfl
         obtain⟨u,hu⟩:=Ze ((aH K.bs K.es (f1,f2)).1);obtain⟨eg,gk⟩:=Ze ((aH K.bs K.es (f1,f2)).2);have iS:=aa (⟨hu,gk⟩:_/\_)
         have fS:Hid (∀F wv,aA U w kb mb sb pb qb bb F K wv->Zk 61 #[Zp sb,.agg #[Zi f1,Zi f2]] wv λe w'=>Zr e (.tuple #[bO u,Zi eg])/\Hid (aA U w kb mb sb pb qb bb F K w')):=λF wv h=>by
          rw[hu,gk];exact h.get (f1,f2)
         have aK:Hid (∀F wv,aA U w kb mb sb pb qb bb F K wv->wv.cell? ⟨kb,1,none⟩=some (Zp sb)/\wv.cell? ⟨g,o+10,none⟩=some (Zi f1)/\wv.cell? ⟨g,o+11,none⟩=some (Zi f2)):=λF wv h=>by
          have hq:=HQ.j.1.keep h.o HQ.j.2.2 (λh9=>h9 HQ.j.2.1);exact⟨h.c.2.1,hq 10 Zd,hq 11 Zd⟩
         clear hu gk kO;go_upto_region 14 with fail
         go_cut [7,8] from 82 to 93 (λc7 c8 wx=>∃ub,c7=Zp ub/\c8=Zi eg/\Hid (aA U w kb mb sb pb qb bb ((ub,.cells (de u).toArray 97 (0,0))::F) K wx)/\Hid (¬U ub/\∀p∈F,p.1≠ub))
         case first=>
          have cN:=aa H2.j.drew;have af:=aa (aK.j _ _ cN.j);obtain⟨wA,cJ⟩:=Ze ((w2.alloc (.cells #[Zi 0,Zi 0,Zi 0,Zu 0,Zu 0,Zi 0,Zi 0,Zu 0] 97)).drew);obtain⟨ub,bh⟩:=Ze (w2.heap.size);have gU:Hid (aA U w kb mb sb pb qb bb ((ub,.cells qY.toArray 97 (0,0))::F) K wA):=by rw[cJ,bh];exact(H2.j.alloc _).drew
          have eT:=aa (aK.j _ _ gU.j);have bG:Hid (¬U ub/\∀p∈F,p.1≠ub):=⟨λhu=>by have:=H2.j.low ub hu;omega,λp hp he=>by have:=au (H2.j.f p hp);omega⟩
          refine qg (S:=(λwv=>wv.cell? ⟨kb,1,none⟩=some (Zp sb)/\wv.cell? ⟨g,o+10,none⟩=some (Zi f1)/\wv.cell? ⟨g,o+11,none⟩=some (Zi f2))) Zx ?_;simp only[List.size_toArray,List.length_cons,List.length_nil,Nat.zero_add,Nat.reduceAdd];refine Zt 0 af.j ?_;refine Zt 1 af.j ?_;refine Zt 2 af.j ?_;refine Zt 3 af.j ?_;refine Zt 4 af.j ?_;refine Zt 5 af.j ?_;refine Zt 6 af.j ?_;refine Zt 7 af.j ?_;refine wpAnyH_ready (rs:=[8,12]) Zx (by simp) ?_;refine(AllReadyH.cons Zg (λK hK=>?_) (AllReadyH.cons Zg (λK hK=>?_) AllReadyH.nil))
          ·as_aux_lemma=>
            refine jy rfl 61 #[Operand.tmp 86,Operand.tmp 90] #[56,95] rfl #[Zp sb,.agg #[Zi f1,Zi f2]] (by first|rfl|simp[Act.eval,go_sem]) (by simp[go_sem]) (fS.j _ _ cN.j) ?_;rintro e w3 ⟨rfl,H3⟩;have aw:=aa (aK.j _ _ H3.j);clear bh cJ gU eT bG;obtain⟨ub,bh⟩:=Ze (w3.heap.size);obtain⟨wB,fU⟩:=Ze (w3.alloc (.cells #[Zi 0,Zi 0,Zi 0,Zu 0,Zu 0,Zi 0,Zi 0,Zu 0] 97));have fp:=aa (H3.j.alloc (.cells #[Zi 0,Zi 0,Zi 0,Zu 0,Zu 0,Zi 0,Zi 0,Zu 0] 97 (0,0)));rw[<-fU,<-bh] at fp;have mQ:=aa (aK.j _ _ fp.j);have bG:Hid (¬U ub/\∀p∈F,p.1≠ub):=⟨λhu=>by have:=H3.j.low ub hu;omega,λp hp he=>by have:=au (H3.j.f p hp);omega⟩
            have bJ:=aa (yT fp.j u bG.j.1 bG.j.2);have dw:=aa (aK.j _ _ bJ.j);have gq:=aa (fp.j.at List.mem_cons_self);refine⟨_,rfl,?_⟩;refine Zb hK aw.j ?_;refine Zt 9 aw.j ?_;refine Zt 10 aw.j ?_;refine Zt 11 aw.j ?_;refine Zy 12 (λK hK=>?_);go_simp;rw[<-fU,<-bh];clear fU bh;refine Zb hK mQ.j ?_;refine Zy 13 (λK hK=>?_);refine qk (.tmp 7) (.tmp 92) rfl rfl (u:=u) (ub:=ub) (by simp[Act.eval]) (by simp[Act.eval,bO,de]) gq.j ?_;refine Zb hK dw.j ?_;refine Zt 14 dw.j ?_;refine wpAnyH_done Zx ?_ _;go_wp2_with fail;go_meet;exact⟨_,rfl,rfl,bJ.j,bG.j⟩
          ·as_aux_lemma=>
            go_simp;rw[<-cJ,<-bh];clear cJ bh;refine Zb hK eT.j ?_;refine Zy 8 (λK hK=>?_);refine jy rfl 61 #[Operand.tmp 86,Operand.tmp 90] #[56,95] rfl #[Zp sb,.agg #[Zi f1,Zi f2]] (by first|rfl|simp[Act.eval,go_sem]) (by simp[go_sem]) (fS.j _ _ gU.j) ?_;rintro e w3 ⟨rfl,H3⟩;have aw:=aa (aK.j _ _ H3.j);have bJ:=aa (yT H3.j u bG.j.1 bG.j.2);have dw:=aa (aK.j _ _ bJ.j);have gq:=aa (H3.j.at List.mem_cons_self);refine⟨_,rfl,?_⟩;refine Zb hK aw.j ?_;refine Zt 9 aw.j ?_;refine Zt 10 aw.j ?_;refine Zt 11 aw.j ?_;refine Zy 13 (λK hK=>?_);refine qk (.tmp 7) (.tmp 92) rfl rfl (u:=u) (ub:=ub) (by simp[Act.eval]) (by simp[Act.eval,bO,de]) gq.j ?_;refine Zb hK dw.j ?_;refine Zt 14 dw.j ?_;refine wpAnyH_done Zx ?_ _;go_wp2_with fail;go_meet;exact⟨_,rfl,rfl,bJ.j,bG.j⟩
         case rest=>
          obtain⟨ub,rfl,rfl,H4,ua⟩:=hcut;clear H2 fS aK
          have HU:Hid (eg=0->0<=u.rights/\u.rights<=7):=λh0=>by
           obtain⟨i,_,hi,_,hc⟩:=B9 (show(aH K.bs K.es (f1,f2)).2=0 by rw[<-iS.j.2];exact h0);rw[iS.j.1,hc];have:=HW.j.rt _ (List.getElem_mem hi);exact⟨this.1,this.2.1⟩
          obtain⟨⟨d0,d1,d2,d3,d4,d5,d6,d7⟩,_⟩:=eL (show wc.heap[ub]?=some (.cells #[Zi u.kind,Zi u.num,Zi u.rights,Zu u.cQ,Zu u.guard,Zi u.bS,Zi u.root,Zu u.va] 97 (0,0)) from H4.j.at List.mem_cons_self);obtain⟨⟨c0,c1,c2,c3,c4,c5,c6,c7⟩,_⟩:=eL (H4.j.at (List.mem_cons_of_mem _ HM.j));obtain⟨B5,AS⟩:=Ze (((eg==0)&& !mI C u));have kD:=aa AS;clear AS;go_upto_region 15 with fail
          go_cut [124] from 94 to 124 (λc wx=>c=.bool B5/\wx=wc)
          case first=>
           have hb:=kD.j;rw[HC.j] at hb;by_cases g1:eg=0
           ·have wj:=HU.j g1;subst g1;obtain⟨uk,un,ur,sY,ug,Wr,Wo,Wn⟩:=u;dsimp only at d0 d1 d2 d3 d4 d5 d6 d7 wj
            have qC:0<=ri/\ri<=7:=by
             have h9:=CJ mN.j;rw[HC.j] at h9;exact⟨h9.1,h9.2.1⟩
            have nE:=Mv qC wj;unfold mI at hb;dsimp only at hb;clear HU qC wj;by_cases g2:uk=k
            ·by_cases g3:un=n
             ·have HG:=aa (⟨g2,g3⟩:_/\_);rw[g2] at d0;rw[g3] at d1;rw[decide_eq_true ⟨g2,g3⟩] at hb;clear g2 g3
              cases iB:j6 ri ur with
              |false=>
               rw[iB] at hb nE;obtain rfl:B5=true:=by rw[hb];rfl
               clear hb;have D1:(bits BinOp.and IntKind.i64 ri ur !=ri)=true:=by simpa using nE
               go_wp2_with fail;go_meet
               exact⟨rfl,rfl⟩
              |true=>
               rw[iB] at hb nE;have D1:bits BinOp.and IntKind.i64 ri ur=ri:=by simpa using nE
               by_cases g4:sY=0
               ·obtain rfl:B5=false:=by rw[hb,decide_eq_true (Or.inl g4)];rfl
                clear hb;subst g4;go_wp2_with fail;go_meet;exact⟨rfl,rfl⟩
               ·have g5:(sY !=0)=true:=by simpa using g4
                by_cases g6:sY=bd
                ·have g7:(sY !=bd)=false:=by simpa using g6
                 obtain rfl:B5=false:=by rw[hb,decide_eq_true (Or.inr g6)];rfl
                 clear hb g4 g6;go_wp2_with fail;go_meet;exact⟨rfl,rfl⟩
                ·have g7:(sY !=bd)=true:=by simpa using g6
                 obtain rfl:B5=true:=by rw[hb,decide_eq_false (λh=>h.elim g4 g6)];rfl
                 clear hb g4 g6;go_wp2_with fail;go_meet;exact⟨rfl,rfl⟩
             ·have g4:(un==n)=false:=by simpa using g3
              rw[g2] at d0;obtain rfl:B5=true:=by rw[hb,decide_eq_false (λh=>g3 h.2)];rfl
              clear hb g3 g2 nE;go_wp2_with fail;go_meet;exact⟨rfl,rfl⟩
            ·have g4:(uk==k)=false:=by simpa using g2
             obtain rfl:B5=true:=by rw[hb,decide_eq_false (λh=>g2 h.1)];rfl
             clear hb g2 nE;go_wp2_with fail;go_meet;exact⟨rfl,rfl⟩
           ·have L9:(eg==0)=false:=by simpa using g1
            obtain rfl:B5=false:=by rw[hb,L9];rfl
            clear hb g1;go_wp2_with fail;go_meet;exact⟨rfl,rfl⟩
          case rest=>
           obtain⟨rfl,tw⟩:=hcut;have tw:=tw.symm;subst tw
           cases B5 with
           |true=>
            have HE:Hid (ev=4/\KF=K):=by
             have hB:=kD.j.symm;rw[Bool.and_eq_true,Bool.not_eq_true',beq_iff_eq,iS.j.2,iS.j.1,HC.j] at hB
             have e1:jK K ⟨(a1,a2),⟨k,n,ri,bd,gu,gb,ro,va⟩,(f1,f2)⟩=4:=by
              unfold jK;rw[if_neg (by rw[gH.j];decide),if_neg (by have:=mN.j;rw[HC.j] at this;rw[this];decide),if_pos hB]
             rw[e1] at da;exact⟨da.j.1,by have:=da.j.2;rw[if_neg Zd] at this;exact this⟩
            clear da kD;go_wp2_with fail
            all_goals
             go_ret
             exact⟨by rw[HE.j.1];rfl,by rw[HE.j.2];exact H4.j.fin⟩
           |false=>
            have HE:Hid (ev=cK K.bs K.es (a1,a2) ⟨k,n,ri,bd,gu,gb,ro,va⟩ (f1,f2)/\KF={K with es:=db K.bs K.es (a1,a2) ⟨k,n,ri,bd,gu,gb,ro,va⟩ (f1,f2)}):=by
             have hB:=kD.j.symm;rw[Bool.and_eq_false_iff,Bool.not_eq_false',iS.j.2,iS.j.1,HC.j] at hB
             have e1:jK K ⟨(a1,a2),⟨k,n,ri,bd,gu,gb,ro,va⟩,(f1,f2)⟩=cK K.bs K.es (a1,a2) ⟨k,n,ri,bd,gu,gb,ro,va⟩ (f1,f2):=by
              unfold jK
              rw[if_neg (by rw[gH.j];decide),if_neg (by have:=mN.j;rw[HC.j] at this;rw[this];decide),if_neg (λh=>by
               rcases hB with hB|hB
               ·rw[h.1] at hB;exact absurd hB Zd
               ·rw[h.2] at hB;cases hB)]
             rw[e1] at da;refine⟨da.j.1,?_⟩;have h9:=da.j.2;by_cases sr:cK K.bs K.es (a1,a2) ⟨k,n,ri,bd,gu,gb,ro,va⟩ (f1,f2)=0
             ·rw[if_pos sr] at h9;exact h9
             ·rw[if_neg sr] at h9;rw[h9,show db K.bs K.es (a1,a2) ⟨k,n,ri,bd,gu,gb,ro,va⟩ (f1,f2)=K.es from if_neg sr]
            obtain⟨pe,DG⟩:=Ze (cK K.bs K.es (a1,a2) ⟨k,n,ri,bd,gu,gb,ro,va⟩ (f1,f2));have vz:=aa (H4.j.drew.Pa (a1,a2) ⟨k,n,ri,bd,gu,gb,ro,va⟩ (f1,f2) (by have:=HW.j.ne;omega));rw[<-DG] at HE vz;clear DG da kD
            have ar:Hid (∀K2 wv,aA U w kb mb sb pb qb bb ((ub,.cells (de u).toArray 97 (0,0))::F) K2 wv->wv.cell? ⟨kb,1,none⟩=some (Zp sb)/\wv.cell? ⟨g,o,none⟩=some (Zi a1)/\wv.cell? ⟨g,o+1,none⟩=some (Zi a2)/\wv.cell? ⟨g,o+10,none⟩=some (Zi f1)/\wv.cell? ⟨g,o+11,none⟩=some (Zi f2)/\wv.cell? ⟨ob,0,none⟩=some (Zi k)/\wv.cell? ⟨ob,1,none⟩=some (Zi n)/\wv.cell? ⟨ob,2,none⟩=some (Zi ri)/\wv.cell? ⟨ob,3,none⟩=some (Zu bd)/\wv.cell? ⟨ob,4,none⟩=some (Zu gu)/\wv.cell? ⟨ob,5,none⟩=some (Zi gb)/\wv.cell? ⟨ob,6,none⟩=some (Zi ro)/\wv.cell? ⟨ob,7,none⟩=some (Zu va)):=λK2 wv h=>by
             have hq:=HQ.j.1.keep h.o HQ.j.2.2 (λh9=>h9 HQ.j.2.1);obtain⟨⟨e0,e1,e2,e3,e4,e5,e6,e7⟩,_⟩:=eL (h.at (List.mem_cons_of_mem _ HM.j));exact⟨h.c.2.1,hq 0 Zd,hq 1 Zd,hq 10 Zd,hq 11 Zd,e0,e1,e2,e3,e4,e5,e6,e7⟩
            have af:=aa (ar.j _ _ H4.j.drew);have ak:=af;clear c0 c1 c2 c3 c4 c5 c6 c7 d0 d1 d2 d3 d4 d5 d6 d7;go_upto_region 17 with fail
            go_region_held3 (λwv=>Zc wv kb 1 (Zp sb)/\Zc wv g o (Zi a1)/\Zc wv g (o+1) (Zi a2)/\Zc wv g (o+10) (Zi f1)/\Zc wv g (o+11) (Zi f2)/\Zc wv ob 0 (Zi k)/\Zc wv ob 1 (Zi n)/\Zc wv ob 2 (Zi ri)/\Zc wv ob 3 (Zu bd)/\Zc wv ob 4 (Zu gu)/\Zc wv ob 5 (Zi gb)/\Zc wv ob 6 (Zi ro)/\Zc wv ob 7 (Zu va)) (with_reducible (first|exact af.j|exact ak.j)) (first|(go_at_call 62;refine vz.j.m ?_;rintro e w5 ⟨rfl,H5⟩;have ak:=aa (ar.j _ _ H5.j)));go_wp2_with fail
            all_goals
             go_ret;exact⟨by rw[HE.j.1];rfl,by rw[HE.j.2];exact H5.j.fin⟩
end
section
variable {kb mb sb pb qb bb:Nat} {vT:Value} {U V S:Nat->Prop} {w wv w2:World} {K K2:Kn} {F:List (Nat×Obj)}
def Gq (s:Sl) (c:Cp) (x:En):Bool:=decide (0<x.cap.root)&&(decide (x.at'=s) || (decide (c.kind=3)&&decide (x.cap.kind=c.kind/\x.cap.num=c.num)))
theorem P0 (es:List En) (s:Sl) (c:Cp):qy es s c=es.any (Gq s c):=rfl
theorem aA.row (h:aA U w kb mb sb pb qb bb F K wv):∃p c,wv.cell? ⟨sb,1,none⟩=some (.slice p K.es.length c)/\∀(k:Nat) (hk:k<K.es.length),∃g,p=some ⟨g,0,none⟩/\∀j,j<12->wv.cell? ⟨g,k*12+j,none⟩=(vk K.es[k])[j]?:=by
 obtain⟨⟨V,h1,h2,vT,h3⟩,_,_⟩:=h;obtain⟨U2,vb,ve,h4⟩:=h3.o7;obtain⟨p,c,hv,hg⟩:=h4.en;refine⟨p,c,?_,hg⟩;rw[<-hv];exact h4.c1
def ML (U:Nat->Prop) (w:World) (kb mb sb pb qb bb:Nat) (F:List (Nat×Obj)) (K:Kn) (s:Sl) (c:Cp) (k:Nat) (wr:World):Prop:=(∀x∈K.es.take k,Gq s c x=false)/\aA U w kb mb sb pb qb bb F K wr
theorem aA.ZR (h:aA U w kb mb sb pb qb bb F K wv) (root:Int) (va:Nat) (hv:va<4294967296) (t:Int):Zk 121 #[Zp mb,Zi root,Zi (va:Int),Zi t] wv λe w'=>Zr e (Zi ((iK K.f K.n root va t).2:Nat))/\Hid (aA U w kb mb sb pb qb bb F {K with f:=(iK K.f K.n root va t).1} w'):=
 h.call (λV vT h=>by
  refine(aD.call h 0 rfl (sG.bj mb K.n (iK K.f K.n root va t).1) (λU2 ⟨bx,a,b,c,d⟩=>(YX a root va hv t).m ?_)).mono (λ_ _ h=>⟨h.1,⟨vT,h.2.1⟩,h.2.2⟩);rintro e w' ⟨h1,h2,h3⟩;have hs:=h3.size
  exact⟨h1,⟨bx,h2,b,c,λk hk=>by have:=d k hk;omega⟩,h3.mono (λk _ hk h4=>by subst hk;exact c h4)⟩)
theorem aA.mfr (h:aA U w kb mb sb pb qb bb F K wv) (root:Int) (va:Nat) (hv:va<4294967296) (fr r:Int):Zk 122 #[Zp mb,Zi root,Zi (va:Int),Zi fr,Zi r] wv λe w'=>Zr e (Zi ((fT K.f K.n root va fr r).2:Nat))/\Hid (aA U w kb mb sb pb qb bb F {K with f:=(fT K.f K.n root va fr r).1} w'):=
 h.call (λV vT h=>by
  refine(aD.call h 0 rfl (sG.bj mb K.n (fT K.f K.n root va fr r).1) (λU2 ⟨bx,a,b,c,d⟩=>(Y1 a root va hv fr r).m ?_)).mono (λ_ _ h=>⟨h.1,⟨vT,h.2.1⟩,h.2.2⟩);rintro e w' ⟨h1,h2,h3⟩;have hs:=h3.size
  exact⟨h1,⟨bx,h2,b,c,λk hk=>by have:=d k hk;omega⟩,h3.mono (λk _ hk h4=>by subst hk;exact c h4)⟩)
theorem aA.Tr (h:aA U w kb mb sb pb qb bb F K wv) (s:Sl) (cp:Cp):Zk 123 #[Zp sb,.agg #[Zi s.1,Zi s.2],.agg #[Zi cp.kind,Zi cp.num,Zi cp.rights,Zu cp.cQ,Zu cp.guard,Zi cp.bS,Zi cp.root,Zu cp.va]] wv λe w'=>Zr e (Zi (kS K.bs K.es s cp))/\Hid (aA U w kb mb sb pb qb bb F {K with es:=eY K.bs K.es s cp} w'):=
 h.call (λV vT h=>(aD.call h 1 rfl (p4.bj sb K.bs (eY K.bs K.es s cp)) (λU2 b=>XF b s cp)).mono (λ_ _ h=>⟨h.1,⟨vT,h.2.1⟩,h.2.2⟩))
theorem P5 {s:Sl} {c:Cp} {root:Int} {va:Nat} {rights:Int} {ft:Nat->UInt8} {te:Int} (h:lJ K s c root va rights=(ft,te)):gM K s c root va rights=if te=0 then ({K with f:=ft,es:=eY K.bs K.es s {c with root:=root+1,va:=(td c va:Int)}},0) else ({K with f:=ft},te):=by
 unfold gM;rw[h]
theorem afz (r:Int) {b:Int} (hb:0<=b/\b<=7):(bits BinOp.and IntKind.i64 r b !=r)=decide (r<0\/7<r\/j6 r b=false):=by
 by_cases hr:0<=r/\r<=7
 ·have h1:=Mv hr hb;have h2:(bits BinOp.and IntKind.i64 r b !=r)= !(bits BinOp.and IntKind.i64 r b==r):=rfl;rw[h2,h1]
  cases j6 r b with
  |true=>simp;omega
  |false=>simp
 ·rw[decide_eq_true (show r<0\/7<r\/j6 r b=false from Zo)]
  have h3:bits BinOp.and IntKind.i64 r b<=7/\0<=bits BinOp.and IntKind.i64 r b:=by
   have cw:∃m:Nat,b=(m:Int)/\m<=7:=⟨b.toNat,Zo,Zo⟩
   obtain⟨m,rfl,hm⟩:=cw;show IntKind.i64.wrap ((BitVec.ofInt 64 r&&&BitVec.ofInt 64 (m:Int)).toNat:Int)<=7/\0<=IntKind.i64.wrap ((BitVec.ofInt 64 r&&&BitVec.ofInt 64 (m:Int)).toNat:Int)
   have h4:(BitVec.ofInt 64 r&&&BitVec.ofInt 64 (m:Int)).toNat<=7:=by
    have h5:(BitVec.ofInt 64 (m:Int)).toNat=m:=by
     rw[BitVec.toNat_ofInt];omega
    rw[BitVec.toNat_and,h5];exact Nat.le_trans Nat.and_le_right hm
   rw[IntKind.wrap_i64];omega
  simp only[bne_iff_ne,ne_eq];omega
theorem abG (h:fF U w kb mb sb pb qb bb K) (hw:aE K) (s1 s2 root:Int) (hr:0<=root/\root<256) (va:Nat) (jC:va<4294967296) (rights:Int) (nY:aj rights) (hg:(aH K.bs K.es (s1,s2)).2=0):
  Zk 63 #[Zp kb,.agg #[Zi s1,Zi s2],Zi root,Zi (va:Int),Zi rights] w λe w'=>Zr e (Zi (gM K (s1,s2) (aH K.bs K.es (s1,s2)).1 root va rights).2)/\fF U w' kb mb sb pb qb bb (gM K (s1,s2) (aH K.bs K.es (s1,s2)).1 root va rights).1/\Zn U w w':=by
 obtain⟨u,hu⟩:=Ze ((aH K.bs K.es (s1,s2)).1);rw[<-hu];obtain⟨ev,jH⟩:=Ze ((gM K (s1,s2) u root va rights).2);obtain⟨KF,kn⟩:=Ze ((gM K (s1,s2) u root va rights).1);rw[<-jH,<-kn];have da:=aa (⟨jH,kn⟩:_/\_);clear jH kn;obtain⟨eg,gk⟩:=Ze ((aH K.bs K.es (s1,s2)).2);have iS:=aa (⟨hu,gk⟩:_/\_)
 have fS:Hid (∀F wv,aA U w kb mb sb pb qb bb F K wv->Zk 61 #[Zp sb,.agg #[Zi s1,Zi s2]] wv λe w'=>Zr e (.tuple #[bO u,Zi eg])/\Hid (aA U w kb mb sb pb qb bb F K w')):=λF wv h=>by
  rw[hu,gk];exact h.get (s1,s2)
 have HU:Hid ((0<=u.rights/\u.rights<=7)/\0<=u.root):=by
  obtain⟨i,_,hi,_,hc⟩:=B9 hg;rw[<-hu] at hc;rw[hc];have:=hw.rt _ (List.getElem_mem hi);exact⟨⟨this.1,this.2.1⟩,this.2.2⟩
 obtain⟨oo,iZ⟩:=Ze (Obj.cells #[Zi s1,Zi s2] 95 (0,0));have H2:=aa ((aA.start h).alloc oo);obtain⟨w2,aT⟩:=Ze (w.alloc oo);obtain⟨so,sm⟩:=Ze (w.heap.size);rw[<-aT,<-sm] at H2;have HM:Hid ((so,Obj.cells #[Zi s1,Zi s2] 95 (0,0))∈[(so,oo)]):=by rw[iZ];exact List.mem_cons_self
 have aK:Hid (∀F wv,(so,Obj.cells #[Zi s1,Zi s2] 95 (0,0))∈F->aA U w kb mb sb pb qb bb F K wv->Zc wv kb 1 (Zp sb)/\Zc wv so 0 (Zi s1)/\Zc wv so 1 (Zi s2)):=λF wv hm h=>⟨h.c.2.1,(h.two hm).1,(h.two hm).2⟩
 have HW:=aa hw;have HEQ:=aa hg;generalize [(so,oo)]=F at*;clear h hw hu gk hg;go_enter func63,ntmps63;go_upto_region 1 with fail
 rw[<-iZ,<-aT,<-sm];clear aT sm iZ;go_cut [11,12] from 16 to 24 (λc7 c8 wx=>∃ub,c7=Zp ub/\c8=Zi eg/\Hid (aA U w kb mb sb pb qb bb ((ub,.cells (de u).toArray 97 (0,0))::F) K wx)/\Hid (¬U ub/\∀p∈F,p.1≠ub))
 case first=>
  have cN:=aa H2.j.drew;have af:=aa (aK.j _ _ HM.j cN.j);obtain⟨wA,cJ⟩:=Ze ((w2.alloc (.cells #[Zi 0,Zi 0,Zi 0,Zu 0,Zu 0,Zi 0,Zi 0,Zu 0] 97)).drew);obtain⟨ub,bh⟩:=Ze (w2.heap.size);have gU:Hid (aA U w kb mb sb pb qb bb ((ub,.cells qY.toArray 97 (0,0))::F) K wA):=by rw[cJ,bh];exact(H2.j.alloc _).drew
  have eT:=aa (aK.j _ _ (List.mem_cons_of_mem _ HM.j) gU.j);have bG:Hid (¬U ub/\∀p∈F,p.1≠ub):=⟨λhu=>by have:=H2.j.low ub hu;omega,λp hp he=>by have:=au (H2.j.f p hp);omega⟩
  refine qg (S:=(λwv=>wv.cell? ⟨kb,1,none⟩=some (Zp sb)/\wv.cell? ⟨so,0,none⟩=some (Zi s1)/\wv.cell? ⟨so,1,none⟩=some (Zi s2))) Zx ?_;simp only[List.size_toArray,List.length_cons,List.length_nil,Nat.zero_add,Nat.reduceAdd];refine Zt 0 af.j ?_;refine Zt 1 af.j ?_;refine Zt 2 af.j ?_;refine Zt 3 af.j ?_;refine Zt 4 af.j ?_;refine wpAnyH_ready (rs:=[5,9]) Zx (by simp) ?_;refine(AllReadyH.cons Zg (λK hK=>?_) (AllReadyH.cons Zg (λK hK=>?_) AllReadyH.nil))
  ·as_aux_lemma=>
    refine jy rfl 61 #[Operand.tmp 20,Operand.tmp 21] #[56,95] rfl #[Zp sb,.agg #[Zi s1,Zi s2]] (by first|rfl|simp[Act.eval,go_sem]) (by simp[go_sem]) (fS.j _ _ cN.j) ?_;rintro e w3 ⟨rfl,H3⟩;have aw:=aa (aK.j _ _ HM.j H3.j);clear bh cJ gU eT bG;obtain⟨ub,bh⟩:=Ze (w3.heap.size);obtain⟨wB,fU⟩:=Ze (w3.alloc (.cells #[Zi 0,Zi 0,Zi 0,Zu 0,Zu 0,Zi 0,Zi 0,Zu 0] 97));have fp:=aa (H3.j.alloc (.cells #[Zi 0,Zi 0,Zi 0,Zu 0,Zu 0,Zi 0,Zi 0,Zu 0] 97 (0,0)));rw[<-fU,<-bh] at fp;have mQ:=aa (aK.j _ _ (List.mem_cons_of_mem _ HM.j) fp.j);have bG:Hid (¬U ub/\∀p∈F,p.1≠ub):=⟨λhu=>by have:=H3.j.low ub hu;omega,λp hp he=>by have:=au (H3.j.f p hp);omega⟩
    have bJ:=aa (yT fp.j u bG.j.1 bG.j.2);have dw:=aa (aK.j _ _ (List.mem_cons_of_mem _ HM.j) bJ.j);have gq:=aa (fp.j.at List.mem_cons_self);refine⟨_,rfl,?_⟩;refine Zb hK aw.j ?_;refine Zt 6 aw.j ?_;refine Zt 7 aw.j ?_;refine Zt 8 aw.j ?_;refine Zy 9 (λK hK=>?_);go_simp;rw[<-fU,<-bh];clear fU bh;refine Zb hK mQ.j ?_;refine Zy 10 (λK hK=>?_);refine qk (.tmp 11) (.tmp 23) rfl rfl (u:=u) (ub:=ub) (by simp[Act.eval]) (by simp[Act.eval,bO,de]) gq.j ?_;refine Zb hK dw.j ?_;refine Zt 11 dw.j ?_;refine wpAnyH_done Zx ?_ _;go_wp2_with fail;go_meet;exact⟨_,rfl,rfl,bJ.j,bG.j⟩
  ·as_aux_lemma=>
    go_simp;rw[<-cJ,<-bh];clear cJ bh;refine Zb hK eT.j ?_;refine Zy 5 (λK hK=>?_);refine jy rfl 61 #[Operand.tmp 20,Operand.tmp 21] #[56,95] rfl #[Zp sb,.agg #[Zi s1,Zi s2]] (by first|rfl|simp[Act.eval,go_sem]) (by simp[go_sem]) (fS.j _ _ gU.j) ?_;rintro e w3 ⟨rfl,H3⟩;have aw:=aa (aK.j _ _ (List.mem_cons_of_mem _ HM.j) H3.j);have bJ:=aa (yT H3.j u bG.j.1 bG.j.2);have dw:=aa (aK.j _ _ (List.mem_cons_of_mem _ HM.j) bJ.j);have gq:=aa (H3.j.at List.mem_cons_self);refine⟨_,rfl,?_⟩;refine Zb hK aw.j ?_;refine Zt 6 aw.j ?_;refine Zt 7 aw.j ?_;refine Zt 8 aw.j ?_;refine Zy 10 (λK hK=>?_);refine qk (.tmp 11) (.tmp 23) rfl rfl (u:=u) (ub:=ub) (by simp[Act.eval]) (by simp[Act.eval,bO,de]) gq.j ?_;refine Zb hK dw.j ?_;refine Zt 11 dw.j ?_;refine wpAnyH_done Zx ?_ _;go_wp2_with fail;go_meet;exact⟨_,rfl,rfl,bJ.j,bG.j⟩
 case rest=>
  obtain⟨ub,rfl,rfl,H4,ua⟩:=hcut;clear H2 fS aK;have zz:=aa (List.mem_cons_of_mem (ub,Obj.cells (de u).toArray 97 (0,0)) HM.j);have tY:Hid ((ub,Obj.cells #[Zi u.kind,Zi u.num,Zi u.rights,Zu u.cQ,Zu u.guard,Zi u.bS,Zi u.root,Zu u.va] 97 (0,0))∈(ub,Obj.cells (de u).toArray 97 (0,0))::F):=List.mem_cons_self;obtain⟨F2,yN⟩:=Ze (((ub,Obj.cells (de u).toArray 97 (0,0))::F));rw[<-yN] at H4 zz tY;have nQ:=aa yN;clear yN;have pB:Hid (ML U w kb mb sb pb qb bb F2 K (s1,s2) u 0 wc):=⟨λx hx=>by simp at hx,H4.j⟩
  obtain⟨N,hN⟩:=Ze (K.es.length);have HN:=aa hN;have cu:N<=16384:=by rw[hN];exact HW.j.ne
  clear hN;go_wp2_with fail
  go_loopw [13] (λd wr=>∃k:Nat,d=Zi (k:Int)/\k<=N/\Hid (ML U w kb mb sb pb qb bb F2 K (s1,s2) u k wr)) (λd _=>N - (RowKit.intOf d).toNat)
  case atStart=>exact⟨0,rfl,Zo,pB⟩
  case round=>
   clear pB;obtain⟨k,rfl,hk,HR⟩:=hrel;obtain⟨pe,ce,ew,dM⟩:=HR.j.2.row;rw[<-HN.j] at ew;have og:=HR.j.2.c.2.1;have im:=aa dM;clear dM;by_cases ah:k<N
   ·have dE:k<K.es.length:=by have:=HN.j;omega
    have h1:(k:Int)<(N:Int):=Zo;have bf:0<=(k:Int)/\(k:Int)<(N:Int):=Zo;have iY:=Zf k Zo;obtain⟨g,rfl,oh⟩:=im.j k dE;obtain⟨y,hy⟩:=Ze (K.es[k]);have HY:=aa hy;rw[<-hy] at oh;clear hy;obtain⟨⟨uA,uz⟩,⟨yk,yn,yr,yb,yg,FD,xC,FC⟩,⟨FF,FE⟩⟩:=y;have e0:wr.cell? ⟨g,k*12,none⟩=some (Zi uA):=oh 0 Zd;have e1:wr.cell? ⟨g,k*12+1,none⟩=some (Zi uz):=oh 1 Zd;have e2:wr.cell? ⟨g,k*12+2,none⟩=some (Zi yk):=oh 2 Zd;have e3:wr.cell? ⟨g,k*12+3,none⟩=some (Zi yn):=oh 3 Zd;have e4:wr.cell? ⟨g,k*12+4,none⟩=some (Zi yr):=oh 4 Zd;have e5:wr.cell? ⟨g,k*12+5,none⟩=some (Zu yb):=oh 5 Zd;have e6:wr.cell? ⟨g,k*12+6,none⟩=some (Zu yg):=oh 6 Zd;have e7:wr.cell? ⟨g,k*12+7,none⟩=some (Zi FD):=oh 7 Zd;have e8:wr.cell? ⟨g,k*12+8,none⟩=some (Zi xC):=oh 8 Zd;have e9:wr.cell? ⟨g,k*12+9,none⟩=some (Zu FC):=oh 9 Zd;have Hx:wr.cell? ⟨g,k*12+10,none⟩=some (Zi FF):=oh 10 Zd;have Hw:wr.cell? ⟨g,k*12+11,none⟩=some (Zi FE):=oh 11 Zd;clear oh ah;go_upto_region 6 with fail
    obtain⟨w5,dN⟩:=Ze (wr.alloc (.cells #[Zi uA,Zi uz,Zi yk,Zi yn,Zi yr,Zu yb,Zu yg,Zi FD,Zi xC,Zu FC,Zi FF,Zi FE] 208));obtain⟨xo,uR⟩:=Ze (wr.heap.size);have lg:w5.heap[xo]?=some (.cells #[Zi uA,Zi uz,Zi yk,Zi yn,Zi yr,Zu yb,Zu yg,Zi FD,Zi xC,Zu FC,Zi FF,Zi FE] 208 (0,0)):=by rw[dN,uR];exact heap_alloc_last wr _
    have H5:=aa (HR.j.2.quiet (show Zq wr w5 by rw[dN];exact(ae.refl _ _).alloc _));have x0:w5.cell? ⟨xo,0,none⟩=some (Zi uA):=Zl lg;have x1:w5.cell? ⟨xo,1,none⟩=some (Zi uz):=Zl lg;have x2:w5.cell? ⟨xo,2,none⟩=some (Zi yk):=Zl lg;have x3:w5.cell? ⟨xo,3,none⟩=some (Zi yn):=Zl lg;have x8:w5.cell? ⟨xo,8,none⟩=some (Zi xC):=Zl lg;obtain⟨l0,l1⟩:=H5.j.two zz.j;obtain⟨⟨d0,d1,_⟩,_⟩:=eL (H5.j.at tY.j);rw[<-dN,<-uR];clear lg dN uR e0 e1 e2 e3 e4 e5 e6 e7 e8 e9 Hx Hw ew og;obtain⟨B,hB⟩:=Ze (Gq (s1,s2) u ⟨(uA,uz),⟨yk,yn,yr,yb,yg,FD,xC,FC⟩,(FF,FE)⟩);have HB:=aa hB;clear hB;go_cut [70] from 47 to 70 (λc wx=>c=.bool B/\wx=w5)
    case first=>
     have hb:=HB.j;unfold Gq at hb;dsimp only at hb;generalize u.kind=uk at*;generalize u.num=un at*;by_cases g1:0<xC
     ·rw[decide_eq_true g1] at hb;have wV:xC>0:=g1;by_cases g2:uA=s1
      ·by_cases g3:uz=s2
       ·obtain rfl:B=true:=by rw[hb,decide_eq_true (show(uA,uz)=(s1,s2) by rw[g2,g3])];rfl
        subst g2;subst g3;clear hb;go_wp2_with fail;go_meet;exact⟨rfl,rfl⟩
       ·have g4:(uz==s2)=false:=by simpa using g3
        rw[decide_eq_false (show¬(uA,uz)=(s1,s2) from λh=>g3 (by injection h))] at hb;subst g2;clear g3;by_cases g5:uk=3
        ·have L8:(uk==3)=true:=by simpa using g5
         rw[decide_eq_true g5] at hb;clear g5;by_cases g6:yk=uk
         ·by_cases g7:yn=un
          ·obtain rfl:B=true:=by rw[hb,decide_eq_true ⟨g6,g7⟩];rfl
           subst g6;subst g7;clear hb;go_wp2_with fail;go_meet;exact⟨rfl,rfl⟩
          ·have g8:(yn==un)=false:=by simpa using g7
           obtain rfl:B=false:=by rw[hb,decide_eq_false (λh=>g7 h.2)];rfl
           subst g6;clear g7;clear hb;go_wp2_with fail;go_meet;exact⟨rfl,rfl⟩
         ·have g8:(yk==uk)=false:=by simpa using g6
          obtain rfl:B=false:=by rw[hb,decide_eq_false (λh=>g6 h.1)];rfl
          clear g6;clear hb;go_wp2_with fail;go_meet;exact⟨rfl,rfl⟩
        ·have L8:(uk==3)=false:=by simpa using g5
         obtain rfl:B=false:=by rw[hb,decide_eq_false g5];rfl
         clear g5;clear hb;go_wp2_with fail;go_meet;exact⟨rfl,rfl⟩
      ·have g4:(uA==s1)=false:=by simpa using g2
       rw[decide_eq_false (show¬(uA,uz)=(s1,s2) from λh=>g2 (by injection h))] at hb;clear g2;by_cases g5:uk=3
       ·have L8:(uk==3)=true:=by simpa using g5
        rw[decide_eq_true g5] at hb;clear g5;by_cases g6:yk=uk
        ·by_cases g7:yn=un
         ·obtain rfl:B=true:=by rw[hb,decide_eq_true ⟨g6,g7⟩];rfl
          subst g6;subst g7;clear hb;go_wp2_with fail;go_meet;exact⟨rfl,rfl⟩
         ·have g8:(yn==un)=false:=by simpa using g7
          obtain rfl:B=false:=by rw[hb,decide_eq_false (λh=>g7 h.2)];rfl
          subst g6;clear g7;clear hb;go_wp2_with fail;go_meet;exact⟨rfl,rfl⟩
        ·have g8:(yk==uk)=false:=by simpa using g6
         obtain rfl:B=false:=by rw[hb,decide_eq_false (λh=>g6 h.1)];rfl
         clear g6;clear hb;go_wp2_with fail;go_meet;exact⟨rfl,rfl⟩
       ·have L8:(uk==3)=false:=by simpa using g5
        obtain rfl:B=false:=by rw[hb,decide_eq_false g5];rfl
        clear g5;clear hb;go_wp2_with fail;go_meet;exact⟨rfl,rfl⟩
     ·rw[decide_eq_false g1] at hb;have wV:¬xC>0:=g1;obtain rfl:B=false:=by rw[hb];rfl
      clear hb;go_wp2_with fail;go_meet;exact⟨rfl,rfl⟩
    case rest=>
     obtain⟨rfl,Ko⟩:=hcut;have Ko:=Ko.symm;subst Ko
     cases B with
     |true=>
      have HE:Hid (ev=16/\KF=K):=by
       have hm:qy K.es (s1,s2) u=true:=by
        rw[P0,List.any_eq_true];exact⟨K.es[k],List.getElem_mem dE,by rw[<-HY.j];exact HB.j.symm⟩
       have hq:lJ K (s1,s2) u root va rights=(K.f,16):=by unfold lJ;rw[if_pos hm]
       have h9:=da.j;unfold gM at h9;rw[hq] at h9;exact h9
      clear da;go_wp2_with fail
      all_goals
       go_ret
       exact⟨by rw[HE.j.1];rfl,by rw[HE.j.2];exact H5.j.fin⟩
     |false=>
      have aG:Hid (ML U w kb mb sb pb qb bb F2 K (s1,s2) u (k+1) w5):=⟨λx hx=>by
       rw[List.take_succ_eq_append_getElem dE,List.mem_append,List.mem_singleton] at hx;rcases hx with hx|hx
       ·exact HR.j.1 x hx
       ·rw[hx,<-HY.j];exact HB.j.symm,H5.j⟩
      clear HR HB HY H5;go_wp2_with fail;go_roundw
      case rel=>exact⟨k+1,by go_num,Zo,aG⟩
      case measure=>exact Zm
   ·obtain rfl:k=N:=Zo;have h1:¬(k:Int)<(k:Int):=Zo
    have Nb:Hid (qy K.es (s1,s2) u=false):=by
     show qy K.es (s1,s2) u=false;rw[P0,List.any_eq_false];intro x hx;have h9:=HR.j.1 x (by rw[HN.j,List.take_length];exact hx);rw[h9];decide
    have H6:=aa HR.j.2;clear HR ah im;obtain⟨⟨d0,d1,d2,d3,d4,d5,d6,d7⟩,_⟩:=eL (H6.j.at tY.j);obtain⟨c0,c1,_⟩:=H6.j.c;by_cases k3:u.kind=3
    ·have b3:(u.kind==3)=true:=by simpa using k3
     have qU:=aa k3;clear k3
     have ar:Hid (∀K2 wv,aA U w kb mb sb pb qb bb F2 K2 wv->wv.cell? ⟨kb,0,none⟩=some (Zp mb)/\wv.cell? ⟨ub,1,none⟩=some (Zi u.num)):=λK2 wv h=>by
      obtain⟨⟨_,e1,_⟩,_⟩:=eL (h.at tY.j);exact⟨h.c.1,e1⟩
     have af:=aa (ar.j _ _ H6.j.drew);have ak:=af;have lC:=aa (H6.j.drew.ZR root (va/4194304*4194304) Zo u.num);rw[show((va/4194304*4194304:Nat):Int)=((va:Int)/4194304*4194304) from Zo] at lC;obtain⟨te,pP⟩:∃te:Int,te=((iK K.f K.n root (va/4194304*4194304) u.num).2:Nat):=⟨_,rfl⟩
     obtain⟨ft,AF⟩:=Ze ((iK K.f K.n root (va/4194304*4194304) u.num).1);rw[<-pP,<-AF] at lC
     have E6:Hid (lJ K (s1,s2) u root va rights=(ft,te)):=by
      show lJ K (s1,s2) u root va rights=(ft,te)
      unfold lJ;rw[if_neg (by rw[Nb.j];decide),if_pos qU.j,pP,AF,show td u va=va/4194304*4194304 from if_pos qU.j]
     have l9:=aa (P5 E6.j);clear pP AF E6;go_upto_region 11 with fail
     clear c0 c1 d0 d1 d2 d3 d4 d5 d6 d7;go_region_held3 (λwv=>Zc wv kb 0 (Zp mb)/\Zc wv ub 1 (Zi u.num)) (with_reducible (first|exact af.j|exact ak.j)) (first|(go_at_call 121;refine lC.j.m ?_;rintro e w7 ⟨rfl,H7⟩;have ak:=aa (ar.j _ _ H7.j)));clear af ak lC ar H6;by_cases t0:te=0
     ·have HE:Hid (ev=0/\KF={K with f:=ft,es:=eY K.bs K.es (s1,s2) {u with root:=root+1,va:=((va/4194304*4194304:Nat):Int)}}):=by
       have h9:=da.j;rw[l9.j,if_pos t0] at h9;rw[show td u va=va/4194304*4194304 from if_pos qU.j] at h9;exact h9
      subst t0;clear da l9;obtain⟨⟨d0,d1,d2,d3,d4,d5,d6,d7⟩,_⟩:=eL (H7.j.at tY.j);have AE:=jA (H7.j.at tY.j);have f6:=AE 6;have f7:=AE 7;have hwu:IntKind.u32.wrap ((va:Int)/4194304*4194304)=((va:Int)/4194304*4194304):=by rw[IntKind.wrap_u32];omega
      have ag:=Zh (root+1) Zo;obtain⟨w8,dt⟩:=Ze ((w7.setCell ⟨ub,6,none⟩ (Zi (root+1))).setCell ⟨ub,7,none⟩ (Zu ((va:Int)/4194304*4194304)))
      have H8:Hid (aA U w kb mb sb pb qb bb ((ub,.cells #[Zi u.kind,Zi u.num,Zi u.rights,Zu u.cQ,Zu u.guard,Zi u.bS,Zi (root+1),Zu ((va:Int)/4194304*4194304)] 97 (0,0))::F) {K with f:=ft} w8):=by
       have h7:=H7.j;rw[nQ.j] at h7;refine h7.fh (show ae (λk=>k=ub) w7 w8 by rw[dt];exact(ae.setCell (S:=λk=>k=ub) (ae.setCell (S:=λk=>k=ub) (ae.refl _ w7) (Or.inl rfl) _) (Or.inl rfl) _)) ?_ ua.j.1 ua.j.2;rw[dt,heap_setCell_same _ _ 7 _ _ _ (heap_setCell_same _ _ 6 _ _ _ (H7.j.at tY.j))];rfl
      have zA:Hid ((so,Obj.cells #[Zi s1,Zi s2] 95 (0,0))∈((ub,Obj.cells #[Zi u.kind,Zi u.num,Zi u.rights,Zu u.cQ,Zu u.guard,Zi u.bS,Zi (root+1),Zu ((va:Int)/4194304*4194304)] 97 (0,0))::F)):=List.mem_cons_of_mem _ HM.j
      have ar:Hid (∀K2 wv,aA U w kb mb sb pb qb bb ((ub,.cells #[Zi u.kind,Zi u.num,Zi u.rights,Zu u.cQ,Zu u.guard,Zi u.bS,Zi (root+1),Zu ((va:Int)/4194304*4194304)] 97 (0,0))::F) K2 wv->wv.cell? ⟨kb,1,none⟩=some (Zp sb)/\wv.cell? ⟨so,0,none⟩=some (Zi s1)/\wv.cell? ⟨so,1,none⟩=some (Zi s2)/\wv.cell? ⟨ub,0,none⟩=some (Zi u.kind)/\wv.cell? ⟨ub,1,none⟩=some (Zi u.num)/\wv.cell? ⟨ub,2,none⟩=some (Zi u.rights)/\wv.cell? ⟨ub,3,none⟩=some (Zu u.cQ)/\wv.cell? ⟨ub,4,none⟩=some (Zu u.guard)/\wv.cell? ⟨ub,5,none⟩=some (Zi u.bS)/\wv.cell? ⟨ub,6,none⟩=some (Zi (root+1))/\wv.cell? ⟨ub,7,none⟩=some (Zu ((va:Int)/4194304*4194304))):=λK2 wv h=>by
       obtain⟨⟨e0,e1,e2,e3,e4,e5,e6,e7⟩,_⟩:=eL (h.at List.mem_cons_self);exact⟨h.c.2.1,(h.two zA.j).1,(h.two zA.j).2,e0,e1,e2,e3,e4,e5,e6,e7⟩
      have aw:=aa (ar.j _ _ H8.j.drew);have iG:=aw;have lY:=aa (H8.j.drew.Tr (s1,s2) ⟨u.kind,u.num,u.rights,u.cQ,u.guard,u.bS,root+1,((va:Int)/4194304*4194304)⟩);go_upto_region 18 with fail
      rw[<-dt];clear dt d0 d1 d2 d3 d4 d5 d6 d7 f6 f7 AE H7;go_region_held3 (λwv=>Zc wv kb 1 (Zp sb)/\Zc wv so 0 (Zi s1)/\Zc wv so 1 (Zi s2)/\Zc wv ub 0 (Zi u.kind)/\Zc wv ub 1 (Zi u.num)/\Zc wv ub 2 (Zi u.rights)/\Zc wv ub 3 (Zu u.cQ)/\Zc wv ub 4 (Zu u.guard)/\Zc wv ub 5 (Zi u.bS)/\Zc wv ub 6 (Zi (root+1))/\Zc wv ub 7 (Zu ((va:Int)/4194304*4194304))) (with_reducible (first|exact aw.j|exact iG.j)) (first|(go_at_call 123;refine lY.j.m ?_;rintro e w9 ⟨rfl,H9⟩;have iG:=aa (ar.j _ _ H9.j)));go_wp2_with fail
      all_goals
       go_ret;exact⟨by rw[HE.j.1];rfl,by rw[HE.j.2,show((va/4194304*4194304:Nat):Int)=((va:Int)/4194304*4194304) from Zo];exact H9.j.fin⟩
     ·have HE:Hid (ev=te/\KF={K with f:=ft}):=by
       have h9:=da.j;rw[l9.j,if_neg t0] at h9;exact h9
      have WS:(te==0)=false:=by simpa using t0
      clear da l9 t0;go_wp2_with fail
      all_goals
       go_ret;exact⟨by rw[HE.j.1];rfl,by rw[HE.j.2];exact H7.j.fin⟩
    ·have b3:(u.kind==3)=false:=by simpa using k3
     have qU:=aa k3;clear k3;have nE:=afz rights HU.j.1;by_cases BP:rights<0\/7<rights\/j6 rights u.rights=false
     ·have HE:Hid (ev=13/\KF=K):=by
       have hq:lJ K (s1,s2) u root va rights=(K.f,13):=by
        unfold lJ;rw[if_neg (by rw[Nb.j];decide),if_neg qU.j,if_pos BP]
       have h9:=da.j;unfold gM at h9;rw[hq] at h9;exact h9
      have D1:(bits BinOp.and IntKind.i64 rights u.rights !=rights)=true:=by
       rw[nE,decide_eq_true BP]
      clear da nE BP;go_wp2_with fail
      all_goals
       go_ret;exact⟨by rw[HE.j.1];rfl,by rw[HE.j.2];exact H6.j.fin⟩
     ·have D1:(bits BinOp.and IntKind.i64 rights u.rights !=rights)=false:=by
       rw[nE,decide_eq_false BP]
      have HSR:=aa BP;clear nE BP
      have ar:Hid (∀K2 wv,aA U w kb mb sb pb qb bb F2 K2 wv->wv.cell? ⟨kb,0,none⟩=some (Zp mb)/\wv.cell? ⟨ub,1,none⟩=some (Zi u.num)):=λK2 wv h=>by
       obtain⟨⟨_,e1,_⟩,_⟩:=eL (h.at tY.j);exact⟨h.c.1,e1⟩
      have af:=aa (ar.j _ _ H6.j.drew);have ak:=af;have lC:=aa (H6.j.drew.mfr root va jC u.num rights);obtain⟨te,pP⟩:∃te:Int,te=((fT K.f K.n root va u.num rights).2:Nat):=⟨_,rfl⟩
      obtain⟨ft,AF⟩:=Ze ((fT K.f K.n root va u.num rights).1);rw[<-pP,<-AF] at lC
      have E6:Hid (lJ K (s1,s2) u root va rights=(ft,te)):=by
       show lJ K (s1,s2) u root va rights=(ft,te)
       unfold lJ;rw[if_neg (by rw[Nb.j];decide),if_neg qU.j,if_neg HSR.j,pP,AF]
      have l9:=aa (P5 E6.j);clear pP AF E6;go_upto_region 14 with fail
      clear c0 c1 d0 d1 d2 d3 d4 d5 d6 d7;go_region_held3 (λwv=>Zc wv kb 0 (Zp mb)/\Zc wv ub 1 (Zi u.num)) (with_reducible (first|exact af.j|exact ak.j)) (first|(go_at_call 122;refine lC.j.m ?_;rintro e w7 ⟨rfl,H7⟩;have ak:=aa (ar.j _ _ H7.j)));clear af ak lC ar H6;by_cases t0:te=0
      ·have HE:Hid (ev=0/\KF={K with f:=ft,es:=eY K.bs K.es (s1,s2) {u with root:=root+1,va:=(va:Int)}}):=by
        have h9:=da.j;rw[l9.j,if_pos t0] at h9;rw[show td u va=va from if_neg qU.j] at h9;exact h9
       subst t0;clear da l9;obtain⟨⟨d0,d1,d2,d3,d4,d5,d6,d7⟩,_⟩:=eL (H7.j.at tY.j);have AE:=jA (H7.j.at tY.j);have f6:=AE 6;have f7:=AE 7;have hwu:IntKind.u32.wrap (va:Int)=(va:Int):=by rw[IntKind.wrap_u32];omega
       have ag:=Zh (root+1) Zo;obtain⟨w8,dt⟩:=Ze ((w7.setCell ⟨ub,6,none⟩ (Zi (root+1))).setCell ⟨ub,7,none⟩ (Zu (va:Int)))
       have H8:Hid (aA U w kb mb sb pb qb bb ((ub,.cells #[Zi u.kind,Zi u.num,Zi u.rights,Zu u.cQ,Zu u.guard,Zi u.bS,Zi (root+1),Zu (va:Int)] 97 (0,0))::F) {K with f:=ft} w8):=by
        have h7:=H7.j;rw[nQ.j] at h7;refine h7.fh (show ae (λk=>k=ub) w7 w8 by rw[dt];exact(ae.setCell (S:=λk=>k=ub) (ae.setCell (S:=λk=>k=ub) (ae.refl _ w7) (Or.inl rfl) _) (Or.inl rfl) _)) ?_ ua.j.1 ua.j.2;rw[dt,heap_setCell_same _ _ 7 _ _ _ (heap_setCell_same _ _ 6 _ _ _ (H7.j.at tY.j))];rfl
       have zA:Hid ((so,Obj.cells #[Zi s1,Zi s2] 95 (0,0))∈((ub,Obj.cells #[Zi u.kind,Zi u.num,Zi u.rights,Zu u.cQ,Zu u.guard,Zi u.bS,Zi (root+1),Zu (va:Int)] 97 (0,0))::F)):=List.mem_cons_of_mem _ HM.j
       have ar:Hid (∀K2 wv,aA U w kb mb sb pb qb bb ((ub,.cells #[Zi u.kind,Zi u.num,Zi u.rights,Zu u.cQ,Zu u.guard,Zi u.bS,Zi (root+1),Zu (va:Int)] 97 (0,0))::F) K2 wv->wv.cell? ⟨kb,1,none⟩=some (Zp sb)/\wv.cell? ⟨so,0,none⟩=some (Zi s1)/\wv.cell? ⟨so,1,none⟩=some (Zi s2)/\wv.cell? ⟨ub,0,none⟩=some (Zi u.kind)/\wv.cell? ⟨ub,1,none⟩=some (Zi u.num)/\wv.cell? ⟨ub,2,none⟩=some (Zi u.rights)/\wv.cell? ⟨ub,3,none⟩=some (Zu u.cQ)/\wv.cell? ⟨ub,4,none⟩=some (Zu u.guard)/\wv.cell? ⟨ub,5,none⟩=some (Zi u.bS)/\wv.cell? ⟨ub,6,none⟩=some (Zi (root+1))/\wv.cell? ⟨ub,7,none⟩=some (Zu (va:Int))):=λK2 wv h=>by
        obtain⟨⟨e0,e1,e2,e3,e4,e5,e6,e7⟩,_⟩:=eL (h.at List.mem_cons_self);exact⟨h.c.2.1,(h.two zA.j).1,(h.two zA.j).2,e0,e1,e2,e3,e4,e5,e6,e7⟩
       have aw:=aa (ar.j _ _ H8.j.drew);have iG:=aw;have lY:=aa (H8.j.drew.Tr (s1,s2) ⟨u.kind,u.num,u.rights,u.cQ,u.guard,u.bS,root+1,(va:Int)⟩);go_upto_region 18 with fail
       rw[<-dt];clear dt d0 d1 d2 d3 d4 d5 d6 d7 f6 f7 AE H7;go_region_held3 (λwv=>Zc wv kb 1 (Zp sb)/\Zc wv so 0 (Zi s1)/\Zc wv so 1 (Zi s2)/\Zc wv ub 0 (Zi u.kind)/\Zc wv ub 1 (Zi u.num)/\Zc wv ub 2 (Zi u.rights)/\Zc wv ub 3 (Zu u.cQ)/\Zc wv ub 4 (Zu u.guard)/\Zc wv ub 5 (Zi u.bS)/\Zc wv ub 6 (Zi (root+1))/\Zc wv ub 7 (Zu (va:Int))) (with_reducible (first|exact aw.j|exact iG.j)) (first|(go_at_call 123;refine lY.j.m ?_;rintro e w9 ⟨rfl,H9⟩;have iG:=aa (ar.j _ _ H9.j)));go_wp2_with fail
       all_goals
        go_ret;exact⟨by rw[HE.j.1];rfl,by rw[HE.j.2];exact H9.j.fin⟩
      ·have HE:Hid (ev=te/\KF={K with f:=ft}):=by
        have h9:=da.j;rw[l9.j,if_neg t0] at h9;exact h9
       have WS:(te==0)=false:=by simpa using t0
       clear da l9 t0;go_wp2_with fail
       all_goals
        go_ret;exact⟨by rw[HE.j.1];rfl,by rw[HE.j.2];exact H7.j.fin⟩
end
theorem Kb (n:Int) (w:World):Zk 109 #[Zi n] w λe w'=>Zr e (.bool (decide (0<=n/\n<8)))/\w'=w:=by
 by_cases h0:0<=n
 ·have Ei:n>=0:=h0;by_cases h8:n<8
  ·rw[decide_eq_true ⟨h0,h8⟩];go_enter func109,ntmps109;go_wp2_with fail
   all_goals
    go_ret;exact⟨rfl,rfl⟩
  ·rw[decide_eq_false (λh=>h8 h.2)];go_enter func109,ntmps109;go_wp2_with fail
   all_goals
    go_ret;exact⟨rfl,rfl⟩
 ·rw[decide_eq_false (λh=>h0 h.1)];have Ei:¬n>=0:=h0;go_enter func109,ntmps109;go_wp2_with fail
  all_goals
   go_ret;exact⟨rfl,rfl⟩
theorem Qm (n:Int) (w:World):Zk 142 #[Zi n] w λe w'=>Zr e (.bool (decide (0<=n/\n<8)))/\w'=w:=by
 by_cases h0:0<=n
 ·have Ei:n>=0:=h0;by_cases h8:n<8
  ·rw[decide_eq_true ⟨h0,h8⟩];go_enter func142,ntmps142;go_wp2_with fail
   all_goals
    go_ret;exact⟨rfl,rfl⟩
  ·rw[decide_eq_false (λh=>h8 h.2)];go_enter func142,ntmps142;go_wp2_with fail
   all_goals
    go_ret;exact⟨rfl,rfl⟩
 ·rw[decide_eq_false (λh=>h0 h.1)];have Ei:¬n>=0:=h0;go_enter func142,ntmps142;go_wp2_with fail
  all_goals
   go_ret;exact⟨rfl,rfl⟩
theorem Wu:∀s:Fin 65,1<=s.val->(bits BinOp.and IntKind.i64 (s.val:Int) ((s.val:Int) - 1)==0)=fB (s.val:Int):=Zd
theorem ads (s:Int) (w:World):Zk 98 #[Zi s] w λe w'=>Zr e (.bool (fB s))/\w'=w:=by
 by_cases h1:1<=s
 ·have SP:s>=1:=h1;by_cases h2:s<=64
  ·have hb:=Wu ⟨s.toNat,Zo⟩ (by show 1<=s.toNat;omega);dsimp only at hb;rw[Int.toNat_of_nonneg Zo] at hb;have ag:=Zh (s - 1) Zo
   cases ht:fB s with
   |true=>
    rw[ht] at hb;have cw:bits BinOp.and IntKind.i64 s (s - 1)=0:=by simpa using hb
    clear hb ht;go_enter func98,ntmps98;go_wp2_with fail
    all_goals
     go_ret
     exact⟨rfl,rfl⟩
   |false=>
    rw[ht] at hb;clear ht;go_enter func98,ntmps98;go_wp2_with fail
    all_goals
     go_ret;exact⟨rfl,rfl⟩
  ·rw[show fB s=false from decide_eq_false Zo];go_enter func98,ntmps98;go_wp2_with fail
   all_goals
    go_ret;exact⟨rfl,rfl⟩
 ·rw[show fB s=false from decide_eq_false Zo];have SP:¬s>=1:=h1;go_enter func98,ntmps98;go_wp2_with fail
  all_goals
   go_ret;exact⟨rfl,rfl⟩
theorem ab8:∀a b:Fin 8,(bits BinOp.andNot IntKind.i64 (a.val:Int) (b.val:Int)==0)=decide (a.val&&&b.val=a.val):=Zd
theorem afy (r:Int) {b:Int} (hb:0<=b/\b<=7) (hr:aj r):(bits BinOp.andNot IntKind.i64 r b==0)= !decide (r<0\/7<r\/j6 r b=false):=by
 by_cases h7:0<=r/\r<=7
 ·have h1:=ab8 ⟨r.toNat,Zo⟩ ⟨b.toNat,Zo⟩;dsimp only at h1;rw[Int.toNat_of_nonneg h7.1,Int.toNat_of_nonneg hb.1] at h1;rw[h1];unfold j6;by_cases hs:r.toNat&&&b.toNat=r.toNat
  ·rw[decide_eq_true hs,decide_eq_false (by simp;omega)];rfl
  ·rw[decide_eq_false hs,decide_eq_true (by simp)];rfl
 ·rw[decide_eq_true (show r<0\/7<r\/j6 r b=false from Zo)];show(bits BinOp.andNot IntKind.i64 r b==0)=false;rw[beq_eq_false_iff_ne];intro h0;have h1:IntKind.i64.wrap ((BitVec.ofInt 64 r&&&~~~BitVec.ofInt 64 b).toNat:Int)=0:=h0;have ah:=(BitVec.ofInt 64 r&&&~~~BitVec.ofInt 64 b).isLt;rw[IntKind.wrap_i64] at h1;have h2:(BitVec.ofInt 64 r&&&~~~BitVec.ofInt 64 b).toNat=0:=Zo;have hz:BitVec.ofInt 64 r&&&~~~BitVec.ofInt 64 b=0#64:=BitVec.eq_of_toNat_eq (by rw[h2];rfl)
  have hA:BitVec.ofInt 64 r&&&BitVec.ofInt 64 b=BitVec.ofInt 64 r:=by
   apply BitVec.eq_of_getLsbD_eq;intro i hi;have h3:(BitVec.ofInt 64 r&&&~~~BitVec.ofInt 64 b).getLsbD i=false:=by rw[hz];simp
   rw[BitVec.getLsbD_and,BitVec.getLsbD_not] at h3;rw[BitVec.getLsbD_and];cases h4:(BitVec.ofInt 64 r).getLsbD i
   ·rfl
   ·rw[h4] at h3;cases h5:(BitVec.ofInt 64 b).getLsbD i
    ·rw[h5] at h3;simp[hi] at h3
    ·rfl
  have h6:(BitVec.ofInt 64 r).toNat<=7:=by
   rw[<-hA,BitVec.toNat_and];refine Nat.le_trans Nat.and_le_right ?_;rw[BitVec.toNat_ofInt];omega
  rw[BitVec.toNat_ofInt] at h6;unfold aj at hr;omega
def yI (c:Cp) (r:Int):Bool:= !decide (r<0\/7<r\/j6 r c.rights=false)
theorem Sp (c:Cp) (hc:0<=c.rights/\c.rights<=7) (r:Int) (hr:aj r) (w:World):Zk 166 #[bO c,Zi r] w λe w'=>Zr e (.bool (yI c r))/\Zq w w':=by
 have hb:=afy r hc hr;have e0:yI c r= !decide (r<0\/7<r\/j6 r c.rights=false):=rfl;rw[<-e0] at hb;clear e0;obtain⟨k,n,ri,bd,gu,gb,ro,va⟩:=c;dsimp only[bO] at*;obtain⟨B,hB⟩:=Ze (yI ⟨k,n,ri,bd,gu,gb,ro,va⟩ r);rw[<-hB] at hb|-;clear hB;have HO:Hid (Zq w (w.alloc (.cells #[Zi k,Zi n,Zi ri,Zu bd,Zu gu,Zi gb,Zi ro,Zu va] 97))):=(ae.refl _ w).alloc _
 cases B with
 |true=>
  have cw:bits BinOp.andNot IntKind.i64 r ri=0:=by simpa using hb
  clear hb;go_enter func166,ntmps166;go_wp2_with fail
  all_goals
   go_ret
   exact⟨rfl,HO.j⟩
 |false=>
  go_enter func166,ntmps166;go_wp2_with fail
  all_goals
   go_ret;exact⟨rfl,HO.j⟩
theorem af3 (c up:Cp) (h:0<=c.rights/\c.rights<=7):mI c up=(decide (up.kind=c.kind/\up.num=c.num)&&yI up c.rights&&decide (up.cQ=0\/up.cQ=c.cQ)):=by
 unfold mI yI
 have:(!decide (c.rights<0\/7<c.rights\/j6 c.rights up.rights=false))=j6 c.rights up.rights:=by
  cases j6 c.rights up.rights with
  |true=>simp;omega
  |false=>simp
 rw[this]
theorem aby (c up:Cp) (hc:0<=c.rights/\c.rights<=7) (hu:0<=up.rights/\up.rights<=7) (w:World):Zk 105 #[bO c,bO up] w λe w'=>Zr e (.bool (mI c up))/\Zq w w':=by
 rw[af3 c up hc];have HR:=aa (λw=>Sp up hu c.rights (by unfold aj;omega) w);obtain⟨B,hB⟩:=Ze (yI up c.rights);rw[<-hB] at HR|-;clear hB;obtain⟨k,n,ri,bd,gu,gb,ro,va⟩:=c;obtain⟨k2,n2,Jq,rM,LY,L6,Jo,IX⟩:=up;dsimp only[bO] at*;clear hc hu;obtain⟨w1,ag⟩:=Ze ((w.alloc (.cells #[Zi k,Zi n,Zi ri,Zu bd,Zu gu,Zi gb,Zi ro,Zu va] 97)).alloc (.cells #[Zi k2,Zi n2,Zi Jq,Zu rM,Zu LY,Zi L6,Zi Jo,Zu IX] 97));have HO:Hid (Zq w w1):=by rw[ag];exact((ae.refl _ w).alloc _).alloc _
 obtain⟨xa,rC⟩:=Ze (w.heap.size);obtain⟨xb,bQ⟩:=Ze (w.heap.size+1)
 have LV:w1.heap[xb]?=some (.cells #[Zi k2,Zi n2,Zi Jq,Zu rM,Zu LY,Zi L6,Zi Jo,Zu IX] 97 (0,0)):=by
  have h9:=heap_alloc_last (w.alloc (.cells #[Zi k,Zi n,Zi ri,Zu bd,Zu gu,Zi gb,Zi ro,Zu va] 97)) (.cells #[Zi k2,Zi n2,Zi Jq,Zu rM,Zu LY,Zi L6,Zi Jo,Zu IX] 97);rw[show(w.alloc (.cells #[Zi k,Zi n,Zi ri,Zu bd,Zu gu,Zi gb,Zi ro,Zu va] 97)).heap.size=w.heap.size+1 by simp] at h9;rw[ag,bQ];exact h9
 have LW:w1.heap[xa]?=some (.cells #[Zi k,Zi n,Zi ri,Zu bd,Zu gu,Zi gb,Zi ro,Zu va] 97 (0,0)):=by
  rw[ag,rC];exact ae.keep ((ae.refl (λ_=>False) _).alloc _) (heap_alloc_last w _) (λh=>h)
 obtain⟨⟨c0,c1,c2,c3,c4,c5,c6,c7⟩,_⟩:=eL LW;obtain⟨⟨d0,d1,d2,d3,d4,d5,d6,d7⟩,_⟩:=eL LV;have zE:=aa (⟨LW,LV⟩:_/\_);clear LW LV;by_cases g1:k2=k
 ·by_cases g2:n2=n
  ·rw[decide_eq_true ⟨g1,g2⟩];subst g1;subst g2
   cases B with
   |false=>
    rw[show(true&&false&&decide (rM=0\/rM=bd))=false from rfl];go_enter func105,ntmps105;go_upto_region 1 with fail
    rw[<-ag,<-bQ,<-rC];clear ag rC bQ;go_wp2_with fail;refine(HR.j _).m ?_;rintro e w2 ⟨rfl,aC⟩;have aL:=aa aC;obtain⟨⟨e0,e1,e2,e3,e4,e5,e6,e7⟩,_⟩:=eL (ae.keep aC zE.j.1 (λh=>h));obtain⟨⟨f0,f1,f2,f3,f4,f5,f6,f7⟩,_⟩:=eL (ae.keep aC zE.j.2 (λh=>h));clear aC c0 c1 c2 c3 c4 c5 c6 c7 d0 d1 d2 d3 d4 d5 d6 d7;go_wp2_with fail
    all_goals
     go_ret
     exact⟨rfl,HO.j.trans aL.j⟩
   |true=>
    by_cases g3:rM=0
    ·rw[decide_eq_true (Or.inl g3)];rw[show(true&&true&&true)=true from rfl];subst g3;go_enter func105,ntmps105;go_upto_region 1 with fail
     rw[<-ag,<-bQ,<-rC];clear ag rC bQ;go_wp2_with fail;refine(HR.j _).m ?_;rintro e w2 ⟨rfl,aC⟩;have aL:=aa aC;obtain⟨⟨e0,e1,e2,e3,e4,e5,e6,e7⟩,_⟩:=eL (ae.keep aC zE.j.1 (λh=>h));obtain⟨⟨f0,f1,f2,f3,f4,f5,f6,f7⟩,_⟩:=eL (ae.keep aC zE.j.2 (λh=>h));clear aC c0 c1 c2 c3 c4 c5 c6 c7 d0 d1 d2 d3 d4 d5 d6 d7;go_wp2_with fail
     all_goals
      go_ret;exact⟨rfl,HO.j.trans aL.j⟩
    ·have g4:(rM==0)=false:=by simpa using g3
     by_cases g5:rM=bd
     ·rw[decide_eq_true (Or.inr g5)];rw[show(true&&true&&true)=true from rfl];subst g5;clear g3;go_enter func105,ntmps105;go_upto_region 1 with fail
      rw[<-ag,<-bQ,<-rC];clear ag rC bQ;go_wp2_with fail;refine(HR.j _).m ?_;rintro e w2 ⟨rfl,aC⟩;have aL:=aa aC;obtain⟨⟨e0,e1,e2,e3,e4,e5,e6,e7⟩,_⟩:=eL (ae.keep aC zE.j.1 (λh=>h));obtain⟨⟨f0,f1,f2,f3,f4,f5,f6,f7⟩,_⟩:=eL (ae.keep aC zE.j.2 (λh=>h));clear aC c0 c1 c2 c3 c4 c5 c6 c7 d0 d1 d2 d3 d4 d5 d6 d7;go_wp2_with fail
      all_goals
       go_ret;exact⟨rfl,HO.j.trans aL.j⟩
     ·rw[decide_eq_false (λh=>h.elim g3 g5)];rw[show(true&&true&&false)=false from rfl];have g6:(rM==bd)=false:=by simpa using g5
      clear g3 g5;go_enter func105,ntmps105;go_upto_region 1 with fail
      rw[<-ag,<-bQ,<-rC];clear ag rC bQ;go_wp2_with fail;refine(HR.j _).m ?_;rintro e w2 ⟨rfl,aC⟩;have aL:=aa aC;obtain⟨⟨e0,e1,e2,e3,e4,e5,e6,e7⟩,_⟩:=eL (ae.keep aC zE.j.1 (λh=>h));obtain⟨⟨f0,f1,f2,f3,f4,f5,f6,f7⟩,_⟩:=eL (ae.keep aC zE.j.2 (λh=>h));clear aC c0 c1 c2 c3 c4 c5 c6 c7 d0 d1 d2 d3 d4 d5 d6 d7;go_wp2_with fail
      all_goals
       go_ret;exact⟨rfl,HO.j.trans aL.j⟩
  ·rw[decide_eq_false (λh=>g2 h.2)];rw[show(false&&B&&decide (rM=0\/rM=bd))=false from rfl];have g3:(n2==n)=false:=by simpa using g2
   have g4:(n==n2)=false:=by simpa using λh=>g2 h.symm
   subst g1;clear g2;go_enter func105,ntmps105;go_upto_region 1 with fail
   rw[<-ag,<-bQ,<-rC];clear ag rC bQ;go_wp2_with fail
   all_goals
    go_ret;exact⟨rfl,HO.j⟩
 ·rw[decide_eq_false (λh=>g1 h.1)];rw[show(false&&B&&decide (rM=0\/rM=bd))=false from rfl];have g3:(k2==k)=false:=by simpa using g1
  have g4:(k==k2)=false:=by simpa using λh=>g1 h.symm
  clear g1;go_enter func105,ntmps105;go_upto_region 1 with fail
  rw[<-ag,<-bQ,<-rC];clear ag rC bQ;go_wp2_with fail
  all_goals
   go_ret;exact⟨rfl,HO.j⟩
theorem adq (c:Cp) (hg:kE c) (w:World):Zk 103 #[bO c] w λe w'=>Zr e (.bool (kQ c))/\Zq w w':=by
 obtain⟨V,hV⟩:=Ze (kQ c);rw[<-hV];have MV:=aa (hV.trans (FI c));obtain⟨C,hC⟩:=Ze (c);rw[<-hC] at MV;obtain⟨k,n,ri,bd,gu,gb,ro,va⟩:=c;have HC:=aa hC;clear hV hC;dsimp only[bO];have pU:=hg;unfold kE at pU;dsimp only at pU;clear hg;obtain⟨w2,aT⟩:=Ze (w.alloc (.cells #[Zi k,Zi n,Zi ri,Zu bd,Zu gu,Zi gb,Zi ro,Zu va] 97));obtain⟨xo,uR⟩:=Ze (w.heap.size);have HO:Hid (Zq w w2):=by rw[aT];exact(ae.refl _ w).alloc _
 have h1:w2.heap[xo]?=some (.cells #[Zi k,Zi n,Zi ri,Zu bd,Zu gu,Zi gb,Zi ro,Zu va] 97 (0,0)):=by rw[aT,uR];exact heap_alloc_last w _
 obtain⟨⟨c0,c1,c2,c3,c4,c5,c6,c7⟩,_⟩:=eL h1;clear h1;obtain⟨B1,tN⟩:=Ze (A4 C);have fA:=aa tN;clear tN;obtain⟨B2,lp⟩:=Ze (yV C);have fZ:=aa lp;clear lp;obtain⟨B3,qK⟩:=Ze (wZ C);have bJ:=aa qK;clear qK;have HV:Hid (V=(!B1&& !B2&& !B3)):=by rw[fA.j,fZ.j,bJ.j];exact MV.j
 clear MV;go_enter func103,ntmps103;go_upto_region 1 with fail
 rw[<-aT,<-uR];clear aT uR;go_cut [20] from 3 to 20 (λc wx=>c=.bool B1/\wx=w2)
 case first=>
  have hb:=fA.j;rw[HC.j] at hb;unfold A4 at hb;dsimp only at hb;by_cases r1:ri<0
  ·obtain rfl:B1=true:=by rw[hb];simp[r1]
   clear hb;go_wp2_with fail;go_meet;exact⟨rfl,rfl⟩
  ·by_cases r2:7<ri
   ·obtain rfl:B1=true:=by rw[hb];simp[r2]
    clear hb;go_wp2_with fail;go_meet;exact⟨rfl,rfl⟩
   ·by_cases r3:ro=0
    ·subst r3;by_cases r4:va=0
     ·subst r4;obtain rfl:B1=false:=by rw[hb];simp[r1,r2]
      clear hb;go_wp2_with fail;go_meet;exact⟨rfl,rfl⟩
     ·have r5:(va !=0)=true:=by simpa using r4
      obtain rfl:B1=true:=by rw[hb];simp[r5]
      clear hb;go_wp2_with fail;go_meet;exact⟨rfl,rfl⟩
    ·have r5:(ro !=0)=true:=by simpa using r3
     obtain rfl:B1=true:=by rw[hb];simp[r5]
     clear hb;go_wp2_with fail;go_meet;exact⟨rfl,rfl⟩
 case rest=>
  obtain⟨rfl,jU⟩:=hcut;have jU:=jU.symm;subst jU
  cases B1 with
  |true=>
   have HV:Hid (V=false):=HV.j;go_wp2_with fail
   all_goals
    go_ret
    exact⟨by rw[HV.j];rfl,HO.j⟩
  |false=>
   go_upto_region 3 with fail
   go_cut [35] from 21 to 35 (λc wx=>c=.bool B3/\wx=w2)
   case first=>
    have hb:=bJ.j;rw[HC.j] at hb;unfold wZ at hb;dsimp only at hb;by_cases r1:bd=0
    ·have r5:(bd !=0)=false:=by simpa using r1
     obtain rfl:B3=false:=by rw[hb];simp[r1]
     clear r1;clear hb;go_wp2_with fail;go_meet;exact⟨rfl,rfl⟩
    ·have r5:(bd !=0)=true:=by simpa using r1
     clear r1;by_cases r2:k=7
     ·have r6:(k !=7)=false:=by simpa using r2
      obtain rfl:B3=false:=by rw[hb];simp[r2]
      clear r2;clear hb;go_wp2_with fail;go_meet;exact⟨rfl,rfl⟩
     ·have r6:(k !=7)=true:=by simpa using r2
      clear r2;by_cases r3:k=8
      ·have r7:(k !=8)=false:=by simpa using r3
       obtain rfl:B3=false:=by rw[hb];simp[r3]
       clear r3;clear hb;go_wp2_with fail;go_meet;exact⟨rfl,rfl⟩
      ·have r7:(k !=8)=true:=by simpa using r3
       obtain rfl:B3=true:=by rw[hb,r5,r6,r7];rfl
       clear r3;clear hb;go_wp2_with fail;go_meet;exact⟨rfl,rfl⟩
   case rest=>
    obtain⟨rfl,tw⟩:=hcut;have tw:=tw.symm;subst tw
    cases B3 with
    |true=>
     have HV:Hid (V=false):=by show V=false;rw[HV.j];cases B2<;>rfl
     go_wp2_with fail
     all_goals
      go_ret
      exact⟨by rw[HV.j];rfl,HO.j⟩
    |false=>
     have HV:Hid (V= !B2):=by show V=_;rw[HV.j];cases B2<;>rfl
     have hb:=fZ.j;rw[HC.j] at hb;unfold yV at hb;dsimp only at hb;by_cases k5:k=5
     ·have k5b:(k !=5)=false:=by simpa using k5
      rw[if_pos k5] at hb;clear k5;have hwg:IntKind.u64.wrap gu=gu:=by rw[IntKind.wrap_u64];omega
      by_cases r1:gb<0
      ·have r2:¬gb>=0:=Zo;obtain rfl:B2=true:=by rw[hb];simp[r1]
       clear hb;go_wp2_with fail
       all_goals
        go_ret;exact⟨by rw[HV.j];rfl,HO.j⟩
      ·by_cases r3:32<gb
       ·have r2:gb>=0:=Zo;have r4:¬gb<=32:=Zo;obtain rfl:B2=true:=by rw[hb];simp[r3]
        clear hb;go_wp2_with fail
        all_goals
         go_ret;exact⟨by rw[HV.j];rfl,HO.j⟩
       ·have r2:gb>=0:=Zo;have r4:gb<=32:=Zo;rw[decide_eq_false r1,decide_eq_false r3] at hb;have kC:=aa hb;clear hb r1 r3;go_wp2_with fail
        all_goals
         go_ret;exact⟨by rw[HV.j,kC.j];show Ending.returned (Value.bool (gu/2^gb.toNat==0))=_;simp[bne],HO.j⟩
     ·have k5b:(k !=5)=true:=by simpa using k5
      rw[if_neg k5] at hb;clear k5;by_cases r1:gu=0
      ·subst r1;by_cases r2:gb=0
       ·subst r2;obtain rfl:B2=false:=by rw[hb];rfl
        clear hb;go_wp2_with fail
        all_goals
         go_ret;exact⟨by rw[HV.j];rfl,HO.j⟩
       ·have r4:(gb==0)=false:=by simpa using r2
        obtain rfl:B2=true:=by rw[hb];simp[r2]
        clear hb r2;go_wp2_with fail
        all_goals
         go_ret;exact⟨by rw[HV.j];rfl,HO.j⟩
      ·have r3:(gu==0)=false:=by simpa using r1
       obtain rfl:B2=true:=by rw[hb];simp[r1]
       clear hb r1;go_wp2_with fail
       all_goals
        go_ret;exact⟨by rw[HV.j];rfl,HO.j⟩
end Go.Proofs.YtphkconoooeidaaGreatDoor

import Derived.Test.YtphkconoooeidaaGreatDoorCp21
import Derived.Test.YtphkconoooeidaaGreatDoorCp22
set_option maxRecDepth 100000
set_option maxHeartbeats 8000000
set_option linter.unusedVariables false
set_option linter.unusedSimpArgs false
open Go Go.Vx Go.Proofs.Tryz Go.ChangeShapes Go.WideShapes Go.ChangeAt Go.RowKit
namespace Go.Proofs.YtphkconoooeidaaGreatDoor
section
variable {kb mb sb pb qb bb:Nat} {vT:Value} {U V S:Nat->Prop} {w wv w2:World} {K K2:Kn} {F:List (Nat×Obj)}
theorem aA.Gn (h:aA U w kb mb sb pb qb bb F K wv) (hw:aE K) (s1 s2 root:Int) (hr:0<=root/\root<256) (va:Nat) (jC:va<4294967296) (rights:Int) (nY:aj rights) (hg:(aH K.bs K.es (s1,s2)).2=0):
  Zk 63 #[Zp kb,.agg #[Zi s1,Zi s2],Zi root,Zi (va:Int),Zi rights] wv λe w'=>Zr e (Zi (gM K (s1,s2) (aH K.bs K.es (s1,s2)).1 root va rights).2)/\Hid (aA U w kb mb sb pb qb bb F (gM K (s1,s2) (aH K.bs K.es (s1,s2)).1 root va rights).1 w'):=
 h.call (λV vT h=>abG ⟨vT,h⟩ hw s1 s2 root hr va jC rights nY hg)
structure Cq (w:World) (g o:Nat) (s1 s2 root:Int) (va:Nat) (rights:Int):Prop where
 a:w.cell? ⟨g,o,none⟩=some (Zi s1)
 b:w.cell? ⟨g,o+1,none⟩=some (Zi s2)
 r:w.cell? ⟨g,o+2,none⟩=some (Zi root)
 v:w.cell? ⟨g,o+3,none⟩=some (Zu (va:Int))
 t:w.cell? ⟨g,o+4,none⟩=some (Zi rights)
theorem Cq.keep {S:Nat->Prop} {g o:Nat} {s1 s2 root rights:Int} {va:Nat} (h:Cq w g o s1 s2 root va rights) (ho:ae S w w2) (hg:g<w.heap.size) (hS:¬S g):Cq w2 g o s1 s2 root va rights:=
 ⟨(ho.cell (p:=⟨g,o,none⟩) hg hS).trans h.a,(ho.cell (p:=⟨g,o+1,none⟩) hg hS).trans h.b,(ho.cell (p:=⟨g,o+2,none⟩) hg hS).trans h.r,(ho.cell (p:=⟨g,o+3,none⟩) hg hS).trans h.v,(ho.cell (p:=⟨g,o+4,none⟩) hg hS).trans h.t⟩
theorem Jn {P:Int} {os rs:Lp} (hp:fk P os rs) {n:Int} (h:dk os rs (4,n)=true):0<=n/\n<256:=by
 unfold dk at h;rw[if_neg (show¬((4:Int)=9\/(4:Int)=10) from Zd)] at h;have h1:=of_decide_eq_true h;unfold fE at h1;rcases List.mem_append.1 h1 with h1|h1
 ·have:=hp.ok _ h1;have:=hp.p;simp only at*;omega
 ·obtain⟨r,hr,he⟩:=List.mem_map.1 h1;simp only[Prod.mk.injEq] at he;exact absurd he.1 Zd
theorem afu (h:fF U w kb mb sb pb qb bb K) (hw:aE K) (s1 s2 root:Int) (va:Nat) (jC:va<4294967296) (rights:Int) (nY:aj rights) {g o:Nat} (hg:U g) (fW:g<w.heap.size) (hq:Cq w g o s1 s2 root va rights):
  Zk 17 #[Zp kb,.pointer (some ⟨g,o,none⟩)] w λe w'=>Zr e (Zi (bK K ⟨(s1,s2),root,va,rights⟩).2)/\fF U w' kb mb sb pb qb bb (bK K ⟨(s1,s2),root,va,rights⟩).1/\Zn U w w':=by
 obtain⟨ev,jH⟩:=Ze ((bK K ⟨(s1,s2),root,va,rights⟩).2);obtain⟨KF,kn⟩:=Ze ((bK K ⟨(s1,s2),root,va,rights⟩).1);rw[<-jH,<-kn];have da:=aa (⟨jH,kn⟩:_/\_);clear jH kn;obtain⟨u,hu⟩:=Ze ((aH K.bs K.es (s1,s2)).1);obtain⟨eg,gk⟩:=Ze ((aH K.bs K.es (s1,s2)).2);have iS:=aa (⟨hu,gk⟩:_/\_)
 have fS:Hid (∀F wv,aA U w kb mb sb pb qb bb F K wv->Zk 61 #[Zp sb,.agg #[Zi s1,Zi s2]] wv λe w'=>Zr e (.tuple #[bO u,Zi eg])/\Hid (aA U w kb mb sb pb qb bb F K w')):=λF wv h=>by
  rw[hu,gk];exact h.get (s1,s2)
 have Uw:Hid (∀F wv,aA U w kb mb sb pb qb bb F K wv->Cq wv g o s1 s2 root va rights):=λF wv h=>hq.keep h.o fW (λh9=>h9 hg)
 have aK:Hid (∀F wv,aA U w kb mb sb pb qb bb F K wv->Zc wv kb 1 (Zp sb)/\Zc wv g o (Zi s1)/\Zc wv g (o+1) (Zi s2)):=λF wv h=>⟨h.c.2.1,(Uw.j _ _ h).a,(Uw.j _ _ h).b⟩
 have EY:Hid (∀F K2 wv,aA U w kb mb sb pb qb bb F K2 wv->wv.cell? ⟨g,o,none⟩=some (Zi s1)/\wv.cell? ⟨g,o+1,none⟩=some (Zi s2)/\wv.cell? ⟨g,o+2,none⟩=some (Zi root)/\wv.cell? ⟨g,o+3,none⟩=some (Zu (va:Int))/\wv.cell? ⟨g,o+4,none⟩=some (Zi rights)):=λF K2 wv h=>by
  have h9:=hq.keep h.o fW (λh9=>h9 hg);exact⟨h9.a,h9.b,h9.r,h9.v,h9.t⟩
 have H2:=aa (aA.start h);obtain⟨F,hF⟩:∃F:List (Nat×Obj),F=[]:=⟨_,rfl⟩
 rw[<-hF] at H2;have HW:=aa hw;clear h hw hu gk hF hq;go_enter func17,ntmps17;go_upto_region 1 with fail
 go_cut [5,6] from 8 to 19 (λc7 c8 wx=>∃ub,c7=Zp ub/\c8=Zi eg/\Hid (aA U w kb mb sb pb qb bb ((ub,.cells (de u).toArray 97 (0,0))::F) K wx)/\Hid (¬U ub/\∀p∈F,p.1≠ub))
 case first=>
  have cN:=aa H2.j.drew;have af:=aa (aK.j _ _ cN.j);obtain⟨wA,cJ⟩:=Ze ((w.alloc (.cells #[Zi 0,Zi 0,Zi 0,Zu 0,Zu 0,Zi 0,Zi 0,Zu 0] 97)).drew);obtain⟨ub,bh⟩:=Ze (w.heap.size);have gU:Hid (aA U w kb mb sb pb qb bb ((ub,.cells qY.toArray 97 (0,0))::F) K wA):=by rw[cJ,bh];exact(H2.j.alloc _).drew
  have eT:=aa (aK.j _ _ gU.j);have bG:Hid (¬U ub/\∀p∈F,p.1≠ub):=⟨λhu=>by have:=H2.j.low ub hu;omega,λp hp he=>by have:=au (H2.j.f p hp);omega⟩
  refine qg (S:=(λwv=>wv.cell? ⟨kb,1,none⟩=some (Zp sb)/\wv.cell? ⟨g,o,none⟩=some (Zi s1)/\wv.cell? ⟨g,o+1,none⟩=some (Zi s2))) Zx ?_;simp only[List.size_toArray,List.length_cons,List.length_nil,Nat.zero_add,Nat.reduceAdd];refine Zt 0 af.j ?_;refine Zt 1 af.j ?_;refine Zt 2 af.j ?_;refine Zt 3 af.j ?_;refine Zt 4 af.j ?_;refine Zt 5 af.j ?_;refine Zt 6 af.j ?_;refine Zt 7 af.j ?_;refine wpAnyH_ready (rs:=[8,12]) Zx (by simp) ?_;refine(AllReadyH.cons Zg (λK hK=>?_) (AllReadyH.cons Zg (λK hK=>?_) AllReadyH.nil))
  ·as_aux_lemma=>
    refine jy rfl 61 #[Operand.tmp 12,Operand.tmp 16] #[56,95] rfl #[Zp sb,.agg #[Zi s1,Zi s2]] (by first|rfl|simp[Act.eval,go_sem]) (by simp[go_sem]) (fS.j _ _ cN.j) ?_;rintro e w3 ⟨rfl,H3⟩;have aw:=aa (aK.j _ _ H3.j);clear bh cJ gU eT bG;obtain⟨ub,bh⟩:=Ze (w3.heap.size);obtain⟨wB,fU⟩:=Ze (w3.alloc (.cells #[Zi 0,Zi 0,Zi 0,Zu 0,Zu 0,Zi 0,Zi 0,Zu 0] 97));have fp:=aa (H3.j.alloc (.cells #[Zi 0,Zi 0,Zi 0,Zu 0,Zu 0,Zi 0,Zi 0,Zu 0] 97 (0,0)));rw[<-fU,<-bh] at fp;have mQ:=aa (aK.j _ _ fp.j);have bG:Hid (¬U ub/\∀p∈F,p.1≠ub):=⟨λhu=>by have:=H3.j.low ub hu;omega,λp hp he=>by have:=au (H3.j.f p hp);omega⟩
    have bJ:=aa (yT fp.j u bG.j.1 bG.j.2);have dw:=aa (aK.j _ _ bJ.j);have gq:=aa (fp.j.at List.mem_cons_self);refine⟨_,rfl,?_⟩;refine Zb hK aw.j ?_;refine Zt 9 aw.j ?_;refine Zt 10 aw.j ?_;refine Zt 11 aw.j ?_;refine Zy 12 (λK hK=>?_);go_simp;rw[<-fU,<-bh];clear fU bh;refine Zb hK mQ.j ?_;refine Zy 13 (λK hK=>?_);refine qk (.tmp 5) (.tmp 18) rfl rfl (u:=u) (ub:=ub) (by simp[Act.eval]) (by simp[Act.eval,bO,de]) gq.j ?_;refine Zb hK dw.j ?_;refine Zt 14 dw.j ?_;refine wpAnyH_done Zx ?_ _;go_wp2_with fail;go_meet;exact⟨_,rfl,rfl,bJ.j,bG.j⟩
  ·as_aux_lemma=>
    go_simp;rw[<-cJ,<-bh];clear cJ bh;refine Zb hK eT.j ?_;refine Zy 8 (λK hK=>?_);refine jy rfl 61 #[Operand.tmp 12,Operand.tmp 16] #[56,95] rfl #[Zp sb,.agg #[Zi s1,Zi s2]] (by first|rfl|simp[Act.eval,go_sem]) (by simp[go_sem]) (fS.j _ _ gU.j) ?_;rintro e w3 ⟨rfl,H3⟩;have aw:=aa (aK.j _ _ H3.j);have bJ:=aa (yT H3.j u bG.j.1 bG.j.2);have dw:=aa (aK.j _ _ bJ.j);have gq:=aa (H3.j.at List.mem_cons_self);refine⟨_,rfl,?_⟩;refine Zb hK aw.j ?_;refine Zt 9 aw.j ?_;refine Zt 10 aw.j ?_;refine Zt 11 aw.j ?_;refine Zy 13 (λK hK=>?_);refine qk (.tmp 5) (.tmp 18) rfl rfl (u:=u) (ub:=ub) (by simp[Act.eval]) (by simp[Act.eval,bO,de]) gq.j ?_;refine Zb hK dw.j ?_;refine Zt 14 dw.j ?_;refine wpAnyH_done Zx ?_ _;go_wp2_with fail;go_meet;exact⟨_,rfl,rfl,bJ.j,bG.j⟩
 case rest=>
  obtain⟨ub,rfl,rfl,H4,ua⟩:=hcut;clear H2 fS aK;obtain⟨⟨d0,d1,d2,d3,d4,d5,d6,d7⟩,_⟩:=eL (show wc.heap[ub]?=some (.cells #[Zi u.kind,Zi u.num,Zi u.rights,Zu u.cQ,Zu u.guard,Zi u.bS,Zi u.root,Zu u.va] 97 (0,0)) from H4.j.at List.mem_cons_self);by_cases e0:eg=0
  ·by_cases hk:u.kind≠2/\u.kind≠3
   ·have HE:Hid (ev=12/\KF=K):=by
     have h9:=da.j;unfold bK at h9;dsimp only at h9;rw[<-iS.j.1,<-iS.j.2,if_pos e0,if_pos hk] at h9;exact h9
    have k2:(u.kind !=2)=true:=by simpa using hk.1
    have k3:(u.kind !=3)=true:=by simpa using hk.2
    subst e0;clear da hk;go_wp2_with fail
    all_goals
     go_ret;exact⟨by rw[HE.j.1];rfl,by rw[HE.j.2];exact H4.j.fin⟩
   ·obtain⟨q0,q1,q2,q3,q4⟩:=EY.j _ _ _ H4.j;have gH:=aa (H4.j.alive HW.j.p 4 root);have HK:=aa hk;have oE:=aa e0;subst e0;obtain⟨kb2,aej⟩:=Ze (((u.kind !=2)&&(u.kind !=3)));have mC:u.kind=2\/u.kind=3:=Zo;clear hk aej;have mR:=aa mC;rcases mC with mC|mC
    ·have b2:(u.kind !=2)=false:=by simpa using mC
     clear mC;go_wp2_with fail;refine gH.j.m ?_;rintro e w6 ⟨rfl,H6⟩;clear q0 q1 q2 q3 q4 d0 d1 d2 d3 d4 d5 d6 d7
     cases nG:dk K.os K.rs (4,root) with
     |false=>
      have HE:Hid (ev=6/\KF=K):=by
       have h9:=da.j;unfold bK at h9;dsimp only at h9;rw[<-iS.j.1,<-iS.j.2,if_pos rfl,if_neg HK.j,if_pos nG] at h9;exact h9
      clear da nG;go_wp2_with fail
      all_goals
       go_ret
       exact⟨by rw[HE.j.1];rfl,by rw[HE.j.2];exact H6.j.fin⟩
     |true=>
      have HE:Hid (ev=(gM K (s1,s2) (aH K.bs K.es (s1,s2)).1 root va rights).2/\KF=(gM K (s1,s2) (aH K.bs K.es (s1,s2)).1 root va rights).1):=by
       have h9:=da.j;unfold bK at h9;dsimp only at h9;rw[if_pos iS.j.2.symm,if_neg (by rw[<-iS.j.1];exact HK.j),if_neg (by rw[nG];decide)] at h9;exact h9
      have E7:=aa (H6.j.drew.Gn HW.j s1 s2 root (Jn HW.j.p nG) va jC rights nY iS.j.2.symm);have af:=aa (EY.j _ _ _ H6.j.drew);have ak:=af;have GH:=Zh (va:Int) Zo;rw[<-HE.j.1,<-HE.j.2] at E7;clear da nG;go_upto_region 9 with fail
      go_region_held3 (λwv=>Zc wv g o (Zi s1)/\Zc wv g (o+1) (Zi s2)/\Zc wv g (o+2) (Zi root)/\Zc wv g (o+3) (Zu (va:Int))/\Zc wv g (o+4) (Zi rights)) (with_reducible (first|exact af.j|exact ak.j)) (first|(go_at_call 63;refine E7.j.m ?_;rintro e w7 ⟨rfl,H7⟩;have ak:=aa (EY.j _ _ _ H7.j)));go_wp2_with fail
      all_goals
       go_ret;exact⟨rfl,H7.j.fin⟩
    ·have b2:(u.kind !=2)=true:=by simp[mC]
     have b3:(u.kind !=3)=false:=by simpa using mC
     clear mC;go_wp2_with fail;refine gH.j.m ?_;rintro e w6 ⟨rfl,H6⟩;clear q0 q1 q2 q3 q4 d0 d1 d2 d3 d4 d5 d6 d7
     cases nG:dk K.os K.rs (4,root) with
     |false=>
      have HE:Hid (ev=6/\KF=K):=by
       have h9:=da.j;unfold bK at h9;dsimp only at h9;rw[<-iS.j.1,<-iS.j.2,if_pos rfl,if_neg HK.j,if_pos nG] at h9;exact h9
      clear da nG;go_wp2_with fail
      all_goals
       go_ret
       exact⟨by rw[HE.j.1];rfl,by rw[HE.j.2];exact H6.j.fin⟩
     |true=>
      have HE:Hid (ev=(gM K (s1,s2) (aH K.bs K.es (s1,s2)).1 root va rights).2/\KF=(gM K (s1,s2) (aH K.bs K.es (s1,s2)).1 root va rights).1):=by
       have h9:=da.j;unfold bK at h9;dsimp only at h9;rw[if_pos iS.j.2.symm,if_neg (by rw[<-iS.j.1];exact HK.j),if_neg (by rw[nG];decide)] at h9;exact h9
      have E7:=aa (H6.j.drew.Gn HW.j s1 s2 root (Jn HW.j.p nG) va jC rights nY iS.j.2.symm);have af:=aa (EY.j _ _ _ H6.j.drew);have ak:=af;have GH:=Zh (va:Int) Zo;rw[<-HE.j.1,<-HE.j.2] at E7;clear da nG;go_upto_region 9 with fail
      go_region_held3 (λwv=>Zc wv g o (Zi s1)/\Zc wv g (o+1) (Zi s2)/\Zc wv g (o+2) (Zi root)/\Zc wv g (o+3) (Zu (va:Int))/\Zc wv g (o+4) (Zi rights)) (with_reducible (first|exact af.j|exact ak.j)) (first|(go_at_call 63;refine E7.j.m ?_;rintro e w7 ⟨rfl,H7⟩;have ak:=aa (EY.j _ _ _ H7.j)));go_wp2_with fail
      all_goals
       go_ret;exact⟨rfl,H7.j.fin⟩
  ·have HE:Hid (ev=eg/\KF=K):=by
    have h9:=da.j;unfold bK at h9;dsimp only at h9;rw[<-iS.j.2,if_neg e0] at h9;exact h9
   have eb:(eg !=0)=true:=by simpa using e0
   clear da e0;go_wp2_with fail
   all_goals
    go_ret;exact⟨by rw[HE.j.1];rfl,by rw[HE.j.2];exact H4.j.fin⟩
end
section
variable {U V S:Nat->Prop} {w w2:World}
def PG (x:Int×Int×Int):List Value:=[Zi x.1,Zi x.2.1,Zi x.2.2]
def TE (x:Int×List UInt8):List Value:=[Zi x.1,fG x.2]
def PU (x:Mp):List Value:=[Zi x.at'.1,Zi x.at'.2,Zi x.root,Zu (x.va:Int),Zi x.rights]
def jx (x:Tc):List Value:=[Zi x.num,Zi x.bT,Zi x.prio,.bool x.qp]++(jQ .u32 x.rg++[Zu x.pc])
def Qn (x:Int×Int×Int):List Value:=[Zi x.1,Zi x.2.1,Zu x.2.2]
def oN:Lay (Int×Int×Int):=⟨PG,3,λ_=>rfl,λt u hu=>by
 simp only[PG,List.mem_cons,List.not_mem_nil,or_false] at hu
 rcases hu with rfl|rfl|rfl<;>rfl,Zd⟩
def mJ:Lay (Int×List UInt8):=⟨TE,2,λ_=>rfl,λt u hu=>by
 simp only[TE,List.mem_cons,List.not_mem_nil,or_false] at hu
 rcases hu with rfl|rfl<;>rfl,Zd⟩
def pM:Lay Mp:=⟨PU,5,λ_=>rfl,λt u hu=>by
 simp only[PU,List.mem_cons,List.not_mem_nil,or_false] at hu
 rcases hu with rfl|rfl|rfl|rfl|rfl<;>rfl,Zd⟩
def mU:Lay Tc:=⟨jx,37,λt=>by simp[jx,rh],λt u hu=>by
 rcases List.mem_append.1 hu with hu|hu
 ·simp only[List.mem_cons,List.not_mem_nil,or_false] at hu;rcases hu with rfl|rfl|rfl|rfl<;>rfl
 ·rcases List.mem_append.1 hu with hu|hu
  ·exact FY _ _ u hu
  ·rw[List.mem_singleton] at hu;rw[hu];rfl,Zd⟩
def pN:Lay (Int×Int×Int):=⟨Qn,3,λ_=>rfl,λt u hu=>by
 simp only[Qn,List.mem_cons,List.not_mem_nil,or_false] at hu
 rcases hu with rfl|rfl|rfl<;>rfl,Zd⟩
def il {α:Type} (L:Lay α) (w:World) (v:Value) (xs:List α):Prop:=∃p c,v=.slice p xs.length c/\(xs.length<=c/\c<=maxLen)/\∀(k:Nat) (hk:k<xs.length),∃g o,p=some ⟨g,o,none⟩/\g<w.heap.size/\∀j,j<L.sz->w.cell? ⟨g,o+k*L.sz+j,none⟩=(L.cf xs[k])[j]?
theorem il.keep {α:Type} {L:Lay α} {v:Value} {xs:List α} (h:il L w v xs) (ho:Zq w w2):il L w2 v xs:=by
 obtain⟨p,c,h1,h2,h3⟩:=h;refine⟨p,c,h1,h2,λk hk=>?_⟩;obtain⟨g,o,h4,h5,h6⟩:=h3 k hk;have:=ho.size;exact⟨g,o,h4,Zo,λj hj=>(ho.cell (p:=⟨g,_,none⟩) h5 (λh=>h)).trans (h6 j hj)⟩
structure kv {α:Type} (L:Lay α) (w:World) (g o:Nat) (xs:List α):Prop where
 gl:g<w.heap.size
 c:∀(k:Nat) (hk:k<xs.length) (j:Nat),j<L.sz->w.cell? ⟨g,o+k*L.sz+j,none⟩=(L.cf xs[k])[j]?
theorem kv.keep {α:Type} {L:Lay α} {g o:Nat} {xs:List α} {S:Nat->Prop} (h:kv L w g o xs) (ho:ae S w w2) (hS:¬S g):kv L w2 g o xs:=⟨Nat.lt_of_lt_of_le h.gl ho.size,λk hk j hj=>(ho.cell (p:=⟨g,_,none⟩) h.gl hS).trans (h.c k hk j hj)⟩
theorem il.rw {α:Type} {L:Lay α} {v:Value} {xs:List α} (h:il L w v xs):∃p c,v=.slice p xs.length c/\(xs.length<=c/\c<=maxLen)/\(0<xs.length->∃g o,p=some ⟨g,o,none⟩/\kv L w g o xs):=by
 obtain⟨p,c,h1,h2,h3⟩:=h;refine⟨p,c,h1,h2,λh4=>?_⟩;obtain⟨g,o,h5,h6,_⟩:=h3 0 h4;refine⟨g,o,h5,h6,λk hk=>?_⟩;obtain⟨g2,o2,h7,_,h8⟩:=h3 k hk;rw[h5] at h7;injection h7 with h7
 injection h7 with h7 h9
 subst h7 h9;exact h8
theorem il.tu {p:Option Addr} {n c:Nat} {xs:Lp} (h:il aJ w (.slice p n c) xs):n=xs.length/\n<=c/\c<=maxLen/\pj w p xs:=by
 obtain⟨p2,c2,h1,h2,h3⟩:=h.rw;injection h1 with h4 h5 h6
 subst h4 h5 h6;refine⟨rfl,h2.1,h2.2,?_⟩;by_cases h0:xs=[]
 ·exact Or.inl h0
 ·obtain⟨g,o,h7,h8⟩:=h3 (List.length_pos_iff.2 h0);exact Or.inr ⟨g,o,h7,λj hj=>⟨(h8.c j hj 0 Zd).trans rfl,(h8.c j hj 1 Zd).trans rfl⟩⟩
structure vu (w:World) (vt vo vb vc vm vr vi:Value) (S:Sk):Prop where
 ts:il aJ w vt S.ts
 ob:il oN w vo S.ob
 cP:il mJ w vb S.cP
 cp:il dP w vc S.cp
 mp:il pM w vm S.mp
 th:il mU w vr S.th
 iq:il pN w vi S.iq
theorem vu.keep {vt vo vb vc vm vr vi:Value} {S:Sk} (h:vu w vt vo vb vc vm vr vi S) (ho:Zq w w2):vu w2 vt vo vb vc vm vr vi S:=⟨h.ts.keep ho,h.ob.keep ho,h.cP.keep ho,h.cp.keep ho,h.mp.keep ho,h.th.keep ho,h.iq.keep ho⟩
def spC (n:Int) (c:Nat) (vt vo vb vc vm vr vi:Value):List Value:=[Zi n,vt,Zu (c:Int),vo,vb,vc,vm,vr,vi]
theorem kv.ob {g o:Nat} {xs:List (Int×Int×Int)} (h:kv oN w g o xs) {k:Nat} (hk:k<xs.length):w.cell? ⟨g,o+k*3,none⟩=some (Zi xs[k].1)/\w.cell? ⟨g,o+k*3+1,none⟩=some (Zi xs[k].2.1)/\w.cell? ⟨g,o+k*3+2,none⟩=some (Zi xs[k].2.2):=⟨(h.c k hk 0 Zd).trans rfl,(h.c k hk 1 Zd).trans rfl,(h.c k hk 2 Zd).trans rfl⟩
theorem kv.cP {g o:Nat} {xs:List (Int×List UInt8)} (h:kv mJ w g o xs) {k:Nat} (hk:k<xs.length):w.cell? ⟨g,o+k*2,none⟩=some (Zi xs[k].1)/\w.cell? ⟨g,o+k*2+1,none⟩=some (fG xs[k].2):=⟨(h.c k hk 0 Zd).trans rfl,(h.c k hk 1 Zd).trans rfl⟩
theorem kv.cp {g o:Nat} {xs:List En} (h:kv dP w g o xs) {k:Nat} (hk:k<xs.length):Fp w g (o+k*12) xs[k]:=λj hj=>h.c k hk j hj
theorem kv.mp {g o:Nat} {xs:List Mp} (h:kv pM w g o xs) {k:Nat} (hk:k<xs.length):Cq w g (o+k*5) xs[k].at'.1 xs[k].at'.2 xs[k].root xs[k].va xs[k].rights:=⟨(h.c k hk 0 Zd).trans rfl,(h.c k hk 1 Zd).trans rfl,(h.c k hk 2 Zd).trans rfl,(h.c k hk 3 Zd).trans rfl,(h.c k hk 4 Zd).trans rfl⟩
theorem N9 (x:Tc) {r:Nat} (hr:r<32):(jx x)[4+r]?=some (Zu (x.rg r)):=by
 show([_,_,_,_]++(jQ .u32 x.rg++_))[4+r]?=_;rw[List.getElem?_append_right (by simp),List.getElem?_append_left (by simp[rh];omega)];have:4+r - [Value.int .i64 x.num,Zi x.bT,Zi x.prio,.bool x.qp].length=r:=by simp
 rw[this,OR _ _ hr]
theorem kv.th {g o:Nat} {xs:List Tc} (h:kv mU w g o xs) {k:Nat} (hk:k<xs.length):EA w g (o+k*37) xs[k]:=⟨(h.c k hk 0 Zd).trans rfl,(h.c k hk 1 Zd).trans rfl,(h.c k hk 2 Zd).trans rfl,(h.c k hk 3 Zd).trans rfl,λr hr=>by
 have:=h.c k hk (4+r) (by show 4+r<37;omega);rw[<-Nat.add_assoc] at this
 exact this.trans (N9 _ hr),(h.c k hk 36 Zd).trans rfl⟩
theorem kv.iq {g o:Nat} {xs:List (Int×Int×Int)} (h:kv pN w g o xs) {k:Nat} (hk:k<xs.length):w.cell? ⟨g,o+k*3,none⟩=some (Zi xs[k].1)/\w.cell? ⟨g,o+k*3+1,none⟩=some (Zi xs[k].2.1)/\w.cell? ⟨g,o+k*3+2,none⟩=some (Zu xs[k].2.2):=⟨(h.c k hk 0 Zd).trans rfl,(h.c k hk 1 Zd).trans rfl,(h.c k hk 2 Zd).trans rfl⟩
end
end Go.Proofs.YtphkconoooeidaaGreatDoor
